/-
  The law PatternUnpacks.
-/
import Derived.Test.YtfjfnbeegojlbaaRUn
import Derived.Test.YtfjfnbeegojlbaaPSame
import Derived.Test.YtfjfnbeegojlbaaAppZ
namespace Go.Proofs.Ytfjfnbeegojlbaa
open Go.RowKit

theorem packL_le {r : Int} {l : List Pt.Cl} {ch : Int} (h : Pt.vpat r l ch = true) : (Pt.packL l r.toNat ch.toNat).length ≤ 10304 := by
  obtain ⟨R, C, rfl, rfl, g1, g2, g3, g4, g5, g6⟩ := Pt.vpat_nat h
  have a2 := Pt.pkY_bs l C g4 R
  show (Pt.pkY l C R).bs.length ≤ _
  omega
namespace Pt
theorem bys_two {a b : List Int} (ha : bys a) (hb : bys b) : bys (a ++ b) := fun x hx => (List.mem_append.1 hx).elim (ha x) (hb x)
theorem pst_bys {c : Cl} (hc : vcl c = true) (la : Cl) : ∀ k, bys (pst c la k).bs
  | 0 => fun x hx => by simp [pst] at hx
  | k + 1 => by
    have ih := pst_bys hc la k
    cases hs : isSet (pv k c) with
    | false => rw [pst_unset hs]; exact ih
    | true =>
      by_cases h : pv k c = pv k (pst c la k).la
      · rw [pst_same hs h]; exact ih
      · rw [pst_new hs h]
        refine bys_two ih fun x hx => ?_
        have hx2 : x ∈ [(pv k c).1, (pv k c).2] := List.mem_of_mem_take hx
        have hb := vcl_bytes hc k
        simp at hx2
        rcases hx2 with rfl | rfl <;> omega
theorem pkC_bys {x : Nat} {c : Cl} {q : Pq} (hx : x < 255) (hc : vcl c = true) (hq : bys q.bs) : bys (pkC x c q).bs := by
  unfold pkC
  split
  · exact hq
  · refine bys_two hq fun y hy => ?_
    rcases List.mem_cons.1 hy with rfl | hy
    · omega
    · rcases List.mem_cons.1 hy with rfl | hy
      · have := pst_m c (at' q.ls x) 4 (by omega)
        omega
      · exact pst_bys hc _ 4 y hy
theorem pkX_bys {l : List Cl} {C y : Nat} {q : Pq} (hl : ∀ k, k < C → vcl (at' l (y * C + k)) = true) (hq : bys q.bs) (hC : C ≤ 16) : ∀ x, x ≤ C → bys (pkX l C y x q).bs
  | 0, _ => hq
  | x + 1, hx => by
    rw [pkX]
    exact pkC_bys (by omega) (hl x (by omega)) (pkX_bys hl hq hC x (by omega))
theorem pkY_bys {l : List Cl} {R C : Nat} (hl : l.length = R * C) (ha : all l = true) (hC : C ≤ 16) : ∀ y, y ≤ R → bys (pkY l C y).bs
  | 0, _ => fun x hx => by simp [pkY] at hx
  | y + 1, hy => by
    rw [pkY]
    refine bys_two (pkX_bys (fun k hk => all_at ha ?_) (pkY_bys hl ha hC y (by omega)) hC C (Nat.le_refl _)) (fun x hx => by simp at hx; omega)
    rw [hl]
    have := Nat.mul_le_mul_right C hy
    rw [Nat.add_mul, Nat.one_mul] at this
    omega
end Pt
theorem packL_bys {r : Int} {l : List Pt.Cl} {ch : Int} (h : Pt.vpat r l ch = true) : Pt.bys (Pt.packL l r.toNat ch.toNat) := by
  obtain ⟨R, C, rfl, rfl, g1, g2, g3, g4, g5, g6⟩ := Pt.vpat_nat h
  exact Pt.pkY_bys g5 g6 g4 R (Nat.le_refl _)
/-- What is unpacked is a pattern that packs into no more bytes than were read. -/
theorem unp_ok {R C : Int} {xs : List Int} (hy : Pt.bys xs) {l : List Pt.Cl} {na : Nat} (h : Pt.unp R C xs = .ok (l, na)) : Pt.vpat R l C = true ∧ (Pt.packL l R.toNat C.toNat).length ≤ na ∧ na ≤ 400000 ∧ Pt.unp R C (Pt.packL l R.toNat C.toNat) = .ok (l, (Pt.packL l R.toNat C.toNat).length) := by
  unfold Pt.unp at h
  by_cases h0 : Pt.eBlank R C = 0
  · rw [if_pos h0] at h
    by_cases h1 : xs.length ≤ 400000
    · rw [if_pos h1] at h
      cases hu : Pt.upk R.toNat C.toNat xs with
      | error e => rw [hu] at h; exact absurd h (by simp [Pt.unE])
      | ok u =>
        rw [hu] at h
        have h : (Except.ok (u.row, xs.length - u.b.length) : Except Int (List Pt.Cl × Nat)) = .ok (l, na) := h
        simp at h
        obtain ⟨rfl, rfl⟩ := h
        have hb : (1 ≤ R ∧ R ≤ 64) ∧ (1 ≤ C ∧ C ≤ 16) := by
          unfold Pt.eBlank at h0
          by_cases a : Pt.wth C 1 16 = true
          · by_cases b : Pt.wth R 1 64 = true
            · exact ⟨Pt.wth_iff.1 b, Pt.wth_iff.1 a⟩
            · simp [a, b] at h0
          · simp [a] at h0
        obtain ⟨r, rfl⟩ : ∃ r : Nat, R = (r : Int) := ⟨R.toNat, by omega⟩
        obtain ⟨c, rfl⟩ : ∃ c : Nat, C = (c : Int) := ⟨C.toNat, by omega⟩
        have hu' : Pt.upk r c xs = .ok u := hu
        obtain ⟨l1, l2, pre, l3, l4⟩ := Pt.upk_ok (by omega) hy hu'
        have hv : Pt.vpat r u.row c = true := Pt.vpat_iff.2 ⟨by omega, by omega, by rw [l1, Int.natCast_mul], l2⟩
        have hle := packL_le hv
        have hxl : xs.length = pre.length + u.b.length := by rw [l3, List.length_append]
        have l4' : (Pt.packL u.row (r : Int).toNat (c : Int).toNat).length ≤ pre.length := l4
        refine ⟨hv, by omega, by omega, ?_⟩
        obtain ⟨ls, hub⟩ := Pt.upk_back l1 l2 []
        rw [List.append_nil] at hub
        have hub' : Pt.upk (r : Int).toNat (c : Int).toNat (Pt.packL u.row (r : Int).toNat (c : Int).toNat) = .ok ⟨u.row, ls, []⟩ := hub
        unfold Pt.unp
        rw [if_pos h0, if_pos (by omega), hub']
        rfl
    · rw [if_neg h1] at h; exact absurd h (by simp)
  · rw [if_neg h0] at h; exact absurd h (by simp)
theorem unpacked {R C : Int} {l : List Pt.Cl} {k n : Nat} (hk : (Pt.packL l R.toNat C.toNat).length = k) (hn : l.length = n) (hv : Pt.vpat R l C = true) (hu : Pt.unp R C (Pt.packL l R.toNat C.toNat) = .ok (l, (Pt.packL l R.toNat C.toNat).length)) (p : Option Addr) (cap : Nat) (u : World) (hi : InB u p (Pt.packL l R.toNat C.toNat)) (hp : ∀ b off, p = some ⟨b, off, none⟩ → b < u.heap.size) :
    Calls Try.prog 19 #[.slice p k cap, .int .i64 R, .int .i64 C] u fun x w' => (∃ q cp, x = .returned (.tuple #[.agg #[.int .i64 R, .slice q n cp], .int .i64 (k : Nat), .int .i64 0]) ∧ CellsAt w' q l) ∧ Below u.heap.size u w' := by
  have h := p_Unpack R C p (Pt.packL l R.toNat C.toNat) cap (by have := packL_le hv; omega) (packL_bys hv) u hi hp
  rw [hu, hk] at h
  refine h.mono fun x w' ⟨⟨q, cp, hx, hc, ho⟩, hb⟩ => ⟨⟨q, cp, ?_, ho.at⟩, hb⟩
  rw [hx, hn]
  rfl
set_option maxRecDepth 100000 in
set_option maxHeartbeats 6400000 in
theorem unpacks_any (p : Option Addr) (xs : List Int) (cap : Nat) (R C : Int) (w : World) (hin : InB w p xs) (hy : Pt.bys xs) (hm : xs.length ≤ maxLen) (hp : ∀ b off, p = some ⟨b, off, none⟩ → b < w.heap.size) :
    Calls Try.prog 5 #[.slice p xs.length cap, .int .i64 R, .int .i64 C] w fun x w' => x = .returned (.bool true) ∧ Below w.heap.size w w' := by
  have hm' : (xs.length : Int) ≤ 9223372036854775807 := by unfold maxLen at hm; omega
  obtain ⟨T, hT⟩ : ∃ T, Pt.unp R C xs = T := ⟨_, rfl⟩
  have CP := Lib.hid (p_Unpack R C p xs cap hm' hy w hin hp)
  have CR := Lib.hid (fun (u : World) (hu : Below w.heap.size w u) => r_Unpack R C p xs cap hm' hy u (hin.below hu) (fun b off e => Nat.lt_of_lt_of_le (hp b off e) hu.size))
  rw [hT] at CP CR
  have HT := Lib.hid hT
  have HY := Lib.hid (show Pt.bys xs ∧ xs.length ≤ maxLen from ⟨hy, hm⟩)
  obtain ⟨n, hn⟩ : ∃ n, xs.length = n := ⟨_, rfl⟩
  have HN := Lib.hid hn
  rw [hn] at CP CR ⊢
  have HP0 := Lib.hid (show ∀ u : World, Pb (u.alloc (.cells #[.int .i64 0, .slice none 0 0] 24)) u.heap.size 0 (.slice none 0 0) from fun u => pb_box _ _ _ _)
  clear hin hy hm hp hT hn hm'
  cases T with
  | error z =>
    have hz : z ≠ 0 := by
      have h := HT.out
      unfold Pt.unp at h
      by_cases h0 : Pt.eBlank R C = 0
      · rw [if_pos h0] at h
        by_cases h1 : xs.length ≤ 400000
        · rw [if_pos h1] at h
          cases hu : Pt.upk R.toNat C.toNat xs with
          | error e =>
            rw [hu] at h
            have h : (Except.error e : Except Int (List Pt.Cl × Nat)) = .error z := h
            simp at h
            subst h
            exact Pt.upk_er hu
          | ok u => rw [hu] at h; exact absurd h (by simp [Pt.unE])
        · rw [if_neg h1] at h
          simp at h
          omega
      · rw [if_neg h0] at h
        simp at h
        omega
    have hzb : (z != 0) = true := by simpa using hz
    have CS := Lib.hid (show ∀ u, Calls Try.prog 11 #[.agg #[.int .i64 0, .slice none 0 0], .agg #[.int .i64 0, .slice none 0 0]] u fun x w' => x = .returned (.bool true) ∧ Below u.heap.size u w' from fun u => p_Same 0 [] none none 0 0 u (.inl rfl) (.inl rfl) (by simp))
    unfold RetN PV at CP CR
    clear hz
    go_enter Try.func5, Try.ntmps5
    go_wp2_with (first | (go_at_call 19; ((with_reducible refine (CP.out).mono ?_); rintro x' w1 ⟨rfl, hb1⟩; have HB1 := Lib.hid hb1; clear hb1)) | ((refine st_pat (by rfl) (.tmp 7) _ rfl rfl rfl (HP0.out w1).2 ?_); intro w2 h2 g2; have H2 := Lib.hid h2; have HB2 := Lib.hid (show Below w.heap.size w w2 from grown_at (stepB HB1.out (below_box _ _)) HB1.out.size (by have := HB1.out.size; simp; omega) g2); clear h2 g2) | (go_at_call 20; ((with_reducible refine (CR.out _ HB2.out).mono ?_); rintro x' w3 ⟨rfl, hb3⟩; have HB3 := Lib.hid hb3; clear hb3)) | ((refine st_pat (by rfl) (.tmp 10) _ rfl rfl rfl (HP0.out w3).2 ?_); intro w4 h4 g4; have H4 := Lib.hid h4; have HB4 := Lib.hid (show Below w.heap.size w w4 from grown_at (stepB (stepB HB2.out HB3.out) (below_box _ _)) (by have := HB2.out.size; have := HB3.out.size; omega) (by have := HB2.out.size; have := HB3.out.size; simp; omega) g4); have H24 := Lib.hid (show Pb w4 w1.heap.size 0 (.slice none 0 0) from ((H2.out.kept HB3.out).kept (below_box _ _)).grown g4 (by have := (H2.out.kept HB3.out).lt; omega)); clear h4 g4) | (refine ld_pat (by rfl) (.tmp 7) rfl rfl H24.out.1 ?_) | (refine ld_pat (by rfl) (.tmp 10) rfl rfl H4.out.1 ?_) | (go_at_call 11; ((with_reducible refine (CS.out _).mono ?_); rintro x' w5 ⟨rfl, hb5⟩; have HB5 := Lib.hid hb5; clear hb5)) | (go_at_call 8; ((with_reducible refine (p_awake _).mono ?_); rintro x' w6 ⟨rfl, hb6⟩)))
    go_ret
    exact ⟨rfl, stepB HB4.out (stepB HB5.out hb6)⟩
  | ok u =>
    obtain ⟨l, na⟩ := u
    obtain ⟨hv, hle, hna, hub⟩ := unp_ok HY.out.1 HT.out
    obtain ⟨k, hk⟩ : ∃ k, (Pt.packL l R.toNat C.toNat).length = k := ⟨_, rfl⟩
    have hk2 := packL_le hv
    obtain ⟨m, hlm⟩ : ∃ m, l.length = m := ⟨_, rfl⟩
    have hm1 : m ≤ 1024 := by
      obtain ⟨r, c, rfl, rfl, g1, g2, g3, g4, g5, g6⟩ := Pt.vpat_nat hv
      have := Pt.rc_bound g2 g4
      omega
    have CU := Lib.hid (fun (q : Option Addr) (cp : Nat) (u : World) hi hp => unpacked hk hlm hv hub q cp u hi hp)
    have CK := Lib.hid (fun (q : Option Addr) (cp : Nat) (u : World) (hc : CellsAt u q l) (hcp : m ≤ cp) => p_Pack R l q cp C u hc (by rw [hlm]; exact hcp))
    rw [hv] at CK
    simp only [if_true] at CK
    have CS := Lib.hid (fun (q q2 : Option Addr) (cp cp2 : Nat) (u : World) (h1 : CellsAt u q l) (h2 : CellsAt u q2 l) => p_Same R l q q2 cp cp2 u h1 h2 (by omega))
    have HK := Lib.hid hk
    rw [hlm] at CK CS
    unfold PV at CS CK
    unfold RetN PV at CP CR
    simp only [hlm] at CP CR
    have hkn : (k : Int) ≤ (na : Int) := by omega
    clear hv hle hna hub hk hk2 hlm hm1
    go_enter Try.func5, Try.ntmps5
    go_upto_region 2 with (first | (go_at_call 19; ((with_reducible refine (CP.out).mono ?_); rintro x' w1 ⟨⟨q, cp, rfl, hc1, ho1⟩, hb1⟩; have HB1 := Lib.hid hb1; have HC1 := Lib.hid hc1; have HO1 := Lib.hid (ho1.at); clear hb1 hc1 ho1)) | ((refine st_pat (by rfl) (.tmp 7) _ rfl rfl rfl (HP0.out w1).2 ?_); intro w2 h2 g2; have H2 := Lib.hid h2; have HB2 := Lib.hid (show Below w1.heap.size w1 w2 from grown_at (below_box _ _) (Nat.le_refl _) (by simp) g2); clear h2 g2))
    obtain ⟨b7, hb7⟩ : ∃ b7, b7 = w1.heap.size := ⟨_, rfl⟩
    rw [← hb7] at H2 ⊢
    have HBW2 := Lib.hid (stepB HB1.out HB2.out)
    have HO2 := Lib.hid (HO1.out.below HB2.out)
    clear hb7
    go_upto_region 3 with (first | (go_at_call 20; ((with_reducible refine (CR.out _ HBW2.out).mono ?_); rintro x' w3 ⟨⟨q2, cp2, rfl, hc3, ho3⟩, hb3⟩; have HB3 := Lib.hid hb3; have HO3 := Lib.hid ho3.at; clear hb3 hc3 ho3)) | ((refine st_pat (by rfl) (.tmp 10) _ rfl rfl rfl (HP0.out w3).2 ?_); intro w4 h4 g4; have H4 := Lib.hid h4; have HB4 := Lib.hid (show Below w3.heap.size w3 w4 from grown_at (below_box _ _) (Nat.le_refl _) (by simp) g4); clear h4 g4))
    obtain ⟨b10, hb10⟩ : ∃ b10, b10 = w3.heap.size := ⟨_, rfl⟩
    rw [← hb10] at H4 ⊢
    have HB24 := Lib.hid (stepB HB3.out HB4.out)
    have HBW4 := Lib.hid (stepB HBW2.out HB24.out)
    have HO4 := Lib.hid (HO2.out.below HB24.out)
    have HQ4 := Lib.hid (HO3.out.below HB4.out)
    have H74 := Lib.hid (H2.out.kept HB24.out)
    clear hb10
    go_upto_region 8 with (first | (refine ld_pat (by rfl) (.tmp 7) rfl rfl H74.out.1 ?_) | (refine ld_pat (by rfl) (.tmp 10) rfl rfl H4.out.1 ?_) | (go_at_call 11; (with_reducible refine (CS.out _ _ _ _ _ HO4.out HQ4.out).mono ?_); rintro x' w5 ⟨rfl, hb5⟩; have HB5 := Lib.hid hb5; have H75 := Lib.hid (H74.out.kept hb5); have HO5 := Lib.hid (HO4.out.below hb5); clear hb5) | (refine ld_pat (by rfl) (.tmp 7) rfl rfl H75.out.1 ?_) | (go_at_call 16; (with_reducible refine (CK.out _ _ _ HO5.out HC1.out).mono ?_); rintro x' w6 ⟨⟨v6, rfl, hv6⟩, hb6⟩; have HB6 := Lib.hid hb6; have HV6 := Lib.hid hv6; clear hb6 hv6))
    obtain ⟨p6, c6, hp6⟩ := HV6.out.slice
    rw [HK.out] at hp6
    subst hp6
    have HI6 := Lib.hid HV6.out.inb
    have HBW6 := Lib.hid (stepB HBW4.out (stepB HB5.out HB6.out))
    have H76 := Lib.hid (H75.out.kept HB6.out)
    have HO6 := Lib.hid (HO5.out.below HB6.out)
    go_upto_region 9 with (first | (go_at_call 19; (with_reducible refine (CU.out _ _ _ HI6.out.2.1 HI6.out.2.2).mono ?_); rintro x' w7 ⟨⟨q7, cp7, rfl, ho7⟩, hb7⟩; have HB7 := Lib.hid hb7; have HO7 := Lib.hid ho7; clear hb7 ho7) | ((refine st_pat (by rfl) (.tmp 14) _ rfl rfl rfl (HP0.out w7).2 ?_); intro w8 h8 g8; have H8 := Lib.hid h8; have HB8 := Lib.hid (show Below w7.heap.size w7 w8 from grown_at (below_box _ _) (Nat.le_refl _) (by simp) g8); clear h8 g8))
    obtain ⟨b14, hb14⟩ : ∃ b14, b14 = w7.heap.size := ⟨_, rfl⟩
    rw [← hb14] at H8 ⊢
    have HB68 := Lib.hid (stepB HB7.out HB8.out)
    have HBW8 := Lib.hid (stepB HBW6.out HB68.out)
    have H78 := Lib.hid (H76.out.kept HB68.out)
    have HO8 := Lib.hid (HO6.out.below HB68.out)
    have HQ8 := Lib.hid (HO7.out.below HB8.out)
    clear hb14
    go_wp2_with (first | (refine ld_pat (by rfl) (.tmp 7) rfl rfl H78.out.1 ?_) | (refine ld_pat (by rfl) (.tmp 14) rfl rfl H8.out.1 ?_) | (go_at_call 11; (with_reducible refine (CS.out _ _ _ _ _ HO8.out HQ8.out).mono ?_); rintro x' w9 ⟨rfl, hb9⟩; have HB9 := Lib.hid hb9; clear hb9) | (go_at_call 8; ((with_reducible refine (p_awake _).mono ?_); rintro x' w10 ⟨rfl, hb10⟩)))
    go_ret
    exact ⟨rfl, stepB HBW8.out (stepB HB9.out hb10)⟩
end Go.Proofs.Ytfjfnbeegojlbaa
