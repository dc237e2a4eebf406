/-
  Package pattern's Copy.
-/
import Derived.Test.YtfjfnbeegojlbaaGreatGa
import Derived.Deep.RegionHeld3
namespace Go.Proofs.YtfjfnbeegojlbaaGreat
open Go.RowKit

namespace Pt
def okI (e v : Int) : Int := if e = 0 then v else 0
def okL (e : Int) (l : List Cl) : List Cl := if e = 0 then l else []
end Pt
theorem onB {P : Program} {f : FuncId} {args : Array Value} {W w : World} {e0 : Ending} (hb : Below W.heap.size W w)
    (h : Calls P f args w fun x w' => x = e0 ∧ Below w.heap.size w w') : Calls P f args w fun x w' => x = e0 ∧ Below W.heap.size W w' :=
  h.mono fun _ _ ⟨he, hw⟩ => ⟨he, hb.trans (hw.mono hb.size)⟩
/-- Copied so far: k rows. -/
def cpTo (l : List Pt.Cl) (ch r c h w : Nat) (k : Nat) (L : List Pt.Cl) : Prop := L.length = h * w ∧ ∀ j, j < h * w → Pt.at' L j = if j / w < k then Pt.at' l ((r + j / w) * ch + (c + j % w)) else Pt.zc
theorem cp_step {l : List Pt.Cl} {ch r c h w k : Nat} {L m : List Pt.Cl} (hL : cpTo l ch r c h w k L) (hm : (l.drop ((r + k) * ch + c)).take w = m) (hw : m.length = w) (hk : k < h) (h1 : 1 ≤ w) : cpTo l ch r c h w (k + 1) (lay L (k * w) m) := by
  have hb : k * w + m.length ≤ L.length := by
    have := Nat.mul_le_mul_right w (show k + 1 ≤ h from hk)
    rw [Nat.add_mul, Nat.one_mul] at this
    rw [hw, hL.1]
    exact this
  refine ⟨by rw [lay_len hb, hL.1], fun j hj => ?_⟩
  rw [lay_at hb, hw, hL.2 j hj]
  have e1 : j / w < k ↔ j < k * w := Nat.div_lt_iff_lt_mul h1
  have e2 : j / w < k + 1 ↔ j < k * w + w := by rw [Nat.div_lt_iff_lt_mul h1, Nat.add_mul, Nat.one_mul]
  by_cases a1 : j < k * w
  · rw [if_neg (by omega), if_pos (e1.2 a1), if_pos (e2.2 (by omega))]
  · by_cases a2 : j < k * w + w
    · rw [if_pos ⟨by omega, a2⟩, if_pos (e2.2 a2)]
      have e3 : j / w = k := by have := e2.2 a2; have : ¬ j / w < k := fun h => a1 (e1.1 h); omega
      have e4 : j % w = j - k * w := by
        have := Nat.div_add_mod j w
        rw [e3, Nat.mul_comm] at this
        omega
      rw [← hm, Pt.at_take _ _ _ (by omega), Pt.at_drop, e3, e4, Nat.add_assoc]
    · rw [if_neg (by omega), if_neg (fun h => a1 (e1.1 h)), if_neg (fun h => a2 (e2.1 h))]
theorem cp_done {l : List Pt.Cl} {ch r c h w : Nat} {L : List Pt.Cl} (hL : cpTo l ch r c h w h L) : L = Pt.copyL l ch r c h w := by
  refine Pt.eq_mk hL.1 fun k hk => ?_
  rw [hL.2 k hk, if_pos]
  exact Nat.div_lt_of_lt_mul (by rw [Nat.mul_comm]; exact hk)
theorem keepCopy {W : World} {b b9 g : Nat} {r : Int} {v : Value} {h : Int} {v9 : Value} {x y z t : Int} (hp : Pb W b r v) (h9 : Pb W b9 h v9) (ha : W.rangeAt (b + 1) 0 [.int .i64 x, .int .i64 y, .int .i64 z, .int .i64 t]) (n1 : b ≠ g) (n2 : b9 ≠ g) (n3 : b + 1 ≠ g) {w' : World} (hb : W.grownBy w' (some g)) :
    W.grownBy w' (some g) ∧ w'.cell? ⟨b, 0, none⟩ = some (.int .i64 r) ∧ w'.cell? ⟨b, 1, none⟩ = some v ∧ w'.cell? ⟨b9, 0, none⟩ = some (.int .i64 h) ∧ w'.cell? ⟨b9, 1, none⟩ = some v9 ∧ w'.cell? ⟨b + 1, 0, none⟩ = some (.int .i64 x) ∧ w'.cell? ⟨b + 1, 1, none⟩ = some (.int .i64 y) ∧ w'.cell? ⟨b + 1, 2, none⟩ = some (.int .i64 z) ∧ w'.cell? ⟨b + 1, 3, none⟩ = some (.int .i64 t) :=
  ⟨hb, cell_grown hb (hp.1 0 _ rfl) n1, cell_grown hb (hp.1 1 _ rfl) n1, cell_grown hb (h9.1 0 _ rfl) n2, cell_grown hb (h9.1 1 _ rfl) n2, cell_grown hb (ha 0 _ rfl) n3, cell_grown hb (ha 1 _ rfl) n3, cell_grown hb (ha 2 _ rfl) n3, cell_grown hb (ha 3 _ rfl) n3⟩
/-- A function's first blocks: its pattern, its area, its result. -/
theorem three_new (w : World) (r : Int) (v : Value) (a : Pt.Ar) : ∃ W, W = ((w.alloc (.cells #[.int .i64 r, v] 24)).alloc (.cells #[.int .i64 a.r, .int .i64 a.c, .int .i64 a.h, .int .i64 a.w] 26)).alloc (.cells #[.int .i64 0, .slice none 0 0] 24) ∧
    Below w.heap.size w W ∧ W.heap.size = w.heap.size + 3 ∧ Pb W w.heap.size r v ∧ W.rangeAt (w.heap.size + 1) 0 [.int .i64 a.r, .int .i64 a.c, .int .i64 a.h, .int .i64 a.w] ∧ Pb W (w.heap.size + 2) 0 (.slice none 0 0) := by
  refine ⟨_, rfl, stepB (stepB (below_box _ _) (below_box _ _)) (below_box _ _), by simp, ((pb_box w r v _).kept (below_box _ _)).kept (below_box _ _), ?_, ?_⟩
  · have := range_box (w.alloc (.cells #[.int .i64 r, v] 24)) [.int .i64 a.r, .int .i64 a.c, .int .i64 a.h, .int .i64 a.w] 26
    refine range_below ?_ (below_box _ _) (show w.heap.size + 1 < _ by simp)
    simpa using this
  · have := pb_box ((w.alloc (.cells #[.int .i64 r, v] 24)).alloc (.cells #[.int .i64 a.r, .int .i64 a.c, .int .i64 a.h, .int .i64 a.w] 26)) 0 (.slice none 0 0) 24
    simpa using this
set_option maxHeartbeats 1600000 in
theorem p_Copy_bad (r : Int) (l : List Pt.Cl) (p : Option Addr) (cap : Nat) (ch : Int) (a : Pt.Ar) (w : World) (hd : CellsAt w p l) {e : Int} (he : Pt.eArea r l ch a = e) (h0 : e ≠ 0) :
    Calls Tryz.prog 15 #[PV r p l.length cap, .int .i64 ch, AV a] w fun x w' => RetPE 0 [] e w.heap.size x w' ∧ Below w.heap.size w w' := by
  obtain ⟨W, hW, hB, hs, hp, ha, hr⟩ := three_new w r (.slice p l.length cap) a
  have HB := Lib.hid hB
  have C1 := Lib.hid (p_askArea r l p cap ch a W (hd.below hB))
  rw [he] at C1
  have HR := Lib.hid hr
  have hne : (e != 0) = true := by simpa using h0
  unfold PV AV at C1 ⊢
  obtain ⟨b, hb⟩ : ∃ b, b = w.heap.size := ⟨_, rfl⟩
  rw [← hb] at hp ha hs HR
  have HS := Lib.hid hs
  have HBE := Lib.hid hb
  have ⟨k0, k1, _, _⟩ := hp.cells
  have a0 := ha 0 _ rfl
  have a1 := ha 1 _ rfl
  have a2 := ha 2 _ rfl
  have a3 := ha 3 _ rfl
  clear hd hp ha hr h0 he hB hs
  go_enter Tryz.func15, Tryz.ntmps15
  go_upto_region 1 with fail
  rw [← hW, ← hb]
  clear hW hb
  go_wp2_with (first | (go_at_call 48; ((with_reducible refine (C1.out).mono ?_); rintro x' w1 ⟨rfl, hb1⟩; have HB1 := Lib.hid hb1; clear hb1)) | ((refine st_pat (by rfl) _ _ rfl rfl rfl (HR.out.kept HB1.out).2 ?_); intro w2 h2 g2; have H2 := Lib.hid h2; have G2 := Lib.hid g2; clear h2 g2))
  have e1 := HBE.out
  have e2 := HS.out
  have e3 := HB1.out.size
  exact bodyPost_ret (res_pe rfl rfl H2.out.1 rfl) rfl ⟨⟨none, 0, rfl, Nat.le_refl _, .inl rfl⟩, grown_at (stepB HB.out HB1.out) (by omega) (by omega) G2.out⟩
theorem six {W : World} {b : Nat} {r : Int} {v : Value} {x y z t : Int} (hp : Pb W b r v) (ha : W.rangeAt (b + 1) 0 [.int .i64 x, .int .i64 y, .int .i64 z, .int .i64 t]) {w' : World} (hb : Below W.heap.size W w') :
    w'.cell? ⟨b, 0, none⟩ = some (.int .i64 r) ∧ w'.cell? ⟨b, 1, none⟩ = some v ∧ w'.cell? ⟨b + 1, 0, none⟩ = some (.int .i64 x) ∧ w'.cell? ⟨b + 1, 1, none⟩ = some (.int .i64 y) ∧ w'.cell? ⟨b + 1, 2, none⟩ = some (.int .i64 z) ∧ w'.cell? ⟨b + 1, 3, none⟩ = some (.int .i64 t) :=
  ⟨kept_cell hb (hp.1 0 _ rfl), kept_cell hb (hp.1 1 _ rfl), kept_cell hb (ha 0 _ rfl), kept_cell hb (ha 1 _ rfl), kept_cell hb (ha 2 _ rfl), kept_cell hb (ha 3 _ rfl)⟩
/-- An area of a valid pattern: natural numbers. -/
theorem area_nat {r : Int} {l : List Pt.Cl} {ch : Int} {a : Pt.Ar} (h : Pt.eArea r l ch a = 0) : ∃ R C ar ac ah aw : Nat, r = R ∧ ch = C ∧ a = ⟨ar, ac, ah, aw⟩ ∧ R ≤ 64 ∧ C ≤ 16 ∧ l.length = R * C ∧ 1 ≤ ah ∧ ar + ah ≤ R ∧ 1 ≤ aw ∧ ac + aw ≤ C ∧ Pt.all l = true := by
  unfold Pt.eArea at h
  cases h1 : Pt.vpat r l ch with
  | false => rw [h1] at h; simp at h
  | true =>
    cases h2 : Pt.awi a r ch with
    | false => rw [h1, h2] at h; simp at h
    | true =>
      obtain ⟨R, C, rfl, rfl, g1, g2, g3, g4, g5, g6⟩ := Pt.vpat_nat h1
      simp only [Pt.awi, Bool.and_eq_true, Pt.wth_iff] at h2
      obtain ⟨⟨b1, b2⟩, ⟨b3, b4⟩, ⟨b5, b6⟩, b7, b8⟩ := h2
      obtain ⟨x, y, z, t⟩ := a
      simp only at b1 b2 b3 b4 b5 b6 b7 b8
      refine ⟨R, C, x.toNat, y.toNat, z.toNat, t.toNat, rfl, rfl, ?_, g2, g4, g5, by omega, by omega, by omega, by omega, g6⟩
      rw [show ((x.toNat : Nat) : Int) = x by omega, show ((y.toNat : Nat) : Int) = y by omega, show ((z.toNat : Nat) : Int) = z by omega, show ((t.toNat : Nat) : Int) = t by omega]
set_option maxRecDepth 100000 in
set_option maxHeartbeats 6400000 in
theorem p_Copy_ok (R C ar ac ah aw : Nat) (l : List Pt.Cl) (p : Option Addr) (cap : Nat) (w : World) (hd : CellsAt w p l) (hcap : l.length ≤ cap) (he : Pt.eArea R l C ⟨ar, ac, ah, aw⟩ = 0) (g2 : R ≤ 64) (g4 : C ≤ 16) (hl : l.length = R * C) (h1 : 1 ≤ ah) (h2 : ar + ah ≤ R) (h3 : 1 ≤ aw) (h4 : ac + aw ≤ C) :
    Calls Tryz.prog 15 #[PV R p l.length cap, .int .i64 C, AV ⟨ar, ac, ah, aw⟩] w fun x w' => RetPE ah (Pt.copyL l C ar ac ah aw) 0 w.heap.size x w' ∧ Below w.heap.size w w' := by
  obtain ⟨W, hW, hB, hs, hp, ha, hr⟩ := three_new w R (.slice p l.length cap) ⟨ar, ac, ah, aw⟩
  have C1 := Lib.hid (p_askArea R l p cap C ⟨ar, ac, ah, aw⟩ W (hd.below hB))
  rw [he] at C1
  have hn1 : R * C ≤ 1024 := Pt.rc_bound g2 g4
  have hn2 : ah * aw ≤ 1024 := Nat.le_trans (Nat.mul_le_mul (show ah ≤ R by omega) (show aw ≤ C by omega)) hn1
  have C2 := Lib.hid (fun u => p_blank ah aw u hn2)
  have hpos : 0 < l.length := by
    rw [hl]
    exact Nat.mul_pos (by omega) (by omega)
  obtain ⟨b0, off, rfl, hb0, hr0⟩ : ∃ b0 off, p = some ⟨b0, off, none⟩ ∧ b0 < w.heap.size ∧ w.rangeAt b0 off (cc l) := by
    rcases hd with rfl | h
    · simp at hpos
    · exact h
  have HB := Lib.hid hB
  have HR := Lib.hid hr
  have HP := Lib.hid hp
  have HA := Lib.hid ha
  have HR0 := Lib.hid (range_below hr0 hB hb0)
  have HB0 := Lib.hid hb0
  have HS := Lib.hid hs
  obtain ⟨n, hn⟩ : ∃ n, l.length = n := ⟨_, rfl⟩
  unfold PV AV at C1 ⊢
  obtain ⟨b, hb⟩ : ∃ b, b = w.heap.size := ⟨_, rfl⟩
  rw [← hb] at hp ha HR HP HA HS HB0
  have HBE := Lib.hid hb
  dsimp only at ha HA hW
  obtain ⟨k0, k1, a0, a1, a2, a3⟩ := six hp ha (Below.refl _ W)
  have HN := Lib.hid hn
  have HL := Lib.hid hl
  rw [hn] at C1 HP hcap k1 hpos hW ⊢
  clear hd hp ha hr he hB hs hb0 hr0 hn hl
  go_enter Tryz.func15, Tryz.ntmps15
  go_upto_region 1 with fail
  rw [← hW, ← hb]
  clear hW hb
  go_wp2_with (first | (go_at_call 48; ((with_reducible refine (C1.out).mono ?_); rintro x' w1 ⟨rfl, hb1⟩; have HB1 := Lib.hid hb1; clear hb1 k0 k1 a0 a1 a2 a3; obtain ⟨k0, k1, a0, a1, a2, a3⟩ := six HP.out HA.out HB1.out)) | (go_at_call 44; ((with_reducible refine (C2.out _).mono ?_); rintro x' w2 ⟨⟨q, cap2, rfl, hc2, ho2⟩, hb2⟩; unfold PV; rw [List.length_replicate] at hc2 ⊢; have HX1 := Lib.hid hb2; have HB2 := Lib.hid (stepB HB1.out hb2); have HO2 := Lib.hid ho2; have HC2 := Lib.hid hc2; clear hb2 ho2 hc2 k0 k1 a0 a1 a2 a3; obtain ⟨k0, k1, a0, a1, a2, a3⟩ := six HP.out HA.out (stepB HB2.out (below_box _ (.cells #[.int .i64 0, .slice none 0 0] 24))))) | ((refine st_pat (by rfl) _ _ rfl rfl rfl (pb_box _ _ _ _).2 ?_); intro w3 h3' g3; have H3 := Lib.hid h3'; have G3 := Lib.hid g3; have HB3 := Lib.hid (grown_at (stepB HB2.out (below_box _ (.cells #[.int .i64 0, .slice none 0 0] 24))) HB2.out.size (by simp; exact Nat.le_succ_of_le HB2.out.size) g3); clear h3' g3 k0 k1 a0 a1 a2 a3; obtain ⟨k0, k1, a0, a1, a2, a3⟩ := six HP.out HA.out HB3.out))
  obtain ⟨g, rfl, hg1, hg2⟩ : ∃ g, q = some ⟨g, 0, none⟩ ∧ w1.heap.size ≤ g ∧ Kr w2 g (List.replicate (ah * aw) Pt.zc) := by
    rcases HO2.out with h | h
    · have hz := Nat.mul_pos (show 0 < ah by omega) (show 0 < aw by omega)
      have := congrArg List.length h
      simp at this
      omega
    · exact h
  obtain ⟨b9, hb9⟩ : ∃ b9, b9 = w2.heap.size := ⟨_, rfl⟩
  have hK3 : Kr w3 g (List.replicate (ah * aw) Pt.zc) := ((hg2.kept (below_box _ _)).grown G3.out (by have := hg2.1; omega))
  have HR3 := Lib.hid (HR0.out)
  obtain ⟨z, hz⟩ : ∃ z, ah * aw = z := ⟨_, rfl⟩
  have HP3 := Lib.hid (HP.out.kept HB3.out)
  have HA3 := Lib.hid (range_below HA.out HB3.out (by have := HS.out; omega))
  have HD3 := Lib.hid (range_below HR0.out HB3.out (by have := HS.out; have := HB0.out; omega))
  have HQ3 := Lib.hid (HR.out.kept HB3.out)
  have HGE := Lib.hid (show W.heap.size ≤ g ∧ g < b9 ∧ b9 < w3.heap.size from ⟨Nat.le_trans HB1.out.size hg1, by rw [hb9]; exact hg2.1, by rw [hb9]; exact H3.out.lt⟩)
  rw [← hb9] at H3 ⊢
  rw [hz] at hK3 H3 HC2 hn2 ⊢
  have HK3 := Lib.hid hK3
  have HZ := Lib.hid hz
  clear k0 k1 a0 a1 a3 hg1 hg2 hb9 hz hK3 HO2 HX1 HB2 HR3
  go_wp2
  go_loopw [26] (fun i wr => ∃ k : Nat, k ≤ ah ∧ i = .int .i64 k ∧ Hid (w3.grownBy wr (some g)) ∧ Hid (∃ L, cpTo l C ar ac ah aw k L ∧ Kr wr g L)) (fun i _ => ah - (intOf i).toNat)
  case atStart => exact ⟨0, by omega, rfl, grownBy_refl _ _, _, ⟨by rw [List.length_replicate, HZ.out], fun j hj => by rw [Pt.at_rep, if_neg (Nat.not_lt_zero _)]⟩, HK3.out⟩
  case round =>
    obtain ⟨k, hk, rfl, HG, HL'⟩ := hrel
    obtain ⟨e1, e2, e3⟩ := HGE.out
    have e4 := HS.out
    by_cases hlt : k < ah
    · obtain ⟨L, hL, hKL⟩ := HL'.out
      have hPw := HP3.out.grown HG.out (show b ≠ g by omega)
      have hAw := range_grown HA3.out HG.out (show b + 1 ≠ g by omega) (by omega)
      have h9w := H3.out.grown HG.out (show b9 ≠ g by omega)
      have hDw := range_grown HD3.out HG.out (show b0 ≠ g by have := HB0.out; omega) (by have := HB0.out; omega)
      have hlt0 : b0 < wr.heap.size := by have := HB0.out; have := HG.out.size; omega
      obtain ⟨M, hM⟩ : ∃ M, (ar + k) * C = M := ⟨_, rfl⟩
      obtain ⟨F, hF⟩ : ∃ F, M + ac = F := ⟨_, rfl⟩
      obtain ⟨S, hS⟩ : ∃ S, k * aw = S := ⟨_, rfl⟩
      have hFn : F + aw ≤ n := by
        have := Nat.mul_le_mul_right C (show ar + k + 1 ≤ R by omega)
        rw [Nat.add_mul, Nat.one_mul, hM] at this
        rw [← HN.out, HL.out]
        omega
      have hSn : S + aw ≤ z := by
        have := Nat.mul_le_mul_right aw (show k + 1 ≤ ah by omega)
        rw [Nat.add_mul, Nat.one_mul, hS, HZ.out] at this
        exact this
      have HMF := Lib.hid (show (ar + k) * C = M ∧ M + ac = F ∧ k * aw = S from ⟨hM, hF, hS⟩)
      have HMF2 := Lib.hid hSn
      have D1 := Lib.hid (fun u (hu : Below wr.heap.size wr u) => onB hu (p_line ar ac aw k C F M ah R b0 off n cap u hM hF (by omega) h3 hFn hcap (by rw [← HN.out, HL.out]; exact hn1)))
      obtain ⟨m, hm⟩ : ∃ m, (l.drop F).take aw = m := ⟨_, rfl⟩
      have hmL : m.length = aw := by rw [← hm, List.length_take, List.length_drop, HN.out]; omega
      have HMR := Lib.hid (show wr.rangeAt b0 (off + F * 6) (cc m) by rw [← hm]; exact rng_sub hDw F aw (by rw [HN.out]; exact hFn))
      have HT := Lib.hid (hKL.there (i := S) (n := aw) (by rw [hL.1, HZ.out]; exact hSn))
      have HMN := Lib.hid hmL
      have HM := Lib.hid hm
      have hS' : (k : Int) * (aw : Int) = (S : Int) := by rw [← hS, Int.natCast_mul]
      have j1 : S ≤ z := by omega
      have j2 : ¬ cap2 = S := by have := HC2.out; omega
      have j3 : (S : Int) ≤ 1024 := by omega
      have j4 : S ≤ cap2 := by have := HC2.out; omega
      have j5 : z ≤ cap2 := HC2.out
      have j6 : (aw : Int) ≤ 16 := by omega
      have i0 : IntKind.i64.wrap (S : Int) = (S : Int) := by rw [IntKind.wrap_i64]; omega
      have i1 : (0 : Int) ≤ (S : Int) := by omega
      have i2 : (S : Int) ≤ (z : Int) := by omega
      have i5 : (ah : Int) ≤ 64 := by omega
      have i3 : (z : Int) ≤ (cap2 : Int) := by omega
      have i4 : (S : Int) ≤ (cap2 : Int) := by omega
      have HLL := Lib.hid hL
      have HKL := Lib.hid hKL
      have HWP := Lib.hid hPw
      have HWA := Lib.hid hAw
      have HW9 := Lib.hid h9w
      have HCP := Lib.hid (fun (u : World) (hu : Below wr.heap.size wr u) => run_copy_cells u 3 g (S * 6) (z - S) (cap2 - S) (some ⟨g, S * 6, none⟩) (some ⟨b0, off + F * 6, none⟩) aw (cap - F) m (by rw [HMN.out]; exact (Nat.min_eq_left (by omega)).symm) (fun _ => ⟨rfl, by rw [HMN.out]; exact there_below HT.out hu hKL.1, b0, off + F * 6, rfl, range_below HMR.out hu (by have := hlt0; omega)⟩))
      rw [hmL] at HCP
      have hg0 := (Below.refl wr.heap.size wr).drew
      have HNE := Lib.hid (show b ≠ g ∧ b9 ≠ g ∧ b + 1 ≠ g from ⟨by omega, by omega, by omega⟩)
      have hg := keepCopy hPw h9w hAw HNE.out.1 HNE.out.2.1 HNE.out.2.2 (grownBy_of hg0)
      have HN2 := Lib.hid hn2
      clear e1 e2 e3 e4 hM hF hS hFn hSn hm hmL hKL hL hPw hAw h9w hDw hn1 hn2 g2 g4 hlt0
      go_upto_region 8 with fail
      go_region_held3 (fun w' => wr.grownBy w' (some g) ∧ w'.cell? ⟨b, 0, none⟩ = some (.int .i64 (R : Int)) ∧ w'.cell? ⟨b, 1, none⟩ = some (.slice (some ⟨b0, off, none⟩) n cap) ∧ w'.cell? ⟨b9, 0, none⟩ = some (.int .i64 (ah : Int)) ∧ w'.cell? ⟨b9, 1, none⟩ = some (.slice (some ⟨g, 0, none⟩) z cap2) ∧ w'.cell? ⟨b + 1, 0, none⟩ = some (.int .i64 (ar : Int)) ∧ w'.cell? ⟨b + 1, 1, none⟩ = some (.int .i64 (ac : Int)) ∧ w'.cell? ⟨b + 1, 2, none⟩ = some (.int .i64 (ah : Int)) ∧ w'.cell? ⟨b + 1, 3, none⟩ = some (.int .i64 (aw : Int)))
        (first | with_reducible exact hg | (with_reducible refine keepCopy HWP.out HW9.out HWA.out HNE.out.1 HNE.out.2.1 HNE.out.2.2 (grownBy_of ?_); with_reducible assumption) | (with_reducible refine keepCopy HWP.out HW9.out HWA.out HNE.out.1 HNE.out.2.1 HNE.out.2.2 (grownBy_trans (grownBy_of ?_) (grown_setCells _ _ _ _)); with_reducible assumption))
        (first | (go_at_call 49; with_reducible refine (D1.out _ ?_).mono ?_; with_reducible assumption; rintro x' w4 ⟨rfl, hB4⟩; have hcp := HCP.out _ hB4))
      go_wp2
      go_roundw
      case rel =>
        have hk4 := HKL.out.kept hB4
        refine ⟨k + 1, by omega, by go_num, grownBy_trans HG.out (grownBy_trans (grownBy_of hB4) (grown_setCells _ _ _ _)), _, cp_step HLL.out (by rw [HMF.out.1, HMF.out.2.1, HM.out]) HMN.out hlt h3, ?_⟩
        rw [HMF.out.2.2]
        exact hk4.lay (by rw [HMN.out, HLL.out.1, HZ.out]; exact HMF2.out)
      case measure => simp [intOf]; omega
    · obtain ⟨L, hL, hKL⟩ := HL'.out
      obtain rfl : k = ah := by omega
      have HH9 := Lib.hid (H3.out.grown HG.out (show b9 ≠ g by omega))
      have HRw := Lib.hid (HQ3.out.grown HG.out (show b + 2 ≠ g by omega))
      have HKL := Lib.hid hKL
      have HLL := Lib.hid hL
      clear e1 e2 e3 e4 hL hKL
      go_wp2_with (first | (refine ld_pat (by rfl) _ rfl rfl HH9.out.1 ?_) | ((refine st_pat (by rfl) _ _ rfl rfl rfl HRw.out.2 ?_); intro w5 h5 g5; have H5 := Lib.hid h5; have G5 := Lib.hid g5; clear h5 g5))
      obtain ⟨e1, e2, e3⟩ := HGE.out
      have e4 := HS.out
      have e5 := HBE.out
      have e6 := HG.out.size
      refine bodyPost_ret (res_pe rfl rfl H5.out.1 rfl) rfl ⟨⟨_, cap2, ?_, ?_, .inr ⟨g, rfl, ?_, ?_⟩⟩, ?_⟩
      · rw [← cp_done HLL.out, HLL.out.1, HZ.out]
        rfl
      · rw [← cp_done HLL.out, HLL.out.1, HZ.out]
        exact HC2.out
      · omega
      · rw [← cp_done HLL.out]
        exact HKL.out.grown G5.out (by omega)
      · refine grown_at (grown_at (stepB HB.out HB3.out) (by omega) ?_ HG.out) (by omega) (by omega) G5.out
        omega
/-- Copy, for any pattern and area. -/
theorem p_Copy (r : Int) (l : List Pt.Cl) (p : Option Addr) (cap : Nat) (ch : Int) (a : Pt.Ar) (w : World) (hd : CellsAt w p l) (hcap : l.length ≤ cap) :
    Calls Tryz.prog 15 #[PV r p l.length cap, .int .i64 ch, AV a] w fun x w' => RetPE (Pt.okI (Pt.eArea r l ch a) a.h) (Pt.okL (Pt.eArea r l ch a) (Pt.copyL l ch.toNat a.r.toNat a.c.toNat a.h.toNat a.w.toNat)) (Pt.eArea r l ch a) w.heap.size x w' ∧ Below w.heap.size w w' := by
  by_cases h : Pt.eArea r l ch a = 0
  · obtain ⟨R, C, ar, ac, ah, aw, rfl, rfl, rfl, g1, g2, g3, g4, g5, g6, g7, -⟩ := area_nat h
    rw [h]
    exact p_Copy_ok R C ar ac ah aw l p cap w hd hcap h g1 g2 g3 g4 g5 g6 g7
  · have e1 : Pt.okI (Pt.eArea r l ch a) a.h = 0 := if_neg h
    have e2 : Pt.okL (Pt.eArea r l ch a) (Pt.copyL l ch.toNat a.r.toNat a.c.toNat a.h.toNat a.w.toNat) = [] := if_neg h
    rw [e1, e2]
    exact p_Copy_bad r l p cap ch a w hd rfl h
end Go.Proofs.YtfjfnbeegojlbaaGreat
