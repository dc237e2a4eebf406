/-
  The walk of the law InstKeys: for any instrument and numbers it returns true; nothing that was there is changed.
-/
import Derived.Test.YtcchfahdgmcpbaaPLawR
namespace Go.Proofs.Ytcchfahdgmcpbaa
open Go.RowKit

theorem ski_facts (i : In.Ins) (f t s m : Int) : (In.skE i f t s m = 0 ∧ In.ivld (In.skI i f t s m) = true ∧ ((In.skI i f t s m).keys.length : Int) = 120) ∨ (In.skE i f t s m ≠ 0 ∧ (In.skI i f t s m).keys = [] ∧ In.ivld (In.skI i f t s m) = true) := by
  by_cases h : (In.ivld i && In.skok f t s m) = true
  · have h1 : In.ivld i = true := by simp only [Bool.and_eq_true] at h; exact h.1
    have h2 : In.skok f t s m = true := by simp only [Bool.and_eq_true] at h; exact h.2
    refine .inl ⟨by unfold In.skE; rw [if_pos h1, if_pos h2], ?_, ?_⟩
    · unfold In.skI
      rw [if_pos h]
      exact In.withK_ok h1 (In.sk_ok h2 (In.ivld_keys h1))
    · unfold In.skI
      rw [if_pos h]
      show ((In.sk i.keys f t s m).length : Int) = 120
      rw [In.sk_length]
      rfl
  · have hz : In.skI i f t s m = In.zer := by unfold In.skI; rw [if_neg h]
    refine .inr ⟨?_, by rw [hz]; rfl, by rw [hz]; exact zero_vld⟩
    unfold In.skE
    split
    · split
      · rename_i h1 h2
        exact absurd (by rw [h1, h2]; rfl) h
      · omega
    · omega
/-- An instrument that SetKeys has answered lies in block k. -/
structure Jw (w : World) (k : Nat) (J : In.Ins) (a : In.Loc) : Prop where
  rng : w.rangeAt k 0 (IL J a)
  pts : IPts w J a
theorem Jw.kept {w w' : World} {k : Nat} {J : In.Ins} {a : In.Loc} (h : Jw w k J a) (hb : Below w.heap.size w w') : Jw w' k J a := ⟨range_kept h.rng hb, h.pts.below hb⟩
theorem jw_new {w w' : World} {k : Nat} {J : In.Ins} {a : In.Loc} {o : Obj} (hp : IPts w J a) (hk : k = w.heap.size) (hg : (w.alloc o).grownBy w' (some k)) (hr : w'.rangeAt k 0 (IL J a)) : Jw w' k J a := ⟨hr, ipts_laid hp hk hg⟩
theorem kr_laid {w w' : World} {k g : Nat} {l : List (Int × Int)} {o : Obj} (h : Kr w g l) (hk : k = w.heap.size) (hg : (w.alloc o).grownBy w' (some k)) : Kr w' g l :=
  (h.kept (below_box w o)).ap (b := k) (r := k) (.inl (by rw [hk]; exact h.1)) (ap_grown hg (Nat.le_refl k) (Nat.le_refl k))
/-- Cells of a row that may be written, whatever they hold. -/
def Kz (w : World) (g n : Nat) : Prop := ∀ i, i < n → ((∃ x y, w.cell? ⟨g, i * 2, none⟩ = some x ∧ w.cell? ⟨g, i * 2 + 1, none⟩ = some y) ∧ w.frozen? ⟨g, i * 2, none⟩ = false ∧ w.frozen? ⟨g, i * 2 + 1, none⟩ = false)
theorem Kr.kz {w : World} {g : Nat} {l : List (Int × Int)} (h : Kr w g l) : Kz w g l.length := fun i hi => by
  obtain ⟨⟨h1, h2⟩, h3, h4⟩ := h.2 i hi
  exact ⟨⟨_, _, h1, h2⟩, h3, h4⟩
theorem Kz.set {w : World} {g n k j : Nat} {u v : Value} (h : Kz w g n) : Kz ((w.setCell ⟨g, k, none⟩ u).setCell ⟨g, j, none⟩ v) g n := by
  have one : ∀ {w : World} {k m : Nat} {u x : Value}, w.cell? ⟨g, m, none⟩ = some x → ∃ y, (w.setCell ⟨g, k, none⟩ u).cell? ⟨g, m, none⟩ = some y := fun {w k m u x} hx => by
    by_cases e : (⟨g, k, none⟩ : Addr) = ⟨g, m, none⟩
    · rw [← e] at hx ⊢
      exact ⟨_, World.cell?_setCell_same _ _ _ hx⟩
    · exact ⟨x, by rw [World.cell?_setCell_other _ _ _ _ e]; exact hx⟩
  intro i hi
  obtain ⟨⟨x, y, h1, h2⟩, h3, h4⟩ := h i hi
  obtain ⟨x1, e1⟩ := one (k := k) (u := u) h1
  obtain ⟨y1, e2⟩ := one (k := k) (u := u) h2
  obtain ⟨x2, e3⟩ := one (k := j) (u := v) e1
  obtain ⟨y2, e4⟩ := one (k := j) (u := v) e2
  exact ⟨⟨x2, y2, e3, e4⟩, by simpa using h3, by simpa using h4⟩
set_option maxRecDepth 100000 in
set_option maxHeartbeats 6400000 in
theorem keys_mid (x : In.Kyd) (a : In.Loc) (w : World) (hd : IPts w x.i a) (hnk : a.k = none → a.ck = 0) (hm : x.i.name.size ≤ maxLen) (h1 : (x.i.keys.length : Int) ≤ 500) :
    Calls Try.prog 5 #[.agg (KL x a).toArray] w fun z w' => z = .returned (.bool true) ∧ Below w.heap.size w w' := by
  obtain ⟨i0, hinf, hz0, hz1, hz2⟩ := info_parts Try.infoKey
  have d1 : decide (500 < (x.i.keys.length : Int)) = false := decide_eq_false (by omega)
  have HK5 := Lib.hid h1
  have HNK := Lib.hid hnk
  have HNM := Lib.hid hm
  clear hnk hm
  obtain ⟨W1, hW⟩ : ∃ W, W = w.alloc (.cells (KL x a).toArray 42) := ⟨_, rfl⟩
  obtain ⟨b, hbe⟩ : ∃ b, b = w.heap.size := ⟨_, rfl⟩
  have HR1 := Lib.hid (show W1.rangeAt b 0 (IL x.i a) by rw [hW, hbe]; exact kl_il (range_box w (KL x a) _))
  have HT1 := Lib.hid (there_box W1 (IL In.zer In.zel) 40)
  have HD := Lib.hid hd
  have HW1 := Lib.hid hW
  have HBE := Lib.hid hbe
  clear hd
  go_enter Try.func5, Try.ntmps5
  go_upto_region 1 with fail
  rw [← hW, ← hbe]
  clear hW hbe
  go_upto_region 2 with (first | (refine ld_inst (by rfl) _ rfl rfl HR1.out ?_) | (refine al_inst (by rfl) rfl ?_) | ((refine st_inst (by rfl) _ _ rfl rfl rfl HT1.out ?_); intro w4 hr4 ht4 hg4))
  obtain ⟨c, hc⟩ : ∃ c, c = W1.heap.size := ⟨_, rfl⟩
  rw [← hc] at hr4 hg4 ⊢
  obtain ⟨W, hW4⟩ : ∃ W, W = w4 := ⟨_, rfl⟩
  rw [← hW4] at hr4 hg4 ⊢
  have HL := Lib.hid (show Lw W b c x a by
    rw [HBE.out]
    rw [HW1.out] at hg4 hc
    exact lw_new HD.out (by rw [hc]; simp) hg4 hr4)
  have HWb := Lib.hid (show Below w.heap.size w W from (show Below w.heap.size w W1 by rw [HW1.out]; exact below_box _ _).trans ((below_laid hc hg4).mono (by rw [HW1.out]; simp)))
  clear hr4 ht4 hg4 hc hW4 HR1 HT1 HW1
  obtain ⟨-, x1, -, x3, -, -, -, -, -, -, -, x11, -, -, -, -, -, -, -, x19, -⟩ := range_ib HL.out.ins
  go_upto_region 4 with (first | (go_at_call 6; ((with_reducible refine (p_awake _).mono ?_); rintro x' w99 ⟨rfl, hb99⟩)))
  · go_ret
    exact ⟨rfl, HWb.out.trans (hb99.mono HWb.out.size)⟩
  clear d1 x1 x3 x11 x19
  rename wrap64 _ ≤ 300 => hw
  clear hw
  go_cut [4] (fun t4 wx => ∃ pc cc, t4 = .slice pc x.i.keys.length cc ∧ Hid (PtsAt wx pc x.i.keys) ∧ Hid (Below W.heap.size W wx))
  case first =>
    have x1 := (range_ib HL.out.ins).2.1
    have HO := Lib.hid (World.ownsRow_made (base := W.heap.size) (e := 52) (size := 2) W #[] 0 (Nat.le_refl _) (Nat.zero_le _) (by simp))
    have HB := Lib.hid (below_box W (.cells #[] 52))
    have HP := Lib.hid HL.out.pts.1
    have hcl := range_lt HL.out.ins
    have HS := Lib.hid (show W.heap.size ≤ (W.alloc (.cells #[] 52)).heap.size by simp)
    cases hak : a.k with
    | none =>
      have h0 : x.i.keys = [] := by
        rcases HP.out with h | ⟨_, _, h, _⟩
        · exact h
        · rw [hak] at h; exact absurd h (by simp)
      have hck := HNK.out hak
      rw [hak, h0, hck] at x1
      have H0 := Lib.hid h0
      rw [List.length_nil] at x1
      clear h0 hck hak HP
      go_wp2_with (first | (at_builtin; go_loud (refine wpList_append_own_none rfl (.tmp 38) (.tmp 40) 38 rfl W.heap.size 52 i0 2 Try.underlying38 hinf (.slice (some ⟨W.heap.size, 0, none⟩) 0 0) 0 [] rfl HO.out rfl ?_)))
      go_meet
      exact ⟨some ⟨W.heap.size, 0, none⟩, 0, by rw [H0.out]; rfl, .inl H0.out, HB.out⟩
    | some ad =>
      have HC := Lib.hid (show ∀ j u, (pc x.i.keys)[j]? = some u → (W.alloc (.cells #[] 52)).cell? (ad.add j) = some u by
        intro j u hu
        rcases HP.out.below (below_box W (.cells #[] 52)) with h | ⟨bk, off, hp, _, hcc⟩
        · rw [h] at hu; simp [pc] at hu
        · rw [hak] at hp
          obtain rfl : ad = ⟨bk, off, none⟩ := by simpa using hp
          exact pts_cells hcc j u hu)
      have HLn := Lib.hid (pc_len x.i.keys)
      have H1 := Lib.hid (pc_one x.i.keys)
      rw [hak] at x1
      clear hak HP
      obtain ⟨n, hn⟩ : ∃ n, x.i.keys.length = n := ⟨_, rfl⟩
      have HN := Lib.hid hn
      rw [hn] at HLn x1 h1
      clear hn
      go_wp2_with (first | (at_builtin; go_loud (refine wpList_append_own _ rfl (.tmp 38) (.tmp 40) 38 rfl W.heap.size 52 i0 (.agg #[.int .i64 0, .int .i64 0]) 2 16 Try.underlying38 hinf hz0 hz1 hz2 rfl (by decide) (.slice (some ⟨W.heap.size, 0, none⟩) 0 0) 0 [] rfl HO.out ad n a.ck (pc x.i.keys) rfl HLn.out HC.out H1.out (by unfold maxLen; omega) (by omega) HS.out ?_; intro v' w3 hown' hgrow _; have hb3 := grown_base hgrow (fun g hg => (World.ownsRow.lt HO.out g hg).1) HS.out; clear hgrow; have HR2 := Lib.hid (show w3.ownsRow W.heap.size 52 2 v' n (pc x.i.keys) by simpa using hown'); have HB3 := Lib.hid (HB.out.trans hb3); clear hown' hb3)))
      go_meet
      obtain ⟨pq, cq, hv, hp, -⟩ := rows_kr HR2.out HN.out
      exact ⟨pq, cq, by rw [hv, HN.out], hp, HB3.out⟩
  case rest =>
    obtain ⟨pc', cc, rfl, HPC, HB4⟩ := hcut
    have HM := Lib.hid (HL.out.kept HB4.out)
    have HWm := Lib.hid (HWb.out.trans (HB4.out.mono HWb.out.size))
    have HB0 := Lib.hid (Below.refl wc.heap.size wc)
    clear HL HWb HB4
    have C1 := Lib.hid (fun u (hu : Below wc.heap.size wc u) => onB hu (p_Key x.i a x.note x.own u (HM.out.kept hu).pts))
    have C2 := Lib.hid (fun u (hu : Below wc.heap.size wc u) => onB hu (r_Key x.i a x.note x.own u (HM.out.kept hu).pts HNM.out HK5.out))
    obtain ⟨A1, hA1⟩ : ∃ v, In.keyA x.i x.note = v := ⟨_, rfl⟩
    obtain ⟨A2, hA2⟩ : ∃ v, In.keyB x.i x.note x.own = v := ⟨_, rfl⟩
    rw [hA1, hA2] at C1 C2
    clear hA1 hA2
    obtain ⟨y33, y34, -⟩ := HM.out.num
    go_upto_region 6 with (first | (refine ld_inst (by rfl) _ rfl rfl HM.out.ins ?_) | (go_at_call 18; ((with_reducible refine (C1.out _ HB0.out).mono ?_); rintro x' w5 ⟨rfl, hb5⟩; have HB5 := Lib.hid hb5; clear hb5 y33 y34; obtain ⟨y33, y34, -⟩ := (HM.out.kept HB5.out).num)))
    go_upto_region 7 with (first | (refine ld_inst (by rfl) _ rfl rfl (HM.out.kept HB5.out).ins ?_) | (go_at_call 19; ((with_reducible refine (C2.out _ HB5.out).mono ?_); rintro x' w6 ⟨rfl, hb6⟩; have HB6 := Lib.hid hb6; clear hb6 y33 y34; obtain ⟨y33, y34, -⟩ := (HM.out.kept HB6.out).num)))
    clear y33 y34 C1 C2
    refine wp_region_noPanic ?_
    refine reg7_walk x a wc w6 b c A1 A2 HM HB6.out HNM.out HK5.out _ (fun _ _ _ _ _ h => h) _ _ _ _ _ _ _ _ _ _ _ _ _ _ _ _ _ _ _ _ _ _ _ _ _ _ _ _ _ _ _ _ _ _ _ _ _ _ _ _ _ _ _ _ _ _ _ _ _ _ _ _ _ _ _ _ _ _ _ _ _ _ _ _ _ _ _ _ _ _ _ _ _ _ _ _ _ _ _ _ _ _ _ _ _ _ _ _ _ _ _ _ _ _ _ _ _ _ _ _ _ _ _ _ _ _ _ _ _ _ _ _ _ _ _ _ _ _ _ _ _ _ _ _ _ _ _ _ _ _ _ _ _ _ _ _ _ _ _ _ _ _ _ _ ?_
    intro v60 v61 v62 v63 v64 v65 v66 v67 v68 v69 v70 v71 v72 v73 v74 v75 v76 v77 v78 v79 v80 v81 v82 v83 v84 v85 w7 hB7
    refine NoPanic.normal ?_
    have HB7 := Lib.hid hB7
    clear hB7 HB5 HB6
    have C9 := Lib.hid (fun u (hu : Below wc.heap.size wc u) => p_SetKeys x.i a x.f x.t x.s x.m u (HM.out.kept hu).pts)
    have C10 := Lib.hid (fun u (hu : Below wc.heap.size wc u) => r_SetKeys x.i a x.f x.t x.s x.m u (HM.out.kept hu).pts HNM.out HK5.out)
    have HJF := Lib.hid (ski_facts x.i x.f x.t x.s x.m)
    obtain ⟨J, hJ⟩ : ∃ J, In.skI x.i x.f x.t x.s x.m = J := ⟨_, rfl⟩
    obtain ⟨E, hE⟩ : ∃ E, In.skE x.i x.f x.t x.s x.m = E := ⟨_, rfl⟩
    rw [hJ, hE] at C9 C10 HJF
    clear hJ hE
    obtain ⟨-, -, y35, y36, y37, y38⟩ := (HM.out.kept HB7.out).num
    go_upto_region 10 with (first | (refine ld_inst (by rfl) _ rfl rfl (HM.out.kept HB7.out).ins ?_) | (go_at_call 24; ((with_reducible refine (C9.out _ HB7.out).mono ?_); rintro x' w8 ⟨⟨a1, rfl, hp8, hk8⟩, hb8⟩; have HP8 := Lib.hid (And.intro hp8 (And.intro hk8 hb8)); have HT8 := Lib.hid (there_box w8 (IL In.zer In.zel) 40); clear hp8 hk8 hb8)) | (refine al_inst (by rfl) rfl ?_) | ((refine st_inst (by rfl) _ _ rfl rfl rfl HT8.out ?_); intro w20 hr20 ht20 hg20))
    obtain ⟨k1, hk1⟩ : ∃ k, k = w8.heap.size := ⟨_, rfl⟩
    rw [← hk1] at hr20 hg20 ⊢
    have HJ1 := Lib.hid (jw_new HP8.out.1 hk1 hg20 hr20)
    have HG1 := Lib.hid (fun h => (show ∃ g, a1.k = some ⟨g, 0, none⟩ ∧ w7.heap.size ≤ g ∧ g < k1 ∧ Kr w20 g J.keys by
      obtain ⟨g, q1, q2, q3⟩ := HP8.out.2.1 h
      exact ⟨g, q1, q2, by rw [hk1]; exact q3.1, kr_laid q3 hk1 hg20⟩))
    have HB20 := Lib.hid (show Below w7.heap.size w7 w20 from stepB HP8.out.2.2 (below_laid hk1 hg20))
    have HBc := Lib.hid (HB7.out.trans (HB20.out.mono HB7.out.size))
    clear hr20 ht20 hg20 hk1 HP8 HT8 C9 y35 y36 y37 y38
    obtain ⟨-, -, y35, y36, y37, y38⟩ := (HM.out.kept HBc.out).num
    go_upto_region 11 with (first | (refine ld_inst (by rfl) _ rfl rfl (HM.out.kept HBc.out).ins ?_) | (go_at_call 25; ((with_reducible refine (C10.out _ HBc.out).mono ?_); rintro x' w9 ⟨⟨a2, rfl, hp9, hk9⟩, hb9⟩; have HP9 := Lib.hid (And.intro hp9 (And.intro hk9 hb9)); have HT9 := Lib.hid (there_box w9 (IL In.zer In.zel) 40); clear hp9 hk9 hb9)) | (refine al_inst (by rfl) rfl ?_) | ((refine st_inst (by rfl) _ _ rfl rfl rfl HT9.out ?_); intro w21 hr21 ht21 hg21))
    obtain ⟨k2, hk2⟩ : ∃ k, k = w9.heap.size := ⟨_, rfl⟩
    rw [← hk2] at hr21 hg21 ⊢
    have HJ2 := Lib.hid (jw_new HP9.out.1 hk2 hg21 hr21)
    have HB21 := Lib.hid (show Below w20.heap.size w20 w21 from stepB HP9.out.2.2 (below_laid hk2 hg21))
    clear hr21 ht21 hg21 hk2 HP9 HT9 C10 y35 y36 y37 y38 HBc
    have HJa := Lib.hid (HJ1.out.kept HB21.out)
    have hvJ : In.ivld J = true := by rcases HJF.out with ⟨_, h, _⟩ | ⟨_, _, h⟩ <;> exact h
    obtain ⟨l1, l2, l3, l4⟩ := ivld_lens hvJ
    have CI := Lib.hid (p_instant J a1 a2 w21 HJa.out.pts HJ2.out.pts l1 l2 l3 l4)
    have CJ := Lib.hid (fun u (hu : Below w21.heap.size w21 u) => onB hu (p_Valid_v J a1 u (HJa.out.kept hu).pts hvJ))
    simp only [iv_il] at CJ
    clear l1 l2 l3 l4 hvJ
    rcases HJF.out with ⟨rfl, -, hl⟩ | ⟨hne, hk0, -⟩
    · have hJ0 : J.keys ≠ [] := by intro e; rw [e] at hl; simp at hl
      obtain ⟨g, hak, hg7, hgk, hkr⟩ := HG1.out hJ0
      have HLJ := Lib.hid (show J.keys.length = 120 by omega)
      have HKR := Lib.hid hkr
      have HAK := Lib.hid hak
      clear hl hJ0 hak hkr
      go_upto_region 13 with (first | (refine ld_inst (by rfl) _ rfl rfl HJa.out.rng ?_) | (refine ld_inst (by rfl) _ rfl rfl HJ2.out.rng ?_) | (refine ld_inst (by rfl) _ rfl rfl (HJa.out.kept HB22.out).rng ?_) | (go_at_call 26; ((with_reducible refine (CI.out).mono ?_); rintro x' w22 ⟨rfl, hb22⟩; have HB22 := Lib.hid hb22; clear hb22)) | (go_at_call 20; ((with_reducible refine (CJ.out _ HB22.out).mono ?_); rintro x' w23 ⟨rfl, hb23⟩; have HB23 := Lib.hid hb23; clear hb23)))
      have HX1 := Lib.hid (show w23.cell? ⟨k1, 1, none⟩ = some (.slice (some ⟨g, 0, none⟩) 120 a1.ck) by
        have := (range_ib (HJa.out.kept HB23.out).rng).2.1
        rw [HAK.out, HLJ.out] at this
        exact this)
      have HZ0 := Lib.hid (show Kz w23 g 120 by
        have := ((HKR.out.kept HB21.out).kept HB23.out).kz
        rwa [HLJ.out] at this)
      have HB24 := Lib.hid (show Below w7.heap.size w7 w23 from stepB (stepB HB20.out HB21.out) HB23.out)
      clear HJF HJ1 HJ2 HJa CI CJ HG1 HKR HAK HLJ HB20 HB21 HB22 HB23
      have x1 := HX1.out
      go_wp2
      clear x1
      go_loopw [134] (fun j wr => ∃ k : Nat, (k : Int) ≤ 120 ∧ j = .int .i64 k ∧ Hid (wr.cell? ⟨k1, 1, none⟩ = some (.slice (some ⟨g, 0, none⟩) 120 a1.ck)) ∧ Hid (Kz wr g 120) ∧ Hid (Below w7.heap.size w7 wr)) (fun j _ => 120 - (intOf j).toNat)
      case atStart => exact ⟨0, by omega, rfl, HX1.out, HZ0.out, HB24.out⟩
      case round =>
        obtain ⟨k, hk, rfl, HX, HZ, HB⟩ := hrel
        by_cases hlt : (k : Int) < 120
        · have x1 := HX.out
          obtain ⟨⟨e1, e2, c1, c2⟩, f1, f2⟩ := HZ.out k (by omega)
          go_wp2
          go_roundw
          case rel => exact ⟨k + 1, by omega, by go_num, by
            show World.cell? _ _ = _
            rw [World.cell?_setCell_other _ _ _ _ (fun q => by have : g = k1 := congrArg Addr.block q; omega), World.cell?_setCell_other _ _ _ _ (fun q => by have : g = k1 := congrArg Addr.block q; omega)]
            exact HX.out, HZ.out.set, (HB.out.setCell (p := ⟨g, k * 2, none⟩) hg7 _).setCell (p := ⟨g, k * 2 + 1, none⟩) hg7 _⟩
          case measure => simp [intOf]; omega
        · have x1 := HX.out
          have HBw := Lib.hid (HB7.out.trans (HB.out.mono HB7.out.size))
          have HMw := Lib.hid (HM.out.kept HBw.out)
          have HPw := Lib.hid (HPC.out.below HBw.out)
          have HPk := Lib.hid HMw.out.pts.1
          have HKl := Lib.hid (show (x.i.keys.length : Int) ≤ 1000 by have := HK5.out; omega)
          have z1 := (range_ib HMw.out.ins).2.1
          go_wp2_with (first | (go_at_call 27; ((with_reducible refine (p_sameK x.i.keys a.k pc' a.ck cc wr HPk.out HPw.out HKl.out).mono ?_); rintro x' w30 ⟨rfl, hb30⟩; have HB30 := Lib.hid hb30; clear hb30)) | (go_at_call 6; ((with_reducible refine (p_awake _).mono ?_); rintro x' w99 ⟨rfl, hb99⟩)))
          go_ret
          exact ⟨rfl, HWm.out.trans (HBw.out.trans ((stepB HB30.out hb99).mono HBw.out.size) |>.mono HWm.out.size)⟩
    · have hz : (E == 0) = false := by simpa using hne
      have HLJ := Lib.hid (show J.keys.length = 0 by rw [hk0]; rfl)
      clear hk0 hne
      go_upto_region 13 with (first | (refine ld_inst (by rfl) _ rfl rfl HJa.out.rng ?_) | (refine ld_inst (by rfl) _ rfl rfl HJ2.out.rng ?_) | (go_at_call 26; ((with_reducible refine (CI.out).mono ?_); rintro x' w22 ⟨rfl, hb22⟩; have HB22 := Lib.hid hb22; clear hb22)))
      have HX1 := Lib.hid (show w22.cell? ⟨k1, 1, none⟩ = some (.slice a1.k 0 a1.ck) by
        have := (range_ib (HJa.out.kept HB22.out).rng).2.1
        rw [HLJ.out] at this
        exact this)
      have HB24 := Lib.hid (show Below w7.heap.size w7 w22 from stepB (stepB HB20.out HB21.out) HB22.out)
      clear HJF HJ1 HJ2 HJa CI CJ HG1 HLJ HB20 HB21 HB22
      have x1 := HX1.out
      go_wp2
      go_loopw [134] (fun j wr => j = .int .i64 0 ∧ wr = w22) (fun _ _ => 0)
      case atStart => exact ⟨rfl, rfl⟩
      case round =>
        obtain ⟨rfl, rfl⟩ := hrel
        have HBw := Lib.hid (HB7.out.trans (HB24.out.mono HB7.out.size))
        have HMw := Lib.hid (HM.out.kept HBw.out)
        have HPw := Lib.hid (HPC.out.below HBw.out)
        have HPk := Lib.hid HMw.out.pts.1
        have HKl := Lib.hid (show (x.i.keys.length : Int) ≤ 1000 by have := HK5.out; omega)
        have z1 := (range_ib HMw.out.ins).2.1
        go_wp2_with (first | (go_at_call 27; ((with_reducible refine (p_sameK x.i.keys a.k pc' a.ck cc wr HPk.out HPw.out HKl.out).mono ?_); rintro x' w30 ⟨rfl, hb30⟩; have HB30 := Lib.hid hb30; clear hb30)) | (go_at_call 6; ((with_reducible refine (p_awake _).mono ?_); rintro x' w99 ⟨rfl, hb99⟩)))
        go_ret
        exact ⟨rfl, HWm.out.trans (HBw.out.trans ((stepB HB30.out hb99).mono HBw.out.size) |>.mono HWm.out.size)⟩
/-- The law InstKeys' walk. -/
theorem keys_any (x : In.Kyd) (a : In.Loc) (w : World) (hd : IPts w x.i a) (hc : x.i.name.size ≤ maxLen ∧ (a.k = none → a.ck = 0)) :
    Calls Try.prog 5 #[.agg (KL x a).toArray] w fun z w' => z = .returned (.bool true) ∧ Below w.heap.size w w' := by
  by_cases h1 : 500 < (x.i.keys.length : Int)
  · exact keys_long x a w hd h1
  · exact keys_mid x a w hd hc.2 hc.1 (by omega)
end Go.Proofs.Ytcchfahdgmcpbaa
