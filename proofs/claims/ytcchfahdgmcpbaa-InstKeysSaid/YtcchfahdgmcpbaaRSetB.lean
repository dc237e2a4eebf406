/-
  The contract of the reference's SetKeys where it answers an error; its Clamp.
-/
import Derived.Test.YtcchfahdgmcpbaaPSetK
import Derived.Test.YtcchfahdgmcpbaaRValid
import Derived.Test.YtcchfahdgmcpbaaRKey
import Derived.Deep.DeepCutAuto
namespace Go.Proofs.Ytcchfahdgmcpbaa
open Go.RowKit

theorem Sk.kept {w0 w w' : World} {b r c g : Nat} {i : In.Ins} {L : List (Int × Int)} {a : In.Loc} (h : Sk w0 b r c g i L a w) (hb : Below w.heap.size w w') : Sk w0 b r c g i L a w' :=
  ⟨h.len, range_kept h.rng hb, there_kept h.res hb, h.key, h.kr.kept hb, ⟨h.pv.1.below hb, h.pv.2⟩, ⟨h.pp.1.below hb, h.pp.2⟩, ⟨h.pt.1.below hb, h.pt.2⟩, h.blw.trans (hb.mono (Nat.le_of_lt (Nat.lt_of_le_of_lt h.ne.2.2.1 h.kr.1))), h.ne⟩
theorem sr_first {w0 w4 w5 : World} {b r c g : Nat} {i : In.Ins} {a : In.Loc} {L : List (Int × Int)} (hd : IPts w0 i a) (hb0 : b = w0.heap.size) (hr : w4.rangeAt c 0 (IL i a)) (hres : w4.there r 0 33) (hbl : Below b w0 w4) (hbr : b ≤ r) (hrc : r < c)
    (hb5 : Below w4.heap.size w4 w5) (hg : w4.heap.size ≤ g) (hk : Kr w5 g L) (hL : L.length = 120) : Sk w0 b r c g i L { a with k := some ⟨g, 0, none⟩, ck := 120 } (w5.setCell ⟨c, 1, none⟩ (.slice (some ⟨g, 0, none⟩) 120 120)) := by
  have hc : c < w4.heap.size := range_lt hr
  have A : Ap c c w5 (w5.setCell ⟨c, 1, none⟩ (.slice (some ⟨g, 0, none⟩) 120 120)) := ap_set w5 _ (Nat.le_refl c) (Nat.le_refl c)
  have hb1 : Below w0.heap.size w0 w4 := by rw [← hb0]; exact hbl
  have hs : w0.heap.size ≤ w4.heap.size := hb1.size
  have one : ∀ {p l}, PtsAt w0 p l → PtsAt (w5.setCell ⟨c, 1, none⟩ (.slice (some ⟨g, 0, none⟩) 120 120)) p l ∧ Oe g r p l := fun {p l} h => by
    have h4 := h.below hb1
    refine ⟨(h4.below hb5).ap (ou_old h (by omega)) A, ?_⟩
    rcases h with h | ⟨x, off, hp, hx, _⟩
    · exact .inl h
    · refine .inr fun y off' hp' => ?_
      rw [hp] at hp'
      simp at hp'
      omega
  refine ⟨hL, ?_, set_there (there_kept hres hb5), rfl, hk.ap (.inr (by omega)) A, one hd.2.1, one hd.2.2.1, one hd.2.2.2, (hbl.trans (hb5.mono (by omega))).setCell (p := ⟨c, 1, none⟩) (by show b ≤ c; omega) _, by omega, by omega, by omega, hbr⟩
  have e : IL (In.withK i L) { a with k := some ⟨g, 0, none⟩, ck := 120 } = (IL i a).set 1 (.slice (some ⟨g, 0, none⟩) 120 120) := by
    show _ :: Value.slice _ L.length _ :: _ = _
    rw [hL]
    rfl
  rw [e]
  exact set_range (range_kept hr hb5)
namespace In
/-- The first k keys are made. -/
def stq (ks : List (Int × Int)) (f t : Nat) (s m : Int) (k : Nat) : List (Int × Int) := mkl fun j => if j < k then (skT ks f t s j, skV ks f t m j) else (0, 0)
theorem stq_len (ks : List (Int × Int)) (f t : Nat) (s m : Int) (k : Nat) : (stq ks f t s m k).length = 120 := mkl_len _
theorem stq_zero (ks : List (Int × Int)) (f t : Nat) (s m : Int) : stq ks f t s m 0 = mkl fun _ => (0, 0) := mkl_ext fun k _ => by simp
theorem stq_all (ks : List (Int × Int)) (f t : Nat) (s m : Int) {n : Nat} (h : ¬ ((n : Int) < 120)) : stq ks f t s m n = sk ks f t s m := mkl_ext fun k hk => by rw [if_pos (by omega)]
theorem stq_succ (ks : List (Int × Int)) (f t : Nat) (s m : Int) (n : Nat) {x y : Int} (hx : skT ks f t s n = x) (hy : skV ks f t m n = y) {j : Nat} (hj : (j : Int) < 120) : tk (stq ks f t s m (n + 1)) j = (if j = n then x else tk (stq ks f t s m n) j) ∧ vl (stq ks f t s m (n + 1)) j = (if j = n then y else vl (stq ks f t s m n) j) := by
  unfold stq
  rw [mkl_tk _ hj, mkl_tk _ hj, mkl_vl _ hj, mkl_vl _ hj]
  by_cases e : j = n
  · subst e
    rw [if_pos (by omega), if_pos rfl, if_pos rfl]
    exact ⟨hx, hy⟩
  · rw [if_neg e, if_neg e]
    by_cases h : j < n
    · rw [if_pos (by omega), if_pos h]; exact ⟨rfl, rfl⟩
    · rw [if_neg (by omega), if_neg h]; exact ⟨rfl, rfl⟩
theorem skT_in {ks : List (Int × Int)} {f t : Nat} {s : Int} {k : Nat} (h : f ≤ k ∧ k ≤ t) : skT ks f t s k = min (max ((k : Int) + s) 0) 119 := by unfold skT; rw [if_pos (by omega)]
theorem skV_in {ks : List (Int × Int)} {f t : Nat} {m : Int} {k : Nat} (h : f ≤ k ∧ k ≤ t) : skV ks f t m k = m := by unfold skV; rw [if_pos (by omega)]
theorem skT_out {ks : List (Int × Int)} {f t : Nat} {s : Int} {k : Nat} (h : ¬ (f ≤ k ∧ k ≤ t)) : skT ks f t s k = plA ks k := by unfold skT; rw [if_neg (by omega)]
theorem skV_out {ks : List (Int × Int)} {f t : Nat} {m : Int} {k : Nat} (h : ¬ (f ≤ k ∧ k ≤ t)) : skV ks f t m k = plB ks k 0 := by unfold skV; rw [if_neg (by omega)]
end In
theorem r_clamp (n : Int) (w : World) : Calls Try.prog 51 #[.int .i64 n, .int .i64 0, .int .i64 119] w fun x w' => x = .returned (.int .i64 (min (max n 0) 119)) ∧ w = w' := by
  by_cases h1 : n < 0
  · have HE := Lib.hid (show min (max n 0) 119 = 0 by omega)
    go_enter Try.func51, Try.ntmps51
    go_wp2
    go_ret
    exact ⟨ret_int HE.out.symm, rfl⟩
  · have HN := Lib.hid h1
    by_cases h2 : 119 < n
    · have HE := Lib.hid (show min (max n 0) 119 = 119 by omega)
      go_enter Try.func51, Try.ntmps51
      go_wp2
      go_ret
      exact ⟨ret_int HE.out.symm, rfl⟩
    · have HE := Lib.hid (show min (max n 0) 119 = n by omega)
      go_enter Try.func51, Try.ntmps51
      go_wp2
      go_ret
      exact ⟨ret_int HE.out.symm, rfl⟩
set_option maxRecDepth 100000 in
set_option maxHeartbeats 3200000 in
theorem r_set_no (i : In.Ins) (a : In.Loc) (f t s m : Int) (w : World) (hd : IPts w i a) (hm : i.name.size ≤ maxLen) (h5 : (i.keys.length : Int) ≤ 500) (h : In.ivld i = false) :
    Calls Try.prog 25 #[.agg (IL i a).toArray, .int .i64 f, .int .i64 t, .int .i64 s, .int .i64 m] w fun x w' => RetS (In.skI i f t s m) (In.skE i f t s m) w.heap.size x w' ∧ Below w.heap.size w w' := by
  have HE := Lib.hid (show In.skE i f t s m = 1 by unfold In.skE; rw [h]; rfl)
  have HJ := Lib.hid (show In.skI i f t s m = In.zer by unfold In.skI; rw [h]; rfl)
  obtain ⟨W, hW⟩ : ∃ W, W = (w.alloc (.cells (IL i a).toArray 40)).alloc (.cells (IL In.zer In.zel).toArray 40) := ⟨_, rfl⟩
  obtain ⟨b, hbe⟩ : ∃ b, b = w.heap.size := ⟨_, rfl⟩
  obtain ⟨r, hre⟩ : ∃ r, r = b + 1 := ⟨_, rfl⟩
  have HC0 := Lib.hid (show Cl w b r i a W by
    have q1 : w.heap.size + 1 = (w.alloc (.cells (IL i a).toArray 40)).heap.size := by simp
    rw [hW, hre, hbe]
    refine ⟨range_kept (range_box _ _ _) (below_box _ _), there_kept (there_box _ (IL i a) _) (below_box _ _), ?_, ⟨(hd.1.below (below_box _ _)).below (below_box _ _), ou_old hd.1 (Nat.le_refl _)⟩, ⟨(hd.2.1.below (below_box _ _)).below (below_box _ _), ou_old hd.2.1 (Nat.le_refl _)⟩, ⟨(hd.2.2.1.below (below_box _ _)).below (below_box _ _), ou_old hd.2.2.1 (Nat.le_refl _)⟩, ⟨(hd.2.2.2.below (below_box _ _)).below (below_box _ _), ou_old hd.2.2.2 (Nat.le_refl _)⟩, stepB (below_box _ _) (below_box _ _)⟩
    rw [q1]
    exact there_box _ (IL In.zer In.zel) _)
  have hbr : b ≤ r := by omega
  have HRW := Lib.hid (show r < W.heap.size by rw [hW, hre, hbe]; simp)
  have HWB := Lib.hid (show w.heap.size ≤ r by omega)
  have HBE := Lib.hid hbe
  have HB0 := Lib.hid (Below.refl W.heap.size W)
  have C2 := Lib.hid (fun u (hu : Below W.heap.size W u) => onB hu (r_Valid i a u ⟨(HC0.out.kept hu).pk.1, (HC0.out.kept hu).pv.1, (HC0.out.kept hu).pp.1, (HC0.out.kept hu).pt.1⟩ hm h5))
  rw [h] at C2
  clear h hm h5
  go_enter Try.func25, Try.ntmps25
  go_upto_region 1 with (first | (refine al_inst (by rfl) rfl ?_))
  rw [← hW, ← hbe, ← hre]
  clear hW hre hbe hd
  go_wp2_with (first | (refine ld_inst (by rfl) _ rfl rfl HC0.out.rng ?_) | (go_at_call 21; ((with_reducible refine (C2.out _ HB0.out).mono ?_); rintro x' w2 ⟨rfl, hb2⟩; have HB2 := Lib.hid hb2; clear hb2)) | (refine bd_inst (by rfl) rfl ?_) | ((refine st_inst (by rfl) _ _ rfl rfl rfl (HC0.out.kept HB2.out).res ?_); intro w6 hr6 ht6 hg6))
  refine bodyPost_ret (res_two rfl rfl hr6 rfl) rfl ?_
  rw [HE.out, HJ.out]
  refine ⟨⟨In.zel, rfl, zer_pts _, fun h => absurd rfl h⟩, ?_⟩
  have hbw := HBE.out
  rw [← hbw]
  exact ((HC0.out.kept HB2.out).blw).grown hg6 (by have := there_lt (HC0.out.kept HB2.out).res; omega) (fun k hk => by simp at hk; omega)
set_option maxRecDepth 100000 in
set_option maxHeartbeats 6400000 in
theorem r_set_bad (i : In.Ins) (a : In.Loc) (f t s m : Int) (w : World) (hd : IPts w i a) (hm : i.name.size ≤ maxLen) (h5 : (i.keys.length : Int) ≤ 500) (h : In.ivld i = true) (h2 : In.skok f t s m = false) :
    Calls Try.prog 25 #[.agg (IL i a).toArray, .int .i64 f, .int .i64 t, .int .i64 s, .int .i64 m] w fun x w' => RetS (In.skI i f t s m) (In.skE i f t s m) w.heap.size x w' ∧ Below w.heap.size w w' := by
  have HE := Lib.hid (show In.skE i f t s m = 5 by unfold In.skE; rw [h, h2]; rfl)
  have HJ := Lib.hid (show In.skI i f t s m = In.zer by unfold In.skI; rw [h, h2]; rfl)
  obtain ⟨W, hW⟩ : ∃ W, W = (w.alloc (.cells (IL i a).toArray 40)).alloc (.cells (IL In.zer In.zel).toArray 40) := ⟨_, rfl⟩
  obtain ⟨b, hbe⟩ : ∃ b, b = w.heap.size := ⟨_, rfl⟩
  obtain ⟨r, hre⟩ : ∃ r, r = b + 1 := ⟨_, rfl⟩
  have HC0 := Lib.hid (show Cl w b r i a W by
    have q1 : w.heap.size + 1 = (w.alloc (.cells (IL i a).toArray 40)).heap.size := by simp
    rw [hW, hre, hbe]
    refine ⟨range_kept (range_box _ _ _) (below_box _ _), there_kept (there_box _ (IL i a) _) (below_box _ _), ?_, ⟨(hd.1.below (below_box _ _)).below (below_box _ _), ou_old hd.1 (Nat.le_refl _)⟩, ⟨(hd.2.1.below (below_box _ _)).below (below_box _ _), ou_old hd.2.1 (Nat.le_refl _)⟩, ⟨(hd.2.2.1.below (below_box _ _)).below (below_box _ _), ou_old hd.2.2.1 (Nat.le_refl _)⟩, ⟨(hd.2.2.2.below (below_box _ _)).below (below_box _ _), ou_old hd.2.2.2 (Nat.le_refl _)⟩, stepB (below_box _ _) (below_box _ _)⟩
    rw [q1]
    exact there_box _ (IL In.zer In.zel) _)
  have hbr : b ≤ r := by omega
  have HRW := Lib.hid (show r < W.heap.size by rw [hW, hre, hbe]; simp)
  have HWB := Lib.hid (show w.heap.size ≤ r by omega)
  have HBE := Lib.hid hbe
  have HB0 := Lib.hid (Below.refl W.heap.size W)
  have C2 := Lib.hid (fun u (hu : Below W.heap.size W u) => onB hu (r_Valid i a u ⟨(HC0.out.kept hu).pk.1, (HC0.out.kept hu).pv.1, (HC0.out.kept hu).pp.1, (HC0.out.kept hu).pt.1⟩ hm h5))
  rw [h] at C2
  clear h hm h5
  have H2 := Lib.hid h2
  clear h2
  go_enter Try.func25, Try.ntmps25
  go_upto_region 1 with (first | (refine al_inst (by rfl) rfl ?_))
  rw [← hW, ← hbe, ← hre]
  clear hW hre hbe hd
  go_upto_region 3 with (first | (refine ld_inst (by rfl) _ rfl rfl HC0.out.rng ?_) | (go_at_call 21; ((with_reducible refine (C2.out _ HB0.out).mono ?_); rintro x' w2 ⟨rfl, hb2⟩; have HB2 := Lib.hid hb2; clear hb2)))
  go_cut [21] (fun x21 wx => x21 = .bool true ∧ wx = w2)
  case first =>
    by_cases f0 : f < 0
    · have d0 : decide (f < 0) = true := decide_eq_true f0
      go_wp2
      go_meet
      exact ⟨rfl, rfl⟩
    · have d0 : decide (f < 0) = false := decide_eq_false f0
      by_cases f1 : 119 < f
      · have d1 : decide (119 < f) = true := decide_eq_true f1
        go_wp2
        go_meet
        exact ⟨rfl, rfl⟩
      · have d1 : decide (119 < f) = false := decide_eq_false f1
        by_cases t1 : 119 < t
        · have d2 : decide (119 < t) = true := decide_eq_true t1
          go_wp2
          go_meet
          exact ⟨rfl, rfl⟩
        · have d2 : decide (119 < t) = false := decide_eq_false t1
          by_cases t0 : t < f
          · have d3 : decide (t < f) = true := decide_eq_true t0
            go_wp2
            go_meet
            exact ⟨rfl, rfl⟩
          · have d3 : decide (t < f) = false := decide_eq_false t0
            by_cases s0 : s < -119
            · have d4 : decide (s < -119) = true := decide_eq_true s0
              go_wp2
              go_meet
              exact ⟨rfl, rfl⟩
            · have d4 : decide (s < -119) = false := decide_eq_false s0
              by_cases s1 : 119 < s
              · have d5 : decide (119 < s) = true := decide_eq_true s1
                go_wp2
                go_meet
                exact ⟨rfl, rfl⟩
              · have d5 : decide (119 < s) = false := decide_eq_false s1
                by_cases m0 : m < 0
                · have d6 : decide (m < 0) = true := decide_eq_true m0
                  go_wp2
                  go_meet
                  exact ⟨rfl, rfl⟩
                · have d6 : decide (m < 0) = false := decide_eq_false m0
                  by_cases m1 : 31 < m
                  · have d7 : decide (31 < m) = true := decide_eq_true m1
                    go_wp2
                    go_meet
                    exact ⟨rfl, rfl⟩
                  · exact absurd H2.out (by simp [In.skok, In.wth]; omega)
  case rest =>
    obtain ⟨rfl, rfl⟩ := hcut
    go_wp2_with (first | (refine bd_inst (by rfl) rfl ?_) | ((refine st_inst (by rfl) _ _ rfl rfl rfl (HC0.out.kept HB2.out).res ?_); intro w6 hr6 ht6 hg6))
    refine bodyPost_ret (res_two rfl rfl hr6 rfl) rfl ?_
    rw [HE.out, HJ.out]
    refine ⟨⟨In.zel, rfl, zer_pts _, fun h => absurd rfl h⟩, ?_⟩
    have hbw := HBE.out
    rw [← hbw]
    exact ((HC0.out.kept HB2.out).blw).grown hg6 (by have := there_lt (HC0.out.kept HB2.out).res; omega) (fun k hk => by simp at hk; omega)
end Go.Proofs.Ytcchfahdgmcpbaa
