/-
  The reference's mixed.
-/
import Derived.Test.YtfjfnbeegojlbaaGreatRBadB
namespace Go.Proofs.YtfjfnbeegojlbaaGreat
open Go.RowKit

/-- A cell in a block, which may be written. -/
def Cb (w : World) (b : Nat) (c : Pt.Cl) : Prop := w.rangeAt b 0 (CL c) ∧ w.there b 0 6
theorem Cb.left {w : World} {b : Nat} {c : Pt.Cl} (h : Cb w b c) : w.rangeAt b 0 (CL c) := h.1
theorem Cb.drew {w : World} {b : Nat} {c : Pt.Cl} (h : Cb w b c) : Cb w.drew b c := h
theorem cb0 {w : World} {b : Nat} {c : Pt.Cl} {x : Int} (h : Cb w b c) : Cb (w.setCell ⟨b, 0, none⟩ (.int .i64 x)) b { c with nt := x } := ⟨range_set_in (p := 0) h.1 (by rw [cl_len]; decide), there_set h.2⟩
theorem cb1 {w : World} {b : Nat} {c : Pt.Cl} {x : Int} (h : Cb w b c) : Cb (w.setCell ⟨b, 1, none⟩ (.int .i64 x)) b { c with it := x } := ⟨range_set_in (o := 0) (p := 1) h.1 (by rw [cl_len]; decide), there_set h.2⟩
theorem cb2 {w : World} {b : Nat} {c : Pt.Cl} {x : Int} (h : Cb w b c) : Cb (w.setCell ⟨b, 2, none⟩ (.int .i64 x)) b { c with vc := x } := ⟨range_set_in (o := 0) (p := 2) h.1 (by rw [cl_len]; decide), there_set h.2⟩
theorem cb3 {w : World} {b : Nat} {c : Pt.Cl} {x : Int} (h : Cb w b c) : Cb (w.setCell ⟨b, 3, none⟩ (.int .i64 x)) b { c with va := x } := ⟨range_set_in (o := 0) (p := 3) h.1 (by rw [cl_len]; decide), there_set h.2⟩
theorem cb4 {w : World} {b : Nat} {c : Pt.Cl} {x : Int} (h : Cb w b c) : Cb (w.setCell ⟨b, 4, none⟩ (.int .i64 x)) b { c with ef := x } := ⟨range_set_in (o := 0) (p := 4) h.1 (by rw [cl_len]; decide), there_set h.2⟩
theorem cb5 {w : World} {b : Nat} {c : Pt.Cl} {x : Int} (h : Cb w b c) : Cb (w.setCell ⟨b, 5, none⟩ (.int .i64 x)) b { c with pa := x } := ⟨range_set_in (o := 0) (p := 5) h.1 (by rw [cl_len]; decide), there_set h.2⟩
theorem there_drew {w : World} {b o n : Nat} (h : w.there b o n) : w.drew.there b o n := h
theorem there_any {w : World} {b o n g p : Nat} {v : Value} (h : w.there b o n) : (w.setCell ⟨g, p, none⟩ v).there b o n := World.there_setCells h g p [v]
theorem below_set2 {w u : World} {B g o : Nat} {v : Value} (h : Below B w u ∧ B ≤ u.heap.size) (hg : B ≤ g) : Below B w (u.setCell ⟨g, o, none⟩ v) ∧ B ≤ (u.setCell ⟨g, o, none⟩ v).heap.size :=
  ⟨grown_at h.1 hg h.2 (grown_set _ _ _ _), Nat.le_trans h.2 (grown_set u g o v).size⟩
theorem below_dr {w u : World} {B : Nat} (h : Below B w u ∧ B ≤ u.heap.size) : Below B w u.drew ∧ B ≤ u.drew.heap.size := ⟨h.1.drew, h.2⟩
theorem fin_below {w u : World} {B g o : Nat} {vs : List Value} (h : Below B w u ∧ B ≤ u.heap.size) (hg : B ≤ g) : Below B w (u.setCells g o vs) := grown_at h.1 hg h.2 (grown_setCells _ _ _ _)
theorem mixed_new (w : World) (o c : Pt.Cl) : ∃ W, W = ((w.alloc (.cells (CL o).toArray 28)).alloc (.cells (CL c).toArray 28)).alloc (.cells (CL Pt.zc).toArray 28) ∧
    Below w.heap.size w W ∧ W.heap.size = w.heap.size + 3 ∧ Cb W w.heap.size o ∧ W.rangeAt (w.heap.size + 1) 0 (CL c) ∧ W.there (w.heap.size + 2) 0 6 := by
  obtain ⟨b, hb⟩ : ∃ b, b = w.heap.size := ⟨_, rfl⟩
  have e1 : (w.alloc (.cells (CL o).toArray 28)).heap.size = b + 1 := by rw [hb]; simp
  have e2 : ((w.alloc (.cells (CL o).toArray 28)).alloc (.cells (CL c).toArray 28)).heap.size = b + 2 := by rw [hb]; simp
  refine ⟨_, rfl, stepB (stepB (below_box _ _) (below_box _ _)) (below_box _ _), by simp, ⟨?_, ?_⟩, ?_, ?_⟩ <;> rw [← hb]
  · exact range_below (range_below (by rw [hb]; exact range_box _ _ _) (below_box _ _) (by omega)) (below_box _ _) (by omega)
  · exact there_below (there_below (by rw [hb]; exact there_box w (CL o) _) (below_box _ _) (by omega)) (below_box _ _) (by omega)
  · exact range_below (by rw [← e1]; exact range_box _ _ _) (below_box _ _) (by omega)
  · rw [← e2]; exact there_box _ (CL Pt.zc) _
set_option maxRecDepth 100000 in
set_option maxHeartbeats 6400000 in
theorem r_mixed (o c : Pt.Cl) (w : World) :
    Calls Tryz.prog 52 #[.agg (CL o).toArray, .agg (CL c).toArray] w fun x w' => x = .returned (.agg (CL (Pt.mixed o c)).toArray) ∧ Below w.heap.size w w' := by
  obtain ⟨W, hW, hB, hs, h0, h1, h2⟩ := mixed_new w o c
  obtain ⟨b, hb⟩ : ∃ b, b = w.heap.size := ⟨_, rfl⟩
  rw [← hb] at hs h0 h1 h2
  have HB := Lib.hid hB
  have HS := Lib.hid hs
  have H0 := Lib.hid h0
  have H2 := Lib.hid h2
  have HBE := Lib.hid hb
  obtain ⟨o0, o1, o2, o3, o4, o5⟩ := rng_cells h0.1
  obtain ⟨c0, c1, c2, c3, c4, c5⟩ := rng_cells h1
  simp only [Nat.zero_add] at o1 o2 o3 o4 o5 c1 c2 c3 c4 c5
  have f0 := (h0.2 0 (by decide)).2
  have f1 := (h0.2 1 (by decide)).2
  have f2 := (h0.2 2 (by decide)).2
  have f3 := (h0.2 3 (by decide)).2
  have f4 := (h0.2 4 (by decide)).2
  have f5 := (h0.2 5 (by decide)).2
  simp only [Nat.zero_add] at f0 f1 f2 f3 f4 f5
  rw [cl_arr o, cl_arr c, cl_zc] at hW
  rw [cl_arr o, cl_arr c]
  obtain ⟨M, hM⟩ : ∃ M, Pt.mixed o c = M := ⟨_, rfl⟩
  have HM := Lib.hid hM
  rw [hM]
  obtain ⟨n, i, v, a, e, p⟩ := o
  obtain ⟨n', i', v', a', e', p'⟩ := c
  dsimp only at hW o0 o1 o2 o3 o4 o5 c0 c1 c2 c3 c4 c5 ⊢
  clear hB hs h0 h1 h2 hM
  by_cases q2 : v = 0
  · subst q2
    by_cases q4 : e = 0
    · subst q4
      by_cases q0 : n = 0 <;> by_cases q1 : i = 0
      all_goals
        (try subst q0); (try subst q1)
        go_enter Tryz.func52, Tryz.ntmps52
        go_upto_region 1 with fail
        rw [← hW, ← hb]
        clear hW hb
        go_upto_region 6 with fail
        go_region
        all_goals
          go_upto_region 8 with fail
          go_region
          all_goals
            go_wp2_with (first | (refine ld_cell (by rfl) (.tmp 2) rfl rfl (Cb.left (by repeat (with_reducible first | exact H0.out | apply Cb.drew | apply cb0 | apply cb1 | apply cb2 | apply cb3 | apply cb4 | apply cb5))) ?_) | ((refine st_cell (by rfl) (.tmp 4) _ rfl rfl rfl (by (repeat (with_reducible first | apply there_drew | apply there_any)); exact H2.out) ?_); intro w9 h9; have H9 := Lib.hid h9; clear h9))
            have e1 := HBE.out
            have e2 := HS.out
            have hm : ∀ X : Pt.Cl, (∃ k, World.rangeAt w9 (b + 2) k (CL X) ∧ k = 0) → X = M → w9.rangeAt (b + 2) 0 (CL M) := by rintro X ⟨k, hk, rfl⟩ rfl; exact hk
            refine bodyPost_ret (res_row (cs := CL M) Tryz.underlying28 rfl (info_cl _) rfl rfl (hm _ ⟨0, by rw [H9.out]; exact World.rangeAt_setCells_same _ (b + 2) 0 (CL _) (by (repeat (with_reducible first | apply there_drew | apply there_any)); exact H2.out), rfl⟩ ?_)) rfl ⟨rfl, ?_⟩
            · rw [← HM.out]
              unfold Pt.mixed
              dsimp only
              repeat (first | rw [if_pos rfl] | rw [if_neg (by assumption)])
            · rw [H9.out]
              refine fin_below ?_ (by omega)
              repeat (with_reducible first | apply below_dr | refine below_set2 ?_ (by omega))
              exact ⟨HB.out, HB.out.size⟩
    · by_cases q0 : n = 0 <;> by_cases q1 : i = 0
      all_goals
        (try subst q0); (try subst q1)
        go_enter Tryz.func52, Tryz.ntmps52
        go_upto_region 1 with fail
        rw [← hW, ← hb]
        clear hW hb
        go_upto_region 6 with fail
        go_region
        all_goals
          go_wp2_with (first | (refine ld_cell (by rfl) (.tmp 2) rfl rfl (Cb.left (by repeat (with_reducible first | exact H0.out | apply Cb.drew | apply cb0 | apply cb1 | apply cb2 | apply cb3 | apply cb4 | apply cb5))) ?_) | ((refine st_cell (by rfl) (.tmp 4) _ rfl rfl rfl (by (repeat (with_reducible first | apply there_drew | apply there_any)); exact H2.out) ?_); intro w9 h9; have H9 := Lib.hid h9; clear h9))
          have e1 := HBE.out
          have e2 := HS.out
          have hm : ∀ X : Pt.Cl, (∃ k, World.rangeAt w9 (b + 2) k (CL X) ∧ k = 0) → X = M → w9.rangeAt (b + 2) 0 (CL M) := by rintro X ⟨k, hk, rfl⟩ rfl; exact hk
          refine bodyPost_ret (res_row (cs := CL M) Tryz.underlying28 rfl (info_cl _) rfl rfl (hm _ ⟨0, by rw [H9.out]; exact World.rangeAt_setCells_same _ (b + 2) 0 (CL _) (by (repeat (with_reducible first | apply there_drew | apply there_any)); exact H2.out), rfl⟩ ?_)) rfl ⟨rfl, ?_⟩
          · rw [← HM.out]
            unfold Pt.mixed
            dsimp only
            repeat (first | rw [if_pos rfl] | rw [if_neg (by assumption)])
          · rw [H9.out]
            refine fin_below ?_ (by omega)
            repeat (with_reducible first | apply below_dr | refine below_set2 ?_ (by omega))
            exact ⟨HB.out, HB.out.size⟩
  · by_cases q4 : e = 0
    · subst q4
      by_cases q0 : n = 0 <;> by_cases q1 : i = 0
      all_goals
        (try subst q0); (try subst q1)
        go_enter Tryz.func52, Tryz.ntmps52
        go_upto_region 1 with fail
        rw [← hW, ← hb]
        clear hW hb
        go_upto_region 8 with fail
        go_region
        all_goals
          go_wp2_with (first | (refine ld_cell (by rfl) (.tmp 2) rfl rfl (Cb.left (by repeat (with_reducible first | exact H0.out | apply Cb.drew | apply cb0 | apply cb1 | apply cb2 | apply cb3 | apply cb4 | apply cb5))) ?_) | ((refine st_cell (by rfl) (.tmp 4) _ rfl rfl rfl (by (repeat (with_reducible first | apply there_drew | apply there_any)); exact H2.out) ?_); intro w9 h9; have H9 := Lib.hid h9; clear h9))
          have e1 := HBE.out
          have e2 := HS.out
          have hm : ∀ X : Pt.Cl, (∃ k, World.rangeAt w9 (b + 2) k (CL X) ∧ k = 0) → X = M → w9.rangeAt (b + 2) 0 (CL M) := by rintro X ⟨k, hk, rfl⟩ rfl; exact hk
          refine bodyPost_ret (res_row (cs := CL M) Tryz.underlying28 rfl (info_cl _) rfl rfl (hm _ ⟨0, by rw [H9.out]; exact World.rangeAt_setCells_same _ (b + 2) 0 (CL _) (by (repeat (with_reducible first | apply there_drew | apply there_any)); exact H2.out), rfl⟩ ?_)) rfl ⟨rfl, ?_⟩
          · rw [← HM.out]
            unfold Pt.mixed
            dsimp only
            repeat (first | rw [if_pos rfl] | rw [if_neg (by assumption)])
          · rw [H9.out]
            refine fin_below ?_ (by omega)
            repeat (with_reducible first | apply below_dr | refine below_set2 ?_ (by omega))
            exact ⟨HB.out, HB.out.size⟩
    · by_cases q0 : n = 0 <;> by_cases q1 : i = 0
      all_goals
        (try subst q0); (try subst q1)
        go_enter Tryz.func52, Tryz.ntmps52
        go_upto_region 1 with fail
        rw [← hW, ← hb]
        clear hW hb
        go_wp2_with (first | (refine ld_cell (by rfl) (.tmp 2) rfl rfl (Cb.left (by repeat (with_reducible first | exact H0.out | apply Cb.drew | apply cb0 | apply cb1 | apply cb2 | apply cb3 | apply cb4 | apply cb5))) ?_) | ((refine st_cell (by rfl) (.tmp 4) _ rfl rfl rfl (by (repeat (with_reducible first | apply there_drew | apply there_any)); exact H2.out) ?_); intro w9 h9; have H9 := Lib.hid h9; clear h9))
        have e1 := HBE.out
        have e2 := HS.out
        have hm : ∀ X : Pt.Cl, (∃ k, World.rangeAt w9 (b + 2) k (CL X) ∧ k = 0) → X = M → w9.rangeAt (b + 2) 0 (CL M) := by rintro X ⟨k, hk, rfl⟩ rfl; exact hk
        refine bodyPost_ret (res_row (cs := CL M) Tryz.underlying28 rfl (info_cl _) rfl rfl (hm _ ⟨0, by rw [H9.out]; exact World.rangeAt_setCells_same _ (b + 2) 0 (CL _) (by (repeat (with_reducible first | apply there_drew | apply there_any)); exact H2.out), rfl⟩ ?_)) rfl ⟨rfl, ?_⟩
        · rw [← HM.out]
          unfold Pt.mixed
          dsimp only
          repeat (first | rw [if_pos rfl] | rw [if_neg (by assumption)])
        · rw [H9.out]
          refine fin_below ?_ (by omega)
          repeat (with_reducible first | apply below_dr | refine below_set2 ?_ (by omega))
          exact ⟨HB.out, HB.out.size⟩
end Go.Proofs.YtfjfnbeegojlbaaGreat
