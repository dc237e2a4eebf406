/-
  Package pattern's Parse.
-/
import Derived.Test.YtfjfnbeegojlbaaDoorCOu
namespace Go.Proofs.YtfjfnbeegojlbaaDoor
open Go.RowKit

theorem res_ce {fn : Func} {q u : Tmp} (hf : fn.results = #[.cell q 23, .tmp u]) {tmps : Array Value} {w : World} {b : Nat} (hp : tmps.getD q undef = .pointer (some ⟨b, 0, none⟩)) {c : Pt.Cl} {x : Value} (h : w.rangeAt b 0 (CL c)) (hv : tmps.getD u undef = x) :
    (results fn tmps).run Tryd.prog w = .ok (.tuple #[.agg (CL c).toArray, x]) w := by
  rw [results_cell_tmp hf, hp, hv]
  simp [Result.andThen, asAddr, run_loadVar_mid w b 0 23 (CL c) _ h Tryd.underlying23 rfl Tryd.infoCellSize]
/-- A cell and an error, as they are told of a text. -/
def RetPa (s : ByteArray) (x : Ending) : Prop := ∃ c e, x = .returned (.tuple #[.agg (CL c).toArray, .int .i64 e]) ∧ Pt.Told s c e
theorem told_ok {s : ByteArray} {c : Pt.Cl} (h : Pt.prT (Pt.spl s.data.toList) = some c) : Pt.Told s c 0 := .inl ⟨Pt.prT_is.1 h, rfl⟩
theorem told_bad {s : ByteArray} (h : Pt.prT (Pt.spl s.data.toList) = none) : Pt.Told s Pt.zc 2 := .inr ⟨fun d hd => by rw [Pt.prT_is.2 hd] at h; exact absurd h (by simp), rfl, rfl⟩
set_option maxRecDepth 20000 in
theorem p_Parse {w : World} (hm : MaxIs w) (s : ByteArray) (hs : s.size ≤ 140737488355328) :
    Calls Tryd.prog 8 #[.string s] w fun x w' => RetPa s x ∧ Below w.heap.size w w' := by
  obtain ⟨W, hW⟩ : ∃ W, W = (w.alloc (.cells #[.string s] 9)).alloc (.cells (CL Pt.zc).toArray 23) := ⟨_, rfl⟩
  obtain ⟨bt, hbt⟩ : ∃ bt, bt = w.heap.size := ⟨_, rfl⟩
  obtain ⟨bC, hbC⟩ : ∃ bC, bC = w.heap.size + 1 := ⟨_, rfl⟩
  have hB : Below w.heap.size w W := by rw [hW]; exact stepB (below_box _ _) (below_box _ _)
  have hR0 : W.rangeAt bC 0 (CL Pt.zc) := by rw [hW, hbC]; exact range_box2 w _ (CL Pt.zc) _ _
  have hT0 : W.there bC 0 6 := by
    have := there_box (w.alloc (.cells #[.string s] 9)) (CL Pt.zc) 23
    rw [cl_len] at this
    rw [hW, hbC]
    simpa using this
  have hS0 : W.cell? ⟨bt, 0, none⟩ = some (.string s) := by
    have := range_box w [.string s] 9 0 _ rfl
    rw [hW, hbt]
    exact kept_cell (below_box _ _) this
  have HW := Lib.hid (show Below w.heap.size w W ∧ W.heap.size = bC + 1 ∧ bt = w.heap.size ∧ bC = w.heap.size + 1 from ⟨hB, by rw [hW, hbC]; simp, hbt, hbC⟩)
  have HR := Lib.hid hR0
  have HT := Lib.hid hT0
  have hCl : bC < W.heap.size := by have := HW.out; omega
  have HL := Lib.hid hCl
  unfold CL Pt.zc at hW
  cases hp : Pt.prT (Pt.spl s.data.toList) with
  | none =>
    have HTO := Lib.hid (told_bad hp)
    have C := Lib.hid (p_outcome_err (w := W) (z := 2) (fun u hu => p_Parse1_bad (w := u) ((hm.kept hB).kept hu) (bC := bC) s hs (kept_cell hu hS0) hp))
    clear hp hs hm hR0 hT0 hS0 hB hCl
    go_enter Tryd.func8, Tryd.ntmps8
    go_upto_region 1 with fail
    rw [← hW, ← hbC, ← hbt]
    clear hW hbt hbC
    go_wp2_with (first | (go_at_call 18; ((with_reducible refine (C.out).mono ?_); rintro x' w1 ⟨rfl, hb1⟩; have HB1 := Lib.hid hb1; have HR1 := Lib.hid (range_below HR.out hb1 HL.out); have HT1 := Lib.hid (there_below HT.out hb1 HL.out); clear hb1)) | (refine ld_cell (by rfl) _ rfl rfl HR1.out ?_) | ((refine st_cell (c := Pt.zc) (by rfl) _ _ rfl rfl rfl HT1.out ?_); rintro w2 e2; have HR2 := Lib.hid (show w2.rangeAt bC 0 (CL Pt.zc) ∧ w1.grownBy w2 (some bC) by rw [e2]; exact ⟨World.rangeAt_setCells_same w1 bC 0 (CL Pt.zc) HT1.out, grown_setCells _ _ _ _⟩); clear e2))
    refine bodyPost_ret (res_ce rfl rfl HR2.out.1 rfl) rfl ⟨⟨_, _, rfl, HTO.out⟩, ?_⟩
    have := HW.out
    exact grown_at (stepB HW.out.1 HB1.out) (by omega) (by have := HB1.out.size; have := HW.out.1.size; omega) HR2.out.2
  | some c =>
    have HTO := Lib.hid (told_ok hp)
    have C := Lib.hid (p_outcome_ok (w := W) (bC := bC) (K := fun u => u.rangeAt bC 0 (CL c) ∧ u.there bC 0 6) hCl (fun u hu => p_Parse1_ok (w := u) ((hm.kept hB).kept hu) (bC := bC) s hs (kept_cell hu hS0) (there_below hT0 hu hCl) hp))
    clear hp hs hm hR0 hT0 hS0 hB hCl
    go_enter Tryd.func8, Tryd.ntmps8
    go_upto_region 1 with fail
    rw [← hW, ← hbC, ← hbt]
    clear hW hbt hbC
    go_wp2_with (first | (go_at_call 18; ((with_reducible refine (C.out).mono ?_); rintro x' w1 ⟨rfl, hb1, w0, ⟨hr0, ht0⟩, hg0⟩; have HB1 := Lib.hid hb1; have h0 := cell_lt (hr0 0 _ rfl); have HR1 := Lib.hid (range_grown hr0 hg0 (by have := HL.out; omega) h0); have HT1 := Lib.hid (there_grown ht0 hg0 (by have := HL.out; omega) h0); clear hb1 hr0 ht0 hg0 h0)) | (refine ld_cell (by rfl) _ rfl rfl HR1.out ?_) | ((refine st_cell (c := c) (by rfl) _ _ rfl rfl rfl HT1.out ?_); rintro w2 e2; have HR2 := Lib.hid (show w2.rangeAt bC 0 (CL c) ∧ w1.grownBy w2 (some bC) by rw [e2]; exact ⟨World.rangeAt_setCells_same w1 bC 0 (CL c) HT1.out, grown_setCells _ _ _ _⟩); clear e2))
    refine bodyPost_ret (res_ce rfl rfl HR2.out.1 rfl) rfl ⟨⟨_, _, rfl, HTO.out⟩, ?_⟩
    have := HW.out
    exact grown_at HW.out.1 (by omega) (by have := HW.out.1.size; omega) (grownBy_trans HB1.out HR2.out.2)
end Go.Proofs.YtfjfnbeegojlbaaDoor
