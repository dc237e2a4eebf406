/-
  Marks in an array of thirty-two; what is returned of samples. No walk.
-/
import Derived.Test.YtcchfahdgmcpbaaRKey
import Derived.Test.YtcchfahdgmcpbaaRCurve
import Derived.Deep.DeepCutAuto
namespace Go.Proofs.Ytcchfahdgmcpbaa
open Go.RowKit

/-- Thirty-two marks in a block of their own, which may be written. -/
def Ar (w : World) (g : Nat) (f : Int → Bool) : Prop := ∀ j : Nat, j < 32 → w.cell? ⟨g, j, none⟩ = some (.bool (f j)) ∧ w.frozen? ⟨g, j, none⟩ = false
theorem Ar.lt {w : World} {g : Nat} {f : Int → Bool} (h : Ar w g f) : g < w.heap.size := cell_lt (h 0 (by omega)).1
theorem Ar.kept {w w' : World} {g : Nat} {f : Int → Bool} (h : Ar w g f) (hb : Below w.heap.size w w') : Ar w' g f := by
  intro j hj
  rw [hb.cell (p := ⟨g, j, none⟩) h.lt, hb.frozen (p := ⟨g, j, none⟩) h.lt]
  exact h j hj
theorem Ar.low {w w' : World} {g B : Nat} {f : Int → Bool} (h : Ar w g f) (hg : g < B) (hb : Below B w w') : Ar w' g f := by
  intro j hj
  rw [hb.cell (p := ⟨g, j, none⟩) hg, hb.frozen (p := ⟨g, j, none⟩) hg]
  exact h j hj
theorem ar_new (w : World) (t : TypeId) : Ar (w.alloc (.cells (List.replicate 32 (.bool false)).toArray t)) w.heap.size (fun _ => false) := by
  intro j hj
  refine ⟨?_, World.frozen?_alloc_at _ _ _ _ rfl⟩
  have := range_box w (List.replicate 32 (.bool false)) t j (.bool false) (List.getElem?_replicate_of_lt hj)
  rwa [Nat.zero_add] at this
theorem Ar.set {w : World} {g : Nat} {f f' : Int → Bool} (h : Ar w g f) {m : Nat} (hf : ∀ j : Nat, f' j = (f j || decide ((m : Int) = j))) : Ar (w.setCell ⟨g, m, none⟩ (.bool true)) g f' := by
  intro j hj
  refine ⟨?_, by simpa using (h j hj).2⟩
  by_cases e : m = j
  · subst e
    rw [hf, decide_eq_true rfl, Bool.or_true]
    exact World.cell?_setCell_same _ _ _ (h m hj).1
  · rw [World.cell?_setCell_other _ _ _ _ (fun x => e (congrArg Addr.off x)), (h j hj).1, hf, decide_eq_false (by omega), Bool.or_false]
section
variable {ops : Array Oper} {rest : List Oper} {op : Oper} {a : Act} {w : World} {Q : Exit → Act → World → Prop}
theorem al_arr (hw : Region.wanted op (yielded ops a.tmps) = true) (ho : op.op = .alloc 77)
    (h : wpList Try.prog ops Q rest (a.put op.dst (.pointer (some ⟨w.heap.size, 0, none⟩))) (w.alloc (.cells (List.replicate 32 (.bool false)).toArray 77))) : wpList Try.prog ops Q (op :: rest) a w := by
  simp only [wpList, hw, if_true]
  refine .inl ?_
  unfold Oper.wp execOp
  simp only [ho]
  simp [go_sem]
  exact h
end
theorem smp_no {i : In.Ins} {own : Int} (h : In.ivld i = false) : In.smp i own = [] := by unfold In.smp; rw [h]; rfl
theorem smp_own {i : In.Ins} {own : Int} (h : In.ivld i = true) (h0 : i.keys = []) : In.smp i own = In.pos own := by unfold In.smp; rw [if_pos h, if_pos h0]
theorem smp_keys {i : In.Ins} {own : Int} (h : In.ivld i = true) (h0 : i.keys ≠ []) : In.smp i own = In.smpTo i.keys 31 := by unfold In.smp; rw [if_pos h, if_neg h0]
theorem smpTo_step (ks : List (Int × Int)) {n : Nat} (h : 1 ≤ n) : In.smpTo ks n = In.smpTo ks (n - 1) ++ (if In.seen ks n = true then [(n : Int)] else []) := by
  obtain ⟨k, rfl⟩ : ∃ k, n = k + 1 := ⟨n - 1, by omega⟩
  rw [In.smpTo_succ]
  simp
theorem PtsAt.fix {w : World} {p : Option Addr} {ps : List (Int × Int)} (h : PtsAt w p ps) (hne : ps ≠ []) : ∃ b off, p = some ⟨b, off, none⟩ ∧ ∀ w', Below w.heap.size w w' → ∀ i, i < ps.length → w'.cell? ⟨b, off + i * 2, none⟩ = some (.int .i64 (In.tk ps i)) ∧ w'.cell? ⟨b, off + i * 2 + 1, none⟩ = some (.int .i64 (In.vl ps i)) := by
  rcases h with h | ⟨b, off, hp, hl, hc⟩
  · exact absurd h hne
  · exact ⟨b, off, hp, fun w' hb i hi => by rw [hb.cell (p := ⟨b, _, none⟩) hl, hb.cell (p := ⟨b, _, none⟩) hl]; exact hc i hi⟩
/-- What is returned where there is nothing. -/
theorem reti_nil (B : Nat) (w' : World) : RetI [] B (.returned (.slice none 0 0)) w' := ⟨_, rfl, rfl, .inl ⟨rfl, rfl⟩⟩
/-- A new row of one number. -/
theorem reti_one (w : World) (B : Nat) (hB : B ≤ w.heap.size) (y : Int) : RetI [y] B (.returned (.slice (some ⟨w.heap.size, 0, none⟩) 1 1)) (w.alloc (.cells #[.int .i64 y] 3)) := by
  refine ⟨_, rfl, rfl, .inr ⟨w.heap.size, 1, #[.int .i64 y], rfl, hB, heap_alloc_new w _, Nat.le_refl 1, by unfold maxLen; omega, rfl, rfl⟩⟩
end Go.Proofs.Ytcchfahdgmcpbaa
