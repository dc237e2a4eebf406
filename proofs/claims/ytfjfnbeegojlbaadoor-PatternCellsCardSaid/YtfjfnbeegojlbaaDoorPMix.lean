/-
  Package pattern's mixed.
-/
import Derived.Test.YtfjfnbeegojlbaaDoorPPart
import Derived.Test.YtfjfnbeegojlbaaDoorPCopy
import Derived.Shelf.Abstract
namespace Go.Proofs.YtfjfnbeegojlbaaDoor
open Go.RowKit

namespace Pt
/-- The first k parts are mixed. -/
def mixTo : Nat → Cl → Cl → Cl
  | 0, o, _ => o
  | k + 1, o, c => if isSet (pv k (mixTo k o c)) then mixTo k o c else pw k (mixTo k o c) (pv k c)
theorem mixTo_all (o c : Cl) : mixTo 4 o c = mixed o c := by
  obtain ⟨a1, a2, a3, a4, a5, a6⟩ := o
  obtain ⟨c1, c2, c3, c4, c5, c6⟩ := c
  by_cases h1 : a1 = 0 <;> by_cases h2 : a2 = 0 <;> by_cases h3 : a3 = 0 <;> by_cases h5 : a5 = 0 <;> simp [mixTo, mixed, isSet, pv, pw, h1, h2, h3, h5]
end Pt
theorem eg {k : Nat} (hk : k < 4) : ∀ args w, (callFunc (gF k) args).run Tryd.prog w = .ok (.enter (gF k) args) w := by
  match k, hk with
  | 0, _ => exact enters_of Tryd.func24 (by kernel_rfl) rfl
  | 1, _ => exact enters_of Tryd.func28 (by kernel_rfl) rfl
  | 2, _ => exact enters_of Tryd.func32 (by kernel_rfl) rfl
  | 3, _ => exact enters_of Tryd.func36 (by kernel_rfl) rfl
theorem eu {k : Nat} (hk : k < 4) : ∀ args w, (callFunc (uF k) args).run Tryd.prog w = .ok (.enter (uF k) args) w := by
  match k, hk with
  | 0, _ => exact enters_of Tryd.func25 (by kernel_rfl) rfl
  | 1, _ => exact enters_of Tryd.func29 (by kernel_rfl) rfl
  | 2, _ => exact enters_of Tryd.func33 (by kernel_rfl) rfl
  | 3, _ => exact enters_of Tryd.func37 (by kernel_rfl) rfl
section
variable {ops : Array Oper} {rest : List Oper} {op : Oper} {a : Act} {w : World} {Q : Exit → Act → World → Prop}
set_option maxRecDepth 100000 in
/-- The part of a number, out of all parts. -/
theorem ix_part {k : Nat} (hk : k < 4) (hw : Region.wanted op (yielded ops a.tmps) = true) (x y : Operand) (ho : op.op = .index 39 x y) (hx : a.eval x = .agg PL.toArray) (hy : a.eval y = .int .i64 (k : Int))
    (h : wpList Tryd.prog ops Q rest (a.put op.dst (.agg (PK k).toArray)) w) : wpList Tryd.prog ops Q (op :: rest) a w := by
  simp only [wpList, hw, if_true]
  refine .inl ?_
  unfold Oper.wp execOp
  simp only [ho, hx, hy]
  match k, hk with
  | 0, _ => simp [go_sem, PL, PK]; exact h
  | 1, _ => simp [go_sem, PL, PK]; exact h
  | 2, _ => simp [go_sem, PL, PK]; exact h
  | 3, _ => simp [go_sem, PL, PK]; exact h
/-- Room for a part. -/
theorem al_part (hw : Region.wanted op (yielded ops a.tmps) = true) (ho : op.op = .alloc 38)
    (h : ∀ w', Below w.heap.size w w' → w'.heap.size = w.heap.size + 1 → w'.there w.heap.size 0 6 → wpList Tryd.prog ops Q rest (a.put op.dst (.pointer (some ⟨w.heap.size, 0, none⟩))) w') : wpList Tryd.prog ops Q (op :: rest) a w := by
  simp only [wpList, hw, if_true]
  refine .inl ?_
  unfold Oper.wp execOp
  simp only [ho]
  simp [go_sem]
  refine h _ (below_box _ _) (by simp) ?_
  exact there_box w [_, _, _, _, _, _] _
end
theorem grown_put {W u w' : World} {b o : Nat} {c : Pt.Cl} (hP : Put u b o c w') (hb : Below W.heap.size W u) : W.grownBy w' (some b) := grownBy_trans (grownBy_of hb) hP.gr
theorem keepMix {W : World} {b q : Nat} {c : Pt.Cl} {k : Nat} (hc : W.rangeAt (b + 1) 0 (CL c)) (hp : W.rangeAt q 0 (PK k)) (n : q ≠ b) {w' : World} (hb : W.grownBy w' (some b)) :
    W.grownBy w' (some b) ∧ w'.cell? ⟨q, 2, none⟩ = some (.func (.func (gF k)) #[] #[]) ∧ w'.cell? ⟨q, 3, none⟩ = some (.func (.func (uF k)) #[] #[]) ∧ w'.cell? ⟨b + 1, 0, none⟩ = some (.int .i64 c.nt) ∧ w'.cell? ⟨b + 1, 1, none⟩ = some (.int .i64 c.it) ∧ w'.cell? ⟨b + 1, 2, none⟩ = some (.int .i64 c.vc) ∧ w'.cell? ⟨b + 1, 3, none⟩ = some (.int .i64 c.va) ∧ w'.cell? ⟨b + 1, 4, none⟩ = some (.int .i64 c.ef) ∧ w'.cell? ⟨b + 1, 5, none⟩ = some (.int .i64 c.pa) :=
  have m : b + 1 ≠ b := by omega
  ⟨hb, cell_grown hb (hp 2 _ rfl) n, cell_grown hb (hp 3 _ rfl) n, cell_grown hb (hc 0 _ rfl) m, cell_grown hb (hc 1 _ rfl) m, cell_grown hb (hc 2 _ rfl) m, cell_grown hb (hc 3 _ rfl) m, cell_grown hb (hc 4 _ rfl) m, cell_grown hb (hc 5 _ rfl) m⟩
end Go.Proofs.YtfjfnbeegojlbaaDoor
