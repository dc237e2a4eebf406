/-
  Words for walking a region that draws its order, in the order of its text, over a class of worlds that each call keeps; and for a callee that changes nothing of what was there when a bigger call began. It says nothing of the program.
-/
import Derived.WalkKit
import Derived.BigQuiet
import Derived.Deep.QuietTactic
import Derived.Below
import Derived.Lib.Hide
namespace Go.Proofs.Ytcchfahdgmcpbaa
open Go.RowKit

/-- A world in which nothing of W has changed. -/
structure Kin (W : World) where
  w : World
  below : Below W.heap.size W w
instance {W : World} : Nonempty (Kin W) := ⟨⟨W, Below.refl _ _⟩⟩
/-- A region that draws, over the worlds in which nothing of W has changed. -/
theorem kin_region {P : Program} {id : Nat} {Q : Exit → Act → World → Prop} {a : Act} {W w : World} {l : List Oper} (hm : P.follows .mixedOrders = true) (hB : Region.lexB .any l.toArray = true) (hC : Below W.heap.size W w)
    (h : wpQuiet P l.toArray (fun w' => ∃ u : Kin W, w' = u.w) (fun a' => ∀ w', Below W.heap.size W w' → Q .normal a' w') l a) : (Code.region id l.toArray true).wp P Q a w := by
  refine wp_region_quiet (C := fun w' => ∃ u : Kin W, w' = u.w) hm hB ⟨⟨_, hC.drew⟩, rfl⟩ ?_
  have e : (fun a' => ∀ w', (∃ u : Kin W, w' = u.w) → Q .normal a' w') = fun a' => ∀ w', Below W.heap.size W w' → Q .normal a' w' := by
    funext a'
    apply propext
    exact ⟨fun h w' hw => h w' ⟨⟨w', hw⟩, rfl⟩, fun h w' ⟨u, hu⟩ => h w' (hu ▸ u.below)⟩
  rw [e]
  simpa using h
theorem kinB {P : Program} {f : FuncId} {args : Array Value} {W : World} {u : Kin W} {v : Value}
    (h : Calls P f args u.w fun x w' => x = .returned v ∧ Below u.w.heap.size u.w w') : Calls P f args u.w fun x w' => x = .returned v ∧ ∃ u' : Kin W, w' = u'.w :=
  h.mono fun _ w' ⟨he, hw⟩ => ⟨he, ⟨w', u.below.trans (hw.mono u.below.size)⟩, rfl⟩
theorem kinS {P : Program} {f : FuncId} {args : Array Value} {W : World} {u : Kin W} {v : Value}
    (h : Calls P f args u.w fun x w' => x = .returned v ∧ u.w = w') : Calls P f args u.w fun x w' => x = .returned v ∧ ∃ u' : Kin W, w' = u'.w :=
  h.mono fun _ _ ⟨he, hw⟩ => ⟨he, u, hw.symm⟩
/-- A callee that changes nothing of what was there when a bigger call began. -/
theorem onB {P : Program} {f : FuncId} {args : Array Value} {W w : World} {e0 : Ending} (hb : Below W.heap.size W w)
    (h : Calls P f args w fun x w' => x = e0 ∧ Below w.heap.size w w') : Calls P f args w fun x w' => x = e0 ∧ Below W.heap.size W w' :=
  h.mono fun _ _ ⟨he, hw⟩ => ⟨he, hb.trans (hw.mono hb.size)⟩
theorem onS {P : Program} {f : FuncId} {args : Array Value} {W w : World} {e0 : Ending} (hb : Below W.heap.size W w)
    (h : Calls P f args w fun x w' => x = e0 ∧ w = w') : Calls P f args w fun x w' => x = e0 ∧ Below W.heap.size W w' :=
  h.mono fun _ _ ⟨he, hw⟩ => ⟨he, hw ▸ hb⟩
end Go.Proofs.Ytcchfahdgmcpbaa
