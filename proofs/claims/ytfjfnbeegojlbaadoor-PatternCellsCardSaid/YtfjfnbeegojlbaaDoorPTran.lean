/-
  Package pattern's Transpose.
-/
import Derived.Test.YtfjfnbeegojlbaaDoorPUp
namespace Go.Proofs.YtfjfnbeegojlbaaDoor
open Go.RowKit

theorem own_some {w : World} {B : Nat} {p : Option Addr} {l : List Pt.Cl} (h : Own w B p l) (hp : 0 < l.length) : ∃ g, p = some ⟨g, 0, none⟩ ∧ B ≤ g ∧ Kr w g l := by
  rcases h with rfl | h
  · simp at hp
  · exact h
end Go.Proofs.YtfjfnbeegojlbaaDoor
