/-
  What stays behind a call's growth of a row of its own; a store beside a sample's block. No walk.
-/
import Derived.Test.YtmaldhjcdkidmaaPUnroll
import Derived.Laws.AppendOwn
namespace Go.Proofs.Ytmaldhjcdkidmaa
open Go.RowKit

theorem grown_base {w w' : World} {B : Nat} {v : Value} (h : w.grownBy w' v.ownBlock) (hv : ∀ k, v.ownBlock = some k → B ≤ k) (hB : B ≤ w.heap.size) : Below B w w' :=
  ⟨h.os, h.tape, h.output, h.size, fun k hk => h.block k (Nat.lt_of_lt_of_le hk hB) (fun e => by have := hv k e.symm; omega)⟩
theorem Boxed.store {w : World} {b r : Nat} {s : Sm.Smp} {p : Option Addr} {cap : Nat} (h : Boxed w b s p cap) (hr : b ≠ r) (j : Nat) (v : Value) : Boxed (w.setCell ⟨r, j, none⟩ v) b s p cap := by
  unfold Boxed at *
  simp only [cell_set hr]
  exact h
end Go.Proofs.Ytmaldhjcdkidmaa
