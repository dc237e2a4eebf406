/-
  The law PatternBlocks, for anything it is given.
-/
import Derived.Test.YtfjfnbeegojlbaaPBlAA
import Derived.Test.YtfjfnbeegojlbaaPBlAB
import Derived.Test.YtfjfnbeegojlbaaPBlBA
import Derived.Test.YtfjfnbeegojlbaaPBlBB
namespace Go.Proofs.Ytfjfnbeegojlbaa
open Go.RowKit

theorem blocks_any (x : Wk) (p : Option Addr) (cap : Nat) (p2 : Option Addr) (cap2 : Nat) (w : World) (hd : CellsAt w p x.l) (hcap : x.l.length ≤ cap) (hm : cap ≤ maxLen) (_ : CellsAt w p2 x.l2) (_ : x.l2.length ≤ cap2) (_ : cap2 ≤ maxLen) :
    Calls Try.prog 3 #[.agg (WL x p cap p2 cap2).toArray] w fun e w' => e = .returned (.bool true) ∧ Below w.heap.size w w' := by
  by_cases h : x.l.length ≤ 2000 ∧ Pt.vpat x.r x.l x.ch = true
  · by_cases hA : Pt.eArea x.r x.l x.ch x.a = 0 <;> by_cases hS : Pt.eSplit x.r x.l x.ch x.row = 0
    · exact blocks_aa x p cap p2 cap2 w hd hcap h.1 h.2 hA hS
    · exact blocks_ab x p cap p2 cap2 w hd hcap h.1 h.2 hA hS
    · exact blocks_ba x p cap p2 cap2 w hd hcap h.1 h.2 hA hS
    · exact blocks_bb x p cap p2 cap2 w hd hcap h.1 h.2 hA hS
  · exact blocks_out x p cap p2 cap2 w hd (by unfold maxLen at hm; omega) h
end Go.Proofs.Ytfjfnbeegojlbaa
