/-
  The walk of the law SampleWalks, all ways: for any sample and steps it returns true; nothing that was there is changed.
-/
import Derived.Test.YtmaldhjcdkidmaaPWalks
namespace Go.Proofs.Ytmaldhjcdkidmaa
open Go.RowKit

theorem walks_any (x : Ak) (p : Option Addr) (cap : Nat) (zs : List Int) (q : Option Addr) (qc : Nat) (w : World) (hm : x.s.name.size ≤ maxLen) (hd : DatAt w p x.s.dat) (hl : (x.s.dat.length : Int) ≤ 9223372036854775807) (hq : DatAt w q zs) (hz : (zs.length : Int) ≤ 9223372036854775807) :
    Calls Try.prog 5 #[AV x p cap, .slice q zs.length qc] w fun z w' => z = .returned (.bool true) ∧ Below w.heap.size w w' := by
  cases hv : Sm.vld x.s
  · exact walks_bad x p cap zs q qc w hm hd hl hq hz hv
  · by_cases h : 200 < (zs.length : Int)
    · exact walks_long x p cap zs q qc w hm hd hl hq hz hv h
    · exact walks_ok x p cap zs q qc w hm hd hl hq hz hv (by omega)
end Go.Proofs.Ytmaldhjcdkidmaa
