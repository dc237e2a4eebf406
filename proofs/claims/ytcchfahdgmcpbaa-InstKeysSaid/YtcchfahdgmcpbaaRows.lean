/-
  No cell of these rows narrows 'for every input' (looked for: loops, veiled, ifaces, maps, wideKeys, modest, calm, conditions, laid).
  DERIVED. THE GIVEN ROWS OF THIS SEAT. 3 by the template 'for every input the law returns true; each argument reads behind the call as it read before'; 0 by the template 'total and deterministic' (their statements: YtcchfahdgmcpbaaTotals.lean).
  GIVEN WITH THE SEED: the statements are not yours to turn. If you find one false, say at which input.
  Laid BY PROGRAM, IN A SANDBOX (cutbox-rows.mjs): the forced cells as the released guide's own fill.sh prints them over the translation d643c5f5c2e5702e… (all of the seat's roots in one cut). By AI agents, Wed Nov 11 2026. No macro, syntax, notation, axiom, sorry.
-/
import Derived.Test.YtcchfahdgmcpbaaChecked
import GoSem.Claim
import GoSem.ClaimJoined
import GoSem.ClaimMapViews
import Derived.JoinedTies
import Derived.KernelRfl
namespace Go.Proofs.Ytcchfahdgmcpbaa
/- THE CELL 'sum', in the pinned program and in every row, IS THE sha256 OF THE DUMP (.gsa) THAT YtcchfahdgmcpbaaProg.lean LOADS. Nothing in Lean hashes anything: it is a label: what it is worth is what the hold of that sum in a sandbox is worth. -/
noncomputable def Try.pinned : Pinned := { name := "ytcchfahdgmcpbaa", sum := "d643c5f5c2e5702e245ad1c588e4f4ea9d553575c4ae0b5eae24f02091b0338f", checked := Try.checked }
namespace Rows
def none {H : Type} : Left H := { results := [], args := [] }

/-- 'orchestrionlaw04.InstCurves': WHATEVER THE INPUT: true; the input reads as it did. -/
def instCurvesSpec : ChangeSpec := { name := "instCurves", fn := fun _ => fun
  | [d] => { results := [.lit (.bool true)], args := [d] }
  | _ => none }
def instCurvesRow : OpenClaim := { program := "ytcchfahdgmcpbaa", sum := "d643c5f5c2e5702e245ad1c588e4f4ea9d553575c4ae0b5eae24f02091b0338f", func := "orchestrion/orchestrionlaw04.InstCurves", spec := "instCurves", unfollowed := true, recurses := true, apart := false }
def InstCurvesSaid : Prop := instCurvesRow.holds Try.pinned (OpenSpec.ofChange instCurvesSpec)

/-- ITS FALSE NEIGHBOUR: 'it returns false'. Refute it at one input. -/
def instCurvesWrong : ChangeSpec := { name := "instCurves", fn := fun _ => fun
  | [d] => { results := [.lit (.bool false)], args := [d] }
  | _ => none }
def InstCurvesWrongFalsely : Prop := instCurvesRow.holds Try.pinned (OpenSpec.ofChange instCurvesWrong)

/-- 'orchestrionlaw04.InstCircles': WHATEVER THE INPUT: true; the input reads as it did. -/
def instCirclesSpec : ChangeSpec := { name := "instCircles", fn := fun _ => fun
  | [d] => { results := [.lit (.bool true)], args := [d] }
  | _ => none }
def instCirclesRow : OpenClaim := { program := "ytcchfahdgmcpbaa", sum := "d643c5f5c2e5702e245ad1c588e4f4ea9d553575c4ae0b5eae24f02091b0338f", func := "orchestrion/orchestrionlaw04.InstCircles", spec := "instCircles", unfollowed := true, recurses := true, apart := false }
def InstCirclesSaid : Prop := instCirclesRow.holds Try.pinned (OpenSpec.ofChange instCirclesSpec)

/-- ITS FALSE NEIGHBOUR: 'it returns false'. Refute it at one input. -/
def instCirclesWrong : ChangeSpec := { name := "instCircles", fn := fun _ => fun
  | [d] => { results := [.lit (.bool false)], args := [d] }
  | _ => none }
def InstCirclesWrongFalsely : Prop := instCirclesRow.holds Try.pinned (OpenSpec.ofChange instCirclesWrong)

/-- 'orchestrionlaw04.InstKeys': WHATEVER THE INPUT: true; the input reads as it did. -/
def instKeysSpec : ChangeSpec := { name := "instKeys", fn := fun _ => fun
  | [d] => { results := [.lit (.bool true)], args := [d] }
  | _ => none }
def instKeysRow : OpenClaim := { program := "ytcchfahdgmcpbaa", sum := "d643c5f5c2e5702e245ad1c588e4f4ea9d553575c4ae0b5eae24f02091b0338f", func := "orchestrion/orchestrionlaw04.InstKeys", spec := "instKeys", unfollowed := true, recurses := true, apart := false }
def InstKeysSaid : Prop := instKeysRow.holds Try.pinned (OpenSpec.ofChange instKeysSpec)

/-- ITS FALSE NEIGHBOUR: 'it returns false'. Refute it at one input. -/
def instKeysWrong : ChangeSpec := { name := "instKeys", fn := fun _ => fun
  | [d] => { results := [.lit (.bool false)], args := [d] }
  | _ => none }
def InstKeysWrongFalsely : Prop := instKeysRow.holds Try.pinned (OpenSpec.ofChange instKeysWrong)

/- THE SECOND FORM. 'bulk': how many values and letters a reading holds, each counted each time it is reached (what is shared counts as often as it is met; a slice's spare places count too). A statement '..UptoSaid' is the law's where the arguments, and the package variables that the reading takes, are together of bulk at most 1048576: NARROWER than '..Said'. Prove '..Said' where nothing that the law and all that it calls make is longer than what came in: it says more and counts as full. Else prove '..UptoSaid'. A law counts once. -/
mutual
def uptoBulk {H : Type} : DataW H → Nat
  | .lit (.string bytes) => bytes.length + 1
  | .lit _ => 1
  | .nil => 1
  | .ptr d => uptoBulk d + 1
  | .slice elems spare => uptoBulkAll elems + uptoBulkAll spare + 1
  | .agg parts => uptoBulkAll parts + 1
  | .iface _ d => uptoBulk d + 1
  | .map entries => uptoBulkEntries entries + 1
  | .held _ => 1
def uptoBulkAll {H : Type} : List (DataW H) → Nat
  | [] => 0
  | d :: r => uptoBulk d + uptoBulkAll r
def uptoBulkEntries {H : Type} : List (Lit × DataW H) → Nat
  | [] => 0
  | x :: r => uptoBulkEntry x + uptoBulkEntries r
def uptoBulkEntry {H : Type} : Lit × DataW H → Nat
  | (.string bytes, d) => bytes.length + uptoBulk d + 1
  | (_, d) => uptoBulk d + 1
 end
def uptoSmall : (H : Type) → List (DataW H) → Bool := fun _ ds => decide (uptoBulkAll ds ≤ 1048576)
def OpenSpec.upto (s : _root_.Go.ChangeSpec) : _root_.Go.OpenSpec := { _root_.Go.OpenSpec.ofChange s with cond := some uptoSmall }

/-- 'orchestrionlaw04.InstCurves', WHERE WHAT IT READS IS OF BULK AT MOST 1048576: true; the input reads as it did. -/
def instCurvesUptoRow : OpenClaim := { program := "ytcchfahdgmcpbaa", sum := "d643c5f5c2e5702e245ad1c588e4f4ea9d553575c4ae0b5eae24f02091b0338f", func := "orchestrion/orchestrionlaw04.InstCurves", spec := "instCurves", unfollowed := true, recurses := true, apart := false, narrowed := true }
def InstCurvesUptoSaid : Prop := instCurvesUptoRow.holds Try.pinned (OpenSpec.upto instCurvesSpec)

/-- 'orchestrionlaw04.InstCircles', WHERE WHAT IT READS IS OF BULK AT MOST 1048576: true; the input reads as it did. -/
def instCirclesUptoRow : OpenClaim := { program := "ytcchfahdgmcpbaa", sum := "d643c5f5c2e5702e245ad1c588e4f4ea9d553575c4ae0b5eae24f02091b0338f", func := "orchestrion/orchestrionlaw04.InstCircles", spec := "instCircles", unfollowed := true, recurses := true, apart := false, narrowed := true }
def InstCirclesUptoSaid : Prop := instCirclesUptoRow.holds Try.pinned (OpenSpec.upto instCirclesSpec)

/-- 'orchestrionlaw04.InstKeys', WHERE WHAT IT READS IS OF BULK AT MOST 1048576: true; the input reads as it did. -/
def instKeysUptoRow : OpenClaim := { program := "ytcchfahdgmcpbaa", sum := "d643c5f5c2e5702e245ad1c588e4f4ea9d553575c4ae0b5eae24f02091b0338f", func := "orchestrion/orchestrionlaw04.InstKeys", spec := "instKeys", unfollowed := true, recurses := true, apart := false, narrowed := true }
def InstKeysUptoSaid : Prop := instKeysUptoRow.holds Try.pinned (OpenSpec.upto instKeysSpec)

end Rows
end Go.Proofs.Ytcchfahdgmcpbaa
