/-
  No cell of these rows narrows 'for every input' (looked for: loops, veiled, ifaces, maps, wideKeys, modest, calm, conditions, laid).
  DERIVED. THE GIVEN ROWS OF THIS SEAT. 7 by the template 'for every input the law returns true; each argument reads behind the call as it read before'; 0 by the template 'total and deterministic' (their statements: YtmaldhjcdkidmaaTotals.lean).
  GIVEN WITH THE SEED: the statements are not yours to turn. If you find one false, say at which input.
  Laid BY PROGRAM, IN A SANDBOX (cutbox-rows.mjs): the forced cells as the released guide's own fill.sh prints them over the translation ffc8c743dd6fb26c… (all of the seat's roots in one cut). By AI agents, Wed Nov 11 2026. No macro, syntax, notation, axiom, sorry.
-/
import Derived.Test.YtmaldhjcdkidmaaChecked
import GoSem.Claim
import GoSem.ClaimJoined
import GoSem.ClaimMapViews
import Derived.JoinedTies
import Derived.KernelRfl
namespace Go.Proofs.Ytmaldhjcdkidmaa
/- THE CELL 'sum', in the pinned program and in every row, IS THE sha256 OF THE DUMP (.gsa) THAT YtmaldhjcdkidmaaProg.lean LOADS. Nothing in Lean hashes anything: it is a label: what it is worth is what the hold of that sum in a sandbox is worth. -/
noncomputable def Try.pinned : Pinned := { name := "ytmaldhjcdkidmaa", sum := "ffc8c743dd6fb26ca70ccae129337c78aaa7a32f1176d8bbac25cdbd7276c904", checked := Try.checked }
namespace Rows
def none {H : Type} : Left H := { results := [], args := [] }

/-- 'orchestrionlaw02.SampleTells': WHATEVER THE INPUT: true; the input reads as it did. -/
def sampleTellsSpec : ChangeSpec := { name := "sampleTells", fn := fun _ => fun
  | [d] => { results := [.lit (.bool true)], args := [d] }
  | _ => none }
def sampleTellsRow : OpenClaim := { program := "ytmaldhjcdkidmaa", sum := "ffc8c743dd6fb26ca70ccae129337c78aaa7a32f1176d8bbac25cdbd7276c904", func := "orchestrion/orchestrionlaw02.SampleTells", spec := "sampleTells", unfollowed := true, recurses := true, apart := false }
def SampleTellsSaid : Prop := sampleTellsRow.holds Try.pinned (OpenSpec.ofChange sampleTellsSpec)

/-- ITS FALSE NEIGHBOUR: 'it returns false'. Refute it at one input. -/
def sampleTellsWrong : ChangeSpec := { name := "sampleTells", fn := fun _ => fun
  | [d] => { results := [.lit (.bool false)], args := [d] }
  | _ => none }
def SampleTellsWrongFalsely : Prop := sampleTellsRow.holds Try.pinned (OpenSpec.ofChange sampleTellsWrong)

/-- 'orchestrionlaw02.SampleWorks': WHATEVER THE INPUT: true; the input reads as it did. -/
def sampleWorksSpec : ChangeSpec := { name := "sampleWorks", fn := fun _ => fun
  | [d] => { results := [.lit (.bool true)], args := [d] }
  | _ => none }
def sampleWorksRow : OpenClaim := { program := "ytmaldhjcdkidmaa", sum := "ffc8c743dd6fb26ca70ccae129337c78aaa7a32f1176d8bbac25cdbd7276c904", func := "orchestrion/orchestrionlaw02.SampleWorks", spec := "sampleWorks", unfollowed := true, recurses := true, apart := false }
def SampleWorksSaid : Prop := sampleWorksRow.holds Try.pinned (OpenSpec.ofChange sampleWorksSpec)

/-- ITS FALSE NEIGHBOUR: 'it returns false'. Refute it at one input. -/
def sampleWorksWrong : ChangeSpec := { name := "sampleWorks", fn := fun _ => fun
  | [d] => { results := [.lit (.bool false)], args := [d] }
  | _ => none }
def SampleWorksWrongFalsely : Prop := sampleWorksRow.holds Try.pinned (OpenSpec.ofChange sampleWorksWrong)

/-- 'orchestrionlaw02.SampleWalks': WHATEVER THE INPUT: true; the input reads as it did. -/
def sampleWalksSpec : ChangeSpec := { name := "sampleWalks", fn := fun _ => fun
  | [d1, d2] => { results := [.lit (.bool true)], args := [d1, d2] }
  | _ => none }
def sampleWalksRow : OpenClaim := { program := "ytmaldhjcdkidmaa", sum := "ffc8c743dd6fb26ca70ccae129337c78aaa7a32f1176d8bbac25cdbd7276c904", func := "orchestrion/orchestrionlaw02.SampleWalks", spec := "sampleWalks", unfollowed := true, recurses := true, apart := false }
def SampleWalksSaid : Prop := sampleWalksRow.holds Try.pinned (OpenSpec.ofChange sampleWalksSpec)

/-- ITS FALSE NEIGHBOUR: 'it returns false'. Refute it at one input. -/
def sampleWalksWrong : ChangeSpec := { name := "sampleWalks", fn := fun _ => fun
  | [d1, d2] => { results := [.lit (.bool false)], args := [d1, d2] }
  | _ => none }
def SampleWalksWrongFalsely : Prop := sampleWalksRow.holds Try.pinned (OpenSpec.ofChange sampleWalksWrong)

/-- 'orchestrionlaw02.SampleSplits': WHATEVER THE INPUT: true; the input reads as it did. -/
def sampleSplitsSpec : ChangeSpec := { name := "sampleSplits", fn := fun _ => fun
  | [d1, d2, d3] => { results := [.lit (.bool true)], args := [d1, d2, d3] }
  | _ => none }
def sampleSplitsRow : OpenClaim := { program := "ytmaldhjcdkidmaa", sum := "ffc8c743dd6fb26ca70ccae129337c78aaa7a32f1176d8bbac25cdbd7276c904", func := "orchestrion/orchestrionlaw02.SampleSplits", spec := "sampleSplits", unfollowed := true, recurses := true, apart := false }
def SampleSplitsSaid : Prop := sampleSplitsRow.holds Try.pinned (OpenSpec.ofChange sampleSplitsSpec)

/-- ITS FALSE NEIGHBOUR: 'it returns false'. Refute it at one input. -/
def sampleSplitsWrong : ChangeSpec := { name := "sampleSplits", fn := fun _ => fun
  | [d1, d2, d3] => { results := [.lit (.bool false)], args := [d1, d2, d3] }
  | _ => none }
def SampleSplitsWrongFalsely : Prop := sampleSplitsRow.holds Try.pinned (OpenSpec.ofChange sampleSplitsWrong)

/-- 'orchestrionlaw02.SampleTurns': WHATEVER THE INPUT: true; the input reads as it did. -/
def sampleTurnsSpec : ChangeSpec := { name := "sampleTurns", fn := fun _ => fun
  | [d1, d2, d3] => { results := [.lit (.bool true)], args := [d1, d2, d3] }
  | _ => none }
def sampleTurnsRow : OpenClaim := { program := "ytmaldhjcdkidmaa", sum := "ffc8c743dd6fb26ca70ccae129337c78aaa7a32f1176d8bbac25cdbd7276c904", func := "orchestrion/orchestrionlaw02.SampleTurns", spec := "sampleTurns", unfollowed := true, recurses := true, apart := false }
def SampleTurnsSaid : Prop := sampleTurnsRow.holds Try.pinned (OpenSpec.ofChange sampleTurnsSpec)

/-- ITS FALSE NEIGHBOUR: 'it returns false'. Refute it at one input. -/
def sampleTurnsWrong : ChangeSpec := { name := "sampleTurns", fn := fun _ => fun
  | [d1, d2, d3] => { results := [.lit (.bool false)], args := [d1, d2, d3] }
  | _ => none }
def SampleTurnsWrongFalsely : Prop := sampleTurnsRow.holds Try.pinned (OpenSpec.ofChange sampleTurnsWrong)

/-- 'orchestrionlaw02.SampleUnrolls': WHATEVER THE INPUT: true; the input reads as it did. -/
def sampleUnrollsSpec : ChangeSpec := { name := "sampleUnrolls", fn := fun _ => fun
  | [d] => { results := [.lit (.bool true)], args := [d] }
  | _ => none }
def sampleUnrollsRow : OpenClaim := { program := "ytmaldhjcdkidmaa", sum := "ffc8c743dd6fb26ca70ccae129337c78aaa7a32f1176d8bbac25cdbd7276c904", func := "orchestrion/orchestrionlaw02.SampleUnrolls", spec := "sampleUnrolls", unfollowed := true, recurses := true, apart := false }
def SampleUnrollsSaid : Prop := sampleUnrollsRow.holds Try.pinned (OpenSpec.ofChange sampleUnrollsSpec)

/-- ITS FALSE NEIGHBOUR: 'it returns false'. Refute it at one input. -/
def sampleUnrollsWrong : ChangeSpec := { name := "sampleUnrolls", fn := fun _ => fun
  | [d] => { results := [.lit (.bool false)], args := [d] }
  | _ => none }
def SampleUnrollsWrongFalsely : Prop := sampleUnrollsRow.holds Try.pinned (OpenSpec.ofChange sampleUnrollsWrong)

/-- 'orchestrionlaw02.SampleBacks': WHATEVER THE INPUT: true; the input reads as it did. -/
def sampleBacksSpec : ChangeSpec := { name := "sampleBacks", fn := fun _ => fun
  | [d] => { results := [.lit (.bool true)], args := [d] }
  | _ => none }
def sampleBacksRow : OpenClaim := { program := "ytmaldhjcdkidmaa", sum := "ffc8c743dd6fb26ca70ccae129337c78aaa7a32f1176d8bbac25cdbd7276c904", func := "orchestrion/orchestrionlaw02.SampleBacks", spec := "sampleBacks", unfollowed := true, recurses := true, apart := false }
def SampleBacksSaid : Prop := sampleBacksRow.holds Try.pinned (OpenSpec.ofChange sampleBacksSpec)

/-- ITS FALSE NEIGHBOUR: 'it returns false'. Refute it at one input. -/
def sampleBacksWrong : ChangeSpec := { name := "sampleBacks", fn := fun _ => fun
  | [d] => { results := [.lit (.bool false)], args := [d] }
  | _ => none }
def SampleBacksWrongFalsely : Prop := sampleBacksRow.holds Try.pinned (OpenSpec.ofChange sampleBacksWrong)

/- THE SECOND FORM. 'bulk': how many values and letters a reading holds, each counted each time it is reached (what is shared counts as often as it is met; a slice's spare places count too). A statement '..UptoSaid' is the law's where the arguments, and the package variables that the reading takes, are together of bulk at most 1048576: NARROWER than '..Said'. Prove '..Said' where nothing that the law and all that it calls make is longer than what came in: it says more and counts as full. Else prove '..UptoSaid'. A law counts once. -/
mutual
def uptoBulk {H : Type} : DataW H → Nat
  | .lit (.string bytes) => bytes.length + 1
  | .lit _ => 1
  | .nil => 1
  | .ptr d => uptoBulk d + 1
  | .slice elems spare => uptoBulkAll elems + uptoBulkAll spare + 1
  | .agg parts => uptoBulkAll parts + 1
  | .iface _ d => uptoBulk d + 1
  | .map entries => uptoBulkEntries entries + 1
  | .held _ => 1
def uptoBulkAll {H : Type} : List (DataW H) → Nat
  | [] => 0
  | d :: r => uptoBulk d + uptoBulkAll r
def uptoBulkEntries {H : Type} : List (Lit × DataW H) → Nat
  | [] => 0
  | x :: r => uptoBulkEntry x + uptoBulkEntries r
def uptoBulkEntry {H : Type} : Lit × DataW H → Nat
  | (.string bytes, d) => bytes.length + uptoBulk d + 1
  | (_, d) => uptoBulk d + 1
 end
def uptoSmall : (H : Type) → List (DataW H) → Bool := fun _ ds => decide (uptoBulkAll ds ≤ 1048576)
def OpenSpec.upto (s : _root_.Go.ChangeSpec) : _root_.Go.OpenSpec := { _root_.Go.OpenSpec.ofChange s with cond := some uptoSmall }

/-- 'orchestrionlaw02.SampleTells', WHERE WHAT IT READS IS OF BULK AT MOST 1048576: true; the input reads as it did. -/
def sampleTellsUptoRow : OpenClaim := { program := "ytmaldhjcdkidmaa", sum := "ffc8c743dd6fb26ca70ccae129337c78aaa7a32f1176d8bbac25cdbd7276c904", func := "orchestrion/orchestrionlaw02.SampleTells", spec := "sampleTells", unfollowed := true, recurses := true, apart := false, narrowed := true }
def SampleTellsUptoSaid : Prop := sampleTellsUptoRow.holds Try.pinned (OpenSpec.upto sampleTellsSpec)

/-- 'orchestrionlaw02.SampleWorks', WHERE WHAT IT READS IS OF BULK AT MOST 1048576: true; the input reads as it did. -/
def sampleWorksUptoRow : OpenClaim := { program := "ytmaldhjcdkidmaa", sum := "ffc8c743dd6fb26ca70ccae129337c78aaa7a32f1176d8bbac25cdbd7276c904", func := "orchestrion/orchestrionlaw02.SampleWorks", spec := "sampleWorks", unfollowed := true, recurses := true, apart := false, narrowed := true }
def SampleWorksUptoSaid : Prop := sampleWorksUptoRow.holds Try.pinned (OpenSpec.upto sampleWorksSpec)

/-- 'orchestrionlaw02.SampleWalks', WHERE WHAT IT READS IS OF BULK AT MOST 1048576: true; the input reads as it did. -/
def sampleWalksUptoRow : OpenClaim := { program := "ytmaldhjcdkidmaa", sum := "ffc8c743dd6fb26ca70ccae129337c78aaa7a32f1176d8bbac25cdbd7276c904", func := "orchestrion/orchestrionlaw02.SampleWalks", spec := "sampleWalks", unfollowed := true, recurses := true, apart := false, narrowed := true }
def SampleWalksUptoSaid : Prop := sampleWalksUptoRow.holds Try.pinned (OpenSpec.upto sampleWalksSpec)

/-- 'orchestrionlaw02.SampleSplits', WHERE WHAT IT READS IS OF BULK AT MOST 1048576: true; the input reads as it did. -/
def sampleSplitsUptoRow : OpenClaim := { program := "ytmaldhjcdkidmaa", sum := "ffc8c743dd6fb26ca70ccae129337c78aaa7a32f1176d8bbac25cdbd7276c904", func := "orchestrion/orchestrionlaw02.SampleSplits", spec := "sampleSplits", unfollowed := true, recurses := true, apart := false, narrowed := true }
def SampleSplitsUptoSaid : Prop := sampleSplitsUptoRow.holds Try.pinned (OpenSpec.upto sampleSplitsSpec)

/-- 'orchestrionlaw02.SampleTurns', WHERE WHAT IT READS IS OF BULK AT MOST 1048576: true; the input reads as it did. -/
def sampleTurnsUptoRow : OpenClaim := { program := "ytmaldhjcdkidmaa", sum := "ffc8c743dd6fb26ca70ccae129337c78aaa7a32f1176d8bbac25cdbd7276c904", func := "orchestrion/orchestrionlaw02.SampleTurns", spec := "sampleTurns", unfollowed := true, recurses := true, apart := false, narrowed := true }
def SampleTurnsUptoSaid : Prop := sampleTurnsUptoRow.holds Try.pinned (OpenSpec.upto sampleTurnsSpec)

/-- 'orchestrionlaw02.SampleUnrolls', WHERE WHAT IT READS IS OF BULK AT MOST 1048576: true; the input reads as it did. -/
def sampleUnrollsUptoRow : OpenClaim := { program := "ytmaldhjcdkidmaa", sum := "ffc8c743dd6fb26ca70ccae129337c78aaa7a32f1176d8bbac25cdbd7276c904", func := "orchestrion/orchestrionlaw02.SampleUnrolls", spec := "sampleUnrolls", unfollowed := true, recurses := true, apart := false, narrowed := true }
def SampleUnrollsUptoSaid : Prop := sampleUnrollsUptoRow.holds Try.pinned (OpenSpec.upto sampleUnrollsSpec)

/-- 'orchestrionlaw02.SampleBacks', WHERE WHAT IT READS IS OF BULK AT MOST 1048576: true; the input reads as it did. -/
def sampleBacksUptoRow : OpenClaim := { program := "ytmaldhjcdkidmaa", sum := "ffc8c743dd6fb26ca70ccae129337c78aaa7a32f1176d8bbac25cdbd7276c904", func := "orchestrion/orchestrionlaw02.SampleBacks", spec := "sampleBacks", unfollowed := true, recurses := true, apart := false, narrowed := true }
def SampleBacksUptoSaid : Prop := sampleBacksUptoRow.holds Try.pinned (OpenSpec.upto sampleBacksSpec)

end Rows
end Go.Proofs.Ytmaldhjcdkidmaa
