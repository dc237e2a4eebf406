/-
  NARROWER THAN 'FOR EVERY INPUT', by the rows' own cells (each row's printed sentence says how): ToneTells: laid · ToneNames: laid · ToneOctaves: laid · ToneRises: laid · ToneWaves: laid.
  DERIVED. THE GIVEN ROWS OF THIS SEAT. 5 by the template 'for every input the law returns true; each argument reads behind the call as it read before'; 0 by the template 'total and deterministic' (their statements: YtgoeflfnlanlnaaDoorTotals.lean).
  GIVEN WITH THE SEED: the statements are not yours to turn. If you find one false, say at which input.
  Laid BY PROGRAM, IN A SANDBOX (cutbox-rows.mjs): the forced cells as the released guide's own fill.sh prints them over the translation 8f40a84dd73f2973… (all of the seat's roots in one cut). By AI agents, Wed Nov 11 2026. No macro, syntax, notation, axiom, sorry.
-/
import Derived.Test.YtgoeflfnlanlnaaDoorChecked
import GoSem.Claim
import GoSem.ClaimJoined
import GoSem.ClaimMapViews
import Derived.JoinedTies
import Derived.KernelRfl
namespace Go.Proofs.YtgoeflfnlanlnaaDoor
/- THE CELL 'sum', in the pinned program and in every row, IS THE sha256 OF THE DUMP (.gsa) THAT YtgoeflfnlanlnaaDoorProg.lean LOADS. Nothing in Lean hashes anything: it is a label: what it is worth is what the hold of that sum in a sandbox is worth. -/
noncomputable def Tryd.pinned : Pinned := { name := "ytgoeflfnlanlnaadoor", sum := "8f40a84dd73f2973e0a24dc07eb7bcaba03b4377fe67aeb364334c88385c6733", checked := Tryd.checked }
namespace Rows
def none {H : Type} : Left H := { results := [], args := [] }

/- WHAT THE LISTED PACKAGE-LEVEL VARIABLES READ AS WHEN THE CALL BEGINS. Each datum BY PROGRAM (the guide's laid-datum.mjs) off the statement by which the dump's own 'gosem.cut.vars' lays the variable. In a bare row this is a premise. The card (YtgoeflfnlanlnaaDoorCards.lean) ties it to the program's text. -/
def laid_orchestrion_tone_letters {H : Type} : DataW H := .agg [.lit (.string [67, 45]), .lit (.string [67, 35]), .lit (.string [68, 45]), .lit (.string [68, 35]), .lit (.string [69, 45]), .lit (.string [70, 45]), .lit (.string [70, 35]), .lit (.string [71, 45]), .lit (.string [71, 35]), .lit (.string [65, 45]), .lit (.string [65, 35]), .lit (.string [66, 45])]
def laid_orchestrion_tone_quarter {H : Type} : DataW H := .agg [.lit (.int .i64 0), .lit (.int .i64 25), .lit (.int .i64 50), .lit (.int .i64 74), .lit (.int .i64 98), .lit (.int .i64 120), .lit (.int .i64 142), .lit (.int .i64 162), .lit (.int .i64 180), .lit (.int .i64 197), .lit (.int .i64 212), .lit (.int .i64 225), .lit (.int .i64 236), .lit (.int .i64 244), .lit (.int .i64 250), .lit (.int .i64 254), .lit (.int .i64 255)]

/-- 'orchestrionlaw01.ToneTells': WHATEVER THE INPUT: true; the input reads as it did. -/
def toneTellsSpec : ChangeSpec := { name := "toneTells", fn := fun _ => fun
  | [d] => { results := [.lit (.bool true)], args := [d] }
  | _ => none }
def toneTellsRow : OpenClaim := { program := "ytgoeflfnlanlnaadoor", sum := "8f40a84dd73f2973e0a24dc07eb7bcaba03b4377fe67aeb364334c88385c6733", func := "orchestrion/orchestrionlaw01.ToneTells", spec := "toneTells", named := ["orchestrion/tone.quarter", "orchestrion/tone.letters"], apart := false, laid := [("orchestrion/tone.letters", laid_orchestrion_tone_letters), ("orchestrion/tone.quarter", laid_orchestrion_tone_quarter)] }
def ToneTellsSaid : Prop := toneTellsRow.holds Tryd.pinned (OpenSpec.ofChange toneTellsSpec)

/-- ITS FALSE NEIGHBOUR: 'it returns false'. Refute it at one input. -/
def toneTellsWrong : ChangeSpec := { name := "toneTells", fn := fun _ => fun
  | [d] => { results := [.lit (.bool false)], args := [d] }
  | _ => none }
def ToneTellsWrongFalsely : Prop := toneTellsRow.holds Tryd.pinned (OpenSpec.ofChange toneTellsWrong)

/-- 'orchestrionlaw01.ToneNames': WHATEVER THE INPUT: true; the input reads as it did. -/
def toneNamesSpec : ChangeSpec := { name := "toneNames", fn := fun _ => fun
  | [d1, d2] => { results := [.lit (.bool true)], args := [d1, d2] }
  | _ => none }
def toneNamesRow : OpenClaim := { program := "ytgoeflfnlanlnaadoor", sum := "8f40a84dd73f2973e0a24dc07eb7bcaba03b4377fe67aeb364334c88385c6733", func := "orchestrion/orchestrionlaw01.ToneNames", spec := "toneNames", named := ["orchestrion/tone.letters", "orchestrion/tone.quarter"], apart := false, laid := [("orchestrion/tone.letters", laid_orchestrion_tone_letters), ("orchestrion/tone.quarter", laid_orchestrion_tone_quarter)] }
def ToneNamesSaid : Prop := toneNamesRow.holds Tryd.pinned (OpenSpec.ofChange toneNamesSpec)

/-- ITS FALSE NEIGHBOUR: 'it returns false'. Refute it at one input. -/
def toneNamesWrong : ChangeSpec := { name := "toneNames", fn := fun _ => fun
  | [d1, d2] => { results := [.lit (.bool false)], args := [d1, d2] }
  | _ => none }
def ToneNamesWrongFalsely : Prop := toneNamesRow.holds Tryd.pinned (OpenSpec.ofChange toneNamesWrong)

/-- 'orchestrionlaw01.ToneOctaves': WHATEVER THE INPUT: true; the input reads as it did. -/
def toneOctavesSpec : ChangeSpec := { name := "toneOctaves", fn := fun _ => fun
  | [d1, d2] => { results := [.lit (.bool true)], args := [d1, d2] }
  | _ => none }
def toneOctavesRow : OpenClaim := { program := "ytgoeflfnlanlnaadoor", sum := "8f40a84dd73f2973e0a24dc07eb7bcaba03b4377fe67aeb364334c88385c6733", func := "orchestrion/orchestrionlaw01.ToneOctaves", spec := "toneOctaves", named := ["orchestrion/tone.letters", "orchestrion/tone.quarter"], apart := false, laid := [("orchestrion/tone.letters", laid_orchestrion_tone_letters), ("orchestrion/tone.quarter", laid_orchestrion_tone_quarter)] }
def ToneOctavesSaid : Prop := toneOctavesRow.holds Tryd.pinned (OpenSpec.ofChange toneOctavesSpec)

/-- ITS FALSE NEIGHBOUR: 'it returns false'. Refute it at one input. -/
def toneOctavesWrong : ChangeSpec := { name := "toneOctaves", fn := fun _ => fun
  | [d1, d2] => { results := [.lit (.bool false)], args := [d1, d2] }
  | _ => none }
def ToneOctavesWrongFalsely : Prop := toneOctavesRow.holds Tryd.pinned (OpenSpec.ofChange toneOctavesWrong)

/-- 'orchestrionlaw01.ToneRises': WHATEVER THE INPUT: true; the input reads as it did. -/
def toneRisesSpec : ChangeSpec := { name := "toneRises", fn := fun _ => fun
  | [d1, d2, d3] => { results := [.lit (.bool true)], args := [d1, d2, d3] }
  | _ => none }
def toneRisesRow : OpenClaim := { program := "ytgoeflfnlanlnaadoor", sum := "8f40a84dd73f2973e0a24dc07eb7bcaba03b4377fe67aeb364334c88385c6733", func := "orchestrion/orchestrionlaw01.ToneRises", spec := "toneRises", named := ["orchestrion/tone.letters", "orchestrion/tone.quarter"], apart := false, laid := [("orchestrion/tone.letters", laid_orchestrion_tone_letters), ("orchestrion/tone.quarter", laid_orchestrion_tone_quarter)] }
def ToneRisesSaid : Prop := toneRisesRow.holds Tryd.pinned (OpenSpec.ofChange toneRisesSpec)

/-- ITS FALSE NEIGHBOUR: 'it returns false'. Refute it at one input. -/
def toneRisesWrong : ChangeSpec := { name := "toneRises", fn := fun _ => fun
  | [d1, d2, d3] => { results := [.lit (.bool false)], args := [d1, d2, d3] }
  | _ => none }
def ToneRisesWrongFalsely : Prop := toneRisesRow.holds Tryd.pinned (OpenSpec.ofChange toneRisesWrong)

/-- 'orchestrionlaw01.ToneWaves': WHATEVER THE INPUT: true; the input reads as it did. -/
def toneWavesSpec : ChangeSpec := { name := "toneWaves", fn := fun _ => fun
  | [d1, d2, d3] => { results := [.lit (.bool true)], args := [d1, d2, d3] }
  | _ => none }
def toneWavesRow : OpenClaim := { program := "ytgoeflfnlanlnaadoor", sum := "8f40a84dd73f2973e0a24dc07eb7bcaba03b4377fe67aeb364334c88385c6733", func := "orchestrion/orchestrionlaw01.ToneWaves", spec := "toneWaves", named := ["orchestrion/tone.letters", "orchestrion/tone.quarter"], apart := false, laid := [("orchestrion/tone.letters", laid_orchestrion_tone_letters), ("orchestrion/tone.quarter", laid_orchestrion_tone_quarter)] }
def ToneWavesSaid : Prop := toneWavesRow.holds Tryd.pinned (OpenSpec.ofChange toneWavesSpec)

/-- ITS FALSE NEIGHBOUR: 'it returns false'. Refute it at one input. -/
def toneWavesWrong : ChangeSpec := { name := "toneWaves", fn := fun _ => fun
  | [d1, d2, d3] => { results := [.lit (.bool false)], args := [d1, d2, d3] }
  | _ => none }
def ToneWavesWrongFalsely : Prop := toneWavesRow.holds Tryd.pinned (OpenSpec.ofChange toneWavesWrong)

/- THE SECOND FORM. 'bulk': how many values and letters a reading holds, each counted each time it is reached (what is shared counts as often as it is met; a slice's spare places count too). A statement '..UptoSaid' is the law's where the arguments, and the package variables that the reading takes, are together of bulk at most 1048576: NARROWER than '..Said'. Prove '..Said' where nothing that the law and all that it calls make is longer than what came in: it says more and counts as full. Else prove '..UptoSaid'. A law counts once. -/
mutual
def uptoBulk {H : Type} : DataW H → Nat
  | .lit (.string bytes) => bytes.length + 1
  | .lit _ => 1
  | .nil => 1
  | .ptr d => uptoBulk d + 1
  | .slice elems spare => uptoBulkAll elems + uptoBulkAll spare + 1
  | .agg parts => uptoBulkAll parts + 1
  | .iface _ d => uptoBulk d + 1
  | .map entries => uptoBulkEntries entries + 1
  | .held _ => 1
def uptoBulkAll {H : Type} : List (DataW H) → Nat
  | [] => 0
  | d :: r => uptoBulk d + uptoBulkAll r
def uptoBulkEntries {H : Type} : List (Lit × DataW H) → Nat
  | [] => 0
  | x :: r => uptoBulkEntry x + uptoBulkEntries r
def uptoBulkEntry {H : Type} : Lit × DataW H → Nat
  | (.string bytes, d) => bytes.length + uptoBulk d + 1
  | (_, d) => uptoBulk d + 1
 end
def uptoSmall : (H : Type) → List (DataW H) → Bool := fun _ ds => decide (uptoBulkAll ds ≤ 1048576)
def OpenSpec.upto (s : _root_.Go.ChangeSpec) : _root_.Go.OpenSpec := { _root_.Go.OpenSpec.ofChange s with cond := some uptoSmall }

/-- 'orchestrionlaw01.ToneTells', WHERE WHAT IT READS IS OF BULK AT MOST 1048576: true; the input reads as it did. -/
def toneTellsUptoRow : OpenClaim := { program := "ytgoeflfnlanlnaadoor", sum := "8f40a84dd73f2973e0a24dc07eb7bcaba03b4377fe67aeb364334c88385c6733", func := "orchestrion/orchestrionlaw01.ToneTells", spec := "toneTells", named := ["orchestrion/tone.quarter", "orchestrion/tone.letters"], apart := false, laid := [("orchestrion/tone.letters", laid_orchestrion_tone_letters), ("orchestrion/tone.quarter", laid_orchestrion_tone_quarter)], narrowed := true }
def ToneTellsUptoSaid : Prop := toneTellsUptoRow.holds Tryd.pinned (OpenSpec.upto toneTellsSpec)

/-- 'orchestrionlaw01.ToneNames', WHERE WHAT IT READS IS OF BULK AT MOST 1048576: true; the input reads as it did. -/
def toneNamesUptoRow : OpenClaim := { program := "ytgoeflfnlanlnaadoor", sum := "8f40a84dd73f2973e0a24dc07eb7bcaba03b4377fe67aeb364334c88385c6733", func := "orchestrion/orchestrionlaw01.ToneNames", spec := "toneNames", named := ["orchestrion/tone.letters", "orchestrion/tone.quarter"], apart := false, laid := [("orchestrion/tone.letters", laid_orchestrion_tone_letters), ("orchestrion/tone.quarter", laid_orchestrion_tone_quarter)], narrowed := true }
def ToneNamesUptoSaid : Prop := toneNamesUptoRow.holds Tryd.pinned (OpenSpec.upto toneNamesSpec)

/-- 'orchestrionlaw01.ToneOctaves', WHERE WHAT IT READS IS OF BULK AT MOST 1048576: true; the input reads as it did. -/
def toneOctavesUptoRow : OpenClaim := { program := "ytgoeflfnlanlnaadoor", sum := "8f40a84dd73f2973e0a24dc07eb7bcaba03b4377fe67aeb364334c88385c6733", func := "orchestrion/orchestrionlaw01.ToneOctaves", spec := "toneOctaves", named := ["orchestrion/tone.letters", "orchestrion/tone.quarter"], apart := false, laid := [("orchestrion/tone.letters", laid_orchestrion_tone_letters), ("orchestrion/tone.quarter", laid_orchestrion_tone_quarter)], narrowed := true }
def ToneOctavesUptoSaid : Prop := toneOctavesUptoRow.holds Tryd.pinned (OpenSpec.upto toneOctavesSpec)

/-- 'orchestrionlaw01.ToneRises', WHERE WHAT IT READS IS OF BULK AT MOST 1048576: true; the input reads as it did. -/
def toneRisesUptoRow : OpenClaim := { program := "ytgoeflfnlanlnaadoor", sum := "8f40a84dd73f2973e0a24dc07eb7bcaba03b4377fe67aeb364334c88385c6733", func := "orchestrion/orchestrionlaw01.ToneRises", spec := "toneRises", named := ["orchestrion/tone.letters", "orchestrion/tone.quarter"], apart := false, laid := [("orchestrion/tone.letters", laid_orchestrion_tone_letters), ("orchestrion/tone.quarter", laid_orchestrion_tone_quarter)], narrowed := true }
def ToneRisesUptoSaid : Prop := toneRisesUptoRow.holds Tryd.pinned (OpenSpec.upto toneRisesSpec)

/-- 'orchestrionlaw01.ToneWaves', WHERE WHAT IT READS IS OF BULK AT MOST 1048576: true; the input reads as it did. -/
def toneWavesUptoRow : OpenClaim := { program := "ytgoeflfnlanlnaadoor", sum := "8f40a84dd73f2973e0a24dc07eb7bcaba03b4377fe67aeb364334c88385c6733", func := "orchestrion/orchestrionlaw01.ToneWaves", spec := "toneWaves", named := ["orchestrion/tone.letters", "orchestrion/tone.quarter"], apart := false, laid := [("orchestrion/tone.letters", laid_orchestrion_tone_letters), ("orchestrion/tone.quarter", laid_orchestrion_tone_quarter)], narrowed := true }
def ToneWavesUptoSaid : Prop := toneWavesUptoRow.holds Tryd.pinned (OpenSpec.upto toneWavesSpec)

end Rows
end Go.Proofs.YtgoeflfnlanlnaaDoor
