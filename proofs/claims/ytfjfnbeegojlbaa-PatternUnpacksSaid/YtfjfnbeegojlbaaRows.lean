/-
  No cell of these rows narrows 'for every input' (looked for: loops, veiled, ifaces, maps, wideKeys, modest, calm, conditions, laid).
  DERIVED. THE GIVEN ROWS OF THIS SEAT. 3 by the template 'for every input the law returns true; each argument reads behind the call as it read before'; 0 by the template 'total and deterministic' (their statements: YtfjfnbeegojlbaaTotals.lean).
  GIVEN WITH THE SEED: the statements are not yours to turn. If you find one false, say at which input.
  Laid BY PROGRAM, IN A SANDBOX (cutbox-rows.mjs): the forced cells as the released guide's own fill.sh prints them over the translation 72b244fd8d163478… (all of the seat's roots in one cut). By AI agents, Wed Nov 11 2026. No macro, syntax, notation, axiom, sorry.
-/
import Derived.Test.YtfjfnbeegojlbaaChecked
import GoSem.Claim
import GoSem.ClaimJoined
import GoSem.ClaimMapViews
import Derived.JoinedTies
import Derived.KernelRfl
namespace Go.Proofs.Ytfjfnbeegojlbaa
/- THE CELL 'sum', in the pinned program and in every row, IS THE sha256 OF THE DUMP (.gsa) THAT YtfjfnbeegojlbaaProg.lean LOADS. Nothing in Lean hashes anything: it is a label: what it is worth is what the hold of that sum in a sandbox is worth. -/
noncomputable def Try.pinned : Pinned := { name := "ytfjfnbeegojlbaa", sum := "72b244fd8d163478bdf4d4cc8f1c9c3a8e32ccfdff3744c641df53aafe5a5791", checked := Try.checked }
namespace Rows
def none {H : Type} : Left H := { results := [], args := [] }

/-- 'orchestrionlaw05.PatternBlocks': WHATEVER THE INPUT: true; the input reads as it did. -/
def patternBlocksSpec : ChangeSpec := { name := "patternBlocks", fn := fun _ => fun
  | [d] => { results := [.lit (.bool true)], args := [d] }
  | _ => none }
def patternBlocksRow : OpenClaim := { program := "ytfjfnbeegojlbaa", sum := "72b244fd8d163478bdf4d4cc8f1c9c3a8e32ccfdff3744c641df53aafe5a5791", func := "orchestrion/orchestrionlaw05.PatternBlocks", spec := "patternBlocks", inPlace := ["internal/bytealg.IndexByteString", "internal/bytealg.IndexString", "internal/abi.NoEscape", "internal/bytealg.MakeNoZero"], unfollowed := true, recurses := true, named := ["internal/bytealg.MaxLen"], apart := false }
def PatternBlocksSaid : Prop := patternBlocksRow.holds Try.pinned (OpenSpec.ofChange patternBlocksSpec)

/-- ITS FALSE NEIGHBOUR: 'it returns false'. Refute it at one input. -/
def patternBlocksWrong : ChangeSpec := { name := "patternBlocks", fn := fun _ => fun
  | [d] => { results := [.lit (.bool false)], args := [d] }
  | _ => none }
def PatternBlocksWrongFalsely : Prop := patternBlocksRow.holds Try.pinned (OpenSpec.ofChange patternBlocksWrong)

/-- 'orchestrionlaw05.PatternPacks': WHATEVER THE INPUT: true; the input reads as it did. -/
def patternPacksSpec : ChangeSpec := { name := "patternPacks", fn := fun _ => fun
  | [d1, d2, d3] => { results := [.lit (.bool true)], args := [d1, d2, d3] }
  | _ => none }
def patternPacksRow : OpenClaim := { program := "ytfjfnbeegojlbaa", sum := "72b244fd8d163478bdf4d4cc8f1c9c3a8e32ccfdff3744c641df53aafe5a5791", func := "orchestrion/orchestrionlaw05.PatternPacks", spec := "patternPacks", inPlace := ["internal/bytealg.IndexByteString", "internal/bytealg.IndexString", "internal/abi.NoEscape", "internal/bytealg.MakeNoZero"], unfollowed := true, recurses := true, named := ["internal/bytealg.MaxLen"], apart := false }
def PatternPacksSaid : Prop := patternPacksRow.holds Try.pinned (OpenSpec.ofChange patternPacksSpec)

/-- ITS FALSE NEIGHBOUR: 'it returns false'. Refute it at one input. -/
def patternPacksWrong : ChangeSpec := { name := "patternPacks", fn := fun _ => fun
  | [d1, d2, d3] => { results := [.lit (.bool false)], args := [d1, d2, d3] }
  | _ => none }
def PatternPacksWrongFalsely : Prop := patternPacksRow.holds Try.pinned (OpenSpec.ofChange patternPacksWrong)

/-- 'orchestrionlaw05.PatternUnpacks': WHATEVER THE INPUT: true; the input reads as it did. -/
def patternUnpacksSpec : ChangeSpec := { name := "patternUnpacks", fn := fun _ => fun
  | [d1, d2, d3] => { results := [.lit (.bool true)], args := [d1, d2, d3] }
  | _ => none }
def patternUnpacksRow : OpenClaim := { program := "ytfjfnbeegojlbaa", sum := "72b244fd8d163478bdf4d4cc8f1c9c3a8e32ccfdff3744c641df53aafe5a5791", func := "orchestrion/orchestrionlaw05.PatternUnpacks", spec := "patternUnpacks", inPlace := ["internal/bytealg.IndexByteString", "internal/bytealg.IndexString", "internal/abi.NoEscape", "internal/bytealg.MakeNoZero"], unfollowed := true, recurses := true, named := ["internal/bytealg.MaxLen"], apart := false }
def PatternUnpacksSaid : Prop := patternUnpacksRow.holds Try.pinned (OpenSpec.ofChange patternUnpacksSpec)

/-- ITS FALSE NEIGHBOUR: 'it returns false'. Refute it at one input. -/
def patternUnpacksWrong : ChangeSpec := { name := "patternUnpacks", fn := fun _ => fun
  | [d1, d2, d3] => { results := [.lit (.bool false)], args := [d1, d2, d3] }
  | _ => none }
def PatternUnpacksWrongFalsely : Prop := patternUnpacksRow.holds Try.pinned (OpenSpec.ofChange patternUnpacksWrong)

/- THE SECOND FORM. 'bulk': how many values and letters a reading holds, each counted each time it is reached (what is shared counts as often as it is met; a slice's spare places count too). A statement '..UptoSaid' is the law's where the arguments, and the package variables that the reading takes, are together of bulk at most 1048576: NARROWER than '..Said'. Prove '..Said' where nothing that the law and all that it calls make is longer than what came in: it says more and counts as full. Else prove '..UptoSaid'. A law counts once. -/
mutual
def uptoBulk {H : Type} : DataW H → Nat
  | .lit (.string bytes) => bytes.length + 1
  | .lit _ => 1
  | .nil => 1
  | .ptr d => uptoBulk d + 1
  | .slice elems spare => uptoBulkAll elems + uptoBulkAll spare + 1
  | .agg parts => uptoBulkAll parts + 1
  | .iface _ d => uptoBulk d + 1
  | .map entries => uptoBulkEntries entries + 1
  | .held _ => 1
def uptoBulkAll {H : Type} : List (DataW H) → Nat
  | [] => 0
  | d :: r => uptoBulk d + uptoBulkAll r
def uptoBulkEntries {H : Type} : List (Lit × DataW H) → Nat
  | [] => 0
  | x :: r => uptoBulkEntry x + uptoBulkEntries r
def uptoBulkEntry {H : Type} : Lit × DataW H → Nat
  | (.string bytes, d) => bytes.length + uptoBulk d + 1
  | (_, d) => uptoBulk d + 1
 end
def uptoSmall : (H : Type) → List (DataW H) → Bool := fun _ ds => decide (uptoBulkAll ds ≤ 1048576)
def OpenSpec.upto (s : _root_.Go.ChangeSpec) : _root_.Go.OpenSpec := { _root_.Go.OpenSpec.ofChange s with cond := some uptoSmall }

/-- 'orchestrionlaw05.PatternBlocks', WHERE WHAT IT READS IS OF BULK AT MOST 1048576: true; the input reads as it did. -/
def patternBlocksUptoRow : OpenClaim := { program := "ytfjfnbeegojlbaa", sum := "72b244fd8d163478bdf4d4cc8f1c9c3a8e32ccfdff3744c641df53aafe5a5791", func := "orchestrion/orchestrionlaw05.PatternBlocks", spec := "patternBlocks", inPlace := ["internal/bytealg.IndexByteString", "internal/bytealg.IndexString", "internal/abi.NoEscape", "internal/bytealg.MakeNoZero"], unfollowed := true, recurses := true, named := ["internal/bytealg.MaxLen"], apart := false, narrowed := true }
def PatternBlocksUptoSaid : Prop := patternBlocksUptoRow.holds Try.pinned (OpenSpec.upto patternBlocksSpec)

/-- 'orchestrionlaw05.PatternPacks', WHERE WHAT IT READS IS OF BULK AT MOST 1048576: true; the input reads as it did. -/
def patternPacksUptoRow : OpenClaim := { program := "ytfjfnbeegojlbaa", sum := "72b244fd8d163478bdf4d4cc8f1c9c3a8e32ccfdff3744c641df53aafe5a5791", func := "orchestrion/orchestrionlaw05.PatternPacks", spec := "patternPacks", inPlace := ["internal/bytealg.IndexByteString", "internal/bytealg.IndexString", "internal/abi.NoEscape", "internal/bytealg.MakeNoZero"], unfollowed := true, recurses := true, named := ["internal/bytealg.MaxLen"], apart := false, narrowed := true }
def PatternPacksUptoSaid : Prop := patternPacksUptoRow.holds Try.pinned (OpenSpec.upto patternPacksSpec)

/-- 'orchestrionlaw05.PatternUnpacks', WHERE WHAT IT READS IS OF BULK AT MOST 1048576: true; the input reads as it did. -/
def patternUnpacksUptoRow : OpenClaim := { program := "ytfjfnbeegojlbaa", sum := "72b244fd8d163478bdf4d4cc8f1c9c3a8e32ccfdff3744c641df53aafe5a5791", func := "orchestrion/orchestrionlaw05.PatternUnpacks", spec := "patternUnpacks", inPlace := ["internal/bytealg.IndexByteString", "internal/bytealg.IndexString", "internal/abi.NoEscape", "internal/bytealg.MakeNoZero"], unfollowed := true, recurses := true, named := ["internal/bytealg.MaxLen"], apart := false, narrowed := true }
def PatternUnpacksUptoSaid : Prop := patternUnpacksUptoRow.holds Try.pinned (OpenSpec.upto patternUnpacksSpec)

end Rows
end Go.Proofs.Ytfjfnbeegojlbaa
