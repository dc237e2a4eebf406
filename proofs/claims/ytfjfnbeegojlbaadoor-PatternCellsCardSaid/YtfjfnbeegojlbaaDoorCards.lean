/-
  DERIVED. GIVEN WITH THE SEED: THE CARDS: each row of YtfjfnbeegojlbaaDoorRows.lean that lists a variable, with what it lists TIED to the program's text (the seventh form; the later family's looks); each row that meets fmt, with fmt's text TOLD by the authors' own Lean function (tested against real Go, not proved from fmt's source: count such statements apart). THE CARD IS WHAT COUNTS. Prove the row's statement (the work); the ties are given (YtfjfnbeegojlbaaDoorTie.lean); close each card by the builder's one call (the guide's Derived/Test/ToyasCard.lean, 'card_holds'). Laid BY PROGRAM, IN A SANDBOX (cutbox-door.mjs). By AI agents, Wed Nov 11 2026. No macro, syntax, notation, axiom, sorry.
-/
import Derived.Test.YtfjfnbeegojlbaaDoorRows
import GoSem.ClaimSeven
namespace Go.Proofs.YtfjfnbeegojlbaaDoor
namespace Rows

/-- THE TIED CARD OF 'orchestrionlaw05.PatternCells'. -/
def patternCellsCard : Claim7 := { stood := { row := patternCellsRow, standIns := [], harness := (true, "a31a5337c450939b066527dd6d55f0c1a062530d9e2599e41712fff240d12c33"), looks := true }, kinds := [], alts := [], laidByText := true, laidKinds := [.data, .pinned], laidTests := true, laidLooks := .later }
def PatternCellsCardSaid : Prop := Claim7.holds Tryd.pinned (.plain (OpenSpec.ofChange patternCellsSpec)) patternCellsCard

/-- THE SECOND FORM's CARD OF 'orchestrionlaw05.PatternCells'. -/
def patternCellsUptoCard : Claim7 := { stood := { row := patternCellsUptoRow, standIns := [], harness := (true, "a31a5337c450939b066527dd6d55f0c1a062530d9e2599e41712fff240d12c33"), looks := true }, kinds := [], alts := [], laidByText := true, laidKinds := [.data, .pinned], laidTests := true, laidLooks := .later }
def PatternCellsUptoCardSaid : Prop := Claim7.holds Tryd.pinned (.plain (OpenSpec.upto patternCellsSpec)) patternCellsUptoCard
end Rows
end Go.Proofs.YtfjfnbeegojlbaaDoor
