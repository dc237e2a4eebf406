/-
  DERIVED. GIVEN WITH THE SEED: THE CARDS: each row of YtgoeflfnlanlnaaDoorRows.lean that lists a variable, with what it lists TIED to the program's text (the seventh form; the later family's looks); each row that meets fmt, with fmt's text TOLD by the authors' own Lean function (tested against real Go, not proved from fmt's source: count such statements apart). THE CARD IS WHAT COUNTS. Prove the row's statement (the work); the ties are given (YtgoeflfnlanlnaaDoorTie.lean); close each card by the builder's one call (the guide's Derived/Test/ToyasCard.lean, 'card_holds'). Laid BY PROGRAM, IN A SANDBOX (cutbox-door.mjs). By AI agents, Wed Nov 11 2026. No macro, syntax, notation, axiom, sorry.
-/
import Derived.Test.YtgoeflfnlanlnaaDoorRows
import GoSem.ClaimSeven
namespace Go.Proofs.YtgoeflfnlanlnaaDoor
namespace Rows

/-- THE TIED CARD OF 'orchestrionlaw01.ToneTells'. -/
def toneTellsCard : Claim7 := { stood := { row := toneTellsRow, standIns := [], harness := (true, "d3266657e57a577ec2c7695032721c637fb3326a06774dd29849d89eb6d5b535"), looks := false }, kinds := [], alts := [], laidByText := true, laidKinds := [.data, .data], laidTests := true, laidLooks := .later }
def ToneTellsCardSaid : Prop := Claim7.holds Tryd.pinned (.plain (OpenSpec.ofChange toneTellsSpec)) toneTellsCard

/-- THE TIED CARD OF 'orchestrionlaw01.ToneNames'. -/
def toneNamesCard : Claim7 := { stood := { row := toneNamesRow, standIns := [], harness := (true, "d3266657e57a577ec2c7695032721c637fb3326a06774dd29849d89eb6d5b535"), looks := false }, kinds := [], alts := [], laidByText := true, laidKinds := [.data, .data], laidTests := true, laidLooks := .later }
def ToneNamesCardSaid : Prop := Claim7.holds Tryd.pinned (.plain (OpenSpec.ofChange toneNamesSpec)) toneNamesCard

/-- THE TIED CARD OF 'orchestrionlaw01.ToneOctaves'. -/
def toneOctavesCard : Claim7 := { stood := { row := toneOctavesRow, standIns := [], harness := (true, "d3266657e57a577ec2c7695032721c637fb3326a06774dd29849d89eb6d5b535"), looks := false }, kinds := [], alts := [], laidByText := true, laidKinds := [.data, .data], laidTests := true, laidLooks := .later }
def ToneOctavesCardSaid : Prop := Claim7.holds Tryd.pinned (.plain (OpenSpec.ofChange toneOctavesSpec)) toneOctavesCard

/-- THE TIED CARD OF 'orchestrionlaw01.ToneRises'. -/
def toneRisesCard : Claim7 := { stood := { row := toneRisesRow, standIns := [], harness := (true, "d3266657e57a577ec2c7695032721c637fb3326a06774dd29849d89eb6d5b535"), looks := false }, kinds := [], alts := [], laidByText := true, laidKinds := [.data, .data], laidTests := true, laidLooks := .later }
def ToneRisesCardSaid : Prop := Claim7.holds Tryd.pinned (.plain (OpenSpec.ofChange toneRisesSpec)) toneRisesCard

/-- THE TIED CARD OF 'orchestrionlaw01.ToneWaves'. -/
def toneWavesCard : Claim7 := { stood := { row := toneWavesRow, standIns := [], harness := (true, "d3266657e57a577ec2c7695032721c637fb3326a06774dd29849d89eb6d5b535"), looks := false }, kinds := [], alts := [], laidByText := true, laidKinds := [.data, .data], laidTests := true, laidLooks := .later }
def ToneWavesCardSaid : Prop := Claim7.holds Tryd.pinned (.plain (OpenSpec.ofChange toneWavesSpec)) toneWavesCard

/-- THE SECOND FORM's CARD OF 'orchestrionlaw01.ToneTells'. -/
def toneTellsUptoCard : Claim7 := { stood := { row := toneTellsUptoRow, standIns := [], harness := (true, "d3266657e57a577ec2c7695032721c637fb3326a06774dd29849d89eb6d5b535"), looks := false }, kinds := [], alts := [], laidByText := true, laidKinds := [.data, .data], laidTests := true, laidLooks := .later }
def ToneTellsUptoCardSaid : Prop := Claim7.holds Tryd.pinned (.plain (OpenSpec.upto toneTellsSpec)) toneTellsUptoCard

/-- THE SECOND FORM's CARD OF 'orchestrionlaw01.ToneNames'. -/
def toneNamesUptoCard : Claim7 := { stood := { row := toneNamesUptoRow, standIns := [], harness := (true, "d3266657e57a577ec2c7695032721c637fb3326a06774dd29849d89eb6d5b535"), looks := false }, kinds := [], alts := [], laidByText := true, laidKinds := [.data, .data], laidTests := true, laidLooks := .later }
def ToneNamesUptoCardSaid : Prop := Claim7.holds Tryd.pinned (.plain (OpenSpec.upto toneNamesSpec)) toneNamesUptoCard

/-- THE SECOND FORM's CARD OF 'orchestrionlaw01.ToneOctaves'. -/
def toneOctavesUptoCard : Claim7 := { stood := { row := toneOctavesUptoRow, standIns := [], harness := (true, "d3266657e57a577ec2c7695032721c637fb3326a06774dd29849d89eb6d5b535"), looks := false }, kinds := [], alts := [], laidByText := true, laidKinds := [.data, .data], laidTests := true, laidLooks := .later }
def ToneOctavesUptoCardSaid : Prop := Claim7.holds Tryd.pinned (.plain (OpenSpec.upto toneOctavesSpec)) toneOctavesUptoCard

/-- THE SECOND FORM's CARD OF 'orchestrionlaw01.ToneRises'. -/
def toneRisesUptoCard : Claim7 := { stood := { row := toneRisesUptoRow, standIns := [], harness := (true, "d3266657e57a577ec2c7695032721c637fb3326a06774dd29849d89eb6d5b535"), looks := false }, kinds := [], alts := [], laidByText := true, laidKinds := [.data, .data], laidTests := true, laidLooks := .later }
def ToneRisesUptoCardSaid : Prop := Claim7.holds Tryd.pinned (.plain (OpenSpec.upto toneRisesSpec)) toneRisesUptoCard

/-- THE SECOND FORM's CARD OF 'orchestrionlaw01.ToneWaves'. -/
def toneWavesUptoCard : Claim7 := { stood := { row := toneWavesUptoRow, standIns := [], harness := (true, "d3266657e57a577ec2c7695032721c637fb3326a06774dd29849d89eb6d5b535"), looks := false }, kinds := [], alts := [], laidByText := true, laidKinds := [.data, .data], laidTests := true, laidLooks := .later }
def ToneWavesUptoCardSaid : Prop := Claim7.holds Tryd.pinned (.plain (OpenSpec.upto toneWavesSpec)) toneWavesUptoCard
end Rows
end Go.Proofs.YtgoeflfnlanlnaaDoor
