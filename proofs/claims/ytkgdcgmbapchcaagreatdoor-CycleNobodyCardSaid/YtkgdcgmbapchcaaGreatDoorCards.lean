/-
  DERIVED. GIVEN WITH THE SEED: THE CARDS: each row of YtkgdcgmbapchcaaGreatDoorRows.lean that lists a variable, with what it lists TIED to the program's text (the seventh form; the later family's looks); each row that meets fmt, with fmt's text TOLD by the authors' own Lean function (tested against real Go, not proved from fmt's source: count such statements apart). THE CARD IS WHAT COUNTS. Prove the row's statement (the work); the ties are given (YtkgdcgmbapchcaaGreatDoorTie.lean); close each card by the builder's one call (the guide's Derived/Test/ToyasCard.lean, 'card_holds'). Laid BY PROGRAM, IN A SANDBOX (cutbox-door.mjs). By AI agents, Wed Nov 11 2026. No macro, syntax, notation, axiom, sorry.
-/
import Derived.Test.YtkgdcgmbapchcaaGreatDoorRows
import GoSem.ClaimSeven
namespace Go.Proofs.YtkgdcgmbapchcaaGreatDoor
namespace Rows

/-- THE TIED CARD OF 'scutagelaw23.CycleRuns'. -/
def cycleRunsCard : Claim7 := { stood := { row := cycleRunsRow, standIns := [], harness := (true, "3c0d5968f541efdc70693683100fa1009b4ea9e44c52c260f05cbf13f286dea9"), looks := false }, kinds := [], alts := [], laidByText := true, laidKinds := [.data, .data], laidTests := true, laidLooks := .later }
def CycleRunsCardSaid : Prop := Claim7.holds Tryz.pinned (.plain (OpenSpec.ofChange cycleRunsSpec)) cycleRunsCard

/-- THE TIED CARD OF 'scutagelaw23.CycleSafe'. -/
def cycleSafeCard : Claim7 := { stood := { row := cycleSafeRow, standIns := [], harness := (true, "3c0d5968f541efdc70693683100fa1009b4ea9e44c52c260f05cbf13f286dea9"), looks := false }, kinds := [], alts := [], laidByText := true, laidKinds := [.data, .data], laidTests := true, laidLooks := .later }
def CycleSafeCardSaid : Prop := Claim7.holds Tryz.pinned (.plain (OpenSpec.ofChange cycleSafeSpec)) cycleSafeCard

/-- THE TIED CARD OF 'scutagelaw23.CycleMarks'. -/
def cycleMarksCard : Claim7 := { stood := { row := cycleMarksRow, standIns := [], harness := (true, "3c0d5968f541efdc70693683100fa1009b4ea9e44c52c260f05cbf13f286dea9"), looks := false }, kinds := [], alts := [], laidByText := true, laidKinds := [.data, .data], laidTests := true, laidLooks := .later }
def CycleMarksCardSaid : Prop := Claim7.holds Tryz.pinned (.plain (OpenSpec.ofChange cycleMarksSpec)) cycleMarksCard

/-- THE TIED CARD OF 'scutagelaw23.CycleFrees'. -/
def cycleFreesCard : Claim7 := { stood := { row := cycleFreesRow, standIns := [], harness := (true, "3c0d5968f541efdc70693683100fa1009b4ea9e44c52c260f05cbf13f286dea9"), looks := false }, kinds := [], alts := [], laidByText := true, laidKinds := [.data, .data], laidTests := true, laidLooks := .later }
def CycleFreesCardSaid : Prop := Claim7.holds Tryz.pinned (.plain (OpenSpec.ofChange cycleFreesSpec)) cycleFreesCard

/-- THE TIED CARD OF 'scutagelaw23.CycleEnds'. -/
def cycleEndsCard : Claim7 := { stood := { row := cycleEndsRow, standIns := [], harness := (true, "3c0d5968f541efdc70693683100fa1009b4ea9e44c52c260f05cbf13f286dea9"), looks := false }, kinds := [], alts := [], laidByText := true, laidKinds := [.data, .data], laidTests := true, laidLooks := .later }
def CycleEndsCardSaid : Prop := Claim7.holds Tryz.pinned (.plain (OpenSpec.ofChange cycleEndsSpec)) cycleEndsCard

/-- THE TIED CARD OF 'scutagelaw23.CycleNobody'. -/
def cycleNobodyCard : Claim7 := { stood := { row := cycleNobodyRow, standIns := [], harness := (true, "3c0d5968f541efdc70693683100fa1009b4ea9e44c52c260f05cbf13f286dea9"), looks := false }, kinds := [], alts := [], laidByText := true, laidKinds := [.data, .data], laidTests := true, laidLooks := .later }
def CycleNobodyCardSaid : Prop := Claim7.holds Tryz.pinned (.plain (OpenSpec.ofChange cycleNobodySpec)) cycleNobodyCard

/-- THE SECOND FORM's CARD OF 'scutagelaw23.CycleRuns'. -/
def cycleRunsUptoCard : Claim7 := { stood := { row := cycleRunsUptoRow, standIns := [], harness := (true, "3c0d5968f541efdc70693683100fa1009b4ea9e44c52c260f05cbf13f286dea9"), looks := false }, kinds := [], alts := [], laidByText := true, laidKinds := [.data, .data], laidTests := true, laidLooks := .later }
def CycleRunsUptoCardSaid : Prop := Claim7.holds Tryz.pinned (.plain (OpenSpec.upto cycleRunsSpec)) cycleRunsUptoCard

/-- THE SECOND FORM's CARD OF 'scutagelaw23.CycleSafe'. -/
def cycleSafeUptoCard : Claim7 := { stood := { row := cycleSafeUptoRow, standIns := [], harness := (true, "3c0d5968f541efdc70693683100fa1009b4ea9e44c52c260f05cbf13f286dea9"), looks := false }, kinds := [], alts := [], laidByText := true, laidKinds := [.data, .data], laidTests := true, laidLooks := .later }
def CycleSafeUptoCardSaid : Prop := Claim7.holds Tryz.pinned (.plain (OpenSpec.upto cycleSafeSpec)) cycleSafeUptoCard

/-- THE SECOND FORM's CARD OF 'scutagelaw23.CycleMarks'. -/
def cycleMarksUptoCard : Claim7 := { stood := { row := cycleMarksUptoRow, standIns := [], harness := (true, "3c0d5968f541efdc70693683100fa1009b4ea9e44c52c260f05cbf13f286dea9"), looks := false }, kinds := [], alts := [], laidByText := true, laidKinds := [.data, .data], laidTests := true, laidLooks := .later }
def CycleMarksUptoCardSaid : Prop := Claim7.holds Tryz.pinned (.plain (OpenSpec.upto cycleMarksSpec)) cycleMarksUptoCard

/-- THE SECOND FORM's CARD OF 'scutagelaw23.CycleFrees'. -/
def cycleFreesUptoCard : Claim7 := { stood := { row := cycleFreesUptoRow, standIns := [], harness := (true, "3c0d5968f541efdc70693683100fa1009b4ea9e44c52c260f05cbf13f286dea9"), looks := false }, kinds := [], alts := [], laidByText := true, laidKinds := [.data, .data], laidTests := true, laidLooks := .later }
def CycleFreesUptoCardSaid : Prop := Claim7.holds Tryz.pinned (.plain (OpenSpec.upto cycleFreesSpec)) cycleFreesUptoCard

/-- THE SECOND FORM's CARD OF 'scutagelaw23.CycleEnds'. -/
def cycleEndsUptoCard : Claim7 := { stood := { row := cycleEndsUptoRow, standIns := [], harness := (true, "3c0d5968f541efdc70693683100fa1009b4ea9e44c52c260f05cbf13f286dea9"), looks := false }, kinds := [], alts := [], laidByText := true, laidKinds := [.data, .data], laidTests := true, laidLooks := .later }
def CycleEndsUptoCardSaid : Prop := Claim7.holds Tryz.pinned (.plain (OpenSpec.upto cycleEndsSpec)) cycleEndsUptoCard

/-- THE SECOND FORM's CARD OF 'scutagelaw23.CycleNobody'. -/
def cycleNobodyUptoCard : Claim7 := { stood := { row := cycleNobodyUptoRow, standIns := [], harness := (true, "3c0d5968f541efdc70693683100fa1009b4ea9e44c52c260f05cbf13f286dea9"), looks := false }, kinds := [], alts := [], laidByText := true, laidKinds := [.data, .data], laidTests := true, laidLooks := .later }
def CycleNobodyUptoCardSaid : Prop := Claim7.holds Tryz.pinned (.plain (OpenSpec.upto cycleNobodySpec)) cycleNobodyUptoCard
end Rows
end Go.Proofs.YtkgdcgmbapchcaaGreatDoor
