/-
  DERIVED. GIVEN WITH THE SEED: THE CARDS: each row of YtkejalafpejgdaaDoorRows.lean that lists a variable, with what it lists TIED to the program's text (the seventh form; the later family's looks); each row that meets fmt, with fmt's text TOLD by the authors' own Lean function (tested against real Go, not proved from fmt's source: count such statements apart). THE CARD IS WHAT COUNTS. Prove the row's statement (the work); the ties are given (YtkejalafpejgdaaDoorTie.lean); close each card by the builder's one call (the guide's Derived/Test/ToyasCard.lean, 'card_holds'). Laid BY PROGRAM, IN A SANDBOX (cutbox-door.mjs). By AI agents, Wed Nov 11 2026. No macro, syntax, notation, axiom, sorry.
-/
import Derived.Test.YtkejalafpejgdaaDoorRows
import GoSem.ClaimSeven
namespace Go.Proofs.YtkejalafpejgdaaDoor
namespace Rows

/-- THE TIED CARD OF 'scutagelaw05.BitmapRuns'. -/
def bitmapRunsCard : Claim7 := { stood := { row := bitmapRunsRow, standIns := [], harness := (true, "6a9366e65260cc361ff5a4fb8572510e336a1af2548c9cf88a139da7ae42992b"), looks := false }, kinds := [], alts := [], laidByText := true, laidKinds := [.data], laidTests := true, laidLooks := .later }
def BitmapRunsCardSaid : Prop := Claim7.holds Tryd.pinned (.plain (OpenSpec.ofChange bitmapRunsSpec)) bitmapRunsCard

/-- THE TIED CARD OF 'scutagelaw05.BitmapClones'. -/
def bitmapClonesCard : Claim7 := { stood := { row := bitmapClonesRow, standIns := [], harness := (true, "6a9366e65260cc361ff5a4fb8572510e336a1af2548c9cf88a139da7ae42992b"), looks := false }, kinds := [], alts := [], laidByText := true, laidKinds := [.data], laidTests := true, laidLooks := .later }
def BitmapClonesCardSaid : Prop := Claim7.holds Tryd.pinned (.plain (OpenSpec.ofChange bitmapClonesSpec)) bitmapClonesCard

/-- THE TIED CARD OF 'scutagelaw05.BitmapSteps'. -/
def bitmapStepsCard : Claim7 := { stood := { row := bitmapStepsRow, standIns := [], harness := (true, "6a9366e65260cc361ff5a4fb8572510e336a1af2548c9cf88a139da7ae42992b"), looks := false }, kinds := [], alts := [], laidByText := true, laidKinds := [.data], laidTests := true, laidLooks := .later }
def BitmapStepsCardSaid : Prop := Claim7.holds Tryd.pinned (.plain (OpenSpec.ofChange bitmapStepsSpec)) bitmapStepsCard

/-- THE SECOND FORM's CARD OF 'scutagelaw05.BitmapRuns'. -/
def bitmapRunsUptoCard : Claim7 := { stood := { row := bitmapRunsUptoRow, standIns := [], harness := (true, "6a9366e65260cc361ff5a4fb8572510e336a1af2548c9cf88a139da7ae42992b"), looks := false }, kinds := [], alts := [], laidByText := true, laidKinds := [.data], laidTests := true, laidLooks := .later }
def BitmapRunsUptoCardSaid : Prop := Claim7.holds Tryd.pinned (.plain (OpenSpec.upto bitmapRunsSpec)) bitmapRunsUptoCard

/-- THE SECOND FORM's CARD OF 'scutagelaw05.BitmapClones'. -/
def bitmapClonesUptoCard : Claim7 := { stood := { row := bitmapClonesUptoRow, standIns := [], harness := (true, "6a9366e65260cc361ff5a4fb8572510e336a1af2548c9cf88a139da7ae42992b"), looks := false }, kinds := [], alts := [], laidByText := true, laidKinds := [.data], laidTests := true, laidLooks := .later }
def BitmapClonesUptoCardSaid : Prop := Claim7.holds Tryd.pinned (.plain (OpenSpec.upto bitmapClonesSpec)) bitmapClonesUptoCard

/-- THE SECOND FORM's CARD OF 'scutagelaw05.BitmapSteps'. -/
def bitmapStepsUptoCard : Claim7 := { stood := { row := bitmapStepsUptoRow, standIns := [], harness := (true, "6a9366e65260cc361ff5a4fb8572510e336a1af2548c9cf88a139da7ae42992b"), looks := false }, kinds := [], alts := [], laidByText := true, laidKinds := [.data], laidTests := true, laidLooks := .later }
def BitmapStepsUptoCardSaid : Prop := Claim7.holds Tryd.pinned (.plain (OpenSpec.upto bitmapStepsSpec)) bitmapStepsUptoCard
end Rows
end Go.Proofs.YtkejalafpejgdaaDoor
