/-
  DERIVED. GIVEN WITH THE SEED: THE CARDS: each row of YtpnhanalnbjapaaDoorRows.lean that lists a variable, with what it lists TIED to the program's text (the seventh form; the later family's looks); each row that meets fmt, with fmt's text TOLD by the authors' own Lean function (tested against real Go, not proved from fmt's source: count such statements apart). THE CARD IS WHAT COUNTS. Prove the row's statement (the work); the ties are given (YtpnhanalnbjapaaDoorTie.lean); close each card by the builder's one call (the guide's Derived/Test/ToyasCard.lean, 'card_holds'). Laid BY PROGRAM, IN A SANDBOX (cutbox-door.mjs). By AI agents, Wed Nov 11 2026. No macro, syntax, notation, axiom, sorry.
-/
import Derived.Test.YtpnhanalnbjapaaDoorRows
import GoSem.ClaimSeven
namespace Go.Proofs.YtpnhanalnbjapaaDoor
namespace Rows

/-- THE TIED CARD OF 'scutagelaw11.CellsRuns'. -/
def cellsRunsCard : Claim7 := { stood := { row := cellsRunsRow, standIns := [], harness := (true, "296f4dc2b23ff1ea2aa9ccb151a2b0ed14cf3589a4fd9e09dace3131a11c71ac"), looks := false }, kinds := [], alts := [], laidByText := true, laidKinds := [.data], laidTests := true, laidLooks := .later }
def CellsRunsCardSaid : Prop := Claim7.holds Tryd.pinned (.plain (OpenSpec.ofChange cellsRunsSpec)) cellsRunsCard

/-- THE SECOND FORM's CARD OF 'scutagelaw11.CellsRuns'. -/
def cellsRunsUptoCard : Claim7 := { stood := { row := cellsRunsUptoRow, standIns := [], harness := (true, "296f4dc2b23ff1ea2aa9ccb151a2b0ed14cf3589a4fd9e09dace3131a11c71ac"), looks := false }, kinds := [], alts := [], laidByText := true, laidKinds := [.data], laidTests := true, laidLooks := .later }
def CellsRunsUptoCardSaid : Prop := Claim7.holds Tryd.pinned (.plain (OpenSpec.upto cellsRunsSpec)) cellsRunsUptoCard
end Rows
end Go.Proofs.YtpnhanalnbjapaaDoor
