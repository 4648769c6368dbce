/-
  DERIVED. GIVEN WITH THE SEED: THE CARDS: each row of YtfhebjkoojodiaaDoorRows.lean that lists a variable, with what it lists TIED to the program's text (the seventh form; the later family's looks); each row that meets fmt, with fmt's text TOLD by the authors' own Lean function (tested against real Go, not proved from fmt's source: count such statements apart). THE CARD IS WHAT COUNTS. Prove the row's statement (the work); the ties are given (YtfhebjkoojodiaaDoorTie.lean); close each card by the builder's one call (the guide's Derived/Test/ToyasCard.lean, 'card_holds'). Laid BY PROGRAM, IN A SANDBOX (cutbox-door.mjs). By AI agents, Wed Nov 11 2026. No macro, syntax, notation, axiom, sorry.
-/
import Derived.Test.YtfhebjkoojodiaaDoorRows
import GoSem.ClaimSeven
namespace Go.Proofs.YtfhebjkoojodiaaDoor
namespace Rows

/-- THE TIED CARD OF 'scutagelaw25.GraphRuns'. -/
def graphRunsCard : Claim7 := { stood := { row := graphRunsRow, standIns := [], harness := (true, "ef9c4c2cda16fb3fb76a45c50ed33f661cc6161e611f9489d5b1476f0b6e5e99"), looks := false }, kinds := [], alts := [], laidByText := true, laidKinds := [.data], laidTests := true, laidLooks := .later }
def GraphRunsCardSaid : Prop := Claim7.holds Tryd.pinned (.plain (OpenSpec.ofChange graphRunsSpec)) graphRunsCard

/-- THE TIED CARD OF 'scutagelaw25.GraphRefuses'. -/
def graphRefusesCard : Claim7 := { stood := { row := graphRefusesRow, standIns := [], harness := (true, "ef9c4c2cda16fb3fb76a45c50ed33f661cc6161e611f9489d5b1476f0b6e5e99"), looks := false }, kinds := [], alts := [], laidByText := true, laidKinds := [.data], laidTests := true, laidLooks := .later }
def GraphRefusesCardSaid : Prop := Claim7.holds Tryd.pinned (.plain (OpenSpec.ofChange graphRefusesSpec)) graphRefusesCard

/-- THE TIED CARD OF 'scutagelaw25.GraphClones'. -/
def graphClonesCard : Claim7 := { stood := { row := graphClonesRow, standIns := [], harness := (true, "ef9c4c2cda16fb3fb76a45c50ed33f661cc6161e611f9489d5b1476f0b6e5e99"), looks := false }, kinds := [], alts := [], laidByText := true, laidKinds := [.data], laidTests := true, laidLooks := .later }
def GraphClonesCardSaid : Prop := Claim7.holds Tryd.pinned (.plain (OpenSpec.ofChange graphClonesSpec)) graphClonesCard

/-- THE SECOND FORM's CARD OF 'scutagelaw25.GraphRuns'. -/
def graphRunsUptoCard : Claim7 := { stood := { row := graphRunsUptoRow, standIns := [], harness := (true, "ef9c4c2cda16fb3fb76a45c50ed33f661cc6161e611f9489d5b1476f0b6e5e99"), looks := false }, kinds := [], alts := [], laidByText := true, laidKinds := [.data], laidTests := true, laidLooks := .later }
def GraphRunsUptoCardSaid : Prop := Claim7.holds Tryd.pinned (.plain (OpenSpec.upto graphRunsSpec)) graphRunsUptoCard

/-- THE SECOND FORM's CARD OF 'scutagelaw25.GraphRefuses'. -/
def graphRefusesUptoCard : Claim7 := { stood := { row := graphRefusesUptoRow, standIns := [], harness := (true, "ef9c4c2cda16fb3fb76a45c50ed33f661cc6161e611f9489d5b1476f0b6e5e99"), looks := false }, kinds := [], alts := [], laidByText := true, laidKinds := [.data], laidTests := true, laidLooks := .later }
def GraphRefusesUptoCardSaid : Prop := Claim7.holds Tryd.pinned (.plain (OpenSpec.upto graphRefusesSpec)) graphRefusesUptoCard

/-- THE SECOND FORM's CARD OF 'scutagelaw25.GraphClones'. -/
def graphClonesUptoCard : Claim7 := { stood := { row := graphClonesUptoRow, standIns := [], harness := (true, "ef9c4c2cda16fb3fb76a45c50ed33f661cc6161e611f9489d5b1476f0b6e5e99"), looks := false }, kinds := [], alts := [], laidByText := true, laidKinds := [.data], laidTests := true, laidLooks := .later }
def GraphClonesUptoCardSaid : Prop := Claim7.holds Tryd.pinned (.plain (OpenSpec.upto graphClonesSpec)) graphClonesUptoCard
end Rows
end Go.Proofs.YtfhebjkoojodiaaDoor
