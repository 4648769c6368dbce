/-
  DERIVED. GIVEN WITH THE SEED: THE CARDS: each row of YtacjleladjgkeaaGreatDoorRows.lean that lists a variable, with what it lists TIED to the program's text (the seventh form; the later family's looks); each row that meets fmt, with fmt's text TOLD by the authors' own Lean function (tested against real Go, not proved from fmt's source: count such statements apart). THE CARD IS WHAT COUNTS. Prove the row's statement (the work); the ties are given (YtacjleladjgkeaaGreatDoorTie.lean); close each card by the builder's one call (the guide's Derived/Test/ToyasCard.lean, 'card_holds'). Laid BY PROGRAM, IN A SANDBOX (cutbox-door.mjs). By AI agents, Wed Nov 11 2026. No macro, syntax, notation, axiom, sorry.
-/
import Derived.Test.YtacjleladjgkeaaGreatDoorRows
import GoSem.ClaimSeven
namespace Go.Proofs.YtacjleladjgkeaaGreatDoor
namespace Rows

/-- THE TIED CARD OF 'scutagelaw19.TraceRuns'. -/
def traceRunsCard : Claim7 := { stood := { row := traceRunsRow, standIns := [], harness := (true, "76efeb25414fe980bd4544d8b34e1cdb0ea12ea76b52cc486c0d3a2b90e3c178"), looks := false }, kinds := [], alts := [], laidByText := true, laidKinds := [.data], laidTests := true, laidLooks := .later }
def TraceRunsCardSaid : Prop := Claim7.holds Tryz.pinned (.plain (OpenSpec.ofChange traceRunsSpec)) traceRunsCard

/-- THE TIED CARD OF 'scutagelaw19.TraceReaches'. -/
def traceReachesCard : Claim7 := { stood := { row := traceReachesRow, standIns := [], harness := (true, "76efeb25414fe980bd4544d8b34e1cdb0ea12ea76b52cc486c0d3a2b90e3c178"), looks := false }, kinds := [], alts := [], laidByText := true, laidKinds := [.data], laidTests := true, laidLooks := .later }
def TraceReachesCardSaid : Prop := Claim7.holds Tryz.pinned (.plain (OpenSpec.ofChange traceReachesSpec)) traceReachesCard

/-- THE TIED CARD OF 'scutagelaw19.TraceNobody'. -/
def traceNobodyCard : Claim7 := { stood := { row := traceNobodyRow, standIns := [], harness := (true, "76efeb25414fe980bd4544d8b34e1cdb0ea12ea76b52cc486c0d3a2b90e3c178"), looks := false }, kinds := [], alts := [], laidByText := true, laidKinds := [.data], laidTests := true, laidLooks := .later }
def TraceNobodyCardSaid : Prop := Claim7.holds Tryz.pinned (.plain (OpenSpec.ofChange traceNobodySpec)) traceNobodyCard

/-- THE SECOND FORM's CARD OF 'scutagelaw19.TraceRuns'. -/
def traceRunsUptoCard : Claim7 := { stood := { row := traceRunsUptoRow, standIns := [], harness := (true, "76efeb25414fe980bd4544d8b34e1cdb0ea12ea76b52cc486c0d3a2b90e3c178"), looks := false }, kinds := [], alts := [], laidByText := true, laidKinds := [.data], laidTests := true, laidLooks := .later }
def TraceRunsUptoCardSaid : Prop := Claim7.holds Tryz.pinned (.plain (OpenSpec.upto traceRunsSpec)) traceRunsUptoCard

/-- THE SECOND FORM's CARD OF 'scutagelaw19.TraceReaches'. -/
def traceReachesUptoCard : Claim7 := { stood := { row := traceReachesUptoRow, standIns := [], harness := (true, "76efeb25414fe980bd4544d8b34e1cdb0ea12ea76b52cc486c0d3a2b90e3c178"), looks := false }, kinds := [], alts := [], laidByText := true, laidKinds := [.data], laidTests := true, laidLooks := .later }
def TraceReachesUptoCardSaid : Prop := Claim7.holds Tryz.pinned (.plain (OpenSpec.upto traceReachesSpec)) traceReachesUptoCard

/-- THE SECOND FORM's CARD OF 'scutagelaw19.TraceNobody'. -/
def traceNobodyUptoCard : Claim7 := { stood := { row := traceNobodyUptoRow, standIns := [], harness := (true, "76efeb25414fe980bd4544d8b34e1cdb0ea12ea76b52cc486c0d3a2b90e3c178"), looks := false }, kinds := [], alts := [], laidByText := true, laidKinds := [.data], laidTests := true, laidLooks := .later }
def TraceNobodyUptoCardSaid : Prop := Claim7.holds Tryz.pinned (.plain (OpenSpec.upto traceNobodySpec)) traceNobodyUptoCard
end Rows
end Go.Proofs.YtacjleladjgkeaaGreatDoor
