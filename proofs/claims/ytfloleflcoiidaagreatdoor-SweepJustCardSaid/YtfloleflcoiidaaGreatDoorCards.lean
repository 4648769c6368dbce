/-
  DERIVED. GIVEN WITH THE SEED: THE CARDS: each row of YtfloleflcoiidaaGreatDoorRows.lean that lists a variable, with what it lists TIED to the program's text (the seventh form; the later family's looks); each row that meets fmt, with fmt's text TOLD by the authors' own Lean function (tested against real Go, not proved from fmt's source: count such statements apart). THE CARD IS WHAT COUNTS. Prove the row's statement (the work); the ties are given (YtfloleflcoiidaaGreatDoorTie.lean); close each card by the builder's one call (the guide's Derived/Test/ToyasCard.lean, 'card_holds'). Laid BY PROGRAM, IN A SANDBOX (cutbox-door.mjs). By AI agents, Wed Nov 11 2026. No macro, syntax, notation, axiom, sorry.
-/
import Derived.Test.YtfloleflcoiidaaGreatDoorRows
import GoSem.ClaimSeven
namespace Go.Proofs.YtfloleflcoiidaaGreatDoor
namespace Rows

/-- THE TIED CARD OF 'scutagelaw20.SweepRuns'. -/
def sweepRunsCard : Claim7 := { stood := { row := sweepRunsRow, standIns := [], harness := (true, "ab3487c2a1f61f05f7c2c4798a59428a207137e76597449ba0099c5a9778f5d4"), looks := false }, kinds := [], alts := [], laidByText := true, laidKinds := [.data], laidTests := true, laidLooks := .later }
def SweepRunsCardSaid : Prop := Claim7.holds Tryz.pinned (.plain (OpenSpec.ofChange sweepRunsSpec)) sweepRunsCard

/-- THE TIED CARD OF 'scutagelaw20.SweepJust'. -/
def sweepJustCard : Claim7 := { stood := { row := sweepJustRow, standIns := [], harness := (true, "ab3487c2a1f61f05f7c2c4798a59428a207137e76597449ba0099c5a9778f5d4"), looks := false }, kinds := [], alts := [], laidByText := true, laidKinds := [.data], laidTests := true, laidLooks := .later }
def SweepJustCardSaid : Prop := Claim7.holds Tryz.pinned (.plain (OpenSpec.ofChange sweepJustSpec)) sweepJustCard

/-- THE TIED CARD OF 'scutagelaw20.SweepNobody'. -/
def sweepNobodyCard : Claim7 := { stood := { row := sweepNobodyRow, standIns := [], harness := (true, "ab3487c2a1f61f05f7c2c4798a59428a207137e76597449ba0099c5a9778f5d4"), looks := false }, kinds := [], alts := [], laidByText := true, laidKinds := [.data], laidTests := true, laidLooks := .later }
def SweepNobodyCardSaid : Prop := Claim7.holds Tryz.pinned (.plain (OpenSpec.ofChange sweepNobodySpec)) sweepNobodyCard

/-- THE SECOND FORM's CARD OF 'scutagelaw20.SweepRuns'. -/
def sweepRunsUptoCard : Claim7 := { stood := { row := sweepRunsUptoRow, standIns := [], harness := (true, "ab3487c2a1f61f05f7c2c4798a59428a207137e76597449ba0099c5a9778f5d4"), looks := false }, kinds := [], alts := [], laidByText := true, laidKinds := [.data], laidTests := true, laidLooks := .later }
def SweepRunsUptoCardSaid : Prop := Claim7.holds Tryz.pinned (.plain (OpenSpec.upto sweepRunsSpec)) sweepRunsUptoCard

/-- THE SECOND FORM's CARD OF 'scutagelaw20.SweepJust'. -/
def sweepJustUptoCard : Claim7 := { stood := { row := sweepJustUptoRow, standIns := [], harness := (true, "ab3487c2a1f61f05f7c2c4798a59428a207137e76597449ba0099c5a9778f5d4"), looks := false }, kinds := [], alts := [], laidByText := true, laidKinds := [.data], laidTests := true, laidLooks := .later }
def SweepJustUptoCardSaid : Prop := Claim7.holds Tryz.pinned (.plain (OpenSpec.upto sweepJustSpec)) sweepJustUptoCard

/-- THE SECOND FORM's CARD OF 'scutagelaw20.SweepNobody'. -/
def sweepNobodyUptoCard : Claim7 := { stood := { row := sweepNobodyUptoRow, standIns := [], harness := (true, "ab3487c2a1f61f05f7c2c4798a59428a207137e76597449ba0099c5a9778f5d4"), looks := false }, kinds := [], alts := [], laidByText := true, laidKinds := [.data], laidTests := true, laidLooks := .later }
def SweepNobodyUptoCardSaid : Prop := Claim7.holds Tryz.pinned (.plain (OpenSpec.upto sweepNobodySpec)) sweepNobodyUptoCard
end Rows
end Go.Proofs.YtfloleflcoiidaaGreatDoor
