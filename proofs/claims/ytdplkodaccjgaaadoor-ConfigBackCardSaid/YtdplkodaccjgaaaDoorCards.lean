/-
  DERIVED. GIVEN WITH THE SEED: THE CARDS: each row of YtdplkodaccjgaaaDoorRows.lean that lists a variable, with what it lists TIED to the program's text (the seventh form; the later family's looks); each row that meets fmt, with fmt's text TOLD by the authors' own Lean function (tested against real Go, not proved from fmt's source: count such statements apart). THE CARD IS WHAT COUNTS. Prove the row's statement (the work); the ties are given (YtdplkodaccjgaaaDoorTie.lean); close each card by the builder's one call (the guide's Derived/Test/ToyasCard.lean, 'card_holds'). Laid BY PROGRAM, IN A SANDBOX (cutbox-door.mjs). By AI agents, Wed Nov 11 2026. No macro, syntax, notation, axiom, sorry.
-/
import Derived.Test.YtdplkodaccjgaaaDoorRows
import GoSem.ClaimSeven
namespace Go.Proofs.YtdplkodaccjgaaaDoor
namespace Rows

/-- THE TIED CARD OF 'scutagelaw02.ConfigChecks'. -/
def configChecksCard : Claim7 := { stood := { row := configChecksRow, standIns := [], harness := (true, "bd5beb1493a7720f01bbe4ff7c07e3bafa6b64615292396f56e8ddaf71dd832b"), looks := false }, kinds := [], alts := [], laidByText := true, laidKinds := [.data], laidTests := true, laidLooks := .later }
def ConfigChecksCardSaid : Prop := Claim7.holds Tryd.pinned (.plain (OpenSpec.ofChange configChecksSpec)) configChecksCard

/-- THE TIED CARD OF 'scutagelaw02.ConfigMost'. -/
def configMostCard : Claim7 := { stood := { row := configMostRow, standIns := [], harness := (true, "bd5beb1493a7720f01bbe4ff7c07e3bafa6b64615292396f56e8ddaf71dd832b"), looks := false }, kinds := [], alts := [], laidByText := true, laidKinds := [.data], laidTests := true, laidLooks := .later }
def ConfigMostCardSaid : Prop := Claim7.holds Tryd.pinned (.plain (OpenSpec.ofChange configMostSpec)) configMostCard

/-- THE TIED CARD OF 'scutagelaw02.ConfigWrites'. -/
def configWritesCard : Claim7 := { stood := { row := configWritesRow, standIns := [], harness := (true, "bd5beb1493a7720f01bbe4ff7c07e3bafa6b64615292396f56e8ddaf71dd832b"), looks := false }, kinds := [], alts := [], laidByText := true, laidKinds := [.data], laidTests := true, laidLooks := .later }
def ConfigWritesCardSaid : Prop := Claim7.holds Tryd.pinned (.plain (OpenSpec.ofChange configWritesSpec)) configWritesCard

/-- THE TIED CARD OF 'scutagelaw02.ConfigBack'. -/
def configBackCard : Claim7 := { stood := { row := configBackRow, standIns := [], harness := (true, "bd5beb1493a7720f01bbe4ff7c07e3bafa6b64615292396f56e8ddaf71dd832b"), looks := false }, kinds := [], alts := [], laidByText := true, laidKinds := [.data], laidTests := true, laidLooks := .later }
def ConfigBackCardSaid : Prop := Claim7.holds Tryd.pinned (.plain (OpenSpec.ofChange configBackSpec)) configBackCard

/-- THE SECOND FORM's CARD OF 'scutagelaw02.ConfigChecks'. -/
def configChecksUptoCard : Claim7 := { stood := { row := configChecksUptoRow, standIns := [], harness := (true, "bd5beb1493a7720f01bbe4ff7c07e3bafa6b64615292396f56e8ddaf71dd832b"), looks := false }, kinds := [], alts := [], laidByText := true, laidKinds := [.data], laidTests := true, laidLooks := .later }
def ConfigChecksUptoCardSaid : Prop := Claim7.holds Tryd.pinned (.plain (OpenSpec.upto configChecksSpec)) configChecksUptoCard

/-- THE SECOND FORM's CARD OF 'scutagelaw02.ConfigMost'. -/
def configMostUptoCard : Claim7 := { stood := { row := configMostUptoRow, standIns := [], harness := (true, "bd5beb1493a7720f01bbe4ff7c07e3bafa6b64615292396f56e8ddaf71dd832b"), looks := false }, kinds := [], alts := [], laidByText := true, laidKinds := [.data], laidTests := true, laidLooks := .later }
def ConfigMostUptoCardSaid : Prop := Claim7.holds Tryd.pinned (.plain (OpenSpec.upto configMostSpec)) configMostUptoCard

/-- THE SECOND FORM's CARD OF 'scutagelaw02.ConfigWrites'. -/
def configWritesUptoCard : Claim7 := { stood := { row := configWritesUptoRow, standIns := [], harness := (true, "bd5beb1493a7720f01bbe4ff7c07e3bafa6b64615292396f56e8ddaf71dd832b"), looks := false }, kinds := [], alts := [], laidByText := true, laidKinds := [.data], laidTests := true, laidLooks := .later }
def ConfigWritesUptoCardSaid : Prop := Claim7.holds Tryd.pinned (.plain (OpenSpec.upto configWritesSpec)) configWritesUptoCard

/-- THE SECOND FORM's CARD OF 'scutagelaw02.ConfigBack'. -/
def configBackUptoCard : Claim7 := { stood := { row := configBackUptoRow, standIns := [], harness := (true, "bd5beb1493a7720f01bbe4ff7c07e3bafa6b64615292396f56e8ddaf71dd832b"), looks := false }, kinds := [], alts := [], laidByText := true, laidKinds := [.data], laidTests := true, laidLooks := .later }
def ConfigBackUptoCardSaid : Prop := Claim7.holds Tryd.pinned (.plain (OpenSpec.upto configBackSpec)) configBackUptoCard
end Rows
end Go.Proofs.YtdplkodaccjgaaaDoor
