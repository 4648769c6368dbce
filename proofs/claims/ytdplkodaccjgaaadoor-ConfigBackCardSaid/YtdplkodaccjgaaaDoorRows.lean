/-
  NARROWER THAN 'FOR EVERY INPUT', by the rows' own cells (each row's printed sentence says how): ConfigChecks: laid · ConfigMost: laid · ConfigWrites: laid · ConfigBack: laid.
  DERIVED. THE GIVEN ROWS OF THIS SEAT. 4 by the template 'for every input the law returns true; each argument reads behind the call as it read before'; 0 by the template 'total and deterministic' (their statements: YtdplkodaccjgaaaDoorTotals.lean).
  GIVEN WITH THE SEED: the statements are not yours to turn. If you find one false, say at which input.
  Laid BY PROGRAM, IN A SANDBOX (cutbox-rows.mjs): the forced cells as the released guide's own fill.sh prints them over the translation 5f0e4e71a9925837… (all of the seat's roots in one cut). By AI agents, Wed Nov 11 2026. No macro, syntax, notation, axiom, sorry.
-/
import Derived.Test.YtdplkodaccjgaaaDoorChecked
import GoSem.Claim
import GoSem.ClaimJoined
import GoSem.ClaimMapViews
import Derived.JoinedTies
import Derived.KernelRfl
namespace Go.Proofs.YtdplkodaccjgaaaDoor
/- THE CELL 'sum', in the pinned program and in every row, IS THE sha256 OF THE DUMP (.gsa) THAT YtdplkodaccjgaaaDoorProg.lean LOADS. Nothing in Lean hashes anything: it is a label: what it is worth is what the hold of that sum in a sandbox is worth. -/
noncomputable def Tryd.pinned : Pinned := { name := "ytdplkodaccjgaaadoor", sum := "5f0e4e71a9925837fa71845593ff30b405a2f925c0dc286753e77775512c5876", checked := Tryd.checked }
namespace Rows
def none {H : Type} : Left H := { results := [], args := [] }

/- WHAT THE LISTED PACKAGE-LEVEL VARIABLES READ AS WHEN THE CALL BEGINS. Each datum BY PROGRAM (the guide's laid-datum.mjs) off the statement by which the dump's own 'gosem.cut.vars' lays the variable. In a bare row this is a premise. The card (YtdplkodaccjgaaaDoorCards.lean) ties it to the program's text. -/
def laid_scutage_config_spans {H : Type} : DataW H := .agg [.agg [.lit (.int .i64 2), .lit (.int .i64 64)], .agg [.lit (.int .i64 1), .lit (.int .i64 8)], .agg [.lit (.int .i64 1), .lit (.int .i64 64)], .agg [.lit (.int .i64 1), .lit (.int .i64 16)], .agg [.lit (.int .i64 0), .lit (.int .i64 1000)], .agg [.lit (.int .i64 0), .lit (.int .i64 65535)], .agg [.lit (.int .i64 0), .lit (.int .i64 64)], .agg [.lit (.int .i64 1), .lit (.int .i64 16)], .agg [.lit (.int .i64 1), .lit (.int .i64 256)], .agg [.lit (.int .i64 0), .lit (.int .i64 64)]]

/-- 'scutagelaw02.ConfigChecks': WHATEVER THE INPUT: true; the input reads as it did. -/
def configChecksSpec : ChangeSpec := { name := "configChecks", fn := fun _ => fun
  | [d] => { results := [.lit (.bool true)], args := [d] }
  | _ => none }
def configChecksRow : OpenClaim := { program := "ytdplkodaccjgaaadoor", sum := "5f0e4e71a9925837fa71845593ff30b405a2f925c0dc286753e77775512c5876", func := "scutage/scutagelaw02.ConfigChecks", spec := "configChecks", named := ["scutage/config.spans"], apart := false, laid := [("scutage/config.spans", laid_scutage_config_spans)] }
def ConfigChecksSaid : Prop := configChecksRow.holds Tryd.pinned (OpenSpec.ofChange configChecksSpec)

/-- ITS FALSE NEIGHBOUR: 'it returns false'. Refute it at one input. -/
def configChecksWrong : ChangeSpec := { name := "configChecks", fn := fun _ => fun
  | [d] => { results := [.lit (.bool false)], args := [d] }
  | _ => none }
def ConfigChecksWrongFalsely : Prop := configChecksRow.holds Tryd.pinned (OpenSpec.ofChange configChecksWrong)

/-- 'scutagelaw02.ConfigMost': WHATEVER THE INPUT: true; the input reads as it did. -/
def configMostSpec : ChangeSpec := { name := "configMost", fn := fun _ => fun
  | [d] => { results := [.lit (.bool true)], args := [d] }
  | _ => none }
def configMostRow : OpenClaim := { program := "ytdplkodaccjgaaadoor", sum := "5f0e4e71a9925837fa71845593ff30b405a2f925c0dc286753e77775512c5876", func := "scutage/scutagelaw02.ConfigMost", spec := "configMost", named := ["scutage/config.spans"], apart := false, laid := [("scutage/config.spans", laid_scutage_config_spans)] }
def ConfigMostSaid : Prop := configMostRow.holds Tryd.pinned (OpenSpec.ofChange configMostSpec)

/-- ITS FALSE NEIGHBOUR: 'it returns false'. Refute it at one input. -/
def configMostWrong : ChangeSpec := { name := "configMost", fn := fun _ => fun
  | [d] => { results := [.lit (.bool false)], args := [d] }
  | _ => none }
def ConfigMostWrongFalsely : Prop := configMostRow.holds Tryd.pinned (OpenSpec.ofChange configMostWrong)

/-- 'scutagelaw02.ConfigWrites': WHATEVER THE INPUT: true; the input reads as it did. -/
def configWritesSpec : ChangeSpec := { name := "configWrites", fn := fun _ => fun
  | [d] => { results := [.lit (.bool true)], args := [d] }
  | _ => none }
def configWritesRow : OpenClaim := { program := "ytdplkodaccjgaaadoor", sum := "5f0e4e71a9925837fa71845593ff30b405a2f925c0dc286753e77775512c5876", func := "scutage/scutagelaw02.ConfigWrites", spec := "configWrites", named := ["scutage/config.spans"], apart := false, laid := [("scutage/config.spans", laid_scutage_config_spans)] }
def ConfigWritesSaid : Prop := configWritesRow.holds Tryd.pinned (OpenSpec.ofChange configWritesSpec)

/-- ITS FALSE NEIGHBOUR: 'it returns false'. Refute it at one input. -/
def configWritesWrong : ChangeSpec := { name := "configWrites", fn := fun _ => fun
  | [d] => { results := [.lit (.bool false)], args := [d] }
  | _ => none }
def ConfigWritesWrongFalsely : Prop := configWritesRow.holds Tryd.pinned (OpenSpec.ofChange configWritesWrong)

/-- 'scutagelaw02.ConfigBack': WHATEVER THE INPUT: true; the input reads as it did. -/
def configBackSpec : ChangeSpec := { name := "configBack", fn := fun _ => fun
  | [d1, d2] => { results := [.lit (.bool true)], args := [d1, d2] }
  | _ => none }
def configBackRow : OpenClaim := { program := "ytdplkodaccjgaaadoor", sum := "5f0e4e71a9925837fa71845593ff30b405a2f925c0dc286753e77775512c5876", func := "scutage/scutagelaw02.ConfigBack", spec := "configBack", named := ["scutage/config.spans"], apart := false, laid := [("scutage/config.spans", laid_scutage_config_spans)] }
def ConfigBackSaid : Prop := configBackRow.holds Tryd.pinned (OpenSpec.ofChange configBackSpec)

/-- ITS FALSE NEIGHBOUR: 'it returns false'. Refute it at one input. -/
def configBackWrong : ChangeSpec := { name := "configBack", fn := fun _ => fun
  | [d1, d2] => { results := [.lit (.bool false)], args := [d1, d2] }
  | _ => none }
def ConfigBackWrongFalsely : Prop := configBackRow.holds Tryd.pinned (OpenSpec.ofChange configBackWrong)

/- THE SECOND FORM. 'bulk': how many values and letters a reading holds, each counted each time it is reached (what is shared counts as often as it is met; a slice's spare places count too). A statement '..UptoSaid' is the law's where the arguments, and the package variables that the reading takes, are together of bulk at most 1048576: NARROWER than '..Said'. Prove '..Said' where nothing that the law and all that it calls make is longer than what came in: it says more and counts as full. Else prove '..UptoSaid'. A law counts once. -/
mutual
def uptoBulk {H : Type} : DataW H → Nat
  | .lit (.string bytes) => bytes.length + 1
  | .lit _ => 1
  | .nil => 1
  | .ptr d => uptoBulk d + 1
  | .slice elems spare => uptoBulkAll elems + uptoBulkAll spare + 1
  | .agg parts => uptoBulkAll parts + 1
  | .iface _ d => uptoBulk d + 1
  | .map entries => uptoBulkEntries entries + 1
  | .held _ => 1
def uptoBulkAll {H : Type} : List (DataW H) → Nat
  | [] => 0
  | d :: r => uptoBulk d + uptoBulkAll r
def uptoBulkEntries {H : Type} : List (Lit × DataW H) → Nat
  | [] => 0
  | x :: r => uptoBulkEntry x + uptoBulkEntries r
def uptoBulkEntry {H : Type} : Lit × DataW H → Nat
  | (.string bytes, d) => bytes.length + uptoBulk d + 1
  | (_, d) => uptoBulk d + 1
 end
def uptoSmall : (H : Type) → List (DataW H) → Bool := fun _ ds => decide (uptoBulkAll ds ≤ 1048576)
def OpenSpec.upto (s : _root_.Go.ChangeSpec) : _root_.Go.OpenSpec := { _root_.Go.OpenSpec.ofChange s with cond := some uptoSmall }

/-- 'scutagelaw02.ConfigChecks', WHERE WHAT IT READS IS OF BULK AT MOST 1048576: true; the input reads as it did. -/
def configChecksUptoRow : OpenClaim := { program := "ytdplkodaccjgaaadoor", sum := "5f0e4e71a9925837fa71845593ff30b405a2f925c0dc286753e77775512c5876", func := "scutage/scutagelaw02.ConfigChecks", spec := "configChecks", named := ["scutage/config.spans"], apart := false, laid := [("scutage/config.spans", laid_scutage_config_spans)], narrowed := true }
def ConfigChecksUptoSaid : Prop := configChecksUptoRow.holds Tryd.pinned (OpenSpec.upto configChecksSpec)

/-- 'scutagelaw02.ConfigMost', WHERE WHAT IT READS IS OF BULK AT MOST 1048576: true; the input reads as it did. -/
def configMostUptoRow : OpenClaim := { program := "ytdplkodaccjgaaadoor", sum := "5f0e4e71a9925837fa71845593ff30b405a2f925c0dc286753e77775512c5876", func := "scutage/scutagelaw02.ConfigMost", spec := "configMost", named := ["scutage/config.spans"], apart := false, laid := [("scutage/config.spans", laid_scutage_config_spans)], narrowed := true }
def ConfigMostUptoSaid : Prop := configMostUptoRow.holds Tryd.pinned (OpenSpec.upto configMostSpec)

/-- 'scutagelaw02.ConfigWrites', WHERE WHAT IT READS IS OF BULK AT MOST 1048576: true; the input reads as it did. -/
def configWritesUptoRow : OpenClaim := { program := "ytdplkodaccjgaaadoor", sum := "5f0e4e71a9925837fa71845593ff30b405a2f925c0dc286753e77775512c5876", func := "scutage/scutagelaw02.ConfigWrites", spec := "configWrites", named := ["scutage/config.spans"], apart := false, laid := [("scutage/config.spans", laid_scutage_config_spans)], narrowed := true }
def ConfigWritesUptoSaid : Prop := configWritesUptoRow.holds Tryd.pinned (OpenSpec.upto configWritesSpec)

/-- 'scutagelaw02.ConfigBack', WHERE WHAT IT READS IS OF BULK AT MOST 1048576: true; the input reads as it did. -/
def configBackUptoRow : OpenClaim := { program := "ytdplkodaccjgaaadoor", sum := "5f0e4e71a9925837fa71845593ff30b405a2f925c0dc286753e77775512c5876", func := "scutage/scutagelaw02.ConfigBack", spec := "configBack", named := ["scutage/config.spans"], apart := false, laid := [("scutage/config.spans", laid_scutage_config_spans)], narrowed := true }
def ConfigBackUptoSaid : Prop := configBackUptoRow.holds Tryd.pinned (OpenSpec.upto configBackSpec)

end Rows
end Go.Proofs.YtdplkodaccjgaaaDoor
