/-
  No cell of these rows narrows 'for every input' (looked for: loops, veiled, ifaces, maps, wideKeys, modest, calm, conditions, laid).
  DERIVED. THE GIVEN ROWS OF THIS SEAT. 3 by the template 'for every input the law returns true; each argument reads behind the call as it read before'; 0 by the template 'total and deterministic' (their statements: YtamfbpoaohmkaaaTotals.lean).
  GIVEN WITH THE SEED: the statements are not yours to turn. If you find one false, say at which input.
  Laid BY PROGRAM, IN A SANDBOX (cutbox-rows.mjs): the forced cells as the released guide's own fill.sh prints them over the translation f5b63998d0e7f5b1… (all of the seat's roots in one cut). By AI agents, Wed Nov 11 2026. No macro, syntax, notation, axiom, sorry.
-/
import Derived.Test.YtamfbpoaohmkaaaChecked
import GoSem.Claim
import GoSem.ClaimJoined
import GoSem.ClaimMapViews
import Derived.JoinedTies
import Derived.KernelRfl
namespace Go.Proofs.Ytamfbpoaohmkaaa
/- THE CELL 'sum', in the pinned program and in every row, IS THE sha256 OF THE DUMP (.gsa) THAT YtamfbpoaohmkaaaProg.lean LOADS. Nothing in Lean hashes anything: it is a label: what it is worth is what the hold of that sum in a sandbox is worth. -/
noncomputable def Try.pinned : Pinned := { name := "ytamfbpoaohmkaaa", sum := "f5b63998d0e7f5b17bf3de5fbe3fbaf0423df8af64bbe48121913bdc6ef2c484", checked := Try.checked }
namespace Rows
def none {H : Type} : Left H := { results := [], args := [] }

/-- 'scutagelaw22.BankRuns': WHATEVER THE INPUT: true; the input reads as it did. -/
def bankRunsSpec : ChangeSpec := { name := "bankRuns", fn := fun _ => fun
  | [d1, d2] => { results := [.lit (.bool true)], args := [d1, d2] }
  | _ => none }
def bankRunsRow : OpenClaim := { program := "ytamfbpoaohmkaaa", sum := "f5b63998d0e7f5b17bf3de5fbe3fbaf0423df8af64bbe48121913bdc6ef2c484", func := "scutage/scutagelaw22.BankRuns", spec := "bankRuns", apart := false }
def BankRunsSaid : Prop := bankRunsRow.holds Try.pinned (OpenSpec.ofChange bankRunsSpec)

/-- ITS FALSE NEIGHBOUR: 'it returns false'. Refute it at one input. -/
def bankRunsWrong : ChangeSpec := { name := "bankRuns", fn := fun _ => fun
  | [d1, d2] => { results := [.lit (.bool false)], args := [d1, d2] }
  | _ => none }
def BankRunsWrongFalsely : Prop := bankRunsRow.holds Try.pinned (OpenSpec.ofChange bankRunsWrong)

/-- 'scutagelaw22.BankBalances': WHATEVER THE INPUT: true; the input reads as it did. -/
def bankBalancesSpec : ChangeSpec := { name := "bankBalances", fn := fun _ => fun
  | [d1, d2] => { results := [.lit (.bool true)], args := [d1, d2] }
  | _ => none }
def bankBalancesRow : OpenClaim := { program := "ytamfbpoaohmkaaa", sum := "f5b63998d0e7f5b17bf3de5fbe3fbaf0423df8af64bbe48121913bdc6ef2c484", func := "scutage/scutagelaw22.BankBalances", spec := "bankBalances", apart := false }
def BankBalancesSaid : Prop := bankBalancesRow.holds Try.pinned (OpenSpec.ofChange bankBalancesSpec)

/-- ITS FALSE NEIGHBOUR: 'it returns false'. Refute it at one input. -/
def bankBalancesWrong : ChangeSpec := { name := "bankBalances", fn := fun _ => fun
  | [d1, d2] => { results := [.lit (.bool false)], args := [d1, d2] }
  | _ => none }
def BankBalancesWrongFalsely : Prop := bankBalancesRow.holds Try.pinned (OpenSpec.ofChange bankBalancesWrong)

/-- 'scutagelaw22.BankClones': WHATEVER THE INPUT: true; the input reads as it did. -/
def bankClonesSpec : ChangeSpec := { name := "bankClones", fn := fun _ => fun
  | [d1, d2, d3, d4] => { results := [.lit (.bool true)], args := [d1, d2, d3, d4] }
  | _ => none }
def bankClonesRow : OpenClaim := { program := "ytamfbpoaohmkaaa", sum := "f5b63998d0e7f5b17bf3de5fbe3fbaf0423df8af64bbe48121913bdc6ef2c484", func := "scutage/scutagelaw22.BankClones", spec := "bankClones", apart := false }
def BankClonesSaid : Prop := bankClonesRow.holds Try.pinned (OpenSpec.ofChange bankClonesSpec)

/-- ITS FALSE NEIGHBOUR: 'it returns false'. Refute it at one input. -/
def bankClonesWrong : ChangeSpec := { name := "bankClones", fn := fun _ => fun
  | [d1, d2, d3, d4] => { results := [.lit (.bool false)], args := [d1, d2, d3, d4] }
  | _ => none }
def BankClonesWrongFalsely : Prop := bankClonesRow.holds Try.pinned (OpenSpec.ofChange bankClonesWrong)

/- THE SECOND FORM. 'bulk': how many values and letters a reading holds, each counted each time it is reached (what is shared counts as often as it is met; a slice's spare places count too). A statement '..UptoSaid' is the law's where the arguments, and the package variables that the reading takes, are together of bulk at most 1048576: NARROWER than '..Said'. Prove '..Said' where nothing that the law and all that it calls make is longer than what came in: it says more and counts as full. Else prove '..UptoSaid'. A law counts once. -/
mutual
def uptoBulk {H : Type} : DataW H → Nat
  | .lit (.string bytes) => bytes.length + 1
  | .lit _ => 1
  | .nil => 1
  | .ptr d => uptoBulk d + 1
  | .slice elems spare => uptoBulkAll elems + uptoBulkAll spare + 1
  | .agg parts => uptoBulkAll parts + 1
  | .iface _ d => uptoBulk d + 1
  | .map entries => uptoBulkEntries entries + 1
  | .held _ => 1
def uptoBulkAll {H : Type} : List (DataW H) → Nat
  | [] => 0
  | d :: r => uptoBulk d + uptoBulkAll r
def uptoBulkEntries {H : Type} : List (Lit × DataW H) → Nat
  | [] => 0
  | x :: r => uptoBulkEntry x + uptoBulkEntries r
def uptoBulkEntry {H : Type} : Lit × DataW H → Nat
  | (.string bytes, d) => bytes.length + uptoBulk d + 1
  | (_, d) => uptoBulk d + 1
 end
def uptoSmall : (H : Type) → List (DataW H) → Bool := fun _ ds => decide (uptoBulkAll ds ≤ 1048576)
def OpenSpec.upto (s : _root_.Go.ChangeSpec) : _root_.Go.OpenSpec := { _root_.Go.OpenSpec.ofChange s with cond := some uptoSmall }

/-- 'scutagelaw22.BankRuns', WHERE WHAT IT READS IS OF BULK AT MOST 1048576: true; the input reads as it did. -/
def bankRunsUptoRow : OpenClaim := { program := "ytamfbpoaohmkaaa", sum := "f5b63998d0e7f5b17bf3de5fbe3fbaf0423df8af64bbe48121913bdc6ef2c484", func := "scutage/scutagelaw22.BankRuns", spec := "bankRuns", apart := false, narrowed := true }
def BankRunsUptoSaid : Prop := bankRunsUptoRow.holds Try.pinned (OpenSpec.upto bankRunsSpec)

/-- 'scutagelaw22.BankBalances', WHERE WHAT IT READS IS OF BULK AT MOST 1048576: true; the input reads as it did. -/
def bankBalancesUptoRow : OpenClaim := { program := "ytamfbpoaohmkaaa", sum := "f5b63998d0e7f5b17bf3de5fbe3fbaf0423df8af64bbe48121913bdc6ef2c484", func := "scutage/scutagelaw22.BankBalances", spec := "bankBalances", apart := false, narrowed := true }
def BankBalancesUptoSaid : Prop := bankBalancesUptoRow.holds Try.pinned (OpenSpec.upto bankBalancesSpec)

/-- 'scutagelaw22.BankClones', WHERE WHAT IT READS IS OF BULK AT MOST 1048576: true; the input reads as it did. -/
def bankClonesUptoRow : OpenClaim := { program := "ytamfbpoaohmkaaa", sum := "f5b63998d0e7f5b17bf3de5fbe3fbaf0423df8af64bbe48121913bdc6ef2c484", func := "scutage/scutagelaw22.BankClones", spec := "bankClones", apart := false, narrowed := true }
def BankClonesUptoSaid : Prop := bankClonesUptoRow.holds Try.pinned (OpenSpec.upto bankClonesSpec)

end Rows
end Go.Proofs.Ytamfbpoaohmkaaa
