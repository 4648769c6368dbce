/- A set in memory: its cells; what layer 5's small functions do with it. -/
import Derived.Test.YtljahpjdkkennaaRows
import Derived.Test.YtljahpjdkkennaaBmN
import Derived.WalkKit
import Derived.ProofKit
import Derived.OpenShut
import Derived.Outline
import Derived.Lib.Hide
import Derived.IntWalk
import Derived.Laws.Bits64b
import Derived.Laws.BitsAllLaws
import Derived.Laws.Shifts
import Derived.Laws.ShiftsVarLaws
import Derived.Laws.Cover3
import Derived.Deep.QuietTactic
import Derived.BigQuiet
import Derived.BigRegion
import Derived.RegionTactic
import Derived.Deep.Draws
import Derived.Maps.Range
import Derived.OwnWalk
namespace Go.Proofs.Ytljahpjdkkennaa.bm
open Go.ChangeShapes Go.WideShapes Go.ChangeAt Go.RowKit
set_option linter.unusedVariables false

def vals (ws : List Nat) : List Value := ws.map fun x : Nat => .int .u64 x
theorem lt_of_heap {w : World} {g : Nat} {o : Obj} (h : w.heap[g]? = some o) : g < w.heap.size := (Array.getElem?_eq_some_iff.1 h).1
section
variable {w w' : World} {g n : Nat} {b : Bool} {ws : List Nat}
end

/-! ### Where a number lies -/
abbrev none3 : Ending := .returned (.tuple #[.int .i64 0, .int .u64 0, .bool false])
theorem wrap_pow (i : Nat) : IntKind.u64.wrap ((2 : Int) ^ (i % 64)) = ((2 ^ (i % 64) : Nat) : Int) := by
  have := pow_lt i
  have e : ((2 : Int) ^ (i % 64)) = ((2 ^ (i % 64) : Nat) : Int) := by simp
  rw [e, IntKind.wrap_u64]
  generalize 2 ^ (i % 64) = p at this
  omega
/-! ### The library's two counts -/
theorem low_product (a : Nat) : IntKind.u64.wrap ((a : Int) * 285870213051353865) = ((a * 285870213051353865 % 18446744073709551616 : Nat) : Int) := by rw [IntKind.wrap_u64]; omega
theorem high_six (a : Nat) : (a : Int) / 288230376151711744 = ((a / 288230376151711744 : Nat) : Int) := by omega
theorem neg_word (x : Nat) (hx : x < 18446744073709551616) (hx0 : x ≠ 0) : IntKind.u64.wrap (-(x : Int)) = ((18446744073709551616 - x : Nat) : Int) := by rw [IntKind.wrap_u64]; omega
theorem step1 (x : Nat) (hx : x < 18446744073709551616) : IntKind.u64.wrap (bits .and .u64 ((x : Int) / 2) 6148914691236517205 + bits .and .u64 (x : Int) 6148914691236517205) = (s1 x : Int) := by
  have e : ((x : Int) / 2) = ((x / 2 : Nat) : Int) := rfl
  have a := bits_and_u64_nat (x / 2) 6148914691236517205 (by omega) (by omega)
  have b := bits_and_u64_nat x 6148914691236517205 (by omega) (by omega)
  rw [e]
  have l1 : x / 2 &&& 6148914691236517205 ≤ 6148914691236517205 := Nat.and_le_right
  have l2 : x &&& 6148914691236517205 ≤ 6148914691236517205 := Nat.and_le_right
  rw [show ((6148914691236517205 : Nat) : Int) = 6148914691236517205 from rfl] at a b
  rw [a, b, IntKind.wrap_u64]
  unfold s1
  omega
theorem step2 (x : Nat) (hx : x < 18446744073709551616) : IntKind.u64.wrap (bits .and .u64 ((x : Int) / 4) 3689348814741910323 + bits .and .u64 (x : Int) 3689348814741910323) = (s2 x : Int) := by
  have e : ((x : Int) / 4) = ((x / 4 : Nat) : Int) := rfl
  have a := bits_and_u64_nat (x / 4) 3689348814741910323 (by omega) (by omega)
  have b := bits_and_u64_nat x 3689348814741910323 (by omega) (by omega)
  rw [e]
  have l1 : x / 4 &&& 3689348814741910323 ≤ 3689348814741910323 := Nat.and_le_right
  have l2 : x &&& 3689348814741910323 ≤ 3689348814741910323 := Nat.and_le_right
  rw [show ((3689348814741910323 : Nat) : Int) = 3689348814741910323 from rfl] at a b
  rw [a, b, IntKind.wrap_u64]
  unfold s2
  omega
theorem s1_lt (x : Nat) : s1 x < 18446744073709551616 := by
  have l1 : x / 2 &&& 6148914691236517205 ≤ 6148914691236517205 := Nat.and_le_right
  have l2 : x &&& 6148914691236517205 ≤ 6148914691236517205 := Nat.and_le_right
  unfold s1
  omega
theorem s2_lt (x : Nat) : s2 x ≤ 7378697629483820646 := by
  have l1 : x / 4 &&& 3689348814741910323 ≤ 3689348814741910323 := Nat.and_le_right
  have l2 : x &&& 3689348814741910323 ≤ 3689348814741910323 := Nat.and_le_right
  unfold s2
  omega
theorem step3 (x : Nat) (hx : x ≤ 7378697629483820646) : bits .and .u64 (IntKind.u64.wrap ((x : Int) / 16 + (x : Int))) 1085102592571150095 = (s3 x : Int) := by
  have e : IntKind.u64.wrap ((x : Int) / 16 + (x : Int)) = ((x / 16 + x : Nat) : Int) := by rw [IntKind.wrap_u64]; omega
  have a := bits_and_u64_nat (x / 16 + x) 1085102592571150095 (by omega) (by omega)
  rw [show ((1085102592571150095 : Nat) : Int) = 1085102592571150095 from rfl] at a
  rw [e, a]
  rfl
theorem step4 (x : Nat) (hx : x < 1152921504606846976) : IntKind.u64.wrap ((x : Int) + (x : Int) / 256) = (s4 x : Int) := by
  unfold s4; rw [IntKind.wrap_u64]; omega
theorem step5 (x : Nat) (hx : x < 2305843009213693952) : IntKind.u64.wrap ((x : Int) + (x : Int) / 65536) = (s5 x : Int) := by
  unfold s5; rw [IntKind.wrap_u64]; omega
theorem step6 (x : Nat) (hx : x < 4611686018427387904) : IntKind.u64.wrap ((x : Int) + (x : Int) / 4294967296) = (s6 x : Int) := by
  unfold s6; rw [IntKind.wrap_u64]; omega
theorem and_127 (x : Nat) (hx : x < 9223372036854775808) : bits .and .i64 (x : Int) 127 = ((x % 128 : Nat) : Int) := by
  have h1 : (BitVec.ofInt 64 (x : Int)).toNat = x := by
    rw [BitVec.ofInt_natCast, BitVec.toNat_ofNat]; exact Nat.mod_eq_of_lt (by omega)
  have a := Nat.and_two_pow_sub_one_eq_mod x 7
  rw [show (2 : Nat) ^ 7 - 1 = 127 from rfl, show (2 : Nat) ^ 7 = 128 from rfl] at a
  show IntKind.i64.wrap ((BitVec.ofInt 64 (x : Int) &&& BitVec.ofInt 64 127).toNat : Int) = _
  rw [BitVec.toNat_and, h1, show (BitVec.ofInt 64 127).toNat = 127 from rfl, a]
  exact IntWalk.i64_in _ (by omega)
end Go.Proofs.Ytljahpjdkkennaa.bm
