/- A set in memory: its cells; what layer 5's small functions do with it. -/
import Derived.Test.YtokjpibaaioehaaDoorRows
import Derived.Test.YtokjpibaaioehaaDoorBmN
import Derived.WalkKit
import Derived.ProofKit
import Derived.OpenShut
import Derived.Outline
import Derived.Lib.Hide
import Derived.IntWalk
import Derived.Laws.Bits64b
import Derived.Laws.BitsAllLaws
import Derived.Laws.Shifts
import Derived.Laws.ShiftsVarLaws
import Derived.Laws.Cover3
import Derived.Deep.QuietTactic
import Derived.BigQuiet
import Derived.BigRegion
import Derived.RegionTactic
import Derived.Deep.Draws
import Derived.Maps.Range
import Derived.OwnWalk
namespace Go.Proofs.YtokjpibaaioehaaDoor.bm
open Go.ChangeShapes Go.WideShapes Go.ChangeAt Go.RowKit
set_option linter.unusedVariables false

def vals (ws : List Nat) : List Value := ws.map fun x : Nat => .int .u64 x
/-- A set at the head of block g: made by New, or not; of numbers below n; its words. -/
def SetAt (w : World) (g : Nat) (b : Bool) (n : Nat) (ws : List Nat) : Prop :=
  w.heap[g]? = some (.cells (.bool b :: .int .i64 n :: vals ws).toArray 75 (0, 0)) ∧ Fine n ws
theorem lt_of_heap {w : World} {g : Nat} {o : Obj} (h : w.heap[g]? = some o) : g < w.heap.size := (Array.getElem?_eq_some_iff.1 h).1
section
variable {w w' : World} {g n : Nat} {b : Bool} {ws : List Nat}
theorem SetAt.lt (h : SetAt w g b n ws) : g < w.heap.size := lt_of_heap h.1
theorem SetAt.kept {row : Option Nat} (h : SetAt w g b n ws) (hg : w.grownBy w' row) (h1 : some g ≠ row) : SetAt w' g b n ws := ⟨(hg.block g h.lt h1).trans h.1, h.2⟩
theorem SetAt.drewN (h : SetAt w g b n ws) (k : Nat) : SetAt (w.drewN k) g b n ws := h
theorem SetAt.drew (h : SetAt w g b n ws) : SetAt w.drew g b n ws := h
theorem SetAt.made (h : SetAt w g b n ws) : w.cell? ⟨g, 0, none⟩ = some (.bool b) := by rw [cell_of_row w g 0 _ _ _ h.1]; rfl
theorem SetAt.size (h : SetAt w g b n ws) : w.cell? ⟨g, 1, none⟩ = some (.int .i64 n) := by rw [cell_of_row w g 1 _ _ _ h.1]; rfl
theorem SetAt.word (h : SetAt w g b n ws) {k : Nat} (hk : k < 32) : w.cell? ⟨g, 2 + k, none⟩ = some (.int .u64 (ws.getD k 0 : Nat)) := by
  have hl := h.2.1
  rw [cell_of_row w g (2 + k) _ _ _ h.1, Nat.add_comm]
  simp [vals, show k < ws.length by omega]
theorem SetAt.free (h : SetAt w g b n ws) (k : Nat) : w.frozen? ⟨g, k, none⟩ = false := frozen_of_row w g k _ _ h.1
theorem SetAt.lt_word (h : SetAt w g b n ws) (k : Nat) : ws.getD k 0 < 18446744073709551616 := h.2.2.1 k
/-- One word written. -/
theorem SetAt.set (h : SetAt w g b n ws) (k v : Nat) (hf : Fine n (ws.set k v)) : SetAt (w.setCell ⟨g, 2 + k, none⟩ (.int .u64 v)) g b n (ws.set k v) ∧ w.grownBy (w.setCell ⟨g, 2 + k, none⟩ (.int .u64 v)) (some g) := by
  refine ⟨⟨?_, hf⟩, ⟨rfl, rfl, rfl, by simp, fun i _ hi => heap_setCell_other w ⟨g, 2 + k, none⟩ i _ (fun e => hi (by simp [e]))⟩⟩
  rw [heap_setCell_same w g (2 + k) _ _ _ h.1, Nat.add_comm 2 k]
  simp [vals, List.map_set]
end

/-! ### Where a number lies -/
abbrev none3 : Ending := .returned (.tuple #[.int .i64 0, .int .u64 0, .bool false])
theorem place_nil (i : Int) (w : World) : Calls Tryd.prog 49 #[.pointer none, .int .i64 i] w fun e w' => e = none3 ∧ w' = w := by
  go_enter Tryd.func49, Tryd.ntmps49
  go_wp2
  go_ret3
  exact ⟨rfl, rfl⟩
theorem place_no {w : World} {g n : Nat} {b : Bool} {ws : List Nat} (h : SetAt w g b n ws) (i : Int) (hi : ¬ (0 ≤ i ∧ i < n)) : Calls Tryd.prog 49 #[.pointer (some ⟨g, 0, none⟩), .int .i64 i] w fun e w' => e = none3 ∧ w' = w := by
  have c1 := h.size
  clear h
  by_cases h0 : i < 0
  · clear hi
    go_enter Tryd.func49, Tryd.ntmps49
    go_wp2
    go_ret3
    exact ⟨rfl, rfl⟩
  have h1 : (n : Int) ≤ i := by omega
  go_enter Tryd.func49, Tryd.ntmps49
  go_wp2
  go_ret3
  exact ⟨rfl, rfl⟩
theorem wrap_pow (i : Nat) : IntKind.u64.wrap ((2 : Int) ^ (i % 64)) = ((2 ^ (i % 64) : Nat) : Int) := by
  have := pow_lt i
  have e : ((2 : Int) ^ (i % 64)) = ((2 ^ (i % 64) : Nat) : Int) := by simp
  rw [e, IntKind.wrap_u64]
  generalize 2 ^ (i % 64) = p at this
  omega
theorem place_yes {w : World} {g n : Nat} {b : Bool} {ws : List Nat} (h : SetAt w g b n ws) (i q p : Nat) (hi : i < n) (hq : i / 64 = q) (hp : 2 ^ (i % 64) = p) : Calls Tryd.prog 49 #[.pointer (some ⟨g, 0, none⟩), .int .i64 i] w
    fun e w' => e = .returned (.tuple #[.int .i64 q, .int .u64 p, .bool true]) ∧ ∃ k, w' = w.drewN k := by
  have c1 := h.size
  have hn := h.2.2.2.2
  clear h
  have h1 : (i : Int) < n := by omega
  have h2 : ¬ ((n : Int) ≤ i) := by omega
  have h3 : (0 : Int) ≤ ((i % 64 : Nat) : Int) := by omega
  have q1 : ((i : Int)).tdiv 64 = ((i / 64 : Nat) : Int) := by rw [Int.tdiv_eq_ediv_of_nonneg (by omega)]; omega
  have q2 : ((i : Int)).tmod 64 = ((i % 64 : Nat) : Int) := by rw [Int.tmod_eq_emod_of_nonneg (by omega)]; omega
  have q3 := Lib.hid (wrap_pow i)
  have HQ := Lib.hid hq
  have HP := Lib.hid hp
  clear hq hp
  go_enter Tryd.func49, Tryd.ntmps49
  go_wp2
  go_quiet (fail)
  go_wp2
  go_ret3
  refine ⟨?_, _, rfl⟩
  show Ending.returned (.tuple #[.int .i64 ((i : Int) / 64), .int .u64 (IntKind.u64.wrap (2 ^ (i % 64))), .bool true]) = _
  rw [q3.out, ← HQ.out, ← HP.out]
  rfl

/-! ### The library's two counts -/
/-- The library's table, as its own text lays it. -/
def Tab (w : World) : Prop := 0 < w.heap.size ∧ ∀ j, j < 64 → w.cell? ⟨0, j, none⟩ = some (.int .u8 (Lib.deBruijn64tab.getD j 0 : Nat))
theorem Tab.kept {w w' : World} {row : Option Nat} (h : Tab w) (hg : w.grownBy w' row) (hr : some 0 ≠ row) : Tab w' := ⟨Nat.lt_of_lt_of_le h.1 hg.size, fun j hj => hg.cell (h.2 j hj) hr⟩
theorem Tab.drewN {w : World} (h : Tab w) (k : Nat) : Tab (w.drewN k) := h
/-- What the library reckons on the way: the lowest bit, its product, and the place that the product's six highest bits name. -/
theorem tz_walk {x rest lowest prod place k : Nat} {w : World} (h0 : ((x : Int) == 0) = false) (k1 : IntKind.u64.wrap (-(x : Int)) = (rest : Int)) (k2 : bits .and .u64 (x : Int) (rest : Int) = (lowest : Int))
    (k3 : IntKind.u64.wrap ((lowest : Int) * 285870213051353865) = (prod : Int)) (k4 : (prod : Int) / 288230376151711744 = (place : Int)) (hi : place < 64) (hk : k < 64)
    (cell : w.cell? ⟨0, place, none⟩ = some (.int .u8 k)) :
    Calls Tryd.prog 63 #[.int .u64 x] w fun e w' => e = .returned (.int .i64 k) ∧ w' = w := by
  go_enter Tryd.func63, Tryd.ntmps63
  go_wp2_with (simp only [k4])
  go_ret
  exact ⟨rfl, rfl⟩
theorem low_product (a : Nat) : IntKind.u64.wrap ((a : Int) * 285870213051353865) = ((a * 285870213051353865 % 18446744073709551616 : Nat) : Int) := by rw [IntKind.wrap_u64]; omega
theorem high_six (a : Nat) : (a : Int) / 288230376151711744 = ((a / 288230376151711744 : Nat) : Int) := by omega
theorem neg_word (x : Nat) (hx : x < 18446744073709551616) (hx0 : x ≠ 0) : IntKind.u64.wrap (-(x : Int)) = ((18446744073709551616 - x : Nat) : Int) := by rw [IntKind.wrap_u64]; omega
theorem tz_any (x : Nat) (hx : x < 18446744073709551616) (hx0 : x ≠ 0) {w : World} (hT : Tab w) :
    Calls Tryd.prog 63 #[.int .u64 x] w fun e w' => e = .returned (.int .i64 (Lib.ctz 64 x)) ∧ w' = w := by
  obtain ⟨low, hk⟩ := Lib.lowest_bit 64 x hx0 hx
  obtain ⟨hi, hnum⟩ := Lib.deBruijn64_at _ hk
  have cell := hT.2 _ hi
  rw [hnum] at cell
  refine tz_walk (by simp; omega) (neg_word x hx hx0) ((u64_and_nat _ _ hx (by omega)).trans (congrArg Nat.cast low)) (low_product _) (high_six _) hi hk cell
theorem step1 (x : Nat) (hx : x < 18446744073709551616) : IntKind.u64.wrap (bits .and .u64 ((x : Int) / 2) 6148914691236517205 + bits .and .u64 (x : Int) 6148914691236517205) = (s1 x : Int) := by
  have e : ((x : Int) / 2) = ((x / 2 : Nat) : Int) := rfl
  have a := bits_and_u64_nat (x / 2) 6148914691236517205 (by omega) (by omega)
  have b := bits_and_u64_nat x 6148914691236517205 (by omega) (by omega)
  rw [e]
  have l1 : x / 2 &&& 6148914691236517205 ≤ 6148914691236517205 := Nat.and_le_right
  have l2 : x &&& 6148914691236517205 ≤ 6148914691236517205 := Nat.and_le_right
  rw [show ((6148914691236517205 : Nat) : Int) = 6148914691236517205 from rfl] at a b
  rw [a, b, IntKind.wrap_u64]
  unfold s1
  omega
theorem step2 (x : Nat) (hx : x < 18446744073709551616) : IntKind.u64.wrap (bits .and .u64 ((x : Int) / 4) 3689348814741910323 + bits .and .u64 (x : Int) 3689348814741910323) = (s2 x : Int) := by
  have e : ((x : Int) / 4) = ((x / 4 : Nat) : Int) := rfl
  have a := bits_and_u64_nat (x / 4) 3689348814741910323 (by omega) (by omega)
  have b := bits_and_u64_nat x 3689348814741910323 (by omega) (by omega)
  rw [e]
  have l1 : x / 4 &&& 3689348814741910323 ≤ 3689348814741910323 := Nat.and_le_right
  have l2 : x &&& 3689348814741910323 ≤ 3689348814741910323 := Nat.and_le_right
  rw [show ((3689348814741910323 : Nat) : Int) = 3689348814741910323 from rfl] at a b
  rw [a, b, IntKind.wrap_u64]
  unfold s2
  omega
theorem s1_lt (x : Nat) : s1 x < 18446744073709551616 := by
  have l1 : x / 2 &&& 6148914691236517205 ≤ 6148914691236517205 := Nat.and_le_right
  have l2 : x &&& 6148914691236517205 ≤ 6148914691236517205 := Nat.and_le_right
  unfold s1
  omega
theorem s2_lt (x : Nat) : s2 x ≤ 7378697629483820646 := by
  have l1 : x / 4 &&& 3689348814741910323 ≤ 3689348814741910323 := Nat.and_le_right
  have l2 : x &&& 3689348814741910323 ≤ 3689348814741910323 := Nat.and_le_right
  unfold s2
  omega
theorem step3 (x : Nat) (hx : x ≤ 7378697629483820646) : bits .and .u64 (IntKind.u64.wrap ((x : Int) / 16 + (x : Int))) 1085102592571150095 = (s3 x : Int) := by
  have e : IntKind.u64.wrap ((x : Int) / 16 + (x : Int)) = ((x / 16 + x : Nat) : Int) := by rw [IntKind.wrap_u64]; omega
  have a := bits_and_u64_nat (x / 16 + x) 1085102592571150095 (by omega) (by omega)
  rw [show ((1085102592571150095 : Nat) : Int) = 1085102592571150095 from rfl] at a
  rw [e, a]
  rfl
theorem step4 (x : Nat) (hx : x < 1152921504606846976) : IntKind.u64.wrap ((x : Int) + (x : Int) / 256) = (s4 x : Int) := by
  unfold s4; rw [IntKind.wrap_u64]; omega
theorem step5 (x : Nat) (hx : x < 2305843009213693952) : IntKind.u64.wrap ((x : Int) + (x : Int) / 65536) = (s5 x : Int) := by
  unfold s5; rw [IntKind.wrap_u64]; omega
theorem step6 (x : Nat) (hx : x < 4611686018427387904) : IntKind.u64.wrap ((x : Int) + (x : Int) / 4294967296) = (s6 x : Int) := by
  unfold s6; rw [IntKind.wrap_u64]; omega
theorem and_127 (x : Nat) (hx : x < 9223372036854775808) : bits .and .i64 (x : Int) 127 = ((x % 128 : Nat) : Int) := by
  have h1 : (BitVec.ofInt 64 (x : Int)).toNat = x := by
    rw [BitVec.ofInt_natCast, BitVec.toNat_ofNat]; exact Nat.mod_eq_of_lt (by omega)
  have a := Nat.and_two_pow_sub_one_eq_mod x 7
  rw [show (2 : Nat) ^ 7 - 1 = 127 from rfl, show (2 : Nat) ^ 7 = 128 from rfl] at a
  show IntKind.i64.wrap ((BitVec.ofInt 64 (x : Int) &&& BitVec.ofInt 64 127).toNat : Int) = _
  rw [BitVec.toNat_and, h1, show (BitVec.ofInt 64 127).toNat = 127 from rfl, a]
  exact IntWalk.i64_in _ (by omega)
set_option maxHeartbeats 1000000 in
theorem ones_any (x : Nat) (hx : x < 18446744073709551616) (w : World) : Calls Tryd.prog 50 #[.int .u64 x] w fun e w' => e = .returned (.int .i64 (pop 64 x)) ∧ w' = w := by
  obtain ⟨l3, l4, l5, l6, e⟩ := steps x
  have k1 := step1 x hx
  have k2 := step2 _ (s1_lt x)
  have k3 := step3 _ (s2_lt (s1 x))
  have k4 := step4 _ l3
  have k5 := step5 _ l4
  have k6 := step6 _ l5
  generalize s1 x = x1 at k1 k2 k3 k4 k5 k6 l3 l4 l5 l6 e
  generalize s2 x1 = x2 at k2 k3 k4 k5 k6 l3 l4 l5 l6 e
  generalize s3 x2 = x3 at k3 k4 k5 k6 l3 l4 l5 l6 e
  generalize s4 x3 = x4 at k4 k5 k6 l4 l5 l6 e
  generalize s5 x4 = x5 at k5 k6 l5 l6 e
  generalize s6 x5 = x6 at k6 l6 e
  go_enter Tryd.func50, Tryd.ntmps50
  go_wp2
  go_ret
  refine ⟨?_, rfl⟩
  show Ending.returned (.int .i64 (bits .and .i64 (x6 : Int) 127)) = _
  rw [and_127 x6 l6, e]
end Go.Proofs.YtokjpibaaioehaaDoor.bm
