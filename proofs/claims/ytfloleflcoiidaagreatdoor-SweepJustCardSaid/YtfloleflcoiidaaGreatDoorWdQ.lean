/- Joined: HdA, WdA, WdB, WdD. -/
import Derived.Test.YtfloleflcoiidaaGreatDoorMmQ
import Derived.OwnWalk
import Derived.Test.YtfloleflcoiidaaGreatDoorRows
import Derived.WalkKit
import Derived.ProofKit
import Derived.OpenShut
import Derived.Outline
import Derived.Lib.Hide
import Derived.IntWalk
/- An object's first word: made, split, put, read; where a field lies. -/
namespace Go.Proofs.YtfloleflcoiidaaGreatDoor.hd
open Go.ChangeShapes Go.WideShapes Go.ChangeAt Go.RowKit gen mm
set_option linter.unusedVariables false

/-- A serial and a number of fields that may be. -/
def May (s n : Int) : Prop := 0 ≤ s ∧ s < 1099511627776 ∧ 0 ≤ n ∧ n < 128
theorem Make_yes (s n : Int) (w : World) (h : May s n) :
    Calls Tryz.prog 123 #[.int .i64 s, .int .i64 n] w fun e w' => e = .returned (.tuple #[.int .i64 (s * 128 + n), .bool true]) ∧ w = w' := by
  obtain ⟨h1, h2, h3, h4⟩ := h
  have h5 : n ≤ 127 := by omega
  go_enter Tryz.func123, Tryz.ntmps123
  go_wp2
  go_ret2
  exact ⟨rfl, rfl⟩
theorem Make_no (s n : Int) (w : World) (h : ¬ May s n) :
    Calls Tryz.prog 123 #[.int .i64 s, .int .i64 n] w fun e w' => e = .returned (.tuple #[.int .i64 0, .bool false]) ∧ w = w' := by
  unfold May at h
  by_cases h1 : s < 0
  · clear h
    go_enter Tryz.func123, Tryz.ntmps123
    go_wp2
    go_ret2
    exact ⟨rfl, rfl⟩
  by_cases h2 : 1099511627776 ≤ s
  · clear h
    go_enter Tryz.func123, Tryz.ntmps123
    go_wp2
    go_ret2
    exact ⟨rfl, rfl⟩
  by_cases h3 : n < 0
  · clear h
    go_enter Tryz.func123, Tryz.ntmps123
    go_wp2
    go_ret2
    exact ⟨rfl, rfl⟩
  have h4 : 127 < n := by omega
  clear h
  go_enter Tryz.func123, Tryz.ntmps123
  go_wp2
  go_ret2
  exact ⟨rfl, rfl⟩

/-- A word that is some object's first one. -/
def Isw (x : Int) : Prop := 0 ≤ x ∧ x < 140737488355328
theorem isw_may {x : Int} (h : Isw x) : May (x / 128) (x % 128) := by
  obtain ⟨h1, h2⟩ := h
  refine ⟨?_, ?_, ?_, ?_⟩ <;> omega
theorem isw_not {x : Int} (h : ¬ Isw x) : ¬ May (x.tdiv 128) (x.tmod 128) := by
  rintro ⟨h1, h2, h3, h4⟩
  apply h
  have e := Int.mul_tdiv_add_tmod x 128
  constructor <;> omega
theorem Split_yes (x : Int) (w : World) (h : Isw x) :
    Calls Tryz.prog 86 #[.int .i64 x] w fun e w' => e = .returned (.tuple #[.int .i64 (x / 128), .int .i64 (x % 128), .bool true]) ∧ w = w' := by
  have H := Lib.hid (isw_may h)
  obtain ⟨h1, h2⟩ := h
  go_enter Tryz.func86, Tryz.ntmps86
  go_wp2_with (go_at_call 123; (with_reducible refine (Make_yes _ _ _ H.out).mono ?_); rintro e w' ⟨rfl, rfl⟩)
  go_ret3
  exact ⟨rfl, rfl⟩
theorem Split_no (x : Int) (w : World) (h : ¬ Isw x) (hx : -9223372036854775808 ≤ x ∧ x ≤ 9223372036854775807) :
    Calls Tryz.prog 86 #[.int .i64 x] w fun e w' => e = .returned (.tuple #[.int .i64 0, .int .i64 0, .bool false]) ∧ w = w' := by
  have H := Lib.hid (isw_not h)
  clear h
  obtain ⟨h1, h2⟩ := hx
  go_enter Tryz.func86, Tryz.ntmps86
  go_wp2_with (go_at_call 123; (with_reducible refine (Make_no _ _ _ H.out).mono ?_); rintro e w' ⟨rfl, rfl⟩)
  go_ret3
  exact ⟨rfl, rfl⟩

/-! ### In memory -/
abbrev none3 : Ending := .returned (.tuple #[.int .i64 0, .int .i64 0, .bool false])
abbrev got3 (x : Int) : Ending := .returned (.tuple #[.int .i64 (x / 128), .int .i64 (x % 128), .bool true])
/-- An object stands whole at a. -/
def Obj (xs : List Int) (a : Int) : Prop := ∃ k : Nat, a = k ∧ Isw (xs.getD k 0) ∧ (k : Int) + xs.getD k 0 % 128 < xs.length
/-- Words that fit. -/
def Fit (xs : List Int) : Prop := ∀ k : Nat, -9223372036854775808 ≤ xs.getD k 0 ∧ xs.getD k 0 ≤ 9223372036854775807
end Go.Proofs.YtfloleflcoiidaaGreatDoor.hd

/- Values and their words: what may be, and what layer 3's small functions do when they are called. -/
namespace Go.Proofs.YtfloleflcoiidaaGreatDoor.wd
open Go.ChangeShapes Go.WideShapes Go.ChangeAt Go.RowKit
set_option linter.unusedVariables false

/-- The error of a value of kind k with the number n. -/
def chk (k n : Int) : Int :=
  if k < 0 ∨ 2 < k then 12 else
  if (k = 0 ∧ n ≠ 0) ∨ (k = 1 ∧ (n < -1099511627776 ∨ 1099511627776 ≤ n)) ∨ (k = 2 ∧ (n < 0 ∨ 2048 ≤ n)) then 4 else 0
/-- The two cells of a value that lies at the head of block B. -/
abbrev Two (w : World) (B : Nat) (k n : Int) : Prop := w.cell? ⟨B, 0, none⟩ = some (.int .i64 k) ∧ w.cell? ⟨B, 1, none⟩ = some (.int .i64 n) ∧ w.frozen? ⟨B, 0, none⟩ = false ∧ w.frozen? ⟨B, 1, none⟩ = false
theorem Two.below {W w' : World} {B : Nat} {k n : Int} (hb : Below W.heap.size W w') (h : Two W B k n) : Two w' B k n := by
  obtain ⟨h0, h1, f0, f1⟩ := h
  have hz := World.block_lt_of_cell? W _ h0
  exact ⟨(hb.cell (p := ⟨B, 0, none⟩) hz).trans h0, (hb.cell (p := ⟨B, 1, none⟩) hz).trans h1, (hb.frozen (p := ⟨B, 0, none⟩) hz).trans f0, (hb.frozen (p := ⟨B, 1, none⟩) hz).trans f1⟩
theorem Two.new (w : World) (t : TypeId) (k n : Int) {B : Nat} (h : w.heap.size = B) : Two (w.alloc (.cells #[.int .i64 k, .int .i64 n] t)) B k n := by
  subst h
  unfold Two
  refine ⟨?_, ?_, ?_, ?_⟩ <;> simp [go_sem]

theorem ret_int {a b : Int} (h : a = b) : Ending.returned (.int .i64 a) = .returned (.int .i64 b) := by rw [h]

end Go.Proofs.YtfloleflcoiidaaGreatDoor.wd

/- What layer 3's functions do when they are called. -/
namespace Go.Proofs.YtfloleflcoiidaaGreatDoor.wd
open Go.ChangeShapes Go.WideShapes Go.ChangeAt Go.RowKit
set_option linter.unusedVariables false

/-- The kind, the number, and whether there is one, of what is made of kind k and the number n: nothing, if it may not be. -/
def vk (k n : Int) : Int := if chk k n = 0 then k else 0
def vn (k n : Int) : Int := if chk k n = 0 then n else 0
def vb (k n : Int) : Bool := decide (chk k n = 0)
/-- A value and a bool. -/
abbrev ans (k n : Int) (b : Bool) : Ending := .returned (.tuple #[.agg #[.int .i64 k, .int .i64 n], .bool b])

theorem and_one (x : Int) : bits .and .i64 x 1 = x % 2 := by
  have h : ((BitVec.ofInt 64 x &&& BitVec.ofInt 64 1).toNat : Int) = x % 2 := by
    rw [BitVec.toNat_and, BitVec.toNat_ofInt, BitVec.toNat_ofInt, show ((1 : Int) % (2 ^ 64 : Nat)).toNat = 1 by decide, Nat.and_one_is_mod]
    omega
  show IntKind.i64.wrap _ = _
  rw [show IntKind.bits .i64 = 64 from rfl, h]
  exact IntWalk.i64_in _ (by omega)
/-- What a number reads as: kind, number, and whether it is a word. -/
def rk (x : Int) : Int := if x = 0 then 0 else if x % 2 = 0 then vk 2 (x / 2 - 1) else vk 1 (x / 2)
def rn (x : Int) : Int := if x = 0 then 0 else if x % 2 = 0 then vn 2 (x / 2 - 1) else vn 1 (x / 2)
def rb (x : Int) : Bool := if x = 0 then true else if x % 2 = 0 then vb 2 (x / 2 - 1) else vb 1 (x / 2)
theorem tmod_two (x : Int) : (x.tmod 2 == 0) = (x % 2 == 0) := by
  have : x.tmod 2 = 0 ↔ x % 2 = 0 := ⟨fun h => Int.emod_eq_zero_of_dvd (Int.dvd_of_tmod_eq_zero h), fun h => Int.tmod_eq_zero_of_dvd (Int.dvd_of_emod_eq_zero h)⟩
  rw [Bool.eq_iff_iff]; simp [this]
theorem tdiv_odd (x : Int) (h : x % 2 ≠ 0) : (x - 1).tdiv 2 = x / 2 := by
  rw [Int.tdiv_eq_ediv_of_dvd (Int.dvd_of_emod_eq_zero (by omega))]
  omega
theorem read_no {x : Int} (h0 : x ≠ 0) (h : (x % 2 = 0 ∧ (x < 2 ∨ 4096 < x)) ∨ (x % 2 ≠ 0 ∧ (x < -2199023255551 ∨ 2199023255551 < x))) : rk x = 0 ∧ rn x = 0 ∧ rb x = false := by
  rcases h with ⟨h, k⟩ | ⟨h, k⟩
  · have : chk 2 (x / 2 - 1) ≠ 0 := by unfold chk; repeat' split
                                       all_goals omega
    simp [rk, rn, rb, vk, vn, vb, *]
  · have : chk 1 (x / 2) ≠ 0 := by unfold chk; repeat' split
                                   all_goals omega
    simp [rk, rn, rb, vk, vn, vb, *]
theorem read_ref {x : Int} (h : x % 2 = 0) (h1 : 2 ≤ x) (h2 : x ≤ 4096) : rk x = 2 ∧ rn x = x / 2 - 1 ∧ rb x = true := by
  have : chk 2 (x / 2 - 1) = 0 := by unfold chk; repeat' split
                                     all_goals omega
  simp [rk, rn, rb, vk, vn, vb, *]; omega
theorem read_num {x : Int} (h : x % 2 ≠ 0) (h1 : -2199023255551 ≤ x) (h2 : x ≤ 2199023255551) : rk x = 1 ∧ rn x = x / 2 ∧ rb x = true := by
  have : chk 1 (x / 2) = 0 := by unfold chk; repeat' split
                                 all_goals omega
  have : x ≠ 0 := by omega
  simp [rk, rn, rb, vk, vn, vb, *]
/-- The word of what may be. -/
def wd (k n : Int) : Int := if chk k n = 0 then (if k = 0 then 0 else 2 * n + k) else 0
theorem chk_zero {k n : Int} : chk k n = 0 ↔ (k = 0 ∧ n = 0) ∨ (k = 1 ∧ -1099511627776 ≤ n ∧ n < 1099511627776) ∨ (k = 2 ∧ 0 ≤ n ∧ n < 2048) := by
  unfold chk; repeat' split
  all_goals omega
theorem ret_pair {a b : Int} {x y : Bool} (h : a = b) (h2 : x = y) : Ending.returned (.tuple #[.int .i64 a, .bool x]) = .returned (.tuple #[.int .i64 b, .bool y]) := by rw [h, h2]
/-- Where a number leads. -/
def ra (x : Int) : Int := if rb x = true ∧ rk x = 2 then rn x else 0
def rr (x : Int) : Bool := decide (rb x = true ∧ rk x = 2)
end Go.Proofs.YtfloleflcoiidaaGreatDoor.wd

/- The walks of the statements on values that come back from their words, and on numbers and references that are made. -/
namespace Go.Proofs.YtfloleflcoiidaaGreatDoor.wd
open Go.ChangeShapes Go.WideShapes Go.ChangeAt Go.RowKit
set_option linter.unusedVariables false

theorem wf64 {n : Int} (h : -9223372036854775808 ≤ n ∧ n ≤ 9223372036854775807) : (Lit.int .i64 n).wf = true := by
  have h1 : IntKind.i64.min ≤ n := h.1
  have h2 : n ≤ IntKind.i64.max := h.2
  show (decide (IntKind.i64.min ≤ n) && decide (n ≤ IntKind.i64.max)) = true
  rw [Bool.and_eq_true]
  exact ⟨decide_eq_true h1, decide_eq_true h2⟩
theorem wd_back {k n : Int} (h : chk k n = 0) : rk (wd k n) = k ∧ rn (wd k n) = n ∧ rb (wd k n) = true ∧ (Lit.int .i64 (wd k n)).wf = true := by
  have e : wd k n = if k = 0 then 0 else 2 * n + k := by simp [wd, h]
  rw [e]
  rcases chk_zero.1 h with ⟨rfl, rfl⟩ | ⟨rfl, h1, h2⟩ | ⟨rfl, h1, h2⟩
  · decide
  · rw [if_neg (by decide)]
    obtain ⟨e1, e2, e3⟩ := read_num (x := 2 * n + 1) (by omega) (by omega) (by omega)
    exact ⟨e1, by rw [e2]; omega, e3, wf64 (by omega)⟩
  · rw [if_neg (by decide)]
    obtain ⟨e1, e2, e3⟩ := read_ref (x := 2 * n + 2) (by omega) (by omega) (by omega)
    exact ⟨e1, by rw [e2]; omega, e3, wf64 (by omega)⟩
theorem wd_inj {k n l m : Int} (h : chk k n = 0) (h2 : chk l m = 0) (e : wd k n = wd l m) : k = l ∧ n = m := by
  obtain ⟨a1, a2, -⟩ := wd_back h
  obtain ⟨b1, b2, -⟩ := wd_back h2
  exact ⟨by rw [← a1, e, b1], by rw [← a2, e, b2]⟩
theorem read_back {x : Int} (h : rb x = true) : chk (rk x) (rn x) = 0 ∧ wd (rk x) (rn x) = x := by
  by_cases h0 : x = 0
  · subst h0; decide
  by_cases he : x % 2 = 0
  · have hv : vb 2 (x / 2 - 1) = true := by simpa [rb, h0, he] using h
    have hc : chk 2 (x / 2 - 1) = 0 := of_decide_eq_true hv
    have e1 : rk x = 2 := by simp [rk, h0, he, vk, hc]
    have e2 : rn x = x / 2 - 1 := by simp [rn, h0, he, vn, hc]
    rw [e1, e2]
    refine ⟨hc, ?_⟩
    simp [wd, hc]; omega
  · have hv : vb 1 (x / 2) = true := by simpa [rb, h0, he] using h
    have hc : chk 1 (x / 2) = 0 := of_decide_eq_true hv
    have e1 : rk x = 1 := by simp [rk, h0, he, vk, hc]
    have e2 : rn x = x / 2 := by simp [rn, h0, he, vn, hc]
    rw [e1, e2]
    refine ⟨hc, ?_⟩
    simp [wd, hc]; omega

section
variable (k n l m x : Int) (hx : (Lit.int .i64 x).wf = true) (w : World)
include hx
end
end Go.Proofs.YtfloleflcoiidaaGreatDoor.wd
