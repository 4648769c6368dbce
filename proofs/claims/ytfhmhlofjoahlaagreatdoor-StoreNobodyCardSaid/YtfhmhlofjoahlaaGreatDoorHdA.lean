/- An object's first word: made, split, put, read; where a field lies. -/
import Derived.Test.YtfhmhlofjoahlaaGreatDoorMmQ
import Derived.OwnWalk
namespace Go.Proofs.YtfhmhlofjoahlaaGreatDoor.hd
open Go.ChangeShapes Go.WideShapes Go.ChangeAt Go.RowKit gen mm
set_option linter.unusedVariables false

/-- A serial and a number of fields that may be. -/
def May (s n : Int) : Prop := 0 ≤ s ∧ s < 1099511627776 ∧ 0 ≤ n ∧ n < 128
theorem Make_yes (s n : Int) (w : World) (h : May s n) :
    Calls Tryz.prog 76 #[.int .i64 s, .int .i64 n] w fun e w' => e = .returned (.tuple #[.int .i64 (s * 128 + n), .bool true]) ∧ w = w' := by
  obtain ⟨h1, h2, h3, h4⟩ := h
  have h5 : n ≤ 127 := by omega
  go_enter Tryz.func76, Tryz.ntmps76
  go_wp2
  go_ret2
  exact ⟨rfl, rfl⟩
theorem Make_no (s n : Int) (w : World) (h : ¬ May s n) :
    Calls Tryz.prog 76 #[.int .i64 s, .int .i64 n] w fun e w' => e = .returned (.tuple #[.int .i64 0, .bool false]) ∧ w = w' := by
  unfold May at h
  by_cases h1 : s < 0
  · clear h
    go_enter Tryz.func76, Tryz.ntmps76
    go_wp2
    go_ret2
    exact ⟨rfl, rfl⟩
  by_cases h2 : 1099511627776 ≤ s
  · clear h
    go_enter Tryz.func76, Tryz.ntmps76
    go_wp2
    go_ret2
    exact ⟨rfl, rfl⟩
  by_cases h3 : n < 0
  · clear h
    go_enter Tryz.func76, Tryz.ntmps76
    go_wp2
    go_ret2
    exact ⟨rfl, rfl⟩
  have h4 : 127 < n := by omega
  clear h
  go_enter Tryz.func76, Tryz.ntmps76
  go_wp2
  go_ret2
  exact ⟨rfl, rfl⟩

/-- A word that is some object's first one. -/
def Isw (x : Int) : Prop := 0 ≤ x ∧ x < 140737488355328
theorem isw_may {x : Int} (h : Isw x) : May (x / 128) (x % 128) := by
  obtain ⟨h1, h2⟩ := h
  refine ⟨?_, ?_, ?_, ?_⟩ <;> omega
theorem isw_not {x : Int} (h : ¬ Isw x) : ¬ May (x.tdiv 128) (x.tmod 128) := by
  rintro ⟨h1, h2, h3, h4⟩
  apply h
  have e := Int.mul_tdiv_add_tmod x 128
  constructor <;> omega
theorem Split_yes (x : Int) (w : World) (h : Isw x) :
    Calls Tryz.prog 65 #[.int .i64 x] w fun e w' => e = .returned (.tuple #[.int .i64 (x / 128), .int .i64 (x % 128), .bool true]) ∧ w = w' := by
  have H := Lib.hid (isw_may h)
  obtain ⟨h1, h2⟩ := h
  go_enter Tryz.func65, Tryz.ntmps65
  go_wp2_with (go_at_call 76; (with_reducible refine (Make_yes _ _ _ H.out).mono ?_); rintro e w' ⟨rfl, rfl⟩)
  go_ret3
  exact ⟨rfl, rfl⟩
theorem Split_no (x : Int) (w : World) (h : ¬ Isw x) (hx : -9223372036854775808 ≤ x ∧ x ≤ 9223372036854775807) :
    Calls Tryz.prog 65 #[.int .i64 x] w fun e w' => e = .returned (.tuple #[.int .i64 0, .int .i64 0, .bool false]) ∧ w = w' := by
  have H := Lib.hid (isw_not h)
  clear h
  obtain ⟨h1, h2⟩ := hx
  go_enter Tryz.func65, Tryz.ntmps65
  go_wp2_with (go_at_call 76; (with_reducible refine (Make_no _ _ _ H.out).mono ?_); rintro e w' ⟨rfl, rfl⟩)
  go_ret3
  exact ⟨rfl, rfl⟩

/-! ### In memory -/
abbrev none3 : Ending := .returned (.tuple #[.int .i64 0, .int .i64 0, .bool false])
abbrev got3 (x : Int) : Ending := .returned (.tuple #[.int .i64 (x / 128), .int .i64 (x % 128), .bool true])
/-- An object stands whole at a. -/
def Obj (xs : List Int) (a : Int) : Prop := ∃ k : Nat, a = k ∧ Isw (xs.getD k 0) ∧ (k : Int) + xs.getD k 0 % 128 < xs.length
/-- Words that fit. -/
def Fit (xs : List Int) : Prop := ∀ k : Nat, -9223372036854775808 ≤ xs.getD k 0 ∧ xs.getD k 0 ≤ 9223372036854775807
end Go.Proofs.YtfhmhlofjoahlaaGreatDoor.hd
