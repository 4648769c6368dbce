/- New, Clone and All of a set. -/
import Derived.Test.YtokjpibaaioehaaBmE
namespace Go.Proofs.Ytokjpibaaioehaa.bm
open Go.ChangeShapes Go.WideShapes Go.ChangeAt Go.RowKit gen
set_option linter.unusedVariables false

/-- The nearest number that may be. -/
def near (n a b : Int) : Int := if n < a then a else if b < n then b else n
theorem ret_int {a b : Int} (h : a = b) : Ending.returned (.int .i64 a) = .returned (.int .i64 b) := by rw [h]
theorem Clamp_any (n a b : Int) (w : World) : Calls Try.prog 23 #[.int .i64 n, .int .i64 a, .int .i64 b] w fun e w' => e = .returned (.int .i64 (near n a b)) ∧ w = w' := by
  by_cases h : n < a
  · go_enter Try.func23, Try.ntmps23
    go_wp2
    go_ret
    exact ⟨by simp [near, h], rfl⟩
  by_cases h2 : b < n
  all_goals
    go_enter Try.func23, Try.ntmps23
    go_wp2
    go_ret
    exact ⟨ret_int (by unfold near; repeat' split
                       all_goals omega), rfl⟩
theorem Near_any (n a b : Int) (w : World) : Calls Try.prog 8 #[.int .i64 n, .int .i64 a, .int .i64 b] w fun e w' => e = .returned (.int .i64 (near n a b)) ∧ w = w' := by
  by_cases h : n < a
  · go_enter Try.func8, Try.ntmps8
    go_wp2
    go_ret
    exact ⟨by simp [near, h], rfl⟩
  by_cases h2 : b < n
  all_goals
    go_enter Try.func8, Try.ntmps8
    go_wp2
    go_ret
    exact ⟨ret_int (by unfold near; repeat' split
                       all_goals omega), rfl⟩
theorem near_nat (n : Int) (b : Nat) : ∃ k : Nat, near n 0 b = k ∧ k ≤ b := by
  refine ⟨(near n 0 b).toNat, ?_, ?_⟩ <;> (unfold near; repeat' split) <;> omega
/-- What New answers: a new set in a new block. -/
def NewAns (b : Bool) (n : Nat) (ws : List Nat) (w : World) (e : Ending) (w' : World) : Prop := ∃ g, e = .returned (.pointer (some ⟨g, 0, none⟩)) ∧ SetAt w' g b n ws ∧ w.heap.size ≤ g ∧ w.grownBy w' none
theorem zeros_cells (b : Bool) (n : Int) : (Value.bool b :: .int .i64 n :: vals zeros).toArray = #[.bool b, .int .i64 n, .int .u64 0, .int .u64 0, .int .u64 0, .int .u64 0, .int .u64 0, .int .u64 0, .int .u64 0, .int .u64 0, .int .u64 0, .int .u64 0, .int .u64 0, .int .u64 0, .int .u64 0, .int .u64 0, .int .u64 0, .int .u64 0, .int .u64 0, .int .u64 0, .int .u64 0, .int .u64 0, .int .u64 0, .int .u64 0, .int .u64 0, .int .u64 0, .int .u64 0, .int .u64 0, .int .u64 0, .int .u64 0, .int .u64 0, .int .u64 0, .int .u64 0, .int .u64 0] := rfl
theorem New_any (n : Int) (k : Nat) (hk : near n 0 2048 = k) (w : World) :
    Calls Try.prog 14 #[.int .i64 n] w (NewAns true k zeros w) := by
  have h2 : k ≤ 2048 := by unfold near at hk; repeat' split at hk
                           all_goals omega
  have HK := Lib.hid hk
  clear hk
  go_enter Try.func14, Try.ntmps14
  go_wp2_with (go_at_call 23; (with_reducible refine (Clamp_any _ _ _ _).mono ?_); rintro e w' ⟨rfl, rfl⟩; rw [HK.out])
  go_ret
  refine ⟨w.heap.size, rfl, ⟨?_, Fine.zeros h2⟩, Nat.le_refl _, World.grownBy_alloc _ _ _⟩
  rw [zeros_cells, heap_alloc_new]
section
variable {w : World} {g n : Nat} {b : Bool} {ws : List Nat}
theorem info_set : (Try.prog.info? 52).map (·.size) = some 34 := by kernel_rfl
theorem nums_nonneg (h : SetAt w g b n ws) : ∀ z ∈ nums ws, 0 ≤ z := fun z hz => (mem_nums_lt h.2 hz).1
theorem next_first (h : SetAt w g b n ws) : nextOf (nums ws) 0 = (nums ws).getD 0 (-1) := nextOf_first (nums_nonneg h)
end
end Go.Proofs.Ytokjpibaaioehaa.bm
