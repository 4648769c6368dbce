/- A bank in memory: what came, what is gone, what was lost, its room, and whether it was made. What its small calls answer. -/
import Derived.Test.YtamfbpoaohmkaaaGrA
import Derived.RegionTactic
import Derived.Deep.RegionLaw
import Derived.Deep.RegionHeld3
import Derived.Deep.RegionHeldLaw
namespace Go.Proofs.Ytamfbpoaohmkaaa.bn
open Go.ChangeShapes Go.WideShapes Go.ChangeAt Go.RowKit gen li gr
set_option linter.unusedVariables false
set_option maxHeartbeats 1000000
set_option maxRecDepth 100000

/-- The nearest number that may be. -/
def near (n a b : Int) : Int := if n < a then a else if b < n then b else n
theorem near_lo {n a b : Int} (h : a ≤ b) : a ≤ near n a b := by unfold near; (repeat' split) <;> omega
theorem near_hi {n a b : Int} (h : a ≤ b) : near n a b ≤ b := by unfold near; (repeat' split) <;> omega
theorem near_id {k a b : Int} (h1 : a ≤ k) (h2 : k ≤ b) : near k a b = k := by unfold near; (repeat' split) <;> omega
theorem near_below {n a b : Int} (h : a ≤ b) (hn : n ≤ a) : near n a b = a := by unfold near; (repeat' split) <;> omega
theorem near_above {n a b : Int} (h : a ≤ b) (hn : b ≤ n) : near n a b = b := by unfold near; (repeat' split) <;> omega
theorem ret_int {a b : Int} (h : a = b) : Ending.returned (.int .i64 a) = .returned (.int .i64 b) := by rw [h]
theorem Clamp_any (n a b : Int) (w : World) : Calls Try.prog 21 #[.int .i64 n, .int .i64 a, .int .i64 b] w fun e w' => e = .returned (.int .i64 (near n a b)) ∧ w = w' := by
  by_cases h : n < a
  · go_enter Try.func21, Try.ntmps21
    go_wp2
    go_ret
    exact ⟨by simp [near, h], rfl⟩
  by_cases h2 : b < n
  all_goals
    go_enter Try.func21, Try.ntmps21
    go_wp2
    go_ret
    exact ⟨ret_int (by unfold near; repeat' split
                       all_goals omega), rfl⟩
theorem Near_any (n a b : Int) (w : World) : Calls Try.prog 9 #[.int .i64 n, .int .i64 a, .int .i64 b] w fun e w' => e = .returned (.int .i64 (near n a b)) ∧ w = w' := by
  by_cases h : n < a
  · go_enter Try.func9, Try.ntmps9
    go_wp2
    go_ret
    exact ⟨by simp [near, h], rfl⟩
  by_cases h2 : b < n
  all_goals
    go_enter Try.func9, Try.ntmps9
    go_wp2
    go_ret
    exact ⟨ret_int (by unfold near; repeat' split
                       all_goals omega), rfl⟩
/-- A bank's cells, at g: what came, what is gone, what was lost, its room, whether it was made. -/
def Bo (w : World) (g : Nat) (i o l r : Int) (m : Bool) : Prop := w.heap[g]? = some (.cells #[.int .i64 i, .int .i64 o, .int .i64 l, .int .i64 r, .bool m] 43 (0, 0))
section
variable {w w' : World} {g : Nat} {i o l r h N : Int} {m : Bool} {L : List Nat}
theorem Bo.lt (h : Bo w g i o l r m) : g < w.heap.size := (Array.getElem?_eq_some_iff.1 h).1
theorem Bo.kept {row : Option Nat} (h : Bo w g i o l r m) (hg : w.grownBy w' row) (hr : some g ≠ row) : Bo w' g i o l r m := (hg.block g h.lt hr).trans h
theorem Bo.new (h : Bo w g i o l r m) (hg : w.grownBy w' none) : Bo w' g i o l r m := h.kept hg (by simp)
theorem Bo.gr (h : Bo w g i o l r m) (hg : Gr L w w') (hL : g ∉ L) : Bo w' g i o l r m := hg.heap h hL
theorem Bo.free (h : Bo w g i o l r m) (k : Nat) : w.frozen? ⟨g, k, none⟩ = false := frozen_of_row w g k _ _ h
theorem Bo.c0 (h : Bo w g i o l r m) : w.cell? ⟨g, 0, none⟩ = some (.int .i64 i) := by rw [cell_of_row w g 0 _ _ _ h]; rfl
theorem Bo.c1 (h : Bo w g i o l r m) : w.cell? ⟨g, 1, none⟩ = some (.int .i64 o) := by rw [cell_of_row w g 1 _ _ _ h]; rfl
theorem Bo.c2 (h : Bo w g i o l r m) : w.cell? ⟨g, 2, none⟩ = some (.int .i64 l) := by rw [cell_of_row w g 2 _ _ _ h]; rfl
theorem Bo.c3 (h : Bo w g i o l r m) : w.cell? ⟨g, 3, none⟩ = some (.int .i64 r) := by rw [cell_of_row w g 3 _ _ _ h]; rfl
theorem Bo.c4 (h : Bo w g i o l r m) : w.cell? ⟨g, 4, none⟩ = some (.bool m) := by rw [cell_of_row w g 4 _ _ _ h]; rfl
theorem Bo.set0 (h : Bo w g i o l r m) (x : Int) : Bo (w.setCell ⟨g, 0, none⟩ (.int .i64 x)) g x o l r m := by have := heap_setCell_same w g 0 _ _ (.int .i64 x) h; exact this
theorem Bo.set1 (h : Bo w g i o l r m) (x : Int) : Bo (w.setCell ⟨g, 1, none⟩ (.int .i64 x)) g i x l r m := by have := heap_setCell_same w g 1 _ _ (.int .i64 x) h; exact this
theorem Bo.set2 (h : Bo w g i o l r m) (x : Int) : Bo (w.setCell ⟨g, 2, none⟩ (.int .i64 x)) g i o x r m := by have := heap_setCell_same w g 2 _ _ (.int .i64 x) h; exact this
/-- One that New did not make. -/
theorem Bo.zero (w : World) : Bo (w.alloc (.cells #[.int .i64 0, .int .i64 0, .int .i64 0, .int .i64 0, .bool false] 43)) w.heap.size 0 0 0 0 false := heap_alloc_new _ _
/-- The numbers of a bank: h are there, of what came (i) less what is gone (o), l were lost, r is its room; all that came is at most N. -/
structure Nu (N h i o l r : Int) : Prop where
  e : i - o = h
  o0 : 0 ≤ o
  h0 : 0 ≤ h
  hr : h ≤ r
  r1 : r ≤ 65535
  l0 : 0 ≤ l
  il : i + l ≤ N
/-- A bank that New made. -/
structure Bk (w : World) (g : Nat) (N h i o l r : Int) : Prop where
  bo : Bo w g i o l r true
  nu : Nu N h i o l r
theorem Bk.kept {row : Option Nat} (k : Bk w g N h i o l r) (hg : w.grownBy w' row) (hr : some g ≠ row) : Bk w' g N h i o l r := ⟨k.bo.kept hg hr, k.nu⟩
theorem Bk.new (k : Bk w g N h i o l r) (hg : w.grownBy w' none) : Bk w' g N h i o l r := ⟨k.bo.new hg, k.nu⟩
theorem Bk.gr (k : Bk w g N h i o l r) (hg : Gr L w w') (hL : g ∉ L) : Bk w' g N h i o l r := ⟨k.bo.gr hg hL, k.nu⟩
theorem Bk.lt (k : Bk w g N h i o l r) : g < w.heap.size := k.bo.lt
theorem Nu.more {N' : Int} (k : Nu N h i o l r) (hN : N ≤ N') : Nu N' h i o l r := { k with il := Int.le_trans k.il hN }
theorem Nu.z (r : Int) (h0 : 0 ≤ r) (h1 : r ≤ 65535) : Nu 0 0 0 0 0 r := ⟨by omega, by omega, by omega, h0, h1, by omega, by omega⟩
/-! ### there, left -/
theorem there_any (g : Nat) (w : World) : Calls Try.prog 22 #[.pointer (some ⟨g, 0, none⟩)] w fun e w' => e = .returned (.pointer (some ⟨g, 0, none⟩)) ∧ w = w' := by
  go_enter Try.func22, Try.ntmps22
  go_wp2
  go_ret
  exact ⟨rfl, rfl⟩
/-- What stands where nil's bank is asked. -/
theorem there_nil (w : World) : Calls Try.prog 22 #[.pointer none] w fun e w' => ∃ B, e = .returned (.pointer (some ⟨B, 0, none⟩)) ∧ Bo w' B 0 0 0 0 false ∧ w.grownBy w' none := by
  have Z := Lib.hid (Bo.zero w)
  go_enter Try.func22, Try.ntmps22
  go_wp2
  go_ret
  exact ⟨_, rfl, Z.out, World.grownBy_alloc _ _ _⟩
theorem left_any (k : Bo w g i o l r m) (he : i - o = h) (h0 : 0 ≤ h) (h1 : h ≤ 65535) : Calls Try.prog 23 #[.pointer (some ⟨g, 0, none⟩)] w fun e w' => e = .returned (.int .i64 h) ∧ w.grownBy w' none := by
  have c0 := k.c0
  have c1 := k.c1
  have ew : IntKind.i64.wrap (i - o) = h := by rw [IntKind.wrap_i64, he]; omega
  clear k he h0 h1
  go_enter Try.func23, Try.ntmps23
  go_wp2
  go_quiet (fail)
  go_wp2
  go_ret
  exact ⟨rfl, li.grown_drewN _ _ _⟩
end
end Go.Proofs.Ytamfbpoaohmkaaa.bn
