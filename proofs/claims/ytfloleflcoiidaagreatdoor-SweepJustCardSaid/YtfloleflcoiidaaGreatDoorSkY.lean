/- Joined: SkD, SkE. -/
import Derived.Test.YtfloleflcoiidaaGreatDoorSkX
/- A stack's own calls. (Printed by wip/tools/genSkD.py.) -/
namespace Go.Proofs.YtfloleflcoiidaaGreatDoor.sk
open Go.ChangeShapes Go.WideShapes Go.ChangeAt Go.RowKit gen li en gr
set_option linter.unusedVariables false
set_option maxHeartbeats 4000000
set_option maxRecDepth 100000

/-- A boxed entry. -/
def En (w : World) (B : Nat) (x1 x2 : Int) : Prop := w.heap[B]? = some (.cells #[.int .i64 x1, .int .i64 x2] 202 (0, 0))
section
variable {w w' W : World} {B g r : Nat} {x1 x2 : Int} {b : Bool} {v : Value} {m : List Va} {K L : List Nat}
theorem En.f (h : En w B x1 x2) : w.cell? ⟨B, 0, none⟩ = some (.int .i64 x1) ∧ w.cell? ⟨B, 1, none⟩ = some (.int .i64 x2) ∧ w.frozen? ⟨B, 0, none⟩ = false ∧ w.frozen? ⟨B, 1, none⟩ = false ∧ B < w.heap.size :=
  ⟨by rw [cell_of_row w B 0 _ _ _ h]; rfl, by rw [cell_of_row w B 1 _ _ _ h]; rfl, frozen_of_row w B 0 _ _ h, frozen_of_row w B 1 _ _ h, (Array.getElem?_eq_some_iff.1 h).1⟩
theorem En.gr (h : En w B x1 x2) (hg : Gr L w w') (hB : B ∉ L) : En w' B x1 x2 := hg.heap h hB
theorem En.new (h : En w B x1 x2) (hg : w.grownBy w' none) : En w' B x1 x2 := (Gr.new (L := []) hg).heap h (by simp)
theorem En.made (w : World) (x1 x2 : Int) : En (w.alloc (.cells #[.int .i64 x1, .int .i64 x2] 202)) w.heap.size x1 x2 := heap_alloc_new _ _
theorem En.set (h : En w B x1 x2) (y1 y2 : Int) : En ((w.setCell ⟨B, 0, none⟩ (.int .i64 y1)).setCell ⟨B, 1, none⟩ (.int .i64 y2)) B y1 y2 := by
  have g1 := heap_setCell_same w B 0 _ _ (.int .i64 y1) h
  have g2 := heap_setCell_same _ B 1 _ _ (.int .i64 y2) g1
  exact g2
theorem grown_two (w : World) (B : Nat) (v1 v2 : Value) : w.grownBy ((w.setCell ⟨B, 0, none⟩ v1).setCell ⟨B, 1, none⟩ v2) (some B) := (grown_set _ _ _ _).trans (grown_set _ _ _ _)
theorem ThA.back (hg : w.grownBy W none) {e : Ending} (h : ThA W e w') : ∃ B, e = .returned (.pointer (some ⟨B, 0, none⟩)) ∧ Sk w' [B] B 0 false [] ∧ w.heap.size ≤ B ∧ w.grownBy w' none := ⟨_, h.1, h.2.1, hg.size, hg.trans h.2.2⟩
/-! ### New, Clamp -/
/-- The nearest number that may be. -/
def near (n a b : Int) : Int := if n < a then a else if b < n then b else n
theorem ret_int {a b : Int} (h : a = b) : Ending.returned (.int .i64 a) = .returned (.int .i64 b) := by rw [h]
theorem near_nat (n : Int) : ∃ k : Nat, near n 1 256 = k ∧ 1 ≤ k ∧ k ≤ 256 := by
  refine ⟨(near n 1 256).toNat, ?_, ?_, ?_⟩ <;> (unfold near; repeat' split) <;> omega
theorem Clamp_any (n a b : Int) (w : World) : Calls Tryz.prog 45 #[.int .i64 n, .int .i64 a, .int .i64 b] w fun e w' => e = .returned (.int .i64 (near n a b)) ∧ w = w' := by
  by_cases h : n < a
  · go_enter Tryz.func45, Tryz.ntmps45
    go_wp2
    go_ret
    exact ⟨by simp [near, h], rfl⟩
  by_cases h2 : b < n
  all_goals
    go_enter Tryz.func45, Tryz.ntmps45
    go_wp2
    go_ret
    exact ⟨ret_int (by unfold near; repeat' split
                       all_goals omega), rfl⟩
/-- A stack that was made. -/
def NewA (r : Nat) (b : Bool) (m : List Va) (w : World) (e : Ending) (w' : World) : Prop := ∃ g K, e = .returned (.pointer (some ⟨g, 0, none⟩)) ∧ Sk w' K g r b m ∧ (∀ q, q ∈ K → w.heap.size ≤ q) ∧ w.grownBy w' none
theorem New_any (n : Int) (k : Nat) (hk : near n 1 256 = k) (h8 : k ≤ 256) (w : World) : Calls Tryz.prog 48 #[.int .i64 n] w (NewA k false [] w) := by
  have HK := Lib.hid hk
  have FR := Lib.hid (show Sk (w.alloc (.cells #[.int .i64 (k : Int), .bool false, .slice none 0 0] 121)) [w.heap.size] w.heap.size k false [] from ⟨nl, ⟨heap_alloc_new _ _, Lv.nil _ _, h8, by simp⟩, rfl⟩)
  clear hk
  go_enter Tryz.func48, Tryz.ntmps48
  go_wp2_with (go_at_call 45; (with_reducible refine (Clamp_any _ _ _ _).mono ?_); rintro e w' ⟨rfl, hw⟩; subst hw; rw [HK.out])
  go_ret
  exact ⟨_, _, rfl, FR.out, fun q hq => by simp at hq; omega, World.grownBy_alloc _ _ _⟩
/-! ### Len, Over, All -/
/-! ### Settle -/
/-! ### Pop -/
end
end Go.Proofs.YtfloleflcoiidaaGreatDoor.sk

/- A stack's Push and Clone. (Printed by wip/tools/genSkE.py.) -/
namespace Go.Proofs.YtfloleflcoiidaaGreatDoor.sk
open Go.ChangeShapes Go.WideShapes Go.ChangeAt Go.RowKit gen li en gr
set_option linter.unusedVariables false
set_option maxHeartbeats 4000000
set_option maxRecDepth 100000
section
variable {w w' W : World} {B g r : Nat} {x1 x2 : Int} {b : Bool} {v : Value} {m : List Va} {K L : List Nat}
theorem PushA.back (hg : w.grownBy W none) {e : Ending} (h : PushA K g r b m W e w') : e = .returned (.bool true) ∧ (∃ K', (∀ q, q ∈ K' → q ∈ K ∨ w.heap.size ≤ q) ∧ Sk w' K' g r b m) ∧ Gr K w w' ∧ Gr K W w' := by
  obtain ⟨h1, K', h2, h3, h4⟩ := h
  exact ⟨h1, ⟨K', fun q hq => (h2 q hq).imp id (Nat.le_trans hg.size), h3⟩, (Gr.new hg).trans h4, h4⟩
/-! ### Clone -/
end
end Go.Proofs.YtfloleflcoiidaaGreatDoor.sk
