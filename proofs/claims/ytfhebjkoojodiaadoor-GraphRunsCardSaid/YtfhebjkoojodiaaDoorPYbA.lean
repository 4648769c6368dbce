/- Texts that this claim stands on. -/
import Derived.Deep.AppendLies
import Derived.Lib.SliceRun
import Derived.Laws.IdiomStrings
import Derived.Lib.Hide
import Derived.IntWalk
import Derived.WalkKit
import Derived.Deep.RegionHeld3
import Derived.Deep.RegionHeldLaw
import Derived.BigQuiet
import Derived.BigRegion
import Derived.Test.YtfhebjkoojodiaaDoorPGenC
namespace Go.Proofs.YtfhebjkoojodiaaDoor.yb
end Go.Proofs.YtfhebjkoojodiaaDoor.yb
namespace Go.Proofs.YtfhebjkoojodiaaDoor.cd
open Go.ChangeShapes Go.WideShapes Go.ChangeAt Go.RowKit gen yb
set_option linter.unusedVariables false
def val (m : List UInt8) : Nat := m.foldl (fun a b => 256 * a + b.toNat) 0
def hs (k : Int) : List Bool :=
  if k = 3 ∨ k = 15 then [true, true, false, false, false, true, true]
  else if k = 4 ∨ k = 13 then [true, true, false, false, false, false, true]
  else if k = 7 ∨ k = 12 then [true, true, true, false, false, false, false]
  else if k = 9 then [true, true, true, true, false, false, false]
  else if k = 10 then [true, true, true, true, true, false, false]
  else if k = 11 then [true, true, true, false, true, false, false]
  else if k = 16 then [true, false, false, false, false, false, true]
  else if k = 17 then [true, false, false, false, false, false, false]
  else [true, true, false, false, false, false, false]
theorem hs_length (k : Int) : (hs k).length = 7 := by unfold hs; repeat' split <;> try rfl
theorem hs_zero (k : Int) : (hs k).getD 0 false = true := by unfold hs; repeat' split <;> try rfl
def out (l : List Int) (j : Nat) : Bool := decide (l.getD j 0 < 0) || decide (255 < l.getD j 0)
def odd (l : List Int) (k : Int) (j : Nat) : Bool := (l.getD j 0 != 0) && !((hs k).getD j false)
def chk (k : Int) (l : List Int) (n : Int) : Int :=
  if k < 1 ∨ 17 < k then 12 else if (List.range 6).any (out l) = true then 4 else if (List.range 6).any (odd l k) = true ∨ (n ≠ 0 ∧ (hs k).getD 6 false = false) then 16 else 0
section
variable {k n : Int} {l : List Int}
theorem chk_12 (h : k < 1 ∨ 17 < k) : chk k l n = 12 := if_pos h
theorem any_6 {p : Nat → Bool} {j : Nat} (hj : j < 6) (h : p j = true) : (List.range 6).any p = true := List.any_eq_true.2 ⟨j, List.mem_range.2 hj, h⟩
theorem none_6 {p : Nat → Bool} (h : ∀ j, j < 6 → p j = false) : ¬ (List.range 6).any p = true := fun e => by
  obtain ⟨j, hj, h1⟩ := List.any_eq_true.1 e
  rw [h j (List.mem_range.1 hj)] at h1
  cases h1
theorem chk_4 (h1 : 1 ≤ k) (h2 : k ≤ 17) {j : Nat} (hj : j < 6) (h : out l j = true) : chk k l n = 4 := by
  unfold chk
  rw [if_neg (by omega), if_pos (any_6 hj h)]
theorem chk_16 (h1 : 1 ≤ k) (h2 : k ≤ 17) (h : ∀ j, j < 6 → out l j = false) {j : Nat} (hj : j < 6) (ho : odd l k j = true) : chk k l n = 16 := by
  unfold chk
  rw [if_neg (by omega), if_neg (none_6 h), if_pos (.inl (any_6 hj ho))]
theorem chk_16n (h1 : 1 ≤ k) (h2 : k ≤ 17) (h : ∀ j, j < 6 → out l j = false) (hn : n ≠ 0) (ho : (hs k).getD 6 false = false) : chk k l n = 16 := by
  unfold chk
  rw [if_neg (by omega), if_neg (none_6 h), if_pos (.inr ⟨hn, ho⟩)]
theorem chk_0 (h1 : 1 ≤ k) (h2 : k ≤ 17) (h : ∀ j, j < 6 → out l j = false) (ho : ∀ j, j < 6 → odd l k j = false) (hn : n = 0 ∨ (hs k).getD 6 false = true) : chk k l n = 0 := by
  unfold chk
  rw [if_neg (by omega), if_neg (none_6 h), if_neg (fun e => ?_)]
  rcases e with e | ⟨e1, e2⟩
  · exact none_6 ho e
  · rcases hn with h | h
    · exact e1 h
    · rw [h] at e2; cases e2
theorem chk_fine (h : chk k l n = 0) : 1 ≤ k ∧ k ≤ 17 ∧ ∀ j, j < 6 → 0 ≤ l.getD j 0 ∧ l.getD j 0 ≤ 255 := by
  unfold chk at h
  split at h
  · omega
  · split at h
    · omega
    · rename_i h1 h2
      refine ⟨by omega, by omega, fun j hj => ?_⟩
      have h3 : out l j = false := by
        cases e : out l j with
        | false => rfl
        | true => exact absurd (any_6 hj e) h2
      unfold out at h3
      generalize l.getD j 0 = x at h3 ⊢
      simp at h3
      omega
end
end Go.Proofs.YtfhebjkoojodiaaDoor.cd
namespace Go.Proofs.YtfhebjkoojodiaaDoor.cd
open Go.ChangeShapes Go.WideShapes Go.ChangeAt Go.RowKit gen yb
set_option linter.unusedVariables false
set_option maxHeartbeats 1000000
set_option maxRecDepth 100000
def Sv (w : World) (B : Nat) (k t i f j c n : Int) : Prop :=
  w.cell? ⟨B, 0, none⟩ = some (.int .i64 k) ∧ w.cell? ⟨B, 1, none⟩ = some (.int .i64 t) ∧ w.cell? ⟨B, 2, none⟩ = some (.int .i64 i) ∧ w.cell? ⟨B, 3, none⟩ = some (.int .i64 f) ∧ w.cell? ⟨B, 4, none⟩ = some (.int .i64 j) ∧ w.cell? ⟨B, 5, none⟩ = some (.int .i64 c) ∧ w.cell? ⟨B, 6, none⟩ = some (.int .i64 n)
theorem Sv.made {w w' : World} {B : Nat} {k t i f j c n : Int} (h : Sv w B k t i f j c n) (hg : w.grownBy w' none) : Sv w' B k t i f j c n := by
  obtain ⟨h0, h1, h2, h3, h4, h5, h6⟩ := h
  exact ⟨hg.cell h0 (by simp), hg.cell h1 (by simp), hg.cell h2 (by simp), hg.cell h3 (by simp), hg.cell h4 (by simp), hg.cell h5 (by simp), hg.cell h6 (by simp)⟩
theorem Sv.new (w : World) (ty : TypeId) (k t i f j c n : Int) : Sv (w.alloc (.cells #[.int .i64 k, .int .i64 t, .int .i64 i, .int .i64 f, .int .i64 j, .int .i64 c, .int .i64 n] ty)) w.heap.size k t i f j c n := by
  refine ⟨?_, ?_, ?_, ?_, ?_, ?_, ?_⟩ <;> simp [go_sem]
theorem grown_alloc (w : World) (o : Obj) : w.grownBy (w.alloc o) none := World.grownBy_alloc w o none
theorem short_any (k t i f j c n : Int) (w : World) : Calls Tryd.prog 49 #[.agg #[.int .i64 k, .int .i64 t, .int .i64 i, .int .i64 f, .int .i64 j, .int .i64 c, .int .i64 n]] w
    fun e w' => e = .returned (.agg #[.int .i64 k, .int .i64 t, .int .i64 i, .int .i64 f, .int .i64 j, .int .i64 c]) ∧ w.grownBy w' none := by
  go_enter Tryd.func49, Tryd.ntmps49
  go_wp2
  exact bodyPost_ret (v := .agg #[.int .i64 k, .int .i64 t, .int .i64 i, .int .i64 f, .int .i64 j, .int .i64 c]) (by simp [results, Tryd.results49, go_sem]) rfl ⟨rfl, (grown_alloc _ _).trans (grown_alloc _ _)⟩
theorem within_yes (n m : Int) (w : World) (h0 : 0 ≤ n) (h1 : n ≤ m) : Calls Tryd.prog 50 #[.int .i64 n, .int .i64 m] w fun e w' => e = .returned (.bool true) ∧ w = w' := by
  have d0 : decide (0 ≤ n) = true := decide_eq_true h0
  have d1 : decide (n ≤ m) = true := decide_eq_true h1
  go_enter Tryd.func50, Tryd.ntmps50
  go_wp2
  go_ret
  exact ⟨rfl, rfl⟩
theorem within_no (n m : Int) (w : World) (h : n < 0 ∨ m < n) : Calls Tryd.prog 50 #[.int .i64 n, .int .i64 m] w fun e w' => e = .returned (.bool false) ∧ w = w' := by
  by_cases h0 : n < 0
  · have d0 : decide (0 ≤ n) = false := decide_eq_false (by omega)
    go_enter Tryd.func50, Tryd.ntmps50
    go_wp2
    go_ret
    exact ⟨rfl, rfl⟩
  · have d0 : decide (0 ≤ n) = true := decide_eq_true (by omega)
    have d1 : decide (n ≤ m) = false := decide_eq_false (by omega)
    go_enter Tryd.func50, Tryd.ntmps50
    go_wp2
    go_ret
    exact ⟨rfl, rfl⟩
theorem kinds {k : Int} (h1 : 1 ≤ k) (h2 : k ≤ 17) : k = 1 ∨ k = 2 ∨ k = 3 ∨ k = 4 ∨ k = 5 ∨ k = 6 ∨ k = 7 ∨ k = 8 ∨ k = 9 ∨ k = 10 ∨ k = 11 ∨ k = 12 ∨ k = 13 ∨ k = 14 ∨ k = 15 ∨ k = 16 ∨ k = 17 := by omega
theorem has_any (k : Int) (w : World) (h1 : 1 ≤ k) (h2 : k ≤ 17) : Calls Tryd.prog 51 #[.int .i64 k] w fun e w' => e = .returned (.agg ((hs k).map Value.bool).toArray) ∧ w.grownBy w' none := by
  rcases kinds h1 h2 with rfl | rfl | rfl | rfl | rfl | rfl | rfl | rfl | rfl | rfl | rfl | rfl | rfl | rfl | rfl | rfl | rfl
  all_goals
    go_enter Tryd.func51, Tryd.ntmps51
    go_wp2
    exact bodyPost_ret (v := .agg ((hs _).map Value.bool).toArray) (by simp [results, Tryd.results51, go_sem, hs]) rfl ⟨rfl, grown_alloc _ _⟩
theorem Has_any (k : Int) (w : World) (h1 : 1 ≤ k) (h2 : k ≤ 17) : Calls Tryd.prog 60 #[.int .i64 k] w fun e w' => e = .returned (.agg ((hs k).tail.map Value.bool).toArray) ∧ w.grownBy w' none := by
  rcases kinds h1 h2 with rfl | rfl | rfl | rfl | rfl | rfl | rfl | rfl | rfl | rfl | rfl | rfl | rfl | rfl | rfl | rfl | rfl
  all_goals
    go_enter Tryd.func60, Tryd.ntmps60
    go_wp2
    exact bodyPost_ret (v := .agg ((hs _).tail.map Value.bool).toArray) (by simp [results, Tryd.results60, go_sem, hs]) rfl ⟨rfl, grown_alloc _ _⟩
end Go.Proofs.YtfhebjkoojodiaaDoor.cd
