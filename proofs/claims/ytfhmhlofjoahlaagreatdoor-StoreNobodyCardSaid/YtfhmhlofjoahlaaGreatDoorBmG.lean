/- What a step of the law's own script on a set does. -/
import Derived.Test.YtfhmhlofjoahlaaGreatDoorBmQ
namespace Go.Proofs.YtfhmhlofjoahlaaGreatDoor.bm
open Go.ChangeShapes Go.WideShapes Go.ChangeAt Go.RowKit gen
set_option linter.unusedVariables false
section
variable {w : World} {g n : Nat} {b : Bool} {ws : List Nat}
theorem mem_bit (h : SetAt w g b n ws) {z : Int} (h0 : 0 ≤ z) : z ∈ nums ws ↔ bit ws z.toNat = true := by
  rw [mem_nums h.2]
  exact ⟨fun h => h.2, fun h => ⟨h0, h⟩⟩
theorem Has_any (h : SetAt w g b n ws) (z : Int) : Calls Tryz.prog 94 #[.pointer (some ⟨g, 0, none⟩), .int .i64 z] w fun e w' => e = .returned (.bool (decide (z ∈ nums ws))) ∧ Drew w w' := by
  by_cases hi : 0 ≤ z ∧ z < n
  · obtain ⟨i, rfl⟩ : ∃ i : Nat, z = i := ⟨z.toNat, by omega⟩
    have hm := mem_bit h hi.1
    simp only [Int.toNat_natCast] at hm
    cases hb : bit ws i with
    | true => rw [decide_eq_true (hm.2 hb)]; exact Has_yes h i (by omega) hb
    | false => rw [decide_eq_false (fun hc => by rw [hm.1 hc] at hb; cases hb)]; exact Has_no h i (by omega) hb
  · rw [decide_eq_false (fun hc => hi (mem_nums_lt h.2 hc))]
    exact (Has_out _ z w (place_no h z hi)).mono fun _ _ ⟨h1, h2⟩ => ⟨h1, .same h2⟩
theorem Add_no (h : SetAt w g b n ws) (z : Int) (hz : ¬ (z ∉ nums ws ∧ 0 ≤ z ∧ z < n)) : Calls Tryz.prog 101 #[.pointer (some ⟨g, 0, none⟩), .int .i64 z] w fun e w' => e = .returned (.bool false) ∧ Drew w w' := by
  by_cases hi : 0 ≤ z ∧ z < n
  · obtain ⟨i, rfl⟩ : ∃ i : Nat, z = i := ⟨z.toNat, by omega⟩
    have hm := mem_bit h hi.1
    simp only [Int.toNat_natCast] at hm
    exact Add_in h i (by omega) (hm.1 (Decidable.byContradiction fun hc => hz ⟨hc, hi⟩))
  · exact (Add_out _ z w (place_no h z hi)).mono fun _ _ ⟨h1, h2⟩ => ⟨h1, .same h2⟩
/-- What a set that has changed answers. -/
def SetAns (r : Bool) (xs : List Int) (g : Nat) (b : Bool) (n : Nat) (w : World) (e : Ending) (w' : World) : Prop :=
  ∃ ws, e = .returned (.bool r) ∧ SetAt w' g b n ws ∧ nums ws = xs ∧ w.grownBy w' (some g)
theorem Add_ok (h : SetAt w g b n ws) (z : Int) (h1 : z ∉ nums ws) (h2 : 0 ≤ z) (h3 : z < n) : Calls Tryz.prog 101 #[.pointer (some ⟨g, 0, none⟩), .int .i64 z] w (SetAns true (rising (nums ws ++ [z])) g b n w) := by
  obtain ⟨i, rfl⟩ : ∃ i : Nat, z = i := ⟨z.toNat, by omega⟩
  have hm := mem_bit h h2
  simp only [Int.toNat_natCast] at hm
  refine (Add_yes h i (by omega) (by cases e : bit ws i with | false => rfl | true => exact absurd (hm.2 e) h1)).mono fun e w' ⟨he, hs, hg⟩ => ?_
  exact ⟨_, he, hs, (nums_put h.2 (by omega)).symm, hg⟩
theorem Remove_any (h : SetAt w g b n ws) (z : Int) : Calls Tryz.prog 55 #[.pointer (some ⟨g, 0, none⟩), .int .i64 z] w (SetAns (decide (z ∈ nums ws)) ((nums ws).filter fun y => decide (y ≠ z)) g b n w) := by
  have no : ∀ (e : Ending) (w' : World), z ∉ nums ws → (e = .returned (.bool false) ∧ Drew w w') → SetAns (decide (z ∈ nums ws)) ((nums ws).filter fun y => decide (y ≠ z)) g b n w e w' := by
    rintro e w' hz ⟨rfl, k, rfl⟩
    exact ⟨ws, by rw [decide_eq_false hz], h.drewN k, (filter_all hz).symm, grown_drewN _ _ _⟩
  by_cases hi : 0 ≤ z ∧ z < n
  · obtain ⟨i, rfl⟩ : ∃ i : Nat, z = i := ⟨z.toNat, by omega⟩
    have hm := mem_bit h hi.1
    simp only [Int.toNat_natCast] at hm
    cases hb : bit ws i with
    | true => exact (Remove_yes h i (by omega) hb).mono fun e w' ⟨he, hs, hg⟩ => ⟨_, by rw [he, decide_eq_true (hm.2 hb)], hs, (nums_cut h.2 (by omega)).symm, hg⟩
    | false => exact (Remove_no h i (by omega) hb).mono fun e w' he => no e w' (fun hc => by rw [hm.1 hc] at hb; cases hb) he
  · exact (Remove_out _ z w (place_no h z hi)).mono fun e w' ⟨h1, h2⟩ => no e w' (fun hc => hi (mem_nums_lt h.2 hc)) ⟨h1, .same h2⟩
end
theorem Rd.below' {w w' : World} {B n c : Nat} {A : Option Addr} {xs : List Int} (h : Rd w B A n c xs) (hb : Below B w w') (hs : B ≤ w'.heap.size) : Rd w' w'.heap.size A n c xs := by
  have h2 := h.below hb
  exact ⟨h2.1, h2.2.1, fun ad e i hi => ⟨Nat.lt_of_lt_of_le (h2.2.2 ad e i hi).1 hs, (h2.2.2 ad e i hi).2⟩⟩
theorem SetAt.heap {w w' : World} {g n : Nat} {b : Bool} {ws : List Nat} (h : SetAt w g b n ws) (hw : w'.heap = w.heap) : SetAt w' g b n ws := ⟨by rw [hw]; exact h.1, h.2⟩
theorem cell_heap {w w' : World} (hw : w'.heap = w.heap) (a : Addr) : w'.cell? a = w.cell? a := World.cell?_of_block (by rw [hw])
theorem Tab.heap {w w' : World} (h : Tab w) (hw : w'.heap = w.heap) : Tab w' := ⟨by rw [hw]; exact h.1, fun j hj => by rw [cell_heap hw]; exact h.2 j hj⟩
theorem Rd.heap {w w' : World} {B n c : Nat} {A : Option Addr} {xs : List Int} (h : Rd w B A n c xs) (hw : w'.heap = w.heap) : Rd w' B A n c xs := ⟨h.1, h.2.1, fun ad e i hi => ⟨(h.2.2 ad e i hi).1, by rw [cell_heap hw]; exact (h.2.2 ad e i hi).2⟩⟩
/-- The two cells of a call that lies at the head of block B. -/
def Pair (w : World) (B : Nat) (k z : Int) : Prop := w.cell? ⟨B, 0, none⟩ = some (.int .i64 k) ∧ w.cell? ⟨B, 1, none⟩ = some (.int .i64 z)
theorem Pair.new (w : World) (t : TypeId) (k z : Int) : Pair (w.alloc (.cells #[.int .i64 k, .int .i64 z] t)) w.heap.size k z := by
  unfold Pair
  refine ⟨?_, ?_⟩ <;> simp [go_sem]
theorem Pair.kept {w w' : World} {B : Nat} {k z : Int} {row : Option Nat} (h : Pair w B k z) (hg : w.grownBy w' row) (hr : some B ≠ row) : Pair w' B k z := ⟨hg.cell h.1 hr, hg.cell h.2 hr⟩
theorem pair_own {wr w2 : World} {B n : Nat} {v : Value} {xs : List Value} {t : TypeId} {o : Obj} {k z : Int} (h : Pair wr B k z) (ho : wr.ownsRow (B + 1) t 1 v n xs) (hg : (wr.alloc o).grownBy w2 v.ownBlock) : Pair w2 B k z :=
  (h.kept (World.grownBy_alloc wr o none) (by simp)).kept hg (fun e => by have := own_base ho B e.symm; omega)
/-- Where the list behind a step lies: in a new block, or where the one ahead lay. -/
def From (w : World) (v v' : Value) : Prop := ∀ q, v'.ownBlock = some q → w.heap.size ≤ q ∨ v.ownBlock = some q
theorem From.same (w : World) (v : Value) : From w v v := fun _ h => .inr h
theorem From.nil (w : World) (v : Value) : From w v (.slice none 0 0) := fun _ h => by cases h
theorem From.own {w w' : World} {v v' : Value} {base n : Nat} {t : TypeId} {xs : List Value} (h : w'.ownsRow base t 1 v' n xs) (hb : w.heap.size ≤ base) : From w v v' := fun q hq => .inl (Nat.le_trans hb (own_base h q hq))
theorem From.then {w w' : World} {v v' v'' : Value} (h : From w v v') (h' : From w' v' v'') (hs : w.heap.size ≤ w'.heap.size) : From w v v'' := fun q hq => by
  rcases h' q hq with h1 | h1
  · exact .inl (by omega)
  · exact h q h1
/-- What a step answers: a set and a list that agree. -/
def StepAns (g n : Nat) (v0 : Value) (w : World) (e : Ending) (w' : World) : Prop :=
  ∃ A c ws m, e = .returned (.tuple #[.slice A m c, .bool true]) ∧ (nums ws).length = m ∧ SetAt w' g true n ws ∧ Lst w' g (.slice A m c) (nums ws) ∧ w.grownBy w' (some g) ∧ From w v0 (.slice A m c)
theorem no_ways {z : Int} {n : Nat} {xs : List Int} {bz : Bool} (hz : ¬ (z ∉ xs ∧ 0 ≤ z ∧ z < n)) (hbz : decide (z ∈ xs) = bz) : bz = true ∨ bz = false ∧ (decide (z < 0) = true ∧ z < 0 ∨ ¬ z < 0 ∧ decide (z < (n : Int)) = false) := by
  cases bz
  · right
    have h1 := of_decide_eq_false hbz
    have h2 : ¬ (0 ≤ z ∧ z < n) := fun h' => hz ⟨h1, h'⟩
    refine ⟨rfl, ?_⟩
    by_cases h0 : z < 0
    · exact .inl ⟨decide_eq_true h0, h0⟩
    · exact .inr ⟨h0, decide_eq_false (by omega)⟩
  · exact .inl rfl
section
variable {w : World} {g n m c : Nat} {A : Option Addr} {ws : List Nat}
set_option maxHeartbeats 4000000
set_option maxRecDepth 100000
end
end Go.Proofs.YtfhmhlofjoahlaaGreatDoor.bm
