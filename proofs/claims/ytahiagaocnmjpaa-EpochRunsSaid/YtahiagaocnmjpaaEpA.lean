/- A registry in memory: whether it was made, how many threads, the epoch, and for each of eight threads whether it is live, and what it confirmed. Layer 15's functions that read it. -/
import Derived.Test.YtahiagaocnmjpaaLiA
import Derived.RegionTactic
import Derived.Deep.RegionLaw
import Derived.Laws.Cover3
namespace Go.Proofs.Ytahiagaocnmjpaa.ep
open Go.ChangeShapes Go.WideShapes Go.ChangeAt Go.RowKit gen li
set_option linter.unusedVariables false
set_option maxHeartbeats 4000000
set_option maxRecDepth 100000

/-- Is it live, of whom this is told? -/
def lv (x : Int) : Bool := decide (0 ≤ x)
/-- What the cell then holds. -/
def cf (x : Int) : Int := if 0 ≤ x then x else 0
theorem lv_neg : lv (-1) = false := rfl
theorem cf_neg : cf (-1) = 0 := rfl
theorem lv_nat (n : Nat) : lv n = true := by simp [lv]
theorem cf_nat (n : Nat) : cf n = n := by simp [cf]
/-- The cells of threads. -/
def tc : List Int → List Value
  | [] => []
  | x :: m => .bool (lv x) :: .int .i64 (cf x) :: tc m
theorem tc_length : ∀ m : List Int, (tc m).length = 2 * m.length
  | [] => rfl
  | x :: m => by simp [tc, tc_length m]; omega
theorem tc_at : ∀ (m : List Int) (i : Nat), i < m.length → (tc m)[2 * i]? = some (.bool (lv (m.getD i (-1)))) ∧ (tc m)[2 * i + 1]? = some (.int .i64 (cf (m.getD i (-1))))
  | [], i, h => by simp at h
  | x :: m, 0, _ => ⟨rfl, rfl⟩
  | x :: m, i + 1, h => by
    have := tc_at m i (by simpa using h)
    refine ⟨?_, ?_⟩
    · rw [show 2 * (i + 1) = 2 * i + 2 by omega]
      simpa [tc] using this.1
    · rw [show 2 * (i + 1) + 1 = 2 * i + 1 + 2 by omega]
      simpa [tc] using this.2
theorem tc_set : ∀ (m : List Int) (i : Nat) (x : Int), i < m.length → ((tc m).set (2 * i) (.bool (lv x))).set (2 * i + 1) (.int .i64 (cf x)) = tc (m.set i x)
  | [], i, x, h => by simp at h
  | y :: m, 0, x, _ => rfl
  | y :: m, i + 1, x, h => by
    have := tc_set m i x (by simpa using h)
    rw [show 2 * (i + 1) = 2 * i + 2 by omega]
    simp only [tc, List.set_cons_succ]
    rw [this]
theorem tc_set1 : ∀ (m : List Int) (i : Nat) (x : Int), i < m.length → lv (m.getD i (-1)) = lv x → (tc m).set (2 * i + 1) (.int .i64 (cf x)) = tc (m.set i x)
  | [], i, x, h, _ => by simp at h
  | y :: m, 0, x, _, e => by simp at e; simp [tc, e]
  | y :: m, i + 1, x, h, e => by
    have := tc_set1 m i x (by simpa using h) (by simpa using e)
    rw [show 2 * (i + 1) + 1 = 2 * i + 1 + 2 by omega]
    simp only [tc, List.set_cons_succ]
    rw [this]
/-- As many as there may be. -/
def pad (m : List Int) : List Int := m ++ List.replicate (8 - m.length) (-1)
theorem pad_length {m : List Int} (h : m.length ≤ 8) : (pad m).length = 8 := by simp [pad]; omega
theorem pad_at (m : List Int) (i : Nat) : (pad m).getD i (-1) = m.getD i (-1) := by
  unfold pad
  rw [List.getD_eq_getElem?_getD, List.getD_eq_getElem?_getD]
  by_cases h : i < m.length
  · rw [List.getElem?_append_left h]
  · rw [List.getElem?_append_right (by omega), List.getElem?_replicate, List.getElem?_eq_none (l := m) (by omega)]
    split <;> rfl
theorem pad_set {m : List Int} {i : Nat} (h : i < m.length) (x : Int) : (pad m).set i x = pad (m.set i x) := by
  unfold pad
  rw [List.set_append_left _ _ h, List.length_set]
/-- The cells of a registry. -/
def ec (b : Bool) (e : Nat) (m : List Int) : List Value := .bool b :: .int .i64 (m.length : Int) :: .int .i64 (e : Int) :: tc (pad m)
theorem ec_length {b : Bool} {e : Nat} {m : List Int} (h : m.length ≤ 8) : (ec b e m).length = 19 := by simp [ec, tc_length, pad_length h]
/-- A registry at g. -/
def Rg (w : World) (g : Nat) (b : Bool) (e : Nat) (m : List Int) : Prop :=
  w.heap[g]? = some (.cells (ec b e m).toArray 47 (0, 0)) ∧ m.length ≤ 8 ∧ ∀ x ∈ m, -1 ≤ x ∧ x ≤ (e : Int)
/-- What thread t confirmed; -1: it is not live. -/
def of (m : List Int) (t : Int) : Int := if 0 ≤ t then m.getD t.toNat (-1) else -1
def hs (m : List Int) (t : Int) : Bool := decide (0 ≤ t ∧ t < (m.length : Int))
theorem of_nat (m : List Int) (k : Nat) : of m k = m.getD k (-1) := by simp [of]
theorem of_out {m : List Int} {t : Int} (h : t < 0 ∨ (m.length : Int) ≤ t) : of m t = -1 := by
  unfold of
  split
  · rw [List.getD_eq_getElem?_getD, List.getElem?_eq_none (by omega)]; rfl
  · rfl
theorem of_in {m : List Int} {t : Int} (h : 0 ≤ of m t) : 0 ≤ t ∧ t < (m.length : Int) := by
  refine ⟨?_, ?_⟩
  · rcases Int.lt_or_le t 0 with h1 | h1
    · rw [of_out (.inl h1)] at h; omega
    · exact h1
  · rcases Int.lt_or_le t (m.length : Int) with h1 | h1
    · exact h1
    · rw [of_out (.inr h1)] at h; omega
section
variable {w w' : World} {g : Nat} {b : Bool} {e : Nat} {m : List Int}
theorem Rg.lt (h : Rg w g b e m) : g < w.heap.size := (Array.getElem?_eq_some_iff.1 h.1).1
theorem Rg.eight (h : Rg w g b e m) : m.length ≤ 8 := h.2.1
theorem Rg.kept {row : Option Nat} (h : Rg w g b e m) (hg : w.grownBy w' row) (h1 : some g ≠ row) : Rg w' g b e m := ⟨(hg.block g h.lt h1).trans h.1, h.2⟩
theorem Rg.new (h : Rg w g b e m) (hg : w.grownBy w' none) : Rg w' g b e m := h.kept hg (by simp)
theorem Rg.drewN (h : Rg w g b e m) (n : Nat) : Rg (w.drewN n) g b e m := h
theorem Rg.free (h : Rg w g b e m) (k : Nat) : w.frozen? ⟨g, k, none⟩ = false := frozen_of_row w g k _ _ h.1
theorem Rg.made_ (h : Rg w g b e m) : w.cell? ⟨g, 0, none⟩ = some (.bool b) := by rw [cell_of_row w g 0 _ _ _ h.1]; rfl
theorem Rg.count (h : Rg w g b e m) : w.cell? ⟨g, 1, none⟩ = some (.int .i64 m.length) := by rw [cell_of_row w g 1 _ _ _ h.1]; rfl
theorem Rg.epoch (h : Rg w g b e m) : w.cell? ⟨g, 2, none⟩ = some (.int .i64 e) := by rw [cell_of_row w g 2 _ _ _ h.1]; rfl
theorem Rg.at_ (h : Rg w g b e m) {i : Nat} (hi : i < 8) : w.cell? ⟨g, 3 + i * 2, none⟩ = some (.bool (lv (m.getD i (-1)))) ∧ w.cell? ⟨g, 3 + i * 2 + 1, none⟩ = some (.int .i64 (cf (m.getD i (-1)))) := by
  obtain ⟨a1, a2⟩ := tc_at (pad m) i (by rw [pad_length h.2.1]; exact hi)
  rw [pad_at] at a1 a2
  have k : ∀ j, (ec b e m)[3 + j]? = (tc (pad m))[j]? := fun j => by rw [show 3 + j = j + 1 + 1 + 1 by omega]; rfl
  refine ⟨?_, ?_⟩
  · rw [cell_of_row w g _ _ _ _ h.1, show i * 2 = 2 * i by omega]; simpa [k] using a1
  · rw [cell_of_row w g _ _ _ _ h.1, show 3 + i * 2 + 1 = 3 + (2 * i + 1) by omega]; simpa [k] using a2
theorem Rg.range (h : Rg w g b e m) (t : Int) : -1 ≤ of m t ∧ of m t ≤ (e : Int) := by
  rcases Int.lt_or_le t 0 with h1 | h1
  · rw [of_out (.inl h1)]; omega
  rcases Int.lt_or_le t (m.length : Int) with h2 | h2
  · obtain ⟨k, rfl⟩ : ∃ k : Nat, t = k := ⟨t.toNat, by omega⟩
    rw [of_nat]
    exact h.2.2 _ (getD_mem (by omega) _)
  · rw [of_out (.inr h2)]; omega
/-! ### has, Live, Of, Epoch -/
theorem has_nil (t : Int) (w : World) : Calls Try.prog 29 #[.pointer none, .int .i64 t] w fun r w' => r = .returned (.bool false) ∧ w = w' := by
  go_enter Try.func29, Try.ntmps29
  go_wp2
  go_ret
  exact ⟨rfl, rfl⟩
theorem has_any (h : Rg w g b e m) (t : Int) : Calls Try.prog 29 #[.pointer (some ⟨g, 0, none⟩), .int .i64 t] w fun r w' => r = .returned (.bool (hs m t)) ∧ w = w' := by
  have c := h.count
  have HH := Lib.hid (show hs m t = decide (0 ≤ t ∧ t < (m.length : Int)) from rfl)
  generalize hs m t = q at HH
  generalize m.length = n at c HH
  clear h
  by_cases h1 : t < 0
  · have t1 : decide (t ≥ 0) = false := by simpa using h1
    have t1' : decide ((0 : Int) ≤ t) = false := by simpa using h1
    go_enter Try.func29, Try.ntmps29
    go_wp2
    go_ret
    exact ⟨by rw [HH.out, decide_eq_false (by omega)]; rfl, rfl⟩
  · have t1 : decide ((0 : Int) ≤ t) = true := by simpa using h1
    by_cases h2 : t < n
    · have t2 : decide (t < (n : Int)) = true := by simpa using h2
      go_enter Try.func29, Try.ntmps29
      go_wp2
      go_ret
      exact ⟨by rw [HH.out, decide_eq_true (by omega)]; rfl, rfl⟩
    · have t2 : decide (t < (n : Int)) = false := by simpa using h2
      go_enter Try.func29, Try.ntmps29
      go_wp2
      go_ret
      exact ⟨by rw [HH.out, decide_eq_false (by omega)]; rfl, rfl⟩
theorem Live_nil (t : Int) (w : World) : Calls Try.prog 24 #[.pointer none, .int .i64 t] w fun r w' => r = .returned (.bool false) ∧ w = w' := by
  go_enter Try.func24, Try.ntmps24
  go_wp2_with (go_at_call 29; (with_reducible refine (has_nil _ _).mono ?_); rintro r w' ⟨rfl, rfl⟩)
  go_ret
  exact ⟨rfl, rfl⟩
theorem Live_any (h : Rg w g b e m) (t : Int) : Calls Try.prog 24 #[.pointer (some ⟨g, 0, none⟩), .int .i64 t] w fun r w' => r = .returned (.bool (lv (of m t))) ∧ w = w' := by
  have HA := has_any h t
  have hl := h.2.1
  by_cases h1 : 0 ≤ t ∧ t < (m.length : Int)
  · obtain ⟨k, rfl⟩ : ∃ k : Nat, t = k := ⟨t.toNat, by omega⟩
    rw [show hs m k = true from decide_eq_true h1] at HA
    obtain ⟨c0, c1⟩ := h.at_ (i := k) (by omega)
    rw [← of_nat] at c0
    generalize lv (of m k) = q at c0
    have k8 : k < 8 := by omega
    have k0 : (0 : Int) ≤ (k : Int) := by omega
    have HB := Lib.hid HA
    clear HA h h1 hl c1
    go_enter Try.func24, Try.ntmps24
    go_wp2_with (go_at_call 29; (with_reducible refine HB.out.mono ?_); rintro r w' ⟨rfl, rfl⟩)
    go_ret
    exact ⟨rfl, rfl⟩
  · rw [show hs m t = false from decide_eq_false h1] at HA
    rw [of_out (m := m) (t := t) (by omega), lv_neg]
    have HB := Lib.hid HA
    clear HA h h1 hl
    go_enter Try.func24, Try.ntmps24
    go_wp2_with (go_at_call 29; (with_reducible refine HB.out.mono ?_); rintro r w' ⟨rfl, rfl⟩)
    go_ret
    exact ⟨rfl, rfl⟩
theorem Of_nil (t : Int) (w : World) : Calls Try.prog 16 #[.pointer none, .int .i64 t] w fun r w' => r = .returned (.int .i64 (-1)) ∧ w = w' := by
  go_enter Try.func16, Try.ntmps16
  go_wp2_with (go_at_call 24; (with_reducible refine (Live_nil _ _).mono ?_); rintro r w' ⟨rfl, rfl⟩)
  go_ret
  exact ⟨rfl, rfl⟩
theorem Of_any (h : Rg w g b e m) (t : Int) : Calls Try.prog 16 #[.pointer (some ⟨g, 0, none⟩), .int .i64 t] w fun r w' => r = .returned (.int .i64 (of m t)) ∧ w = w' := by
  have HA := Live_any h t
  have hr := h.range t
  by_cases h1 : 0 ≤ of m t
  · obtain ⟨h2, h3⟩ := of_in h1
    have hl := h.2.1
    obtain ⟨k, rfl⟩ : ∃ k : Nat, t = k := ⟨t.toNat, by omega⟩
    obtain ⟨c0, c1⟩ := h.at_ (i := k) (by omega)
    rw [← of_nat] at c1
    rw [show cf (of m k) = of m k from if_pos h1] at c1
    rw [show lv (of m k) = true from decide_eq_true h1] at HA
    generalize of m k = q at c1
    have k8 : k < 8 := by omega
    have k0 : (0 : Int) ≤ (k : Int) := by omega
    have HB := Lib.hid HA
    clear HA h h1 hl c0 hr
    go_enter Try.func16, Try.ntmps16
    go_wp2_with (go_at_call 24; (with_reducible refine HB.out.mono ?_); rintro r w' ⟨rfl, rfl⟩)
    go_ret
    exact ⟨rfl, rfl⟩
  · rw [show lv (of m t) = false from decide_eq_false h1] at HA
    rw [show of m t = -1 by omega]
    have HB := Lib.hid HA
    clear HA h h1 hr
    go_enter Try.func16, Try.ntmps16
    go_wp2_with (go_at_call 24; (with_reducible refine HB.out.mono ?_); rintro r w' ⟨rfl, rfl⟩)
    go_ret
    exact ⟨rfl, rfl⟩
theorem Epoch_nil (w : World) : Calls Try.prog 17 #[.pointer none] w fun r w' => r = .returned (.int .i64 0) ∧ w = w' := by
  go_enter Try.func17, Try.ntmps17
  go_wp2
  go_ret
  exact ⟨rfl, rfl⟩
theorem Epoch_any (h : Rg w g b e m) : Calls Try.prog 17 #[.pointer (some ⟨g, 0, none⟩)] w fun r w' => r = .returned (.int .i64 e) ∧ w = w' := by
  have c := h.epoch
  clear h
  go_enter Try.func17, Try.ntmps17
  go_wp2
  go_ret
  exact ⟨rfl, rfl⟩
end
end Go.Proofs.Ytahiagaocnmjpaa.ep
