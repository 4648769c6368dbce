/- Letters, plain: the last of them, how many are the collector's, windows in which not too many are. -/
import Derived.Test.YtgfgchmpdocihaaLbB
namespace Go.Proofs.Ytgfgchmpdocihaa.lg
open Go.ChangeShapes Go.WideShapes Go.ChangeAt Go.RowKit gen lb
set_option linter.unusedVariables false
set_option maxHeartbeats 1000000
set_option maxRecDepth 100000

/-- How many letters are the collector's. -/
def cnt (m : List Bool) : Nat := m.count true
/-- The last n letters. -/
def lastn (n : Nat) (m : List Bool) : List Bool := m.drop (m.length - n)
theorem cnt_append (m l : List Bool) : cnt (m ++ l) = cnt m + cnt l := by simp [cnt]
theorem cnt_true (n : Nat) : cnt (List.replicate n true) = n := by simp [cnt]
theorem cnt_false (n : Nat) : cnt (List.replicate n false) = 0 := by simp [cnt, List.count_replicate]
theorem cnt_le (m : List Bool) : cnt m ≤ m.length := List.count_le_length
theorem cnt_drop {a b : Nat} (m : List Bool) (h : a ≤ b) : cnt (m.drop b) ≤ cnt (m.drop a) := by
  rw [show b = a + (b - a) by omega, ← List.drop_drop]
  exact List.Sublist.count_le _ (List.drop_sublist _ _)
theorem cnt_drop1 (a : Nat) (m : List Bool) : cnt (m.drop a) ≤ cnt (m.drop (a + 1)) + 1 := by
  by_cases h : a < m.length
  · rw [List.drop_eq_getElem_cons h]
    unfold cnt
    rw [List.count_cons]
    split <;> omega
  · rw [List.drop_eq_nil_of_le (by omega)]
    simp [cnt]
theorem lastn_length (n : Nat) (m : List Bool) : (lastn n m).length = min n m.length := by simp [lastn]; omega
theorem lastn_le (n : Nat) (m : List Bool) : (lastn n m).length ≤ n := by rw [lastn_length]; omega
/-- What is last when letters of one kind come behind. -/
def beh (win n : Nat) (l : List Bool) (y : Bool) : List Bool := l.drop (l.length + min n win - win) ++ List.replicate (min n win) y
theorem beh_last (win n : Nat) (m : List Bool) (y : Bool) : beh win n (lastn win m) y = lastn win (m ++ List.replicate n y) := by
  unfold beh
  rw [lastn_length]
  unfold lastn
  rw [List.drop_drop, List.length_append, List.length_replicate]
  by_cases h : n ≤ win
  · rw [List.drop_append_of_le_length (by omega), Nat.min_eq_left h]
    congr 2
    omega
  · rw [List.drop_append, List.drop_eq_nil_of_le (by omega), List.drop_eq_nil_of_le (by omega), List.drop_replicate]
    congr 2
    omega
theorem beh_length {win n : Nat} {l : List Bool} (y : Bool) (h : l.length ≤ win) : (beh win n l y).length ≤ win := by
  unfold beh
  rw [List.length_append, List.length_drop, List.length_replicate]
  omega
/-- In no window too many are the collector's. -/
def Good (win most : Nat) (m : List Bool) : Prop := ∀ k, k ≤ m.length → cnt (lastn win (m.take k)) ≤ most
theorem Good.nil (win most : Nat) : Good win most [] := fun k _ => by simp [lastn, cnt]
theorem Good.now {win most : Nat} {m : List Bool} (h : Good win most m) : cnt (lastn win m) ≤ most := by
  have := h m.length (Nat.le_refl _)
  rwa [List.take_length] at this
theorem Good.snoc {win most : Nat} {m : List Bool} {y : Bool} (h : Good win most m) (h2 : cnt (lastn win (m ++ [y])) ≤ most) : Good win most (m ++ [y]) := fun k hk => by
  by_cases e : k ≤ m.length
  · rw [List.take_append_of_le_length e]
    exact h k e
  · rw [List.take_of_length_le (by simp at hk ⊢; omega)]
    exact h2
theorem last_false (win : Nat) (m : List Bool) : cnt (lastn win (m ++ [false])) ≤ cnt (lastn win m) := by
  unfold lastn
  rw [List.length_append]
  by_cases h : m.length + [false].length - win ≤ m.length
  · rw [List.drop_append_of_le_length h, cnt_append]
    have := cnt_drop m (show m.length - win ≤ m.length + [false].length - win by simp; omega)
    simp only [cnt, List.count_cons, List.count_nil] at *
    simpa using this
  · rw [List.drop_eq_nil_of_le (by simp at h ⊢; omega)]
    simp [cnt]
theorem last_true {win : Nat} (m : List Bool) (h1 : 1 ≤ win) : cnt (lastn win m) ≤ cnt (lastn win (m ++ [true])) := by
  unfold lastn
  rw [List.length_append, List.drop_append_of_le_length (by simp; omega), cnt_append]
  have e1 : cnt [true] = 1 := rfl
  rw [e1]
  by_cases h : m.length < win
  · rw [show m.length - win = 0 by omega, show m.length + [true].length - win = 0 by simp; omega]
    omega
  · rw [show m.length + [true].length - win = m.length - win + 1 by simp; omega]
    exact cnt_drop1 _ _
theorem rep_snoc (m : List Bool) (n : Nat) (y : Bool) : m ++ List.replicate (n + 1) y = (m ++ List.replicate n y) ++ [y] := by
  rw [List.replicate_succ', List.append_assoc]
theorem Good.run {win most : Nat} {m : List Bool} (h : Good win most m) : ∀ n, Good win most (m ++ List.replicate n false)
  | 0 => by simpa using h
  | n + 1 => by
    rw [rep_snoc]
    have h2 := h.run n
    exact h2.snoc (Nat.le_trans (last_false _ _) h2.now)
theorem Good.work {win most : Nat} {m : List Bool} (h : Good win most m) (h1 : 1 ≤ win) : ∀ n, cnt (lastn win (m ++ List.replicate n true)) ≤ most → Good win most (m ++ List.replicate n true)
  | 0, _ => by simpa using h
  | n + 1, h2 => by
    rw [rep_snoc] at h2 ⊢
    exact (h.work h1 n (Nat.le_trans (last_true _ h1) h2)).snoc h2
end Go.Proofs.Ytgfgchmpdocihaa.lg
