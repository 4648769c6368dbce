/- Texts that this claim stands on. -/
import Derived.Deep.AppendLies
import Derived.Lib.SliceRun
import Derived.Laws.IdiomStrings
import Derived.Lib.Hide
import Derived.IntWalk
import Derived.Test.YtfhebjkoojodiaaDoorQGrA
namespace Go.Proofs.YtfhebjkoojodiaaDoor.yb
end Go.Proofs.YtfhebjkoojodiaaDoor.yb
namespace Go.Proofs.YtfhebjkoojodiaaDoor.cd
open Go.ChangeShapes Go.WideShapes Go.ChangeAt Go.RowKit gen yb
set_option linter.unusedVariables false
def val (m : List UInt8) : Nat := m.foldl (fun a b => 256 * a + b.toNat) 0
def hs (k : Int) : List Bool :=
  if k = 3 ∨ k = 15 then [true, true, false, false, false, true, true]
  else if k = 4 ∨ k = 13 then [true, true, false, false, false, false, true]
  else if k = 7 ∨ k = 12 then [true, true, true, false, false, false, false]
  else if k = 9 then [true, true, true, true, false, false, false]
  else if k = 10 then [true, true, true, true, true, false, false]
  else if k = 11 then [true, true, true, false, true, false, false]
  else if k = 16 then [true, false, false, false, false, false, true]
  else if k = 17 then [true, false, false, false, false, false, false]
  else [true, true, false, false, false, false, false]
theorem hs_length (k : Int) : (hs k).length = 7 := by unfold hs; repeat' split <;> try rfl
def out (l : List Int) (j : Nat) : Bool := decide (l.getD j 0 < 0) || decide (255 < l.getD j 0)
def odd (l : List Int) (k : Int) (j : Nat) : Bool := (l.getD j 0 != 0) && !((hs k).getD j false)
def chk (k : Int) (l : List Int) (n : Int) : Int :=
  if k < 1 ∨ 17 < k then 12 else if (List.range 6).any (out l) = true then 4 else if (List.range 6).any (odd l k) = true ∨ (n ≠ 0 ∧ (hs k).getD 6 false = false) then 16 else 0
section
variable {k n : Int} {l : List Int}
theorem chk_12 (h : k < 1 ∨ 17 < k) : chk k l n = 12 := if_pos h
theorem any_6 {p : Nat → Bool} {j : Nat} (hj : j < 6) (h : p j = true) : (List.range 6).any p = true := List.any_eq_true.2 ⟨j, List.mem_range.2 hj, h⟩
theorem none_6 {p : Nat → Bool} (h : ∀ j, j < 6 → p j = false) : ¬ (List.range 6).any p = true := fun e => by
  obtain ⟨j, hj, h1⟩ := List.any_eq_true.1 e
  rw [h j (List.mem_range.1 hj)] at h1
  cases h1
theorem chk_4 (h1 : 1 ≤ k) (h2 : k ≤ 17) {j : Nat} (hj : j < 6) (h : out l j = true) : chk k l n = 4 := by
  unfold chk
  rw [if_neg (by omega), if_pos (any_6 hj h)]
theorem chk_16 (h1 : 1 ≤ k) (h2 : k ≤ 17) (h : ∀ j, j < 6 → out l j = false) {j : Nat} (hj : j < 6) (ho : odd l k j = true) : chk k l n = 16 := by
  unfold chk
  rw [if_neg (by omega), if_neg (none_6 h), if_pos (.inl (any_6 hj ho))]
theorem chk_16n (h1 : 1 ≤ k) (h2 : k ≤ 17) (h : ∀ j, j < 6 → out l j = false) (hn : n ≠ 0) (ho : (hs k).getD 6 false = false) : chk k l n = 16 := by
  unfold chk
  rw [if_neg (by omega), if_neg (none_6 h), if_pos (.inr ⟨hn, ho⟩)]
theorem chk_0 (h1 : 1 ≤ k) (h2 : k ≤ 17) (h : ∀ j, j < 6 → out l j = false) (ho : ∀ j, j < 6 → odd l k j = false) (hn : n = 0 ∨ (hs k).getD 6 false = true) : chk k l n = 0 := by
  unfold chk
  rw [if_neg (by omega), if_neg (none_6 h), if_neg (fun e => ?_)]
  rcases e with e | ⟨e1, e2⟩
  · exact none_6 ho e
  · rcases hn with h | h
    · exact e1 h
    · rw [h] at e2; cases e2
theorem chk_fine (h : chk k l n = 0) : 1 ≤ k ∧ k ≤ 17 ∧ ∀ j, j < 6 → 0 ≤ l.getD j 0 ∧ l.getD j 0 ≤ 255 := by
  unfold chk at h
  split at h
  · omega
  · split at h
    · omega
    · rename_i h1 h2
      refine ⟨by omega, by omega, fun j hj => ?_⟩
      have h3 : out l j = false := by
        cases e : out l j with
        | false => rfl
        | true => exact absurd (any_6 hj e) h2
      unfold out at h3
      generalize l.getD j 0 = x at h3 ⊢
      simp at h3
      omega
end
end Go.Proofs.YtfhebjkoojodiaaDoor.cd
