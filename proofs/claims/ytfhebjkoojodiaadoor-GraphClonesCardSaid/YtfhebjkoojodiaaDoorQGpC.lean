/- Texts that this claim stands on. -/
import Derived.Test.YtfhebjkoojodiaaDoorQGpA
namespace Go.Proofs.YtfhebjkoojodiaaDoor.gp
open Go.ChangeShapes Go.WideShapes Go.ChangeAt Go.RowKit gen va cd
set_option linter.unusedVariables false
set_option maxHeartbeats 1000000
set_option maxRecDepth 100000
def nbc (σ : Gs) (k c n : Int) : Int := if nb σ k c n = true then 4 else 0
section
variable {w : World} {K : List Nat} {g : Nat} {cf : Nat → Int} {σ : Gs}
end
end Go.Proofs.YtfhebjkoojodiaaDoor.gp
namespace Go.Proofs.YtfhebjkoojodiaaDoor.gp
open Go.ChangeShapes Go.WideShapes Go.ChangeAt Go.RowKit gen va cd
set_option linter.unusedVariables false
set_option maxHeartbeats 1000000
set_option maxRecDepth 100000
def cod (σ : Gs) (k : Int) (t i f j : Nat) (c n : Int) : Int :=
  if wh σ k t ≠ 0 then wh σ k t else if nbc σ k c n ≠ 0 then nbc σ k c n else if k < 3 ∨ 12 < k then 0 else
  if k = 9 ∨ k = 10 ∨ k = 12 then
    (if ob σ t i f (k != 12) ≠ 0 then ob σ t i f (k != 12) else if k = 10 ∧ (σ.hd t).length ≤ j then 4 else if k = 9 ∧ 16 ≤ (σ.hd t).length then 3 else 0)
  else if k = 11 then (if (σ.hd t).length ≤ i ∨ (σ.hd t).length ≤ j then 4 else 0)
  else if k = 8 then (if (σ.hd t).length = 0 then 4 else 0)
  else if k = 7 ∧ (σ.hd t).length ≤ i then 4 else if 16 ≤ (σ.hd t).length then 3 else 0
def codz (σ : Gs) (k t i f j c n : Int) : Int := if chk k [k, t, i, f, j, c] n ≠ 0 then chk k [k, t, i, f, j, c] n else cod σ k t.toNat i.toNat f.toNat j.toNat c n
section
variable {w : World} {K : List Nat} {g : Nat} {cf : Nat → Int} {σ : Gs}
theorem wh_lt {k : Int} {t : Nat} (h : wh σ k t = 0) (hk : k < 16) : t < σ.N := by
  unfold wh at h
  rw [if_neg (by omega)] at h
  by_cases e : σ.N ≤ t
  · rw [if_pos e] at h; omega
  · omega
end
end Go.Proofs.YtfhebjkoojodiaaDoor.gp
namespace Go.Proofs.YtfhebjkoojodiaaDoor.gp
open Go.ChangeShapes Go.WideShapes Go.ChangeAt Go.RowKit gen va cd
set_option linter.unusedVariables false
set_option maxHeartbeats 1000000
set_option maxRecDepth 100000
section
variable {w : World} {K : List Nat} {g : Nat} {cf : Nat → Int} {σ : Gs}
theorem fine_nat {k t i f j c n : Int} (h : chk k [k, t, i, f, j, c] n = 0) : 1 ≤ k ∧ k ≤ 17 ∧ (∃ T : Nat, t = (T : Int) ∧ T ≤ 255) ∧ (∃ I : Nat, i = (I : Int) ∧ I ≤ 255) ∧ (∃ F : Nat, f = (F : Int) ∧ F ≤ 255) ∧ (∃ J : Nat, j = (J : Int) ∧ J ≤ 255) := by
  obtain ⟨h1, h2, h3⟩ := chk_fine h
  have a1 := h3 1 (by omega)
  have a2 := h3 2 (by omega)
  have a3 := h3 3 (by omega)
  have a4 := h3 4 (by omega)
  have up : ∀ x : Int, 0 ≤ x ∧ x ≤ 255 → ∃ X : Nat, x = (X : Int) ∧ X ≤ 255 := fun x hx => ⟨x.toNat, by omega, by omega⟩
  exact ⟨h1, h2, up _ a1, up _ a2, up _ a3, up _ a4⟩
end
end Go.Proofs.YtfhebjkoojodiaaDoor.gp
