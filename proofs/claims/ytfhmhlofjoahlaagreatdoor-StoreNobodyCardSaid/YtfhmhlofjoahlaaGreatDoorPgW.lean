/- Plain: large objects' pages; what each page tells. -/
import Derived.Test.YtfhmhlofjoahlaaGreatDoorPgM
namespace Go.Proofs.YtfhmhlofjoahlaaGreatDoor.pg
set_option linter.unusedVariables false
/-- Another page of a large object has one ahead of it. -/
def Wf (xs : List Int) : Prop := ∀ i, xs.getD i 0 = 6 → ∃ j, i = j + 1 ∧ (xs.getD j 0 = 5 ∨ xs.getD j 0 = 6)
theorem Wf.zero (n : Nat) : Wf (List.replicate n 0) := fun i h => by
  rw [List.getD_eq_getElem?_getD, List.getElem?_replicate] at h
  split at h <;> simp at h
theorem getD_in {xs : List Int} {i : Nat} (h : xs.getD i 0 ≠ 0) : i < xs.length := by
  rcases Nat.lt_or_ge i xs.length with h1 | h1
  · exact h1
  · rw [List.getD_eq_getElem?_getD, List.getElem?_eq_none h1] at h
    exact absurd rfl h
theorem Wf.take {xs : List Int} (h : Wf xs) {p : Nat} {k : Int} (hp : p < xs.length) (h0 : xs.getD p 0 = 0) (hk : k ≠ 6) : Wf (xs.set p k) := fun i hi => by
  rw [set_getD _ _ _ _ hp] at hi
  by_cases e : i = p
  · rw [if_pos e] at hi
    exact absurd hi hk
  · rw [if_neg e] at hi
    obtain ⟨j, rfl, hj⟩ := h i hi
    refine ⟨j, rfl, ?_⟩
    rw [set_getD _ _ _ _ hp]
    by_cases e2 : j = p
    · subst e2; omega
    · rw [if_neg e2]; exact hj
theorem Wf.span {xs : List Int} (h : Wf xs) {p n : Nat} (hn : 1 ≤ n) (hp : p + n ≤ xs.length) (h0 : ∀ i, i < n → xs.getD (p + i) 0 = 0) : Wf (spanN xs p n) := fun i hi => by
  rw [spanN_getD _ _ _ hn hp] at hi
  by_cases e : i = p
  · rw [if_pos e] at hi; omega
  · rw [if_neg e] at hi
    by_cases e2 : p < i ∧ i < p + n
    · refine ⟨i - 1, by omega, ?_⟩
      rw [spanN_getD _ _ _ hn hp]
      by_cases e3 : i - 1 = p
      · rw [if_pos e3]; exact .inl rfl
      · rw [if_neg e3, if_pos (by omega)]; exact .inr rfl
    · rw [if_neg e2] at hi
      obtain ⟨j, rfl, hj⟩ := h i hi
      refine ⟨j, rfl, ?_⟩
      rw [spanN_getD _ _ _ hn hp]
      by_cases e4 : p ≤ j ∧ j < p + n
      · have := h0 (j - p) (by omega)
        rw [show p + (j - p) = j by omega] at this
        omega
      · rw [if_neg (by omega), if_neg (by omega)]; exact hj
theorem Wf.fill {xs : List Int} (h : Wf xs) {p n : Nat} (hp : p + n ≤ xs.length) (h6 : xs.getD (p + n) 0 ≠ 6) : Wf (fillN xs p 0 n) := fun i hi => by
  rw [fillN_getD _ _ _ _ hp] at hi
  by_cases e : p ≤ i ∧ i < p + n
  · rw [if_pos e] at hi; omega
  · rw [if_neg e] at hi
    obtain ⟨j, rfl, hj⟩ := h i hi
    refine ⟨j, rfl, ?_⟩
    rw [fillN_getD _ _ _ _ hp]
    by_cases e2 : p ≤ j ∧ j < p + n
    · have : j + 1 = p + n := by omega
      rw [this] at hi
      exact absurd hi h6
    · rw [if_neg e2]; exact hj
theorem kind_getD {xs : List Int} {p : Nat} {k : Int} (hk : k ≠ 0) : xs.getD p 0 = k → kind xs (p : Int) = k := fun h => by
  rw [kind_in (getD_in (by rw [h]; exact hk))]; exact h
theorem Wf.freed {xs : List Int} (h : Wf xs) {p : Nat} (hne : siz xs (p : Int) ≠ 0) : Wf (fillN xs p 0 (siz xs (p : Int)).toNat) := by
  have hin := siz_in hne
  have hw := siz_wide xs p
  refine h.fill (by omega) (fun h6 => ?_)
  have k6 := kind_getD (by decide) h6
  by_cases hs : 1 ≤ kind xs (p : Int) ∧ kind xs (p : Int) ≤ 4
  · rw [siz_small hs] at h6 k6
    obtain ⟨j, hj, h56⟩ := h _ h6
    have e : j = p := by have : (1 : Int).toNat = 1 := rfl; omega
    subst e
    rcases h56 with h5 | h5
    · rw [kind_getD (by decide) h5] at hs; omega
    · rw [kind_getD (by decide) h5] at hs; omega
  · have h5 : kind xs (p : Int) = 5 := by
      by_cases c : kind xs (p : Int) = 5
      · exact c
      · exact absurd (siz_none hs c) hne
    rw [siz_large h5] at k6
    have := (lead_is (k := 6) (by decide) (xs := xs) (p := p + 1)).2
    have e : p + (1 + ((lead 6 (xs.drop (p + 1)) : Nat) : Int)).toNat = p + 1 + lead 6 (xs.drop (p + 1)) := by omega
    rw [e] at k6
    exact this k6
theorem low_wf {xs : List Int} (h : Wf xs) : ∀ p : Nat, xs.getD p 0 = 6 → ∃ q : Nat, lowI xs p = q ∧ q < p ∧ xs.getD q 0 = 5 ∧ ∀ i, q < i → i ≤ p → xs.getD i 0 = 6
  | 0, h6 => by obtain ⟨j, hj, _⟩ := h 0 h6; omega
  | p + 1, h6 => by
    obtain ⟨j, hj, h56⟩ := h _ h6
    obtain rfl : j = p := by omega
    have e : lowI xs ((j + 1 : Nat) : Int) = lowI xs (j : Int) := by
      rw [lowI_step (kind_getD (by decide) h6)]
      congr 1; omega
    rcases h56 with h5 | h5
    · refine ⟨j, ?_, by omega, h5, fun i h1 h2 => ?_⟩
      · rw [e, lowI_stop (by rw [kind_getD (by decide) h5]; decide)]
      · obtain rfl : i = j + 1 := by omega
        exact h6
    · obtain ⟨q, h1, h2, h3, h4⟩ := low_wf h j h5
      refine ⟨q, by rw [e]; exact h1, by omega, h3, fun i c1 c2 => ?_⟩
      by_cases c : i ≤ j
      · exact h4 i c1 c
      · obtain rfl : i = j + 1 := by omega
        exact h6
/-- What each page tells. -/
theorem told_p {xs : List Int} (h : Wf xs) (hk : Ks xs) {p : Nat} (hp : p < xs.length) :
    (xs.getD p 0 = 0 ∧ frs xs p = -1) ∨ ((1 ≤ xs.getD p 0 ∧ xs.getD p 0 ≤ 5) ∧ frs xs p = p) ∨ (xs.getD p 0 = 6 ∧ ∃ q : Nat, frs xs p = q ∧ q < p ∧ xs.getD q 0 = 5 ∧ (p : Int) < q + siz xs q) := by
  have hw := hk p
  have ek := kind_in hp
  by_cases h6 : xs.getD p 0 = 6
  · right; right
    obtain ⟨q, h1, h2, h3, h4⟩ := low_wf h p h6
    have k5 := kind_getD (by decide) h3
    have hs := siz_large k5
    refine ⟨h6, q, ?_, h2, h3, ?_⟩
    · unfold frs
      rw [h1, if_neg (by omega)]
    · rw [hs]
      have hl := (lead_is (k := 6) (by decide) (xs := xs) (p := q + 1)).2
      by_cases c : q + 1 + lead 6 (xs.drop (q + 1)) ≤ p
      · exact absurd (kind_getD (by decide) (h4 _ (by omega) c)) hl
      · omega
  · have hl : lowI xs p = p := lowI_stop (by rw [ek]; exact h6)
    by_cases h0 : xs.getD p 0 = 0
    · left
      refine ⟨h0, ?_⟩
      unfold frs
      rw [hl, siz_none (by omega) (by omega), if_pos rfl]
    · right; left
      refine ⟨by omega, ?_⟩
      unfold frs
      rw [hl, if_neg]
      by_cases h5 : xs.getD p 0 = 5
      · rw [siz_large (by rw [ek]; exact h5)]; omega
      · rw [siz_small (by omega)]; omega

theorem find_zero {xs : List Int} {n : Nat} (hn : 1 ≤ n) {p : Nat} (h : find n 0 xs = some p) : ∀ i, i < n → xs.getD (p + i) 0 = 0 := fun i hi => by
  obtain ⟨_, _, h3, h4⟩ := find_at (n := (n : Int)) (by omega) h
  have := h3 i (by omega)
  rwa [kind_in (by omega)] at this
end Go.Proofs.YtfhmhlofjoahlaaGreatDoor.pg
