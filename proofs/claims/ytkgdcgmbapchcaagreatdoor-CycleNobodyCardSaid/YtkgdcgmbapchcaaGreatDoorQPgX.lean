/- Texts that this claim stands on. -/
import Derived.WalkKit
import Derived.RangeFuncFrom
import Derived.RangeFuncBound
import Derived.RangeFuncCalls
import Derived.RangeFuncLeaves
import Derived.Outline
import Derived.Laws.Cover3
import Derived.Lib.SliceRun
import Derived.Test.YtkgdcgmbapchcaaGreatDoorQCsQ
import Derived.Test.YtkgdcgmbapchcaaGreatDoorQGnQ
namespace Go.Proofs.YtkgdcgmbapchcaaGreatDoor.pg
set_option linter.unusedVariables false
def lead (k : Int) : List Int → Nat
  | [] => 0
  | x :: l => if x = k then lead k l + 1 else 0
def kind (xs : List Int) (p : Int) : Int := if 0 ≤ p ∧ p < xs.length then xs.getD p.toNat 0 else -1
theorem kind_in {xs : List Int} {p : Nat} (h : p < xs.length) : kind xs (p : Int) = xs.getD p 0 := by
  unfold kind; rw [if_pos (by omega)]; rfl
theorem kind_out {xs : List Int} {p : Int} (h : ¬ (0 ≤ p ∧ p < xs.length)) : kind xs p = -1 := by unfold kind; rw [if_neg h]
theorem kind_there {xs : List Int} {p : Int} (h : kind xs p ≠ -1) : 0 ≤ p ∧ p < xs.length := by
  by_cases c : 0 ≤ p ∧ p < xs.length
  · exact c
  · exact absurd (kind_out c) h
theorem lead_le (k : Int) (l : List Int) : lead k l ≤ l.length := by
  induction l with
  | nil => simp [lead]
  | cons x l ih => unfold lead; split <;> simp; omega
theorem drop_at {xs : List Int} {p : Nat} (h : p < xs.length) : xs.drop p = xs.getD p 0 :: xs.drop (p + 1) := by
  rw [List.drop_eq_getElem_cons h]
  simp [h]
theorem lead_eq {k : Int} (hk : k ≠ -1) {xs : List Int} : ∀ {n p : Nat}, (∀ i, i < n → kind xs ((p + i : Nat) : Int) = k) → kind xs ((p + n : Nat) : Int) ≠ k → lead k (xs.drop p) = n
  | 0, p, _, hn => by
    by_cases h : p < xs.length
    · rw [drop_at h, lead, if_neg]
      rw [← kind_in h]; exact hn
    · rw [List.drop_of_length_le (by omega)]; rfl
  | n + 1, p, h, hn => by
    have h0 := h 0 (by omega)
    rw [Nat.add_zero] at h0
    have hp : p < xs.length := by have := kind_there (xs := xs) (p := (p : Int)) (by rw [h0]; exact hk); omega
    rw [drop_at hp, lead, if_pos (by rw [← kind_in hp]; exact h0)]
    rw [lead_eq hk (n := n) (p := p + 1) (fun i hi => by have := h (i + 1) (by omega); rwa [show p + 1 + i = p + (i + 1) by omega]) (by rwa [show p + 1 + n = p + (n + 1) by omega])]
theorem lead_is {k : Int} (hk : k ≠ -1) {xs : List Int} {p : Nat} : (∀ i, i < lead k (xs.drop p) → kind xs ((p + i : Nat) : Int) = k) ∧ kind xs ((p + lead k (xs.drop p) : Nat) : Int) ≠ k := by
  generalize hm : xs.length - p = m
  induction m generalizing p with
  | zero =>
    have e : xs.drop p = [] := List.drop_of_length_le (by omega)
    rw [e]
    exact ⟨fun i hi => by simp [lead] at hi, by rw [kind_out (by simp [lead]; omega)]; exact fun h => hk h.symm⟩
  | succ m ih =>
    have hp : p < xs.length := by omega
    obtain ⟨i1, i2⟩ := ih (p := p + 1) (by omega)
    rw [drop_at hp]
    by_cases h : xs.getD p 0 = k
    · rw [lead, if_pos h]
      refine ⟨fun i hi => ?_, ?_⟩
      · cases i with
        | zero => rw [Nat.add_zero, kind_in hp]; exact h
        | succ i => have := i1 i (by omega); rwa [show p + (i + 1) = p + 1 + i by omega]
      · rwa [show p + (lead k (xs.drop (p + 1)) + 1) = p + 1 + lead k (xs.drop (p + 1)) by omega]
    · rw [lead, if_neg h]
      exact ⟨fun i hi => by omega, by rw [Nat.add_zero, kind_in hp]; exact h⟩
theorem lead_fits {k : Int} {xs : List Int} (p : Nat) : p ≤ xs.length → p + lead k (xs.drop p) ≤ xs.length := by
  have := lead_le k (xs.drop p)
  rw [List.length_drop] at this
  omega
def runs (off : Nat) (l : List Int) : List (Int × Int) :=
  if h : l = [] then [] else
  (if 0 < lead 0 l then [((off : Int), (lead 0 l : Int))] else []) ++ runs (off + lead 0 l + 1) (l.drop (lead 0 l + 1))
termination_by l.length
decreasing_by
  have : l.length ≠ 0 := fun e => h (List.eq_nil_of_length_eq_zero e)
  rw [List.length_drop]; omega
theorem runs_nil (off : Nat) : runs off [] = [] := by rw [runs]; simp
theorem runs_yes {off : Nat} {l : List Int} (h : 0 < lead 0 l) : runs off l = ((off : Int), (lead 0 l : Int)) :: runs (off + lead 0 l + 1) (l.drop (lead 0 l + 1)) := by
  rw [runs, dif_neg (fun e => by subst e; simp [lead] at h), if_pos h]; rfl
theorem runs_no {off : Nat} {l : List Int} (h : lead 0 l = 0) : runs off l = runs (off + 1) (l.drop 1) := by
  by_cases e : l = []
  · subst e; rw [runs_nil, List.drop_nil, runs_nil]
  · rw [runs, dif_neg e, if_neg (by omega), h]; rfl
def find (n : Int) (off : Nat) : List Int → Option Nat
  | [] => none
  | x :: l => if n ≤ lead 0 (x :: l) then some off else find n (off + 1) l
def longest : List Int → Nat
  | [] => 0
  | x :: l => max (lead 0 (x :: l)) (longest l)
def zeros : List Int → Nat
  | [] => 0
  | x :: l => (if x = 0 then 1 else 0) + zeros l
theorem find_step {n : Int} (hn : 1 ≤ n) : ∀ (l : List Int) (off : Nat), find n off l = if n ≤ lead 0 l then some off else find n (off + lead 0 l + 1) (l.drop (lead 0 l + 1))
  | [], off => by simp [find, lead]; omega
  | x :: l, off => by
    by_cases hx : x = 0
    · subst hx
      have e : lead 0 (0 :: l) = lead 0 l + 1 := by rw [lead, if_pos rfl]
      rw [find, e]
      by_cases h : n ≤ ((lead 0 l + 1 : Nat) : Int)
      · rw [if_pos h, if_pos h]
      · rw [if_neg h, if_neg h, find_step hn l (off + 1), if_neg (by omega), List.drop_succ_cons, show off + (lead 0 l + 1) + 1 = off + 1 + lead 0 l + 1 by omega]
    · have e : lead 0 (x :: l) = 0 := by rw [lead, if_neg hx]
      rw [find, e, if_neg (by omega), if_neg (by omega)]
      simp
theorem longest_step : ∀ l : List Int, longest l = max (lead 0 l) (longest (l.drop (lead 0 l + 1)))
  | [] => by simp [longest, lead]
  | x :: l => by
    have ih := longest_step l
    by_cases hx : x = 0
    · subst hx
      have e : lead 0 (0 :: l) = lead 0 l + 1 := by rw [lead, if_pos rfl]
      rw [longest, e, List.drop_succ_cons, ih]
      omega
    · have e : lead 0 (x :: l) = 0 := by rw [lead, if_neg hx]
      rw [longest, e]
      simp
theorem zeros_step : ∀ l : List Int, zeros l = lead 0 l + zeros (l.drop (lead 0 l + 1))
  | [] => by simp [zeros, lead]
  | x :: l => by
    have ih := zeros_step l
    by_cases hx : x = 0
    · subst hx
      have e : lead 0 (0 :: l) = lead 0 l + 1 := by rw [lead, if_pos rfl]
      rw [zeros, e, List.drop_succ_cons, if_pos rfl]
      omega
    · have e : lead 0 (x :: l) = 0 := by rw [lead, if_neg hx]
      rw [zeros, e, if_neg hx]
      simp
def most (rs : List (Int × Int)) : Int := rs.foldl (fun a x => max a x.2) 0
def total (rs : List (Int × Int)) : Int := rs.foldl (fun a x => a + x.2) 0
theorem total_snoc (rs : List (Int × Int)) (x : Int × Int) : total (rs ++ [x]) = total rs + x.2 := by simp [total]
theorem most_from (rs : List (Int × Int)) : ∀ a : Int, 0 ≤ a → rs.foldl (fun a x => max a x.2) a = max a (most rs) := by
  induction rs with
  | nil => intro a ha; simp [most]; omega
  | cons x rs ih =>
    intro a ha
    have := ih (max 0 x.2) (by omega)
    simp only [most, List.foldl_cons] at this ⊢
    rw [ih _ (by omega), this]
    simp only [most]
    omega
theorem total_from (rs : List (Int × Int)) : ∀ a : Int, rs.foldl (fun a x => a + x.2) a = a + total rs := by
  induction rs with
  | nil => intro a; simp [total]
  | cons x rs ih =>
    intro a
    have := ih (0 + x.2)
    simp only [total, List.foldl_cons] at this ⊢
    rw [ih _, this]
    simp only [total]
    omega
theorem most_cons (x : Int × Int) (rs : List (Int × Int)) (h : 0 ≤ x.2) : most (x :: rs) = max x.2 (most rs) := by
  have := most_from rs (max 0 x.2) (by omega)
  simp only [most, List.foldl_cons] at this ⊢
  rw [this]
  omega
theorem total_cons (x : Int × Int) (rs : List (Int × Int)) : total (x :: rs) = x.2 + total rs := by
  have := total_from rs (0 + x.2)
  simp only [total, List.foldl_cons] at this ⊢
  omega
theorem by_runs {p : List Int → Prop} (h0 : p []) (h1 : ∀ l, l ≠ [] → p (l.drop (lead 0 l + 1)) → p l) (l : List Int) : p l := by
  generalize hn : l.length = n
  induction n using Nat.strongRecOn generalizing l with
  | ind n ih =>
    by_cases e : l = []
    · subst e; exact h0
    · have hl : l.length ≠ 0 := fun h => e (List.eq_nil_of_length_eq_zero h)
      exact h1 l e (ih (l.drop (lead 0 l + 1)).length (by rw [List.length_drop]; omega) _ rfl)
theorem runs_most (l : List Int) : ∀ off, most (runs off l) = longest l := by
  refine by_runs (p := fun l => ∀ off, most (runs off l) = longest l) (fun off => by rw [runs_nil]; rfl) (fun l hl ih off => ?_) l
  rw [longest_step l]
  by_cases h : 0 < lead 0 l
  · rw [runs_yes h, most_cons _ _ (by simp), ih]
    omega
  · have h : lead 0 l = 0 := by omega
    rw [runs_no h]
    rw [h] at ih ⊢
    rw [ih]; simp
theorem runs_total (l : List Int) : ∀ off, total (runs off l) = zeros l := by
  refine by_runs (p := fun l => ∀ off, total (runs off l) = zeros l) (fun off => by rw [runs_nil]; rfl) (fun l hl ih off => ?_) l
  rw [zeros_step l]
  by_cases h : 0 < lead 0 l
  · rw [runs_yes h, total_cons, ih]
    omega
  · have h : lead 0 l = 0 := by omega
    rw [runs_no h]
    rw [h] at ih ⊢
    rw [ih]; simp
theorem runs_find {n : Int} (hn : 1 ≤ n) (l : List Int) : ∀ off, ((runs off l).find? (fun x => decide (n ≤ x.2))).map (·.1) = (find n off l).map (fun p : Nat => (p : Int)) := by
  refine by_runs (p := fun l => ∀ off, ((runs off l).find? (fun x => decide (n ≤ x.2))).map (·.1) = (find n off l).map (fun p : Nat => (p : Int))) (fun off => by rw [runs_nil]; rfl) (fun l hl ih off => ?_) l
  rw [find_step hn]
  by_cases h : 0 < lead 0 l
  · rw [runs_yes h, List.find?_cons]
    by_cases hh : n ≤ lead 0 l
    · simp [hh]
    · simp only [hh, decide_false, if_false]
      exact ih _
  · have h : lead 0 l = 0 := by omega
    rw [runs_no h, if_neg (by omega)]
    rw [h] at ih ⊢
    exact ih _
theorem find_none {n : Int} (hn : 1 ≤ n) {l : List Int} (h : ∀ x ∈ runs 0 l, x.2 < n) : find n 0 l = none := by
  have := runs_find hn l 0
  rw [List.find?_eq_none.2 (fun x hx => by have := h x hx; simp; omega)] at this
  cases e : find n 0 l with
  | none => rfl
  | some p => rw [e] at this; cases this
theorem find_some {n : Int} (hn : 1 ≤ n) {l : List Int} {pre post : List (Int × Int)} {x : Int × Int} (hr : runs 0 l = pre ++ x :: post) (h : ∀ y ∈ pre, y.2 < n) (hx : n ≤ x.2) : ∃ p : Nat, find n 0 l = some p ∧ x.1 = p := by
  have := runs_find hn l 0
  rw [hr, List.find?_append, List.find?_eq_none.2 (fun y hy => by have := h y hy; simp; omega)] at this
  cases e : find n 0 l with
  | none => rw [e] at this; simp [hx] at this
  | some p =>
    rw [e] at this
    simp [hx] at this
    exact ⟨p, rfl, this⟩
theorem find_is {n : Int} (hn : 1 ≤ n) : ∀ (l : List Int) (off p : Nat), find n off l = some p → off ≤ p ∧ p < off + l.length ∧ n ≤ lead 0 (l.drop (p - off))
  | [], off, p, h => by cases h
  | x :: l, off, p, h => by
    rw [find] at h
    by_cases c : n ≤ lead 0 (x :: l)
    · rw [if_pos c] at h
      injection h with h
      subst h
      refine ⟨Nat.le_refl _, by simp, ?_⟩
      rw [Nat.sub_self]; exact c
    · rw [if_neg c] at h
      obtain ⟨h1, h2, h3⟩ := find_is hn l (off + 1) p h
      refine ⟨by omega, by simp; omega, ?_⟩
      rw [show p - off = (p - (off + 1)) + 1 by omega, List.drop_succ_cons]
      exact h3
theorem find_at {n : Int} (hn : 1 ≤ n) {xs : List Int} {p : Nat} (h : find n 0 xs = some p) : p < xs.length ∧ n ≤ lead 0 (xs.drop p) ∧ (∀ i : Nat, (i : Int) < n → kind xs ((p + i : Nat) : Int) = 0) ∧ p + n ≤ xs.length := by
  obtain ⟨_, h2, h3⟩ := find_is hn xs 0 p h
  rw [Nat.sub_zero] at h3
  have := lead_fits (k := 0) (xs := xs) p (by omega)
  exact ⟨by omega, h3, fun i hi => (lead_is (k := 0) (by decide)).1 i (by omega), by omega⟩
def siz (xs : List Int) (p : Int) : Int := if 1 ≤ kind xs p ∧ kind xs p ≤ 4 then 1 else if kind xs p = 5 then 1 + (lead 6 (xs.drop (p.toNat + 1)) : Nat) else 0
def low (xs : List Int) : Nat → Int
  | 0 => if kind xs 0 = 6 then -1 else 0
  | p + 1 => if kind xs ((p + 1 : Nat) : Int) = 6 then low xs p else ((p + 1 : Nat) : Int)
def lowI (xs : List Int) (p : Int) : Int := if kind xs p = 6 then low xs p.toNat else p
def frs (xs : List Int) (p : Int) : Int := if siz xs (lowI xs p) = 0 then -1 else lowI xs p
theorem lowI_stop {xs : List Int} {p : Int} (h : kind xs p ≠ 6) : lowI xs p = p := by unfold lowI; rw [if_neg h]
theorem low_eq (xs : List Int) (p : Nat) : low xs p = lowI xs p := by
  unfold lowI
  cases p with
  | zero =>
    show (if kind xs 0 = 6 then (-1 : Int) else 0) = if kind xs ((0 : Nat) : Int) = 6 then low xs 0 else ((0 : Nat) : Int)
    by_cases h : kind xs 0 = 6
    · rw [if_pos h, if_pos (by simpa using h)]; show (-1 : Int) = if kind xs 0 = 6 then -1 else 0; rw [if_pos h]
    · rw [if_neg h, if_neg (by simpa using h)]; rfl
  | succ p =>
    by_cases h : kind xs ((p + 1 : Nat) : Int) = 6
    · rw [if_pos h]; rfl
    · rw [if_neg h, low, if_neg h]
theorem lowI_step {xs : List Int} {p : Int} (h : kind xs p = 6) : lowI xs p = lowI xs (p - 1) := by
  have hp := kind_there (xs := xs) (p := p) (by rw [h]; decide)
  obtain ⟨q, rfl⟩ : ∃ q : Nat, p = q := ⟨p.toNat, by omega⟩
  cases q with
  | zero =>
    rw [show (((0 : Nat) : Int) - 1) = -1 by omega, lowI_stop (p := -1) (by rw [kind_out (by omega)]; decide)]
    unfold lowI
    rw [if_pos h]
    show (if kind xs 0 = 6 then (-1 : Int) else 0) = -1
    rw [if_pos (by simpa using h)]
  | succ q =>
    rw [show (((q + 1 : Nat) : Int) - 1) = (q : Nat) by omega, ← low_eq xs q]
    unfold lowI
    rw [if_pos h]
    show low xs (q + 1) = _
    rw [low, if_pos h]
theorem siz_wide (xs : List Int) (p : Int) : 0 ≤ siz xs p ∧ siz xs p ≤ xs.length := by
  have h3 : kind xs p ≠ -1 → 0 ≤ p ∧ p < xs.length := kind_there
  unfold siz
  split
  · have := h3 (by omega); omega
  · split
    · have := h3 (by omega)
      have := lead_fits (k := 6) (xs := xs) (p.toNat + 1) (by omega)
      omega
    · omega
theorem siz_in {xs : List Int} {p : Int} (h : siz xs p ≠ 0) : 0 ≤ p ∧ p + siz xs p ≤ xs.length := by
  have h3 : kind xs p ≠ -1 → 0 ≤ p ∧ p < xs.length := kind_there
  unfold siz at h ⊢
  split
  · have := h3 (by omega); omega
  · rename_i c
    rw [if_neg c] at h
    split
    · have := h3 (by omega)
      have := lead_fits (k := 6) (xs := xs) (p.toNat + 1) (by omega)
      omega
    · rename_i c2; rw [if_neg c2] at h; omega
theorem siz_small {xs : List Int} {p : Int} (h : 1 ≤ kind xs p ∧ kind xs p ≤ 4) : siz xs p = 1 := by unfold siz; rw [if_pos h]
theorem siz_none {xs : List Int} {p : Int} (h : ¬ (1 ≤ kind xs p ∧ kind xs p ≤ 4)) (h5 : kind xs p ≠ 5) : siz xs p = 0 := by unfold siz; rw [if_neg h, if_neg h5]
theorem siz_large {xs : List Int} {p : Nat} (h : kind xs (p : Int) = 5) : siz xs p = 1 + (lead 6 (xs.drop (p + 1)) : Nat) := by
  unfold siz; rw [if_neg (by omega), if_pos h]; rfl
def fillN (xs : List Int) (a : Nat) (v : Int) : Nat → List Int
  | 0 => xs
  | k + 1 => (fillN xs a v k).set (a + k) v
theorem fillN_length (xs : List Int) (a : Nat) (v : Int) (k : Nat) : (fillN xs a v k).length = xs.length := by
  induction k with
  | zero => rfl
  | succ k ih => simp [fillN, ih]
theorem set_getD (xs : List Int) (a : Nat) (v : Int) (i : Nat) (h : a < xs.length) : (xs.set a v).getD i 0 = if i = a then v else xs.getD i 0 := by
  by_cases hi : i = a
  · subst hi
    rw [if_pos rfl, List.getD_eq_getElem?_getD, List.getElem?_set_self h]
    rfl
  · rw [if_neg hi, List.getD_eq_getElem?_getD, List.getElem?_set_ne (by omega), ← List.getD_eq_getElem?_getD]
theorem fillN_getD (xs : List Int) (a : Nat) (v : Int) (k : Nat) (h : a + k ≤ xs.length) (i : Nat) : (fillN xs a v k).getD i 0 = if a ≤ i ∧ i < a + k then v else xs.getD i 0 := by
  induction k with
  | zero => rw [if_neg (by omega)]; rfl
  | succ k ih =>
    rw [fillN, set_getD _ _ _ _ (by rw [fillN_length]; omega), ih (by omega)]
    by_cases hi : i = a + k
    · rw [if_pos hi, if_pos (by omega)]
    · rw [if_neg hi]
      by_cases c : a ≤ i ∧ i < a + k
      · rw [if_pos c, if_pos (by omega)]
      · rw [if_neg c, if_neg (by omega)]
def spanN (xs : List Int) (a n : Nat) : List Int := fillN (xs.set a 5) (a + 1) 6 (n - 1)
theorem spanN_length (xs : List Int) (a n : Nat) : (spanN xs a n).length = xs.length := by simp [spanN, fillN_length]
theorem spanN_getD (xs : List Int) (a n : Nat) (h1 : 1 ≤ n) (h : a + n ≤ xs.length) (i : Nat) : (spanN xs a n).getD i 0 = if i = a then 5 else if a < i ∧ i < a + n then 6 else xs.getD i 0 := by
  unfold spanN
  rw [fillN_getD _ _ _ _ (by simp; omega), set_getD _ _ _ _ (by omega)]
  repeat' split
  all_goals first | rfl | omega
def Ks (xs : List Int) : Prop := ∀ i, 0 ≤ xs.getD i 0 ∧ xs.getD i 0 ≤ 6
theorem kind_wide {xs : List Int} (h : Ks xs) (p : Int) : -1 ≤ kind xs p ∧ kind xs p ≤ 6 := by
  have := h p.toNat
  unfold kind; split <;> omega
theorem Ks.fill {xs : List Int} (h : Ks xs) (a : Nat) {v : Int} (hv : 0 ≤ v ∧ v ≤ 6) (k : Nat) (hk : a + k ≤ xs.length) : Ks (fillN xs a v k) := fun i => by
  rw [fillN_getD _ _ _ _ hk]
  have := h i
  split <;> omega
theorem Ks.set {xs : List Int} (h : Ks xs) (a : Nat) {v : Int} (hv : 0 ≤ v ∧ v ≤ 6) (ha : a < xs.length) : Ks (xs.set a v) := fun i => by
  rw [set_getD _ _ _ _ ha]
  have := h i
  split <;> omega
theorem Ks.span {xs : List Int} (h : Ks xs) (a n : Nat) (h1 : 1 ≤ n) (hn : a + n ≤ xs.length) : Ks (spanN xs a n) := fun i => by
  rw [spanN_getD _ _ _ h1 hn]
  have := h i
  repeat' split
  all_goals omega
theorem Ks.zero (n : Nat) : Ks (List.replicate n 0) := fun i => by
  rw [List.getD_eq_getElem?_getD, List.getElem?_replicate]
  split <;> simp
end Go.Proofs.YtkgdcgmbapchcaaGreatDoor.pg
namespace Go.Proofs.YtkgdcgmbapchcaaGreatDoor.rg
open Go Go.RowKit
set_option linter.unusedVariables false
abbrev two (x : Int × Int) : Array Value := #[.int .i64 x.1, .int .i64 x.2]
def Hands (P : Program) (g : Nat) (bd : Array Value) (n₀ : Nat) (w : World) (xs : List (Int × Int)) : Prop :=
  ∀ (l : Nat) (J Jx : List (Int × Int) → World → Prop) (W : World), Below n₀ w W →
    (∀ pre x post W1, xs = pre ++ x :: post → J pre W1 → YieldAt Fence.wide 1 P l (two x) W1 fun e W' =>
      (e = .returned (.bool true) ∧ J (pre ++ [x]) W' ∧ Below n₀ W1 W') ∨ (e = .returned (.bool false) ∧ Jx (pre ++ [x]) W')) →
    J [] W → CallsIn Fence.wide 2 P g (bd ++ #[.func (.yield l) #[] #[]]) W fun e W' => (∃ v, e = .returned v) ∧ (J xs W' ∨ ∃ pre, Jx pre W')
abbrev marked (a : Act) (D : Nat) : Act := { a with defers := { target := .collected D, args := #[] } :: a.defers }
theorem range_bound {P : Program} {g : Operand} {ps : Array Tmp} {assign body : Code} {Q : Exit → Act → World → Prop} {a : Act} {w : World} {gf n₀ : Nat} {bd : Array Value} {xs : List (Int × Int)}
    (hg : a.eval g = .func (.func gf) bd #[]) (eg : ∀ args w, (callFunc gf args).run P w = .ok (.enter gf args) w) (hn : n₀ ≤ w.heap.size) (hs : Hands P gf bd n₀ w xs) (hps : ps.size = 2)
    (I : List (Int × Int) → World → Prop) (Ix : Code → List (Int × Int) → World → Prop) (hI : OwnFrom w.heap.size I) (hIx : ∀ c, OwnFrom w.heap.size (Ix c)) (h0 : I [] w) (a₁ : Int × Int → Act)
    (hassign : ∀ (l : Nat) (x : Int × Int) (W : World) (K : Act → World → Prop), K (a₁ x) W →
      assign.wpIn (Fence.wide.inRound l) 1 P (Exit.then K (fun _ _ _ => False)) { tmps := (ps.zip (two x)).foldl (fun t (p, v) => t.setIfInBounds p v) a.tmps, defers := [] } W)
    (hbody : ∀ (l : Nat) pre x post W, xs = pre ++ x :: post → I pre W → body.wpIn (Fence.wide.inRound l) 1 P (ownPostK (Below n₀) I Ix (pre ++ [x]) W) (a₁ x) W)
    (hdone : ∀ (D : Nat) W, w.heap.size ≤ D → I xs W → W.heap[D]? = some (.deferred (some [])) → Q .normal (marked a D) W)
    (hstop : ∀ (D : Nat) c pre W, w.heap.size ≤ D → Ix c pre W → W.heap[D]? = some (.deferred (some [])) → c.wpIn Fence.wide 3 P Q (marked a D) W) :
    (Code.rangeFunc g ps assign body).wpIn Fence.wide 3 P Q a w := by
  refine wpIn_rangeFunc fun fn hfn => ?_
  obtain ⟨B, hB⟩ : ∃ B, B = w.heap.size := ⟨_, rfl⟩
  obtain ⟨rec, hrec⟩ : ∃ rec : LoopState → Option Code → Loop, rec = fun st pe => { state := st, pending := pe, fn, tmps := a.tmps, params := ps, assign, body, defers := B } := ⟨_, rfl⟩
  obtain ⟨W0, hW0⟩ : ∃ W0, W0 = (w.alloc (.deferred (some []))).alloc (.loop (rec .ready none)) := ⟨_, rfl⟩
  have size0 : W0.heap.size = B + 2 := by rw [hW0, hB]; simp
  have lp0 : W0.heap[B + 1]? = some (.loop (rec .ready none)) := by
    have := World.alloc_heap_new (w.alloc (.deferred (some []))) (.loop (rec .ready none))
    rwa [World.size_alloc, ← hB, ← hW0] at this
  have df0 : W0.heap[B]? = some (.deferred (some [])) := by
    have := World.alloc_heap_new w (.deferred (some []))
    rw [← hB] at this
    rw [hW0]
    exact (Below.heap_alloc _ _ _ (by rw [World.size_alloc, hB]; omega)).trans this
  have hn0 : n₀ ≤ B := by rw [hB]; exact hn
  rw [← hB] at hI hIx hdone hstop
  have i0 : I [] W0 := by rw [hW0]; exact hI.alloc _ (hI.alloc _ h0)
  have b0 : Below n₀ w W0 := by
    rw [hW0]
    exact ((Below.refl n₀ w).alloc hn _).alloc (by rw [World.size_alloc]; omega) _
  refine ⟨B + 1, [{ target := .collected B, args := #[] }], W0, { target := .fn (.func gf) #[], args := bd ++ #[.func (.yield (B + 1)) #[] #[]] }, W0, gf, bd ++ #[.func (.yield (B + 1)) #[] #[]], W0, ?_, ?_, fun f' h => ?_, ?_, fun _ => by omega, ?_⟩
  · rw [hW0, hrec, hB]; exact run_enterLoop_outer _ _ _ _ _
  · simp only [resolve, hg]
    simp [go_sem]
  · simp [Target.leads] at h
    subst h; trivial
  · simp [invoke, go_sem, eg]
  -- the record as it stands, and the block for the rounds' deferred calls
  let J : List (Int × Int) → World → Prop := fun pre W => I pre W ∧ W.heap[B + 1]? = some (.loop (rec .ready none)) ∧ W.heap[B]? = some (.deferred (some []))
  let Jx : List (Int × Int) → World → Prop := fun pre W => ∃ c, Ix c pre W ∧ W.heap[B + 1]? = some (.loop (rec .done (some c))) ∧ W.heap[B]? = some (.deferred (some []))
  refine (hs (B + 1) J Jx W0 b0 ?_ ⟨i0, lp0, df0⟩).mono ?_
  · rintro pre x post W hx ⟨hi, hl, hk⟩
    have lt : B + 1 < W.heap.size := (Array.getElem?_eq_some_iff.1 hl).1
    have hy := run_yield (P := P) (args := two x) hl (by rw [hrec]; exact hps.symm)
    rw [hrec] at hy
    refine ⟨fn, _, assign, body, hy, roundIn_of_wpIn hfn (hassign _ x W _ ⟨_, run_beginRound hl (by rw [hrec]), ?_⟩)⟩
    obtain ⟨busy, hbusy⟩ : ∃ busy, busy = ({ rec .ready none with state := .busy } : Loop) := ⟨_, rfl⟩
    rw [← hbusy]
    have lq : (W.putObj (B + 1) (.loop busy)).heap[B + 1]? = some (.loop busy) := World.putObj_heap_same lt
    have dq : (W.putObj (B + 1) (.loop busy)).heap[B]? = some (.deferred (some [])) := (World.putObj_heap_other (by omega)).trans hk
    have bq : Below n₀ W (W.putObj (B + 1) (.loop busy)) := belowK_b (w := w) hn _ _ _ _ (by omega) hl rfl rfl
    -- how a round ends, whichever way
    have ends : ∀ (jump : Option Code) (V : World), KeepsOthers (W.putObj (B + 1) (.loop busy)) V → ∃ V', (Instr.endRound (B + 1) jump).run P V = .ok (.bool jump.isNone) V' ∧ V' = V.putObj (B + 1) (.loop (rec (if jump.isNone then .ready else .done) jump)) ∧
        V.heap[B + 1]? = some (.loop busy) ∧ V'.heap[B + 1]? = some (.loop (rec (if jump.isNone then .ready else .done) jump)) ∧ V'.heap[B]? = some (.deferred (some [])) := by
      intro jump V hV
      have l3 := hV.same _ _ lq rfl
      have r3 := run_endRound (P := P) jump l3
      rw [hbusy, hrec] at r3
      refine ⟨_, r3, by rw [hrec], l3, ?_, (World.putObj_heap_other (by omega)).trans (hV.same _ _ dq rfl)⟩
      rw [hrec]
      exact World.putObj_heap_same (Array.getElem?_eq_some_iff.1 l3).1
    refine wpIn_mono (hbody _ pre x post _ hx (hI.putObj _ hi (by omega) hl rfl)) ?_
    intro e a3 V hp
    cases e with
    | normal =>
      obtain ⟨hV, bV, iV⟩ := hp
      obtain ⟨V', hr, rfl, l3, l4, d4⟩ := ends none V hV
      exact ⟨_, _, hr, .inl ⟨rfl, ⟨hI.putObj _ iV (by omega) l3 rfl, l4, d4⟩, (bq.trans bV).trans (belowK_b (w := w) hn _ _ _ _ (by omega) l3 rfl rfl)⟩⟩
    | ret =>
      obtain ⟨hV, iV⟩ := hp
      obtain ⟨V', hr, rfl, l3, l4, d4⟩ := ends (some .ret) V hV
      exact ⟨_, _, hr, .inr ⟨rfl, .ret, (hIx _).putObj _ iV (by omega) l3 rfl, l4, d4⟩⟩
    | exit id =>
      obtain ⟨hV, iV⟩ := hp
      obtain ⟨V', hr, rfl, l3, l4, d4⟩ := ends (some (.exit id)) V hV
      exact ⟨_, _, hr, .inr ⟨rfl, .exit id, (hIx _).putObj _ iV (by omega) l3 rfl, l4, d4⟩⟩
    | goto t =>
      obtain ⟨hV, iV⟩ := hp
      obtain ⟨V', hr, rfl, l3, l4, d4⟩ := ends (some (.goto t)) V hV
      exact ⟨_, _, hr, .inr ⟨rfl, .goto t, (hIx _).putObj _ iV (by omega) l3 rfl, l4, d4⟩⟩
    | panic ch => exact hp.elim
    | outgrown => exact hp.elim
  · rintro e V ⟨⟨v, rfl⟩, ⟨iV, hl, hk⟩ | ⟨pre, c, iV, hl, hk⟩⟩
    · have r := run_endLoop (P := P) hl (by rw [hrec]; simp)
      rw [hrec] at r
      exact ⟨none, _, r, hdone B _ (Nat.le_refl _) (hI.putObj _ iV (by omega) hl rfl) ((World.putObj_heap_other (by omega)).trans hk)⟩
    · have r := run_endLoop (P := P) hl (by rw [hrec]; simp)
      rw [hrec] at r
      exact ⟨some c, _, r, hstop B c pre _ (Nat.le_refl _) ((hIx c).putObj _ iV (by omega) hl rfl) ((World.putObj_heap_other (by omega)).trans hk)⟩
end Go.Proofs.YtkgdcgmbapchcaaGreatDoor.rg
namespace Go.Proofs.YtkgdcgmbapchcaaGreatDoor.pg
open Go.ChangeShapes Go.WideShapes Go.ChangeAt Go.RowKit gen calls cls li
set_option linter.unusedVariables false
def Tab (w : World) (g r : Nat) (xs : List Int) : Prop :=
  ∃ zs : List Value, w.heap[g]? = some (.cells #[.slice (some ⟨r, 0, none⟩) xs.length (xs.length + zs.length)] 250 (0, 0)) ∧ w.heap[r]? = some (.cells (ints xs ++ zs).toArray 3 (0, 0)) ∧ xs.length ≤ 64 ∧ xs.length + zs.length ≤ maxLen
theorem lt_of_heap {w : World} {g : Nat} {o : Obj} (h : w.heap[g]? = some o) : g < w.heap.size := (Array.getElem?_eq_some_iff.1 h).1
section
variable {w : World} {g r : Nat} {xs : List Int}
theorem Tab.le (h : Tab w g r xs) : xs.length ≤ 64 := by obtain ⟨zs, _, _, h3, _⟩ := h; exact h3
theorem Tab.lt (h : Tab w g r xs) : g < w.heap.size ∧ r < w.heap.size := by obtain ⟨zs, h1, h2, _⟩ := h; exact ⟨lt_of_heap h1, lt_of_heap h2⟩
theorem Tab.ne (h : Tab w g r xs) : g ≠ r := by
  obtain ⟨zs, h1, h2, _⟩ := h
  rintro rfl
  have := h1.symm.trans h2
  simp at this
theorem Tab.kept {w' : World} {row : Option Nat} (h : Tab w g r xs) (hg : w.grownBy w' row) (h1 : some g ≠ row) (h2 : some r ≠ row) : Tab w' g r xs := by
  have hl := h.lt
  obtain ⟨zs, a, b, c⟩ := h
  exact ⟨zs, (hg.block g hl.1 h1).trans a, (hg.block r hl.2 h2).trans b, c⟩
theorem Tab.drewN (h : Tab w g r xs) (n : Nat) : Tab (w.drewN n) g r xs := h
theorem Tab.field (h : Tab w g r xs) : ∃ c, xs.length ≤ c ∧ c ≤ maxLen ∧ w.cell? ⟨g, 0, none⟩ = some (.slice (some ⟨r, 0, none⟩) xs.length c) := by
  obtain ⟨zs, a, b, c, d⟩ := h
  exact ⟨_, by omega, d, by rw [cell_of_row w g 0 _ _ _ a]; rfl⟩
theorem Tab.word (h : Tab w g r xs) {k : Nat} (hk : k < xs.length) : w.cell? ⟨r, k, none⟩ = some (.int .i64 (xs.getD k 0)) := by
  obtain ⟨zs, a, b, c, d⟩ := h
  rw [cell_of_row w r k _ _ _ b]
  simp [ints, hk, List.getElem?_append]
theorem Tab.free (h : Tab w g r xs) (k : Nat) : w.frozen? ⟨r, k, none⟩ = false := by
  obtain ⟨zs, a, b, _⟩ := h
  exact frozen_of_row w r k _ _ b
theorem Tab.set (h : Tab w g r xs) {k : Nat} (hk : k < xs.length) (v : Int) : Tab (w.setCell ⟨r, k, none⟩ (.int .i64 v)) g r (xs.set k v) ∧ w.grownBy (w.setCell ⟨r, k, none⟩ (.int .i64 v)) (some r) := by
  have hne := h.ne
  obtain ⟨zs, a, b, c, d⟩ := h
  refine ⟨⟨zs, ?_, ?_, by simpa using c, by simpa using d⟩, ⟨rfl, rfl, rfl, by simp, fun i _ hi => heap_setCell_other w ⟨r, k, none⟩ i _ (fun e => hi (by simp [e]))⟩⟩
  · rw [heap_setCell_other w ⟨r, k, none⟩ g _ hne, a]; simp
  · rw [heap_setCell_same w r k _ _ _ b]
    simp [ints, List.map_set, hk]
end
def Nobody (w : World) (p : Option Addr) : Prop := p = none ∨ ∃ g, p = some ⟨g, 0, none⟩ ∧ w.cell? ⟨g, 0, none⟩ = some (.slice none 0 0)
theorem pages_some (g : Nat) (v : Value) (w : World) (h : w.cell? ⟨g, 0, none⟩ = some v) :
    Calls Tryz.prog 276 #[.pointer (some ⟨g, 0, none⟩)] w fun e w' => e = .returned v ∧ w = w' := by
  go_enter Tryz.func276, Tryz.ntmps276
  go_wp2
  go_ret
  exact ⟨rfl, rfl⟩
theorem pages_nil (w : World) : Calls Tryz.prog 276 #[.pointer none] w fun e w' => e = .returned (.slice none 0 0) ∧ w = w' := by
  go_enter Tryz.func276, Tryz.ntmps276
  go_wp2
  go_ret
  exact ⟨rfl, rfl⟩
theorem pages_nobody {p : Option Addr} {w : World} (h : Nobody w p) : Calls Tryz.prog 276 #[.pointer p] w fun e w' => e = .returned (.slice none 0 0) ∧ w = w' := by
  rcases h with rfl | ⟨g, rfl, h⟩
  · exact pages_nil w
  · exact pages_some g _ w h
theorem Kind_any {g r : Nat} {xs : List Int} {w : World} (h : Tab w g r xs) (p : Int) :
    Calls Tryz.prog 230 #[.pointer (some ⟨g, 0, none⟩), .int .i64 p] w fun e w' => e = .returned (.int .i64 (kind xs p)) ∧ w = w' := by
  have hl := h.le
  obtain ⟨c, hc1, hc2, f⟩ := h.field
  have HP := Lib.hid (pages_some g _ w f)
  by_cases hp : 0 ≤ p ∧ p < xs.length
  · obtain ⟨k, rfl⟩ : ∃ k : Nat, p = k := ⟨p.toNat, by omega⟩
    have hk : k < xs.length := by omega
    have d := h.word hk
    rw [kind_in hk]
    have l1 : ¬ ((k : Int) < 0) := by omega
    have l2 : ¬ ((xs.length : Int) ≤ (k : Int)) := by omega
    generalize xs.length = n at *
    generalize xs.getD k 0 = x at *
    clear h hp f
    go_enter Tryz.func230, Tryz.ntmps230
    go_wp2_with (go_at_call 276; (with_reducible refine HP.out.mono ?_); rintro e w' ⟨rfl, rfl⟩)
    go_ret
    exact ⟨rfl, rfl⟩
  · rw [kind_out hp]
    generalize xs.length = n at *
    by_cases h1 : p < 0
    · clear h hp f
      go_enter Tryz.func230, Tryz.ntmps230
      go_wp2_with (go_at_call 276; (with_reducible refine HP.out.mono ?_); rintro e w' ⟨rfl, rfl⟩)
      go_ret
      exact ⟨rfl, rfl⟩
    · have h2 : (n : Int) ≤ p := by omega
      clear h hp f
      go_enter Tryz.func230, Tryz.ntmps230
      go_wp2_with (go_at_call 276; (with_reducible refine HP.out.mono ?_); rintro e w' ⟨rfl, rfl⟩)
      go_ret
      exact ⟨rfl, rfl⟩
theorem cl_pos {k : Int} (h : 1 ≤ k ∧ k ≤ 4) : 0 < cl k := by
  have : k = 1 ∨ k = 2 ∨ k = 3 ∨ k = 4 := by omega
  rcases this with rfl | rfl | rfl | rfl <;> decide
theorem small_any (k : Int) (w : World) (h : fits k = true) :
    Calls Tryz.prog 312 #[.int .i64 k] w fun e w' => e = .returned (.bool (decide (1 ≤ k ∧ k ≤ 4))) ∧ w = w' := by
  have H := Lib.hid h
  clear h
  by_cases hk : 1 ≤ k ∧ k ≤ 4
  · have h1 := cl_pos hk
    rw [decide_eq_true hk]
    clear hk
    go_enter Tryz.func312, Tryz.ntmps312
    go_wp2_with (go_at_call 223; (with_reducible refine (cells_any _ _ H.out).mono ?_); rintro e w' ⟨rfl, rfl⟩)
    go_ret
    exact ⟨rfl, rfl⟩
  · have h1 : cl k = 0 := cl_no (by omega)
    rw [decide_eq_false hk]
    clear hk
    go_enter Tryz.func312, Tryz.ntmps312
    go_wp2_with (go_at_call 223; (with_reducible refine (cells_any _ _ H.out).mono ?_); rintro e w' ⟨rfl, rfl⟩; rw [h1])
    go_ret
    exact ⟨rfl, rfl⟩
theorem small_yes {k : Int} (w : World) (h : 1 ≤ k ∧ k ≤ 4) : Calls Tryz.prog 312 #[.int .i64 k] w fun e w' => e = .returned (.bool true) ∧ w = w' := by
  have := small_any k w (by simp [fits]; omega)
  rwa [decide_eq_true h] at this
theorem small_no {k : Int} (w : World) (hf : fits k = true) (h : ¬ (1 ≤ k ∧ k ≤ 4)) : Calls Tryz.prog 312 #[.int .i64 k] w fun e w' => e = .returned (.bool false) ∧ w = w' := by
  have := small_any k w hf
  rwa [decide_eq_false h] at this
theorem Size_any {g r : Nat} {xs : List Int} {w : World} (h : Tab w g r xs) (hx : Ks xs) (p : Int) :
    Calls Tryz.prog 277 #[.pointer (some ⟨g, 0, none⟩), .int .i64 p] w fun e w' => e = .returned (.int .i64 (siz xs p)) ∧ w = w' := by
  have HK := Lib.hid (fun q => Kind_any h q)
  have hw := kind_wide hx p
  by_cases h1 : 1 ≤ kind xs p ∧ kind xs p ≤ 4
  · rw [siz_small h1]
    have H1 := Lib.hid (fun w => small_yes w h1)
    clear hw h1 h hx
    go_enter Tryz.func277, Tryz.ntmps277
    go_wp2_with (first
      | (go_at_call 230; (with_reducible refine (HK.out _).mono ?_); rintro e w' ⟨rfl, rfl⟩)
      | (go_at_call 312; (with_reducible refine (H1.out _).mono ?_); rintro e w' ⟨rfl, rfl⟩))
    go_ret
    exact ⟨rfl, rfl⟩
  have H1 := Lib.hid (fun w => small_no w (by simp [fits]; omega) h1)
  by_cases h5 : kind xs p = 5
  · have hin := kind_there (xs := xs) (p := p) (by rw [h5]; decide)
    obtain ⟨q, rfl⟩ : ∃ q : Nat, p = q := ⟨p.toNat, by omega⟩
    have hl := h.le
    have l0 : q < 64 := by omega
    rw [siz_large h5]
    have HL := Lib.hid (fun j => lead_eq (k := 6) (xs := xs) (n := j) (p := q + 1) (by decide))
    have HF := Lib.hid (fun j (hj : j ≤ lead 6 (xs.drop (q + 1))) => show j ≤ 64 by have := lead_fits (k := 6) (xs := xs) (q + 1) (by omega); omega)
    have HI := Lib.hid (fun j (hj : kind xs ((q + 1 + j : Nat) : Int) ≠ -1) => show q + 1 + j < 64 by have := kind_there hj; omega)
    rw [h5] at H1
    have HG := Lib.hid h5
    generalize lead 6 (xs.drop (q + 1)) = m at *
    clear hw h1 h hx h5 hin hl
    go_enter Tryz.func277, Tryz.ntmps277
    go_wp2_with (first
      | (go_at_call 230; (with_reducible refine (HK.out _).mono ?_); rintro e w' ⟨rfl, rfl⟩; rw [HG.out])
      | (go_at_call 312; (with_reducible refine (H1.out _).mono ?_); rintro e w' ⟨rfl, rfl⟩))
    go_loopw [6] (fun n wr => ∃ j : Nat, j ≤ 64 ∧ n = .int .i64 ((j + 1 : Nat) : Int) ∧ (∀ i, i < j → kind xs ((q + 1 + i : Nat) : Int) = 6) ∧ wr = w) (fun n _ => 66 - (intOf n).toNat)
    case atStart => exact ⟨0, by omega, rfl, fun i hi => by omega, rfl⟩
    case round =>
      obtain ⟨j, hj, rfl, hi, hw⟩ := hrel
      subst hw
      have HJ := Lib.hid hi
      clear hi
      have e1 : ((q + 1 + j : Nat) : Int) = (q : Int) + ((j : Int) + 1) := by omega
      by_cases h6 : kind xs ((q : Int) + ((j : Int) + 1)) = 6
      · have hj2 : q + 1 + j < 64 := HI.out j (by rw [e1, h6]; decide)
        have H6 := Lib.hid h6
        have E1 := Lib.hid e1
        clear h6 e1
        go_wp2_with (go_at_call 230; (with_reducible refine (HK.out _).mono ?_); rintro e w' ⟨rfl, rfl⟩; rw [H6.out])
        go_roundw
        case rel => exact ⟨j + 1, by omega, by go_num, fun i hi => by
          rcases Nat.lt_or_ge i j with c | c
          · exact HJ.out i c
          · obtain rfl : i = j := by omega
            rw [E1.out]
            exact H6.out, trivial⟩
        case measure => simp [intOf]; omega
      · have b6 : (kind xs ((q : Int) + ((j : Int) + 1)) == 6) = false := by simpa using h6
        have HE := Lib.hid (HL.out j HJ.out (by rw [e1]; exact h6))
        clear h6 e1
        go_wp2_with (go_at_call 230; (with_reducible refine (HK.out _).mono ?_); rintro e w' ⟨rfl, rfl⟩)
        go_ret
        exact ⟨by rw [HE.out]; exact ret1 (by omega), rfl⟩
  · have b5 : (kind xs p != 5) = true := by simpa using h5
    rw [siz_none h1 h5]
    clear hw h1 h hx h5
    go_enter Tryz.func277, Tryz.ntmps277
    go_wp2_with (first
      | (go_at_call 230; (with_reducible refine (HK.out _).mono ?_); rintro e w' ⟨rfl, rfl⟩)
      | (go_at_call 312; (with_reducible refine (H1.out _).mono ?_); rintro e w' ⟨rfl, rfl⟩))
    go_ret
    exact ⟨rfl, rfl⟩
end Go.Proofs.YtkgdcgmbapchcaaGreatDoor.pg
namespace Go.Proofs.YtkgdcgmbapchcaaGreatDoor.pg
open Go.ChangeShapes Go.WideShapes Go.ChangeAt Go.RowKit gen calls cls li
set_option linter.unusedVariables false
theorem First_any {g r : Nat} {xs : List Int} {w : World} (h : Tab w g r xs) (hx : Ks xs) (p : Int) :
    Calls Tryz.prog 278 #[.pointer (some ⟨g, 0, none⟩), .int .i64 p] w fun e w' => e = .returned (.int .i64 (frs xs p)) ∧ w = w' := by
  have HK := Lib.hid (fun q => Kind_any h q)
  have HS := Lib.hid (fun q => Size_any h hx q)
  have HT := Lib.hid (fun q (hq : kind xs q = 6) => show 0 ≤ q ∧ q < 64 by have := kind_there (xs := xs) (p := q) (by rw [hq]; decide); have := h.le; omega)
  clear h hx
  go_enter Tryz.func278, Tryz.ntmps278
  go_wp2
  go_loopw [1] (fun n wr => ∃ q : Int, n = .int .i64 q ∧ lowI xs q = lowI xs p ∧ wr = w) (fun n _ => (intOf n + 1).toNat)
  case atStart => exact ⟨p, rfl, rfl, rfl⟩
  case round =>
    obtain ⟨q, rfl, hq, hw⟩ := hrel
    subst hw
    have HQ := Lib.hid hq
    clear hq
    by_cases h6 : kind xs q = 6
    · obtain ⟨q0, q1⟩ := HT.out q h6
      have HL := Lib.hid (lowI_step h6)
      have H6 := Lib.hid h6
      clear h6
      go_wp2_with (go_at_call 230; (with_reducible refine (HK.out _).mono ?_); rintro e w' ⟨rfl, rfl⟩; rw [H6.out])
      go_roundw
      case rel => exact ⟨q - 1, by go_num, by rw [← HL.out]; exact HQ.out, trivial⟩
      case measure => simp [intOf]; omega
    · have b6 : (kind xs q == 6) = false := by simpa using h6
      have HE := Lib.hid (show q = lowI xs p by rw [← HQ.out, lowI_stop h6])
      clear h6
      by_cases hz : siz xs q = 0
      · have HF := Lib.hid (show frs xs p = -1 by unfold frs; rw [← HE.out, if_pos hz])
        have HZ := Lib.hid hz
        clear hz
        go_wp2_with (first
          | (go_at_call 230; (with_reducible refine (HK.out _).mono ?_); rintro e w' ⟨rfl, rfl⟩)
          | (go_at_call 277; (with_reducible refine (HS.out _).mono ?_); rintro e w' ⟨rfl, rfl⟩; rw [HZ.out]))
        go_ret
        exact ⟨by rw [HF.out]; rfl, rfl⟩
      · have HF := Lib.hid (show frs xs p = q by unfold frs; rw [← HE.out, if_neg hz])
        have bz : (siz xs q == 0) = false := by simpa using hz
        clear hz
        go_wp2_with (first
          | (go_at_call 230; (with_reducible refine (HK.out _).mono ?_); rintro e w' ⟨rfl, rfl⟩)
          | (go_at_call 277; (with_reducible refine (HS.out _).mono ?_); rintro e w' ⟨rfl, rfl⟩))
        go_ret
        exact ⟨by rw [HF.out]; rfl, rfl⟩
def near (n a b : Int) : Int := if n < a then a else if b < n then b else n
theorem Clamp_any (n a b : Int) (w : World) : Calls Tryz.prog 104 #[.int .i64 n, .int .i64 a, .int .i64 b] w fun e w' => e = .returned (.int .i64 (near n a b)) ∧ w = w' := by
  by_cases h : n < a
  · go_enter Tryz.func104, Tryz.ntmps104
    go_wp2
    go_ret
    exact ⟨by simp [near, h], rfl⟩
  by_cases h2 : b < n
  all_goals
    go_enter Tryz.func104, Tryz.ntmps104
    go_wp2
    go_ret
    exact ⟨ret1 (by unfold near; repeat' split
                    all_goals omega), rfl⟩
theorem make_ints (n : Nat) (hn : n ≤ 64) (w : World) :
    (Instr.makeSlice 41 (.int .i64 (n : Int)) (.int .i64 (n : Int))).run Tryz.prog w = .ok (.slice (some ⟨w.heap.size, 0, none⟩) n n) (w.alloc (.cells (ints (List.replicate n 0)).toArray 3)) := by
  obtain ⟨i0, hi, hz0, hz1, hz2⟩ := info_parts info_int
  have h := run_make (P := Tryz.prog) w 41 3 i0 _ Tryz.underlying41 hi hz0 .i64 .i64 n n (by omega) (Int.le_refl _) (by rw [hz2]; omega) (by omega)
  rw [h]
  simp only [Int.toNat_natCast, hz1, Nat.mul_one]
  have e : madeCells (Value.cells (.int .i64 0)) n = (ints (List.replicate n 0)).toArray := by
    apply Array.ext'
    rw [show Value.cells (.int .i64 0) = #[.int .i64 0] from rfl, toList_madeCells_one]
    simp [ints]
  rw [e]
def NewAns (xs : List Int) (w : World) (e : Ending) (w' : World) : Prop := ∃ g r, e = .returned (.pointer (some ⟨g, 0, none⟩)) ∧ Tab w' g r xs ∧ w.heap.size ≤ g ∧ w.heap.size ≤ r ∧ w.grownBy w' none
theorem New_any (n : Int) (k : Nat) (hk : near n 0 64 = k) (w : World) :
    Calls Tryz.prog 239 #[.int .i64 n] w (NewAns (List.replicate k 0) w) := by
  have h2 : k ≤ 64 := by unfold near at hk; repeat' split at hk
                         all_goals omega
  have HK := Lib.hid hk
  have mk := make_ints k h2
  clear hk
  obtain ⟨cs, hcs⟩ : ∃ cs, cs = (ints (List.replicate k 0)).toArray := ⟨_, rfl⟩
  rw [← hcs] at mk
  have HC := Lib.hid hcs
  clear hcs
  go_enter Tryz.func239, Tryz.ntmps239
  go_wp2_with (go_at_call 104; (with_reducible refine (Clamp_any _ _ _ _).mono ?_); rintro e w' ⟨rfl, rfl⟩; rw [HK.out])
  go_ret
  have hs : (w.alloc (.cells cs 3)).heap.size = w.heap.size + 1 := by simp
  refine ⟨_, w.heap.size, rfl, ⟨[], ?_, ?_, by simpa using h2, by simp [maxLen]; omega⟩, by omega, Nat.le_refl _, (World.grownBy_alloc _ _ _).trans (World.grownBy_alloc _ _ _)⟩
  · rw [← hs, heap_alloc_new]
    simp
  · rw [Below.heap_alloc _ _ _ (by omega), heap_alloc_new, HC.out, List.append_nil]
def over (L : List Value) (o : Nat) : List Value → List Value
  | [] => L
  | v :: vs => over (L.set o v) (o + 1) vs
theorem over_heap {g : Nat} {t : TypeId} : ∀ (vs : List Value) (o : Nat) (w : World) (L : List Value), w.heap[g]? = some (.cells L.toArray t (0, 0)) →
    (w.setCells g o vs).heap[g]? = some (.cells (over L o vs).toArray t (0, 0)) ∧ w.grownBy (w.setCells g o vs) (some g)
  | [], _, w, L, h => ⟨h, grown_refl _ _⟩
  | v :: vs, o, w, L, h => by
    have h1 := heap_setCell_same w g o _ _ v h
    rw [show (L.toArray.setIfInBounds o v) = (L.set o v).toArray by simp] at h1
    obtain ⟨i1, i2⟩ := over_heap vs (o + 1) _ _ h1
    have g1 : w.grownBy (w.setCell ⟨g, o, none⟩ v) (some g) := ⟨rfl, rfl, rfl, by simp, fun i _ hi => heap_setCell_other w ⟨g, o, none⟩ i _ (fun e => hi (by simp [e]))⟩
    exact ⟨i1, g1.trans i2⟩
theorem fillN_next (xs : List Int) (a : Nat) (v : Int) (k : Nat) : fillN (xs.set a v) (a + 1) v k = fillN xs a v (k + 1) := by
  induction k with
  | zero => rfl
  | succ k ih =>
    rw [fillN, ih, fillN, fillN]
    rw [show a + 1 + k = a + (k + 1) by omega]
    rfl
theorem over_ints (zs : List Value) (v : Int) : ∀ (k : Nat) (xs : List Int) (o : Nat), o + k ≤ xs.length → over (ints xs ++ zs) o (List.replicate k (.int .i64 v)) = ints (fillN xs o v k) ++ zs
  | 0, xs, o, _ => rfl
  | k + 1, xs, o, h => by
    rw [List.replicate_succ, over]
    have e : (ints xs ++ zs).set o (.int .i64 v) = ints (xs.set o v) ++ zs := by
      rw [List.set_append_left _ _ (by simp [ints]; omega)]
      simp [ints, List.map_set]
    rw [e, over_ints zs v k _ (o + 1) (by simp; omega), fillN_next]
theorem zero_int : ∀ w, (zeroValue 3).run Tryz.prog w = .ok (.int .i64 0) w := fun w => by kernel_rfl
theorem Free_any {g r : Nat} {xs : List Int} {w : World} (h : Tab w g r xs) (hx : Ks xs) (p : Int) :
    Calls Tryz.prog 232 #[.pointer (some ⟨g, 0, none⟩), .int .i64 p] w fun e w' => e = .returned (.int .i64 (siz xs p)) ∧ Tab w' g r (fillN xs p.toNat 0 (siz xs p).toNat) ∧ w.grownBy w' (some r) := by
  have HS := Lib.hid (Size_any h hx p)
  have sw := siz_wide xs p
  by_cases h0 : siz xs p = 0
  · rw [h0]
    rw [h0] at HS
    have H := Lib.hid h
    clear h hx sw h0
    go_enter Tryz.func232, Tryz.ntmps232
    go_wp2_with (go_at_call 277; (with_reducible refine HS.out.mono ?_); rintro e w' ⟨rfl, rfl⟩)
    go_ret
    exact ⟨rfl, H.out, grown_refl _ _⟩
  · obtain ⟨p0, p1⟩ := siz_in h0
    obtain ⟨a, rfl⟩ : ∃ a : Nat, p = a := ⟨p.toNat, by omega⟩
    obtain ⟨m, hm⟩ : ∃ m : Nat, siz xs (a : Int) = m := ⟨(siz xs (a : Int)).toNat, by omega⟩
    rw [hm] at HS p1 h0 ⊢
    simp only [Int.toNat_natCast]
    have hl := h.le
    have HN := Lib.hid h.ne
    have H := Lib.hid h
    obtain ⟨zs, b1, b2, b3, b4⟩ := h
    have hcl : ∀ ty, (Builtin.clear_ #[41] ty #[.slice (some ⟨r, a, none⟩) m (xs.length + zs.length - a)]).run Tryz.prog w = .ok (.tuple #[]) (w.setCells r a (List.replicate m (.int .i64 0))) :=
      fun ty => Lib.run_clear_slice w _ _ ty _ Tryz.underlying41 zero_int rfl rfl r a m _ (by omega) (fun j hj => by rw [H.out.word (k := a + j) (by omega)]; rfl) (fun j hj => H.out.free _)
    have hov := over_heap (List.replicate m (.int .i64 0)) a w _ b2
    rw [over_ints _ _ _ _ _ (by omega)] at hov
    have HO := Lib.hid hov
    have HC := Lib.hid (show xs.length + zs.length ≤ maxLen from b4)
    have HG := Lib.hid b1
    have f : w.cell? ⟨g, 0, none⟩ = some (.slice (some ⟨r, 0, none⟩) xs.length (xs.length + zs.length)) := by rw [cell_of_row w g 0 _ _ _ b1]; rfl
    have HL := Lib.hid hl
    have l1 : a + m ≤ xs.length := by omega
    have l2 : xs.length ≤ 64 := hl
    have l3 : xs.length + zs.length ≤ 9223372036854775807 := by unfold maxLen at b4; omega
    generalize w.setCells r a (List.replicate m (.int .i64 0)) = w2 at hcl HO
    clear hov b1 b2 b3 b4 hl hx sw
    generalize hc : xs.length + zs.length = c at *
    generalize hn : xs.length = n at *
    have l4 : n ≤ c := by omega
    have l5 : 0 < m := by omega
    go_enter Tryz.func232, Tryz.ntmps232
    go_wp2_with (go_at_call 277; (with_reducible refine HS.out.mono ?_); rintro e w' ⟨rfl, rfl⟩)
    go_ret
    refine ⟨rfl, ⟨zs, ?_, HO.out.1, by rw [fillN_length, hn]; exact l2, by rw [fillN_length, hn, hc]; exact HC.out⟩, HO.out.2⟩
    rw [HO.out.2.block g (lt_of_heap HG.out) (by simpa using HN.out), HG.out, fillN_length, hn, hc]
end Go.Proofs.YtkgdcgmbapchcaaGreatDoor.pg
