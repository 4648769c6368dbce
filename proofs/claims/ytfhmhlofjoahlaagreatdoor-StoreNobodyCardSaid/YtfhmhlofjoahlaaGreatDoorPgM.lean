/- What pages are for, as plain lists of kinds: runs of free pages, what begins where, what is taken and freed. -/
import Derived.WalkKit
namespace Go.Proofs.YtfhmhlofjoahlaaGreatDoor.pg
set_option linter.unusedVariables false

/-- How many of the first numbers are k. -/
def lead (k : Int) : List Int → Nat
  | [] => 0
  | x :: l => if x = k then lead k l + 1 else 0
/-- What page p is for. -/
def kind (xs : List Int) (p : Int) : Int := if 0 ≤ p ∧ p < xs.length then xs.getD p.toNat 0 else -1
theorem kind_in {xs : List Int} {p : Nat} (h : p < xs.length) : kind xs (p : Int) = xs.getD p 0 := by
  unfold kind; rw [if_pos (by omega)]; rfl
theorem kind_out {xs : List Int} {p : Int} (h : ¬ (0 ≤ p ∧ p < xs.length)) : kind xs p = -1 := by unfold kind; rw [if_neg h]
theorem kind_there {xs : List Int} {p : Int} (h : kind xs p ≠ -1) : 0 ≤ p ∧ p < xs.length := by
  by_cases c : 0 ≤ p ∧ p < xs.length
  · exact c
  · exact absurd (kind_out c) h
theorem lead_le (k : Int) (l : List Int) : lead k l ≤ l.length := by
  induction l with
  | nil => simp [lead]
  | cons x l ih => unfold lead; split <;> simp; omega
theorem drop_at {xs : List Int} {p : Nat} (h : p < xs.length) : xs.drop p = xs.getD p 0 :: xs.drop (p + 1) := by
  rw [List.drop_eq_getElem_cons h]
  simp [h]
theorem lead_eq {k : Int} (hk : k ≠ -1) {xs : List Int} : ∀ {n p : Nat}, (∀ i, i < n → kind xs ((p + i : Nat) : Int) = k) → kind xs ((p + n : Nat) : Int) ≠ k → lead k (xs.drop p) = n
  | 0, p, _, hn => by
    by_cases h : p < xs.length
    · rw [drop_at h, lead, if_neg]
      rw [← kind_in h]; exact hn
    · rw [List.drop_of_length_le (by omega)]; rfl
  | n + 1, p, h, hn => by
    have h0 := h 0 (by omega)
    rw [Nat.add_zero] at h0
    have hp : p < xs.length := by have := kind_there (xs := xs) (p := (p : Int)) (by rw [h0]; exact hk); omega
    rw [drop_at hp, lead, if_pos (by rw [← kind_in hp]; exact h0)]
    rw [lead_eq hk (n := n) (p := p + 1) (fun i hi => by have := h (i + 1) (by omega); rwa [show p + 1 + i = p + (i + 1) by omega]) (by rwa [show p + 1 + n = p + (n + 1) by omega])]
theorem lead_is {k : Int} (hk : k ≠ -1) {xs : List Int} {p : Nat} : (∀ i, i < lead k (xs.drop p) → kind xs ((p + i : Nat) : Int) = k) ∧ kind xs ((p + lead k (xs.drop p) : Nat) : Int) ≠ k := by
  generalize hm : xs.length - p = m
  induction m generalizing p with
  | zero =>
    have e : xs.drop p = [] := List.drop_of_length_le (by omega)
    rw [e]
    exact ⟨fun i hi => by simp [lead] at hi, by rw [kind_out (by simp [lead]; omega)]; exact fun h => hk h.symm⟩
  | succ m ih =>
    have hp : p < xs.length := by omega
    obtain ⟨i1, i2⟩ := ih (p := p + 1) (by omega)
    rw [drop_at hp]
    by_cases h : xs.getD p 0 = k
    · rw [lead, if_pos h]
      refine ⟨fun i hi => ?_, ?_⟩
      · cases i with
        | zero => rw [Nat.add_zero, kind_in hp]; exact h
        | succ i => have := i1 i (by omega); rwa [show p + (i + 1) = p + 1 + i by omega]
      · rwa [show p + (lead k (xs.drop (p + 1)) + 1) = p + 1 + lead k (xs.drop (p + 1)) by omega]
    · rw [lead, if_neg h]
      exact ⟨fun i hi => by omega, by rw [Nat.add_zero, kind_in hp]; exact h⟩
theorem lead_fits {k : Int} {xs : List Int} (p : Nat) : p ≤ xs.length → p + lead k (xs.drop p) ≤ xs.length := by
  have := lead_le k (xs.drop p)
  rw [List.length_drop] at this
  omega

/-! ### Runs of free pages -/
/-- The runs of free pages, the lowest ones first: the first page, and how many. -/
def runs (off : Nat) (l : List Int) : List (Int × Int) :=
  if h : l = [] then [] else
  (if 0 < lead 0 l then [((off : Int), (lead 0 l : Int))] else []) ++ runs (off + lead 0 l + 1) (l.drop (lead 0 l + 1))
termination_by l.length
decreasing_by
  have : l.length ≠ 0 := fun e => h (List.eq_nil_of_length_eq_zero e)
  rw [List.length_drop]; omega
theorem runs_nil (off : Nat) : runs off [] = [] := by rw [runs]; simp
theorem runs_yes {off : Nat} {l : List Int} (h : 0 < lead 0 l) : runs off l = ((off : Int), (lead 0 l : Int)) :: runs (off + lead 0 l + 1) (l.drop (lead 0 l + 1)) := by
  rw [runs, dif_neg (fun e => by subst e; simp [lead] at h), if_pos h]; rfl
theorem runs_no {off : Nat} {l : List Int} (h : lead 0 l = 0) : runs off l = runs (off + 1) (l.drop 1) := by
  by_cases e : l = []
  · subst e; rw [runs_nil, List.drop_nil, runs_nil]
  · rw [runs, dif_neg e, if_neg (by omega), h]; rfl
/-- The lowest place where n free ones follow one another. -/
def find (n : Int) (off : Nat) : List Int → Option Nat
  | [] => none
  | x :: l => if n ≤ lead 0 (x :: l) then some off else find n (off + 1) l
def longest : List Int → Nat
  | [] => 0
  | x :: l => max (lead 0 (x :: l)) (longest l)
def zeros : List Int → Nat
  | [] => 0
  | x :: l => (if x = 0 then 1 else 0) + zeros l
theorem find_step {n : Int} (hn : 1 ≤ n) : ∀ (l : List Int) (off : Nat), find n off l = if n ≤ lead 0 l then some off else find n (off + lead 0 l + 1) (l.drop (lead 0 l + 1))
  | [], off => by simp [find, lead]; omega
  | x :: l, off => by
    by_cases hx : x = 0
    · subst hx
      have e : lead 0 (0 :: l) = lead 0 l + 1 := by rw [lead, if_pos rfl]
      rw [find, e]
      by_cases h : n ≤ ((lead 0 l + 1 : Nat) : Int)
      · rw [if_pos h, if_pos h]
      · rw [if_neg h, if_neg h, find_step hn l (off + 1), if_neg (by omega), List.drop_succ_cons, show off + (lead 0 l + 1) + 1 = off + 1 + lead 0 l + 1 by omega]
    · have e : lead 0 (x :: l) = 0 := by rw [lead, if_neg hx]
      rw [find, e, if_neg (by omega), if_neg (by omega)]
      simp
theorem longest_step : ∀ l : List Int, longest l = max (lead 0 l) (longest (l.drop (lead 0 l + 1)))
  | [] => by simp [longest, lead]
  | x :: l => by
    have ih := longest_step l
    by_cases hx : x = 0
    · subst hx
      have e : lead 0 (0 :: l) = lead 0 l + 1 := by rw [lead, if_pos rfl]
      rw [longest, e, List.drop_succ_cons, ih]
      omega
    · have e : lead 0 (x :: l) = 0 := by rw [lead, if_neg hx]
      rw [longest, e]
      simp
theorem zeros_step : ∀ l : List Int, zeros l = lead 0 l + zeros (l.drop (lead 0 l + 1))
  | [] => by simp [zeros, lead]
  | x :: l => by
    have ih := zeros_step l
    by_cases hx : x = 0
    · subst hx
      have e : lead 0 (0 :: l) = lead 0 l + 1 := by rw [lead, if_pos rfl]
      rw [zeros, e, List.drop_succ_cons, if_pos rfl]
      omega
    · have e : lead 0 (x :: l) = 0 := by rw [lead, if_neg hx]
      rw [zeros, e, if_neg hx]
      simp
/-- The most that follow one another, and all of them together, as a loop over the runs tells them. -/
def most (rs : List (Int × Int)) : Int := rs.foldl (fun a x => max a x.2) 0
def total (rs : List (Int × Int)) : Int := rs.foldl (fun a x => a + x.2) 0
theorem most_snoc (rs : List (Int × Int)) (x : Int × Int) : most (rs ++ [x]) = max (most rs) x.2 := by simp [most]
theorem total_snoc (rs : List (Int × Int)) (x : Int × Int) : total (rs ++ [x]) = total rs + x.2 := by simp [total]
theorem most_from (rs : List (Int × Int)) : ∀ a : Int, 0 ≤ a → rs.foldl (fun a x => max a x.2) a = max a (most rs) := by
  induction rs with
  | nil => intro a ha; simp [most]; omega
  | cons x rs ih =>
    intro a ha
    have := ih (max 0 x.2) (by omega)
    simp only [most, List.foldl_cons] at this ⊢
    rw [ih _ (by omega), this]
    simp only [most]
    omega
theorem total_from (rs : List (Int × Int)) : ∀ a : Int, rs.foldl (fun a x => a + x.2) a = a + total rs := by
  induction rs with
  | nil => intro a; simp [total]
  | cons x rs ih =>
    intro a
    have := ih (0 + x.2)
    simp only [total, List.foldl_cons] at this ⊢
    rw [ih _, this]
    simp only [total]
    omega
theorem most_cons (x : Int × Int) (rs : List (Int × Int)) (h : 0 ≤ x.2) : most (x :: rs) = max x.2 (most rs) := by
  have := most_from rs (max 0 x.2) (by omega)
  simp only [most, List.foldl_cons] at this ⊢
  rw [this]
  omega
theorem total_cons (x : Int × Int) (rs : List (Int × Int)) : total (x :: rs) = x.2 + total rs := by
  have := total_from rs (0 + x.2)
  simp only [total, List.foldl_cons] at this ⊢
  omega
/-- By induction on how many there are: what is true of the rest behind a run is true of all. -/
theorem by_runs {p : List Int → Prop} (h0 : p []) (h1 : ∀ l, l ≠ [] → p (l.drop (lead 0 l + 1)) → p l) (l : List Int) : p l := by
  generalize hn : l.length = n
  induction n using Nat.strongRecOn generalizing l with
  | ind n ih =>
    by_cases e : l = []
    · subst e; exact h0
    · have hl : l.length ≠ 0 := fun h => e (List.eq_nil_of_length_eq_zero h)
      exact h1 l e (ih (l.drop (lead 0 l + 1)).length (by rw [List.length_drop]; omega) _ rfl)
theorem runs_most (l : List Int) : ∀ off, most (runs off l) = longest l := by
  refine by_runs (p := fun l => ∀ off, most (runs off l) = longest l) (fun off => by rw [runs_nil]; rfl) (fun l hl ih off => ?_) l
  rw [longest_step l]
  by_cases h : 0 < lead 0 l
  · rw [runs_yes h, most_cons _ _ (by simp), ih]
    omega
  · have h : lead 0 l = 0 := by omega
    rw [runs_no h]
    rw [h] at ih ⊢
    rw [ih]; simp
theorem runs_total (l : List Int) : ∀ off, total (runs off l) = zeros l := by
  refine by_runs (p := fun l => ∀ off, total (runs off l) = zeros l) (fun off => by rw [runs_nil]; rfl) (fun l hl ih off => ?_) l
  rw [zeros_step l]
  by_cases h : 0 < lead 0 l
  · rw [runs_yes h, total_cons, ih]
    omega
  · have h : lead 0 l = 0 := by omega
    rw [runs_no h]
    rw [h] at ih ⊢
    rw [ih]; simp
theorem runs_find {n : Int} (hn : 1 ≤ n) (l : List Int) : ∀ off, ((runs off l).find? (fun x => decide (n ≤ x.2))).map (·.1) = (find n off l).map (fun p : Nat => (p : Int)) := by
  refine by_runs (p := fun l => ∀ off, ((runs off l).find? (fun x => decide (n ≤ x.2))).map (·.1) = (find n off l).map (fun p : Nat => (p : Int))) (fun off => by rw [runs_nil]; rfl) (fun l hl ih off => ?_) l
  rw [find_step hn]
  by_cases h : 0 < lead 0 l
  · rw [runs_yes h, List.find?_cons]
    by_cases hh : n ≤ lead 0 l
    · simp [hh]
    · simp only [hh, decide_false, if_false]
      exact ih _
  · have h : lead 0 l = 0 := by omega
    rw [runs_no h, if_neg (by omega)]
    rw [h] at ih ⊢
    exact ih _
theorem find_none {n : Int} (hn : 1 ≤ n) {l : List Int} (h : ∀ x ∈ runs 0 l, x.2 < n) : find n 0 l = none := by
  have := runs_find hn l 0
  rw [List.find?_eq_none.2 (fun x hx => by have := h x hx; simp; omega)] at this
  cases e : find n 0 l with
  | none => rfl
  | some p => rw [e] at this; cases this
theorem find_some {n : Int} (hn : 1 ≤ n) {l : List Int} {pre post : List (Int × Int)} {x : Int × Int} (hr : runs 0 l = pre ++ x :: post) (h : ∀ y ∈ pre, y.2 < n) (hx : n ≤ x.2) : ∃ p : Nat, find n 0 l = some p ∧ x.1 = p := by
  have := runs_find hn l 0
  rw [hr, List.find?_append, List.find?_eq_none.2 (fun y hy => by have := h y hy; simp; omega)] at this
  cases e : find n 0 l with
  | none => rw [e] at this; simp [hx] at this
  | some p =>
    rw [e] at this
    simp [hx] at this
    exact ⟨p, rfl, this⟩
theorem find_is {n : Int} (hn : 1 ≤ n) : ∀ (l : List Int) (off p : Nat), find n off l = some p → off ≤ p ∧ p < off + l.length ∧ n ≤ lead 0 (l.drop (p - off))
  | [], off, p, h => by cases h
  | x :: l, off, p, h => by
    rw [find] at h
    by_cases c : n ≤ lead 0 (x :: l)
    · rw [if_pos c] at h
      injection h with h
      subst h
      refine ⟨Nat.le_refl _, by simp, ?_⟩
      rw [Nat.sub_self]; exact c
    · rw [if_neg c] at h
      obtain ⟨h1, h2, h3⟩ := find_is hn l (off + 1) p h
      refine ⟨by omega, by simp; omega, ?_⟩
      rw [show p - off = (p - (off + 1)) + 1 by omega, List.drop_succ_cons]
      exact h3
theorem find_at {n : Int} (hn : 1 ≤ n) {xs : List Int} {p : Nat} (h : find n 0 xs = some p) : p < xs.length ∧ n ≤ lead 0 (xs.drop p) ∧ (∀ i : Nat, (i : Int) < n → kind xs ((p + i : Nat) : Int) = 0) ∧ p + n ≤ xs.length := by
  obtain ⟨_, h2, h3⟩ := find_is hn xs 0 p h
  rw [Nat.sub_zero] at h3
  have := lead_fits (k := 0) (xs := xs) p (by omega)
  exact ⟨by omega, h3, fun i hi => (lead_is (k := 0) (by decide)).1 i (by omega), by omega⟩

/-! ### What begins where -/
/-- How many pages begin at p. -/
def siz (xs : List Int) (p : Int) : Int := if 1 ≤ kind xs p ∧ kind xs p ≤ 4 then 1 else if kind xs p = 5 then 1 + (lead 6 (xs.drop (p.toNat + 1)) : Nat) else 0
def low (xs : List Int) : Nat → Int
  | 0 => if kind xs 0 = 6 then -1 else 0
  | p + 1 => if kind xs ((p + 1 : Nat) : Int) = 6 then low xs p else ((p + 1 : Nat) : Int)
/-- The first page from p downwards that is no other one of a large object. -/
def lowI (xs : List Int) (p : Int) : Int := if kind xs p = 6 then low xs p.toNat else p
def frs (xs : List Int) (p : Int) : Int := if siz xs (lowI xs p) = 0 then -1 else lowI xs p
theorem lowI_stop {xs : List Int} {p : Int} (h : kind xs p ≠ 6) : lowI xs p = p := by unfold lowI; rw [if_neg h]
theorem low_eq (xs : List Int) (p : Nat) : low xs p = lowI xs p := by
  unfold lowI
  cases p with
  | zero =>
    show (if kind xs 0 = 6 then (-1 : Int) else 0) = if kind xs ((0 : Nat) : Int) = 6 then low xs 0 else ((0 : Nat) : Int)
    by_cases h : kind xs 0 = 6
    · rw [if_pos h, if_pos (by simpa using h)]; show (-1 : Int) = if kind xs 0 = 6 then -1 else 0; rw [if_pos h]
    · rw [if_neg h, if_neg (by simpa using h)]; rfl
  | succ p =>
    by_cases h : kind xs ((p + 1 : Nat) : Int) = 6
    · rw [if_pos h]; rfl
    · rw [if_neg h, low, if_neg h]
theorem lowI_step {xs : List Int} {p : Int} (h : kind xs p = 6) : lowI xs p = lowI xs (p - 1) := by
  have hp := kind_there (xs := xs) (p := p) (by rw [h]; decide)
  obtain ⟨q, rfl⟩ : ∃ q : Nat, p = q := ⟨p.toNat, by omega⟩
  cases q with
  | zero =>
    rw [show (((0 : Nat) : Int) - 1) = -1 by omega, lowI_stop (p := -1) (by rw [kind_out (by omega)]; decide)]
    unfold lowI
    rw [if_pos h]
    show (if kind xs 0 = 6 then (-1 : Int) else 0) = -1
    rw [if_pos (by simpa using h)]
  | succ q =>
    rw [show (((q + 1 : Nat) : Int) - 1) = (q : Nat) by omega, ← low_eq xs q]
    unfold lowI
    rw [if_pos h]
    show low xs (q + 1) = _
    rw [low, if_pos h]
theorem siz_wide (xs : List Int) (p : Int) : 0 ≤ siz xs p ∧ siz xs p ≤ xs.length := by
  have h3 : kind xs p ≠ -1 → 0 ≤ p ∧ p < xs.length := kind_there
  unfold siz
  split
  · have := h3 (by omega); omega
  · split
    · have := h3 (by omega)
      have := lead_fits (k := 6) (xs := xs) (p.toNat + 1) (by omega)
      omega
    · omega
theorem siz_in {xs : List Int} {p : Int} (h : siz xs p ≠ 0) : 0 ≤ p ∧ p + siz xs p ≤ xs.length := by
  have h3 : kind xs p ≠ -1 → 0 ≤ p ∧ p < xs.length := kind_there
  unfold siz at h ⊢
  split
  · have := h3 (by omega); omega
  · rename_i c
    rw [if_neg c] at h
    split
    · have := h3 (by omega)
      have := lead_fits (k := 6) (xs := xs) (p.toNat + 1) (by omega)
      omega
    · rename_i c2; rw [if_neg c2] at h; omega
theorem siz_small {xs : List Int} {p : Int} (h : 1 ≤ kind xs p ∧ kind xs p ≤ 4) : siz xs p = 1 := by unfold siz; rw [if_pos h]
theorem siz_none {xs : List Int} {p : Int} (h : ¬ (1 ≤ kind xs p ∧ kind xs p ≤ 4)) (h5 : kind xs p ≠ 5) : siz xs p = 0 := by unfold siz; rw [if_neg h, if_neg h5]
theorem siz_large {xs : List Int} {p : Nat} (h : kind xs (p : Int) = 5) : siz xs p = 1 + (lead 6 (xs.drop (p + 1)) : Nat) := by
  unfold siz; rw [if_neg (by omega), if_pos h]; rfl

/-! ### What is written -/
/-- n numbers from a on made v. -/
def fillN (xs : List Int) (a : Nat) (v : Int) : Nat → List Int
  | 0 => xs
  | k + 1 => (fillN xs a v k).set (a + k) v
theorem fillN_length (xs : List Int) (a : Nat) (v : Int) (k : Nat) : (fillN xs a v k).length = xs.length := by
  induction k with
  | zero => rfl
  | succ k ih => simp [fillN, ih]
theorem set_getD (xs : List Int) (a : Nat) (v : Int) (i : Nat) (h : a < xs.length) : (xs.set a v).getD i 0 = if i = a then v else xs.getD i 0 := by
  by_cases hi : i = a
  · subst hi
    rw [if_pos rfl, List.getD_eq_getElem?_getD, List.getElem?_set_self h]
    rfl
  · rw [if_neg hi, List.getD_eq_getElem?_getD, List.getElem?_set_ne (by omega), ← List.getD_eq_getElem?_getD]
theorem fillN_getD (xs : List Int) (a : Nat) (v : Int) (k : Nat) (h : a + k ≤ xs.length) (i : Nat) : (fillN xs a v k).getD i 0 = if a ≤ i ∧ i < a + k then v else xs.getD i 0 := by
  induction k with
  | zero => rw [if_neg (by omega)]; rfl
  | succ k ih =>
    rw [fillN, set_getD _ _ _ _ (by rw [fillN_length]; omega), ih (by omega)]
    by_cases hi : i = a + k
    · rw [if_pos hi, if_pos (by omega)]
    · rw [if_neg hi]
      by_cases c : a ≤ i ∧ i < a + k
      · rw [if_pos c, if_pos (by omega)]
      · rw [if_neg c, if_neg (by omega)]
theorem ext_getD {l m : List Int} (hl : l.length = m.length) (h : ∀ i, i < l.length → l.getD i 0 = m.getD i 0) : l = m := by
  apply List.ext_getElem hl
  intro i h1 h2
  have := h i h1
  simpa [h1, h2] using this
/-- A large object's n pages from a on. -/
def spanN (xs : List Int) (a n : Nat) : List Int := fillN (xs.set a 5) (a + 1) 6 (n - 1)
theorem spanN_length (xs : List Int) (a n : Nat) : (spanN xs a n).length = xs.length := by simp [spanN, fillN_length]
theorem spanN_getD (xs : List Int) (a n : Nat) (h1 : 1 ≤ n) (h : a + n ≤ xs.length) (i : Nat) : (spanN xs a n).getD i 0 = if i = a then 5 else if a < i ∧ i < a + n then 6 else xs.getD i 0 := by
  unfold spanN
  rw [fillN_getD _ _ _ _ (by simp; omega), set_getD _ _ _ _ (by omega)]
  repeat' split
  all_goals first | rfl | omega
/-- All are kinds. -/
def Ks (xs : List Int) : Prop := ∀ i, 0 ≤ xs.getD i 0 ∧ xs.getD i 0 ≤ 6
theorem kind_wide {xs : List Int} (h : Ks xs) (p : Int) : -1 ≤ kind xs p ∧ kind xs p ≤ 6 := by
  have := h p.toNat
  unfold kind; split <;> omega
theorem Ks.fill {xs : List Int} (h : Ks xs) (a : Nat) {v : Int} (hv : 0 ≤ v ∧ v ≤ 6) (k : Nat) (hk : a + k ≤ xs.length) : Ks (fillN xs a v k) := fun i => by
  rw [fillN_getD _ _ _ _ hk]
  have := h i
  split <;> omega
theorem Ks.set {xs : List Int} (h : Ks xs) (a : Nat) {v : Int} (hv : 0 ≤ v ∧ v ≤ 6) (ha : a < xs.length) : Ks (xs.set a v) := fun i => by
  rw [set_getD _ _ _ _ ha]
  have := h i
  split <;> omega
theorem Ks.span {xs : List Int} (h : Ks xs) (a n : Nat) (h1 : 1 ≤ n) (hn : a + n ≤ xs.length) : Ks (spanN xs a n) := fun i => by
  rw [spanN_getD _ _ _ h1 hn]
  have := h i
  repeat' split
  all_goals omega
theorem Ks.zero (n : Nat) : Ks (List.replicate n 0) := fun i => by
  rw [List.getD_eq_getElem?_getD, List.getElem?_replicate]
  split <;> simp
end Go.Proofs.YtfhmhlofjoahlaaGreatDoor.pg
