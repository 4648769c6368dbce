/- A cache as a plain list of whose pages are, and as a map: plain. -/
import Derived.Test.YtfhmhlofjoahlaaGreatDoorCaA
import Derived.Maps.OwnSet
namespace Go.Proofs.YtfhmhlofjoahlaaGreatDoor.ca
open Go.ChangeShapes Go.WideShapes Go.ChangeAt Go.RowKit Go.Maps calls cls
set_option linter.unusedVariables false
/-- A thread, a class, and the page that is its. -/
abbrev Ow := Int × Int × Int
def hit (t k : Int) (x : Ow) : Bool := x.1 == t && (k == 0 || x.2.1 == k)
def rest (m : List Ow) (t k : Int) : List Ow := m.filter fun x => !hit t k x
def gone (m : List Ow) (t k : Int) : List Int := (m.filter (hit t k)).map (·.2.2)
def owner (m : List Ow) (p : Int) : Int × Int := match m.find? (fun x => x.2.2 == p) with | some x => (x.1, x.2.1) | none => (-1, 0)
def page (m : List Ow) (t k : Int) : Int := match m.find? (fun x => x.1 == t && x.2.1 == k) with | some x => x.2.2 | none => -1
/-- A map tells a list. -/
structure Tells (D : DataW Unit) (m : List Ow) : Prop where
  has : ∀ t k, fits t = true → fits k = true → (Maps.has D (kl t k) = true ↔ ∃ p, (t, k, p) ∈ m)
  at_ : ∀ x ∈ m, ∀ zd, D.atKey (kl x.1 x.2.1) zd = .lit (.int .i64 x.2.2)
  size : Maps.size D = m.length
/-- No place twice, no page twice; each in its bounds. -/
structure Good (n : Nat) (m : List Ow) : Prop where
  keys : m.Pairwise (fun x y => ¬ (x.1 = y.1 ∧ x.2.1 = y.2.1))
  pages : m.Pairwise (fun x y => x.2.2 ≠ y.2.2)
  bnd : ∀ x ∈ m, (0 ≤ x.1 ∧ x.1 < n) ∧ (1 ≤ x.2.1 ∧ x.2.1 ≤ 4) ∧ 0 ≤ x.2.2 ∧ x.2.2 < 64
theorem Tells.nil : Tells (.map []) [] := ⟨fun t k _ _ => by simp [Maps.has], fun x hx => by simp at hx, rfl⟩
theorem Good.nil (n : Nat) : Good n [] := ⟨.nil, .nil, fun x hx => by simp at hx⟩
theorem Good.filter {n : Nat} {m : List Ow} (h : Good n m) (f : Ow → Bool) : Good n (m.filter f) := ⟨h.keys.filter _, h.pages.filter _, fun x hx => h.bnd x (List.mem_filter.1 hx).1⟩
theorem pair_eq {α : Type} {r : α → α → Prop} : ∀ {m : List α}, m.Pairwise r → ∀ {x y : α}, x ∈ m → y ∈ m → ¬ r x y → ¬ r y x → x = y
  | [], _, _, _, hx, _, _, _ => by simp at hx
  | a :: l, h, x, y, hx, hy, h1, h2 => by
    rw [List.pairwise_cons] at h
    rcases List.mem_cons.1 hx with ex | hx'
    · rcases List.mem_cons.1 hy with ey | hy'
      · rw [ex, ey]
      · rw [ex] at h1
        exact absurd (h.1 y hy') h1
    · rcases List.mem_cons.1 hy with ey | hy'
      · rw [ey] at h2
        exact absurd (h.1 x hx') h2
      · exact pair_eq h.2 hx' hy' h1 h2
theorem Good.one {n : Nat} {m : List Ow} (h : Good n m) {x y : Ow} (hx : x ∈ m) (hy : y ∈ m) (h1 : x.1 = y.1) (h2 : x.2.1 = y.2.1) : x = y :=
  pair_eq h.keys hx hy (fun e => e ⟨h1, h2⟩) (fun e => e ⟨h1.symm, h2.symm⟩)
theorem Good.one' {n : Nat} {m : List Ow} (h : Good n m) {x y : Ow} (hx : x ∈ m) (hy : y ∈ m) (h1 : x.2.2 = y.2.2) : x = y :=
  pair_eq h.pages hx hy (fun e => e h1) (fun e => e h1.symm)
theorem pigeon : ∀ (n : Nat) (l : List Int), l.Nodup → (∀ x ∈ l, 0 ≤ x ∧ x < n) → l.length ≤ n
  | 0, l, _, h => by
    cases l with
    | nil => simp
    | cons a l => have := h a (by simp); omega
  | n + 1, l, hd, h => by
    have h1 := pigeon n (l.erase (n : Int)) (hd.erase _) (fun x hx => by
      have h2 := (hd.mem_erase_iff).1 hx
      have := h x h2.2
      have h3 := h2.1
      omega)
    have := List.length_erase (a := (n : Int)) (l := l)
    split at this <;> omega
theorem Good.few {n : Nat} {m : List Ow} (h : Good n m) : m.length ≤ 64 := by
  have := pigeon 64 (m.map (·.2.2)) (List.pairwise_map.2 h.pages) (fun x hx => by
    obtain ⟨y, hy, rfl⟩ := List.mem_map.1 hx
    have := h.bnd y hy
    omega)
  simpa using this
theorem Good.fit {n : Nat} {m : List Ow} (h : Good n m) (hn : n ≤ 9) {x : Ow} (hx : x ∈ m) : fits x.1 = true ∧ fits x.2.1 = true ∧ fits x.2.2 = true := by
  have := h.bnd x hx
  simp only [fits_iff]
  omega
theorem owner_in {n : Nat} {m : List Ow} (h : Good n m) {x : Ow} (hx : x ∈ m) : owner m x.2.2 = (x.1, x.2.1) := by
  unfold owner
  cases hf : m.find? (fun y => y.2.2 == x.2.2) with
  | none => have := List.find?_eq_none.1 hf x hx; simp at this
  | some y =>
    have h1 := List.find?_some hf
    have h2 := List.mem_of_find?_eq_some hf
    have := h.one' h2 hx (by simpa using h1)
    subst this
    rfl
theorem owner_no {m : List Ow} {p : Int} (h : ∀ x ∈ m, x.2.2 ≠ p) : owner m p = (-1, 0) := by
  unfold owner
  rw [List.find?_eq_none.2 (fun x hx => by simpa using h x hx)]
theorem page_in {n : Nat} {m : List Ow} (h : Good n m) {x : Ow} (hx : x ∈ m) : page m x.1 x.2.1 = x.2.2 := by
  unfold page
  cases hf : m.find? (fun y => y.1 == x.1 && y.2.1 == x.2.1) with
  | none => have := List.find?_eq_none.1 hf x hx; simp at this
  | some y =>
    have h1 := List.find?_some hf
    have h2 := List.mem_of_find?_eq_some hf
    simp at h1
    have := h.one h2 hx h1.1 h1.2
    subst this
    rfl
theorem page_no {m : List Ow} {t k : Int} (h : ∀ p, (t, k, p) ∉ m) : page m t k = -1 := by
  unfold page
  rw [List.find?_eq_none.2 (fun x hx => ?_)]
  simp
  intro h1 h2
  exact h x.2.2 (by rw [← h1, ← h2]; exact hx)
theorem owner_neg {n : Nat} {m : List Ow} (h : Good n m) (p : Int) : (owner m p).1 < 0 ↔ ∀ x ∈ m, x.2.2 ≠ p := by
  constructor
  · intro h1 x hx e
    subst e
    rw [owner_in h hx] at h1
    have := h.bnd x hx
    simp at h1
    omega
  · intro h1
    rw [owner_no h1]
    decide
/-! ### The map's turns -/
theorem Good.strike {n : Nat} {m : List Ow} (G : Good n m) {x : Ow} (hx : x ∈ m) : (m.filter fun y => decide (y ≠ x)).length + 1 = m.length := by
  have nd : m.Nodup := G.keys.imp (fun {a b} h e => h (by subst e; exact ⟨rfl, rfl⟩))
  have h3 : m.filter (fun y => decide (y ≠ x)) = m.erase x := by
    rw [nd.erase_eq_filter]
    congr 1
    funext y
    by_cases e : y = x <;> simp [e, bne]
  rw [h3, List.length_erase_of_mem hx]
  have := List.length_pos_of_mem hx
  omega
theorem Tells.del {D : DataW Unit} {m : List Ow} {n : Nat} (T : Tells D m) (G : Good n m) (hn : n ≤ 9) (hD : Maps.Tidy D) {x : Ow} (hx : x ∈ m) : Tells (D.del (kl x.1 x.2.1)) (m.filter fun y => decide (y ≠ x)) := by
  have fx := G.fit hn hx
  have hne : ∀ y ∈ m, y ≠ x → kl y.1 y.2.1 ≠ kl x.1 x.2.1 := fun y hy hne e => by
    have fy := G.fit hn hy
    have := kl_inj fy.1 fy.2.1 fx.1 fx.2.1 e
    exact hne (G.one hy hx this.1 this.2)
  have hasx : Maps.has D (kl x.1 x.2.1) = true := (T.has x.1 x.2.1 fx.1 fx.2.1).2 ⟨x.2.2, hx⟩
  refine ⟨fun t k ht hk => ?_, fun y hy zd => ?_, ?_⟩
  · by_cases e : t = x.1 ∧ k = x.2.1
    · obtain ⟨rfl, rfl⟩ := e
      rw [Maps.has_del_same]
      refine ⟨fun h => (by cases h), fun ⟨p, hp⟩ => ?_⟩
      have h1 := List.mem_filter.1 hp
      have := G.one h1.1 hx rfl rfl
      simp [this] at h1
    · have h2 : kl t k ≠ kl x.1 x.2.1 := fun e2 => e (kl_inj ht hk fx.1 fx.2.1 e2)
      rw [Maps.has_del_other h2, T.has t k ht hk]
      refine ⟨fun ⟨p, hp⟩ => ⟨p, List.mem_filter.2 ⟨hp, ?_⟩⟩, fun ⟨p, hp⟩ => ⟨p, (List.mem_filter.1 hp).1⟩⟩
      simp
      intro e3
      exact e ⟨by rw [← e3], by rw [← e3]⟩
  · have h1 := List.mem_filter.1 hy
    rw [Maps.atKey_del_other (hne y h1.1 (by simpa using h1.2))]
    exact T.at_ y h1.1 zd
  · have h1 := Maps.size_del (k := kl x.1 x.2.1) hD
    rw [hasx, T.size] at h1
    have h2 := G.strike hx
    simp at h1
    omega
theorem hit_k {t k : Int} (hk : k ≠ 0) (x : Ow) : hit t k x = true ↔ x.1 = t ∧ x.2.1 = k := by
  unfold hit
  simp [hk]
theorem Tells.put {D : DataW Unit} {m : List Ow} {n : Nat} (T : Tells D m) (G : Good n m) (hn : n ≤ 9) (hD : Maps.Tidy D) {t k : Int} (p : Int) (ht : fits t = true) (hk : fits k = true) (k0 : k ≠ 0) :
    Tells (D.put (kl t k) (.lit (.int .i64 p))) (rest m t k ++ [(t, k, p)]) := by
  have hmem : ∀ x, x ∈ rest m t k ↔ x ∈ m ∧ ¬ (x.1 = t ∧ x.2.1 = k) := fun x => by
    unfold rest
    rw [List.mem_filter, Bool.not_eq_true', ← Bool.not_eq_true, hit_k k0]
  have hne : ∀ x ∈ rest m t k, kl x.1 x.2.1 ≠ kl t k := fun x hx e => by
    have h1 := (hmem x).1 hx
    have fx := G.fit hn h1.1
    have := kl_inj fx.1 fx.2.1 ht hk e
    exact h1.2 this
  refine ⟨fun t' k' ht' hk' => ?_, fun x hx zd => ?_, ?_⟩
  · by_cases e : t' = t ∧ k' = k
    · obtain ⟨rfl, rfl⟩ := e
      rw [Maps.has_put_same hD.isMap (kl_key _ _)]
      exact ⟨fun _ => ⟨p, by simp⟩, fun _ => rfl⟩
    · rw [Maps.has_put_other (fun e2 => e (kl_inj ht' hk' ht hk e2)), T.has t' k' ht' hk']
      refine ⟨fun ⟨q, hq⟩ => ⟨q, List.mem_append.2 (.inl ((hmem _).2 ⟨hq, e⟩))⟩, fun ⟨q, hq⟩ => ?_⟩
      rcases List.mem_append.1 hq with hq | hq
      · exact ⟨q, ((hmem _).1 hq).1⟩
      · simp at hq; exact absurd ⟨hq.1, hq.2.1⟩ e
  · rcases List.mem_append.1 hx with hx | hx
    · rw [Maps.atKey_put_other (hne x hx)]; exact T.at_ x ((hmem x).1 hx).1 zd
    · simp at hx
      subst hx
      exact Maps.atKey_put_same hD.isMap (kl_key _ _) _ _
  · rw [Maps.size_put hD, T.size, List.length_append, List.length_singleton]
    by_cases hx : ∃ q, (t, k, q) ∈ m
    · rw [(T.has t k ht hk).2 hx, if_pos rfl]
      obtain ⟨q, hq⟩ := hx
      have h2 := G.strike hq
      have h3 : rest m t k = m.filter fun y => decide (y ≠ (t, k, q)) := by
        unfold rest
        refine List.filter_congr fun y hy => ?_
        by_cases e : y = (t, k, q)
        · subst e
          simp [hit]
        · have : ¬ (y.1 = t ∧ y.2.1 = k) := fun h => e (G.one hy hq h.1 h.2)
          have h4 : hit t k y = false := by
            rw [← Bool.not_eq_true, hit_k k0]
            exact this
          simp [h4, e]
      rw [h3]
      exact h2.symm
    · have h1 : Maps.has D (kl t k) = false := by
        rw [← Bool.not_eq_true, T.has t k ht hk]
        exact hx
      have h3 : rest m t k = m := by
        unfold rest
        refine List.filter_eq_self.2 fun y hy => ?_
        rw [Bool.not_eq_true', ← Bool.not_eq_true, hit_k k0]
        exact fun e => hx ⟨y.2.2, by rw [← e.1, ← e.2]; exact hy⟩
      rw [h1, h3]
      rfl
theorem Good.put {n : Nat} {m : List Ow} (G : Good n m) {t k p : Int} (hb : (0 ≤ t ∧ t < n) ∧ (1 ≤ k ∧ k ≤ 4) ∧ 0 ≤ p ∧ p < 64) (hp : ∀ x ∈ m, x.2.2 ≠ p) : Good n (rest m t k ++ [(t, k, p)]) := by
  have k0 : k ≠ 0 := by omega
  refine ⟨List.pairwise_append.2 ⟨G.keys.filter _, List.pairwise_singleton _ _, fun x hx y hy => ?_⟩, List.pairwise_append.2 ⟨G.pages.filter _, List.pairwise_singleton _ _, fun x hx y hy => ?_⟩, fun x hx => ?_⟩
  · have h1 := List.mem_filter.1 hx
    simp at hy
    subst hy
    rw [Bool.not_eq_true', ← Bool.not_eq_true, hit_k k0] at h1
    exact h1.2
  · have h1 := List.mem_filter.1 hx
    simp at hy
    subst hy
    exact hp x h1.1
  · rcases List.mem_append.1 hx with hx | hx
    · exact G.bnd x (List.mem_filter.1 hx).1
    · simp at hx
      subst hx
      exact hb
end Go.Proofs.YtfhmhlofjoahlaaGreatDoor.ca
