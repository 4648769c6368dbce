/- Texts that this claim stands on. -/
import Derived.Maps.RangeWalk
import Derived.DeepKeys4
import Derived.Maps.OwnSet
import Derived.Maps.OwnOps
import Derived.OwnWalk
import Derived.BigQuiet
import Derived.Deep.RegionHeld3
import Derived.Deep.QuietTactic
import Derived.Test.YtkgdcgmbapchcaaGreatDoorQCsQ
import Derived.Test.YtkgdcgmbapchcaaGreatDoorQBmQ
namespace Go.Proofs.YtkgdcgmbapchcaaGreatDoor.ca
open Go.ChangeShapes Go.WideShapes Go.ChangeAt Go.RowKit Go.Maps calls cls
set_option linter.unusedVariables false
set_option maxRecDepth 100000
set_option maxHeartbeats 2000000
theorem laid : laidOutB Tryz.prog = true := by kernel_rfl
theorem klaw : Keyed Tryz.prog 210 := Keyed.of_law (deep_law_laid laid (m := 3) (by decide) (of_decide_eq_true (by kernel_rfl)) (by kernel_rfl) (by kernel_rfl))
def kl (t k : Int) : Lit := .string (keyBytes [.int .i64 t, .int .i64 k])
theorem types_more : ∃ n, Tryz.prog.types.size = n + 1 := ⟨Tryz.prog.types.size - 1, by
  have : 0 < Tryz.prog.types.size := of_decide_eq_true (by kernel_rfl)
  omega⟩
theorem key_mk {t k : Int} (ht : fits t = true) (hk : fits k = true) : keyOf Tryz.prog 210 (.agg #[.int .i64 t, .int .i64 k]) = some (kl t k) := by
  obtain ⟨n, hn⟩ := types_more
  have ft : Tryz.prog.keyType 210 = true := by kernel_rfl
  unfold keyOf
  rw [Tryz.underlying210, ft, hn]
  have c2 : Tryz.prog.cellsOf 210 = 2 := by kernel_rfl
  have c1 : Tryz.prog.cellsOf 3 = 1 := by kernel_rfl
  have hwt : (Lit.int .i64 t).wf = true := WalkArith.wf_i64 (fits_iff.mp ht)
  have hwk : (Lit.int .i64 k).wf = true := WalkArith.wf_i64 (fits_iff.mp hk)
  simp [Value.formed, Value.cells, Tryz.underlying210, Program.keyLits, c1, c2, hwt, hwk, kl]
theorem key_inv {v : Value} {l : Lit} (h : keyOf Tryz.prog 210 v = some l) : ∃ t k : Int, v = .agg #[.int .i64 t, .int .i64 k] ∧ l = kl t k ∧ fits t = true ∧ fits k = true := by
  obtain ⟨n, hn⟩ := types_more
  have ft : Tryz.prog.keyType 210 = true := by kernel_rfl
  have c2 : Tryz.prog.cellsOf 210 = 2 := by kernel_rfl
  have c1 : Tryz.prog.cellsOf 3 = 1 := by kernel_rfl
  unfold keyOf at h
  rw [Tryz.underlying210, ft, hn] at h
  cases v <;> simp [Value.formed, Value.cells, Tryz.underlying210, Program.keyLits, c1, c2] at h
  rename_i cs
  obtain ⟨h2, ls, h3, rfl⟩ := h
  obtain ⟨a, b, rfl⟩ : ∃ a b, cs = #[a, b] := by
    obtain ⟨l⟩ := cs
    match l, h2 with
    | [a, b], _ => exact ⟨a, b, rfl⟩
  have ha : ∃ x, a = .int .i64 x ∧ (Lit.int .i64 x).wf = true := by
    cases a <;> simp at h3
    rename_i q x
    by_cases hx : q = .i64 ∧ (Lit.int .i64 x).wf = true
    · exact ⟨x, by rw [hx.1], hx.2⟩
    · rw [if_neg hx] at h3
      simp at h3
  obtain ⟨x, rfl, hx⟩ := ha
  have hb : ∃ y, b = .int .i64 y ∧ (Lit.int .i64 y).wf = true := by
    cases b <;> simp [hx] at h3
    rename_i q y
    by_cases hy : q = .i64 ∧ (Lit.int .i64 y).wf = true
    · exact ⟨y, by rw [hy.1], hy.2⟩
    · rw [if_neg hy] at h3
      simp at h3
  obtain ⟨y, rfl, hy⟩ := hb
  simp [hx, hy] at h3
  subst h3
  exact ⟨x, y, rfl, rfl, fits_wf hx, fits_wf hy⟩
theorem kl_inj {t k t' k' : Int} (ht : fits t = true) (hk : fits k = true) (ht' : fits t' = true) (hk' : fits k' = true) (h : kl t k = kl t' k') : t = t' ∧ k = k' := by
  have h1 := key_mk ht hk
  have h2 := key_mk ht' hk'
  rw [← h] at h2
  have := klaw.inj h1 h2
  simpa using this
theorem kl_key (t k : Int) : WideAt.IsKeyLit (kl t k) := trivial
end Go.Proofs.YtkgdcgmbapchcaaGreatDoor.ca
namespace Go.Proofs.YtkgdcgmbapchcaaGreatDoor.ca
open Go.ChangeShapes Go.WideShapes Go.ChangeAt Go.RowKit Go.Maps calls cls
set_option linter.unusedVariables false
abbrev Ow := Int × Int × Int
def hit (t k : Int) (x : Ow) : Bool := x.1 == t && (k == 0 || x.2.1 == k)
def rest (m : List Ow) (t k : Int) : List Ow := m.filter fun x => !hit t k x
def owner (m : List Ow) (p : Int) : Int × Int := match m.find? (fun x => x.2.2 == p) with | some x => (x.1, x.2.1) | none => (-1, 0)
def page (m : List Ow) (t k : Int) : Int := match m.find? (fun x => x.1 == t && x.2.1 == k) with | some x => x.2.2 | none => -1
structure Tells (D : DataW Unit) (m : List Ow) : Prop where
  has : ∀ t k, fits t = true → fits k = true → (Maps.has D (kl t k) = true ↔ ∃ p, (t, k, p) ∈ m)
  at_ : ∀ x ∈ m, ∀ zd, D.atKey (kl x.1 x.2.1) zd = .lit (.int .i64 x.2.2)
  size : Maps.size D = m.length
structure Good (n : Nat) (m : List Ow) : Prop where
  keys : m.Pairwise (fun x y => ¬ (x.1 = y.1 ∧ x.2.1 = y.2.1))
  pages : m.Pairwise (fun x y => x.2.2 ≠ y.2.2)
  bnd : ∀ x ∈ m, (0 ≤ x.1 ∧ x.1 < n) ∧ (1 ≤ x.2.1 ∧ x.2.1 ≤ 4) ∧ 0 ≤ x.2.2 ∧ x.2.2 < 64
theorem Tells.nil : Tells (.map []) [] := ⟨fun t k _ _ => by simp [Maps.has], fun x hx => by simp at hx, rfl⟩
theorem Good.nil (n : Nat) : Good n [] := ⟨.nil, .nil, fun x hx => by simp at hx⟩
theorem pair_eq {α : Type} {r : α → α → Prop} : ∀ {m : List α}, m.Pairwise r → ∀ {x y : α}, x ∈ m → y ∈ m → ¬ r x y → ¬ r y x → x = y
  | [], _, _, _, hx, _, _, _ => by simp at hx
  | a :: l, h, x, y, hx, hy, h1, h2 => by
    rw [List.pairwise_cons] at h
    rcases List.mem_cons.1 hx with ex | hx'
    · rcases List.mem_cons.1 hy with ey | hy'
      · rw [ex, ey]
      · rw [ex] at h1
        exact absurd (h.1 y hy') h1
    · rcases List.mem_cons.1 hy with ey | hy'
      · rw [ey] at h2
        exact absurd (h.1 x hx') h2
      · exact pair_eq h.2 hx' hy' h1 h2
theorem Good.one {n : Nat} {m : List Ow} (h : Good n m) {x y : Ow} (hx : x ∈ m) (hy : y ∈ m) (h1 : x.1 = y.1) (h2 : x.2.1 = y.2.1) : x = y :=
  pair_eq h.keys hx hy (fun e => e ⟨h1, h2⟩) (fun e => e ⟨h1.symm, h2.symm⟩)
theorem Good.one' {n : Nat} {m : List Ow} (h : Good n m) {x y : Ow} (hx : x ∈ m) (hy : y ∈ m) (h1 : x.2.2 = y.2.2) : x = y :=
  pair_eq h.pages hx hy (fun e => e h1) (fun e => e h1.symm)
theorem pigeon : ∀ (n : Nat) (l : List Int), l.Nodup → (∀ x ∈ l, 0 ≤ x ∧ x < n) → l.length ≤ n
  | 0, l, _, h => by
    cases l with
    | nil => simp
    | cons a l => have := h a (by simp); omega
  | n + 1, l, hd, h => by
    have h1 := pigeon n (l.erase (n : Int)) (hd.erase _) (fun x hx => by
      have h2 := (hd.mem_erase_iff).1 hx
      have := h x h2.2
      have h3 := h2.1
      omega)
    have := List.length_erase (a := (n : Int)) (l := l)
    split at this <;> omega
theorem Good.few {n : Nat} {m : List Ow} (h : Good n m) : m.length ≤ 64 := by
  have := pigeon 64 (m.map (·.2.2)) (List.pairwise_map.2 h.pages) (fun x hx => by
    obtain ⟨y, hy, rfl⟩ := List.mem_map.1 hx
    have := h.bnd y hy
    omega)
  simpa using this
theorem Good.fit {n : Nat} {m : List Ow} (h : Good n m) (hn : n ≤ 9) {x : Ow} (hx : x ∈ m) : fits x.1 = true ∧ fits x.2.1 = true ∧ fits x.2.2 = true := by
  have := h.bnd x hx
  simp only [fits_iff]
  omega
theorem owner_in {n : Nat} {m : List Ow} (h : Good n m) {x : Ow} (hx : x ∈ m) : owner m x.2.2 = (x.1, x.2.1) := by
  unfold owner
  cases hf : m.find? (fun y => y.2.2 == x.2.2) with
  | none => have := List.find?_eq_none.1 hf x hx; simp at this
  | some y =>
    have h1 := List.find?_some hf
    have h2 := List.mem_of_find?_eq_some hf
    have := h.one' h2 hx (by simpa using h1)
    subst this
    rfl
theorem owner_no {m : List Ow} {p : Int} (h : ∀ x ∈ m, x.2.2 ≠ p) : owner m p = (-1, 0) := by
  unfold owner
  rw [List.find?_eq_none.2 (fun x hx => by simpa using h x hx)]
theorem page_in {n : Nat} {m : List Ow} (h : Good n m) {x : Ow} (hx : x ∈ m) : page m x.1 x.2.1 = x.2.2 := by
  unfold page
  cases hf : m.find? (fun y => y.1 == x.1 && y.2.1 == x.2.1) with
  | none => have := List.find?_eq_none.1 hf x hx; simp at this
  | some y =>
    have h1 := List.find?_some hf
    have h2 := List.mem_of_find?_eq_some hf
    simp at h1
    have := h.one h2 hx h1.1 h1.2
    subst this
    rfl
theorem page_no {m : List Ow} {t k : Int} (h : ∀ p, (t, k, p) ∉ m) : page m t k = -1 := by
  unfold page
  rw [List.find?_eq_none.2 (fun x hx => ?_)]
  simp
  intro h1 h2
  exact h x.2.2 (by rw [← h1, ← h2]; exact hx)
theorem owner_neg {n : Nat} {m : List Ow} (h : Good n m) (p : Int) : (owner m p).1 < 0 ↔ ∀ x ∈ m, x.2.2 ≠ p := by
  constructor
  · intro h1 x hx e
    subst e
    rw [owner_in h hx] at h1
    have := h.bnd x hx
    simp at h1
    omega
  · intro h1
    rw [owner_no h1]
    decide
theorem Good.strike {n : Nat} {m : List Ow} (G : Good n m) {x : Ow} (hx : x ∈ m) : (m.filter fun y => decide (y ≠ x)).length + 1 = m.length := by
  have nd : m.Nodup := G.keys.imp (fun {a b} h e => h (by subst e; exact ⟨rfl, rfl⟩))
  have h3 : m.filter (fun y => decide (y ≠ x)) = m.erase x := by
    rw [nd.erase_eq_filter]
    congr 1
    funext y
    by_cases e : y = x <;> simp [e, bne]
  rw [h3, List.length_erase_of_mem hx]
  have := List.length_pos_of_mem hx
  omega
theorem Tells.del {D : DataW Unit} {m : List Ow} {n : Nat} (T : Tells D m) (G : Good n m) (hn : n ≤ 9) (hD : Maps.Tidy D) {x : Ow} (hx : x ∈ m) : Tells (D.del (kl x.1 x.2.1)) (m.filter fun y => decide (y ≠ x)) := by
  have fx := G.fit hn hx
  have hne : ∀ y ∈ m, y ≠ x → kl y.1 y.2.1 ≠ kl x.1 x.2.1 := fun y hy hne e => by
    have fy := G.fit hn hy
    have := kl_inj fy.1 fy.2.1 fx.1 fx.2.1 e
    exact hne (G.one hy hx this.1 this.2)
  have hasx : Maps.has D (kl x.1 x.2.1) = true := (T.has x.1 x.2.1 fx.1 fx.2.1).2 ⟨x.2.2, hx⟩
  refine ⟨fun t k ht hk => ?_, fun y hy zd => ?_, ?_⟩
  · by_cases e : t = x.1 ∧ k = x.2.1
    · obtain ⟨rfl, rfl⟩ := e
      rw [Maps.has_del_same]
      refine ⟨fun h => (by cases h), fun ⟨p, hp⟩ => ?_⟩
      have h1 := List.mem_filter.1 hp
      have := G.one h1.1 hx rfl rfl
      simp [this] at h1
    · have h2 : kl t k ≠ kl x.1 x.2.1 := fun e2 => e (kl_inj ht hk fx.1 fx.2.1 e2)
      rw [Maps.has_del_other h2, T.has t k ht hk]
      refine ⟨fun ⟨p, hp⟩ => ⟨p, List.mem_filter.2 ⟨hp, ?_⟩⟩, fun ⟨p, hp⟩ => ⟨p, (List.mem_filter.1 hp).1⟩⟩
      simp
      intro e3
      exact e ⟨by rw [← e3], by rw [← e3]⟩
  · have h1 := List.mem_filter.1 hy
    rw [Maps.atKey_del_other (hne y h1.1 (by simpa using h1.2))]
    exact T.at_ y h1.1 zd
  · have h1 := Maps.size_del (k := kl x.1 x.2.1) hD
    rw [hasx, T.size] at h1
    have h2 := G.strike hx
    simp at h1
    omega
theorem hit_k {t k : Int} (hk : k ≠ 0) (x : Ow) : hit t k x = true ↔ x.1 = t ∧ x.2.1 = k := by
  unfold hit
  simp [hk]
theorem Tells.put {D : DataW Unit} {m : List Ow} {n : Nat} (T : Tells D m) (G : Good n m) (hn : n ≤ 9) (hD : Maps.Tidy D) {t k : Int} (p : Int) (ht : fits t = true) (hk : fits k = true) (k0 : k ≠ 0) :
    Tells (D.put (kl t k) (.lit (.int .i64 p))) (rest m t k ++ [(t, k, p)]) := by
  have hmem : ∀ x, x ∈ rest m t k ↔ x ∈ m ∧ ¬ (x.1 = t ∧ x.2.1 = k) := fun x => by
    unfold rest
    rw [List.mem_filter, Bool.not_eq_true', ← Bool.not_eq_true, hit_k k0]
  have hne : ∀ x ∈ rest m t k, kl x.1 x.2.1 ≠ kl t k := fun x hx e => by
    have h1 := (hmem x).1 hx
    have fx := G.fit hn h1.1
    have := kl_inj fx.1 fx.2.1 ht hk e
    exact h1.2 this
  refine ⟨fun t' k' ht' hk' => ?_, fun x hx zd => ?_, ?_⟩
  · by_cases e : t' = t ∧ k' = k
    · obtain ⟨rfl, rfl⟩ := e
      rw [Maps.has_put_same hD.isMap (kl_key _ _)]
      exact ⟨fun _ => ⟨p, by simp⟩, fun _ => rfl⟩
    · rw [Maps.has_put_other (fun e2 => e (kl_inj ht' hk' ht hk e2)), T.has t' k' ht' hk']
      refine ⟨fun ⟨q, hq⟩ => ⟨q, List.mem_append.2 (.inl ((hmem _).2 ⟨hq, e⟩))⟩, fun ⟨q, hq⟩ => ?_⟩
      rcases List.mem_append.1 hq with hq | hq
      · exact ⟨q, ((hmem _).1 hq).1⟩
      · simp at hq; exact absurd ⟨hq.1, hq.2.1⟩ e
  · rcases List.mem_append.1 hx with hx | hx
    · rw [Maps.atKey_put_other (hne x hx)]; exact T.at_ x ((hmem x).1 hx).1 zd
    · simp at hx
      subst hx
      exact Maps.atKey_put_same hD.isMap (kl_key _ _) _ _
  · rw [Maps.size_put hD, T.size, List.length_append, List.length_singleton]
    by_cases hx : ∃ q, (t, k, q) ∈ m
    · rw [(T.has t k ht hk).2 hx, if_pos rfl]
      obtain ⟨q, hq⟩ := hx
      have h2 := G.strike hq
      have h3 : rest m t k = m.filter fun y => decide (y ≠ (t, k, q)) := by
        unfold rest
        refine List.filter_congr fun y hy => ?_
        by_cases e : y = (t, k, q)
        · subst e
          simp [hit]
        · have : ¬ (y.1 = t ∧ y.2.1 = k) := fun h => e (G.one hy hq h.1 h.2)
          have h4 : hit t k y = false := by
            rw [← Bool.not_eq_true, hit_k k0]
            exact this
          simp [h4, e]
      rw [h3]
      exact h2.symm
    · have h1 : Maps.has D (kl t k) = false := by
        rw [← Bool.not_eq_true, T.has t k ht hk]
        exact hx
      have h3 : rest m t k = m := by
        unfold rest
        refine List.filter_eq_self.2 fun y hy => ?_
        rw [Bool.not_eq_true', ← Bool.not_eq_true, hit_k k0]
        exact fun e => hx ⟨y.2.2, by rw [← e.1, ← e.2]; exact hy⟩
      rw [h1, h3]
      rfl
theorem Good.put {n : Nat} {m : List Ow} (G : Good n m) {t k p : Int} (hb : (0 ≤ t ∧ t < n) ∧ (1 ≤ k ∧ k ≤ 4) ∧ 0 ≤ p ∧ p < 64) (hp : ∀ x ∈ m, x.2.2 ≠ p) : Good n (rest m t k ++ [(t, k, p)]) := by
  have k0 : k ≠ 0 := by omega
  refine ⟨List.pairwise_append.2 ⟨G.keys.filter _, List.pairwise_singleton _ _, fun x hx y hy => ?_⟩, List.pairwise_append.2 ⟨G.pages.filter _, List.pairwise_singleton _ _, fun x hx y hy => ?_⟩, fun x hx => ?_⟩
  · have h1 := List.mem_filter.1 hx
    simp at hy
    subst hy
    rw [Bool.not_eq_true', ← Bool.not_eq_true, hit_k k0] at h1
    exact h1.2
  · have h1 := List.mem_filter.1 hx
    simp at hy
    subst hy
    exact hp x h1.1
  · rcases List.mem_append.1 hx with hx | hx
    · exact G.bnd x (List.mem_filter.1 hx).1
    · simp at hx
      subst hx
      exact hb
end Go.Proofs.YtkgdcgmbapchcaaGreatDoor.ca
namespace Go.Proofs.YtkgdcgmbapchcaaGreatDoor.ca
open Go.ChangeShapes Go.WideShapes Go.ChangeAt Go.RowKit Go.Maps gen calls cls
set_option linter.unusedVariables false
set_option maxHeartbeats 2000000
abbrev Own (w : World) (mb N : Nat) (D : DataW Unit) : Prop := w.ownsMap Tryz.prog 210 (plainElem Tryz.prog 3) mb N D
theorem zeroE (w : World) : (zeroValue 3).run Tryz.prog w = .ok (.int .i64 0) w := by kernel_rfl
structure At (w : World) (c mb n : Nat) (m : List Ow) (D : DataW Unit) : Prop where
  box : w.heap[c]? = some (.cells #[.int .i64 n, .map (some mb)] 207 (0, 0))
  own : Own w mb m.length D
  tells : Tells D m
  good : Good n m
  few : n ≤ 9
section
variable {w w' : World} {c mb n : Nat} {m : List Ow} {D : DataW Unit}
theorem At.c0 (C : At w c mb n m D) : w.cell? ⟨c, 0, none⟩ = some (.int .i64 n) := by rw [cell_of_row w c 0 _ _ _ C.box]; rfl
theorem At.c1 (C : At w c mb n m D) : w.cell? ⟨c, 1, none⟩ = some (.map (some mb)) := by rw [cell_of_row w c 1 _ _ _ C.box]; rfl
theorem At.lt (C : At w c mb n m D) : c < w.heap.size ∧ mb < w.heap.size := ⟨(Array.getElem?_eq_some_iff.1 C.box).1, C.own.lt⟩
theorem At.ne (C : At w c mb n m D) : mb ≠ c := fun e => by
  obtain ⟨es, clock, hb, _⟩ := C.own
  rw [e, C.box] at hb
  cases hb
theorem At.kept {row : Option Nat} (C : At w c mb n m D) (hg : w.grownBy w' row) (h1 : some c ≠ row) (h2 : some mb ≠ row) : At w' c mb n m D :=
  ⟨(hg.block c C.lt.1 h1).trans C.box, C.own.kept hg h2, C.tells, C.good, C.few⟩
theorem At.new (C : At w c mb n m D) (hg : w.grownBy w' none) : At w' c mb n m D := C.kept hg (by simp) (by simp)
theorem At.tidy (C : At w c mb n m D) : Maps.Tidy D := C.own.tidy klaw
theorem own_tight {N : Nat} (h : Own w mb N D) : Own w mb (Maps.size D) D := by
  obtain ⟨es, clock, hb, F, hs, hD⟩ := h
  refine ⟨es, clock, hb, F, ?_, hD⟩
  rw [hD, Maps.size_eq, length_sorted]
  simp
theorem made_yes (C : At w c mb n m D) :
    Calls Tryz.prog 218 #[.pointer (some ⟨c, 0, none⟩)] w fun e w' => e = .returned (.agg #[.int .i64 n, .map (some mb)]) ∧ w.grownBy w' none := by
  have c0 := fun o => (C.new (World.grownBy_alloc w o none)).c0
  have c1 := fun o => (C.new (World.grownBy_alloc w o none)).c1
  clear C
  go_enter Tryz.func218, Tryz.ntmps218
  go_wp2
  refine bodyPost_ret (v := .agg #[.int .i64 n, .map (some mb)]) ?_ rfl ⟨rfl, World.grownBy_alloc _ _ _⟩
  simp [results, Tryz.results218, go_sem]
theorem New_any (z : Int) (n : Nat) (hn : bm.near z 0 9 = n) (h9 : n ≤ 9) (w : World) :
    Calls Tryz.prog 172 #[.int .i64 z] w fun e w' => ∃ c mb, e = .returned (.pointer (some ⟨c, 0, none⟩)) ∧ At w' c mb n [] (.map []) ∧ (w.heap.size ≤ c ∧ w.heap.size ≤ mb) ∧ w.grownBy w' none := by
  have hmm := @run_makeMap Tryz.prog
  have CL := Lib.hid (bm.Clamp_any z 0 9)
  have HN := Lib.hid hn
  clear hn
  go_enter Tryz.func172, Tryz.ntmps172
  go_wp2_with (first
    | (go_at_call 104; (with_reducible refine (CL.out _).mono ?_); rintro e w' ⟨rfl, rfl⟩; rw [HN.out]))
  go_ret
  have h0 := World.ownsMap_made (H := Unit) w Tryz.prog 210 (plainElem Tryz.prog 3)
  refine ⟨w.heap.size + 1, w.heap.size, rfl, ⟨?_, h0.alloc _, .nil, .nil n, h9⟩, ⟨by omega, by omega⟩, (World.grownBy_alloc _ _ none).trans (World.grownBy_alloc _ _ none)⟩
  have e := heap_alloc_new (w.alloc (.map #[] 0)) (.cells #[.int .i64 n, .map (some w.heap.size)] 207)
  simpa using e
end
end Go.Proofs.YtkgdcgmbapchcaaGreatDoor.ca
namespace Go.Proofs.YtkgdcgmbapchcaaGreatDoor.ca
open Go.ChangeShapes Go.WideShapes Go.ChangeAt Go.RowKit Go.Maps gen calls cls
set_option linter.unusedVariables false
set_option maxHeartbeats 4000000
set_option maxRecDepth 100000
structure Two (w : World) (B : Nat) (x y : Int) : Prop where
  t0 : w.cell? ⟨B, 0, none⟩ = some (.int .i64 x)
  t1 : w.cell? ⟨B, 1, none⟩ = some (.int .i64 y)
theorem Two.new (w : World) (x y : Int) (t : TypeId) : Two (w.alloc (.cells #[.int .i64 x, .int .i64 y] t)) w.heap.size x y := ⟨by simp [go_sem], by simp [go_sem]⟩
theorem Two.kept {w w' : World} {B : Nat} {x y : Int} {row : Option Nat} (h : Two w B x y) (hg : w.grownBy w' row) (hr : some B ≠ row) : Two w' B x y := ⟨hg.cell h.t0 hr, hg.cell h.t1 hr⟩
theorem Two.made {w w' : World} {B : Nat} {x y : Int} (h : Two w B x y) (hg : w.grownBy w' none) : Two w' B x y := h.kept hg (by simp)
theorem Two.both {w : World} {B : Nat} {x y : Int} (h : Two w B x y) : w.cell? ⟨B, 0, none⟩ = some (.int .i64 x) ∧ w.cell? ⟨B, 1, none⟩ = some (.int .i64 y) := ⟨h.t0, h.t1⟩
theorem grown_drewN (w : World) (n : Nat) (row : Option Nat) : w.grownBy (w.drewN n) row := bm.grown_drewN w n row
theorem grown_drew (w : World) (row : Option Nat) : w.grownBy w.drew row := bm.grown_drewN w 1 row
theorem any_at {P : Program} {md : Region.Mode} {ops : Array Oper} {Q : Exit → Act → World → Prop} {S : World → Prop} {fuel : Nat} {listed : Array Bool} {a b : Act} {w : World} (h : a = b) (hq : wpAnyH P md ops Q S fuel listed b w) : wpAnyH P md ops Q S fuel listed a w := h ▸ hq
theorem then_at {K : Act → World → Prop} {Q : Exit → Act → World → Prop} {e : Exit} {a b : Act} {w : World} (h : a = b) (hq : Exit.then K Q e b w) : Exit.then K Q e a w := h ▸ hq
theorem field_0 (n mb : Nat) (w : World) : (Instr.field 207 (.agg #[.int .i64 n, .map (some mb)]) 0).run Tryz.prog w = .ok (.int .i64 n) w := by kernel_rfl
theorem field_1 (n mb : Nat) (w : World) : (Instr.field 207 (.agg #[.int .i64 n, .map (some mb)]) 1).run Tryz.prog w = .ok (.map (some mb)) w := by kernel_rfl
section
variable {w w' : World} {c mb n : Nat} {m : List Ow} {D : DataW Unit}
theorem has_neg (c : Addr) (w : World) {t k : Int} (h : t < 0) :
    Calls Tryz.prog 272 #[.pointer (some c), .agg #[.int .i64 t, .int .i64 k]] w fun e w' => e = .returned (.bool false) ∧ w.grownBy w' none := by
  have t1 : decide (0 ≤ t) = false := by simp; omega
  obtain ⟨u0, u1⟩ := Two.new w t k 210
  go_enter Tryz.func272, Tryz.ntmps272
  go_wp2
  go_quiet (fail)
  go_wp2
  go_ret
  exact ⟨rfl, (World.grownBy_alloc _ _ _).trans (grown_drewN _ _ _)⟩
theorem has_yes (C : At w c mb n m D) {t k : Int} (h0 : 0 ≤ t) (h1 : t < n) (hk : fits k = true) :
    Calls Tryz.prog 272 #[.pointer (some ⟨c, 0, none⟩), .agg #[.int .i64 t, .int .i64 k]] w fun e w' => e = .returned (.bool (decide (0 < cl k))) ∧ w.grownBy w' none := by
  have t1 : decide (0 ≤ t) = true := by simpa using h0
  have t2 : decide (t < (n : Int)) = true := by simpa using h1
  have G0 := Lib.hid (World.grownBy_alloc w (.cells #[.int .i64 t, .int .i64 k] 210) none)
  have T0 := Lib.hid (Two.new w t k 210)
  have CC := Lib.hid C
  have HK := Lib.hid hk
  obtain ⟨q, hq⟩ : ∃ q, cl k = q := ⟨_, rfl⟩
  have HQ := Lib.hid hq
  have f0 := T0.out.both
  have fl := field_0 n mb
  clear C hk
  rw [hq]
  clear hq
  go_enter Tryz.func272, Tryz.ntmps272
  go_wp2
  go_region_held3 (fun W => W.cell? ⟨w.heap.size, 0, none⟩ = some (.int .i64 t) ∧ W.cell? ⟨w.heap.size, 1, none⟩ = some (.int .i64 k)) (first | exact f0 | exact f2 | exact f3 | go_keep) (first
    | (go_at_call 218; (with_reducible refine (made_yes (CC.out.new (G0.out.trans (grown_drewN _ _ _)))).mono ?_); rintro e w2 ⟨rfl, hg⟩; have G2 := Lib.hid (G0.out.trans ((grown_drewN _ _ _).trans hg)); have f2 := (T0.out.made ((grown_drewN _ _ _).trans hg)).both; clear hg)
    | (go_at_call 218; (with_reducible refine (made_yes (CC.out.new (G0.out.trans (grown_drew _ _)))).mono ?_); rintro e w2 ⟨rfl, hg⟩; have G2 := Lib.hid (G0.out.trans ((grown_drew _ _).trans hg)); have f2 := (T0.out.made ((grown_drew _ _).trans hg)).both; clear hg)
    | (go_at_call 223; (with_reducible refine (cells_any _ _ HK.out).mono ?_); rintro e w3 ⟨rfl, rfl⟩; rw [HQ.out]; have f3 := f2))
  all_goals
    go_wp2
    go_ret
    exact ⟨rfl, G2.out⟩
theorem has_out (C : At w c mb n m D) {t k : Int} (h0 : 0 ≤ t) (h1 : (n : Int) ≤ t) :
    Calls Tryz.prog 272 #[.pointer (some ⟨c, 0, none⟩), .agg #[.int .i64 t, .int .i64 k]] w fun e w' => e = .returned (.bool false) ∧ w.grownBy w' none := by
  have t1 : decide (0 ≤ t) = true := by simpa using h0
  have t2 : decide (t < (n : Int)) = false := by simp; omega
  have G0 := Lib.hid (World.grownBy_alloc w (.cells #[.int .i64 t, .int .i64 k] 210) none)
  have T0 := Lib.hid (Two.new w t k 210)
  have CC := Lib.hid C
  obtain ⟨f00, f01⟩ := T0.out
  have fl := field_0 n mb
  clear C
  go_enter Tryz.func272, Tryz.ntmps272
  go_wp2
  refine wp_region_held_drew (S := fun _ => True) (by kernel_rfl) trivial (fun _ => ?_)
  refine wpAnyH_take (i := 0) (v := .pointer (some ⟨w.heap.size, 0, none⟩)) rfl (by kernel_rfl) (by kernel_rfl) (by kernel_rfl) (fun _ _ _ h => h) (Or.inl ⟨by kernel_rfl, fun _ _ => by go_simp⟩) trivial ?_
  refine any_at (b := { tmps := #[.pointer (some ⟨c, 0, none⟩), .agg #[.int .i64 t, .int .i64 k], undef, .pointer (some ⟨w.heap.size, 0, none⟩), .bool false, .pointer (some ⟨w.heap.size, 0, none⟩), undef, undef, undef, undef, undef, undef, undef, undef, undef, undef, undef, undef, undef, undef, undef, undef], defers := [] }) (by kernel_rfl) ?_
  refine wpAnyH_ready (rs := [1]) (by kernel_rfl) (by simp) (AllReadyH.cons rfl (fun K hK => ?_) AllReadyH.nil)
  go_simp
  refine hK.out _ _ trivial (fun _ => ?_)
  clear hK K
  refine any_at (b := { tmps := #[.pointer (some ⟨c, 0, none⟩), .agg #[.int .i64 t, .int .i64 k], undef, .pointer (some ⟨w.heap.size, 0, none⟩), .bool false, .pointer (some ⟨w.heap.size, 0, none⟩), .int .i64 t, undef, undef, undef, undef, undef, undef, undef, undef, undef, undef, undef, undef, undef, undef, undef], defers := [] }) (by kernel_rfl) ?_
  refine wpAnyH_take (i := 2) (v := .bool true) rfl (by kernel_rfl) (by kernel_rfl) (by kernel_rfl) (fun _ _ _ h => h) (Or.inl ⟨by kernel_rfl, fun _ _ => by go_simp⟩) trivial ?_
  refine any_at (b := { tmps := #[.pointer (some ⟨c, 0, none⟩), .agg #[.int .i64 t, .int .i64 k], undef, .pointer (some ⟨w.heap.size, 0, none⟩), .bool false, .pointer (some ⟨w.heap.size, 0, none⟩), .int .i64 t, .bool true, undef, undef, undef, undef, undef, undef, undef, undef, undef, undef, undef, undef, undef, undef], defers := [] }) (by kernel_rfl) ?_
  refine wpAnyH_take (i := 3) (v := .bool true) rfl (by kernel_rfl) (by kernel_rfl) (by kernel_rfl) (fun _ _ _ h => h) (Or.inl ⟨by kernel_rfl, fun _ _ => by rfl⟩) trivial ?_
  refine any_at (b := { tmps := #[.pointer (some ⟨c, 0, none⟩), .agg #[.int .i64 t, .int .i64 k], undef, .pointer (some ⟨w.heap.size, 0, none⟩), .bool false, .pointer (some ⟨w.heap.size, 0, none⟩), .int .i64 t, .bool true, .bool true, undef, undef, undef, undef, undef, undef, undef, undef, undef, undef, undef, undef, undef], defers := [] }) (by kernel_rfl) ?_
  refine wpAnyH_take (i := 4) (v := .pointer (some ⟨w.heap.size, 0, none⟩)) rfl (by kernel_rfl) (by kernel_rfl) (by kernel_rfl) (fun _ _ _ h => h) (Or.inl ⟨by kernel_rfl, fun _ _ => by go_simp⟩) trivial ?_
  refine any_at (b := { tmps := #[.pointer (some ⟨c, 0, none⟩), .agg #[.int .i64 t, .int .i64 k], undef, .pointer (some ⟨w.heap.size, 0, none⟩), .bool false, .pointer (some ⟨w.heap.size, 0, none⟩), .int .i64 t, .bool true, .bool true, .pointer (some ⟨w.heap.size, 0, none⟩), undef, undef, undef, undef, undef, undef, undef, undef, undef, undef, undef, undef], defers := [] }) (by kernel_rfl) ?_
  refine wpAnyH_take (i := 6) (v := .pointer (some ⟨c, 0, none⟩)) rfl (by kernel_rfl) (by kernel_rfl) (by kernel_rfl) (fun _ _ _ h => h) (Or.inl ⟨by kernel_rfl, fun _ _ => by rfl⟩) trivial ?_
  refine any_at (b := { tmps := #[.pointer (some ⟨c, 0, none⟩), .agg #[.int .i64 t, .int .i64 k], undef, .pointer (some ⟨w.heap.size, 0, none⟩), .bool false, .pointer (some ⟨w.heap.size, 0, none⟩), .int .i64 t, .bool true, .bool true, .pointer (some ⟨w.heap.size, 0, none⟩), undef, .pointer (some ⟨c, 0, none⟩), undef, undef, undef, undef, undef, undef, undef, undef, undef, undef], defers := [] }) (by kernel_rfl) ?_
  refine wpAnyH_ready (rs := [5, 7]) (by kernel_rfl) (by simp) (AllReadyH.cons rfl (fun K hK => ?_) (AllReadyH.cons rfl (fun K hK => ?_) AllReadyH.nil))
  · skip
    go_simp
    refine hK.out _ _ trivial (fun _ => ?_)
    clear hK K
    refine any_at (b := { tmps := #[.pointer (some ⟨c, 0, none⟩), .agg #[.int .i64 t, .int .i64 k], undef, .pointer (some ⟨w.heap.size, 0, none⟩), .bool false, .pointer (some ⟨w.heap.size, 0, none⟩), .int .i64 t, .bool true, .bool true, .pointer (some ⟨w.heap.size, 0, none⟩), .int .i64 t, .pointer (some ⟨c, 0, none⟩), undef, undef, undef, undef, undef, undef, undef, undef, undef, undef], defers := [] }) (by kernel_rfl) ?_
    refine wpAnyH_ready (rs := [7]) (by kernel_rfl) (by simp) (AllReadyH.cons rfl (fun K hK => ?_) AllReadyH.nil)
    go_simp
    (first | (go_at_call 218; (with_reducible refine (made_yes (CC.out.new (G0.out.trans (grown_drewN _ _ _)))).mono ?_); rintro e w2 ⟨rfl, hg⟩; have G2 := Lib.hid (G0.out.trans ((grown_drewN _ _ _).trans hg)); have f2 := T0.out.made ((grown_drewN _ _ _).trans hg); obtain ⟨f20, f21⟩ := f2; clear hg) | (go_at_call 218; (with_reducible refine (made_yes (CC.out.new (G0.out.trans (grown_drew _ _)))).mono ?_); rintro e w2 ⟨rfl, hg⟩; have G2 := Lib.hid (G0.out.trans ((grown_drew _ _).trans hg)); have f2 := T0.out.made ((grown_drew _ _).trans hg); obtain ⟨f20, f21⟩ := f2; clear hg))
    refine hK.out _ _ trivial (fun _ => ?_)
    clear hK K
    refine any_at (b := { tmps := #[.pointer (some ⟨c, 0, none⟩), .agg #[.int .i64 t, .int .i64 k], undef, .pointer (some ⟨w.heap.size, 0, none⟩), .bool false, .pointer (some ⟨w.heap.size, 0, none⟩), .int .i64 t, .bool true, .bool true, .pointer (some ⟨w.heap.size, 0, none⟩), .int .i64 t, .pointer (some ⟨c, 0, none⟩), .agg #[.int .i64 n, .map (some mb)], undef, undef, undef, undef, undef, undef, undef, undef, undef], defers := [] }) (by kernel_rfl) ?_
    refine wpAnyH_take (i := 8) (v := .int .i64 n) rfl (by kernel_rfl) (by kernel_rfl) (by kernel_rfl) (fun _ _ _ h => h) (Or.inl ⟨by kernel_rfl, fun _ _ => by go_simp⟩) trivial ?_
    refine any_at (b := { tmps := #[.pointer (some ⟨c, 0, none⟩), .agg #[.int .i64 t, .int .i64 k], undef, .pointer (some ⟨w.heap.size, 0, none⟩), .bool false, .pointer (some ⟨w.heap.size, 0, none⟩), .int .i64 t, .bool true, .bool true, .pointer (some ⟨w.heap.size, 0, none⟩), .int .i64 t, .pointer (some ⟨c, 0, none⟩), .agg #[.int .i64 n, .map (some mb)], .int .i64 n, undef, undef, undef, undef, undef, undef, undef, undef], defers := [] }) (by kernel_rfl) ?_
    refine wpAnyH_take (i := 9) (v := .bool false) rfl (by kernel_rfl) (by kernel_rfl) (by kernel_rfl) (fun _ _ _ h => h) (Or.inl ⟨by kernel_rfl, fun _ _ => by go_simp⟩) trivial ?_
    refine any_at (b := { tmps := #[.pointer (some ⟨c, 0, none⟩), .agg #[.int .i64 t, .int .i64 k], undef, .pointer (some ⟨w.heap.size, 0, none⟩), .bool false, .pointer (some ⟨w.heap.size, 0, none⟩), .int .i64 t, .bool true, .bool true, .pointer (some ⟨w.heap.size, 0, none⟩), .int .i64 t, .pointer (some ⟨c, 0, none⟩), .agg #[.int .i64 n, .map (some mb)], .int .i64 n, .bool false, undef, undef, undef, undef, undef, undef, undef], defers := [] }) (by kernel_rfl) ?_
    refine wpAnyH_take (i := 10) (v := .bool false) rfl (by kernel_rfl) (by kernel_rfl) (by kernel_rfl) (fun _ _ _ h => h) (Or.inl ⟨by kernel_rfl, fun _ _ => by go_simp⟩) trivial ?_
    refine any_at (b := { tmps := #[.pointer (some ⟨c, 0, none⟩), .agg #[.int .i64 t, .int .i64 k], undef, .pointer (some ⟨w.heap.size, 0, none⟩), .bool false, .pointer (some ⟨w.heap.size, 0, none⟩), .int .i64 t, .bool true, .bool true, .pointer (some ⟨w.heap.size, 0, none⟩), .int .i64 t, .pointer (some ⟨c, 0, none⟩), .agg #[.int .i64 n, .map (some mb)], .int .i64 n, .bool false, .bool false, undef, undef, undef, undef, undef, undef], defers := [] }) (by kernel_rfl) ?_
    refine wpAnyH_take (i := 11) (v := .bool false) rfl (by kernel_rfl) (by kernel_rfl) (by kernel_rfl) (fun _ _ _ h => h) (Or.inl ⟨by kernel_rfl, fun _ _ => by rfl⟩) trivial ?_
    refine any_at (b := { tmps := #[.pointer (some ⟨c, 0, none⟩), .agg #[.int .i64 t, .int .i64 k], undef, .pointer (some ⟨w.heap.size, 0, none⟩), .bool false, .pointer (some ⟨w.heap.size, 0, none⟩), .int .i64 t, .bool true, .bool true, .pointer (some ⟨w.heap.size, 0, none⟩), .int .i64 t, .pointer (some ⟨c, 0, none⟩), .agg #[.int .i64 n, .map (some mb)], .int .i64 n, .bool false, .bool false, .bool false, undef, undef, undef, undef, undef], defers := [] }) (by kernel_rfl) ?_
    refine wpAnyH_take (i := 12) (v := undef) rfl (by kernel_rfl) (by kernel_rfl) (by kernel_rfl) (fun _ _ _ h => h) (Or.inr ⟨by kernel_rfl, rfl⟩) trivial ?_
    refine any_at (b := { tmps := #[.pointer (some ⟨c, 0, none⟩), .agg #[.int .i64 t, .int .i64 k], undef, .pointer (some ⟨w.heap.size, 0, none⟩), .bool false, .pointer (some ⟨w.heap.size, 0, none⟩), .int .i64 t, .bool true, .bool true, .pointer (some ⟨w.heap.size, 0, none⟩), .int .i64 t, .pointer (some ⟨c, 0, none⟩), .agg #[.int .i64 n, .map (some mb)], .int .i64 n, .bool false, .bool false, .bool false, undef, undef, undef, undef, undef], defers := [] }) (by kernel_rfl) ?_
    refine wpAnyH_take (i := 13) (v := undef) rfl (by kernel_rfl) (by kernel_rfl) (by kernel_rfl) (fun _ _ _ h => h) (Or.inr ⟨by kernel_rfl, rfl⟩) trivial ?_
    refine any_at (b := { tmps := #[.pointer (some ⟨c, 0, none⟩), .agg #[.int .i64 t, .int .i64 k], undef, .pointer (some ⟨w.heap.size, 0, none⟩), .bool false, .pointer (some ⟨w.heap.size, 0, none⟩), .int .i64 t, .bool true, .bool true, .pointer (some ⟨w.heap.size, 0, none⟩), .int .i64 t, .pointer (some ⟨c, 0, none⟩), .agg #[.int .i64 n, .map (some mb)], .int .i64 n, .bool false, .bool false, .bool false, undef, undef, undef, undef, undef], defers := [] }) (by kernel_rfl) ?_
    refine wpAnyH_take (i := 14) (v := undef) rfl (by kernel_rfl) (by kernel_rfl) (by kernel_rfl) (fun _ _ _ h => h) (Or.inr ⟨by kernel_rfl, rfl⟩) trivial ?_
    refine any_at (b := { tmps := #[.pointer (some ⟨c, 0, none⟩), .agg #[.int .i64 t, .int .i64 k], undef, .pointer (some ⟨w.heap.size, 0, none⟩), .bool false, .pointer (some ⟨w.heap.size, 0, none⟩), .int .i64 t, .bool true, .bool true, .pointer (some ⟨w.heap.size, 0, none⟩), .int .i64 t, .pointer (some ⟨c, 0, none⟩), .agg #[.int .i64 n, .map (some mb)], .int .i64 n, .bool false, .bool false, .bool false, undef, undef, undef, undef, undef], defers := [] }) (by kernel_rfl) ?_
    refine wpAnyH_take (i := 15) (v := undef) rfl (by kernel_rfl) (by kernel_rfl) (by kernel_rfl) (fun _ _ _ h => h) (Or.inr ⟨by kernel_rfl, rfl⟩) trivial ?_
    refine any_at (b := { tmps := #[.pointer (some ⟨c, 0, none⟩), .agg #[.int .i64 t, .int .i64 k], undef, .pointer (some ⟨w.heap.size, 0, none⟩), .bool false, .pointer (some ⟨w.heap.size, 0, none⟩), .int .i64 t, .bool true, .bool true, .pointer (some ⟨w.heap.size, 0, none⟩), .int .i64 t, .pointer (some ⟨c, 0, none⟩), .agg #[.int .i64 n, .map (some mb)], .int .i64 n, .bool false, .bool false, .bool false, undef, undef, undef, undef, undef], defers := [] }) (by kernel_rfl) ?_
    refine wpAnyH_take (i := 16) (v := .bool false) rfl (by kernel_rfl) (by kernel_rfl) (by kernel_rfl) (fun _ _ _ h => h) (Or.inl ⟨by kernel_rfl, fun _ _ => by kernel_rfl⟩) trivial ?_
    refine any_at (b := { tmps := #[.pointer (some ⟨c, 0, none⟩), .agg #[.int .i64 t, .int .i64 k], undef, .pointer (some ⟨w.heap.size, 0, none⟩), .bool false, .pointer (some ⟨w.heap.size, 0, none⟩), .int .i64 t, .bool true, .bool true, .pointer (some ⟨w.heap.size, 0, none⟩), .int .i64 t, .pointer (some ⟨c, 0, none⟩), .agg #[.int .i64 n, .map (some mb)], .int .i64 n, .bool false, .bool false, .bool false, undef, undef, undef, undef, .bool false], defers := [] }) (by kernel_rfl) ?_
    refine wpAnyH_take (i := 17) (v := .bool false) rfl (by kernel_rfl) (by kernel_rfl) (by kernel_rfl) (fun _ _ _ h => h) (Or.inl ⟨by kernel_rfl, fun _ _ => by rfl⟩) trivial ?_
    refine any_at (b := { tmps := #[.pointer (some ⟨c, 0, none⟩), .agg #[.int .i64 t, .int .i64 k], undef, .pointer (some ⟨w.heap.size, 0, none⟩), .bool false, .pointer (some ⟨w.heap.size, 0, none⟩), .int .i64 t, .bool true, .bool true, .pointer (some ⟨w.heap.size, 0, none⟩), .int .i64 t, .pointer (some ⟨c, 0, none⟩), .agg #[.int .i64 n, .map (some mb)], .int .i64 n, .bool false, .bool false, .bool false, undef, undef, undef, undef, .bool false], defers := [] }) (by kernel_rfl) ?_
    refine wpAnyH_done (by kernel_rfl) ?_ _
    refine then_at (b := { tmps := #[.pointer (some ⟨c, 0, none⟩), .agg #[.int .i64 t, .int .i64 k], undef, .pointer (some ⟨w.heap.size, 0, none⟩), .bool false, .pointer (some ⟨w.heap.size, 0, none⟩), .int .i64 t, .bool true, .bool true, .pointer (some ⟨w.heap.size, 0, none⟩), .int .i64 t, .pointer (some ⟨c, 0, none⟩), .agg #[.int .i64 n, .map (some mb)], .int .i64 n, .bool false, .bool false, .bool false, undef, undef, undef, undef, .bool false], defers := [] }) (by kernel_rfl) ?_
    go_wp2
    go_ret
    exact ⟨rfl, G2.out⟩
  · skip
    go_simp
    (first | (go_at_call 218; (with_reducible refine (made_yes (CC.out.new (G0.out.trans (grown_drewN _ _ _)))).mono ?_); rintro e w2 ⟨rfl, hg⟩; have G2 := Lib.hid (G0.out.trans ((grown_drewN _ _ _).trans hg)); have f2 := T0.out.made ((grown_drewN _ _ _).trans hg); obtain ⟨f20, f21⟩ := f2; clear hg) | (go_at_call 218; (with_reducible refine (made_yes (CC.out.new (G0.out.trans (grown_drew _ _)))).mono ?_); rintro e w2 ⟨rfl, hg⟩; have G2 := Lib.hid (G0.out.trans ((grown_drew _ _).trans hg)); have f2 := T0.out.made ((grown_drew _ _).trans hg); obtain ⟨f20, f21⟩ := f2; clear hg))
    refine hK.out _ _ trivial (fun _ => ?_)
    clear hK K
    refine any_at (b := { tmps := #[.pointer (some ⟨c, 0, none⟩), .agg #[.int .i64 t, .int .i64 k], undef, .pointer (some ⟨w.heap.size, 0, none⟩), .bool false, .pointer (some ⟨w.heap.size, 0, none⟩), .int .i64 t, .bool true, .bool true, .pointer (some ⟨w.heap.size, 0, none⟩), undef, .pointer (some ⟨c, 0, none⟩), .agg #[.int .i64 n, .map (some mb)], undef, undef, undef, undef, undef, undef, undef, undef, undef], defers := [] }) (by kernel_rfl) ?_
    refine wpAnyH_take (i := 8) (v := .int .i64 n) rfl (by kernel_rfl) (by kernel_rfl) (by kernel_rfl) (fun _ _ _ h => h) (Or.inl ⟨by kernel_rfl, fun _ _ => by go_simp⟩) trivial ?_
    refine any_at (b := { tmps := #[.pointer (some ⟨c, 0, none⟩), .agg #[.int .i64 t, .int .i64 k], undef, .pointer (some ⟨w.heap.size, 0, none⟩), .bool false, .pointer (some ⟨w.heap.size, 0, none⟩), .int .i64 t, .bool true, .bool true, .pointer (some ⟨w.heap.size, 0, none⟩), undef, .pointer (some ⟨c, 0, none⟩), .agg #[.int .i64 n, .map (some mb)], .int .i64 n, undef, undef, undef, undef, undef, undef, undef, undef], defers := [] }) (by kernel_rfl) ?_
    refine wpAnyH_ready (rs := [5]) (by kernel_rfl) (by simp) (AllReadyH.cons rfl (fun K hK => ?_) AllReadyH.nil)
    go_simp
    refine hK.out _ _ trivial (fun _ => ?_)
    clear hK K
    refine any_at (b := { tmps := #[.pointer (some ⟨c, 0, none⟩), .agg #[.int .i64 t, .int .i64 k], undef, .pointer (some ⟨w.heap.size, 0, none⟩), .bool false, .pointer (some ⟨w.heap.size, 0, none⟩), .int .i64 t, .bool true, .bool true, .pointer (some ⟨w.heap.size, 0, none⟩), .int .i64 t, .pointer (some ⟨c, 0, none⟩), .agg #[.int .i64 n, .map (some mb)], .int .i64 n, undef, undef, undef, undef, undef, undef, undef, undef], defers := [] }) (by kernel_rfl) ?_
    refine wpAnyH_take (i := 9) (v := .bool false) rfl (by kernel_rfl) (by kernel_rfl) (by kernel_rfl) (fun _ _ _ h => h) (Or.inl ⟨by kernel_rfl, fun _ _ => by go_simp⟩) trivial ?_
    refine any_at (b := { tmps := #[.pointer (some ⟨c, 0, none⟩), .agg #[.int .i64 t, .int .i64 k], undef, .pointer (some ⟨w.heap.size, 0, none⟩), .bool false, .pointer (some ⟨w.heap.size, 0, none⟩), .int .i64 t, .bool true, .bool true, .pointer (some ⟨w.heap.size, 0, none⟩), .int .i64 t, .pointer (some ⟨c, 0, none⟩), .agg #[.int .i64 n, .map (some mb)], .int .i64 n, .bool false, undef, undef, undef, undef, undef, undef, undef], defers := [] }) (by kernel_rfl) ?_
    refine wpAnyH_take (i := 10) (v := .bool false) rfl (by kernel_rfl) (by kernel_rfl) (by kernel_rfl) (fun _ _ _ h => h) (Or.inl ⟨by kernel_rfl, fun _ _ => by go_simp⟩) trivial ?_
    refine any_at (b := { tmps := #[.pointer (some ⟨c, 0, none⟩), .agg #[.int .i64 t, .int .i64 k], undef, .pointer (some ⟨w.heap.size, 0, none⟩), .bool false, .pointer (some ⟨w.heap.size, 0, none⟩), .int .i64 t, .bool true, .bool true, .pointer (some ⟨w.heap.size, 0, none⟩), .int .i64 t, .pointer (some ⟨c, 0, none⟩), .agg #[.int .i64 n, .map (some mb)], .int .i64 n, .bool false, .bool false, undef, undef, undef, undef, undef, undef], defers := [] }) (by kernel_rfl) ?_
    refine wpAnyH_take (i := 11) (v := .bool false) rfl (by kernel_rfl) (by kernel_rfl) (by kernel_rfl) (fun _ _ _ h => h) (Or.inl ⟨by kernel_rfl, fun _ _ => by rfl⟩) trivial ?_
    refine any_at (b := { tmps := #[.pointer (some ⟨c, 0, none⟩), .agg #[.int .i64 t, .int .i64 k], undef, .pointer (some ⟨w.heap.size, 0, none⟩), .bool false, .pointer (some ⟨w.heap.size, 0, none⟩), .int .i64 t, .bool true, .bool true, .pointer (some ⟨w.heap.size, 0, none⟩), .int .i64 t, .pointer (some ⟨c, 0, none⟩), .agg #[.int .i64 n, .map (some mb)], .int .i64 n, .bool false, .bool false, .bool false, undef, undef, undef, undef, undef], defers := [] }) (by kernel_rfl) ?_
    refine wpAnyH_take (i := 12) (v := undef) rfl (by kernel_rfl) (by kernel_rfl) (by kernel_rfl) (fun _ _ _ h => h) (Or.inr ⟨by kernel_rfl, rfl⟩) trivial ?_
    refine any_at (b := { tmps := #[.pointer (some ⟨c, 0, none⟩), .agg #[.int .i64 t, .int .i64 k], undef, .pointer (some ⟨w.heap.size, 0, none⟩), .bool false, .pointer (some ⟨w.heap.size, 0, none⟩), .int .i64 t, .bool true, .bool true, .pointer (some ⟨w.heap.size, 0, none⟩), .int .i64 t, .pointer (some ⟨c, 0, none⟩), .agg #[.int .i64 n, .map (some mb)], .int .i64 n, .bool false, .bool false, .bool false, undef, undef, undef, undef, undef], defers := [] }) (by kernel_rfl) ?_
    refine wpAnyH_take (i := 13) (v := undef) rfl (by kernel_rfl) (by kernel_rfl) (by kernel_rfl) (fun _ _ _ h => h) (Or.inr ⟨by kernel_rfl, rfl⟩) trivial ?_
    refine any_at (b := { tmps := #[.pointer (some ⟨c, 0, none⟩), .agg #[.int .i64 t, .int .i64 k], undef, .pointer (some ⟨w.heap.size, 0, none⟩), .bool false, .pointer (some ⟨w.heap.size, 0, none⟩), .int .i64 t, .bool true, .bool true, .pointer (some ⟨w.heap.size, 0, none⟩), .int .i64 t, .pointer (some ⟨c, 0, none⟩), .agg #[.int .i64 n, .map (some mb)], .int .i64 n, .bool false, .bool false, .bool false, undef, undef, undef, undef, undef], defers := [] }) (by kernel_rfl) ?_
    refine wpAnyH_take (i := 14) (v := undef) rfl (by kernel_rfl) (by kernel_rfl) (by kernel_rfl) (fun _ _ _ h => h) (Or.inr ⟨by kernel_rfl, rfl⟩) trivial ?_
    refine any_at (b := { tmps := #[.pointer (some ⟨c, 0, none⟩), .agg #[.int .i64 t, .int .i64 k], undef, .pointer (some ⟨w.heap.size, 0, none⟩), .bool false, .pointer (some ⟨w.heap.size, 0, none⟩), .int .i64 t, .bool true, .bool true, .pointer (some ⟨w.heap.size, 0, none⟩), .int .i64 t, .pointer (some ⟨c, 0, none⟩), .agg #[.int .i64 n, .map (some mb)], .int .i64 n, .bool false, .bool false, .bool false, undef, undef, undef, undef, undef], defers := [] }) (by kernel_rfl) ?_
    refine wpAnyH_take (i := 15) (v := undef) rfl (by kernel_rfl) (by kernel_rfl) (by kernel_rfl) (fun _ _ _ h => h) (Or.inr ⟨by kernel_rfl, rfl⟩) trivial ?_
    refine any_at (b := { tmps := #[.pointer (some ⟨c, 0, none⟩), .agg #[.int .i64 t, .int .i64 k], undef, .pointer (some ⟨w.heap.size, 0, none⟩), .bool false, .pointer (some ⟨w.heap.size, 0, none⟩), .int .i64 t, .bool true, .bool true, .pointer (some ⟨w.heap.size, 0, none⟩), .int .i64 t, .pointer (some ⟨c, 0, none⟩), .agg #[.int .i64 n, .map (some mb)], .int .i64 n, .bool false, .bool false, .bool false, undef, undef, undef, undef, undef], defers := [] }) (by kernel_rfl) ?_
    refine wpAnyH_take (i := 16) (v := .bool false) rfl (by kernel_rfl) (by kernel_rfl) (by kernel_rfl) (fun _ _ _ h => h) (Or.inl ⟨by kernel_rfl, fun _ _ => by kernel_rfl⟩) trivial ?_
    refine any_at (b := { tmps := #[.pointer (some ⟨c, 0, none⟩), .agg #[.int .i64 t, .int .i64 k], undef, .pointer (some ⟨w.heap.size, 0, none⟩), .bool false, .pointer (some ⟨w.heap.size, 0, none⟩), .int .i64 t, .bool true, .bool true, .pointer (some ⟨w.heap.size, 0, none⟩), .int .i64 t, .pointer (some ⟨c, 0, none⟩), .agg #[.int .i64 n, .map (some mb)], .int .i64 n, .bool false, .bool false, .bool false, undef, undef, undef, undef, .bool false], defers := [] }) (by kernel_rfl) ?_
    refine wpAnyH_take (i := 17) (v := .bool false) rfl (by kernel_rfl) (by kernel_rfl) (by kernel_rfl) (fun _ _ _ h => h) (Or.inl ⟨by kernel_rfl, fun _ _ => by rfl⟩) trivial ?_
    refine any_at (b := { tmps := #[.pointer (some ⟨c, 0, none⟩), .agg #[.int .i64 t, .int .i64 k], undef, .pointer (some ⟨w.heap.size, 0, none⟩), .bool false, .pointer (some ⟨w.heap.size, 0, none⟩), .int .i64 t, .bool true, .bool true, .pointer (some ⟨w.heap.size, 0, none⟩), .int .i64 t, .pointer (some ⟨c, 0, none⟩), .agg #[.int .i64 n, .map (some mb)], .int .i64 n, .bool false, .bool false, .bool false, undef, undef, undef, undef, .bool false], defers := [] }) (by kernel_rfl) ?_
    refine wpAnyH_done (by kernel_rfl) ?_ _
    refine then_at (b := { tmps := #[.pointer (some ⟨c, 0, none⟩), .agg #[.int .i64 t, .int .i64 k], undef, .pointer (some ⟨w.heap.size, 0, none⟩), .bool false, .pointer (some ⟨w.heap.size, 0, none⟩), .int .i64 t, .bool true, .bool true, .pointer (some ⟨w.heap.size, 0, none⟩), .int .i64 t, .pointer (some ⟨c, 0, none⟩), .agg #[.int .i64 n, .map (some mb)], .int .i64 n, .bool false, .bool false, .bool false, undef, undef, undef, undef, .bool false], defers := [] }) (by kernel_rfl) ?_
    go_wp2
    go_ret
    exact ⟨rfl, G2.out⟩
end
end Go.Proofs.YtkgdcgmbapchcaaGreatDoor.ca
