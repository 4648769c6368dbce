/- Texts that this claim stands on. -/
import Derived.Test.YtfhebjkoojodiaaDoorPGpO
namespace Go.Proofs.YtfhebjkoojodiaaDoor.gp
open Go.ChangeShapes Go.WideShapes Go.ChangeAt Go.RowKit gen va cd
set_option linter.unusedVariables false
set_option maxHeartbeats 1000000
set_option maxRecDepth 100000
inductive Rch (σ : Gs) : Nat → Prop
  | zero : Rch σ 0
  | held (t : Nat) (ht : t < σ.N) (v : Va) (hv : v ∈ σ.hd t) (h2 : v.1 = 2) : Rch σ v.2.toNat
  | field (n : Nat) (hn : Rch σ n) (v : Va) (hv : v ∈ σ.nd n) (h2 : v.1 = 2) : Rch σ v.2.toNat
def refs (m : List Va) : List Int := (m.filter fun v => v.1 == 2).map (·.2)
theorem refs_snoc_yes {m : List Va} {x : Va} (h : x.1 = 2) : refs (m ++ [x]) = refs m ++ [x.2] := by simp [refs, h]
theorem refs_snoc_no {m : List Va} {x : Va} (h : ¬ x.1 = 2) : refs (m ++ [x]) = refs m := by simp [refs, h]
theorem refs_length (m : List Va) : (refs m).length ≤ m.length := by simpa [refs] using List.length_filter_le _ m
theorem mem_refs {m : List Va} {x : Int} : x ∈ refs m ↔ ∃ v, v ∈ m ∧ v.1 = 2 ∧ v.2 = x := by
  simp [refs]
def flat (σ : Gs) (t : Nat) : List Int := (List.range t).flatMap fun s => refs (σ.hd s)
theorem flat_succ (σ : Gs) (t : Nat) : flat σ (t + 1) = flat σ t ++ refs (σ.hd t) := by simp [flat, List.range_succ]
theorem flat_length {σ : Gs} (h : σ.Ok) : ∀ t, (flat σ t).length ≤ 16 * t
  | 0 => by simp [flat]
  | t + 1 => by
    rw [flat_succ, List.length_append]
    have h1 := flat_length h t
    have h2 := refs_length (σ.hd t)
    have h3 := h.hl t
    omega
theorem mem_flat {σ : Gs} {x : Int} : ∀ {t : Nat}, x ∈ flat σ t ↔ ∃ s, s < t ∧ x ∈ refs (σ.hd s) := by
  intro t
  simp [flat]
def rest (nd : Nat → List Va) (m : Nat → Bool) : Nat → Nat
  | 0 => 0
  | n + 1 => rest nd m n + if m n = true then 0 else (nd n).length
theorem rest_congr {nd : Nat → List Va} {m m' : Nat → Bool} : ∀ {M : Nat}, (∀ n, n < M → m n = m' n) → rest nd m M = rest nd m' M
  | 0, _ => rfl
  | M + 1, h => by
    unfold rest
    rw [rest_congr (M := M) (fun n hn => h n (by omega)), h M (by omega)]
theorem rest_upd {nd : Nat → List Va} {m : Nat → Bool} {n : Nat} : ∀ {M : Nat}, n < M → m n = false → rest nd (upd m n true) M + (nd n).length = rest nd m M
  | 0, h, _ => by omega
  | M + 1, h, hm => by
    unfold rest
    by_cases e : n = M
    · subst e
      rw [rest_congr (m := upd m n true) (m' := m) (fun i hi => upd_else _ _ (by omega)), upd_same, hm]
      simp
    · rw [upd_else _ _ (by omega : M ≠ n)]
      have := rest_upd (M := M) (by omega) hm (nd := nd)
      omega
theorem rest_le {σ : Gs} (h : σ.Ok) (m : Nat → Bool) : ∀ M, rest σ.nd m M ≤ 127 * M
  | 0 => by simp [rest]
  | M + 1 => by
    unfold rest
    have h1 := rest_le h m M
    have h2 := h.nl M
    split <;> omega
structure Gone (σ : Gs) (L : List Int) (k : Nat) (m : Nat → Bool) : Prop where
  le : k ≤ L.length
  mt : ∀ n, n < σ.M → (m n = true ↔ (n : Int) ∈ L.take k)
  ok : ∀ x, x ∈ L → 0 ≤ x ∧ x < σ.M ∧ Rch σ x.toNat
  z : (0 : Int) ∈ L
  hd : ∀ t, t < σ.N → ∀ x, x ∈ refs (σ.hd t) → x ∈ L
  nd : ∀ n, n < σ.M → m n = true → ∀ x, x ∈ refs (σ.nd n) → x ∈ L
  bd : L.length + rest σ.nd m σ.M ≤ 200000
theorem Gone.start {σ : Gs} (h : σ.Ok) : Gone σ (0 :: flat σ σ.N) 0 (fun _ => false) := by
  have hf := flat_length h σ.N
  refine ⟨Nat.zero_le _, fun n hn => by simp, fun x hx => ?_, by simp, fun t ht x hx => ?_, fun n hn e => (by cases e), ?_⟩
  · rcases List.mem_cons.1 hx with rfl | hx
    · exact ⟨Int.le_refl _, by have := h.m0; omega, Rch.zero⟩
    · obtain ⟨s, hs, hx⟩ := mem_flat.1 hx
      obtain ⟨v, hv, h2, rfl⟩ := mem_refs.1 hx
      have := h.hr s v hv h2
      exact ⟨this.1, this.2, Rch.held s hs v hv h2⟩
  · exact List.mem_cons_of_mem _ (mem_flat.2 ⟨t, ht, hx⟩)
  · have h1 := rest_le h (fun _ => false) σ.M
    have h2 := h.m
    have h3 := h.n
    rw [List.length_cons]
    omega
theorem Gone.old {σ : Gs} {L : List Int} {k : Nat} {m : Nat → Bool} (h : Gone σ L k m) {n : Nat} (hk : k < L.length) (hn : L.getD k 0 = (n : Int)) (hm : m n = true) (hM : n < σ.M) : Gone σ L (k + 1) m := by
  refine ⟨hk, fun i hi => ?_, h.ok, h.z, h.hd, h.nd, h.bd⟩
  have e : L.take (k + 1) = L.take k ++ [(n : Int)] := by
    rw [List.take_succ_eq_append_getElem hk, ← hn, List.getD_eq_getElem?_getD, List.getElem?_eq_getElem hk]
    rfl
  rw [h.mt i hi, e, List.mem_append, List.mem_singleton]
  refine ⟨.inl, fun hx => hx.elim id (fun e => ?_)⟩
  have : i = n := by omega
  subst this
  exact (h.mt i hi).1 hm
theorem Gone.new {σ : Gs} {L : List Int} {k : Nat} {m : Nat → Bool} (ok : σ.Ok) (h : Gone σ L k m) {n : Nat} (hk : k < L.length) (hn : L.getD k 0 = (n : Int)) (hm : m n = false) (hM : n < σ.M) : Gone σ (L ++ refs (σ.nd n)) (k + 1) (upd m n true) := by
  have hmem : (n : Int) ∈ L := by
    rw [← hn, List.getD_eq_getElem?_getD, List.getElem?_eq_getElem hk]
    exact List.getElem_mem hk
  have hr : Rch σ n := by simpa using (h.ok _ hmem).2.2
  have e : L.take (k + 1) = L.take k ++ [(n : Int)] := by
    rw [List.take_succ_eq_append_getElem hk, ← hn, List.getD_eq_getElem?_getD, List.getElem?_eq_getElem hk]
    rfl
  refine ⟨by rw [List.length_append]; omega, fun i hi => ?_, fun x hx => ?_, List.mem_append_left _ h.z, fun t ht x hx => List.mem_append_left _ (h.hd t ht x hx), fun i hi hmi x hx => ?_, ?_⟩
  · rw [List.take_append_of_le_length hk, e, List.mem_append, List.mem_singleton]
    by_cases ei : i = n
    · subst ei
      simp [upd_same]
    · rw [upd_else _ _ ei, h.mt i hi]
      exact ⟨.inl, fun hx => hx.elim id (fun e => absurd (by omega) ei)⟩
  · rcases List.mem_append.1 hx with hx | hx
    · exact h.ok x hx
    · obtain ⟨v, hv, h2, rfl⟩ := mem_refs.1 hx
      have := ok.nr n v hM hv h2
      exact ⟨this.1, this.2, Rch.field n hr v hv h2⟩
  · by_cases ei : i = n
    · subst ei
      exact List.mem_append_right _ hx
    · rw [upd_else _ _ ei] at hmi
      exact List.mem_append_left _ (h.nd i hi hmi x hx)
  · have h1 := rest_upd (nd := σ.nd) hM hm
    have h2 := refs_length (σ.nd n)
    have h3 := h.bd
    rw [List.length_append]
    omega
theorem Gone.all {σ : Gs} {L : List Int} {m : Nat → Bool} (ok : σ.Ok) (h : Gone σ L L.length m) : ∀ n, n < σ.M → (m n = true ↔ Rch σ n) := by
  have mt : ∀ n, n < σ.M → (m n = true ↔ (n : Int) ∈ L) := fun n hn => by
    have := h.mt n hn
    rwa [List.take_length] at this
  have key : ∀ n, Rch σ n → n < σ.M ∧ (n : Int) ∈ L := fun n hr => by
    induction hr with
    | zero => exact ⟨ok.m0, h.z⟩
    | held t ht v hv h2 =>
      have := ok.hr t v hv h2
      refine ⟨by omega, ?_⟩
      rw [show ((v.2.toNat : Nat) : Int) = v.2 by omega]
      exact h.hd t ht _ (mem_refs.2 ⟨v, hv, h2, rfl⟩)
    | field n _ v hv h2 ih =>
      have := ok.nr n v ih.1 hv h2
      refine ⟨by omega, ?_⟩
      rw [show ((v.2.toNat : Nat) : Int) = v.2 by omega]
      exact h.nd n ih.1 ((mt n ih.1).2 ih.2) _ (mem_refs.2 ⟨v, hv, h2, rfl⟩)
  exact fun n hn => ⟨fun e => by simpa using (h.ok _ ((mt n hn).1 e)).2.2, fun e => (mt n hn).2 (key n e).2⟩
end Go.Proofs.YtfhebjkoojodiaaDoor.gp
namespace Go.Proofs.YtfhebjkoojodiaaDoor.gq
open Go.ChangeShapes Go.WideShapes Go.ChangeAt Go.RowKit gen va cd gp
set_option linter.unusedVariables false
set_option maxHeartbeats 1000000
set_option maxRecDepth 100000
def un (m : Nat → Bool) : Nat → Nat
  | 0 => 0
  | n + 1 => un m n + if m n = true then 0 else 1
theorem un_congr {m m' : Nat → Bool} : ∀ {M : Nat}, (∀ n, n < M → m n = m' n) → un m M = un m' M
  | 0, _ => rfl
  | M + 1, h => by
    unfold un
    rw [un_congr (M := M) (fun n hn => h n (by omega)), h M (by omega)]
theorem un_upd {m : Nat → Bool} {n : Nat} : ∀ {M : Nat}, n < M → m n = false → un (upd m n true) M + 1 = un m M
  | 0, h, _ => by omega
  | M + 1, h, hm => by
    unfold un
    by_cases e : n = M
    · subst e
      rw [un_congr (m := upd m n true) (m' := m) (fun i hi => upd_else _ _ (by omega)), upd_same, hm]
      simp
    · rw [upd_else _ _ (by omega : M ≠ n)]
      have := un_upd (M := M) (by omega) hm
      omega
theorem un_le (m : Nat → Bool) : ∀ M, un m M ≤ M
  | 0 => Nat.le_refl _
  | M + 1 => by
    unfold un
    have := un_le m M
    split <;> omega
def met1 (p : List Int × (Nat → Bool)) (v : Va) : List Int × (Nat → Bool) := if v.1 = 2 ∧ p.2 v.2.toNat = false then (p.1 ++ [v.2], upd p.2 v.2.toNat true) else p
def metl (p : List Int × (Nat → Bool)) (l : List Va) : List Int × (Nat → Bool) := l.foldl met1 p
theorem metl_snoc (p : List Int × (Nat → Bool)) (l : List Va) (v : Va) : metl p (l ++ [v]) = met1 (metl p l) v := by simp [metl, List.foldl_append]
structure Wt (σ : Gs) (p : List Int × (Nat → Bool)) : Prop where
  ok : ∀ n, n < σ.M → p.2 n = true → Rch σ n
  st : ∀ x, x ∈ p.1 → 0 ≤ x ∧ x < σ.M ∧ p.2 x.toNat = true
  bd : p.1.length + un p.2 σ.M ≤ σ.M
def Dn (σ : Gs) (p : List Int × (Nat → Bool)) (n : Nat) : Prop := (n : Int) ∈ p.1 ∨ ∀ x, x ∈ refs (σ.nd n) → p.2 x.toNat = true
def Vld (σ : Gs) (l : List Va) : Prop := ∀ v, v ∈ l → v.1 = 2 → 0 ≤ v.2 ∧ v.2 < σ.M ∧ Rch σ v.2.toNat
theorem met1_grows (p : List Int × (Nat → Bool)) (v : Va) (n : Nat) (h : p.2 n = true) : (met1 p v).2 n = true := by
  unfold met1
  split
  · show upd p.2 v.2.toNat true n = true
    by_cases e : n = v.2.toNat
    · subst e; rw [upd_same]
    · rw [upd_else _ _ e]; exact h
  · exact h
theorem met1_mem (p : List Int × (Nat → Bool)) (v : Va) (x : Int) (h : x ∈ p.1) : x ∈ (met1 p v).1 := by
  unfold met1
  split
  · exact List.mem_append_left _ h
  · exact h
theorem metl_grows : ∀ (l : List Va) (p : List Int × (Nat → Bool)) (n : Nat), p.2 n = true → (metl p l).2 n = true
  | [], p, n, h => h
  | v :: l, p, n, h => metl_grows l (met1 p v) n (met1_grows p v n h)
theorem metl_mem : ∀ (l : List Va) (p : List Int × (Nat → Bool)) (x : Int), x ∈ p.1 → x ∈ (metl p l).1
  | [], p, x, h => h
  | v :: l, p, x, h => metl_mem l (met1 p v) x (met1_mem p v x h)
theorem Wt.met1 {σ : Gs} {p : List Int × (Nat → Bool)} (h : Wt σ p) {v : Va} (hv : v.1 = 2 → 0 ≤ v.2 ∧ v.2 < σ.M ∧ Rch σ v.2.toNat) : Wt σ (met1 p v) ∧ (v.1 = 2 → (met1 p v).2 v.2.toNat = true) ∧ (∀ n, n < σ.M → (met1 p v).2 n = true → p.2 n = false → (n : Int) ∈ (met1 p v).1) ∧ 2 * un (met1 p v).2 σ.M + (met1 p v).1.length ≤ 2 * un p.2 σ.M + p.1.length := by
  unfold gq.met1
  by_cases hc : v.1 = 2 ∧ p.2 v.2.toNat = false
  · rw [if_pos hc]
    obtain ⟨h0, hM, hr⟩ := hv hc.1
    have hu := un_upd (m := p.2) (n := v.2.toNat) (M := σ.M) (by omega) hc.2
    have hb := h.bd
    refine ⟨⟨fun n hn e => ?_, fun x hx => ?_, ?_⟩, fun _ => upd_same _ _ _, fun n hn e e2 => ?_, ?_⟩
    · have e' : upd p.2 v.2.toNat true n = true := e
      by_cases en : n = v.2.toNat
      · subst en; exact hr
      · rw [upd_else _ _ en] at e'; exact h.ok n hn e'
    · rcases List.mem_append.1 hx with hx | hx
      · obtain ⟨a, b, c⟩ := h.st x hx
        refine ⟨a, b, ?_⟩
        show upd p.2 v.2.toNat true x.toNat = true
        by_cases en : x.toNat = v.2.toNat
        · rw [en, upd_same]
        · rw [upd_else _ _ en]; exact c
      · obtain rfl := List.mem_singleton.1 hx
        exact ⟨h0, hM, upd_same _ _ _⟩
    · show (p.1 ++ [v.2]).length + un (upd p.2 v.2.toNat true) σ.M ≤ σ.M
      rw [List.length_append, List.length_singleton]
      omega
    · have e' : upd p.2 v.2.toNat true n = true := e
      by_cases en : n = v.2.toNat
      · subst en
        show ((v.2.toNat : Nat) : Int) ∈ p.1 ++ [v.2]
        rw [show ((v.2.toNat : Nat) : Int) = v.2 by omega]
        exact List.mem_append_right _ (List.mem_singleton.2 rfl)
      · rw [upd_else _ _ en, e2] at e'; cases e'
    · show 2 * un (upd p.2 v.2.toNat true) σ.M + (p.1 ++ [v.2]).length ≤ _
      rw [List.length_append, List.length_singleton]
      omega
  · rw [if_neg hc]
    refine ⟨h, fun e => ?_, fun n hn e e2 => (by rw [e2] at e; cases e), Nat.le_refl _⟩
    cases e2 : p.2 v.2.toNat with
    | true => rfl
    | false => exact absurd ⟨e, e2⟩ hc
theorem Wt.metl {σ : Gs} : ∀ (l : List Va) {p : List Int × (Nat → Bool)}, Wt σ p → Vld σ l → Wt σ (metl p l) ∧ (∀ v, v ∈ l → v.1 = 2 → (metl p l).2 v.2.toNat = true) ∧ (∀ n, n < σ.M → (metl p l).2 n = true → p.2 n = false → (n : Int) ∈ (metl p l).1) ∧ 2 * un (metl p l).2 σ.M + (metl p l).1.length ≤ 2 * un p.2 σ.M + p.1.length
  | [], p, h, _ => ⟨h, fun v hv => (by cases hv), fun n hn e e2 => (by have e' : p.2 n = true := e; rw [e2] at e'; cases e'), Nat.le_refl _⟩
  | v :: l, p, h, hl => by
    obtain ⟨w1, a1, b1, c1⟩ := h.met1 (v := v) (hl v (List.mem_cons_self ..))
    obtain ⟨w2, a2, b2, c2⟩ := Wt.metl l w1 (fun u hu => hl u (List.mem_cons_of_mem _ hu))
    refine ⟨w2, fun u hu e => ?_, fun n hn e e2 => ?_, Nat.le_trans c2 c1⟩
    · rcases List.mem_cons.1 hu with rfl | hu
      · exact metl_grows l _ _ (a1 e)
      · exact a2 u hu e
    · cases e3 : (gq.met1 p v).2 n with
      | true => exact metl_mem l _ _ (b1 n hn e3 e2)
      | false => exact b2 n hn e e3
theorem Dn.metl {σ : Gs} {p : List Int × (Nat → Bool)} {l : List Va} {n : Nat} (h : Dn σ p n) : Dn σ (metl p l) n := h.imp (fun e => metl_mem l p _ e) (fun e x hx => metl_grows l p _ (e x hx))
theorem all_done {σ : Gs} {p : List Int × (Nat → Bool)} (h : Wt σ p) {l : List Va} (hl : Vld σ l) (hd : ∀ n, n < σ.M → p.2 n = true → Dn σ p n) : ∀ n, n < σ.M → (metl p l).2 n = true → Dn σ (metl p l) n := fun n hn e => by
  cases e2 : p.2 n with
  | true => exact (hd n hn e2).metl
  | false => exact .inl ((h.metl l hl).2.2.1 n hn e e2)
theorem take_one {σ : Gs} (ok : σ.Ok) {L : List Int} {m : Nat → Bool} {n : Nat} (h : Wt σ (L ++ [(n : Int)], m)) (hd : ∀ i, i < σ.M → m i = true → Dn σ (L ++ [(n : Int)], m) i) :
    n < σ.M ∧ Vld σ (σ.nd n) ∧ Wt σ (L, m) ∧ Wt σ (metl (L, m) (σ.nd n)) ∧ (∀ i, i < σ.M → (metl (L, m) (σ.nd n)).2 i = true → Dn σ (metl (L, m) (σ.nd n)) i) ∧ 2 * un (metl (L, m) (σ.nd n)).2 σ.M + (metl (L, m) (σ.nd n)).1.length < 2 * un m σ.M + (L ++ [(n : Int)]).length := by
  obtain ⟨s1, s2, s3⟩ := h.st n (List.mem_append_right _ (List.mem_singleton.2 rfl))
  have hn : n < σ.M := by omega
  have hr : Rch σ n := h.ok n hn (by simpa using s3)
  have hv : Vld σ (σ.nd n) := fun v hv e => by
    have := ok.nr n v hn hv e
    exact ⟨this.1, this.2, Rch.field n hr v hv e⟩
  have hb := h.bd
  simp only [List.length_append, List.length_singleton] at hb
  have w0 : Wt σ (L, m) := ⟨h.ok, fun x hx => h.st x (List.mem_append_left _ hx), by show L.length + un m σ.M ≤ σ.M; omega⟩
  obtain ⟨w1, a1, b1, c1⟩ := w0.metl (σ.nd n) hv
  refine ⟨hn, hv, w0, w1, fun i hi e => ?_, by simp only [List.length_append, List.length_singleton]; have c1' : _ ≤ 2 * un m σ.M + L.length := c1; omega⟩
  cases e2 : m i with
  | false => exact .inl (b1 i hi e e2)
  | true =>
    by_cases ei : i = n
    · subst ei
      refine .inr (fun x hx => ?_)
      obtain ⟨v, hv', e3, rfl⟩ := mem_refs.1 hx
      exact a1 v hv' e3
    · rcases hd i hi e2 with hm | hm
      · rcases List.mem_append.1 hm with hm | hm
        · exact .inl (metl_mem _ _ _ hm)
        · rw [List.mem_singleton] at hm
          exact absurd (by omega) ei
      · exact .inr (fun x hx => metl_grows _ _ _ (hm x hx))
theorem wt_end {σ : Gs} (ok : σ.Ok) {m : Nat → Bool} (h : Wt σ ([], m)) (hd : ∀ i, i < σ.M → m i = true → Dn σ ([], m) i) (h0 : m 0 = true) (hh : ∀ t, t < σ.N → ∀ v, v ∈ σ.hd t → v.1 = 2 → m v.2.toNat = true) : ∀ n, n < σ.M → (m n = true ↔ Rch σ n) := by
  have key : ∀ n, Rch σ n → n < σ.M ∧ m n = true := fun n hr => by
    induction hr with
    | zero => exact ⟨ok.m0, h0⟩
    | held t ht v hv h2 =>
      have := ok.hr t v hv h2
      exact ⟨by omega, hh t ht v hv h2⟩
    | field n _ v hv h2 ih =>
      have := ok.nr n v ih.1 hv h2
      refine ⟨by omega, ?_⟩
      rcases hd n ih.1 ih.2 with hm | hm
      · cases hm
      · exact hm _ (mem_refs.2 ⟨v, hv, h2, rfl⟩)
  exact fun n hn => ⟨fun e => h.ok n hn e, fun e => (key n e).2⟩
theorem wt_start {σ : Gs} (ok : σ.Ok) : Wt σ ([], fun _ => false) ∧ (∀ i, i < σ.M → (fun _ => false : Nat → Bool) i = true → Dn σ ([], fun _ => false) i) := ⟨⟨fun n hn e => (by cases e), fun x hx => (by cases hx), by simpa using un_le _ _⟩, fun i hi e => (by cases e)⟩
theorem vld_zero (σ : Gs) (ok : σ.Ok) : Vld σ [(2, 0)] := fun v hv e => by
  obtain rfl := List.mem_singleton.1 hv
  exact ⟨Int.le_refl _, by show (0 : Int) < σ.M; have := ok.m0; omega, Rch.zero⟩
theorem vld_held {σ : Gs} (ok : σ.Ok) {t : Nat} (ht : t < σ.N) : Vld σ (σ.hd t) := fun v hv e => by
  have := ok.hr t v hv e
  exact ⟨this.1, this.2, Rch.held t ht v hv e⟩
end Go.Proofs.YtfhebjkoojodiaaDoor.gq
