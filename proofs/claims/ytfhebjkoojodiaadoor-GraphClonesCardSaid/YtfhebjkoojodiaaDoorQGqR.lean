/- Texts that this claim stands on. -/
import Derived.Test.YtfhebjkoojodiaaDoorQGpN
namespace Go.Proofs.YtfhebjkoojodiaaDoor.gq
open Go.ChangeShapes Go.WideShapes Go.ChangeAt Go.RowKit gen va cd gp
set_option linter.unusedVariables false
set_option maxHeartbeats 1000000
set_option maxRecDepth 100000
def un (m : Nat → Bool) : Nat → Nat
  | 0 => 0
  | n + 1 => un m n + if m n = true then 0 else 1
theorem un_congr {m m' : Nat → Bool} : ∀ {M : Nat}, (∀ n, n < M → m n = m' n) → un m M = un m' M
  | 0, _ => rfl
  | M + 1, h => by
    unfold un
    rw [un_congr (M := M) (fun n hn => h n (by omega)), h M (by omega)]
theorem un_upd {m : Nat → Bool} {n : Nat} : ∀ {M : Nat}, n < M → m n = false → un (upd m n true) M + 1 = un m M
  | 0, h, _ => by omega
  | M + 1, h, hm => by
    unfold un
    by_cases e : n = M
    · subst e
      rw [un_congr (m := upd m n true) (m' := m) (fun i hi => upd_else _ _ (by omega)), upd_same, hm]
      simp
    · rw [upd_else _ _ (by omega : M ≠ n)]
      have := un_upd (M := M) (by omega) hm
      omega
theorem un_le (m : Nat → Bool) : ∀ M, un m M ≤ M
  | 0 => Nat.le_refl _
  | M + 1 => by
    unfold un
    have := un_le m M
    split <;> omega
def met1 (p : List Int × (Nat → Bool)) (v : Va) : List Int × (Nat → Bool) := if v.1 = 2 ∧ p.2 v.2.toNat = false then (p.1 ++ [v.2], upd p.2 v.2.toNat true) else p
def metl (p : List Int × (Nat → Bool)) (l : List Va) : List Int × (Nat → Bool) := l.foldl met1 p
theorem metl_snoc (p : List Int × (Nat → Bool)) (l : List Va) (v : Va) : metl p (l ++ [v]) = met1 (metl p l) v := by simp [metl, List.foldl_append]
structure Wt (σ : Gs) (p : List Int × (Nat → Bool)) : Prop where
  ok : ∀ n, n < σ.M → p.2 n = true → Rch σ n
  st : ∀ x, x ∈ p.1 → 0 ≤ x ∧ x < σ.M ∧ p.2 x.toNat = true
  bd : p.1.length + un p.2 σ.M ≤ σ.M
def Dn (σ : Gs) (p : List Int × (Nat → Bool)) (n : Nat) : Prop := (n : Int) ∈ p.1 ∨ ∀ x, x ∈ refs (σ.nd n) → p.2 x.toNat = true
def Vld (σ : Gs) (l : List Va) : Prop := ∀ v, v ∈ l → v.1 = 2 → 0 ≤ v.2 ∧ v.2 < σ.M ∧ Rch σ v.2.toNat
theorem met1_grows (p : List Int × (Nat → Bool)) (v : Va) (n : Nat) (h : p.2 n = true) : (met1 p v).2 n = true := by
  unfold met1
  split
  · show upd p.2 v.2.toNat true n = true
    by_cases e : n = v.2.toNat
    · subst e; rw [upd_same]
    · rw [upd_else _ _ e]; exact h
  · exact h
theorem met1_mem (p : List Int × (Nat → Bool)) (v : Va) (x : Int) (h : x ∈ p.1) : x ∈ (met1 p v).1 := by
  unfold met1
  split
  · exact List.mem_append_left _ h
  · exact h
theorem metl_grows : ∀ (l : List Va) (p : List Int × (Nat → Bool)) (n : Nat), p.2 n = true → (metl p l).2 n = true
  | [], p, n, h => h
  | v :: l, p, n, h => metl_grows l (met1 p v) n (met1_grows p v n h)
theorem metl_mem : ∀ (l : List Va) (p : List Int × (Nat → Bool)) (x : Int), x ∈ p.1 → x ∈ (metl p l).1
  | [], p, x, h => h
  | v :: l, p, x, h => metl_mem l (met1 p v) x (met1_mem p v x h)
theorem Wt.met1 {σ : Gs} {p : List Int × (Nat → Bool)} (h : Wt σ p) {v : Va} (hv : v.1 = 2 → 0 ≤ v.2 ∧ v.2 < σ.M ∧ Rch σ v.2.toNat) : Wt σ (met1 p v) ∧ (v.1 = 2 → (met1 p v).2 v.2.toNat = true) ∧ (∀ n, n < σ.M → (met1 p v).2 n = true → p.2 n = false → (n : Int) ∈ (met1 p v).1) ∧ 2 * un (met1 p v).2 σ.M + (met1 p v).1.length ≤ 2 * un p.2 σ.M + p.1.length := by
  unfold gq.met1
  by_cases hc : v.1 = 2 ∧ p.2 v.2.toNat = false
  · rw [if_pos hc]
    obtain ⟨h0, hM, hr⟩ := hv hc.1
    have hu := un_upd (m := p.2) (n := v.2.toNat) (M := σ.M) (by omega) hc.2
    have hb := h.bd
    refine ⟨⟨fun n hn e => ?_, fun x hx => ?_, ?_⟩, fun _ => upd_same _ _ _, fun n hn e e2 => ?_, ?_⟩
    · have e' : upd p.2 v.2.toNat true n = true := e
      by_cases en : n = v.2.toNat
      · subst en; exact hr
      · rw [upd_else _ _ en] at e'; exact h.ok n hn e'
    · rcases List.mem_append.1 hx with hx | hx
      · obtain ⟨a, b, c⟩ := h.st x hx
        refine ⟨a, b, ?_⟩
        show upd p.2 v.2.toNat true x.toNat = true
        by_cases en : x.toNat = v.2.toNat
        · rw [en, upd_same]
        · rw [upd_else _ _ en]; exact c
      · obtain rfl := List.mem_singleton.1 hx
        exact ⟨h0, hM, upd_same _ _ _⟩
    · show (p.1 ++ [v.2]).length + un (upd p.2 v.2.toNat true) σ.M ≤ σ.M
      rw [List.length_append, List.length_singleton]
      omega
    · have e' : upd p.2 v.2.toNat true n = true := e
      by_cases en : n = v.2.toNat
      · subst en
        show ((v.2.toNat : Nat) : Int) ∈ p.1 ++ [v.2]
        rw [show ((v.2.toNat : Nat) : Int) = v.2 by omega]
        exact List.mem_append_right _ (List.mem_singleton.2 rfl)
      · rw [upd_else _ _ en, e2] at e'; cases e'
    · show 2 * un (upd p.2 v.2.toNat true) σ.M + (p.1 ++ [v.2]).length ≤ _
      rw [List.length_append, List.length_singleton]
      omega
  · rw [if_neg hc]
    refine ⟨h, fun e => ?_, fun n hn e e2 => (by rw [e2] at e; cases e), Nat.le_refl _⟩
    cases e2 : p.2 v.2.toNat with
    | true => rfl
    | false => exact absurd ⟨e, e2⟩ hc
theorem Wt.metl {σ : Gs} : ∀ (l : List Va) {p : List Int × (Nat → Bool)}, Wt σ p → Vld σ l → Wt σ (metl p l) ∧ (∀ v, v ∈ l → v.1 = 2 → (metl p l).2 v.2.toNat = true) ∧ (∀ n, n < σ.M → (metl p l).2 n = true → p.2 n = false → (n : Int) ∈ (metl p l).1) ∧ 2 * un (metl p l).2 σ.M + (metl p l).1.length ≤ 2 * un p.2 σ.M + p.1.length
  | [], p, h, _ => ⟨h, fun v hv => (by cases hv), fun n hn e e2 => (by have e' : p.2 n = true := e; rw [e2] at e'; cases e'), Nat.le_refl _⟩
  | v :: l, p, h, hl => by
    obtain ⟨w1, a1, b1, c1⟩ := h.met1 (v := v) (hl v (List.mem_cons_self ..))
    obtain ⟨w2, a2, b2, c2⟩ := Wt.metl l w1 (fun u hu => hl u (List.mem_cons_of_mem _ hu))
    refine ⟨w2, fun u hu e => ?_, fun n hn e e2 => ?_, Nat.le_trans c2 c1⟩
    · rcases List.mem_cons.1 hu with rfl | hu
      · exact metl_grows l _ _ (a1 e)
      · exact a2 u hu e
    · cases e3 : (gq.met1 p v).2 n with
      | true => exact metl_mem l _ _ (b1 n hn e3 e2)
      | false => exact b2 n hn e e3
theorem Dn.metl {σ : Gs} {p : List Int × (Nat → Bool)} {l : List Va} {n : Nat} (h : Dn σ p n) : Dn σ (metl p l) n := h.imp (fun e => metl_mem l p _ e) (fun e x hx => metl_grows l p _ (e x hx))
theorem all_done {σ : Gs} {p : List Int × (Nat → Bool)} (h : Wt σ p) {l : List Va} (hl : Vld σ l) (hd : ∀ n, n < σ.M → p.2 n = true → Dn σ p n) : ∀ n, n < σ.M → (metl p l).2 n = true → Dn σ (metl p l) n := fun n hn e => by
  cases e2 : p.2 n with
  | true => exact (hd n hn e2).metl
  | false => exact .inl ((h.metl l hl).2.2.1 n hn e e2)
theorem take_one {σ : Gs} (ok : σ.Ok) {L : List Int} {m : Nat → Bool} {n : Nat} (h : Wt σ (L ++ [(n : Int)], m)) (hd : ∀ i, i < σ.M → m i = true → Dn σ (L ++ [(n : Int)], m) i) :
    n < σ.M ∧ Vld σ (σ.nd n) ∧ Wt σ (L, m) ∧ Wt σ (metl (L, m) (σ.nd n)) ∧ (∀ i, i < σ.M → (metl (L, m) (σ.nd n)).2 i = true → Dn σ (metl (L, m) (σ.nd n)) i) ∧ 2 * un (metl (L, m) (σ.nd n)).2 σ.M + (metl (L, m) (σ.nd n)).1.length < 2 * un m σ.M + (L ++ [(n : Int)]).length := by
  obtain ⟨s1, s2, s3⟩ := h.st n (List.mem_append_right _ (List.mem_singleton.2 rfl))
  have hn : n < σ.M := by omega
  have hr : Rch σ n := h.ok n hn (by simpa using s3)
  have hv : Vld σ (σ.nd n) := fun v hv e => by
    have := ok.nr n v hn hv e
    exact ⟨this.1, this.2, Rch.field n hr v hv e⟩
  have hb := h.bd
  simp only [List.length_append, List.length_singleton] at hb
  have w0 : Wt σ (L, m) := ⟨h.ok, fun x hx => h.st x (List.mem_append_left _ hx), by show L.length + un m σ.M ≤ σ.M; omega⟩
  obtain ⟨w1, a1, b1, c1⟩ := w0.metl (σ.nd n) hv
  refine ⟨hn, hv, w0, w1, fun i hi e => ?_, by simp only [List.length_append, List.length_singleton]; have c1' : _ ≤ 2 * un m σ.M + L.length := c1; omega⟩
  cases e2 : m i with
  | false => exact .inl (b1 i hi e e2)
  | true =>
    by_cases ei : i = n
    · subst ei
      refine .inr (fun x hx => ?_)
      obtain ⟨v, hv', e3, rfl⟩ := mem_refs.1 hx
      exact a1 v hv' e3
    · rcases hd i hi e2 with hm | hm
      · rcases List.mem_append.1 hm with hm | hm
        · exact .inl (metl_mem _ _ _ hm)
        · rw [List.mem_singleton] at hm
          exact absurd (by omega) ei
      · exact .inr (fun x hx => metl_grows _ _ _ (hm x hx))
theorem wt_end {σ : Gs} (ok : σ.Ok) {m : Nat → Bool} (h : Wt σ ([], m)) (hd : ∀ i, i < σ.M → m i = true → Dn σ ([], m) i) (h0 : m 0 = true) (hh : ∀ t, t < σ.N → ∀ v, v ∈ σ.hd t → v.1 = 2 → m v.2.toNat = true) : ∀ n, n < σ.M → (m n = true ↔ Rch σ n) := by
  have key : ∀ n, Rch σ n → n < σ.M ∧ m n = true := fun n hr => by
    induction hr with
    | zero => exact ⟨ok.m0, h0⟩
    | held t ht v hv h2 =>
      have := ok.hr t v hv h2
      exact ⟨by omega, hh t ht v hv h2⟩
    | field n _ v hv h2 ih =>
      have := ok.nr n v ih.1 hv h2
      refine ⟨by omega, ?_⟩
      rcases hd n ih.1 ih.2 with hm | hm
      · cases hm
      · exact hm _ (mem_refs.2 ⟨v, hv, h2, rfl⟩)
  exact fun n hn => ⟨fun e => h.ok n hn e, fun e => (key n e).2⟩
theorem wt_start {σ : Gs} (ok : σ.Ok) : Wt σ ([], fun _ => false) ∧ (∀ i, i < σ.M → (fun _ => false : Nat → Bool) i = true → Dn σ ([], fun _ => false) i) := ⟨⟨fun n hn e => (by cases e), fun x hx => (by cases hx), by simpa using un_le _ _⟩, fun i hi e => (by cases e)⟩
theorem vld_zero (σ : Gs) (ok : σ.Ok) : Vld σ [(2, 0)] := fun v hv e => by
  obtain rfl := List.mem_singleton.1 hv
  exact ⟨Int.le_refl _, by show (0 : Int) < σ.M; have := ok.m0; omega, Rch.zero⟩
theorem vld_held {σ : Gs} (ok : σ.Ok) {t : Nat} (ht : t < σ.N) : Vld σ (σ.hd t) := fun v hv e => by
  have := ok.hr t v hv e
  exact ⟨this.1, this.2, Rch.held t ht v hv e⟩
end Go.Proofs.YtfhebjkoojodiaaDoor.gq
