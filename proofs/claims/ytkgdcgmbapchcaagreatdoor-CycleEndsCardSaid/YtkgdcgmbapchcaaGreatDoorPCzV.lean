/- Texts that this claim stands on. -/
import Derived.Test.YtkgdcgmbapchcaaGreatDoorPCzS
namespace Go.Proofs.YtkgdcgmbapchcaaGreatDoor.cy
open Go.ChangeShapes Go.WideShapes Go.ChangeAt Go.RowKit gen calls cls geos ce st sh
set_option linter.unusedVariables false
set_option maxHeartbeats 4000000
set_option maxRecDepth 100000
section
variable {k : Kn} {σ τ ρ : Cy} {t i n m r N : Nat} {a b z p : Int} {tk : List Int} {R : Int → Prop} {l : List Va} {fl : Int → List Va} {s : Ps} {ws : List Nat}
theorem sum_sub {f : Int → Nat} : ∀ (A B : List Int), A.Nodup → (∀ a ∈ A, a ∈ B) → (A.map f).sum ≤ (B.map f).sum
  | [], B, _, _ => by simp
  | a :: A, B, h1, h2 => by
    obtain ⟨n1, n2⟩ := List.nodup_cons.1 h1
    obtain ⟨s, t, e⟩ := List.append_of_mem (h2 a (by simp))
    have ih := sum_sub (f := f) A (s ++ t) n2 fun b hb => by
      have h3 := h2 b (by simp [hb])
      rw [e] at h3
      rcases List.mem_append.1 h3 with h4 | h4
      · exact List.mem_append_left _ h4
      · rcases List.mem_cons.1 h4 with h5 | h5
        · exact absurd (h5 ▸ hb) n1
        · exact List.mem_append_right _ h5
    subst e
    simp only [List.map_append, List.map_cons, List.sum_append, List.sum_cons] at ih ⊢
    omega
theorem us_eq : ∀ l : List Int, rc.us fl N ws l + ((l.filter fun a => isb ws a).map fun a => (fl a).length + 1).sum + N * mks l ws = (l.map fun a => (fl a).length + 1).sum + N * l.length
  | [] => by simp [rc.us, mks]
  | a :: l => by
    have ih := us_eq l
    unfold mks at ih ⊢
    unfold rc.us
    by_cases h : isb ws a = true
    · rw [List.filter_cons_of_pos (p := fun a => isb ws a) h, if_pos h]
      simp only [List.map_cons, List.sum_cons, List.length_cons, Nat.mul_succ]
      omega
    · rw [List.filter_cons_of_neg (p := fun a => isb ws a) h, if_neg h]
      simp only [List.map_cons, List.sum_cons, List.length_cons, Nat.mul_succ]
      omega
theorem es_le : ∀ m : List Va, (∀ e ∈ m, 0 ≤ e.2) → rc.es fl m ≤ ((m.map (·.1)).map fun a => (fl a).length + 1).sum
  | [], _ => by simp [rc.es]
  | e :: m, h => by
    have ih := es_le m fun x hx => h x (by simp [hx])
    unfold rc.es at ih ⊢
    simp only [List.map_cons, List.sum_cons] at ih ⊢
    have : rc.wt fl e ≤ (fl e.1).length + 1 := by unfold rc.wt; omega
    omega
theorem span_sum {f : Int → Nat} : ∀ (l : List Int) (lo hi : Int), l.Pairwise (fun a b => a + (f a : Int) ≤ b) → (∀ a ∈ l, lo ≤ a ∧ a + (f a : Int) ≤ hi) → lo ≤ hi → ((l.map f).sum : Int) ≤ hi - lo
  | [], lo, hi, _, _, h => by simp; omega
  | a :: l, lo, hi, hp, hb, h => by
    obtain ⟨h1, h2⟩ := List.pairwise_cons.1 hp
    obtain ⟨h3, h4⟩ := hb a (by simp)
    have ih := span_sum l (a + (f a : Int)) hi h2 (fun b hb' => ⟨h1 b hb', (hb b (by simp [hb'])).2⟩) h4
    simp only [List.map_cons, List.sum_cons]
    omega
theorem W_le (h : I3 tk fl R r s p) (hn : tk.Nodup) (hp : -1 ≤ p ∧ p < N) : rc.W tk fl N s + tc.left N p ≤ (tk.map fun a => (fl a).length + 1).sum + N * tk.length := by
  have e1 := us_eq (fl := fl) (N := N) (ws := s.ws) tk
  have e2 := es_le (fl := fl) s.m fun e he => (h.i.en e he).2.1
  have e3 := sum_sub (f := fun a => (fl a).length + 1) (s.m.map (·.1)) (tk.filter fun a => isb s.ws a) h.nd fun a ha => by
    obtain ⟨e, he, rfl⟩ := List.mem_map.1 ha
    have := (h.i.en e he).1
    exact List.mem_filter.2 ⟨(h.i.mr _ this).1, this⟩
  have e23 := Nat.le_trans e2 e3
  clear e2 e3
  have ct := h.ct
  have e4 : N * ((if s.b = true then 1 else 0) + (if 0 ≤ p then 1 else 0)) ≤ N * mks tk s.ws := Nat.mul_le_mul_left _ ct
  have e5 : tc.left N p ≤ N * (if 0 ≤ p then 1 else 0) := by
    unfold tc.left
    split
    · exact Nat.zero_le _
    · rw [if_pos (by omega)]; omega
  have e6 : (if s.b = true then N else 0) = N * (if s.b = true then 1 else 0) := by split <;> omega
  unfold rc.W
  rw [Nat.mul_add] at e4
  omega
theorem bz_two {ks xs cs tk : List Int} {fr : Nat → List Int} (O : Ok ks xs cs tk fr) {a : Int} (ha : a ∈ tk) : 2 ≤ bz ks a := by
  rcases (O.tkn a).1 ha with ⟨k5, _⟩ | ⟨⟨k1, k4⟩, _⟩
  · rw [bz, if_pos k5]; have := siz_ge (ks := ks) (p := a / 32) (by omega); omega
  · rw [bz, if_neg (by omega)]
    rcases small k1 k4 with e | e | e | e <;> rw [e] <;> decide
theorem apart_sum (V : st.Iv σ.x) {f : Int → Nat} (hf : ∀ a ∈ σ.x.tk, (f a : Int) ≤ bz σ.x.ks a) : ((σ.x.tk.map f).sum : Int) ≤ σ.x.xs.length := by
  have := span_sum (f := f) σ.x.tk 0 σ.x.xs.length (V.ok.up.imp_of_mem fun {a b} ha hb hlt => by
    have h1 := hf a ha
    refine Int.le_trans (Int.add_le_add_left h1 a) ?_
    refine Int.not_lt.1 fun h2 => ?_
    have e1 := base_in V.ok ha (x := b) (by omega) h2
    have e2 := base_in V.ok hb (x := b) (by omega) (by have := bz_pos V.ok hb; omega)
    omega) (fun a ha => by
    have h1 := hf a ha
    have h2 := bz_in V.ok ha
    exact ⟨h2.1, by omega⟩) (by omega)
  omega
def Cy.pot (k : Kn) (σ : Cy) : Nat := if σ.ph = 0 then 0 else if σ.ph = 5 then k.N - σ.q else rc.W σ.x.tk (tc.fls σ.x) k.N σ.s + tc.left k.N σ.p + k.N
theorem Inv.i3' (h : Inv k σ) (hk : Kok k) (hp : 1 ≤ σ.ph ∧ σ.ph ≤ 4) : I3 σ.x.tk (tc.fls σ.x) All1 k.r σ.s σ.p ∧ (-1 ≤ σ.p ∧ σ.p < k.N) := by
  by_cases h1 : σ.ph = 1
  · obtain ⟨i1, i2, i3⟩ := h.idl (by omega)
    have := hk.N
    rw [i3]
    exact ⟨i3_zero h.fi (h.lo (by omega)) i1 i2, by omega, by omega⟩
  · exact h.i3 (by omega)
theorem Inv.pot_le (h : Inv k σ) (hk : Kok k) : σ.pot k ≤ 32 * k.N + 16 * (k.N * k.N) + k.N := by
  unfold Cy.pot
  split
  · exact Nat.zero_le _
  · split
    · omega
    · have p5 := h.p5
      obtain ⟨I, hp⟩ := h.i3' hk (by omega)
      have V := h.iv
      have e1 := W_le (N := k.N) I (sw.tk_nodup V) hp
      have e2 := apart_sum V (f := fun a => (tc.fls σ.x a).length + 1) fun a ha => by
        obtain ⟨s, m, l1, l2, l3, l4⟩ := V.live a ha
        have : (tc.fls σ.x a).length = (σ.x.xs.getD a.toNat 0 % 128).toNat := tc.fls_len a
        show (((tc.fls σ.x a).length + 1 : Nat) : Int) ≤ _
        rw [this, l4]
        omega
      have e3 := apart_sum V (f := fun _ => 2) fun a ha => bz_two V.ok ha
      have e4 := V.ok.len
      have e5 := h.xN
      have e6 : (σ.x.tk.map fun _ => 2).sum = 2 * σ.x.tk.length := by rw [List.map_const', List.sum_replicate_nat]; omega
      rw [e6] at e3
      have e7 : k.N * σ.x.tk.length ≤ k.N * (16 * k.N) := Nat.mul_le_mul_left _ (by omega)
      have e8 : k.N * (16 * k.N) = 16 * (k.N * k.N) := by rw [Nat.mul_left_comm]
      omega
theorem left_none : tc.left N (-1) = 0 := rfl
theorem shs_W (h : Inv k σ) (hp : 2 ≤ σ.ph ∧ σ.ph ≤ 4) {l' : List Int} (hl : ∀ a ∈ l', a ∈ σ.x.tk) : rc.W σ.x.tk (tc.fls σ.x) k.N (shs k.r σ.s l') ≤ rc.W σ.x.tk (tc.fls σ.x) k.N σ.s :=
  (shs3 (h.gd (by omega)) (h.i3 hp).1 (fun a ha => ⟨hl a ha, trivial⟩)).2.2.1
theorem lead_pot (h : Inv k σ) (hk : Kok k) : (σ.lead k).pot k ≤ σ.pot k := by
  have p5 := h.p5
  have N := hk.N
  have mid : ∀ ρ : Cy, ρ.ph ≠ 0 → ρ.ph ≠ 5 → ρ.pot k = rc.W ρ.x.tk (tc.fls ρ.x) k.N ρ.s + tc.left k.N ρ.p + k.N := fun ρ h1 h2 => by unfold Cy.pot; rw [if_neg h1, if_neg h2]
  have five : ∀ ρ : Cy, ρ.ph = 5 → ρ.pot k = k.N - ρ.q := fun ρ h2 => by unfold Cy.pot; rw [if_neg (by omega), if_pos h2]
  unfold Cy.lead
  split
  · split
    · rename_i h1
      obtain ⟨i1, i2, i3⟩ := h.idl (by omega)
      have S := (shade3 (h.gd (by omega)) (i3_zero (R := All1) (r := k.r) h.fi (h.lo (by omega)) i1 i2) h.glg.1 trivial).2.2.2
      rw [mid σ (by omega) (by omega)]
      split
      · rw [mid _ (by show (3 : Nat) ≠ 0; decide) (by show (3 : Nat) ≠ 5; decide)]
        show rc.W σ.x.tk (tc.fls σ.x) k.N (σ.s.shade k.r k.gl) + tc.left k.N σ.p + k.N ≤ _
        omega
      · rw [mid _ (by show (2 : Nat) ≠ 0; decide) (by show (2 : Nat) ≠ 5; decide)]
        show rc.W σ.x.tk (tc.fls σ.x) k.N (σ.s.shade k.r k.gl) + tc.left k.N σ.p + k.N ≤ _
        omega
    · split
      · rename_i h2
        rw [mid σ (by omega) (by omega), mid _ (by show (3 : Nat) ≠ 0; decide) (by show (3 : Nat) ≠ 5; decide)]
        exact Nat.le_refl _
      · split
        · rename_i h4
          rw [mid σ (by omega) (by omega)]
          unfold Cy.n4
          split
          · rw [five _ rfl]
            show k.N - 0 ≤ _
            omega
          · rw [mid _ (by show (3 : Nat) ≠ 0; decide) (by show (3 : Nat) ≠ 5; decide)]
            exact Nat.le_refl _
        · exact Nat.le_refl _
  · exact Nat.le_refl _
theorem polled_pot (h : Inv k σ) (hk : Kok k) : (σ.polled k t).pot k ≤ σ.pot k := by
  unfold Cy.pot
  show (if σ.ph = 0 then 0 else if σ.ph = 5 then k.N - σ.q else rc.W σ.x.tk (tc.fls σ.x) k.N (if σ.ph = 2 then shs k.r σ.s (ro.rf (σ.rt.getD t [])) else if σ.ph = 4 then shs k.r σ.s (σ.bf.getD t []) else σ.s) + tc.left k.N σ.p + k.N) ≤ _
  split
  · exact Nat.le_refl _
  · split
    · exact Nat.le_refl _
    · split
      · have := shs_W h (by omega) (l' := ro.rf (σ.rt.getD t [])) fun a ha => (h.rtg t a (rf_mem.1 ha)).1
        omega
      · split
        · have := shs_W h (by omega) (l' := σ.bf.getD t []) fun a ha => h.bT (by omega) a ⟨t, ha⟩
          omega
        · exact Nat.le_refl _
theorem unit_pot (h : Inv k σ) (hk : Kok k) (hu : σ.unb = true) : (σ.unit k).pot k + 1 ≤ σ.pot k := by
  unfold Cy.unb at hu
  simp only [Bool.or_eq_true, Bool.and_eq_true, decide_eq_true_eq, Bool.not_eq_true'] at hu
  unfold Cy.unit
  rcases hu with ⟨h3, hi⟩ | h5
  · rw [if_pos h3, if_neg (by rw [hi]; decide)]
    have := (h.u3 hk h3 hi).2
    have e1 : (σ.u3 k).pot k = rc.W (σ.u3 k).x.tk (tc.fls (σ.u3 k).x) k.N (σ.u3 k).s + tc.left k.N (σ.u3 k).p + k.N := by unfold Cy.pot; rw [if_neg (by show σ.ph ≠ 0; omega), if_neg (by show σ.ph ≠ 5; omega)]
    have e2 : σ.pot k = rc.W σ.x.tk (tc.fls σ.x) k.N σ.s + tc.left k.N σ.p + k.N := by unfold Cy.pot; rw [if_neg (by omega), if_neg (by omega)]
    omega
  · rw [if_neg (by omega), if_pos h5]
    have hq := (h.q5 h5).1
    have e2 : σ.pot k = k.N - σ.q := by unfold Cy.pot; rw [if_neg (by omega), if_pos h5]
    rw [e2]
    by_cases e : σ.q + 1 = k.N
    · have e3 : (σ.u5 k).ph = 0 := by show (if σ.q + 1 = k.N then 0 else 5) = 0; rw [if_pos e]
      have e4 : (σ.u5 k).pot k = 0 := by unfold Cy.pot; rw [if_pos e3]
      omega
    · have e3 : (σ.u5 k).ph = 5 := by show (if σ.q + 1 = k.N then 0 else 5) = 5; rw [if_neg e]
      have e4 : (σ.u5 k).pot k = k.N - (σ.q + 1) := by unfold Cy.pot; rw [if_neg (by omega), if_pos e3]; rfl
      omega
theorem unit_pot' (h : Inv k σ) (hk : Kok k) (hu : σ.unb = false) : (σ.unit k).pot k ≤ σ.pot k := by
  unfold Cy.unb at hu
  simp only [Bool.or_eq_false_iff, Bool.and_eq_false_iff, decide_eq_false_iff_not, Bool.not_eq_false'] at hu
  unfold Cy.unit
  split
  · rename_i h3
    rw [if_pos (by rcases hu.1 with e | e; exact absurd h3 e; exact e)]
    refine Nat.le_trans (lead_pot (h.to4 h3) hk) ?_
    unfold Cy.pot
    rw [if_neg (by show (4 : Nat) ≠ 0; decide), if_neg (by show (4 : Nat) ≠ 5; decide), if_neg (by omega), if_neg (by omega)]
    exact Nat.le_refl _
  · rw [if_neg hu.2]
    exact Nat.le_refl _
def Cy.pl (k : Kn) (σ : Cy) (t : Nat) : Cy := if σ.lv t = true ∧ ep.of σ.th t ≠ σ.e then (σ.polled k t).lead k else σ
theorem lv_lt (h : Inv k σ) (hl : σ.lv t = true) : t < k.n := by
  obtain ⟨j, e, h1, _⟩ := lv_of hl
  have := h.thl
  omega
theorem pl_inv (h : Inv k σ) (S : Stl σ) (hk : Kok k) (t : Nat) : Inv k (σ.pl k t) ∧ Stl (σ.pl k t) := by
  unfold Cy.pl
  split
  · rename_i e
    exact h.poll hk S (lv_lt h e.1) e.2 e.1
  · exact ⟨h, S⟩
theorem pl_pot (h : Inv k σ) (hk : Kok k) (t : Nat) : (σ.pl k t).pot k ≤ σ.pot k := by
  unfold Cy.pl
  split
  · rename_i e
    exact Nat.le_trans (lead_pot (h.polled (lv_lt h e.1)) hk) (polled_pot h hk)
  · exact Nat.le_refl _
def Bn0 (σ : Cy) : Prop := ∀ t : Nat, σ.bf.getD t [] = []
def Bz (σ : Cy) : Prop := ∀ u : Nat, σ.lv u = true → ep.of σ.th u = σ.e → σ.bf.getD u [] = []
def Qr (σ : Cy) : Nat → Prop
  | 0 => σ.ph = 0
  | 1 => (σ.ph = 0 ∨ σ.ph = 4 ∨ σ.ph = 5) ∧ (σ.ph = 4 → Bn0 σ ∧ σ.idle = true)
  | 2 => (σ.ph = 0 ∨ σ.ph = 4 ∨ σ.ph = 5) ∧ (σ.ph = 4 → ∀ u : Nat, σ.lv u = true → ep.of σ.th u ≠ σ.e)
  | 3 => σ.ph ≠ 1 ∧ σ.ph ≠ 2
  | 4 => σ.ph ≠ 1
  | _ + 5 => True
def Pq (σ : Cy) : Nat → Prop
  | 0 => σ.ph = 0 ∨ σ.ph = 5
  | 1 => (σ.ph = 0 ∨ σ.ph = 3 ∨ σ.ph = 5) ∧ (σ.ph = 3 → Bn0 σ)
  | 2 => σ.ph = 0 ∨ σ.ph = 3 ∨ σ.ph = 5
  | 3 => σ.ph ≠ 1 ∧ σ.ph ≠ 2
  | _ + 4 => σ.ph ≠ 1
def Wq (σ : Cy) : Nat → Prop
  | 0 => σ.ph = 4 ∧ Bn0 σ ∧ σ.idle = true
  | 1 => σ.ph = 4 ∧ Bz σ
  | 2 => σ.ph = 4
  | 3 => σ.ph = 2
  | _ + 4 => σ.ph = 1
def Mq (σ : Cy) (r t : Nat) : Prop := Pq σ r ∨ (Wq σ r ∧ ∀ u : Nat, u < t → σ.lv u = true → ep.of σ.th u = σ.e)
theorem Qr.start (h : Inv k σ) : ∀ r, Qr σ (r + 1) → Mq σ r 0
  | 0, q => by
    rcases Nat.decEq σ.ph 4 with e | e
    · exact .inl (by show σ.ph = 0 ∨ σ.ph = 5; have := q.1; omega)
    · exact .inr ⟨⟨e, q.2 e⟩, fun u hu => by omega⟩
  | 1, q => by
    rcases Nat.decEq σ.ph 4 with e | e
    · exact .inl ⟨by have := q.1; omega, fun e3 => by have := q.1; omega⟩
    · exact .inr ⟨⟨e, fun u hl he => absurd he (q.2 e u hl)⟩, fun u hu => by omega⟩
  | 2, q => by
    have p5 := h.p5
    rcases Nat.decEq σ.ph 4 with e | e
    · exact .inl (by show σ.ph = 0 ∨ σ.ph = 3 ∨ σ.ph = 5; have := q.1; have := q.2; omega)
    · exact .inr ⟨e, fun u hu => by omega⟩
  | 3, q => by
    have q : σ.ph ≠ 1 := q
    rcases Nat.decEq σ.ph 2 with e | e
    · exact .inl ⟨q, e⟩
    · exact .inr ⟨e, fun u hu => by omega⟩
  | r + 4, q => by
    rcases Nat.decEq σ.ph 1 with e | e
    · exact .inl e
    · exact .inr ⟨e, fun u hu => by omega⟩
theorem pl_quiet (h : Inv k σ) (S : Stl σ) (hp : σ.ph = 0 ∨ σ.ph = 3 ∨ σ.ph = 5) (t : Nat) : σ.pl k t = σ := by
  unfold Cy.pl
  rw [if_neg fun e => e.2 ((ag_iff h.thr).1 (S.y hp) t e.1)]
theorem tot_nil (h : Inv k σ) (hb : Bn0 σ) : bf.tot σ.bf = 0 := by
  have : ∀ L : List (List Int), (∀ l ∈ L, l = []) → bf.tot L = 0 := fun L hL => by
    unfold bf.tot
    induction L with
    | nil => rfl
    | cons l L ih =>
      rw [List.map_cons, List.sum_cons, ih fun x hx => hL x (by simp [hx]), hL l (by simp)]
      rfl
  refine this _ fun l hl => ?_
  obtain ⟨i, hi⟩ := List.mem_iff_getElem?.1 hl
  have := hb i
  rw [List.getD_eq_getElem?_getD, hi] at this
  exact this
theorem bz_nil (h : Inv k σ) (hb : Bz σ) (ha : σ.ag = true) : Bn0 σ := fun t => by
  cases hl : σ.lv t with
  | true => exact hb t hl ((ag_iff h.thr).1 ha t hl)
  | false => exact (h.dead hl).2
theorem lead_ag (ha : σ.ag = true) (hk : Kok k) : (σ.ph = 1 → (σ.lead k).ph = 2 ∨ (σ.lead k).ph = 3) ∧ (σ.ph = 2 → (σ.lead k).ph = 3) ∧ (σ.ph = 4 → σ.lead k = σ.n4) := by
  unfold Cy.lead
  rw [if_pos ha]
  refine ⟨fun e => ?_, fun e => ?_, fun e => ?_⟩
  · rw [if_pos e]
    split
    · exact .inr rfl
    · exact .inl rfl
  · rw [if_neg (by omega), if_pos e]
    rfl
  · rw [if_neg (by omega), if_neg (by omega), if_pos e]
theorem lead_nag (ha : σ.ag = false) : σ.lead k = σ := by
  unfold Cy.lead
  rw [if_neg (by rw [ha]; decide)]
theorem n4_way : (σ.n4).ph = 5 ∨ ((σ.n4).ph = 3 ∧ (σ.n4).bf = σ.bf) := by
  unfold Cy.n4
  split
  · exact .inl rfl
  · exact .inr ⟨rfl, rfl⟩
theorem polled_lv (h : Inv k σ) (ht : t < k.n) (u : Nat) : (σ.polled k t).lv u = true → (u = t ∨ σ.lv u = true) := fun e => by
  have e : ep.lv (ep.of (σ.th.set t σ.e) u) = true := e
  rw [lv_set (by rw [h.thl]; exact ht)] at e
  split at e
  · rename_i e2; exact .inl (by omega)
  · exact .inr e
theorem polled_of (h : Inv k σ) (ht : t < k.n) (u : Nat) : ep.of (σ.polled k t).th u = if u = t then (σ.e : Int) else ep.of σ.th u := by
  show ep.of (σ.th.set t σ.e) u = _
  rw [of_set (by rw [h.thl]; exact ht)]
  by_cases e : u = t
  · rw [if_pos e, if_pos (by omega)]
  · rw [if_neg e, if_neg (by omega)]
theorem Pq.pl (h : Inv k σ) (S : Stl σ) (hk : Kok k) (t : Nat) : ∀ r, Pq σ r → Pq (σ.pl k t) r
  | 0, q => by rw [pl_quiet h S (by have q : σ.ph = 0 ∨ σ.ph = 5 := q; omega) t]; exact q
  | 1, q => by rw [pl_quiet h S (by have := q.1; omega) t]; exact q
  | 2, q => by rw [pl_quiet h S q t]; exact q
  | 3, q => by
    unfold Cy.pl
    split
    · have q : σ.ph ≠ 1 ∧ σ.ph ≠ 2 := q
      have p1 : (σ.polled k t).ph ≠ 1 := q.1
      have p2 : (σ.polled k t).ph ≠ 2 := q.2
      cases ha : (σ.polled k t).ag with
      | false => rw [lead_nag ha]; exact q
      | true =>
        rcases Nat.decEq (σ.polled k t).ph 4 with e | e
        · have : (σ.polled k t).lead k = σ.polled k t := by unfold Cy.lead; rw [if_pos ha, if_neg p1, if_neg p2, if_neg e]
          rw [this]; exact q
        · rw [(lead_ag ha hk).2.2 e]
          rcases n4_way (σ := σ.polled k t) with e | ⟨e, _⟩
          · exact ⟨by omega, by omega⟩
          · exact ⟨by omega, by omega⟩
    · exact q
  | r + 4, q => by
    unfold Cy.pl
    split
    · have q : σ.ph ≠ 1 := q
      have p1 : (σ.polled k t).ph ≠ 1 := q
      show ((σ.polled k t).lead k).ph ≠ 1
      cases ha : (σ.polled k t).ag with
      | false => rw [lead_nag ha]; exact q
      | true =>
        rcases Nat.decEq (σ.polled k t).ph 4 with e | e
        · rcases Nat.decEq (σ.polled k t).ph 2 with e2 | e2
          · have : (σ.polled k t).lead k = σ.polled k t := by unfold Cy.lead; rw [if_pos ha, if_neg p1, if_neg e2, if_neg e]
            rw [this]; exact q
          · rw [(lead_ag ha hk).2.1 e2]; decide
        · rw [(lead_ag ha hk).2.2 e]
          rcases n4_way (σ := σ.polled k t) with e | ⟨e, _⟩ <;> omega
    · exact q
theorem Wq.ph : ∀ r, Wq σ r → σ.ph = 1 ∨ σ.ph = 2 ∨ σ.ph = 4
  | 0, q => .inr (.inr q.1)
  | 1, q => .inr (.inr q.1)
  | 2, q => .inr (.inr q)
  | 3, q => .inr (.inl q)
  | r + 4, q => .inl q
theorem Wq.polled (h : Inv k σ) (ht : t < k.n) : ∀ r, Wq σ r → Wq (σ.polled k t) r
  | 0, q => by
    obtain ⟨e, q1, q2⟩ := q
    have e0 : shs k.r σ.s (σ.bf.getD t []) = σ.s := by rw [q1 t]; rfl
    have e1 : σ.polled k t = { σ with th := σ.th.set t σ.e, bf := σ.bf.set t [] } := by unfold Cy.polled; rw [if_neg (by omega), if_pos e, if_pos e, e0]
    refine ⟨e, fun u => ?_, ?_⟩
    · rw [e1]
      show (σ.bf.set t []).getD u [] = []
      rw [getD_set_nil]
      split
      · rfl
      · exact q1 u
    · rw [e1]; exact q2
  | 1, q => by
    refine ⟨q.1, fun u hl he => ?_⟩
    have e : (σ.polled k t).bf = σ.bf.set t [] := by show (if σ.ph = 4 then _ else _) = _; rw [if_pos q.1]
    rw [e, getD_set_nil]
    split
    · rfl
    · rename_i hne
      rw [polled_of h ht, if_neg hne] at he
      exact q.2 u ((polled_lv h ht u hl).elim (fun e => absurd e hne) id) he
  | 2, q => q
  | 3, q => q
  | r + 4, q => q
theorem Wq.lead (h : Inv k σ) (hk : Kok k) (ha : σ.ag = true) : ∀ r, Wq σ r → Pq (σ.lead k) r
  | 0, q => by
    obtain ⟨e, q1, q2⟩ := q
    rw [(lead_ag ha hk).2.2 e]
    unfold Cy.n4
    rw [if_pos ⟨tot_nil h q1, q2⟩]
    exact .inr rfl
  | 1, q => by
    rw [(lead_ag ha hk).2.2 q.1]
    have b0 := bz_nil h q.2 ha
    rcases n4_way (σ := σ) with e | ⟨e, e2⟩
    · exact ⟨by omega, by omega⟩
    · exact ⟨by omega, fun _ u => by rw [e2]; exact b0 u⟩
  | 2, q => by
    rw [(lead_ag ha hk).2.2 q]
    show σ.n4.ph = 0 ∨ σ.n4.ph = 3 ∨ σ.n4.ph = 5
    rcases n4_way (σ := σ) with e | ⟨e, e2⟩ <;> omega
  | 3, q => by
    have := (lead_ag ha hk).2.1 q
    exact ⟨by omega, by omega⟩
  | r + 4, q => by
    show (σ.lead k).ph ≠ 1
    have := (lead_ag ha hk).1 q
    omega
theorem Mq.pl (h : Inv k σ) (S : Stl σ) (hk : Kok k) (q : Mq σ r t) : Mq (σ.pl k t) r (t + 1) := by
  rcases q with q | ⟨q, ho⟩
  · exact .inl (Pq.pl h S hk t r q)
  · unfold Cy.pl
    split
    · rename_i e
      have ht := lv_lt h e.1
      have q' := Wq.polled h ht r q
      cases ha : (σ.polled k t).ag with
      | true => exact .inl (Wq.lead (h.polled ht) hk ha r q')
      | false =>
        rw [lead_nag ha]
        refine .inr ⟨q', fun u hu hl => ?_⟩
        rw [polled_of h ht]
        by_cases e2 : u = t
        · rw [if_pos e2]; rfl
        · rw [if_neg e2]
          exact ho u (by omega) ((polled_lv h ht u hl).elim (fun e => absurd e e2) id)
    · rename_i e
      refine .inr ⟨q, fun u hu hl => ?_⟩
      rcases Nat.lt_or_ge u t with h2 | h2
      · exact ho u h2 hl
      · obtain rfl : u = t := by omega
        rcases Int.decEq (ep.of σ.th u) σ.e with e3 | e3
        · exact absurd ⟨hl, e3⟩ e
        · exact e3
theorem Mq.fin (h : Inv k σ) (S : Stl σ) (hk : Kok k) (q : Mq σ r 8) : Pq σ r := by
  rcases q with q | ⟨q, ho⟩
  · exact q
  · have ha : σ.ag = true := (ag_iff h.thr).2 fun u hl => ho u (by have := lv_lt h hl; have := hk.n; omega) hl
    rw [S.n (Wq.ph r q)] at ha
    cases ha
theorem Pq.unit (hu : σ.unb = true) : ∀ r, Pq σ r → Pq (σ.unit k) r := by
  unfold Cy.unb at hu
  simp only [Bool.or_eq_true, Bool.and_eq_true, decide_eq_true_eq, Bool.not_eq_true'] at hu
  rcases hu with ⟨h3, hi⟩ | h5
  · have e : σ.unit k = σ.u3 k := by unfold Cy.unit; rw [if_pos h3, if_neg (by rw [hi]; decide)]
    rw [e]
    have e2 : (σ.u3 k).ph = σ.ph := rfl
    intro r q
    match r, q with
    | 0, q => have q : σ.ph = 0 ∨ σ.ph = 5 := q; omega
    | 1, q => exact q
    | 2, q => exact q
    | 3, q => exact q
    | r + 4, q => exact q
  · have e : σ.unit k = σ.u5 k := by unfold Cy.unit; rw [if_neg (by omega), if_pos h5]
    rw [e]
    have e2 : (σ.u5 k).ph = 0 ∨ (σ.u5 k).ph = 5 := by
      show (if σ.q + 1 = k.N then 0 else 5) = 0 ∨ (if σ.q + 1 = k.N then 0 else 5) = 5
      split
      · exact .inl rfl
      · exact .inr rfl
    intro r q
    match r with
    | 0 => exact e2
    | 1 => exact ⟨by omega, fun e3 => by omega⟩
    | 2 => show (σ.u5 k).ph = 0 ∨ (σ.u5 k).ph = 3 ∨ (σ.u5 k).ph = 5; omega
    | 3 => exact ⟨by omega, by omega⟩
    | r + 4 => show (σ.u5 k).ph ≠ 1; omega
theorem Pq.over (h : Inv k σ) (S : Stl σ) (hu : σ.unb = false) : ∀ r, Pq σ r → Qr (σ.unit k) r := by
  unfold Cy.unb at hu
  simp only [Bool.or_eq_false_iff, Bool.and_eq_false_iff, decide_eq_false_iff_not, Bool.not_eq_false'] at hu
  obtain ⟨h3, h5⟩ := hu
  rcases Nat.decEq σ.ph 3 with e3 | e3
  · have e : σ.unit k = σ := by unfold Cy.unit; rw [if_neg e3, if_neg h5]
    rw [e]
    intro r q
    match r, q with
    | 0, q => have q : σ.ph = 0 ∨ σ.ph = 5 := q; show σ.ph = 0; omega
    | 1, q => have := q.1; exact ⟨by omega, fun e4 => by omega⟩
    | 2, q => have q : σ.ph = 0 ∨ σ.ph = 3 ∨ σ.ph = 5 := q; exact ⟨by omega, fun e4 => by omega⟩
    | 3, q => exact q
    | 4, q => exact q
    | r + 5, q => trivial
  · have hi : σ.idle = true := h3.elim (fun e => absurd e3 e) id
    have e : σ.unit k = σ.to4.lead k := by unfold Cy.unit; rw [if_pos e3, if_pos hi]
    rw [e]
    have T4 := h.to4 e3
    have fresh : ∀ u : Nat, σ.to4.lv u = true → ep.of σ.to4.th u ≠ σ.to4.e := fun u hl => by
      have := of_le h.thr u
      show ep.of σ.th u ≠ ((σ.e + 1 : Nat) : Int)
      omega
    cases ha : σ.to4.ag with
    | false =>
      rw [lead_nag ha]
      intro r q
      match r, q with
      | 0, q => have q : σ.ph = 0 ∨ σ.ph = 5 := q; omega
      | 1, q => exact ⟨.inr (.inl rfl), fun _ => ⟨q.2 e3, hi⟩⟩
      | 2, q => exact ⟨.inr (.inl rfl), fun _ => fresh⟩
      | 3, q => exact ⟨by show (4 : Nat) ≠ 1; decide, by show (4 : Nat) ≠ 2; decide⟩
      | 4, q => show (4 : Nat) ≠ 1; decide
      | r + 5, q => trivial
    | true =>
      have nl : ∀ u : Nat, σ.to4.lv u = false := fun u => by
        cases hl : σ.to4.lv u with
        | false => rfl
        | true => exact absurd ((ag_iff T4.thr).1 ha u hl) (fresh u hl)
      have b0 : Bn0 σ.to4 := fun u => (T4.dead (nl u)).2
      have e6 : (σ.to4.lead k).ph = 5 := by
        unfold Cy.lead
        rw [if_pos ha, if_neg (by show (4 : Nat) ≠ 1; decide), if_neg (by show (4 : Nat) ≠ 2; decide), if_pos (show σ.to4.ph = 4 from rfl)]
        unfold Cy.n4
        rw [if_pos ⟨tot_nil T4 b0, hi⟩]
      intro r q
      match r, q with
      | 0, q => have q : σ.ph = 0 ∨ σ.ph = 5 := q; omega
      | 1, q => exact ⟨by omega, fun e => by omega⟩
      | 2, q => exact ⟨by omega, fun e => by omega⟩
      | 3, q => exact ⟨by omega, by omega⟩
      | 4, q => show (σ.to4.lead k).ph ≠ 1; omega
      | r + 5, q => trivial
structure Ns (i t u : Nat) (σ : Cy) : Prop where
  e : σ.e ≤ 200 + 10 * i + t
  un : σ.un ≤ 100 + u
  cy : σ.cy ≤ 100 + u
  cnt : σ.x.cnt ≤ 100
theorem Ns.pl (h : Ns i t n σ) (m : Nat) : Ns i (t + 1) n (σ.pl k m) := by
  have h1 := h.e
  unfold Cy.pl
  split
  · obtain ⟨l1, l2, l3, l4⟩ := lead_num k (σ.polled k m)
    have l1 : ((σ.polled k m).lead k).e ≤ σ.e + 1 := l1
    exact ⟨by omega, by rw [l2]; exact h.un, by rw [l3]; exact h.cy, by rw [l4]; exact h.cnt⟩
  · exact ⟨by omega, h.un, h.cy, h.cnt⟩
theorem Ns.unit (h : Ns i t n σ) (I : Inv k σ) (hu : σ.unb = true) : Ns i t (n + 1) (σ.unit k) := by
  have h1 := h.e
  have h2 := h.un
  have h3 := h.cy
  have h4 := h.cnt
  unfold Cy.unb at hu
  simp only [Bool.or_eq_true, Bool.and_eq_true, decide_eq_true_eq, Bool.not_eq_true'] at hu
  unfold Cy.unit
  rcases hu with ⟨h3, hi⟩ | h5
  · rw [if_pos h3, if_neg (by rw [hi]; decide)]
    exact ⟨h1, by show σ.un + 1 ≤ _; omega, by show σ.cy ≤ _; omega, h4⟩
  · rw [if_neg (by omega), if_pos h5]
    have := (sw.pz_unit (z := ⟨σ.x, σ.s, σ.f⟩) I.iv I.fi σ.q).cnt
    exact ⟨h1, by show σ.un + 1 ≤ _; omega, by show (if σ.q + 1 = k.N then σ.cy + 1 else σ.cy) ≤ _; split <;> omega, by show (sw.unit ⟨σ.x, σ.s, σ.f⟩ σ.q).x.cnt ≤ _; rw [this]; exact h4⟩
theorem Ns.over (h : Ns i 8 n σ) (hu : σ.unb = false) : Ns (i + 1) 0 n (σ.unit k) := by
  have h1 := h.e
  unfold Cy.unb at hu
  simp only [Bool.or_eq_false_iff, Bool.and_eq_false_iff, decide_eq_false_iff_not, Bool.not_eq_false'] at hu
  unfold Cy.unit
  split
  · rename_i h3
    rw [if_pos (by rcases hu.1 with e | e; exact absurd h3 e; exact e)]
    obtain ⟨l1, l2, l3, l4⟩ := lead_num k σ.to4
    have l1 : (σ.to4.lead k).e ≤ σ.e + 1 + 1 := l1
    exact ⟨by omega, by rw [l2]; exact h.un, by rw [l3]; exact h.cy, by rw [l4]; exact h.cnt⟩
  · rw [if_neg hu.2]
    exact ⟨by omega, h.un, h.cy, h.cnt⟩
end
end Go.Proofs.YtkgdcgmbapchcaaGreatDoor.cy
