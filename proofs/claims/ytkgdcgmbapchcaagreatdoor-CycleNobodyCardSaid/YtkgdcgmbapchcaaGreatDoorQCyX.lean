/- Texts that this claim stands on. -/
import Derived.Test.YtkgdcgmbapchcaaGreatDoorQTcX
namespace Go.Proofs.YtkgdcgmbapchcaaGreatDoor.rc
open Go.ChangeShapes Go.WideShapes Go.ChangeAt Go.RowKit gen calls cls geos ce st sh
set_option linter.unusedVariables false
set_option maxHeartbeats 4000000
set_option maxRecDepth 100000
abbrev Va := Int × Int
theorem isb_mkd {ws : List Nat} (h : bm.Fine 2048 ws) (z a : Int) : isb (mkd ws z) a = true ↔ isb ws a = true ∨ (a = z ∧ 0 ≤ z ∧ z < 2048) := by
  rcases sh.ways ws z with ⟨h1, h2, _, h4, _⟩ | ⟨i, rfl, hi, ⟨hb, h2, _, h4, _⟩ | ⟨hb, h2, _, h4, _⟩⟩
  · rw [h4]
    exact ⟨.inl, fun h => h.elim id fun h => absurd h.2 h1⟩
  · rw [h4]
    exact ⟨.inl, fun h => h.elim id fun h => by rw [h.1]; exact h2⟩
  · rw [h4]
    unfold isb
    rw [bm.bit_put _ _ _ (by have := h.1; omega)]
    simp only [Bool.and_eq_true, decide_eq_true_eq, Bool.or_eq_true]
    constructor
    · rintro ⟨⟨h5, h6⟩, h7 | h7⟩
      · exact .inl ⟨⟨h5, h6⟩, h7⟩
      · exact .inr ⟨by omega, by omega, by omega⟩
    · rintro (⟨⟨h5, h6⟩, h7⟩ | ⟨h5, h6, h7⟩)
      · exact ⟨⟨h5, h6⟩, .inl h7⟩
      · exact ⟨⟨by omega, by omega⟩, .inr (by omega)⟩
theorem fine_mkd {ws : List Nat} (h : bm.Fine 2048 ws) (z : Int) : bm.Fine 2048 (mkd ws z) := by
  rcases sh.ways ws z with ⟨h1, h2, _, h4, _⟩ | ⟨i, rfl, hi, ⟨hb, h2, _, h4, _⟩ | ⟨hb, h2, _, h4, _⟩⟩
  · rw [h4]; exact h
  · rw [h4]; exact h
  · rw [h4]; exact h.put hi
theorem new_isb {ws : List Nat} {z : Int} (h : 0 ≤ z ∧ z < 2048) : newb ws z = true ↔ isb ws z = false := by
  unfold newb isb
  rw [decide_eq_true h.1, decide_eq_true h.2]
  cases bm.bit ws z.toNat <;> simp
structure Adv (s s' : Ps) : Prop where
  mr : ∀ a, isb s.ws a = true → isb s'.ws a = true
  st : ∀ e, e ∈ s.m → e ∈ s'.m
  ov : s.b = true → s'.b = true
  nw : ∀ a, isb s'.ws a = true → isb s.ws a = true ∨ (a, 0) ∈ s'.m ∨ s'.b = true
theorem Adv.refl (s : Ps) : Adv s s := ⟨fun _ => id, fun _ => id, id, fun _ => .inl⟩
theorem Adv.trans {s s1 s2 : Ps} (h : Adv s s1) (k : Adv s1 s2) : Adv s s2 :=
  ⟨fun a h1 => k.mr a (h.mr a h1), fun e h1 => k.st e (h.st e h1), fun h1 => k.ov (h.ov h1), fun a h1 => by
    rcases k.nw a h1 with h2 | h2 | h2
    · rcases h.nw a h2 with h3 | h3 | h3
      · exact .inl h3
      · exact .inr (.inl (k.st _ h3))
      · exact .inr (.inr (k.ov h3))
    · exact .inr (.inl h2)
    · exact .inr (.inr h2)⟩
structure Gd (tk : List Int) (fl : Int → List Va) (N : Nat) : Prop where
  nd : tk.Nodup
  rg : ∀ a ∈ tk, 0 ≤ a ∧ a < 2048 ∧ a / 32 < N
  rf : ∀ a ∈ tk, ∀ v ∈ fl a, v.1 = 2 → v.2 ∈ tk
structure In (tk : List Int) (fl : Int → List Va) (R : Int → Prop) (r : Nat) (s : Ps) : Prop where
  fi : bm.Fine 2048 s.ws
  mr : ∀ a, isb s.ws a = true → a ∈ tk ∧ R a
  en : ∀ e ∈ s.m, isb s.ws e.1 = true ∧ 0 ≤ e.2 ∧ e.2 ≤ (fl e.1).length
  ln : s.m.length ≤ r
def us (fl : Int → List Va) (N : Nat) (ws : List Nat) : List Int → Nat
  | [] => 0
  | a :: l => (if isb ws a = true then 0 else (fl a).length + 1 + N) + us fl N ws l
def wt (fl : Int → List Va) (e : Va) : Nat := (fl e.1).length + 1 - e.2.toNat
def es (fl : Int → List Va) (m : List Va) : Nat := (m.map (wt fl)).sum
def W (tk : List Int) (fl : Int → List Va) (N : Nat) (s : Ps) : Nat := us fl N s.ws tk + es fl s.m + if s.b = true then N else 0
section
variable {tk : List Int} {fl : Int → List Va} {R : Int → Prop} {r N c : Nat} {s s' : Ps} {z : Int} {p : Int}
theorem us_same {ws ws' : List Nat} : ∀ {l : List Int}, (∀ a ∈ l, isb ws' a = true ↔ isb ws a = true) → us fl N ws' l = us fl N ws l
  | [], _ => rfl
  | a :: l, h => by
    have h1 := h a (by simp)
    have h2 := us_same (l := l) (fun b hb => h b (by simp [hb]))
    unfold us
    rw [h2]
    by_cases h3 : isb ws a = true
    · rw [if_pos h3, if_pos (h1.2 h3)]
    · rw [if_neg h3, if_neg (fun h => h3 (h1.1 h))]
theorem us_mark {ws ws' : List Nat} (hz : isb ws z = false) (h : ∀ a, isb ws' a = true ↔ isb ws a = true ∨ a = z) : ∀ {l : List Int}, l.Nodup → z ∈ l → us fl N ws' l + ((fl z).length + 1 + N) = us fl N ws l
  | [], _, hm => by cases hm
  | a :: l, hn, hm => by
    obtain ⟨h1, h2⟩ := List.nodup_cons.1 hn
    unfold us
    by_cases e : z = a
    · subst e
      rw [if_pos ((h z).2 (.inr rfl)), if_neg (by rw [hz]; decide), us_same (ws := ws) (ws' := ws') (fun b hb => by
        rw [h b]
        exact ⟨fun h3 => h3.elim id fun h4 => absurd (h4 ▸ hb) h1, .inl⟩)]
      omega
    · have hm2 : z ∈ l := by
        rcases List.mem_cons.1 hm with h3 | h3
        · exact absurd h3 e
        · exact h3
      have ih := us_mark hz h h2 hm2
      by_cases h3 : isb ws a = true
      · rw [if_pos h3, if_pos ((h a).2 (.inl h3))]; omega
      · rw [if_neg h3, if_neg (fun h4 => (((h a).1 h4).elim h3 fun h5 => e h5.symm))]; omega
theorem es_add (m : List Va) (e : Va) : es fl (m ++ [e]) = es fl m + wt fl e := by simp [es]
theorem shade_in (G : Gd tk fl N) (h : In tk fl R r s) (hz : z ∈ tk) (hR : R z) :
    In tk fl R r (s.shade r z) ∧ Adv s (s.shade r z) ∧ isb (s.shade r z).ws z = true ∧ W tk fl N (s.shade r z) ≤ W tk fl N s := by
  obtain ⟨g1, g2, g3⟩ := G.rg z hz
  by_cases hn : newb s.ws z = true
  · have hz0 := (new_isb (ws := s.ws) ⟨g1, g2⟩).1 hn
    have MK := isb_mkd h.fi z
    have MK2 : ∀ a, isb (mkd s.ws z) a = true ↔ isb s.ws a = true ∨ a = z := fun a => by rw [MK a]; exact ⟨fun h => h.imp id (·.1), fun h => h.imp id (fun e => ⟨e, g1, g2⟩)⟩
    have FM := fine_mkd h.fi z
    have US := us_mark (fl := fl) (N := N) hz0 MK2 G.nd hz
    have WT : wt fl (z, 0) = (fl z).length + 1 := by simp [wt]
    have en2 : ∀ e ∈ s.m, isb (mkd s.ws z) e.1 = true ∧ 0 ≤ e.2 ∧ e.2 ≤ (fl e.1).length := fun e he => by
      obtain ⟨e1, e2⟩ := h.en e he
      exact ⟨(MK2 _).2 (.inl e1), e2⟩
    have mk2 : ∀ a, isb (mkd s.ws z) a = true → a ∈ tk ∧ R a := fun a ha => ((MK2 a).1 ha).elim (h.mr a) fun e => by rw [e]; exact ⟨hz, hR⟩
    unfold Ps.shade
    rw [if_pos hn]
    unfold Ps.push Ps.black
    dsimp only
    by_cases hl : s.m.length < r
    · rw [if_pos hl]
      refine ⟨⟨FM, mk2, fun e he => ?_, by simp; omega⟩, ⟨fun a h1 => (MK2 a).2 (.inl h1), fun e he => by simp [he], id, fun a h1 => ((MK2 a).1 h1).imp id fun e => .inl (by rw [e]; simp)⟩, (MK2 z).2 (.inr rfl), ?_⟩
      · rcases List.mem_append.1 he with he | he
        · exact en2 e he
        · rw [List.mem_singleton.1 he]; exact ⟨(MK2 z).2 (.inr rfl), by simp, by simp⟩
      · unfold W
        dsimp only
        rw [es_add, WT]
        omega
    · rw [if_neg hl]
      refine ⟨⟨FM, mk2, en2, h.ln⟩, ⟨fun a h1 => (MK2 a).2 (.inl h1), fun e he => he, fun _ => rfl, fun a h1 => ((MK2 a).1 h1).imp id fun e => .inr rfl⟩, (MK2 z).2 (.inr rfl), ?_⟩
      unfold W
      dsimp only
      rw [if_pos rfl]
      omega
  · have hz0 : isb s.ws z = true := by
      cases hb : isb s.ws z with
      | true => rfl
      | false => exact absurd ((new_isb (ws := s.ws) ⟨g1, g2⟩).2 hb) hn
    unfold Ps.shade
    rw [if_neg hn]
    exact ⟨h, Adv.refl _, hz0, Nat.le_refl _⟩
theorem shl_in (G : Gd tk fl N) : ∀ {l : List Va} {s : Ps}, In tk fl R r s → (∀ v ∈ l, v.1 = 2 → v.2 ∈ tk ∧ R v.2) →
    In tk fl R r (tc.shl r s l) ∧ Adv s (tc.shl r s l) ∧ W tk fl N (tc.shl r s l) ≤ W tk fl N s ∧ ∀ v ∈ l, v.1 = 2 → isb (tc.shl r s l).ws v.2 = true
  | [], s, h, _ => ⟨h, Adv.refl _, Nat.le_refl _, fun v hv => by cases hv⟩
  | v :: l, s, h, hv => by
    have hv2 : ∀ u ∈ l, u.1 = 2 → u.2 ∈ tk ∧ R u.2 := fun u hu => hv u (by simp [hu])
    by_cases h2 : v.1 = 2
    · have e : tc.shl r s (v :: l) = tc.shl r (s.shade r v.2) l := by
        show tc.shl r (tc.shv r s v) l = _
        unfold tc.shv
        rw [if_pos h2]
      obtain ⟨k1, k2⟩ := hv v (by simp) h2
      obtain ⟨a1, a2, a3, a4⟩ := shade_in G h k1 k2
      obtain ⟨b1, b2, b3, b4⟩ := shl_in G a1 hv2
      rw [e]
      exact ⟨b1, a2.trans b2, Nat.le_trans b3 a4, fun u hu hu2 => by
        rcases List.mem_cons.1 hu with rfl | hu
        · exact b2.mr _ a3
        · exact b4 u hu hu2⟩
    · have e : tc.shl r s (v :: l) = tc.shl r s l := by
        show tc.shl r (tc.shv r s v) l = _
        unfold tc.shv
        rw [if_neg h2]
      obtain ⟨b1, b2, b3, b4⟩ := shl_in G h hv2
      rw [e]
      exact ⟨b1, b2, b3, fun u hu hu2 => by
        rcases List.mem_cons.1 hu with rfl | hu
        · exact absurd hu2 h2
        · exact b4 u hu hu2⟩
def Cl (fl : Int → List Va) (s : Ps) (p : Int) : Prop := ∀ (a : Int) (j : Nat) (v : Va), isb s.ws a = true → (fl a)[j]? = some v → v.1 = 2 → isb s.ws v.2 = true ∨ (∃ f, (a, f) ∈ s.m ∧ f ≤ j) ∨ s.b = true ∨ (0 ≤ p ∧ p ≤ a / 32)
def Cd (fl : Int → List Va) (R : Int → Prop) : Prop := ∀ a v, R a → v ∈ fl a → v.1 = 2 → R v.2
theorem ent_in (G : Gd tk fl N) (C : Cd fl R) (hc : 1 ≤ c) {F : Int → Option (List Va)} (hF : ∀ a ∈ tk, F a = some (fl a)) {ws : List Nat} {m : List Va} {e : Va} {b : Bool} (h : In tk fl R r ⟨ws, m ++ [e], b⟩) (k : Cl fl ⟨ws, m ++ [e], b⟩ p) :
    In tk fl R r (tc.ent r c F ⟨ws, m, b⟩ e) ∧ Cl fl (tc.ent r c F ⟨ws, m, b⟩ e) p ∧ W tk fl N (tc.ent r c F ⟨ws, m, b⟩ e) + 1 ≤ W tk fl N ⟨ws, m ++ [e], b⟩ ∧ ∀ a, isb ws a = true → isb (tc.ent r c F ⟨ws, m, b⟩ e).ws a = true := by
  obtain ⟨e1, e2⟩ := e
  obtain ⟨q1, q2, q3⟩ := h.en (e1, e2) (by simp)
  obtain ⟨q4, q5⟩ := h.mr e1 q1
  dsimp only at q1 q2 q3
  have ln : m.length < r := by have := h.ln; simp at this; omega
  have h1 : In tk fl R r ⟨ws, m, b⟩ := ⟨h.fi, h.mr, fun e he => h.en e (by simp [he]), by show m.length ≤ r; omega⟩
  have W1 : W tk fl N ⟨ws, m ++ [(e1, e2)], b⟩ = W tk fl N ⟨ws, m, b⟩ + wt fl (e1, e2) := by
    unfold W
    dsimp only
    rw [es_add]
    omega
  have WP : wt fl (e1, e2) = (fl e1).length + 1 - e2.toNat := rfl
  rw [W1]
  unfold tc.ent
  dsimp only
  rw [hF e1 q4]
  dsimp only
  by_cases hr : 0 ≤ e2 ∧ e2 < (fl e1).length
  · rw [if_pos hr]
    have rest : ∃ s1 : Ps, (if e2 + (c : Int) < (fl e1).length then (⟨ws, m, b⟩ : Ps).push r (e1, e2 + c) else ⟨ws, m, b⟩) = s1 ∧ In tk fl R r s1 ∧ Adv ⟨ws, m, b⟩ s1 ∧ W tk fl N s1 + 1 ≤ W tk fl N ⟨ws, m, b⟩ + wt fl (e1, e2) ∧ (e2 + c < (fl e1).length → (e1, e2 + c) ∈ s1.m) ∧ s1.ws = ws := by
      by_cases hx : e2 + (c : Int) < (fl e1).length
      · rw [if_pos hx]
        refine ⟨⟨ws, m ++ [(e1, e2 + c)], b⟩, by unfold Ps.push; rw [if_pos ln], ⟨h.fi, h.mr, fun e he => ?_, by simp; omega⟩, ⟨fun _ => id, fun e he => by simp [he], id, fun _ => .inl⟩, ?_, fun _ => by simp, rfl⟩
        · rcases List.mem_append.1 he with he | he
          · exact h1.en e he
          · rw [List.mem_singleton.1 he]; exact ⟨q1, by show (0 : Int) ≤ e2 + c; omega, by show e2 + (c : Int) ≤ ((fl e1).length : Int); omega⟩
        · have : wt fl (e1, e2 + c) = (fl e1).length + 1 - (e2 + c).toNat := rfl
          have W2 : W tk fl N ⟨ws, m ++ [(e1, e2 + c)], b⟩ = W tk fl N ⟨ws, m, b⟩ + wt fl (e1, e2 + c) := by
            unfold W
            dsimp only
            rw [es_add]
            omega
          rw [W2]
          omega
      · rw [if_neg hx]
        exact ⟨_, rfl, h1, Adv.refl _, by omega, fun h => absurd h hx, rfl⟩
    obtain ⟨s1, es1, r1, r2, r3, r4, r5⟩ := rest
    rw [es1]
    obtain ⟨b1, b2, b3, b4⟩ := shl_in (l := ((fl e1).drop e2.toNat).take c) G r1 (fun v hv h2 => by
      have hv2 := List.mem_of_mem_drop (List.mem_of_mem_take hv)
      exact ⟨G.rf e1 q4 v hv2 h2, C e1 v q5 hv2 h2⟩)
    refine ⟨b1, fun a j v h4 h5 h6 => ?_, by omega, (r2.trans b2).mr⟩
    rcases (r2.trans b2).nw a h4 with h7 | h7 | h7
    · rcases k a j v h7 h5 h6 with h8 | ⟨f, h8, h9⟩ | h8 | h8
      · exact .inl (b2.mr _ (by rw [r5]; exact h8))
      · rcases List.mem_append.1 h8 with h8 | h8
        · exact .inr (.inl ⟨f, (r2.trans b2).st _ h8, h9⟩)
        · have := List.mem_singleton.1 h8
          injection this with t1 t2
          subst t1 t2
          by_cases hj : (j : Int) < f + c
          · refine .inl (b4 v ?_ h6)
            refine List.mem_of_getElem? (i := j - f.toNat) ?_
            rw [List.getElem?_take, if_pos (by omega), List.getElem?_drop, show f.toNat + (j - f.toNat) = j by omega]
            exact h5
          · have jl := (List.getElem?_eq_some_iff.1 h5).1
            exact .inr (.inl ⟨f + c, b2.st _ (r4 (by omega)), by omega⟩)
      · exact .inr (.inr (.inl ((r2.trans b2).ov h8)))
      · exact .inr (.inr (.inr h8))
    · exact .inr (.inl ⟨0, h7, by omega⟩)
    · exact .inr (.inr (.inl h7))
  · rw [if_neg hr]
    refine ⟨h1, fun a j v h4 h5 h6 => ?_, by omega, fun _ h => h⟩
    rcases k a j v h4 h5 h6 with h8 | ⟨f, h8, h9⟩ | h8 | h8
    · exact .inl h8
    · rcases List.mem_append.1 h8 with h8 | h8
      · exact .inr (.inl ⟨f, h8, h9⟩)
      · have := List.mem_singleton.1 h8
        injection this with t1 t2
        subst t1 t2
        have jl := (List.getElem?_eq_some_iff.1 h5).1
        exact absurd ⟨q2, by omega⟩ hr
    · exact .inr (.inr (.inl h8))
    · exact .inr (.inr (.inr h8))
theorem loks_in (G : Gd tk fl N) (C : Cd fl R) {F : Int → Option (List Va)} (hF : ∀ a ∈ tk, F a = some (fl a)) : ∀ {l : List Int} {s : Ps}, (∀ a ∈ l, a ∈ tk) → In tk fl R r s →
    In tk fl R r (l.foldl (tc.lok r F) s) ∧ Adv s (l.foldl (tc.lok r F) s) ∧ W tk fl N (l.foldl (tc.lok r F) s) ≤ W tk fl N s ∧ ∀ a ∈ l, isb s.ws a = true → ∀ v ∈ fl a, v.1 = 2 → isb (l.foldl (tc.lok r F) s).ws v.2 = true
  | [], s, _, h => ⟨h, Adv.refl _, Nat.le_refl _, fun a ha => by cases ha⟩
  | a :: l, s, hl, h => by
    have hl2 : ∀ b ∈ l, b ∈ tk := fun b hb => hl b (by simp [hb])
    have ha := hl a (by simp)
    have one : In tk fl R r (tc.lok r F s a) ∧ Adv s (tc.lok r F s a) ∧ W tk fl N (tc.lok r F s a) ≤ W tk fl N s ∧ (isb s.ws a = true → ∀ v ∈ fl a, v.1 = 2 → isb (tc.lok r F s a).ws v.2 = true) := by
      unfold tc.lok
      by_cases hm : isb s.ws a = true
      · rw [if_pos hm, hF a ha]
        obtain ⟨b1, b2, b3, b4⟩ := shl_in (l := fl a) G h (fun v hv h2 => ⟨G.rf a ha v hv h2, C a v (h.mr a hm).2 hv h2⟩)
        exact ⟨b1, b2, b3, fun _ => b4⟩
      · rw [if_neg hm]
        exact ⟨h, Adv.refl _, Nat.le_refl _, fun h => absurd h hm⟩
    obtain ⟨a1, a2, a3, a4⟩ := one
    obtain ⟨b1, b2, b3, b4⟩ := loks_in G C hF hl2 a1
    refine ⟨b1, a2.trans b2, Nat.le_trans b3 a3, fun b hb hm v hv h2 => ?_⟩
    rcases List.mem_cons.1 hb with rfl | hb
    · exact b2.mr _ (a4 hm v hv h2)
    · exact b4 b hb (a2.mr _ hm) v hv h2
theorem look_in (G : Gd tk fl N) (C : Cd fl R) {F : Int → Option (List Va)} (hF : ∀ a ∈ tk, F a = some (fl a)) (h : In tk fl R r s) (k : Cl fl s p) (hp : 0 ≤ p ∧ p < N) :
    In tk fl R r (tc.looked r N F (fun q => tk.filter fun a => decide (a / 32 = q)) s p).s ∧ Cl fl (tc.looked r N F (fun q => tk.filter fun a => decide (a / 32 = q)) s p).s (tc.looked r N F (fun q => tk.filter fun a => decide (a / 32 = q)) s p).p ∧ W tk fl N (tc.looked r N F (fun q => tk.filter fun a => decide (a / 32 = q)) s p).s ≤ W tk fl N s ∧ ∀ a, isb s.ws a = true → isb (tc.looked r N F (fun q => tk.filter fun a => decide (a / 32 = q)) s p).s.ws a = true := by
  obtain ⟨b1, b2, b3, b4⟩ := loks_in (l := tk.filter fun a => decide (a / 32 = p)) G C hF (fun a ha => (List.mem_filter.1 ha).1) h
  refine ⟨b1, fun a j v h1 h2 h3 => ?_, b3, b2.mr⟩
  unfold tc.looked at h1 ⊢
  dsimp only at h1 ⊢
  rcases b2.nw a h1 with h4 | h4 | h4
  · rcases k a j v h4 h2 h3 with h5 | ⟨f, h5, h6⟩ | h5 | h5
    · exact .inl (b2.mr _ h5)
    · exact .inr (.inl ⟨f, b2.st _ h5, h6⟩)
    · exact .inr (.inr (.inl (b2.ov h5)))
    · have ht := (h.mr a h4).1
      have g3 := (G.rg a ht).2.2
      by_cases hq : p = a / 32
      · exact .inl (b4 a (List.mem_filter.2 ⟨ht, decide_eq_true hq.symm⟩) h4 v (List.mem_of_getElem? h2) h3)
      · exact .inr (.inr (.inr (by rw [if_pos (by omega)]; omega)))
  · exact .inr (.inl ⟨0, h4, by omega⟩)
  · exact .inr (.inr (.inl h4))
theorem unit_in (G : Gd tk fl N) (C : Cd fl R) (hc : 1 ≤ c) (hN : 1 ≤ N) {F : Int → Option (List Va)} (hF : ∀ a ∈ tk, F a = some (fl a)) {u : tc.Ts} (h : In tk fl R r u.s) (k : Cl fl u.s u.p) (hp : -1 ≤ u.p ∧ u.p < N) (hi : tc.Ts.idle u = false) {z : tc.Ts} (hz : z = tc.Ts.unit r N c F (fun q => tk.filter fun a => decide (a / 32 = q)) u) :
    In tk fl R r z.s ∧ Cl fl z.s z.p ∧ W tk fl N z.s + tc.left N z.p + 1 ≤ W tk fl N u.s + tc.left N u.p ∧ ∀ a, isb u.s.ws a = true → isb z.s.ws a = true := by
  subst hz
  obtain ⟨s, p⟩ := u
  obtain ⟨ws, m, b⟩ := s
  dsimp only at h k hp
  unfold tc.Ts.unit
  dsimp only
  by_cases hm : m = []
  · rw [if_neg (by simp [hm])]
    by_cases h0 : 0 ≤ p
    · rw [if_pos h0]
      obtain ⟨b1, b2, b3, b4⟩ := look_in G C hF h k ⟨h0, hp.2⟩
      refine ⟨b1, b2, ?_, b4⟩
      have e1 : tc.left N p = (N - p).toNat := by unfold tc.left; rw [if_neg (by omega)]
      have e2 : tc.left N (tc.looked r N F (fun q => tk.filter fun a => decide (a / 32 = q)) ⟨ws, m, b⟩ p).p + 1 ≤ (N - p).toNat := by
        unfold tc.looked tc.left
        dsimp only
        by_cases h1 : p + 1 < N
        · rw [if_pos h1, if_neg (by omega)]; omega
        · rw [if_neg h1, if_pos (by omega)]; omega
      omega
    · rw [if_neg h0]
      have hb : b = true := by
        unfold tc.Ts.idle at hi
        simp only [hm, decide_true, Bool.true_and, decide_eq_true (show p < 0 by omega)] at hi
        simpa using hi
      rw [if_pos hb]
      have h1 : In tk fl R r (Ps.settle ⟨ws, m, b⟩) := ⟨h.fi, h.mr, h.en, h.ln⟩
      have k1 : Cl fl (Ps.settle ⟨ws, m, b⟩) 0 := fun a j v h2 h3 h4 => .inr (.inr (.inr (by have := G.rg a (h1.mr a h2).1; omega)))
      obtain ⟨b1, b2, b3, b4⟩ := look_in G C hF h1 k1 ⟨by omega, by omega⟩
      refine ⟨b1, b2, ?_, b4⟩
      have e1 : tc.left N p = 0 := by unfold tc.left; rw [if_pos (by omega)]
      have e2 : tc.left N (tc.looked r N F (fun q => tk.filter fun a => decide (a / 32 = q)) (Ps.settle ⟨ws, m, b⟩) 0).p + 1 ≤ N := by
        unfold tc.looked tc.left
        dsimp only
        by_cases h1 : (0 : Int) + 1 < N
        · rw [if_pos h1, if_neg (by omega)]; omega
        · rw [if_neg h1, if_pos (by omega)]; omega
      have e3 : W tk fl N (Ps.settle ⟨ws, m, b⟩) + N = W tk fl N ⟨ws, m, b⟩ := by
        unfold W Ps.settle
        dsimp only
        rw [if_pos hb, if_neg (by decide)]
        omega
      omega
  · rw [if_pos hm]
    obtain ⟨m', e, rfl⟩ : ∃ m' e, m = m' ++ [e] := ⟨m.dropLast, m.getLast hm, (List.dropLast_concat_getLast hm).symm⟩
    have e1 : top (m' ++ [e]) = e := by simp [top]
    have e2 : Ps.pop ⟨ws, m' ++ [e], b⟩ = ⟨ws, m', b⟩ := by simp [Ps.pop]
    rw [e1, e2]
    obtain ⟨b1, b2, b3, b4⟩ := ent_in (c := c) G C hc hF h k
    exact ⟨b1, b2, by dsimp only; omega, b4⟩
end
end Go.Proofs.YtkgdcgmbapchcaaGreatDoor.rc
namespace Go.Proofs.YtkgdcgmbapchcaaGreatDoor.cy
open Go.ChangeShapes Go.WideShapes Go.ChangeAt Go.RowKit gen calls cls geos ce st sh
set_option linter.unusedVariables false
set_option maxHeartbeats 4000000
set_option maxRecDepth 100000
abbrev Va := Int × Int
def Pn (s : Ps) (p a : Int) (j : Nat) : Prop := (∃ f : Int, (a, f) ∈ s.m ∧ f ≤ j) ∨ s.b = true ∨ (0 ≤ p ∧ p ≤ a / 32)
inductive Wv (fl : Int → List Va) (s : Ps) (p : Int) (B : Int → Prop) : Int → Prop
  | buf {a : Int} : B a → isb s.ws a = false → Wv fl s p B a
  | pend {b : Int} {j : Nat} {a : Int} : isb s.ws b = true → (fl b)[j]? = some (2, a) → Pn s p b j → isb s.ws a = false → Wv fl s p B a
  | step {b : Int} {j : Nat} {a : Int} : Wv fl s p B b → (fl b)[j]? = some (2, a) → isb s.ws a = false → Wv fl s p B a
def Pr (fl : Int → List Va) (s : Ps) (p : Int) (B : Int → Prop) (a : Int) : Prop := isb s.ws a = true ∨ Wv fl s p B a
structure Tr (fl : Int → List Va) (s : Ps) (p : Int) (B R : Int → Prop) : Prop where
  rt : ∀ a, R a → Pr fl s p B a
  fd : ∀ (b : Int) (j : Nat) (a : Int), isb s.ws b = true → (fl b)[j]? = some (2, a) → Pr fl s p B a
structure Adn (fl : Int → List Va) (s s' : Ps) (p p' : Int) : Prop where
  mr : ∀ a, isb s.ws a = true → isb s'.ws a = true
  nw : ∀ (a : Int) (j : Nat) (c : Int), isb s'.ws a = true → (fl a)[j]? = some (2, c) → isb s.ws a = true ∨ Pn s' p' a j ∨ isb s'.ws c = true
  pn : ∀ (b : Int) (j : Nat) (a : Int), isb s.ws b = true → (fl b)[j]? = some (2, a) → Pn s p b j → Pn s' p' b j ∨ isb s'.ws a = true
section
variable {fl fl' : Int → List Va} {s s' s1 : Ps} {p p' p1 : Int} {B B' R R' : Int → Prop} {a z : Int}
theorem isb_or (ws : List Nat) (a : Int) : isb ws a = true ∨ isb ws a = false := by cases isb ws a <;> simp
theorem Adn.refl (fl : Int → List Va) (s : Ps) (p : Int) : Adn fl s s p p := ⟨fun _ => id, fun _ _ _ h _ => .inl h, fun _ _ _ _ _ h => .inl h⟩
theorem Adn.trans (h : Adn fl s s1 p p1) (k : Adn fl s1 s' p1 p') : Adn fl s s' p p' :=
  ⟨fun a h1 => k.mr a (h.mr a h1), fun a j c h1 h2 => by
    rcases k.nw a j c h1 h2 with h3 | h3
    · rcases h.nw a j c h3 h2 with h4 | h4 | h4
      · exact .inl h4
      · exact .inr (k.pn a j c h3 h2 h4)
      · exact .inr (.inr (k.mr c h4))
    · exact .inr h3, fun b j a h1 h2 h3 => by
    rcases h.pn b j a h1 h2 h3 with h4 | h4
    · exact k.pn b j a (h.mr b h1) h2 h4
    · exact .inr (k.mr a h4)⟩
theorem Adn.of (h : rc.Adv s s') : Adn fl s s' p p :=
  ⟨h.mr, fun a j c h1 _ => by
    rcases h.nw a h1 with h2 | h2 | h2
    · exact .inl h2
    · exact .inr (.inl (.inl ⟨0, h2, by omega⟩))
    · exact .inr (.inl (.inr (.inl h2))), fun b j a _ _ h3 => by
    rcases h3 with ⟨f, h3, h4⟩ | h3 | h3
    · exact .inl (.inl ⟨f, h.st _ h3, h4⟩)
    · exact .inl (.inr (.inl (h.ov h3)))
    · exact .inl (.inr (.inr h3))⟩
theorem Wv.white (h : Wv fl s p B a) : isb s.ws a = false := by cases h <;> assumption
theorem Wv.adn (k : Adn fl s s' p p') (hB : ∀ a, B a → B' a ∨ isb s'.ws a = true) (h : Wv fl s p B a) : Pr fl s' p' B' a := by
  induction h with
  | @buf a h1 h2 =>
    rcases isb_or s'.ws a with h3 | h3
    · exact .inl h3
    · rcases hB a h1 with h4 | h4
      · exact .inr (.buf h4 h3)
      · exact .inl h4
  | @pend b j a h1 h2 h3 h4 =>
    rcases isb_or s'.ws a with h5 | h5
    · exact .inl h5
    · rcases k.pn b j a h1 h2 h3 with h6 | h6
      · exact .inr (.pend (k.mr b h1) h2 h6 h5)
      · exact .inl h6
  | @step b j a h1 h2 h3 ih =>
    rcases isb_or s'.ws a with h5 | h5
    · exact .inl h5
    · rcases ih with h6 | h6
      · rcases k.nw b j a h6 h2 with h7 | h7 | h7
        · rw [h1.white] at h7; cases h7
        · exact .inr (.pend h6 h2 h7 h5)
        · exact .inl h7
      · exact .inr (.step h6 h2 h5)
theorem Pr.adn (k : Adn fl s s' p p') (hB : ∀ a, B a → B' a ∨ isb s'.ws a = true) (h : Pr fl s p B a) : Pr fl s' p' B' a := h.elim (fun h => .inl (k.mr _ h)) (Wv.adn k hB)
theorem Tr.adn (T : Tr fl s p B R) (k : Adn fl s s' p p') (hB : ∀ a, B a → B' a ∨ isb s'.ws a = true) (hR : ∀ a, R' a → R a ∨ isb s'.ws a = true) : Tr fl s' p' B' R' :=
  ⟨fun a h => (hR a h).elim (fun h => (T.rt a h).adn k hB) .inl, fun b j a h1 h2 => by
    rcases k.nw b j a h1 h2 with h3 | h3 | h3
    · exact (T.fd b j a h3 h2).adn k hB
    · rcases isb_or s'.ws a with h5 | h5
      · exact .inl h5
      · exact .inr (.pend h1 h2 h3 h5)
    · exact .inl h3⟩
theorem Tr.less (T : Tr fl s p B R) (hR : ∀ a, R' a → R a) : Tr fl s p B R' := ⟨fun a h => T.rt a (hR a h), T.fd⟩
theorem Tr.done (T : Tr fl s p B R) (hm : s.m = []) (hb : s.b = false) (hp : p < 0) (hB : ∀ a, ¬ B a) : (∀ a, R a → isb s.ws a = true) ∧ ∀ (b : Int) (j : Nat) (a : Int), isb s.ws b = true → (fl b)[j]? = some (2, a) → isb s.ws a = true := by
  have no : ∀ a, ¬ Wv fl s p B a := fun a h => by
    induction h with
    | buf h1 _ => exact hB _ h1
    | pend _ _ h3 _ =>
      rcases h3 with ⟨f, h3, _⟩ | h3 | h3
      · rw [hm] at h3; cases h3
      · rw [hb] at h3; cases h3
      · omega
    | step _ _ _ ih => exact ih
  exact ⟨fun a h => (T.rt a h).elim id fun h => absurd h (no a), fun b j a h1 h2 => (T.fd b j a h1 h2).elim id fun h => absurd h (no a)⟩
end
end Go.Proofs.YtkgdcgmbapchcaaGreatDoor.cy
namespace Go.Proofs.YtkgdcgmbapchcaaGreatDoor.cy
open Go.ChangeShapes Go.WideShapes Go.ChangeAt Go.RowKit gen calls cls geos ce st sh
set_option linter.unusedVariables false
set_option maxHeartbeats 4000000
set_option maxRecDepth 100000
abbrev All1 : Int → Prop := fun _ => True
def mks (tk : List Int) (ws : List Nat) : Nat := (tk.filter fun a => isb ws a).length
structure I3 (tk : List Int) (fl : Int → List Va) (R : Int → Prop) (r : Nat) (s : Ps) (p : Int) : Prop where
  i : rc.In tk fl R r s
  nd : (s.m.map (·.1)).Nodup
  ct : (if s.b = true then 1 else 0) + (if 0 ≤ p then 1 else 0) ≤ mks tk s.ws
section
variable {tk : List Int} {fl : Int → List Va} {R : Int → Prop} {r N c : Nat} {s s' : Ps} {z p : Int}
theorem mk_mono {ws ws' : List Nat} : ∀ {l : List Int}, (∀ a ∈ l, isb ws a = true → isb ws' a = true) → mks l ws ≤ mks l ws'
  | [], _ => Nat.le_refl _
  | a :: l, h => by
    have ih := mk_mono (l := l) (fun b hb => h b (by simp [hb]))
    unfold mks at *
    rw [List.filter_cons, List.filter_cons]
    by_cases h1 : isb ws a = true
    · rw [if_pos h1, if_pos (h a (by simp) h1)]; simpa using ih
    · rw [if_neg h1]
      split
      · rw [List.length_cons]; omega
      · exact ih
theorem mk_more {ws ws' : List Nat} (hz : isb ws z = false) (hz' : isb ws' z = true) : ∀ {l : List Int}, (∀ a ∈ l, isb ws a = true → isb ws' a = true) → z ∈ l → mks l ws + 1 ≤ mks l ws'
  | [], _, hm => by cases hm
  | a :: l, h, hm => by
    have h2 : ∀ b ∈ l, isb ws b = true → isb ws' b = true := fun b hb => h b (by simp [hb])
    have m := mk_mono h2
    by_cases e : a = z
    · subst e
      unfold mks at *
      rw [List.filter_cons, List.filter_cons, if_neg (by rw [hz]; decide), if_pos hz', List.length_cons]
      omega
    · have ih := mk_more hz hz' h2 (by
        rcases List.mem_cons.1 hm with h3 | h3
        · exact absurd h3.symm e
        · exact h3)
      unfold mks at *
      rw [List.filter_cons, List.filter_cons]
      by_cases h1 : isb ws a = true
      · rw [if_pos h1, if_pos (h a (by simp) h1)]; simp; omega
      · rw [if_neg h1]
        split
        · rw [List.length_cons]; omega
        · exact ih
theorem shade3 (G : rc.Gd tk fl N) (h : I3 tk fl R r s p) (hz : z ∈ tk) (hR : R z) :
    I3 tk fl R r (s.shade r z) p ∧ rc.Adv s (s.shade r z) ∧ isb (s.shade r z).ws z = true ∧ rc.W tk fl N (s.shade r z) ≤ rc.W tk fl N s := by
  obtain ⟨a1, a2, a3, a4⟩ := rc.shade_in G h.i hz hR
  refine ⟨⟨a1, ?_, ?_⟩, a2, a3, a4⟩
  · by_cases hn : newb s.ws z = true
    · have hz0 := (rc.new_isb (ws := s.ws) (by have := G.rg z hz; omega)).1 hn
      unfold Ps.shade
      rw [if_pos hn]
      unfold Ps.push Ps.black
      dsimp only
      split
      · rw [List.map_append, List.nodup_append]
        refine ⟨h.nd, by simp, fun a ha b hb e => ?_⟩
        simp at hb
        subst hb
        subst e
        obtain ⟨e, he, rfl⟩ := List.mem_map.1 ha
        have := (h.i.en e he).1
        rw [hz0] at this
        cases this
      · exact h.nd
    · unfold Ps.shade
      rw [if_neg hn]
      exact h.nd
  · by_cases hn : newb s.ws z = true
    · have hz0 := (rc.new_isb (ws := s.ws) (by have := G.rg z hz; omega)).1 hn
      have m := mk_more hz0 a3 (fun a _ => a2.mr a) hz
      have hc := h.ct
      have : (if (s.shade r z).b = true then 1 else 0) ≤ 1 := by split <;> omega
      generalize (if (s.shade r z).b = true then 1 else 0) = u at *
      generalize (if 0 ≤ p then 1 else 0) = v at *
      generalize (if s.b = true then 1 else 0) = t at *
      omega
    · have e : s.shade r z = s := by unfold Ps.shade; rw [if_neg hn]
      rw [e]
      exact h.ct
theorem shl3 (G : rc.Gd tk fl N) : ∀ {l : List Va} {s : Ps}, I3 tk fl R r s p → (∀ v ∈ l, v.1 = 2 → v.2 ∈ tk ∧ R v.2) →
    I3 tk fl R r (tc.shl r s l) p ∧ rc.Adv s (tc.shl r s l) ∧ rc.W tk fl N (tc.shl r s l) ≤ rc.W tk fl N s ∧ ∀ v ∈ l, v.1 = 2 → isb (tc.shl r s l).ws v.2 = true
  | [], s, h, _ => ⟨h, rc.Adv.refl _, Nat.le_refl _, fun v hv => by cases hv⟩
  | v :: l, s, h, hv => by
    have hv2 : ∀ u ∈ l, u.1 = 2 → u.2 ∈ tk ∧ R u.2 := fun u hu => hv u (by simp [hu])
    by_cases h2 : v.1 = 2
    · have e : tc.shl r s (v :: l) = tc.shl r (s.shade r v.2) l := by
        show tc.shl r (tc.shv r s v) l = _
        unfold tc.shv
        rw [if_pos h2]
      obtain ⟨a1, a2, a3, a4⟩ := shade3 G h (hv v (by simp) h2).1 (hv v (by simp) h2).2
      obtain ⟨b1, b2, b3, b4⟩ := shl3 G a1 hv2
      rw [e]
      exact ⟨b1, a2.trans b2, Nat.le_trans b3 a4, fun u hu hu2 => by
        rcases List.mem_cons.1 hu with rfl | hu
        · exact b2.mr _ a3
        · exact b4 u hu hu2⟩
    · have e : tc.shl r s (v :: l) = tc.shl r s l := by
        show tc.shl r (tc.shv r s v) l = _
        unfold tc.shv
        rw [if_neg h2]
      obtain ⟨b1, b2, b3, b4⟩ := shl3 G h hv2
      rw [e]
      exact ⟨b1, b2, b3, fun u hu hu2 => by
        rcases List.mem_cons.1 hu with rfl | hu
        · exact absurd hu2 h2
        · exact b4 u hu hu2⟩
def shs (r : Nat) (s : Ps) (l : List Int) : Ps := l.foldl (fun s a => s.shade r a) s
theorem W_add {ws : List Nat} {m : List Va} {b : Bool} (e : Va) : rc.W tk fl N ⟨ws, m ++ [e], b⟩ = rc.W tk fl N ⟨ws, m, b⟩ + rc.wt fl e := by
  unfold rc.W
  dsimp only
  rw [rc.es_add]
  omega
theorem ent3 (G : rc.Gd tk fl N) (C : rc.Cd fl R) (hc : 1 ≤ c) {F : Int → Option (List Va)} (hF : ∀ a ∈ tk, F a = some (fl a)) {ws : List Nat} {m : List Va} {e : Va} {b : Bool} (h : I3 tk fl R r ⟨ws, m ++ [e], b⟩ p) :
    I3 tk fl R r (tc.ent r c F ⟨ws, m, b⟩ e) p ∧ Adn fl ⟨ws, m ++ [e], b⟩ (tc.ent r c F ⟨ws, m, b⟩ e) p p ∧ rc.W tk fl N (tc.ent r c F ⟨ws, m, b⟩ e) + 1 ≤ rc.W tk fl N ⟨ws, m ++ [e], b⟩ := by
  obtain ⟨e1, e2⟩ := e
  obtain ⟨q1, q2, q3⟩ := h.i.en (e1, e2) (by simp)
  obtain ⟨q4, q5⟩ := h.i.mr e1 q1
  dsimp only at q1 q2 q3
  have ln : m.length < r := by have := h.i.ln; simp at this; omega
  have nd := h.nd
  rw [List.map_append, List.nodup_append] at nd
  have h1 : I3 tk fl R r ⟨ws, m, b⟩ p := ⟨⟨h.i.fi, h.i.mr, fun e he => h.i.en e (by simp [he]), by show m.length ≤ r; omega⟩, nd.1, h.ct⟩
  have WP : rc.wt fl (e1, e2) = (fl e1).length + 1 - e2.toNat := rfl
  rw [W_add]
  unfold tc.ent
  dsimp only
  rw [hF e1 q4]
  dsimp only
  by_cases hr : 0 ≤ e2 ∧ e2 < (fl e1).length
  · rw [if_pos hr]
    have rest : ∃ s1 : Ps, (if e2 + (c : Int) < (fl e1).length then (⟨ws, m, b⟩ : Ps).push r (e1, e2 + c) else ⟨ws, m, b⟩) = s1 ∧ I3 tk fl R r s1 p ∧ rc.Adv ⟨ws, m, b⟩ s1 ∧ rc.W tk fl N s1 + 1 ≤ rc.W tk fl N ⟨ws, m, b⟩ + rc.wt fl (e1, e2) ∧ (e2 + c < (fl e1).length → (e1, e2 + c) ∈ s1.m) ∧ s1.ws = ws := by
      by_cases hx : e2 + (c : Int) < (fl e1).length
      · rw [if_pos hx]
        refine ⟨⟨ws, m ++ [(e1, e2 + c)], b⟩, by unfold Ps.push; rw [if_pos ln], ⟨⟨h.i.fi, h.i.mr, fun e he => ?_, by simp; omega⟩, ?_, h.ct⟩, ⟨fun _ => id, fun e he => by simp [he], id, fun _ => .inl⟩, ?_, fun _ => by simp, rfl⟩
        · rcases List.mem_append.1 he with he | he
          · exact h1.i.en e he
          · rw [List.mem_singleton.1 he]; exact ⟨q1, by show (0 : Int) ≤ e2 + c; omega, by show e2 + (c : Int) ≤ ((fl e1).length : Int); omega⟩
        · show ((m ++ [(e1, e2 + (c : Int))]).map (·.1)).Nodup
          rw [List.map_append, List.nodup_append]
          exact nd
        · have : rc.wt fl (e1, e2 + c) = (fl e1).length + 1 - (e2 + c).toNat := rfl
          rw [W_add]
          omega
      · rw [if_neg hx]
        exact ⟨_, rfl, h1, rc.Adv.refl _, by omega, fun h => absurd h hx, rfl⟩
    obtain ⟨s1, es1, r1, r2, r3, r4, r5⟩ := rest
    rw [es1]
    obtain ⟨b1, b2, b3, b4⟩ := shl3 (l := ((fl e1).drop e2.toNat).take c) G r1 (fun v hv h2 => ⟨G.rf e1 q4 v (List.mem_of_mem_drop (List.mem_of_mem_take hv)) h2, C e1 v q5 (List.mem_of_mem_drop (List.mem_of_mem_take hv)) h2⟩)
    have A := r2.trans b2
    refine ⟨b1, ⟨A.mr, (Adn.of (fl := fl) (p := p) A).nw, fun a j v h4 h5 h8 => ?_⟩, by omega⟩
    rcases h8 with ⟨f, h8, h9⟩ | h8 | h8
    · rcases List.mem_append.1 h8 with h8 | h8
      · exact .inl (.inl ⟨f, A.st _ h8, h9⟩)
      · have := List.mem_singleton.1 h8
        injection this with t1 t2
        subst t1 t2
        by_cases hj : (j : Int) < f + c
        · refine .inr (b4 (2, v) ?_ rfl)
          refine List.mem_of_getElem? (i := j - f.toNat) ?_
          rw [List.getElem?_take, if_pos (by omega), List.getElem?_drop, show f.toNat + (j - f.toNat) = j by omega]
          exact h5
        · have jl := (List.getElem?_eq_some_iff.1 h5).1
          exact .inl (.inl ⟨f + c, b2.st _ (r4 (by omega)), by omega⟩)
    · exact .inl (.inr (.inl (A.ov h8)))
    · exact .inl (.inr (.inr h8))
  · rw [if_neg hr]
    refine ⟨h1, ⟨fun _ => id, fun _ _ _ h _ => .inl h, fun a j v h4 h5 h8 => ?_⟩, by omega⟩
    rcases h8 with ⟨f, h8, h9⟩ | h8 | h8
    · rcases List.mem_append.1 h8 with h8 | h8
      · exact .inl (.inl ⟨f, h8, h9⟩)
      · have := List.mem_singleton.1 h8
        injection this with t1 t2
        subst t1 t2
        have jl := (List.getElem?_eq_some_iff.1 h5).1
        exact absurd ⟨q2, by omega⟩ hr
    · exact .inl (.inr (.inl h8))
    · exact .inl (.inr (.inr h8))
theorem loks3 (G : rc.Gd tk fl N) (C : rc.Cd fl R) {F : Int → Option (List Va)} (hF : ∀ a ∈ tk, F a = some (fl a)) : ∀ {l : List Int} {s : Ps}, (∀ a ∈ l, a ∈ tk) → I3 tk fl R r s p →
    I3 tk fl R r (l.foldl (tc.lok r F) s) p ∧ rc.Adv s (l.foldl (tc.lok r F) s) ∧ rc.W tk fl N (l.foldl (tc.lok r F) s) ≤ rc.W tk fl N s ∧ ∀ a ∈ l, isb s.ws a = true → ∀ v ∈ fl a, v.1 = 2 → isb (l.foldl (tc.lok r F) s).ws v.2 = true
  | [], s, _, h => ⟨h, rc.Adv.refl _, Nat.le_refl _, fun a ha => by cases ha⟩
  | a :: l, s, hl, h => by
    have hl2 : ∀ b ∈ l, b ∈ tk := fun b hb => hl b (by simp [hb])
    have ha := hl a (by simp)
    have one : I3 tk fl R r (tc.lok r F s a) p ∧ rc.Adv s (tc.lok r F s a) ∧ rc.W tk fl N (tc.lok r F s a) ≤ rc.W tk fl N s ∧ (isb s.ws a = true → ∀ v ∈ fl a, v.1 = 2 → isb (tc.lok r F s a).ws v.2 = true) := by
      unfold tc.lok
      by_cases hm : isb s.ws a = true
      · rw [if_pos hm, hF a ha]
        obtain ⟨b1, b2, b3, b4⟩ := shl3 (l := fl a) G h (fun v hv h2 => ⟨G.rf a ha v hv h2, C a v (h.i.mr a hm).2 hv h2⟩)
        exact ⟨b1, b2, b3, fun _ => b4⟩
      · rw [if_neg hm]
        exact ⟨h, rc.Adv.refl _, Nat.le_refl _, fun h => absurd h hm⟩
    obtain ⟨a1, a2, a3, a4⟩ := one
    obtain ⟨b1, b2, b3, b4⟩ := loks3 G C hF hl2 a1
    refine ⟨b1, a2.trans b2, Nat.le_trans b3 a3, fun b hb hm v hv h2 => ?_⟩
    rcases List.mem_cons.1 hb with rfl | hb
    · exact b2.mr _ (a4 hm v hv h2)
    · exact b4 b hb (a2.mr _ hm) v hv h2
theorem ct_less {b : Bool} {n : Nat} {p p' : Int} (h : (if b = true then 1 else 0) + (if 0 ≤ p then 1 else 0) ≤ n) (hp : 0 ≤ p' → 0 ≤ p) : (if b = true then 1 else 0) + (if 0 ≤ p' then 1 else 0) ≤ n := by
  by_cases h1 : 0 ≤ p'
  · rw [if_pos h1]; rw [if_pos (hp h1)] at h; exact h
  · rw [if_neg h1]; omega
theorem look3 (G : rc.Gd tk fl N) (C : rc.Cd fl R) {F : Int → Option (List Va)} (hF : ∀ a ∈ tk, F a = some (fl a)) (h : I3 tk fl R r s p) (hp : 0 ≤ p ∧ p < N) {z : tc.Ts} (hz : z = tc.looked r N F (fun q => tk.filter fun a => decide (a / 32 = q)) s p) :
    I3 tk fl R r z.s z.p ∧ Adn fl s z.s p z.p ∧ rc.W tk fl N z.s ≤ rc.W tk fl N s ∧ tc.left N z.p + 1 ≤ tc.left N p ∧ (-1 ≤ z.p ∧ z.p < N) := by
  subst hz
  obtain ⟨b1, b2, b3, b4⟩ := loks3 (l := tk.filter fun a => decide (a / 32 = p)) G C hF (fun a ha => (List.mem_filter.1 ha).1) h
  unfold tc.looked
  dsimp only
  refine ⟨⟨b1.i, b1.nd, ct_less b1.ct (fun _ => hp.1)⟩, ⟨b2.mr, fun a j c h1 h2 => ?_, fun a j v h1 h2 h3 => ?_⟩, b3, ?_, ?_⟩
  · rcases b2.nw a h1 with h4 | h4 | h4
    · exact .inl h4
    · exact .inr (.inl (.inl ⟨0, h4, by omega⟩))
    · exact .inr (.inl (.inr (.inl h4)))
  · rcases h3 with ⟨f, h5, h6⟩ | h5 | h5
    · exact .inl (.inl ⟨f, b2.st _ h5, h6⟩)
    · exact .inl (.inr (.inl (b2.ov h5)))
    · have ht := (h.i.mr a h1).1
      have g3 := (G.rg a ht).2.2
      by_cases hq : p = a / 32
      · exact .inr (b4 a (List.mem_filter.2 ⟨ht, decide_eq_true hq.symm⟩) h1 (2, v) (List.mem_of_getElem? h2) rfl)
      · exact .inl (.inr (.inr (by rw [if_pos (by omega)]; omega)))
  · unfold tc.left
    by_cases h1 : p + 1 < N
    · rw [if_pos h1, if_neg (by omega), if_neg (by omega)]; omega
    · rw [if_neg h1, if_pos (by omega), if_neg (by omega)]; omega
  · split <;> omega
theorem unit3 (G : rc.Gd tk fl N) (C : rc.Cd fl R) (hc : 1 ≤ c) (hN : 1 ≤ N) {F : Int → Option (List Va)} (hF : ∀ a ∈ tk, F a = some (fl a)) {u : tc.Ts} (h : I3 tk fl R r u.s u.p) (hp : -1 ≤ u.p ∧ u.p < N) (hi : tc.Ts.idle u = false) {z : tc.Ts} (hz : z = tc.Ts.unit r N c F (fun q => tk.filter fun a => decide (a / 32 = q)) u) :
    I3 tk fl R r z.s z.p ∧ Adn fl u.s z.s u.p z.p ∧ rc.W tk fl N z.s + tc.left N z.p + 1 ≤ rc.W tk fl N u.s + tc.left N u.p ∧ (-1 ≤ z.p ∧ z.p < N) := by
  obtain ⟨s, p⟩ := u
  obtain ⟨ws, m, b⟩ := s
  dsimp only at h hp
  unfold tc.Ts.unit at hz
  dsimp only at hz
  by_cases hm : m = []
  · rw [if_neg (by simp [hm])] at hz
    by_cases h0 : 0 ≤ p
    · rw [if_pos h0] at hz
      obtain ⟨b1, b2, b3, b4, b5⟩ := look3 G C hF h ⟨h0, hp.2⟩ hz
      exact ⟨b1, b2, by dsimp only; omega, b5⟩
    · rw [if_neg h0] at hz
      have hb : b = true := by
        unfold tc.Ts.idle at hi
        simp only [hm, decide_true, Bool.true_and, decide_eq_true (show p < 0 by omega)] at hi
        simpa using hi
      rw [if_pos hb] at hz
      have ct := h.ct
      rw [if_pos hb, if_neg h0] at ct
      have h1 : I3 tk fl R r (Ps.settle ⟨ws, m, b⟩) 0 := ⟨⟨h.i.fi, h.i.mr, h.i.en, h.i.ln⟩, h.nd, by show _ + _ ≤ mks tk ws; simp [Ps.settle]; omega⟩
      have k1 : Adn fl ⟨ws, m, b⟩ (Ps.settle ⟨ws, m, b⟩) p 0 := ⟨fun _ => id, fun _ _ _ h _ => .inl h, fun a j v h2 h3 h4 => .inl (.inr (.inr (by have := G.rg a (h.i.mr a h2).1; omega)))⟩
      obtain ⟨b1, b2, b3, b4, b5⟩ := look3 G C hF h1 ⟨by omega, by omega⟩ hz
      refine ⟨b1, k1.trans b2, ?_, b5⟩
      have e1 : tc.left N p = 0 := by unfold tc.left; rw [if_pos (by omega)]
      have e2 : tc.left N 0 = N := by unfold tc.left; rw [if_neg (by omega)]; omega
      have e3 : rc.W tk fl N (Ps.settle ⟨ws, m, b⟩) + N = rc.W tk fl N ⟨ws, m, b⟩ := by
        unfold rc.W Ps.settle
        dsimp only
        rw [if_pos hb, if_neg (by decide)]
        omega
      dsimp only
      omega
  · rw [if_pos hm] at hz
    obtain ⟨m', e, rfl⟩ : ∃ m' e, m = m' ++ [e] := ⟨m.dropLast, m.getLast hm, (List.dropLast_concat_getLast hm).symm⟩
    have e1 : top (m' ++ [e]) = e := by simp [top]
    have e2 : Ps.pop ⟨ws, m' ++ [e], b⟩ = ⟨ws, m', b⟩ := by simp [Ps.pop]
    rw [e1, e2] at hz
    subst hz
    obtain ⟨b1, b2, b3⟩ := ent3 (c := c) G C hc hF h
    exact ⟨b1, b2, by dsimp only; omega, hp⟩
end
end Go.Proofs.YtkgdcgmbapchcaaGreatDoor.cy
