/- Joined: TrP, TrQ, TrR. -/
import Derived.Test.YtacjleladjgkeaaGreatDoorTcX
import Derived.Test.YtacjleladjgkeaaGreatDoorTrU
import Derived.Test.YtacjleladjgkeaaGreatDoorTgW
import Derived.Deep.AppendLies
import Derived.BigQuiet
/- Plain: what is marked and what waits, while units go on: marks are what can be reached; each unit lowers a number. -/
namespace Go.Proofs.YtacjleladjgkeaaGreatDoor.rc
open Go.ChangeShapes Go.WideShapes Go.ChangeAt Go.RowKit gen calls cls geos ce st sh
set_option linter.unusedVariables false
set_option maxHeartbeats 4000000
set_option maxRecDepth 100000
abbrev Va := Int × Int
theorem isb_mkd {ws : List Nat} (h : bm.Fine 2048 ws) (z a : Int) : isb (mkd ws z) a = true ↔ isb ws a = true ∨ (a = z ∧ 0 ≤ z ∧ z < 2048) := by
  rcases sh.ways ws z with ⟨h1, h2, _, h4, _⟩ | ⟨i, rfl, hi, ⟨hb, h2, _, h4, _⟩ | ⟨hb, h2, _, h4, _⟩⟩
  · rw [h4]
    exact ⟨.inl, fun h => h.elim id fun h => absurd h.2 h1⟩
  · rw [h4]
    exact ⟨.inl, fun h => h.elim id fun h => by rw [h.1]; exact h2⟩
  · rw [h4]
    unfold isb
    rw [bm.bit_put _ _ _ (by have := h.1; omega)]
    simp only [Bool.and_eq_true, decide_eq_true_eq, Bool.or_eq_true]
    constructor
    · rintro ⟨⟨h5, h6⟩, h7 | h7⟩
      · exact .inl ⟨⟨h5, h6⟩, h7⟩
      · exact .inr ⟨by omega, by omega, by omega⟩
    · rintro (⟨⟨h5, h6⟩, h7⟩ | ⟨h5, h6, h7⟩)
      · exact ⟨⟨h5, h6⟩, .inl h7⟩
      · exact ⟨⟨by omega, by omega⟩, .inr (by omega)⟩
theorem fine_mkd {ws : List Nat} (h : bm.Fine 2048 ws) (z : Int) : bm.Fine 2048 (mkd ws z) := by
  rcases sh.ways ws z with ⟨h1, h2, _, h4, _⟩ | ⟨i, rfl, hi, ⟨hb, h2, _, h4, _⟩ | ⟨hb, h2, _, h4, _⟩⟩
  · rw [h4]; exact h
  · rw [h4]; exact h
  · rw [h4]; exact h.put hi
theorem new_isb {ws : List Nat} {z : Int} (h : 0 ≤ z ∧ z < 2048) : newb ws z = true ↔ isb ws z = false := by
  unfold newb isb
  rw [decide_eq_true h.1, decide_eq_true h.2]
  cases bm.bit ws z.toNat <;> simp
/-- A later state of marks and what waits. -/
structure Adv (s s' : Ps) : Prop where
  mr : ∀ a, isb s.ws a = true → isb s'.ws a = true
  st : ∀ e, e ∈ s.m → e ∈ s'.m
  ov : s.b = true → s'.b = true
  nw : ∀ a, isb s'.ws a = true → isb s.ws a = true ∨ (a, 0) ∈ s'.m ∨ s'.b = true
theorem Adv.refl (s : Ps) : Adv s s := ⟨fun _ => id, fun _ => id, id, fun _ => .inl⟩
theorem Adv.trans {s s1 s2 : Ps} (h : Adv s s1) (k : Adv s1 s2) : Adv s s2 :=
  ⟨fun a h1 => k.mr a (h.mr a h1), fun e h1 => k.st e (h.st e h1), fun h1 => k.ov (h.ov h1), fun a h1 => by
    rcases k.nw a h1 with h2 | h2 | h2
    · rcases h.nw a h2 with h3 | h3 | h3
      · exact .inl h3
      · exact .inr (.inl (k.st _ h3))
      · exact .inr (.inr (k.ov h3))
    · exact .inr (.inl h2)
    · exact .inr (.inr h2)⟩
/-- The objects: their addresses, and their fields. -/
structure Gd (tk : List Int) (fl : Int → List Va) (N : Nat) : Prop where
  nd : tk.Nodup
  rg : ∀ a ∈ tk, 0 ≤ a ∧ a < 2048 ∧ a / 32 < N
  rf : ∀ a ∈ tk, ∀ v ∈ fl a, v.1 = 2 → v.2 ∈ tk
/-- What holds of marks and of what waits. -/
structure In (tk : List Int) (fl : Int → List Va) (R : Int → Prop) (r : Nat) (s : Ps) : Prop where
  fi : bm.Fine 2048 s.ws
  mr : ∀ a, isb s.ws a = true → a ∈ tk ∧ R a
  en : ∀ e ∈ s.m, isb s.ws e.1 = true ∧ 0 ≤ e.2 ∧ e.2 ≤ (fl e.1).length
  ln : s.m.length ≤ r
/-- What is still to be done, at most. -/
def us (fl : Int → List Va) (N : Nat) (ws : List Nat) : List Int → Nat
  | [] => 0
  | a :: l => (if isb ws a = true then 0 else (fl a).length + 1 + N) + us fl N ws l
def wt (fl : Int → List Va) (e : Va) : Nat := (fl e.1).length + 1 - e.2.toNat
def es (fl : Int → List Va) (m : List Va) : Nat := (m.map (wt fl)).sum
def W (tk : List Int) (fl : Int → List Va) (N : Nat) (s : Ps) : Nat := us fl N s.ws tk + es fl s.m + if s.b = true then N else 0
section
variable {tk : List Int} {fl : Int → List Va} {R : Int → Prop} {r N c : Nat} {s s' : Ps} {z : Int} {p : Int}
theorem us_same {ws ws' : List Nat} : ∀ {l : List Int}, (∀ a ∈ l, isb ws' a = true ↔ isb ws a = true) → us fl N ws' l = us fl N ws l
  | [], _ => rfl
  | a :: l, h => by
    have h1 := h a (by simp)
    have h2 := us_same (l := l) (fun b hb => h b (by simp [hb]))
    unfold us
    rw [h2]
    by_cases h3 : isb ws a = true
    · rw [if_pos h3, if_pos (h1.2 h3)]
    · rw [if_neg h3, if_neg (fun h => h3 (h1.1 h))]
theorem us_mark {ws ws' : List Nat} (hz : isb ws z = false) (h : ∀ a, isb ws' a = true ↔ isb ws a = true ∨ a = z) : ∀ {l : List Int}, l.Nodup → z ∈ l → us fl N ws' l + ((fl z).length + 1 + N) = us fl N ws l
  | [], _, hm => by cases hm
  | a :: l, hn, hm => by
    obtain ⟨h1, h2⟩ := List.nodup_cons.1 hn
    unfold us
    by_cases e : z = a
    · subst e
      rw [if_pos ((h z).2 (.inr rfl)), if_neg (by rw [hz]; decide), us_same (ws := ws) (ws' := ws') (fun b hb => by
        rw [h b]
        exact ⟨fun h3 => h3.elim id fun h4 => absurd (h4 ▸ hb) h1, .inl⟩)]
      omega
    · have hm2 : z ∈ l := by
        rcases List.mem_cons.1 hm with h3 | h3
        · exact absurd h3 e
        · exact h3
      have ih := us_mark hz h h2 hm2
      by_cases h3 : isb ws a = true
      · rw [if_pos h3, if_pos ((h a).2 (.inl h3))]; omega
      · rw [if_neg h3, if_neg (fun h4 => (((h a).1 h4).elim h3 fun h5 => e h5.symm))]; omega
theorem es_add (m : List Va) (e : Va) : es fl (m ++ [e]) = es fl m + wt fl e := by simp [es]
/-- One address is shaded. -/
theorem shade_in (G : Gd tk fl N) (h : In tk fl R r s) (hz : z ∈ tk) (hR : R z) :
    In tk fl R r (s.shade r z) ∧ Adv s (s.shade r z) ∧ isb (s.shade r z).ws z = true ∧ W tk fl N (s.shade r z) ≤ W tk fl N s := by
  obtain ⟨g1, g2, g3⟩ := G.rg z hz
  by_cases hn : newb s.ws z = true
  · have hz0 := (new_isb (ws := s.ws) ⟨g1, g2⟩).1 hn
    have MK := isb_mkd h.fi z
    have MK2 : ∀ a, isb (mkd s.ws z) a = true ↔ isb s.ws a = true ∨ a = z := fun a => by rw [MK a]; exact ⟨fun h => h.imp id (·.1), fun h => h.imp id (fun e => ⟨e, g1, g2⟩)⟩
    have FM := fine_mkd h.fi z
    have US := us_mark (fl := fl) (N := N) hz0 MK2 G.nd hz
    have WT : wt fl (z, 0) = (fl z).length + 1 := by simp [wt]
    have en2 : ∀ e ∈ s.m, isb (mkd s.ws z) e.1 = true ∧ 0 ≤ e.2 ∧ e.2 ≤ (fl e.1).length := fun e he => by
      obtain ⟨e1, e2⟩ := h.en e he
      exact ⟨(MK2 _).2 (.inl e1), e2⟩
    have mk2 : ∀ a, isb (mkd s.ws z) a = true → a ∈ tk ∧ R a := fun a ha => ((MK2 a).1 ha).elim (h.mr a) fun e => by rw [e]; exact ⟨hz, hR⟩
    unfold Ps.shade
    rw [if_pos hn]
    unfold Ps.push Ps.black
    dsimp only
    by_cases hl : s.m.length < r
    · rw [if_pos hl]
      refine ⟨⟨FM, mk2, fun e he => ?_, by simp; omega⟩, ⟨fun a h1 => (MK2 a).2 (.inl h1), fun e he => by simp [he], id, fun a h1 => ((MK2 a).1 h1).imp id fun e => .inl (by rw [e]; simp)⟩, (MK2 z).2 (.inr rfl), ?_⟩
      · rcases List.mem_append.1 he with he | he
        · exact en2 e he
        · rw [List.mem_singleton.1 he]; exact ⟨(MK2 z).2 (.inr rfl), by simp, by simp⟩
      · unfold W
        dsimp only
        rw [es_add, WT]
        omega
    · rw [if_neg hl]
      refine ⟨⟨FM, mk2, en2, h.ln⟩, ⟨fun a h1 => (MK2 a).2 (.inl h1), fun e he => he, fun _ => rfl, fun a h1 => ((MK2 a).1 h1).imp id fun e => .inr rfl⟩, (MK2 z).2 (.inr rfl), ?_⟩
      unfold W
      dsimp only
      rw [if_pos rfl]
      omega
  · have hz0 : isb s.ws z = true := by
      cases hb : isb s.ws z with
      | true => rfl
      | false => exact absurd ((new_isb (ws := s.ws) ⟨g1, g2⟩).2 hb) hn
    unfold Ps.shade
    rw [if_neg hn]
    exact ⟨h, Adv.refl _, hz0, Nat.le_refl _⟩
/-- What a list of fields leads to is shaded. -/
theorem shl_in (G : Gd tk fl N) : ∀ {l : List Va} {s : Ps}, In tk fl R r s → (∀ v ∈ l, v.1 = 2 → v.2 ∈ tk ∧ R v.2) →
    In tk fl R r (tc.shl r s l) ∧ Adv s (tc.shl r s l) ∧ W tk fl N (tc.shl r s l) ≤ W tk fl N s ∧ ∀ v ∈ l, v.1 = 2 → isb (tc.shl r s l).ws v.2 = true
  | [], s, h, _ => ⟨h, Adv.refl _, Nat.le_refl _, fun v hv => by cases hv⟩
  | v :: l, s, h, hv => by
    have hv2 : ∀ u ∈ l, u.1 = 2 → u.2 ∈ tk ∧ R u.2 := fun u hu => hv u (by simp [hu])
    by_cases h2 : v.1 = 2
    · have e : tc.shl r s (v :: l) = tc.shl r (s.shade r v.2) l := by
        show tc.shl r (tc.shv r s v) l = _
        unfold tc.shv
        rw [if_pos h2]
      obtain ⟨k1, k2⟩ := hv v (by simp) h2
      obtain ⟨a1, a2, a3, a4⟩ := shade_in G h k1 k2
      obtain ⟨b1, b2, b3, b4⟩ := shl_in G a1 hv2
      rw [e]
      exact ⟨b1, a2.trans b2, Nat.le_trans b3 a4, fun u hu hu2 => by
        rcases List.mem_cons.1 hu with rfl | hu
        · exact b2.mr _ a3
        · exact b4 u hu hu2⟩
    · have e : tc.shl r s (v :: l) = tc.shl r s l := by
        show tc.shl r (tc.shv r s v) l = _
        unfold tc.shv
        rw [if_neg h2]
      obtain ⟨b1, b2, b3, b4⟩ := shl_in G h hv2
      rw [e]
      exact ⟨b1, b2, b3, fun u hu hu2 => by
        rcases List.mem_cons.1 hu with rfl | hu
        · exact absurd hu2 h2
        · exact b4 u hu hu2⟩
/-- A marked object's references are marked, or wait, or are looked at. -/
def Cl (fl : Int → List Va) (s : Ps) (p : Int) : Prop := ∀ (a : Int) (j : Nat) (v : Va), isb s.ws a = true → (fl a)[j]? = some v → v.1 = 2 → isb s.ws v.2 = true ∨ (∃ f, (a, f) ∈ s.m ∧ f ≤ j) ∨ s.b = true ∨ (0 ≤ p ∧ p ≤ a / 32)
theorem Cl.adv (h : Cl fl s p) (k : Adv s s') : Cl fl s' p := fun a j v h1 h2 h3 => by
  rcases k.nw a h1 with h4 | h4 | h4
  · rcases h a j v h4 h2 h3 with h5 | ⟨f, h5, h6⟩ | h5 | h5
    · exact .inl (k.mr _ h5)
    · exact .inr (.inl ⟨f, k.st _ h5, h6⟩)
    · exact .inr (.inr (.inl (k.ov h5)))
    · exact .inr (.inr (.inr h5))
  · exact .inr (.inl ⟨0, h4, by omega⟩)
  · exact .inr (.inr (.inl h4))
/-- R is closed. -/
def Cd (fl : Int → List Va) (R : Int → Prop) : Prop := ∀ a v, R a → v ∈ fl a → v.1 = 2 → R v.2
/-- What waits on top is gone through. -/
theorem ent_in (G : Gd tk fl N) (C : Cd fl R) (hc : 1 ≤ c) {F : Int → Option (List Va)} (hF : ∀ a ∈ tk, F a = some (fl a)) {ws : List Nat} {m : List Va} {e : Va} {b : Bool} (h : In tk fl R r ⟨ws, m ++ [e], b⟩) (k : Cl fl ⟨ws, m ++ [e], b⟩ p) :
    In tk fl R r (tc.ent r c F ⟨ws, m, b⟩ e) ∧ Cl fl (tc.ent r c F ⟨ws, m, b⟩ e) p ∧ W tk fl N (tc.ent r c F ⟨ws, m, b⟩ e) + 1 ≤ W tk fl N ⟨ws, m ++ [e], b⟩ ∧ ∀ a, isb ws a = true → isb (tc.ent r c F ⟨ws, m, b⟩ e).ws a = true := by
  obtain ⟨e1, e2⟩ := e
  obtain ⟨q1, q2, q3⟩ := h.en (e1, e2) (by simp)
  obtain ⟨q4, q5⟩ := h.mr e1 q1
  dsimp only at q1 q2 q3
  have ln : m.length < r := by have := h.ln; simp at this; omega
  have h1 : In tk fl R r ⟨ws, m, b⟩ := ⟨h.fi, h.mr, fun e he => h.en e (by simp [he]), by show m.length ≤ r; omega⟩
  have W1 : W tk fl N ⟨ws, m ++ [(e1, e2)], b⟩ = W tk fl N ⟨ws, m, b⟩ + wt fl (e1, e2) := by
    unfold W
    dsimp only
    rw [es_add]
    omega
  have WP : wt fl (e1, e2) = (fl e1).length + 1 - e2.toNat := rfl
  rw [W1]
  unfold tc.ent
  dsimp only
  rw [hF e1 q4]
  dsimp only
  by_cases hr : 0 ≤ e2 ∧ e2 < (fl e1).length
  · rw [if_pos hr]
    have rest : ∃ s1 : Ps, (if e2 + (c : Int) < (fl e1).length then (⟨ws, m, b⟩ : Ps).push r (e1, e2 + c) else ⟨ws, m, b⟩) = s1 ∧ In tk fl R r s1 ∧ Adv ⟨ws, m, b⟩ s1 ∧ W tk fl N s1 + 1 ≤ W tk fl N ⟨ws, m, b⟩ + wt fl (e1, e2) ∧ (e2 + c < (fl e1).length → (e1, e2 + c) ∈ s1.m) ∧ s1.ws = ws := by
      by_cases hx : e2 + (c : Int) < (fl e1).length
      · rw [if_pos hx]
        refine ⟨⟨ws, m ++ [(e1, e2 + c)], b⟩, by unfold Ps.push; rw [if_pos ln], ⟨h.fi, h.mr, fun e he => ?_, by simp; omega⟩, ⟨fun _ => id, fun e he => by simp [he], id, fun _ => .inl⟩, ?_, fun _ => by simp, rfl⟩
        · rcases List.mem_append.1 he with he | he
          · exact h1.en e he
          · rw [List.mem_singleton.1 he]; exact ⟨q1, by show (0 : Int) ≤ e2 + c; omega, by show e2 + (c : Int) ≤ ((fl e1).length : Int); omega⟩
        · have : wt fl (e1, e2 + c) = (fl e1).length + 1 - (e2 + c).toNat := rfl
          have W2 : W tk fl N ⟨ws, m ++ [(e1, e2 + c)], b⟩ = W tk fl N ⟨ws, m, b⟩ + wt fl (e1, e2 + c) := by
            unfold W
            dsimp only
            rw [es_add]
            omega
          rw [W2]
          omega
      · rw [if_neg hx]
        exact ⟨_, rfl, h1, Adv.refl _, by omega, fun h => absurd h hx, rfl⟩
    obtain ⟨s1, es1, r1, r2, r3, r4, r5⟩ := rest
    rw [es1]
    obtain ⟨b1, b2, b3, b4⟩ := shl_in (l := ((fl e1).drop e2.toNat).take c) G r1 (fun v hv h2 => by
      have hv2 := List.mem_of_mem_drop (List.mem_of_mem_take hv)
      exact ⟨G.rf e1 q4 v hv2 h2, C e1 v q5 hv2 h2⟩)
    refine ⟨b1, fun a j v h4 h5 h6 => ?_, by omega, (r2.trans b2).mr⟩
    rcases (r2.trans b2).nw a h4 with h7 | h7 | h7
    · rcases k a j v h7 h5 h6 with h8 | ⟨f, h8, h9⟩ | h8 | h8
      · exact .inl (b2.mr _ (by rw [r5]; exact h8))
      · rcases List.mem_append.1 h8 with h8 | h8
        · exact .inr (.inl ⟨f, (r2.trans b2).st _ h8, h9⟩)
        · have := List.mem_singleton.1 h8
          injection this with t1 t2
          subst t1 t2
          by_cases hj : (j : Int) < f + c
          · refine .inl (b4 v ?_ h6)
            refine List.mem_of_getElem? (i := j - f.toNat) ?_
            rw [List.getElem?_take, if_pos (by omega), List.getElem?_drop, show f.toNat + (j - f.toNat) = j by omega]
            exact h5
          · have jl := (List.getElem?_eq_some_iff.1 h5).1
            exact .inr (.inl ⟨f + c, b2.st _ (r4 (by omega)), by omega⟩)
      · exact .inr (.inr (.inl ((r2.trans b2).ov h8)))
      · exact .inr (.inr (.inr h8))
    · exact .inr (.inl ⟨0, h7, by omega⟩)
    · exact .inr (.inr (.inl h7))
  · rw [if_neg hr]
    refine ⟨h1, fun a j v h4 h5 h6 => ?_, by omega, fun _ h => h⟩
    rcases k a j v h4 h5 h6 with h8 | ⟨f, h8, h9⟩ | h8 | h8
    · exact .inl h8
    · rcases List.mem_append.1 h8 with h8 | h8
      · exact .inr (.inl ⟨f, h8, h9⟩)
      · have := List.mem_singleton.1 h8
        injection this with t1 t2
        subst t1 t2
        have jl := (List.getElem?_eq_some_iff.1 h5).1
        exact absurd ⟨q2, by omega⟩ hr
    · exact .inr (.inr (.inl h8))
    · exact .inr (.inr (.inr h8))
/-- Objects are looked at, one after another. -/
theorem loks_in (G : Gd tk fl N) (C : Cd fl R) {F : Int → Option (List Va)} (hF : ∀ a ∈ tk, F a = some (fl a)) : ∀ {l : List Int} {s : Ps}, (∀ a ∈ l, a ∈ tk) → In tk fl R r s →
    In tk fl R r (l.foldl (tc.lok r F) s) ∧ Adv s (l.foldl (tc.lok r F) s) ∧ W tk fl N (l.foldl (tc.lok r F) s) ≤ W tk fl N s ∧ ∀ a ∈ l, isb s.ws a = true → ∀ v ∈ fl a, v.1 = 2 → isb (l.foldl (tc.lok r F) s).ws v.2 = true
  | [], s, _, h => ⟨h, Adv.refl _, Nat.le_refl _, fun a ha => by cases ha⟩
  | a :: l, s, hl, h => by
    have hl2 : ∀ b ∈ l, b ∈ tk := fun b hb => hl b (by simp [hb])
    have ha := hl a (by simp)
    have one : In tk fl R r (tc.lok r F s a) ∧ Adv s (tc.lok r F s a) ∧ W tk fl N (tc.lok r F s a) ≤ W tk fl N s ∧ (isb s.ws a = true → ∀ v ∈ fl a, v.1 = 2 → isb (tc.lok r F s a).ws v.2 = true) := by
      unfold tc.lok
      by_cases hm : isb s.ws a = true
      · rw [if_pos hm, hF a ha]
        obtain ⟨b1, b2, b3, b4⟩ := shl_in (l := fl a) G h (fun v hv h2 => ⟨G.rf a ha v hv h2, C a v (h.mr a hm).2 hv h2⟩)
        exact ⟨b1, b2, b3, fun _ => b4⟩
      · rw [if_neg hm]
        exact ⟨h, Adv.refl _, Nat.le_refl _, fun h => absurd h hm⟩
    obtain ⟨a1, a2, a3, a4⟩ := one
    obtain ⟨b1, b2, b3, b4⟩ := loks_in G C hF hl2 a1
    refine ⟨b1, a2.trans b2, Nat.le_trans b3 a3, fun b hb hm v hv h2 => ?_⟩
    rcases List.mem_cons.1 hb with rfl | hb
    · exact b2.mr _ (a4 hm v hv h2)
    · exact b4 b hb (a2.mr _ hm) v hv h2
/-- A page is looked at. -/
theorem look_in (G : Gd tk fl N) (C : Cd fl R) {F : Int → Option (List Va)} (hF : ∀ a ∈ tk, F a = some (fl a)) (h : In tk fl R r s) (k : Cl fl s p) (hp : 0 ≤ p ∧ p < N) :
    In tk fl R r (tc.looked r N F (fun q => tk.filter fun a => decide (a / 32 = q)) s p).s ∧ Cl fl (tc.looked r N F (fun q => tk.filter fun a => decide (a / 32 = q)) s p).s (tc.looked r N F (fun q => tk.filter fun a => decide (a / 32 = q)) s p).p ∧ W tk fl N (tc.looked r N F (fun q => tk.filter fun a => decide (a / 32 = q)) s p).s ≤ W tk fl N s ∧ ∀ a, isb s.ws a = true → isb (tc.looked r N F (fun q => tk.filter fun a => decide (a / 32 = q)) s p).s.ws a = true := by
  obtain ⟨b1, b2, b3, b4⟩ := loks_in (l := tk.filter fun a => decide (a / 32 = p)) G C hF (fun a ha => (List.mem_filter.1 ha).1) h
  refine ⟨b1, fun a j v h1 h2 h3 => ?_, b3, b2.mr⟩
  unfold tc.looked at h1 ⊢
  dsimp only at h1 ⊢
  rcases b2.nw a h1 with h4 | h4 | h4
  · rcases k a j v h4 h2 h3 with h5 | ⟨f, h5, h6⟩ | h5 | h5
    · exact .inl (b2.mr _ h5)
    · exact .inr (.inl ⟨f, b2.st _ h5, h6⟩)
    · exact .inr (.inr (.inl (b2.ov h5)))
    · have ht := (h.mr a h4).1
      have g3 := (G.rg a ht).2.2
      by_cases hq : p = a / 32
      · exact .inl (b4 a (List.mem_filter.2 ⟨ht, decide_eq_true hq.symm⟩) h4 v (List.mem_of_getElem? h2) h3)
      · exact .inr (.inr (.inr (by rw [if_pos (by omega)]; omega)))
  · exact .inr (.inl ⟨0, h4, by omega⟩)
  · exact .inr (.inr (.inl h4))
/-- A unit. -/
theorem unit_in (G : Gd tk fl N) (C : Cd fl R) (hc : 1 ≤ c) (hN : 1 ≤ N) {F : Int → Option (List Va)} (hF : ∀ a ∈ tk, F a = some (fl a)) {u : tc.Ts} (h : In tk fl R r u.s) (k : Cl fl u.s u.p) (hp : -1 ≤ u.p ∧ u.p < N) (hi : tc.Ts.idle u = false) {z : tc.Ts} (hz : z = tc.Ts.unit r N c F (fun q => tk.filter fun a => decide (a / 32 = q)) u) :
    In tk fl R r z.s ∧ Cl fl z.s z.p ∧ W tk fl N z.s + tc.left N z.p + 1 ≤ W tk fl N u.s + tc.left N u.p ∧ ∀ a, isb u.s.ws a = true → isb z.s.ws a = true := by
  subst hz
  obtain ⟨s, p⟩ := u
  obtain ⟨ws, m, b⟩ := s
  dsimp only at h k hp
  unfold tc.Ts.unit
  dsimp only
  by_cases hm : m = []
  · rw [if_neg (by simp [hm])]
    by_cases h0 : 0 ≤ p
    · rw [if_pos h0]
      obtain ⟨b1, b2, b3, b4⟩ := look_in G C hF h k ⟨h0, hp.2⟩
      refine ⟨b1, b2, ?_, b4⟩
      have e1 : tc.left N p = (N - p).toNat := by unfold tc.left; rw [if_neg (by omega)]
      have e2 : tc.left N (tc.looked r N F (fun q => tk.filter fun a => decide (a / 32 = q)) ⟨ws, m, b⟩ p).p + 1 ≤ (N - p).toNat := by
        unfold tc.looked tc.left
        dsimp only
        by_cases h1 : p + 1 < N
        · rw [if_pos h1, if_neg (by omega)]; omega
        · rw [if_neg h1, if_pos (by omega)]; omega
      omega
    · rw [if_neg h0]
      have hb : b = true := by
        unfold tc.Ts.idle at hi
        simp only [hm, decide_true, Bool.true_and, decide_eq_true (show p < 0 by omega)] at hi
        simpa using hi
      rw [if_pos hb]
      have h1 : In tk fl R r (Ps.settle ⟨ws, m, b⟩) := ⟨h.fi, h.mr, h.en, h.ln⟩
      have k1 : Cl fl (Ps.settle ⟨ws, m, b⟩) 0 := fun a j v h2 h3 h4 => .inr (.inr (.inr (by have := G.rg a (h1.mr a h2).1; omega)))
      obtain ⟨b1, b2, b3, b4⟩ := look_in G C hF h1 k1 ⟨by omega, by omega⟩
      refine ⟨b1, b2, ?_, b4⟩
      have e1 : tc.left N p = 0 := by unfold tc.left; rw [if_pos (by omega)]
      have e2 : tc.left N (tc.looked r N F (fun q => tk.filter fun a => decide (a / 32 = q)) (Ps.settle ⟨ws, m, b⟩) 0).p + 1 ≤ N := by
        unfold tc.looked tc.left
        dsimp only
        by_cases h1 : (0 : Int) + 1 < N
        · rw [if_pos h1, if_neg (by omega)]; omega
        · rw [if_neg h1, if_pos (by omega)]; omega
      have e3 : W tk fl N (Ps.settle ⟨ws, m, b⟩) + N = W tk fl N ⟨ws, m, b⟩ := by
        unfold W Ps.settle
        dsimp only
        rw [if_pos hb, if_neg (by decide)]
        omega
      omega
  · rw [if_pos hm]
    obtain ⟨m', e, rfl⟩ : ∃ m' e, m = m' ++ [e] := ⟨m.dropLast, m.getLast hm, (List.dropLast_concat_getLast hm).symm⟩
    have e1 : top (m' ++ [e]) = e := by simp [top]
    have e2 : Ps.pop ⟨ws, m' ++ [e], b⟩ = ⟨ws, m', b⟩ := by simp [Ps.pop]
    rw [e1, e2]
    obtain ⟨b1, b2, b3, b4⟩ := ent_in (c := c) G C hc hF h k
    exact ⟨b1, b2, by dsimp only; omega, b4⟩
/-- What can be reached. -/
def Rc (fl : Int → List Va) (sh : List Int) (a : Int) : Prop := ∀ S : Int → Prop, (∀ b ∈ sh, S b) → (∀ b v, S b → v ∈ fl b → v.1 = 2 → S v.2) → S a
theorem Rc.cd (sh : List Int) : Cd fl (Rc fl sh) := fun a v h hv h2 S h3 h4 => h4 a v (h S h3 h4) hv h2
theorem Rc.at_ {sh : List Int} {a : Int} (h : a ∈ sh) : Rc fl sh a := fun S h3 _ => h3 a h
/-- Behind all units: the marks are what can be reached. -/
theorem idle_marks {sh : List Int} {u : tc.Ts} (h : In tk fl (Rc fl sh) r u.s) (k : Cl fl u.s u.p) (hi : tc.Ts.idle u = true) (hs : ∀ a ∈ sh, isb u.s.ws a = true) (a : Int) : isb u.s.ws a = true ↔ Rc fl sh a := by
  refine ⟨fun h1 => (h.mr a h1).2, fun h1 => h1 (fun a => isb u.s.ws a = true) hs fun b v h2 h3 h4 => ?_⟩
  unfold tc.Ts.idle at hi
  simp only [Bool.and_eq_true, decide_eq_true_eq, Bool.not_eq_true'] at hi
  obtain ⟨⟨i1, i2⟩, i3⟩ := hi
  obtain ⟨j, hj, e⟩ := List.mem_iff_getElem.1 h3
  rcases k b j v h2 (by rw [List.getElem?_eq_getElem hj, e]) h4 with h5 | ⟨f, h5, _⟩ | h5 | h5
  · exact h5
  · rw [i1] at h5; cases h5
  · rw [i3] at h5; cases h5
  · omega
end
end Go.Proofs.YtacjleladjgkeaaGreatDoor.rc

/- The objects of a store: how many units there are at most; what a list of addresses leads to. -/
namespace Go.Proofs.YtacjleladjgkeaaGreatDoor.rc
open Go.ChangeShapes Go.WideShapes Go.ChangeAt Go.RowKit gen calls cls geos ce st sh
set_option linter.unusedVariables false
set_option maxHeartbeats 4000000
set_option maxRecDepth 100000
theorem isb_zero (a : Int) : isb bm.zeros a = false := by
  unfold isb
  have : ∀ i, bm.bit bm.zeros i = false := fun i => by
    cases h : bm.bit bm.zeros i with
    | false => rfl
    | true => exact absurd ((bm.Fine.zeros (n := 0) (by omega)).2.2.1 i h) (by omega)
  rw [this, Bool.and_false]
theorem us_zero {fl : Int → List Va} {N : Nat} : ∀ (l : List Int) (lo hi : Int), l.Pairwise (fun a b => a + ((fl a).length + 1 : Nat) ≤ b) → (∀ a ∈ l, lo ≤ a ∧ a + ((fl a).length + 1 : Nat) ≤ hi) → lo ≤ hi → (us fl N bm.zeros l : Int) ≤ hi - lo + (N * l.length : Nat)
  | [], lo, hi, _, _, h => by simp [us]; omega
  | a :: l, lo, hi, hp, hb, h => by
    obtain ⟨h1, h2⟩ := List.pairwise_cons.1 hp
    obtain ⟨h3, h4⟩ := hb a (by simp)
    have ih := us_zero (N := N) l (a + ((fl a).length + 1 : Nat)) hi h2 (fun b hb' => ⟨h1 b hb', (hb b (by simp [hb'])).2⟩) h4
    unfold us
    rw [if_neg (by rw [isb_zero]; decide), List.length_cons, Nat.mul_succ]
    omega
section
variable {x : Hs} {N : Nat}
theorem fls_live (V : Iv x) {a : Int} (ha : a ∈ x.tk) : (((tc.fls x a).length + 1 : Nat) : Int) ≤ bz x.ks a := by
  obtain ⟨s, m, l1, l2, l3, l4⟩ := V.live a ha
  rw [tc.fls_len, l4]
  omega
theorem gd_of (V : Iv x) (R : tr.Rk N x) : Gd x.tk (tc.fls x) N := by
  refine ⟨V.ok.up.imp (fun h => by omega), fun a ha => ?_, fun a ha v hv h2 => R.2 (a, x.xs.getD a.toNat 0 / 128, tc.fls x a) (ph.obs_mem.2 ⟨a, ha, rfl⟩) v hv h2⟩
  have h1 := ph.tk_range V ha
  have h2 := bz_in V.ok ha
  have h3 := bz_pos V.ok ha
  have h4 := V.ok.len
  have h5 := R.1
  omega
theorem w0_le (V : Iv x) (R : tr.Rk N x) : W x.tk (tc.fls x) N none0 ≤ 32 * N + N * x.tk.length := by
  have h := us_zero (fl := tc.fls x) (N := N) x.tk 0 x.xs.length (V.ok.up.imp_of_mem fun {a b} ha hb hlt => by
    have h1 := fls_live V ha
    refine Int.le_trans (Int.add_le_add_left h1 a) ?_
    refine Int.not_lt.1 fun h2 => ?_
    have e1 := base_in V.ok ha (x := b) (by omega) h2
    have e2 := base_in V.ok hb (x := b) (by omega) (by have := bz_pos V.ok hb; omega)
    omega) (fun a ha => by
    have h1 := fls_live V ha
    have h2 := bz_in V.ok ha
    exact ⟨h2.1, by omega⟩) (by omega)
  have h4 := V.ok.len
  have h5 := R.1
  have e : W x.tk (tc.fls x) N none0 = us (tc.fls x) N bm.zeros x.tk := by unfold W es; simp
  rw [e]
  omega
theorem flo_at {a : Int} (ha : a ∈ x.tk) : tc.flo x a = some (tc.fls x a) := by unfold tc.flo; rw [if_pos ha]
/-- Before all units. -/
theorem in0 {R : Int → Prop} {r : Nat} : In x.tk (tc.fls x) R r none0 := ⟨bm.Fine.zeros (by omega), fun a h => (by rw [isb_zero] at h; cases h), fun e he => (by cases he), Nat.zero_le _⟩
theorem cl0 {p : Int} : Cl (tc.fls x) none0 p := fun a j v h => by rw [isb_zero] at h; cases h
/-! ### A list of addresses, and what is taken up of it -/
/-- How many fields there are of what is not yet taken up. -/
def rest (fl : Int → List Va) (out : List Int) : List Int → Nat
  | [] => 0
  | a :: l => (if a ∈ out then 0 else (fl a).length) + rest fl out l
theorem rest_same {fl : Int → List Va} {out : List Int} {z : Int} : ∀ {l : List Int}, z ∉ l → rest fl (out ++ [z]) l = rest fl out l
  | [], _ => rfl
  | a :: l, h => by
    unfold rest
    rw [rest_same (fun hm => h (by simp [hm]))]
    have : a ≠ z := fun e => h (by simp [e])
    by_cases h2 : a ∈ out
    · rw [if_pos h2, if_pos (by simp [h2])]
    · rw [if_neg h2, if_neg (by simp [h2, this])]
theorem rest_out {fl : Int → List Va} {out : List Int} {z : Int} (hz : z ∉ out) : ∀ {l : List Int}, l.Nodup → z ∈ l → rest fl (out ++ [z]) l + (fl z).length = rest fl out l
  | [], _, hm => by cases hm
  | a :: l, hn, hm => by
    obtain ⟨h1, h2⟩ := List.nodup_cons.1 hn
    unfold rest
    by_cases e : z = a
    · subst e
      rw [if_pos (by simp), if_neg hz, rest_same h1]
      omega
    · have hm2 : z ∈ l := by
        rcases List.mem_cons.1 hm with h3 | h3
        · exact absurd h3 e
        · exact h3
      have ih := rest_out (fl := fl) hz h2 hm2
      by_cases h3 : a ∈ out
      · rw [if_pos h3, if_pos (by simp [h3])]; omega
      · rw [if_neg h3, if_neg (by simp [h3]; exact fun h => e h.symm)]; omega
theorem rest_nil {fl : Int → List Va} : ∀ (l : List Int), rest fl [] l ≤ us fl 0 bm.zeros l
  | [] => Nat.le_refl _
  | a :: l => by
    have ih := rest_nil (fl := fl) l
    unfold rest us
    rw [if_neg (by simp), if_neg (by rw [isb_zero]; decide)]
    omega
/-- out: what is taken up, of the first k of next. -/
structure Cq (tk : List Int) (fl : Int → List Va) (sh out nx : List Int) (k T : Nat) : Prop where
  ot : ∀ a ∈ out, a ∈ tk
  nt : ∀ a ∈ nx, a ∈ tk ∧ Rc fl sh a
  sn : ∀ a ∈ sh, a ∈ nx
  on : ∀ a ∈ out, a ∈ nx
  up : ∀ i a, i < k → nx[i]? = some a → a ∈ out
  cl : ∀ a ∈ out, ∀ v ∈ fl a, v.1 = 2 → v.2 ∈ nx
  few : nx.length + rest fl out tk ≤ T
  kn : k ≤ nx.length
variable {tk sh out nx : List Int} {fl : Int → List Va} {k T : Nat}
theorem Cq.skip (h : Cq tk fl sh out nx k T) (hk : k < nx.length) (hm : nx.getD k 0 ∈ out) : Cq tk fl sh out nx (k + 1) T := by
  refine ⟨h.ot, h.nt, h.sn, h.on, fun i a hi ha => ?_, h.cl, h.few, hk⟩
  by_cases e : i = k
  · subst e
    rw [List.getD_eq_getElem?_getD, ha] at hm
    exact hm
  · exact h.up i a (by omega) ha
/-- The references among the first j fields. -/
def rfs (l : List Va) (j : Nat) : List Int := ((l.take j).filter fun v => decide (v.1 = 2)).map (·.2)
theorem rfs_len (l : List Va) (j : Nat) : (rfs l j).length ≤ l.length := by
  unfold rfs
  rw [List.length_map]
  exact Nat.le_trans (List.length_filter_le _ _) (by rw [List.length_take]; omega)
theorem rfs_more (l : List Va) {j : Nat} (h : j < l.length) : rfs l (j + 1) = rfs l j ++ if (l.getD j (0, 0)).1 = 2 then [(l.getD j (0, 0)).2] else [] := by
  unfold rfs
  rw [List.take_add_one, List.getElem?_eq_getElem h, List.getD_eq_getElem?_getD, List.getElem?_eq_getElem h, List.filter_append, List.map_append]
  congr 1
  show ((([l[j]]).filter fun v => decide (v.1 = 2)).map (·.2)) = _
  by_cases h2 : l[j].1 = 2
  · simp [h2]
  · simp [h2]
theorem Cq.take (G : Gd tk fl N) (h : Cq tk fl sh out nx k T) (hk : k < nx.length) (hm : nx.getD k 0 ∉ out) {z : Int} (hz : nx.getD k 0 = z) : Cq tk fl sh (out ++ [z]) (nx ++ rfs (fl z) (fl z).length) (k + 1) T := by
  have hz2 : nx[k]? = some z := by rw [← hz, List.getD_eq_getElem?_getD, List.getElem?_eq_getElem hk]; rfl
  have zn := List.mem_of_getElem? hz2
  obtain ⟨zt, zr⟩ := h.nt z zn
  rw [hz] at hm
  have rf : ∀ a, a ∈ rfs (fl z) (fl z).length → ∃ v ∈ fl z, v.1 = 2 ∧ v.2 = a := fun a ha => by
    unfold rfs at ha
    rw [List.take_length] at ha
    obtain ⟨v, hv, e⟩ := List.mem_map.1 ha
    obtain ⟨v1, v2⟩ := List.mem_filter.1 hv
    exact ⟨v, v1, by simpa using v2, e⟩
  have fr : ∀ v ∈ fl z, v.1 = 2 → v.2 ∈ rfs (fl z) (fl z).length := fun v hv h2 => by
    unfold rfs
    rw [List.take_length]
    exact List.mem_map.2 ⟨v, List.mem_filter.2 ⟨hv, by simpa using h2⟩, rfl⟩
  refine ⟨fun a ha => ?_, fun a ha => ?_, fun a ha => by simp [h.sn a ha], fun a ha => ?_, fun i a hi ha => ?_, fun a ha v hv h2 => ?_, ?_, by simp; omega⟩
  · rcases List.mem_append.1 ha with ha | ha
    · exact h.ot a ha
    · rw [List.mem_singleton.1 ha]; exact zt
  · rcases List.mem_append.1 ha with ha | ha
    · exact h.nt a ha
    · obtain ⟨v, v1, v2, rfl⟩ := rf a ha
      exact ⟨G.rf z zt v v1 v2, Rc.cd sh z v zr v1 v2⟩
  · rcases List.mem_append.1 ha with ha | ha
    · simp [h.on a ha]
    · rw [List.mem_singleton.1 ha]; simp [zn]
  · rw [List.getElem?_append_left (by omega)] at ha
    by_cases e : i = k
    · subst e
      rw [hz2] at ha
      injection ha with ha
      subst ha
      simp
    · simp [h.up i a (by omega) ha]
  · rcases List.mem_append.1 ha with ha | ha
    · simp [h.cl a ha v hv h2]
    · rw [List.mem_singleton.1 ha] at hv
      simp [fr v hv h2]
  · have h1 := rest_out (fl := fl) hm G.nd zt
    have h2 := rfs_len (fl z) (fl z).length
    have h3 := h.few
    rw [List.length_append]
    omega
/-- All is taken up: what is out is what can be reached. -/
theorem Cq.all (h : Cq tk fl sh out nx nx.length T) (a : Int) : a ∈ out ↔ Rc fl sh a := by
  have up : ∀ b ∈ nx, b ∈ out := fun b hb => by
    obtain ⟨i, hi, e⟩ := List.mem_iff_getElem.1 hb
    exact h.up i b hi (by rw [List.getElem?_eq_getElem hi, e])
  exact ⟨fun ha => (h.nt a (h.on a ha)).2, fun ha => ha (· ∈ out) (fun b hb => up b (h.sn b hb)) fun b v hb hv h2 => up _ (h.cl b hb v hv h2)⟩
theorem Cq.start (hs : ∀ a ∈ sh, a ∈ tk) (hT : sh.length + rest fl [] tk ≤ T) : Cq tk fl sh [] sh 0 T :=
  ⟨fun a ha => (by cases ha), fun a ha => ⟨hs a ha, Rc.at_ ha⟩, fun a ha => ha, fun a ha => (by cases ha), fun i a hi => absurd hi (by omega), fun a ha => (by cases ha), hT, Nat.zero_le _⟩
end
end Go.Proofs.YtacjleladjgkeaaGreatDoor.rc

/- What a list of addresses leads to, by lists: the statement's own walk. -/
namespace Go.Proofs.YtacjleladjgkeaaGreatDoor.rc
open Go.ChangeShapes Go.WideShapes Go.ChangeAt Go.RowKit gen calls cls geos ce st sh
set_option linter.unusedVariables false
set_option maxHeartbeats 16000000
set_option maxRecDepth 100000
theorem rd_new {w w' : World} {B n c : Nat} {A : Option Addr} {xs : List Int} (h : Rd w B A n c xs) (hg : w.grownBy w' none) : Rd w' B A n c xs := ⟨h.1, h.2.1, fun ad e i hi => ⟨(h.2.2 ad e i hi).1, hg.cell (h.2.2 ad e i hi).2 (by simp)⟩⟩
def Ap (v u : Value) : Prop := ∀ q, v.ownBlock = some q → u.ownBlock ≠ some q
theorem Ap.symm {v u : Value} (h : Ap v u) : Ap u v := fun q h1 h2 => h q h2 h1
theorem own_lt {w : World} {base n s : Nat} {t : TypeId} {v : Value} {xs : List Value} (h : w.ownsRow base t s v n xs) : ∀ q, v.ownBlock = some q → q < w.heap.size := fun q e => by
  rcases h.2 with ⟨rfl, _⟩ | ⟨g, cap, cur, rfl, _, hg, _⟩
  · cases e
  · injection e with e
    subst e
    exact (Array.getElem?_eq_some_iff.1 hg).1
/-- One list has grown; the other is as it was, and apart. -/
theorem two_app {wr w2 : World} {base ko kn g cap k2 : Nat} {vo vn : Value} {xs ys : List Value} {t : TypeId} {o : Obj} (ho : wr.ownsRow base t 1 vo ko xs) (hn : wr.ownsRow base t 1 vn kn ys) (ap : Ap vo vn)
    (h3 : (wr.alloc o).grownBy w2 vo.ownBlock) (h4 : vo.ownBlock = some g ∨ g = (wr.alloc o).heap.size) : w2.ownsRow base t 1 vn kn ys ∧ Ap (.slice (some ⟨g, 0, none⟩) k2 cap) vn := by
  refine ⟨(hn.alloc o).kept h3 ?_, fun q hq e => ?_⟩
  · cases hv : vn.ownBlock with
    | none => exact .inl rfl
    | some q =>
      refine .inr fun e => ?_
      exact ap q e.symm hv
  · injection hq with hq
    subst hq
    rcases h4 with h4 | h4
    · exact ap _ h4 e
    · have h5 := own_lt hn _ e
      rw [h4] at h5
      simp at h5
      omega
theorem grown_two {w wr w2 : World} {n : Nat} {v : Value} {xs : List Value} {t : TypeId} {o : Obj} (hg : w.grownBy wr none) (ho : wr.ownsRow w.heap.size t 1 v n xs) (h : (wr.alloc o).grownBy w2 v.ownBlock) : w.grownBy w2 none := bm.grown_one hg ho (Nat.le_refl _) h
section
variable {w : World} {x : Hs} {N H : Nat} {K : List Nat}
theorem fields_at {W : World} (h : ph.Pl W K H (ph.toq x)) {z : Int} (hz : z ∈ x.tk) {m : Nat} (hm : (tc.fls x z).length = m) (hK : ∀ q, q ∈ K → q < w.heap.size) :
    Calls Tryz.prog 30 #[.pointer (some ⟨H, 0, none⟩), .int .i64 z] W fun e w' => ∃ A c, e = .returned (.tuple #[.slice A m c, .bool true]) ∧ W = w' ∧ va.Rv W w.heap.size A m c (tc.fls x z) := by
  obtain ⟨i, o, h1, h2, h3, h4⟩ := fq_some (l := ph.obs x) (a := z) ⟨_, ph.obs_mem.2 ⟨z, hz, rfl⟩, rfl⟩
  obtain ⟨b, _, e⟩ := ph.obs_mem.1 (List.mem_of_getElem? h3)
  have e2 : o.2.2 = tc.fls x z := by rw [e] at h4 ⊢; rw [← h4]
  refine (fields_n h h2 h3 (n := m) (by rw [e2]; exact hm)).mono fun e w' ⟨A, c, k1, k2, k3, k4⟩ => ⟨A, c, k1, k2, ?_⟩
  rw [e2] at k3
  refine ⟨k3.1, k3.2.1, k3.2.2.1, fun i hi => ?_⟩
  obtain ⟨b, off, e, _, g1, g2⟩ := k3.2.2.2 i hi
  exact ⟨b, off, e, hK _ (k4 _ e (by omega)), g1, g2⟩
theorem rv_app {wr w2 : World} {A : Option Addr} {m c B n : Nat} {v : Value} {l : List Va} {xs : List Value} {t : TypeId} {o : Obj} (h : va.Rv wr B A m c l) (ho : wr.ownsRow B t 1 v n xs) (hg : (wr.alloc o).grownBy w2 v.ownBlock) : va.Rv w2 B A m c l := by
  refine (h.kept (World.grownBy_alloc wr o none) (fun ad e h0 => (by simp))).kept hg fun ad e h0 e2 => ?_
  obtain ⟨b, off, e3, hb, _⟩ := h.2.2.2 0 h0
  rw [e] at e3
  injection e3 with e3
  subst e3
  rcases ho.2 with ⟨rfl, _⟩ | ⟨g, cap, cur, rfl, hb2, _⟩
  · cases e2
  · injection e2 with e2
    dsimp only at e2
    omega
theorem closure_any (hPl : ph.Pl w K H (ph.toq x)) (V : Iv x) (R : tr.Rk N x) (hN : N ≤ 12) {sh : List Int} (hs : ∀ a ∈ sh, a ∈ x.tk) (hl : sh.length ≤ 20) {A : Addr} {n c : Nat} (hr : Rd w w.heap.size (some A) n c sh) (hn0 : 0 < n) :
    Calls Tryz.prog 17 #[.pointer (some ⟨H, 0, none⟩), .slice (some A) n c] w fun e w' => ∃ xs, (∃ A' c', e = .returned (.slice A' xs.length c') ∧ Rd w' w'.heap.size A' xs.length c' xs ∧ w.grownBy w' none) ∧ xs.Pairwise (· < ·) ∧ ∀ a, a ∈ xs ↔ Rc (tc.fls x) sh a := by
  obtain ⟨i0, hi, hz0, hz1, hz2⟩ := info_parts li.info_int
  have E : Hid (i0.zero = some (.int .i64 0) ∧ i0.size = 1 ∧ i0.bytes = 8 ∧ Tryz.prog.info? 3 = some i0) := ⟨hz0, hz1, hz2, hi⟩
  have hT : sh.length + rest (tc.fls x) [] x.tk ≤ 404 := by
    have h1 := rest_nil (fl := tc.fls x) x.tk
    have h2 : us (tc.fls x) 0 bm.zeros x.tk ≤ 384 := by
      have h3 := us_zero (fl := tc.fls x) (N := 0) x.tk 0 x.xs.length (V.ok.up.imp_of_mem fun {a b} ha hb hlt => by
        have h1 := fls_live V ha
        refine Int.le_trans (Int.add_le_add_left h1 a) ?_
        refine Int.not_lt.1 fun h2 => ?_
        have e1 := base_in V.ok ha (x := b) (by omega) h2
        have e2 := base_in V.ok hb (x := b) (by omega) (by have := bz_pos V.ok hb; omega)
        omega) (fun a ha => by
        have h1 := fls_live V ha
        have h2 := bz_in V.ok ha
        exact ⟨h2.1, by omega⟩) (by omega)
      have h4 := V.ok.len
      have h5 := R.1
      omega
    omega
  have G := Lib.hid (gd_of V R)
  have ST := Lib.hid (Cq.start hs hT)
  have HR := Lib.hid hr
  have hn1 := hr.1
  have FD := Lib.hid (fun W (hg : w.grownBy W none) => (hPl.new hg))
  have KL := Lib.hid hPl.lt
  have OW := Lib.hid (show (w.alloc (.cells #[] 3)).ownsRow w.heap.size 3 1 (.slice (some ⟨w.heap.size, 0, none⟩) 0 0) 0 (([] : List Int).map (Value.int .i64)) from ⟨rfl, .inr ⟨w.heap.size, 0, #[], rfl, Nat.le_refl _, heap_alloc_new _ _, Nat.le_refl _, by unfold maxLen; omega, rfl, rfl⟩⟩)
  have M8 : maxLen = 9223372036854775807 ∨ 4096 ≤ maxLen := .inr (by unfold maxLen; omega)
  have ML : 4096 ≤ maxLen := by unfold maxLen; omega
  clear hi hz0 hz1 hz2 hPl hs hT hr V R M8
  go_enter Tryz.func17, Tryz.ntmps17
  go_wp2_with (refine wpList_append_rd rfl (.tmp 11) (.tmp 12) 31 rfl w.heap.size 3 i0 (.int .i64 0) 8 Tryz.underlying31 E.out.2.2.2 E.out.1 E.out.2.1 E.out.2.2.1 rfl _ 0 [] rfl OW.out (some A) n c w.heap.size sh rfl (rd_new HR.out (World.grownBy_alloc _ _ _)) (by omega) (by omega) (by simp) ?_; intro A1 c1 w2 own1 rd1 gr1; rw [Nat.zero_add, List.nil_append] at own1; rw [Nat.zero_add]; have N1 := Lib.hid own1; have G1 := Lib.hid (bm.grown_own (World.grownBy_alloc w _ none) OW.out gr1 (Nat.le_refl _)); clear own1 rd1 gr1)
  go_loopw [5, 6, 7] (fun vo vn i wr => ∃ (out nx : List Int) (k ko kn : Nat) (Ao : Option Addr) (co : Nat) (An : Option Addr) (cn : Nat), i = .int .i64 k ∧ vo = .slice Ao ko co ∧ vn = .slice An kn cn ∧ ko ≤ k ∧ kn = nx.length ∧ Cq x.tk (tc.fls x) sh out nx k 404 ∧ wr.ownsRow w.heap.size 3 1 (.slice Ao ko co) ko (out.map (Value.int .i64)) ∧ wr.ownsRow w.heap.size 3 1 (.slice An kn cn) kn (nx.map (Value.int .i64)) ∧ Ap (.slice Ao ko co) (.slice An kn cn) ∧ w.grownBy wr none) (fun _ _ i _ => 405 - (intOf i).toNat)
  case atStart => exact ⟨[], sh, 0, 0, n, none, 0, A1, c1, rfl, rfl, rfl, Nat.le_refl _, hn1.symm, ST.out, World.ownsRow_nil _ _ _ _, N1.out, (fun q h => by cases h), G1.out⟩
  case round =>
    obtain ⟨out, nx, k, ko, kn, Ao, co, An, cn, rfl, rfl, rfl, hko, hkn, hC, ho, hn, hap, hg⟩ := hrel
    have C := Lib.hid hC
    have HO := Lib.hid ho
    have HN := Lib.hid hn
    have AP := Lib.hid hap
    have GG := Lib.hid hg
    have HK := Lib.hid hkn
    have k4 : kn ≤ 404 := by have := hC.few; omega
    have RO := Lib.hid (bm.rd_own ho)
    have RN := Lib.hid (bm.rd_own hn)
    have kle : k ≤ kn := by have := hC.kn; omega
    clear hC ho hn hap hg hkn
    by_cases hlt : k < kn
    · obtain ⟨b1, o1, rfl, g1⟩ := RN.out.at_ hlt
      have kx : k < nx.length := by rw [← HK.out]; exact hlt
      have KX := Lib.hid kx
      obtain ⟨z, hz⟩ : ∃ z, nx.getD k 0 = z := ⟨_, rfl⟩
      rw [hz] at g1
      have HZ := Lib.hid hz
      have l1 : (0 : Int) ≤ (k : Int) := by omega
      have l2 : (k : Int) < kn := by omega
      clear kx hz
      by_cases hm : z ∈ out
      · have e1 := Lib.hid (decide_eq_true hm)
        have HM := Lib.hid hm
        clear hm
        go_wp2_with (go_at_call 46; (with_reducible refine (bm.In_any (by omega) RO.out _).mono ?_); rintro e w' ⟨rfl, hw⟩; subst hw; rw [e1.out])
        go_roundw
        case rel => exact ⟨out, nx, k + 1, ko, kn, Ao, co, _, cn, by go_num, rfl, rfl, by omega, HK.out, C.out.skip KX.out (by rw [HZ.out]; exact HM.out), HO.out, HN.out, AP.out, GG.out⟩
        case measure => simp [intOf]; omega
      · have e1 := Lib.hid (decide_eq_false hm)
        have CT := Lib.hid (C.out.take G.out KX.out (by rw [HZ.out]; exact hm) HZ.out)
        have ZT := Lib.hid (C.out.nt z (by rw [← HZ.out]; exact bm.getD_mem KX.out 0)).1
        obtain ⟨m, hm2⟩ : ∃ m, (tc.fls x z).length = m := ⟨_, rfl⟩
        have FA := Lib.hid (fun W (hg : w.grownBy W none) => fields_at (FD.out W hg) ZT.out hm2 KL.out)
        have F4 : kn + m ≤ 404 := by have h1 := CT.out.few; have h2 := HK.out; have h3 := C.out.few; have h4 := rest_out (fl := tc.fls x) hm G.out.nd ZT.out; omega
        clear hm
        rw [hm2] at CT
        have HM2 := Lib.hid hm2
        have RM := Lib.hid (fun j (h : j < m) => rfs_more (tc.fls x z) (j := j) (by rw [HM2.out]; exact h))
        have RL := Lib.hid (fun j => rfs_len (tc.fls x z) j)
        rw [hm2] at RL
        clear hm2
        generalize tc.fls x z = fl at *
        go_wp2_with (first
          | (go_at_call 46; (with_reducible refine (bm.In_any (by omega) RO.out _).mono ?_); rintro e w' ⟨rfl, hw⟩; subst hw; rw [e1.out])
          | (refine wpList_append_lies _ rfl (.tmp 26) (.tmp 31) 31 rfl w.heap.size 3 i0 (.int .i64 0) 1 8 Tryz.underlying31 E.out.2.2.2 E.out.1 E.out.2.1 E.out.2.2.1 rfl (by decide) _ ko (out.map (Value.int .i64)) rfl (HO.out.alloc _) ⟨_, 0, none⟩ 1 1 [.int .i64 z] rfl rfl (World.news_of_block (heap_alloc_new _ _)) (by intro u hu; rw [List.mem_singleton.1 hu]; rfl) (by omega) (by omega) (by omega) (by have := GG.out.size; simp; omega) _ rfl ?_; intro g cap w5 own5 gr5 at5 lt5; have T5 := Lib.hid (two_app (k2 := ko + 1) (cap := cap) HO.out HN.out AP.out gr5 at5); have O5 := Lib.hid (show w5.ownsRow w.heap.size 3 1 (.slice (some ⟨g, 0, none⟩) (ko + 1) cap) (ko + 1) ((out ++ [z]).map (Value.int .i64)) from by rw [List.map_append]; exact own5); have G5 := Lib.hid (grown_two GG.out HO.out gr5); obtain ⟨b2, o2, e2, g2⟩ := (bm.rd_own T5.out.1).at_ hlt; injection e2 with e2; injection e2 with e2 e3; subst e2 e3; rw [HZ.out] at g2; clear own5 gr5 at5 lt5)
          | (go_at_call 30; (with_reducible refine (FA.out _ G5.out).mono ?_); rintro e w6 ⟨Af, cf, rfl, hw, hrv⟩; subst hw; have RV := Lib.hid hrv; clear hrv))
        go_loopw [6, 10] (fun vn i wr2 => ∃ (j kn2 : Nat) (An2 : Option Addr) (cn2 : Nat), j ≤ m ∧ i = .int .i64 j ∧ vn = .slice An2 kn2 cn2 ∧ kn2 = (nx ++ rfs fl j).length ∧ wr2.ownsRow w.heap.size 3 1 (.slice An2 kn2 cn2) kn2 ((nx ++ rfs fl j).map (Value.int .i64)) ∧ wr2.ownsRow w.heap.size 3 1 (.slice (some ⟨g, 0, none⟩) (ko + 1) cap) (ko + 1) ((out ++ [z]).map (Value.int .i64)) ∧ Ap (.slice (some ⟨g, 0, none⟩) (ko + 1) cap) (.slice An2 kn2 cn2) ∧ w.grownBy wr2 none ∧ va.Rv wr2 w.heap.size Af m cf fl) (fun _ i _ => m - (intOf i).toNat)
        case atStart => exact ⟨0, kn, _, cn, Nat.zero_le _, rfl, rfl, by simpa [rfs] using HK.out, by simpa [rfs] using T5.out.1, O5.out, T5.out.2, G5.out, RV.out⟩
        case round =>
          obtain ⟨j, kn2, An2, cn2, hj, rfl, rfl, hk2, hn2, ho2, hap2, hg2, hrv2⟩ := hrel
          have k5 : kn2 ≤ 404 := by have h1 := RL.out j; have h2 := HK.out; rw [hk2, List.length_append]; omega
          have HK2 := Lib.hid hk2
          have HN2 := Lib.hid hn2
          have HO2 := Lib.hid ho2
          have AP2 := Lib.hid hap2
          have GG2 := Lib.hid hg2
          have RV2 := Lib.hid hrv2
          clear hk2 hn2 ho2 hap2 hg2 hrv2
          by_cases hjm : j < m
          · obtain ⟨b3, o3, rfl, g3, g4⟩ := RV2.out.at_ hjm
            have RJ := Lib.hid (RM.out j hjm)
            have l3 : (0 : Int) ≤ (j : Int) := by omega
            have l4 : (j : Int) < m := by omega
            obtain ⟨v, hv⟩ : ∃ v, fl.getD j (0, 0) = v := ⟨_, rfl⟩
            rw [hv] at g3 g4
            have RJ := Lib.hid (by have := RJ.out; rwa [hv] at this)
            clear hv
            obtain ⟨v1, v2⟩ := v
            dsimp only at g3 g4
            by_cases hv : v1 = 2
            · subst hv
              have RJ := Lib.hid (show rfs fl (j + 1) = rfs fl j ++ [v2] from by have := RJ.out; rwa [if_pos rfl] at this)
              go_wp2_with (refine wpList_append_lies _ rfl (.tmp 54) (.tmp 60) 31 rfl w.heap.size 3 i0 (.int .i64 0) 1 8 Tryz.underlying31 E.out.2.2.2 E.out.1 E.out.2.1 E.out.2.2.1 rfl (by decide) _ kn2 ((nx ++ rfs fl j).map (Value.int .i64)) rfl (HN2.out.alloc _) ⟨_, 0, none⟩ 1 1 [.int .i64 v2] rfl rfl (World.news_of_block (heap_alloc_new _ _)) (by intro u hu; rw [List.mem_singleton.1 hu]; rfl) (by omega) (by omega) (by omega) (by have := GG2.out.size; simp; omega) _ rfl ?_; intro g6 cap6 w6 own6 gr6 at6 lt6; have T6 := Lib.hid (two_app (k2 := kn2 + 1) (cap := cap6) HN2.out HO2.out AP2.out.symm gr6 at6); have N6 := Lib.hid (show w6.ownsRow w.heap.size 3 1 (.slice (some ⟨g6, 0, none⟩) (kn2 + 1) cap6) (kn2 + 1) ((nx ++ rfs fl (j + 1)).map (Value.int .i64)) from by rw [RJ.out, ← List.append_assoc, List.map_append]; exact own6); have G6 := Lib.hid (grown_two GG2.out HN2.out gr6); have R6 := Lib.hid (rv_app RV2.out HN2.out gr6); clear own6 gr6 at6 lt6)
              go_roundw
              case rel => exact ⟨j + 1, kn2 + 1, _, cap6, by omega, by go_num, rfl, by rw [RJ.out, ← List.append_assoc, List.length_append, ← HK2.out]; rfl, N6.out, T6.out.1, T6.out.2.symm, G6.out, R6.out⟩
              case measure => first | (simp [intOf]; done) | (simp [intOf]; omega)
            · have t1 : (v1 == 2) = false := by simpa using hv
              have RJ := Lib.hid (show rfs fl (j + 1) = rfs fl j from by have := RJ.out; rw [if_neg hv, List.append_nil] at this; exact this)
              go_wp2
              go_roundw
              case rel => exact ⟨j + 1, kn2, An2, cn2, by omega, by go_num, rfl, by rw [RJ.out]; exact HK2.out, by rw [RJ.out]; exact HN2.out, HO2.out, AP2.out, GG2.out, RV2.out⟩
              case measure => first | (simp [intOf]; done) | (simp [intOf]; omega)
          · obtain rfl : j = m := by omega
            go_wp2
            go_roundw
            case rel => exact ⟨out ++ [z], nx ++ rfs fl j, k + 1, ko + 1, kn2, _, cap, An2, cn2, by go_num, rfl, rfl, by omega, HK2.out, CT.out, HO2.out, HN2.out, AP2.out, GG2.out⟩
            case measure => first | (simp [intOf]; done) | (simp [intOf]; omega)
    · obtain rfl : k = kn := by omega
      have CA := Lib.hid (show ∀ a, a ∈ bm.rising out ↔ Rc (tc.fls x) sh a from fun a => by rw [bm.mem_rising]; exact Cq.all (by have := C.out; rwa [HK.out] at this) a)
      go_wp2_with (go_at_call 47; (with_reducible refine (bm.Rising_any (B := 0) (by omega) RO.out).mono ?_); rintro e w7 ⟨A7, c7, rfl, own7, gr7⟩; have R7 := Lib.hid (bm.rd_own own7); have G7 := Lib.hid (GG.out.trans gr7); clear own7 gr7)
      go_ret
      exact ⟨bm.rising out, ⟨A7, c7, rfl, R7.out, G7.out⟩, bm.rising_up _, CA.out⟩
end
end Go.Proofs.YtacjleladjgkeaaGreatDoor.rc
