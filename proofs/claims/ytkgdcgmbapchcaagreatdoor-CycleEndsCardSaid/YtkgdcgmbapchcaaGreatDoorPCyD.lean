/- Texts that this claim stands on. -/
import Derived.Test.YtkgdcgmbapchcaaGreatDoorPPhY
namespace Go.Proofs.YtkgdcgmbapchcaaGreatDoor.cy
open Go.ChangeShapes Go.WideShapes Go.ChangeAt Go.RowKit gen calls cls geos ce st sh
set_option linter.unusedVariables false
set_option maxHeartbeats 4000000
set_option maxRecDepth 100000
section
variable {k : Kn} {σ : Cy} {t : Nat}
theorem good_tk (h5 : σ.ph ≠ 5) {a : Int} : σ.good a ↔ a ∈ σ.x.tk := ⟨fun h => h.1, fun h => ⟨h, fun e => absurd e h5⟩⟩
theorem Inv.shaded (h : Inv k σ) (hp : 2 ≤ σ.ph ∧ σ.ph ≤ 4) {s' : Ps} (hI : I3 σ.x.tk (tc.fls σ.x) All1 k.r s' σ.p) (hA : rc.Adv σ.s s') : Inv k { σ with s := s' } := by
  have h5 : σ.ph ≠ 5 := by omega
  have g : ∀ a, Cy.good { σ with s := s' } a ↔ σ.good a := fun a => by rw [good_tk h5, good_tk (σ := { σ with s := s' }) h5]
  exact { h with
    glg := (g _).2 h.glg
    rtg := fun t a ha => (g _).2 (h.rtg t a ha)
    cl := fun a ha j b hb => (g _).2 (h.cl a ((g _).1 ha) j b hb)
    fi := hI.i.fi
    mr := fun a ha => (hI.i.mr a ha).1
    lo := fun e => absurd e (by show ¬ σ.ph ≤ 1; omega)
    idl := fun e => absurd e (by show ¬ (σ.ph ≤ 1 ∨ σ.ph = 5); omega)
    q5 := fun e => absurd e h5
    i3 := fun e => ⟨hI, (h.i3 e).2⟩
    p2 := fun e => ⟨(h.p2 e).1, fun a ha => by
      rcases hA.nw a ha with h1 | h1 | h1
      · exact ((h.p2 e).2 a h1).imp (hA.st _) hA.ov
      · exact .inl h1
      · exact .inr h1⟩
    tr := fun e => (h.tr e).adn (Adn.of hA) (fun a => .inl) (fun a => .inl) }
theorem Inv.unbuf (h : Inv k σ) (t : Nat) (hm : 2 ≤ σ.ph ∧ σ.ph ≤ 4 → ∀ a ∈ σ.bf.getD t [], isb σ.s.ws a = true) : Inv k { σ with bf := σ.bf.set t [] } := by
  have e := fun u : Nat => getD_set_nil (l := σ.bf) (t := t) u
  have sub : ∀ a, Cy.Bfs { σ with bf := σ.bf.set t [] } a → σ.Bfs a := fun a ⟨u, hu⟩ => by
    rw [show Cy.bf { σ with bf := σ.bf.set t [] } = σ.bf.set t [] from rfl, e u] at hu
    split at hu
    · cases hu
    · exact ⟨u, hu⟩
  exact { h with
    bfl := by show (σ.bf.set t []).length = _; rw [List.length_set]; exact h.bfl
    bfo := h.bfo.set t bf.Wl.nil
    bfd := fun u hu => by
      rw [show Cy.bf { σ with bf := σ.bf.set t [] } = σ.bf.set t [] from rfl, e u] at hu
      split at hu
      · exact absurd rfl hu
      · exact h.bfd u hu
    bE := fun e5 u => by
      show (σ.bf.set t []).getD u [] = []
      rw [e u]
      split
      · rfl
      · exact h.bE e5 u
    bT := fun e5 a ha => h.bT e5 a (sub a ha)
    tr := fun e5 => (h.tr e5).adn (Adn.refl _ _ _) (fun a ⟨u, hu⟩ => by
      by_cases e1 : u = t
      · subst e1; exact .inr (hm e5 a hu)
      · exact .inl ⟨u, by rw [show Cy.bf { σ with bf := σ.bf.set t [] } = σ.bf.set t [] from rfl, e u, if_neg e1]; exact hu⟩) (fun a => .inl) }
theorem Inv.confirm (h : Inv k σ) (ht : t < k.n) (hm : σ.ph = 2 → ∀ a, (2, a) ∈ σ.rt.getD t [] → isb σ.s.ws a = true) : Inv k { σ with th := σ.th.set t σ.e } := by
  have tl : t < σ.th.length := by rw [h.thl]; exact ht
  have lv : ∀ u : Nat, Cy.lv { σ with th := σ.th.set t σ.e } u = if u = t then true else σ.lv u := fun u => by
    show ep.lv (ep.of (σ.th.set t σ.e) u) = _
    rw [lv_set tl]
    by_cases e : u = t
    · rw [if_pos e, if_pos (by omega)]; exact ep.lv_nat _
    · rw [if_neg e, if_neg (by omega)]
  exact { h with
    thl := by show (σ.th.set t _).length = _; rw [List.length_set]; exact h.thl
    thr := thr_set h.thr (by omega)
    rtd := fun u hu => by rw [lv]; split; · rfl
                          · exact h.rtd u hu
    bfd := fun u hu => by rw [lv]; split; · rfl
                          · exact h.bfd u hu
    tr := fun e5 => (h.tr e5).adn (Adn.refl _ _ _) (fun a => .inl) (fun a ha => by
      have e5 : 2 ≤ σ.ph ∧ σ.ph ≤ 4 := e5
      rcases ha with e1 | ⟨u, h1, h2⟩
      · exact .inl (.inl e1)
      · by_cases e : u = t
        · subst e
          by_cases e2 : σ.ph = 2
          · exact .inr (hm e2 a h2)
          · exact .inl (.inr ⟨u, .inl (by omega), h2⟩)
        · refine .inl (.inr ⟨u, h1.imp id fun h3 => ?_, h2⟩)
          have h3 : ep.of (σ.th.set t σ.e) u = σ.e := h3
          rw [of_set tl, if_neg (by omega)] at h3
          exact h3) }
theorem Inv.leave (h : Inv k σ) (ht : t < k.n) (hr : σ.rt.getD t [] = []) (hb : σ.bf.getD t [] = []) : Inv k { σ with th := σ.th.set t (-1) } := by
  have tl : t < σ.th.length := by rw [h.thl]; exact ht
  have lv : ∀ u : Nat, Cy.lv { σ with th := σ.th.set t (-1) } u = if u = t then false else σ.lv u := fun u => by
    show ep.lv (ep.of (σ.th.set t (-1)) u) = _
    rw [lv_set tl]
    by_cases e : u = t
    · rw [if_pos e, if_pos (by omega)]; rfl
    · rw [if_neg e, if_neg (by omega)]
  exact { h with
    thl := by show (σ.th.set t _).length = _; rw [List.length_set]; exact h.thl
    thr := thr_set h.thr (by omega)
    rtd := fun u hu => by
      rw [lv]
      by_cases e : u = t
      · subst e; exact absurd hr hu
      · rw [if_neg e]; exact h.rtd u hu
    bfd := fun u hu => by
      rw [lv]
      by_cases e : u = t
      · subst e; exact absurd hb hu
      · rw [if_neg e]; exact h.bfd u hu
    tr := fun e5 => (h.tr e5).less fun a ha => by
      rcases ha with e1 | ⟨u, h1, h2⟩
      · exact .inl e1
      · by_cases e : u = t
        · subst e
          have h2 : (2, a) ∈ σ.rt.getD u [] := h2
          rw [hr] at h2; cases h2
        · refine .inr ⟨u, h1.imp id fun h3 => ?_, h2⟩
          have h3 : ep.of (σ.th.set t (-1)) u = σ.e := h3
          rw [of_set tl, if_neg (by omega)] at h3
          exact h3 }
theorem Inv.roots (h : Inv k σ) (t : Nat) {l : List Va} (hs : ∀ v ∈ l, v ∈ σ.rt.getD t []) (hl : l.length ≤ (σ.rt.getD t []).length) : Inv k { σ with rt := σ.rt.set t l } := by
  by_cases tl : t < σ.rt.length
  · have e := fun u : Nat => getD_set (l := σ.rt) (d := []) (v := l) tl u
    have sub : ∀ (u : Nat) v, v ∈ (σ.rt.set t l).getD u [] → v ∈ σ.rt.getD u [] := fun u v hv => by
      rw [e u] at hv
      split at hv
      · rename_i e1; subst e1; exact hs v hv
      · exact hv
    exact { h with
      rtl := by show (σ.rt.set t l).length = 8; rw [List.length_set]; exact h.rtl
      rtr := fun u => ⟨by
        show ((σ.rt.set t l).getD u []).length ≤ 16
        rw [e u]
        split
        · exact Nat.le_trans hl (h.rtr t).1
        · exact (h.rtr u).1, fun v hv => (h.rtr u).2 v (sub u v hv)⟩
      rtd := fun u hu => h.rtd u fun e2 => hu (List.eq_nil_iff_forall_not_mem.2 fun v hv => by have := sub u v hv; rw [e2] at this; cases this)
      rtg := fun u a ha => h.rtg u a (sub u _ ha)
      tr := fun e5 => (h.tr e5).less fun a ha => ha.imp id fun ⟨u, h1, h2⟩ => ⟨u, h1, sub u _ h2⟩ }
  · have : { σ with rt := σ.rt.set t l } = σ := by rw [List.set_eq_of_length_le (by omega)]
    rw [this]
    exact h
theorem Inv.prtk (h : Inv k σ) (hp : 2 ≤ σ.ph ∧ σ.ph ≤ 4) {R : Int → Prop} (b : Int) (hb : isb σ.s.ws b = true ∨ Wv (tc.fls σ.x) σ.s σ.p σ.Bfs b) : b ∈ σ.x.tk := by
  have h5 : σ.ph ≠ 5 := by omega
  rcases hb with hb | hb
  · exact h.mr b hb
  · exact hb.tk h.mr (fun a ha j c hc => (h.cl a (good_of h5 ha) j c hc).1) (h.bT hp)
theorem I3.fields {tk : List Int} {fl fl' : Int → List Va} {R : Int → Prop} {r : Nat} {s : Ps} {p : Int} (h : I3 tk fl R r s p) (he : ∀ a ∈ tk, fl' a = fl a) : I3 tk fl' R r s p :=
  ⟨⟨h.i.fi, h.i.mr, fun e h1 => by have := h.i.en e h1; rw [he _ (h.i.mr _ this.1).1]; exact this, h.i.ln⟩, h.nd, h.ct⟩
theorem Inv.store (h : Inv k σ) {x' : Hs} (V : st.Iv x') (hw : wok x') (hT : x'.T = σ.x.T) (hN : x'.ks.length = σ.x.ks.length) (htk : x'.tk = σ.x.tk) (hf : ∀ a ∈ σ.x.tk, tc.fls x' a = tc.fls σ.x a) : Inv k { σ with x := x' } := by
  have g : ∀ a, Cy.good { σ with x := x' } a ↔ σ.good a := fun a => by
    show (a ∈ x'.tk ∧ _) ↔ _
    rw [htk]
    exact Iff.rfl
  exact { h with
    iv := V
    wk := hw
    xT := hT.trans h.xT
    xN := hN.trans h.xN
    gln := by show (tc.fls x' _).length = 4; rw [hf _ h.glg.1]; exact h.gln
    glg := (g _).2 h.glg
    rtg := fun t a ha => (g _).2 (h.rtg t a ha)
    cl := fun a ha j b hb => by
      have h1 := (g _).1 ha
      have hb : (tc.fls x' a)[j]? = some (2, b) := hb
      rw [hf a h1.1] at hb
      exact (g _).2 (h.cl a h1 j b hb)
    mr := fun a ha => by show a ∈ x'.tk; rw [htk]; exact h.mr a ha
    bT := fun e a ha => by show a ∈ x'.tk; rw [htk]; exact h.bT e a ha
    i3 := fun e => ⟨by
      show I3 x'.tk (tc.fls x') _ _ _ _
      rw [htk]
      exact (h.i3 e).1.fields hf, (h.i3 e).2⟩
    tr := fun e => (h.tr e).write (P := fun b => b ∈ σ.x.tk) (h.prtk e (R := fun _ => True)) (fun a => id) (fun b j a hb h1 => .inl (by
      show (tc.fls x' b)[j]? = _
      rw [hf b hb]; exact h1)) (fun a => id) (fun b j a h1 h2 => .inl (by
      have h2 : (tc.fls x' b)[j]? = some (2, a) := h2
      rwa [hf b (h.mr b h1)] at h2)) }
theorem Inv.to3 (h : Inv k σ) (hp : 2 ≤ σ.ph ∧ σ.ph ≤ 4) (ha : σ.ag = true) : Inv k σ.to3 := by
  have h5 : σ.ph ≠ 5 := by omega
  have g : ∀ a, σ.to3.good a ↔ σ.good a := fun a => by rw [good_tk h5, good_tk (σ := σ.to3) (by dsimp only [Cy.to3, Cy.n1]; decide)]; exact Iff.rfl
  exact { h with
    glg := (g _).2 h.glg
    rtg := fun t a ha => (g _).2 (h.rtg t a ha)
    cl := fun a ha j b hb => (g _).2 (h.cl a ((g _).1 ha) j b hb)
    p5 := by dsimp only [Cy.to3, Cy.n1]; decide
    lo := fun e => absurd e (by dsimp only [Cy.to3, Cy.n1]; decide)
    idl := fun e => absurd e (by dsimp only [Cy.to3, Cy.n1]; decide)
    q5 := fun e => absurd e (by dsimp only [Cy.to3, Cy.n1]; decide)
    qN := fun _ => h.qN h5
    bE := fun e => absurd e (by dsimp only [Cy.to3, Cy.n1]; decide)
    bT := fun _ => h.bT hp
    i3 := fun _ => h.i3 hp
    p2 := fun e => absurd e (by dsimp only [Cy.to3, Cy.n1]; decide)
    tr := fun _ => (h.tr hp).less fun a ha' => ha'.imp id fun ⟨u, h1, h2⟩ => ⟨u, .inr ((ag_iff h.thr).1 ha u (h.rtd u fun e => by
      have h2 : (2, a) ∈ σ.rt.getD u [] := h2
      rw [e] at h2; cases h2)), h2⟩ }
theorem tot_zero {ls : List (List Int)} (h : bf.tot ls = 0) (t : Nat) : ls.getD t [] = [] := by
  by_cases ht : t < ls.length
  · refine List.length_eq_zero_iff.1 (Nat.eq_zero_of_not_pos fun h1 => ?_)
    exact bf.tot_zero ht (by omega) h
  · rw [List.getD_eq_getElem?_getD, List.getElem?_eq_none (by omega)]; rfl
theorem Inv.to5 (h : Inv k σ) (K : Kok k) (hp : σ.ph = 4) (hb : bf.tot σ.bf = 0) (hi : tc.Ts.idle ⟨σ.s, σ.p⟩ = true) : Inv k { σ with ph := 5, q := 0, f := 0 } := by
  have h5 : σ.ph ≠ 5 := by omega
  have hp' : 2 ≤ σ.ph ∧ σ.ph ≤ 4 := by omega
  unfold tc.Ts.idle at hi
  simp only [Bool.and_eq_true, decide_eq_true_eq, Bool.not_eq_true'] at hi
  obtain ⟨⟨i1, i2⟩, i3⟩ := hi
  obtain ⟨d1, d2⟩ := (h.tr hp').done i1 i3 i2 (fun a ⟨u, hu⟩ => by rw [tot_zero hb] at hu; cases hu)
  have g : ∀ a, isb σ.s.ws a = true → Cy.good { σ with ph := 5, q := 0, f := 0 } a := fun a ha => ⟨h.mr a ha, fun _ => .inl ha⟩
  have g' : ∀ a, Cy.good { σ with ph := 5, q := 0, f := 0 } a → isb σ.s.ws a = true := fun a ⟨h1, h2⟩ => by
    rcases h2 rfl with h3 | h3
    · exact h3
    · have := h.rg h1
      have h3 : a / 32 < ((0 : Nat) : Int) := h3
      omega
  exact { h with
    glg := g _ (d1 _ (.inl rfl))
    rtg := fun t a ha => g _ (d1 a (.inr ⟨t, .inl (by omega), ha⟩))
    cl := fun a ha j b hb => g _ (d2 a j b (g' a ha) hb)
    p5 := by dsimp only [Cy.to3, Cy.n1]; decide
    lo := fun e => absurd e (by dsimp only [Cy.to3, Cy.n1]; decide)
    idl := fun e => ⟨i1, i3, by have := (h.i3 hp').2.1; show σ.p = -1; omega⟩
    q5 := fun e => ⟨by have := K.N; show 0 < k.N; omega, fun a ha => by have := h.rg (h.mr a ha); show ((0 : Nat) : Int) ≤ a / 32; omega, by dsimp only [Cy.to3, Cy.n1]; decide⟩
    qN := fun e => absurd rfl e
    fN := Nat.zero_le _
    bE := fun e => tot_zero hb
    bT := fun e => absurd e (by dsimp only [Cy.to3, Cy.n1]; decide)
    i3 := fun e => absurd e (by dsimp only [Cy.to3, Cy.n1]; decide)
    p2 := fun e => absurd e (by dsimp only [Cy.to3, Cy.n1]; decide)
    tr := fun e => absurd e (by dsimp only [Cy.to3, Cy.n1]; decide) }
theorem rep_nil (n t : Nat) : (List.replicate n ([] : List Int)).getD t [] = [] := by
  rw [List.getD_eq_getElem?_getD, List.getElem?_replicate]
  split <;> rfl
theorem of_le (hr : ∀ x ∈ σ.th, -1 ≤ x ∧ x ≤ (σ.e : Int)) (u : Nat) : ep.of σ.th u ≤ σ.e := by
  rw [ep.of_nat, List.getD_eq_getElem?_getD]
  cases h : σ.th[u]? with
  | none => show (-1 : Int) ≤ _; omega
  | some v => exact (hr v (List.mem_of_getElem? h)).2
theorem Inv.n1 (h : Inv k σ) (K : Kok k) (hp : σ.ph = 1) : Inv k (σ.n1 k) := by
  have h5 : σ.ph ≠ 5 := by omega
  have G := h.gd h5
  have lo := h.lo (by omega)
  obtain ⟨i1, i2, i3⟩ := h.idl (by omega)
  have I0 : I3 σ.x.tk (tc.fls σ.x) All1 k.r σ.s (-1) := i3_zero h.fi lo i1 i2
  obtain ⟨I1, A, m1, _⟩ := shade3 G I0 h.glg.1 trivial
  have T0 : Tr (tc.fls σ.x) σ.s (-1) (fun _ => False) (fun _ => False) := ⟨fun a e => e.elim, fun b j a hb => by rw [lo] at hb; cases hb⟩
  have g : ∀ a, (σ.n1 k).good a ↔ σ.good a := fun a => by rw [good_tk h5, good_tk (σ := σ.n1 k) (by dsimp only [Cy.to3, Cy.n1]; decide)]; exact Iff.rfl
  exact { h with
    thr := fun x hx => by have := h.thr x hx; show -1 ≤ x ∧ x ≤ ((σ.e + 1 : Nat) : Int); omega
    bfl := by show (List.replicate σ.bf.length []).length = _; rw [List.length_replicate]; exact h.bfl
    bfo := bf.Ok.rep (by rw [h.bfl]; exact K.n.2)
    bfd := fun u hu => absurd (rep_nil _ u) hu
    glg := (g _).2 h.glg
    rtg := fun t a ha => (g _).2 (h.rtg t a ha)
    cl := fun a ha j b hb => (g _).2 (h.cl a ((g _).1 ha) j b hb)
    fi := I1.i.fi
    mr := fun a ha => (I1.i.mr a ha).1
    p5 := by dsimp only [Cy.to3, Cy.n1]; decide
    lo := fun e => absurd e (by dsimp only [Cy.to3, Cy.n1]; decide)
    idl := fun e => absurd e (by dsimp only [Cy.to3, Cy.n1]; decide)
    q5 := fun e => absurd e (by dsimp only [Cy.to3, Cy.n1]; decide)
    qN := fun _ => h.qN h5
    bE := fun e u => rep_nil _ u
    bT := fun e a ⟨u, hu⟩ => by
      have hu : a ∈ (List.replicate σ.bf.length []).getD u [] := hu
      rw [rep_nil] at hu; cases hu
    i3 := fun e => by
      have N := K.N
      show I3 _ _ _ _ (σ.s.shade k.r k.gl) σ.p ∧ (-1 ≤ σ.p ∧ σ.p < k.N)
      rw [i3]
      exact ⟨I1, by omega, by omega⟩
    p2 := fun e => ⟨i3, fun a ha => (A.nw a ha).elim (fun h => by rw [lo] at h; cases h) id⟩
    tr := fun e => by
      show Tr _ (σ.s.shade k.r k.gl) σ.p _ _
      rw [i3]
      exact T0.adn (Adn.of A) (fun a e => e.elim) (fun a ha => .inr (by
        rcases ha with rfl | ⟨u, h1, h2⟩
        · exact m1
        · rcases h1 with h1 | h1
          · exact absurd h1 (by dsimp only [Cy.to3, Cy.n1]; decide)
          · have := of_le h.thr u
            have h1 : ep.of σ.th u = ((σ.e + 1 : Nat) : Int) := h1
            omega)) }
theorem Inv.lead (h : Inv k σ) (K : Kok k) (hy : σ.ph = 0 ∨ σ.ph = 3 ∨ σ.ph = 5 → σ.ag = true) : Inv k (σ.lead k) ∧ Stl (σ.lead k) := by
  have p5 := h.p5
  unfold Cy.lead
  by_cases ha : σ.ag = true
  · rw [if_pos ha]
    by_cases h1 : σ.ph = 1
    · rw [if_pos h1]
      have I1 := h.n1 K h1
      by_cases h2 : (σ.n1 k).ag = true
      · rw [if_pos h2]
        exact ⟨I1.to3 (by dsimp only [Cy.to3, Cy.n1]; decide) h2, fun _ => h2, fun e => absurd e (by dsimp only [Cy.to3, Cy.n1]; decide)⟩
      · rw [if_neg h2]
        exact ⟨I1, fun e => absurd e (by dsimp only [Cy.to3, Cy.n1]; decide), fun _ => by simpa using h2⟩
    · rw [if_neg h1]
      by_cases h2 : σ.ph = 2
      · rw [if_pos h2]
        exact ⟨h.to3 (by omega) ha, fun _ => ha, fun e => absurd e (by dsimp only [Cy.to3, Cy.n1]; decide)⟩
      · rw [if_neg h2]
        by_cases h4 : σ.ph = 4
        · rw [if_pos h4]
          unfold Cy.n4
          split
          · rename_i hc
            exact ⟨h.to5 K h4 hc.1 hc.2, fun _ => ha, fun e => absurd e (by dsimp only [Cy.to3, Cy.n1]; decide)⟩
          · exact ⟨h.to3 (by omega) ha, fun _ => ha, fun e => absurd e (by dsimp only [Cy.to3, Cy.n1]; decide)⟩
        · rw [if_neg h4]
          exact ⟨h, fun _ => ha, fun e => absurd e (by omega)⟩
  · rw [if_neg ha]
    exact ⟨h, fun e => absurd (hy e) ha, fun _ => by simpa using ha⟩
theorem lead_stl (S : Stl σ) (h : σ.ph ≤ 5) : σ.lead k = σ := by
  unfold Cy.lead
  by_cases h1 : σ.ph = 0 ∨ σ.ph = 3 ∨ σ.ph = 5
  · rw [if_pos (S.y h1), if_neg (by omega), if_neg (by omega), if_neg (by omega)]
  · rw [if_neg (by rw [S.n (by omega)]; decide)]
end
end Go.Proofs.YtkgdcgmbapchcaaGreatDoor.cy
namespace Go.Proofs.YtkgdcgmbapchcaaGreatDoor.cy
open Go.ChangeShapes Go.WideShapes Go.ChangeAt Go.RowKit gen calls cls geos ce st sh
set_option linter.unusedVariables false
set_option maxHeartbeats 4000000
set_option maxRecDepth 100000
def Cy.may (σ : Cy) (t : Nat) (a : Int) : Prop := σ.good a ∧ (2 ≤ σ.ph ∧ σ.ph ≤ 4 → 3 ≤ σ.ph ∨ ep.of σ.th t = σ.e → Pr (tc.fls σ.x) σ.s σ.p σ.Bfs a)
section
variable {k : Kn} {σ : Cy} {t : Nat}
theorem Inv.may_gl (h : Inv k σ) (t : Nat) : σ.may t k.gl := ⟨h.glg, fun hp _ => (h.tr hp).rt _ (.inl rfl)⟩
theorem Inv.may_root (h : Inv k σ) {a : Int} (ha : (2, a) ∈ σ.rt.getD t []) : σ.may t a := ⟨h.rtg t a ha, fun hp hd => (h.tr hp).rt _ (.inr ⟨t, hd, ha⟩)⟩
theorem Inv.may_read (h : Inv k σ) {a b : Int} {j : Nat} (hb : σ.may t b) (hj : (tc.fls σ.x b)[j]? = some (2, a)) : σ.may t a :=
  ⟨h.cl b hb.1 j a hj, fun hp hd => (hb.2 hp hd).read (h.tr hp) hj⟩
theorem Inv.pushed (h : Inv k σ) (t8 : t < 8) (hl : σ.lv t = true) {v : Va} (hc : wd.chk v.1 v.2 = 0) (hm : v.1 = 2 → σ.may t v.2) (hr : (σ.rt.getD t []).length < 16) : Inv k (σ.pushed t v) := by
  have tl : t < σ.rt.length := by rw [h.rtl]; exact t8
  have e := fun u : Nat => getD_set (l := σ.rt) (d := []) (v := σ.rt.getD t [] ++ [v]) tl u
  have sub : ∀ (u : Nat) w, w ∈ (σ.rt.set t (σ.rt.getD t [] ++ [v])).getD u [] → w ∈ σ.rt.getD u [] ∨ (u = t ∧ w = v) := fun u w hw => by
    rw [e u] at hw
    split at hw
    · rename_i e1
      rcases List.mem_append.1 hw with h1 | h1
      · exact .inl (e1 ▸ h1)
      · exact .inr ⟨e1, List.mem_singleton.1 h1⟩
    · exact .inl hw
  exact { h with
    rtl := by show (σ.rt.set t _).length = 8; rw [List.length_set]; exact h.rtl
    rtr := fun u => ⟨by
      show ((σ.rt.set t _).getD u []).length ≤ 16
      rw [e u]
      split
      · rw [List.length_append]; show _ + 1 ≤ 16; omega
      · exact (h.rtr u).1, fun w hw => (sub u w hw).elim ((h.rtr u).2 w) fun e1 => e1.2 ▸ hc⟩
    rtd := fun u hu => by
      show σ.lv u = true
      by_cases e1 : u = t
      · rw [e1]; exact hl
      · refine h.rtd u ?_
        have hu : (σ.rt.set t (σ.rt.getD t [] ++ [v])).getD u [] ≠ [] := hu
        rw [e u, if_neg e1] at hu
        exact hu
    rtg := fun u a ha => (sub u _ ha).elim (h.rtg u a) fun e1 => (hm (by rw [← e1.2])).1 |> fun g => by rw [← e1.2] at g; exact g
    tr := fun hp => (h.tr hp).more fun a ha => by
      rcases ha with e1 | ⟨u, h1, h2⟩
      · exact .inl (.inl e1)
      · rcases sub u _ h2 with h3 | ⟨e1, h3⟩
        · exact .inl (.inr ⟨u, h1, h3⟩)
        · have g := hm (by rw [← h3])
          rw [← h3] at g
          exact .inr (g.2 hp (e1 ▸ h1)) }
theorem dropLast_sub {α : Type} (l : List α) : ∀ v ∈ l.dropLast, v ∈ l := fun v hv => List.mem_of_mem_take (by rw [List.dropLast_eq_take] at hv; exact hv)
theorem Inv.popped (h : Inv k σ) (t : Nat) : Inv k (σ.popped t) := h.roots t (dropLast_sub _) (by rw [List.length_dropLast]; omega)
theorem mk_perm {tk tk' : List Int} {a : Int} (nd : tk.Nodup) (nd' : tk'.Nodup) (ha : a ∉ tk) (hm : ∀ b, b ∈ tk' ↔ b ∈ tk ∨ b = a) (ws : List Nat) : mks tk ws ≤ mks tk' ws := by
  have p : tk'.Perm (tk ++ [a]) := (List.perm_ext_iff_of_nodup nd' (by
    rw [List.nodup_append]
    exact ⟨nd, by simp, fun b hb c hc e => by simp at hc; subst hc; subst e; exact ha hb⟩)).2 fun b => by rw [hm b]; simp
  have := (p.filter (fun a => isb ws a)).length_eq
  unfold mks
  rw [this, List.filter_append, List.length_append]
  omega
theorem I3.more {tk tk' : List Int} {fl : Int → List Va} {R : Int → Prop} {r : Nat} {s : Ps} {p : Int} (h : I3 tk fl R r s p) (hs : ∀ a ∈ tk, a ∈ tk') (hm : mks tk s.ws ≤ mks tk' s.ws) : I3 tk' fl R r s p :=
  ⟨⟨h.i.fi, fun a ha => ⟨hs a (h.i.mr a ha).1, (h.i.mr a ha).2⟩, h.i.en, h.i.ln⟩, h.nd, Nat.le_trans h.ct hm⟩
theorem Inv.grow (h : Inv k σ) {y : Hs} {a : Nat} (V : st.Iv y) (hw : wok y) (hT : y.T = σ.x.T) (hN : y.ks.length = σ.x.ks.length) (htk : ∀ b, b ∈ y.tk ↔ b ∈ σ.x.tk ∨ b = a) (hn : (a : Int) ∉ σ.x.tk) (hf : ∀ b ∈ σ.x.tk, tc.fls y b = tc.fls σ.x b) (h0 : ∀ (j : Nat) (b : Int), (tc.fls y a)[j]? ≠ some (2, b)) : Inv k { σ with x := y } := by
  have g : ∀ b, σ.good b → Cy.good { σ with x := y } b := fun b hb => ⟨(htk b).2 (.inl hb.1), hb.2⟩
  have g' : ∀ b, Cy.good { σ with x := y } b → b = a ∨ σ.good b := fun b hb => ((htk b).1 hb.1).elim (fun h1 => .inr ⟨h1, hb.2⟩) .inl
  exact { h with
    iv := V
    wk := hw
    xT := hT.trans h.xT
    xN := hN.trans h.xN
    gln := by show (tc.fls y _).length = 4; rw [hf _ h.glg.1]; exact h.gln
    glg := g _ h.glg
    rtg := fun t b hb => g _ (h.rtg t b hb)
    cl := fun b hb j c hc => by
      have hc : (tc.fls y b)[j]? = some (2, c) := hc
      rcases g' b hb with e | e
      · rw [e] at hc; exact absurd hc (h0 j c)
      · rw [hf b e.1] at hc
        exact g _ (h.cl b e j c hc)
    mr := fun b hb => (htk b).2 (.inl (h.mr b hb))
    bT := fun e b hb => (htk b).2 (.inl (h.bT e b hb))
    i3 := fun e => ⟨((h.i3 e).1.fields hf).more (fun b hb => (htk b).2 (.inl hb)) (mk_perm (sw.tk_nodup h.iv) (sw.tk_nodup V) hn htk _), (h.i3 e).2⟩
    tr := fun e => (h.tr e).write (P := fun b => b ∈ σ.x.tk) (h.prtk e (R := fun _ => True)) (fun a => id) (fun b j c hb h1 => .inl (by
      show (tc.fls y b)[j]? = _
      rw [hf b hb]; exact h1)) (fun a => id) (fun b j c h1 h2 => .inl (by
      have h2 : (tc.fls y b)[j]? = some (2, c) := h2
      rwa [hf b (h.mr b h1)] at h2)) }
theorem Inv.black (h : Inv k σ) (hp : 3 ≤ σ.ph) {a : Int} (ha : a ∈ σ.x.tk) (h0 : ∀ (j : Nat) (b : Int), (tc.fls σ.x a)[j]? ≠ some (2, b)) (hq : σ.ph = 5 → (σ.q : Int) ≤ a / 32) : Inv k { σ with s := σ.s.black a } ∧ isb (σ.s.black a).ws a = true := by
  have ra := h.rg ha
  have MK := rc.isb_mkd h.fi a
  have up : ∀ b, isb σ.s.ws b = true → isb (mkd σ.s.ws a) b = true := fun b hb => (MK b).2 (.inl hb)
  have dn : ∀ b, isb (mkd σ.s.ws a) b = true → isb σ.s.ws b = true ∨ b = a := fun b hb => ((MK b).1 hb).imp id (·.1)
  have g : ∀ b, σ.good b → Cy.good { σ with s := σ.s.black a } b := fun b hb => ⟨hb.1, fun e => (hb.2 e).imp (up b) id⟩
  have g' : ∀ b, Cy.good { σ with s := σ.s.black a } b → b = a ∨ σ.good b := fun b hb => by
    by_cases e : b = a
    · exact .inl e
    · exact .inr ⟨hb.1, fun e5 => (hb.2 e5).imp (fun h1 => (dn b h1).elim id fun e1 => absurd e1 e) id⟩
  refine ⟨{ h with
    glg := g _ h.glg
    rtg := fun t b hb => g _ (h.rtg t b hb)
    cl := fun b hb j c hc => by
      rcases g' b hb with e | e
      · rw [e] at hc; exact absurd hc (h0 j c)
      · exact g _ (h.cl b e j c hc)
    fi := rc.fine_mkd h.fi a
    mr := fun b hb => (dn b hb).elim (h.mr b) fun e => e ▸ ha
    lo := fun e => absurd e (by show ¬ σ.ph ≤ 1; omega)
    q5 := fun e => ⟨(h.q5 e).1, fun b hb => (dn b hb).elim ((h.q5 e).2.1 b) fun e1 => e1 ▸ hq e, (h.q5 e).2.2⟩
    i3 := fun e => ⟨⟨⟨rc.fine_mkd h.fi a, fun b hb => ⟨(dn b hb).elim (h.mr b) fun e => e ▸ ha, trivial⟩, fun e1 h1 => by
        have := (h.i3 e).1.i.en e1 h1
        exact ⟨up _ this.1, this.2⟩, (h.i3 e).1.i.ln⟩, (h.i3 e).1.nd, Nat.le_trans (h.i3 e).1.ct (mk_mono fun b _ => up b)⟩, (h.i3 e).2⟩
    p2 := fun e => absurd e (by show ¬ σ.ph = 2; omega)
    tr := fun e => (h.tr e).adn ⟨up, fun b j c h1 h2 => (dn b h1).elim .inl fun e1 => absurd (e1 ▸ h2) (h0 j c), fun b j c h1 h2 h3 => .inl h3⟩ (fun b => .inl) (fun b => .inl) }, (MK a).2 (.inr ⟨rfl, ra.1, ra.2.1⟩)⟩
theorem Inv.made (h : Inv k σ) {y : Hs} {a : Nat} (V : st.Iv y) (hw : wok y) (hT : y.T = σ.x.T) (hN : y.ks.length = σ.x.ks.length) (htk : ∀ b, b ∈ y.tk ↔ b ∈ σ.x.tk ∨ b = a) (hn : (a : Int) ∉ σ.x.tk) (hf : ∀ b ∈ σ.x.tk, tc.fls y b = tc.fls σ.x b) (h0 : ∀ (j : Nat) (b : Int), (tc.fls y a)[j]? ≠ some (2, b)) (t : Nat) :
    Inv k (σ.made k y a) ∧ (σ.made k y a).may t a := by
  have H := h.grow V hw hT hN htk hn hf h0
  have at_ : (a : Int) ∈ y.tk := (htk a).2 (.inr rfl)
  have p5 := h.p5
  unfold Cy.made Cy.col
  by_cases h2 : σ.ph = 2
  · rw [if_pos h2]
    obtain ⟨I1, A, m1, _⟩ := shade3 (z := (a : Int)) (H.gd (by show σ.ph ≠ 5; omega)) (H.i3 (by show 2 ≤ σ.ph ∧ σ.ph ≤ 4; omega)).1 at_ trivial
    exact ⟨H.shaded (by show 2 ≤ σ.ph ∧ σ.ph ≤ 4; omega) I1 A, ⟨at_, fun e => absurd e (by show ¬ σ.ph = 5; omega)⟩, fun _ _ => .inl m1⟩
  · rw [if_neg h2]
    by_cases h3 : σ.ph = 3 ∨ σ.ph = 4 ∨ (σ.ph = 5 ∧ (σ.q : Int) ≤ (a : Int) / 32)
    · rw [if_pos h3]
      obtain ⟨I1, m1⟩ := H.black (a := (a : Int)) (by show 3 ≤ σ.ph; omega) at_ h0 (fun e => by have e : σ.ph = 5 := e; show (σ.q : Int) ≤ _; omega)
      exact ⟨I1, ⟨at_, fun e => .inl m1⟩, fun _ _ => .inl m1⟩
    · rw [if_neg h3]
      exact ⟨H, ⟨at_, fun e => .inr (by have e : σ.ph = 5 := e; show (a : Int) / 32 < σ.q; omega)⟩, fun e => absurd e (by show ¬ (2 ≤ σ.ph ∧ σ.ph ≤ 4); omega)⟩
theorem putb_mem {l : List Int} {a b : Int} : b ∈ putb l a ↔ b ∈ l ∨ b = a := by
  unfold putb
  split
  · rename_i h
    exact ⟨.inl, fun e => e.elim id fun e => e ▸ h⟩
  · simp
theorem Inv.note (h : Inv k σ) (ht : t < k.n) (hl : σ.lv t = true) (hp : 1 ≤ σ.ph ∧ σ.ph ≤ 4) {a : Int} (ha : a ∈ σ.x.tk) : Inv k { σ with bf := σ.bf.set t (putb (σ.bf.getD t []) a) } := by
  have tl : t < σ.bf.length := by rw [h.bfl]; exact ht
  have e := fun u : Nat => getD_set (l := σ.bf) (d := []) (v := putb (σ.bf.getD t []) a) tl u
  have ra := h.rg ha
  have sub : ∀ b, Cy.Bfs { σ with bf := σ.bf.set t (putb (σ.bf.getD t []) a) } b → σ.Bfs b ∨ b = a := fun b ⟨u, hu⟩ => by
    have hu : b ∈ (σ.bf.set t (putb (σ.bf.getD t []) a)).getD u [] := hu
    rw [e u] at hu
    split at hu
    · exact (putb_mem.1 hu).imp (fun h1 => ⟨t, h1⟩) id
    · exact .inl ⟨u, hu⟩
  have up : ∀ b, σ.Bfs b → Cy.Bfs { σ with bf := σ.bf.set t (putb (σ.bf.getD t []) a) } b := fun b ⟨u, hu⟩ => ⟨u, by
    show b ∈ (σ.bf.set t (putb (σ.bf.getD t []) a)).getD u []
    rw [e u]
    split
    · rename_i e1; subst e1; exact putb_mem.2 (.inl hu)
    · exact hu⟩
  exact { h with
    bfl := by show (σ.bf.set t _).length = _; rw [List.length_set]; exact h.bfl
    bfo := h.bfo.set t (by
      unfold putb
      split
      · exact h.bfo.2 t
      · exact (h.bfo.2 t).put ra.1 ra.2.1 (by assumption))
    bfd := fun u hu => by
      show σ.lv u = true
      by_cases e1 : u = t
      · rw [e1]; exact hl
      · refine h.bfd u ?_
        have hu : (σ.bf.set t (putb (σ.bf.getD t []) a)).getD u [] ≠ [] := hu
        rw [e u, if_neg e1] at hu
        exact hu
    bE := fun e5 => absurd e5 (by show ¬ (σ.ph = 0 ∨ σ.ph = 5); omega)
    bT := fun e5 b hb => (sub b hb).elim (h.bT e5 b) fun e1 => e1 ▸ ha
    tr := fun e5 => (h.tr e5).adn (Adn.refl _ _ _) (fun b hb => .inl (up b hb)) (fun b => .inl) }
theorem I3.lens {tk : List Int} {fl fl' : Int → List Va} {R : Int → Prop} {r : Nat} {s : Ps} {p : Int} (h : I3 tk fl R r s p) (he : ∀ a ∈ tk, (fl' a).length = (fl a).length) : I3 tk fl' R r s p :=
  ⟨⟨h.i.fi, h.i.mr, fun e h1 => by have := h.i.en e h1; rw [he _ (h.i.mr _ this.1).1]; exact this, h.i.ln⟩, h.nd, h.ct⟩
theorem Inv.field (h : Inv k σ) {x' : Hs} {a i : Nat} {v : Va} (V : st.Iv x') (hw : wok x') (hT : x'.T = σ.x.T) (hN : x'.ks.length = σ.x.ks.length) (htk : x'.tk = σ.x.tk) (ha : (a : Int) ∈ σ.x.tk) (hf : ∀ b ∈ σ.x.tk, tc.fls x' b = if b = a then (tc.fls σ.x a).set i v else tc.fls σ.x b)
    (hv : v.1 = 2 → (2, v.2) ∈ σ.rt.getD t []) (ho : 2 ≤ σ.ph ∧ σ.ph ≤ 4 → ∀ c : Int, (tc.fls σ.x a)[i]? = some (2, c) → isb σ.s.ws c = false → σ.Bfs c) : Inv k { σ with x := x' } := by
  have g : ∀ a, Cy.good { σ with x := x' } a ↔ σ.good a := fun a => by
    show (a ∈ x'.tk ∧ _) ↔ _
    rw [htk]
    exact Iff.rfl
  have len : ∀ b ∈ σ.x.tk, (tc.fls x' b).length = (tc.fls σ.x b).length := fun b hb => by
    rw [hf b hb]
    split
    · rename_i e; rw [List.length_set, e]
    · rfl
  -- a new edge is an old one, or the one that was written
  have new : ∀ b ∈ σ.x.tk, ∀ (j : Nat) (c : Int), (tc.fls x' b)[j]? = some (2, c) → (tc.fls σ.x b)[j]? = some (2, c) ∨ (b = a ∧ j = i ∧ v = (2, c)) := fun b hb j c hc => by
    rw [hf b hb] at hc
    split at hc
    · rename_i e
      rw [List.getElem?_set] at hc
      split at hc
      · rename_i e2
        split at hc
        · injection hc with hc
          exact .inr ⟨e, e2.symm, hc⟩
        · cases hc
      · exact .inl (e ▸ hc)
    · exact .inl hc
  have old : ∀ b ∈ σ.x.tk, ∀ (j : Nat) (c : Int), (tc.fls σ.x b)[j]? = some (2, c) → (tc.fls x' b)[j]? = some (2, c) ∨ (b = a ∧ j = i) := fun b hb j c hc => by
    rw [hf b hb]
    by_cases e : b = (a : Int)
    · rw [if_pos e]
      by_cases e2 : i = j
      · exact .inr ⟨e, e2.symm⟩
      · rw [List.getElem?_set, if_neg e2]
        exact .inl (e ▸ hc)
    · rw [if_neg e]; exact .inl hc
  exact { h with
    iv := V
    wk := hw
    xT := hT.trans h.xT
    xN := hN.trans h.xN
    gln := by show (tc.fls x' _).length = 4; rw [len _ h.glg.1]; exact h.gln
    glg := (g _).2 h.glg
    rtg := fun t a ha => (g _).2 (h.rtg t a ha)
    cl := fun b hb j c hc => by
      have h1 := (g _).1 hb
      rcases new b h1.1 j c hc with h2 | ⟨_, _, h2⟩
      · exact (g _).2 (h.cl b h1 j c h2)
      · have := hv (by rw [h2])
        rw [h2] at this
        exact (g _).2 (h.rtg t c this)
    mr := fun a ha => by show a ∈ x'.tk; rw [htk]; exact h.mr a ha
    bT := fun e a ha => by show a ∈ x'.tk; rw [htk]; exact h.bT e a ha
    i3 := fun e => ⟨by
      show I3 x'.tk (tc.fls x') _ _ _ _
      rw [htk]
      exact (h.i3 e).1.lens len, (h.i3 e).2⟩
    tr := fun e => (h.tr e).write (P := fun b => b ∈ σ.x.tk) (h.prtk e (R := fun _ => True)) (fun a => id) (fun b j c hb h1 => (old b hb j c h1).imp id (fun e1 hw => by
      obtain ⟨rfl, rfl⟩ := e1
      exact ho e c h1 hw)) (fun a => id) (fun b j c h1 h2 => by
      rcases new b (h.mr b h1) j c h2 with h3 | ⟨e1, e2, h3⟩
      · exact .inl h3
      · have e : 2 ≤ σ.ph ∧ σ.ph ≤ 4 := e
        have hv := hv (by rw [h3])
        rw [h3] at hv
        by_cases e5 : 3 ≤ σ.ph
        · exact .inr (.inl (.inr ⟨t, .inl e5, hv⟩))
        · obtain ⟨p1, p2⟩ := h.p2 (by omega)
          refine .inr (.inr ?_)
          rcases p2 b h1 with h4 | h4
          · exact .inl ⟨0, h4, by omega⟩
          · exact .inr (.inl h4)) }
theorem fls_stored (V : st.Iv σ.x) {a s n i : Nat} {v : Int} (hb : Ob σ.x a s n) (hz : (n : Int) + 1 ≤ bz σ.x.ks a) (hi : i < n) (hv : -9223372036854775808 ≤ v ∧ v ≤ 9223372036854775807) (hs : s < σ.x.cnt) :
    st.Iv (σ.x.stored (a + 1 + i) v) ∧ ∀ b ∈ σ.x.tk, tc.fls (σ.x.stored (a + 1 + i) v) b = if b = a then (tc.fls σ.x a).set i (tc.rdv v) else tc.fls σ.x b := by
  obtain ⟨V1, K1, w0, wi⟩ := V.stored hb hz hi hv hs
  refine ⟨V1, fun b hb' => ?_⟩
  by_cases e : b = (a : Int)
  · subst e
    rw [if_pos rfl]
    have e1 : ((σ.x.stored (a + 1 + i) v).xs.getD (a : Int).toNat 0 % 128).toNat = n := by have := hb.n8; rw [Int.toNat_natCast, w0]; omega
    have e2 : (σ.x.xs.getD (a : Int).toNat 0 % 128).toNat = n := by have := hb.n8; have := hb.wd; rw [Int.toNat_natCast]; omega
    unfold tc.fls
    rw [e1, e2]
    refine List.ext_getElem? fun j => ?_
    rw [List.getElem?_set, List.length_map, List.length_range]
    by_cases hj : j < n
    · rw [List.getElem?_map, List.getElem?_map, List.getElem?_range hj]
      by_cases e3 : i = j
      · subst e3
        rw [if_pos rfl, if_pos hi]
        show some (tc.rdv ((σ.x.stored (a + 1 + i) v).xs.getD ((a : Int).toNat + 1 + i) 0)) = _
        rw [Int.toNat_natCast, wi]
      · rw [if_neg e3]
        show some (tc.rdv ((σ.x.xs.set (a + 1 + i) v).getD ((a : Int).toNat + 1 + j) 0)) = some (tc.rdv (σ.x.xs.getD ((a : Int).toNat + 1 + j) 0))
        rw [Int.toNat_natCast, List.getD_eq_getElem?_getD, List.getElem?_set, if_neg (by omega), List.getD_eq_getElem?_getD]
    · rw [List.getElem?_eq_none (l := List.map _ _) (by rw [List.length_map, List.length_range]; omega), List.getElem?_eq_none (l := List.map _ _) (by rw [List.length_map, List.length_range]; omega)]
      split
      · rename_i e3
        exact absurd e3 (by omega)
      · rfl
  · rw [if_neg e]
    exact (ph.fls_keep V K1 hb' e).2
end
end Go.Proofs.YtkgdcgmbapchcaaGreatDoor.cy
