/- Texts that this claim stands on. -/
import Derived.Test.YtkgdcgmbapchcaaGreatDoorQSxA
namespace Go.Proofs.YtkgdcgmbapchcaaGreatDoor.cy
open Go.ChangeShapes Go.WideShapes Go.ChangeAt Go.RowKit gen calls cls geos ce st sh
set_option linter.unusedVariables false
set_option maxHeartbeats 4000000
set_option maxRecDepth 100000
section
variable {k : Kn} {σ : Cy} {t : Nat}
theorem good_tk (h5 : σ.ph ≠ 5) {a : Int} : σ.good a ↔ a ∈ σ.x.tk := ⟨fun h => h.1, fun h => ⟨h, fun e => absurd e h5⟩⟩
theorem Inv.shaded (h : Inv k σ) (hp : 2 ≤ σ.ph ∧ σ.ph ≤ 4) {s' : Ps} (hI : I3 σ.x.tk (tc.fls σ.x) All1 k.r s' σ.p) (hA : rc.Adv σ.s s') : Inv k { σ with s := s' } := by
  have h5 : σ.ph ≠ 5 := by omega
  have g : ∀ a, Cy.good { σ with s := s' } a ↔ σ.good a := fun a => by rw [good_tk h5, good_tk (σ := { σ with s := s' }) h5]
  exact { h with
    glg := (g _).2 h.glg
    rtg := fun t a ha => (g _).2 (h.rtg t a ha)
    cl := fun a ha j b hb => (g _).2 (h.cl a ((g _).1 ha) j b hb)
    fi := hI.i.fi
    mr := fun a ha => (hI.i.mr a ha).1
    lo := fun e => absurd e (by show ¬ σ.ph ≤ 1; omega)
    idl := fun e => absurd e (by show ¬ (σ.ph ≤ 1 ∨ σ.ph = 5); omega)
    q5 := fun e => absurd e h5
    i3 := fun e => ⟨hI, (h.i3 e).2⟩
    p2 := fun e => ⟨(h.p2 e).1, fun a ha => by
      rcases hA.nw a ha with h1 | h1 | h1
      · exact ((h.p2 e).2 a h1).imp (hA.st _) hA.ov
      · exact .inl h1
      · exact .inr h1⟩
    tr := fun e => (h.tr e).adn (Adn.of hA) (fun a => .inl) (fun a => .inl) }
theorem Inv.unbuf (h : Inv k σ) (t : Nat) (hm : 2 ≤ σ.ph ∧ σ.ph ≤ 4 → ∀ a ∈ σ.bf.getD t [], isb σ.s.ws a = true) : Inv k { σ with bf := σ.bf.set t [] } := by
  have e := fun u : Nat => getD_set_nil (l := σ.bf) (t := t) u
  have sub : ∀ a, Cy.Bfs { σ with bf := σ.bf.set t [] } a → σ.Bfs a := fun a ⟨u, hu⟩ => by
    rw [show Cy.bf { σ with bf := σ.bf.set t [] } = σ.bf.set t [] from rfl, e u] at hu
    split at hu
    · cases hu
    · exact ⟨u, hu⟩
  exact { h with
    bfl := by show (σ.bf.set t []).length = _; rw [List.length_set]; exact h.bfl
    bfo := h.bfo.set t bf.Wl.nil
    bfd := fun u hu => by
      rw [show Cy.bf { σ with bf := σ.bf.set t [] } = σ.bf.set t [] from rfl, e u] at hu
      split at hu
      · exact absurd rfl hu
      · exact h.bfd u hu
    bE := fun e5 u => by
      show (σ.bf.set t []).getD u [] = []
      rw [e u]
      split
      · rfl
      · exact h.bE e5 u
    bT := fun e5 a ha => h.bT e5 a (sub a ha)
    tr := fun e5 => (h.tr e5).adn (Adn.refl _ _ _) (fun a ⟨u, hu⟩ => by
      by_cases e1 : u = t
      · subst e1; exact .inr (hm e5 a hu)
      · exact .inl ⟨u, by rw [show Cy.bf { σ with bf := σ.bf.set t [] } = σ.bf.set t [] from rfl, e u, if_neg e1]; exact hu⟩) (fun a => .inl) }
theorem Inv.to3 (h : Inv k σ) (hp : 2 ≤ σ.ph ∧ σ.ph ≤ 4) (ha : σ.ag = true) : Inv k σ.to3 := by
  have h5 : σ.ph ≠ 5 := by omega
  have g : ∀ a, σ.to3.good a ↔ σ.good a := fun a => by rw [good_tk h5, good_tk (σ := σ.to3) (by dsimp only [Cy.to3, Cy.n1]; decide)]; exact Iff.rfl
  exact { h with
    glg := (g _).2 h.glg
    rtg := fun t a ha => (g _).2 (h.rtg t a ha)
    cl := fun a ha j b hb => (g _).2 (h.cl a ((g _).1 ha) j b hb)
    p5 := by dsimp only [Cy.to3, Cy.n1]; decide
    lo := fun e => absurd e (by dsimp only [Cy.to3, Cy.n1]; decide)
    idl := fun e => absurd e (by dsimp only [Cy.to3, Cy.n1]; decide)
    q5 := fun e => absurd e (by dsimp only [Cy.to3, Cy.n1]; decide)
    qN := fun _ => h.qN h5
    bE := fun e => absurd e (by dsimp only [Cy.to3, Cy.n1]; decide)
    bT := fun _ => h.bT hp
    i3 := fun _ => h.i3 hp
    p2 := fun e => absurd e (by dsimp only [Cy.to3, Cy.n1]; decide)
    tr := fun _ => (h.tr hp).less fun a ha' => ha'.imp id fun ⟨u, h1, h2⟩ => ⟨u, .inr ((ag_iff h.thr).1 ha u (h.rtd u fun e => by
      have h2 : (2, a) ∈ σ.rt.getD u [] := h2
      rw [e] at h2; cases h2)), h2⟩ }
theorem tot_zero {ls : List (List Int)} (h : bf.tot ls = 0) (t : Nat) : ls.getD t [] = [] := by
  by_cases ht : t < ls.length
  · refine List.length_eq_zero_iff.1 (Nat.eq_zero_of_not_pos fun h1 => ?_)
    exact bf.tot_zero ht (by omega) h
  · rw [List.getD_eq_getElem?_getD, List.getElem?_eq_none (by omega)]; rfl
theorem Inv.to5 (h : Inv k σ) (K : Kok k) (hp : σ.ph = 4) (hb : bf.tot σ.bf = 0) (hi : tc.Ts.idle ⟨σ.s, σ.p⟩ = true) : Inv k { σ with ph := 5, q := 0, f := 0 } := by
  have h5 : σ.ph ≠ 5 := by omega
  have hp' : 2 ≤ σ.ph ∧ σ.ph ≤ 4 := by omega
  unfold tc.Ts.idle at hi
  simp only [Bool.and_eq_true, decide_eq_true_eq, Bool.not_eq_true'] at hi
  obtain ⟨⟨i1, i2⟩, i3⟩ := hi
  obtain ⟨d1, d2⟩ := (h.tr hp').done i1 i3 i2 (fun a ⟨u, hu⟩ => by rw [tot_zero hb] at hu; cases hu)
  have g : ∀ a, isb σ.s.ws a = true → Cy.good { σ with ph := 5, q := 0, f := 0 } a := fun a ha => ⟨h.mr a ha, fun _ => .inl ha⟩
  have g' : ∀ a, Cy.good { σ with ph := 5, q := 0, f := 0 } a → isb σ.s.ws a = true := fun a ⟨h1, h2⟩ => by
    rcases h2 rfl with h3 | h3
    · exact h3
    · have := h.rg h1
      have h3 : a / 32 < ((0 : Nat) : Int) := h3
      omega
  exact { h with
    glg := g _ (d1 _ (.inl rfl))
    rtg := fun t a ha => g _ (d1 a (.inr ⟨t, .inl (by omega), ha⟩))
    cl := fun a ha j b hb => g _ (d2 a j b (g' a ha) hb)
    p5 := by dsimp only [Cy.to3, Cy.n1]; decide
    lo := fun e => absurd e (by dsimp only [Cy.to3, Cy.n1]; decide)
    idl := fun e => ⟨i1, i3, by have := (h.i3 hp').2.1; show σ.p = -1; omega⟩
    q5 := fun e => ⟨by have := K.N; show 0 < k.N; omega, fun a ha => by have := h.rg (h.mr a ha); show ((0 : Nat) : Int) ≤ a / 32; omega, by dsimp only [Cy.to3, Cy.n1]; decide⟩
    qN := fun e => absurd rfl e
    fN := Nat.zero_le _
    bE := fun e => tot_zero hb
    bT := fun e => absurd e (by dsimp only [Cy.to3, Cy.n1]; decide)
    i3 := fun e => absurd e (by dsimp only [Cy.to3, Cy.n1]; decide)
    p2 := fun e => absurd e (by dsimp only [Cy.to3, Cy.n1]; decide)
    tr := fun e => absurd e (by dsimp only [Cy.to3, Cy.n1]; decide) }
theorem rep_nil (n t : Nat) : (List.replicate n ([] : List Int)).getD t [] = [] := by
  rw [List.getD_eq_getElem?_getD, List.getElem?_replicate]
  split <;> rfl
theorem of_le (hr : ∀ x ∈ σ.th, -1 ≤ x ∧ x ≤ (σ.e : Int)) (u : Nat) : ep.of σ.th u ≤ σ.e := by
  rw [ep.of_nat, List.getD_eq_getElem?_getD]
  cases h : σ.th[u]? with
  | none => show (-1 : Int) ≤ _; omega
  | some v => exact (hr v (List.mem_of_getElem? h)).2
theorem Inv.n1 (h : Inv k σ) (K : Kok k) (hp : σ.ph = 1) : Inv k (σ.n1 k) := by
  have h5 : σ.ph ≠ 5 := by omega
  have G := h.gd h5
  have lo := h.lo (by omega)
  obtain ⟨i1, i2, i3⟩ := h.idl (by omega)
  have I0 : I3 σ.x.tk (tc.fls σ.x) All1 k.r σ.s (-1) := i3_zero h.fi lo i1 i2
  obtain ⟨I1, A, m1, _⟩ := shade3 G I0 h.glg.1 trivial
  have T0 : Tr (tc.fls σ.x) σ.s (-1) (fun _ => False) (fun _ => False) := ⟨fun a e => e.elim, fun b j a hb => by rw [lo] at hb; cases hb⟩
  have g : ∀ a, (σ.n1 k).good a ↔ σ.good a := fun a => by rw [good_tk h5, good_tk (σ := σ.n1 k) (by dsimp only [Cy.to3, Cy.n1]; decide)]; exact Iff.rfl
  exact { h with
    thr := fun x hx => by have := h.thr x hx; show -1 ≤ x ∧ x ≤ ((σ.e + 1 : Nat) : Int); omega
    bfl := by show (List.replicate σ.bf.length []).length = _; rw [List.length_replicate]; exact h.bfl
    bfo := bf.Ok.rep (by rw [h.bfl]; exact K.n.2)
    bfd := fun u hu => absurd (rep_nil _ u) hu
    glg := (g _).2 h.glg
    rtg := fun t a ha => (g _).2 (h.rtg t a ha)
    cl := fun a ha j b hb => (g _).2 (h.cl a ((g _).1 ha) j b hb)
    fi := I1.i.fi
    mr := fun a ha => (I1.i.mr a ha).1
    p5 := by dsimp only [Cy.to3, Cy.n1]; decide
    lo := fun e => absurd e (by dsimp only [Cy.to3, Cy.n1]; decide)
    idl := fun e => absurd e (by dsimp only [Cy.to3, Cy.n1]; decide)
    q5 := fun e => absurd e (by dsimp only [Cy.to3, Cy.n1]; decide)
    qN := fun _ => h.qN h5
    bE := fun e u => rep_nil _ u
    bT := fun e a ⟨u, hu⟩ => by
      have hu : a ∈ (List.replicate σ.bf.length []).getD u [] := hu
      rw [rep_nil] at hu; cases hu
    i3 := fun e => by
      have N := K.N
      show I3 _ _ _ _ (σ.s.shade k.r k.gl) σ.p ∧ (-1 ≤ σ.p ∧ σ.p < k.N)
      rw [i3]
      exact ⟨I1, by omega, by omega⟩
    p2 := fun e => ⟨i3, fun a ha => (A.nw a ha).elim (fun h => by rw [lo] at h; cases h) id⟩
    tr := fun e => by
      show Tr _ (σ.s.shade k.r k.gl) σ.p _ _
      rw [i3]
      exact T0.adn (Adn.of A) (fun a e => e.elim) (fun a ha => .inr (by
        rcases ha with rfl | ⟨u, h1, h2⟩
        · exact m1
        · rcases h1 with h1 | h1
          · exact absurd h1 (by dsimp only [Cy.to3, Cy.n1]; decide)
          · have := of_le h.thr u
            have h1 : ep.of σ.th u = ((σ.e + 1 : Nat) : Int) := h1
            omega)) }
theorem Inv.lead (h : Inv k σ) (K : Kok k) (hy : σ.ph = 0 ∨ σ.ph = 3 ∨ σ.ph = 5 → σ.ag = true) : Inv k (σ.lead k) ∧ Stl (σ.lead k) := by
  have p5 := h.p5
  unfold Cy.lead
  by_cases ha : σ.ag = true
  · rw [if_pos ha]
    by_cases h1 : σ.ph = 1
    · rw [if_pos h1]
      have I1 := h.n1 K h1
      by_cases h2 : (σ.n1 k).ag = true
      · rw [if_pos h2]
        exact ⟨I1.to3 (by dsimp only [Cy.to3, Cy.n1]; decide) h2, fun _ => h2, fun e => absurd e (by dsimp only [Cy.to3, Cy.n1]; decide)⟩
      · rw [if_neg h2]
        exact ⟨I1, fun e => absurd e (by dsimp only [Cy.to3, Cy.n1]; decide), fun _ => by simpa using h2⟩
    · rw [if_neg h1]
      by_cases h2 : σ.ph = 2
      · rw [if_pos h2]
        exact ⟨h.to3 (by omega) ha, fun _ => ha, fun e => absurd e (by dsimp only [Cy.to3, Cy.n1]; decide)⟩
      · rw [if_neg h2]
        by_cases h4 : σ.ph = 4
        · rw [if_pos h4]
          unfold Cy.n4
          split
          · rename_i hc
            exact ⟨h.to5 K h4 hc.1 hc.2, fun _ => ha, fun e => absurd e (by dsimp only [Cy.to3, Cy.n1]; decide)⟩
          · exact ⟨h.to3 (by omega) ha, fun _ => ha, fun e => absurd e (by dsimp only [Cy.to3, Cy.n1]; decide)⟩
        · rw [if_neg h4]
          exact ⟨h, fun _ => ha, fun e => absurd e (by omega)⟩
  · rw [if_neg ha]
    exact ⟨h, fun e => absurd (hy e) ha, fun _ => by simpa using ha⟩
end
end Go.Proofs.YtkgdcgmbapchcaaGreatDoor.cy
namespace Go.Proofs.YtkgdcgmbapchcaaGreatDoor.cy
end Go.Proofs.YtkgdcgmbapchcaaGreatDoor.cy
