/- Texts that this claim stands on. -/
import Derived.Test.YtkgdcgmbapchcaaGreatDoorQCyD
namespace Go.Proofs.YtkgdcgmbapchcaaGreatDoor.cy
open Go.ChangeShapes Go.WideShapes Go.ChangeAt Go.RowKit gen calls cls geos ce st sh
set_option linter.unusedVariables false
set_option maxHeartbeats 4000000
set_option maxRecDepth 100000
theorem passes_keep (l : List Int) : ∀ z : sw.Sz, st.Iv z.x → bm.Fine 2048 z.s.ws → l.Nodup → (∀ a ∈ l, a ∈ z.x.tk) → ∀ b ∈ (sw.passes z l).x.tk, b ∈ z.x.tk ∧ tc.fls (sw.passes z l).x b = tc.fls z.x b ∧ (sw.passes z l).x.xs.getD b.toNat 0 = z.x.xs.getD b.toNat 0 := by
  induction l with
  | nil => exact fun z V F _ _ b hb => ⟨hb, rfl, rfl⟩
  | cons a l ih =>
    intro z V F nd hm b hb
    obtain ⟨n1, n2⟩ := List.nodup_cons.1 nd
    have ha := hm a (by simp)
    have ra := ph.tk_range V ha
    obtain ⟨A, rfl⟩ : ∃ A : Nat, a = A := ⟨a.toNat, by omega⟩
    have e0 : sw.passes z ((A : Int) :: l) = sw.passes (sw.pass z A) l := rfl
    rw [e0] at hb ⊢
    by_cases hi : isb z.s.ws A = true
    · have e1 : sw.pass z A = ⟨z.x, z.s.clear A, z.f⟩ := if_pos hi
      rw [e1] at hb ⊢
      exact ih ⟨z.x, z.s.clear A, z.f⟩ V (sw.fine_rmd F _) n2 (fun b h => hm b (by simp [h])) b hb
    · have e1 : sw.pass z A = ⟨sw.gn z.x A, z.s, z.f + 1⟩ := by unfold sw.pass; rw [if_neg hi, Int.toNat_natCast]
      rw [e1] at hb ⊢
      obtain ⟨V1, K1⟩ := sw.iv_gn V ha
      obtain ⟨k1, k2, k3⟩ := ih ⟨sw.gn z.x A, z.s, z.f + 1⟩ V1 F n2 (fun b h => by
        show b ∈ (sw.gn z.x A).tk
        rw [sw.gn_tk, List.mem_filter]
        exact ⟨hm b (by simp [h]), decide_eq_true (fun e => n1 (e ▸ h))⟩) b hb
      have k1 : b ∈ (sw.gn z.x A).tk := k1
      rw [sw.gn_tk, List.mem_filter] at k1
      obtain ⟨q1, q2⟩ := ph.fls_keep V K1 k1.1 (by simpa using k1.2)
      exact ⟨k1.1, k2.trans q2, k3.trans q1⟩
theorem unit_keep {z : sw.Sz} (V : st.Iv z.x) (F : bm.Fine 2048 z.s.ws) (p : Int) : ∀ b ∈ (sw.unit z p).x.tk, b ∈ z.x.tk ∧ tc.fls (sw.unit z p).x b = tc.fls z.x b ∧ (sw.unit z p).x.xs.getD b.toNat 0 = z.x.xs.getD b.toNat 0 := fun b hb => by
  have P := sw.pz_all (tc.inp z.x p) z V F (sw.inp_nodup V p) (fun a h => (sw.inp_mem.1 h).1)
  have hb' : b ∈ (sw.passes z (tc.inp z.x p)).x.tk := by
    have : (sw.unit z p).x.tk = (sw.passes z (tc.inp z.x p)).x.tk := sw.trimd_tk _ _
    rw [← this]; exact hb
  obtain ⟨k1, k2, k3⟩ := passes_keep (tc.inp z.x p) z V F (sw.inp_nodup V p) (fun a h => (sw.inp_mem.1 h).1) b hb'
  obtain ⟨_, K1, _⟩ := sw.iv_trimd P.iv p
  obtain ⟨q1, q2⟩ := ph.fls_keep P.iv K1 hb' trivial
  exact ⟨k1, q2.trans k2, q1.trans k3⟩
theorem passes_wok (l : List Int) : ∀ z : sw.Sz, st.Iv z.x → bm.Fine 2048 z.s.ws → l.Nodup → (∀ a ∈ l, a ∈ z.x.tk) → wok z.x → wok (sw.passes z l).x := by
  induction l with
  | nil => exact fun z V F _ _ h => h
  | cons a l ih =>
    intro z V F nd hm h
    obtain ⟨n1, n2⟩ := List.nodup_cons.1 nd
    have ha := hm a (by simp)
    have ra := ph.tk_range V ha
    obtain ⟨A, rfl⟩ : ∃ A : Nat, a = A := ⟨a.toNat, by omega⟩
    have e0 : sw.passes z ((A : Int) :: l) = sw.passes (sw.pass z A) l := rfl
    rw [e0]
    by_cases hi : isb z.s.ws A = true
    · have e1 : sw.pass z A = ⟨z.x, z.s.clear A, z.f⟩ := if_pos hi
      rw [e1]
      exact ih ⟨z.x, z.s.clear A, z.f⟩ V (sw.fine_rmd F _) n2 (fun b h => hm b (by simp [h])) h
    · have e1 : sw.pass z A = ⟨sw.gn z.x A, z.s, z.f + 1⟩ := by unfold sw.pass; rw [if_neg hi, Int.toNat_natCast]
      rw [e1]
      obtain ⟨V1, K1⟩ := sw.iv_gn V ha
      exact ih ⟨sw.gn z.x A, z.s, z.f + 1⟩ V1 F n2 (fun b h => by
        show b ∈ (sw.gn z.x A).tk
        rw [sw.gn_tk, List.mem_filter]
        exact ⟨hm b (by simp [h]), decide_eq_true (fun e => n1 (e ▸ h))⟩) (wok_keep V K1 (fun b hb => by
        rw [sw.gn_tk, List.mem_filter] at hb
        exact ⟨hb.1, by simpa using hb.2⟩) h)
theorem unit_wok {z : sw.Sz} (V : st.Iv z.x) (F : bm.Fine 2048 z.s.ws) (p : Int) (h : wok z.x) : wok (sw.unit z p).x := by
  have P := sw.pz_all (tc.inp z.x p) z V F (sw.inp_nodup V p) (fun a h => (sw.inp_mem.1 h).1)
  obtain ⟨_, K1, _⟩ := sw.iv_trimd P.iv p
  exact wok_keep P.iv K1 (fun b hb => ⟨by rw [← sw.trimd_tk (sw.passes z (tc.inp z.x p)).x p]; exact hb, trivial⟩) (passes_wok _ z V F (sw.inp_nodup V p) (fun a h => (sw.inp_mem.1 h).1) h)
section
variable {k : Kn} {σ : Cy} {t : Nat}
theorem Inv.few (h : Inv k σ) : σ.x.tk.length ≤ 2048 := bf.room 2048 _ (sw.tk_nodup h.iv) fun a ha => by have := h.rg ha; omega
theorem Inv.u3 (h : Inv k σ) (K : Kok k) (hp : σ.ph = 3) (hi : σ.idle = false) : Inv k (σ.u3 k) ∧ rc.W (σ.u3 k).x.tk (tc.fls (σ.u3 k).x) k.N (σ.u3 k).s + tc.left k.N (σ.u3 k).p + 1 ≤ rc.W σ.x.tk (tc.fls σ.x) k.N σ.s + tc.left k.N σ.p := by
  have h5 : σ.ph ≠ 5 := by omega
  have hp' : 2 ≤ σ.ph ∧ σ.ph ≤ 4 := by omega
  have N := K.N
  obtain ⟨b1, b2, b3, b4⟩ := unit3 (h.gd h5) (cd1 _) K.c.1 (by omega) (flo_at σ.x) (u := ⟨σ.s, σ.p⟩) (h.i3 hp').1 (h.i3 hp').2 hi (z := σ.ts k) rfl
  have g : ∀ a, (σ.u3 k).good a ↔ σ.good a := fun a => by rw [good_tk h5, good_tk (σ := σ.u3 k) h5]; exact Iff.rfl
  refine ⟨{ h with
    glg := (g _).2 h.glg
    rtg := fun t a ha => (g _).2 (h.rtg t a ha)
    cl := fun a ha j b hb => (g _).2 (h.cl a ((g _).1 ha) j b hb)
    fi := b1.i.fi
    mr := fun a ha => (b1.i.mr a ha).1
    lo := fun e => absurd e (by show ¬ σ.ph ≤ 1; omega)
    idl := fun e => absurd e (by show ¬ (σ.ph ≤ 1 ∨ σ.ph = 5); omega)
    q5 := fun e => absurd e h5
    i3 := fun e => ⟨b1, b4⟩
    p2 := fun e => absurd e (by show ¬ σ.ph = 2; omega)
    tr := fun e => (h.tr hp').adn b2 (fun a => .inl) (fun a => .inl) }, b3⟩
theorem Inv.to4 (h : Inv k σ) (hp : σ.ph = 3) : Inv k σ.to4 := by
  have h5 : σ.ph ≠ 5 := by omega
  have hp' : 2 ≤ σ.ph ∧ σ.ph ≤ 4 := by omega
  have g : ∀ a, σ.to4.good a ↔ σ.good a := fun a => by rw [good_tk h5, good_tk (σ := σ.to4) (by dsimp only [Cy.to4]; decide)]; exact Iff.rfl
  exact { h with
    thr := fun x hx => by have := h.thr x hx; show -1 ≤ x ∧ x ≤ ((σ.e + 1 : Nat) : Int); omega
    glg := (g _).2 h.glg
    rtg := fun t a ha => (g _).2 (h.rtg t a ha)
    cl := fun a ha j b hb => (g _).2 (h.cl a ((g _).1 ha) j b hb)
    p5 := by dsimp only [Cy.to4]; decide
    lo := fun e => absurd e (by dsimp only [Cy.to4]; decide)
    idl := fun e => absurd e (by dsimp only [Cy.to4]; decide)
    q5 := fun e => absurd e (by dsimp only [Cy.to4]; decide)
    qN := fun _ => h.qN h5
    bE := fun e => absurd e (by dsimp only [Cy.to4]; decide)
    bT := fun _ => h.bT hp'
    i3 := fun _ => h.i3 hp'
    p2 := fun e => absurd e (by dsimp only [Cy.to4]; decide)
    tr := fun _ => (h.tr hp').less fun a ha => ha.imp (fun e => e) fun ⟨u, _, h2⟩ => ⟨u, .inl (by omega), h2⟩ }
theorem Inv.u5 (h : Inv k σ) (K : Kok k) (hp : σ.ph = 5) : Inv k (σ.u5 k) ∧ ((σ.u5 k).ph = 0 → ∀ a, isb (σ.u5 k).s.ws a = false) ∧ (∀ b ∈ (σ.u5 k).x.tk, b ∈ σ.x.tk ∧ tc.fls (σ.u5 k).x b = tc.fls σ.x b ∧ (σ.u5 k).x.xs.getD b.toNat 0 = σ.x.xs.getD b.toNat 0) ∧ (∀ a, σ.good a → (σ.u5 k).good a) ∧ (∀ a, (σ.u5 k).good a → σ.good a) ∧ (∀ a ∈ σ.x.tk, a / 32 = (σ.q : Int) → isb σ.s.ws a = false → a ∉ (σ.u5 k).x.tk) ∧ (∀ a, isb (σ.u5 k).s.ws a = true → isb σ.s.ws a = true) := by
  obtain ⟨qN, q2, q3⟩ := h.q5 hp
  have P := sw.pz_unit (z := ⟨σ.x, σ.s, σ.f⟩) h.iv h.fi (σ.q : Int)
  have KP := unit_keep (z := ⟨σ.x, σ.s, σ.f⟩) h.iv h.fi (σ.q : Int)
  have im : ∀ b, b ∈ tc.inp σ.x (σ.q : Int) ↔ b ∈ σ.x.tk ∧ b / 32 = (σ.q : Int) := fun b => sw.inp_mem
  have tk : ∀ b, b ∈ σ.sz.x.tk ↔ b ∈ σ.x.tk ∧ (b / 32 ≠ (σ.q : Int) ∨ isb σ.s.ws b = true) := fun b => by
    rw [show σ.sz.x.tk = (sw.unit ⟨σ.x, σ.s, σ.f⟩ (σ.q : Int)).x.tk from rfl, P.tk, List.mem_filter]
    simp only [Bool.or_eq_true, decide_eq_true_eq]
    rw [im]
    constructor
    · rintro ⟨h1, h2 | h2⟩
      · exact ⟨h1, .inl fun e => h2 ⟨h1, e⟩⟩
      · exact ⟨h1, .inr h2⟩
    · rintro ⟨h1, h2 | h2⟩
      · exact ⟨h1, .inl fun e => h2 e.2⟩
      · exact ⟨h1, .inr h2⟩
  have mr : ∀ b, isb σ.sz.s.ws b = true ↔ isb σ.s.ws b = true ∧ b / 32 ≠ (σ.q : Int) := fun b => by
    rw [show isb σ.sz.s.ws b = (isb σ.s.ws b && decide (b ∉ tc.inp σ.x (σ.q : Int))) from P.mr b]
    simp only [Bool.and_eq_true, decide_eq_true_eq]
    rw [im]
    exact ⟨fun ⟨h1, h2⟩ => ⟨h1, fun e => h2 ⟨h.mr b h1, e⟩⟩, fun ⟨h1, h2⟩ => ⟨h1, fun e => h2 e.2⟩⟩
  have ph2 : (σ.u5 k).ph = if σ.q + 1 = k.N then 0 else 5 := rfl
  have up : ∀ a, σ.good a → (σ.u5 k).good a := fun a ha => by
    have g := ha.2 hp
    refine ⟨(tk a).2 ⟨ha.1, ?_⟩, fun _ => ?_⟩
    · rcases g with g | g
      · exact .inr g
      · exact .inl (by omega)
    · show isb σ.sz.s.ws a = true ∨ a / 32 < ((σ.q + 1 : Nat) : Int)
      by_cases e : a / 32 < ((σ.q + 1 : Nat) : Int)
      · exact .inr e
      · rcases g with g | g
        · exact .inl ((mr a).2 ⟨g, by omega⟩)
        · exact .inr (by omega)
  have dn : ∀ a, (σ.u5 k).good a → σ.good a := fun a ha => by
    obtain ⟨t1, t2⟩ := (tk a).1 ha.1
    refine ⟨t1, fun _ => ?_⟩
    have ra := h.rg t1
    by_cases e : a / 32 = (σ.q : Int)
    · exact .inl (t2.elim (absurd e) fun e => e)
    · by_cases e5 : (σ.u5 k).ph = 5
      · rcases ha.2 e5 with g | g
        · exact .inl ((mr a).1 g).1
        · have g : a / 32 < ((σ.q + 1 : Nat) : Int) := g
          exact .inr (by omega)
      · rw [ph2] at e5
        split at e5
        · exact .inr (by omega)
        · exact absurd rfl e5
  have zero : (σ.u5 k).ph = 0 → ∀ a, isb σ.sz.s.ws a = false := fun e a => by
    rw [ph2] at e
    split at e
    · cases hb : isb σ.sz.s.ws a with
      | false => rfl
      | true =>
        obtain ⟨h1, h2⟩ := (mr a).1 hb
        have := h.rg (h.mr a h1)
        have := q2 a h1
        omega
    · cases e
  have lf : σ.sz.f ≤ σ.f + 2048 := by
    rw [show σ.sz.f = σ.f + ((tc.inp σ.x (σ.q : Int)).filter fun b => !isb σ.s.ws b).length from P.f]
    have h1 := List.length_filter_le (fun b => !isb σ.s.ws b) (tc.inp σ.x (σ.q : Int))
    have h2 : (tc.inp σ.x (σ.q : Int)).length ≤ σ.x.tk.length := List.length_filter_le _ _
    have h3 := h.few
    omega
  have p05 : (σ.u5 k).ph = 0 ∨ (σ.u5 k).ph = 5 := by rw [ph2]; split <;> simp
  have id5 := h.idl (.inr hp)
  have KP' : ∀ b ∈ σ.sz.x.tk, tc.fls σ.sz.x b = tc.fls σ.x b := fun b hb => (KP b hb).2.1
  refine ⟨{ h with
    iv := P.iv
    wk := unit_wok (z := ⟨σ.x, σ.s, σ.f⟩) h.iv h.fi (σ.q : Int) h.wk
    xT := P.T.trans h.xT
    xN := P.len.trans h.xN
    gln := by show (tc.fls σ.sz.x _).length = 4; rw [KP' _ (up _ h.glg).1]; exact h.gln
    glg := up _ h.glg
    rtg := fun t a ha => up _ (h.rtg t a ha)
    cl := fun a ha j b hb => by
      have hb : (tc.fls σ.sz.x a)[j]? = some (2, b) := hb
      rw [KP' a ha.1] at hb
      exact up _ (h.cl a (dn a ha) j b hb)
    fi := P.fi
    mr := fun a ha => (tk a).2 ⟨h.mr a ((mr a).1 ha).1, .inr ((mr a).1 ha).1⟩
    p5 := by rcases p05 with e | e <;> rw [e] <;> decide
    lo := fun e => zero (by omega)
    idl := fun _ => ⟨(show σ.sz.s.m = σ.s.m from P.m).trans id5.1, (show σ.sz.s.b = σ.s.b from P.b).trans id5.2.1, id5.2.2⟩
    q5 := fun e => by
      rw [ph2] at e
      split at e
      · cases e
      · refine ⟨by show σ.q + 1 < k.N; omega, fun a ha => ?_, by show σ.sz.f ≤ 2048 * (σ.q + 1); omega⟩
        obtain ⟨h1, h2⟩ := (mr a).1 ha
        have := q2 a h1
        show ((σ.q + 1 : Nat) : Int) ≤ a / 32
        omega
    qN := fun e => by
      rw [ph2] at e
      split at e
      · assumption
      · exact absurd rfl e
    fN := by show σ.sz.f ≤ 2048 * k.N; omega
    bE := fun _ => h.bE (.inr hp)
    bT := fun e => absurd e (by omega)
    i3 := fun e => absurd e (by omega)
    p2 := fun e => absurd e (by omega)
    tr := fun e => absurd e (by omega) }, zero, KP, up, dn, fun a h1 h2 h3 h4 => ?_, fun a ha => ((mr a).1 ha).1⟩
  rcases ((tk a).1 h4).2 with e | e
  · exact e h2
  · rw [h3] at e; cases e
theorem Inv.beg (h : Inv k σ) (hp : σ.ph = 0) : Inv k σ.beg := by
  have h5 : σ.ph ≠ 5 := by omega
  have g : ∀ a, σ.beg.good a ↔ σ.good a := fun a => by rw [good_tk h5, good_tk (σ := σ.beg) (by dsimp only [Cy.beg]; decide)]; exact Iff.rfl
  exact { h with
    thr := fun x hx => by have := h.thr x hx; show -1 ≤ x ∧ x ≤ ((σ.e + 1 : Nat) : Int); omega
    glg := (g _).2 h.glg
    rtg := fun t a ha => (g _).2 (h.rtg t a ha)
    cl := fun a ha j b hb => (g _).2 (h.cl a ((g _).1 ha) j b hb)
    p5 := by dsimp only [Cy.beg]; decide
    lo := fun _ => h.lo (by omega)
    idl := fun _ => h.idl (by omega)
    q5 := fun e => absurd e (by dsimp only [Cy.beg]; decide)
    qN := fun _ => h.qN h5
    bE := fun e => absurd e (by dsimp only [Cy.beg]; decide)
    bT := fun e => absurd e (by dsimp only [Cy.beg]; decide)
    i3 := fun e => absurd e (by dsimp only [Cy.beg]; decide)
    p2 := fun e => absurd e (by dsimp only [Cy.beg]; decide)
    tr := fun e => absurd e (by dsimp only [Cy.beg]; decide) }
theorem Inv.begun (h : Inv k σ) (K : Kok k) (hp : σ.ph = 0) : Inv k (σ.beg.lead k) ∧ Stl (σ.beg.lead k) := (h.beg hp).lead K fun e => absurd e (by dsimp only [Cy.beg]; decide)
theorem Inv.unit (h : Inv k σ) (K : Kok k) (S : Stl σ) : Inv k (σ.unit k) ∧ Stl (σ.unit k) := by
  unfold Cy.unit
  by_cases h3 : σ.ph = 3
  · rw [if_pos h3]
    split
    · exact (h.to4 h3).lead K fun e => absurd e (by dsimp only [Cy.to4]; decide)
    · rename_i hi
      refine ⟨(h.u3 K h3 (by simpa using hi)).1, fun _ => S.y (by omega), fun e => absurd e (by show ¬ (σ.ph = 1 ∨ σ.ph = 2 ∨ σ.ph = 4); omega)⟩
  · rw [if_neg h3]
    split
    · rename_i h5
      refine ⟨(h.u5 K h5).1, fun _ => S.y (by omega), fun e => absurd e ?_⟩
      have : (σ.u5 k).ph = if σ.q + 1 = k.N then 0 else 5 := rfl
      rw [this]
      split <;> omega
    · exact ⟨h, S⟩
end
end Go.Proofs.YtkgdcgmbapchcaaGreatDoor.cy
