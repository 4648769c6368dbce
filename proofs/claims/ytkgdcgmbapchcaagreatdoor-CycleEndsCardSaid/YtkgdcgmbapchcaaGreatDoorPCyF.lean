/- Texts that this claim stands on. -/
import Derived.Test.YtkgdcgmbapchcaaGreatDoorPCyD
import Derived.Test.YtkgdcgmbapchcaaGreatDoorPRxA
import Derived.Test.YtkgdcgmbapchcaaGreatDoorPSxB
namespace Go.Proofs.YtkgdcgmbapchcaaGreatDoor.cy
open Go.ChangeShapes Go.WideShapes Go.ChangeAt Go.RowKit gen calls cls geos ce st sh
set_option linter.unusedVariables false
set_option maxHeartbeats 4000000
set_option maxRecDepth 100000
theorem passes_keep (l : List Int) : ∀ z : sw.Sz, st.Iv z.x → bm.Fine 2048 z.s.ws → l.Nodup → (∀ a ∈ l, a ∈ z.x.tk) → ∀ b ∈ (sw.passes z l).x.tk, b ∈ z.x.tk ∧ tc.fls (sw.passes z l).x b = tc.fls z.x b ∧ (sw.passes z l).x.xs.getD b.toNat 0 = z.x.xs.getD b.toNat 0 := by
  induction l with
  | nil => exact fun z V F _ _ b hb => ⟨hb, rfl, rfl⟩
  | cons a l ih =>
    intro z V F nd hm b hb
    obtain ⟨n1, n2⟩ := List.nodup_cons.1 nd
    have ha := hm a (by simp)
    have ra := ph.tk_range V ha
    obtain ⟨A, rfl⟩ : ∃ A : Nat, a = A := ⟨a.toNat, by omega⟩
    have e0 : sw.passes z ((A : Int) :: l) = sw.passes (sw.pass z A) l := rfl
    rw [e0] at hb ⊢
    by_cases hi : isb z.s.ws A = true
    · have e1 : sw.pass z A = ⟨z.x, z.s.clear A, z.f⟩ := if_pos hi
      rw [e1] at hb ⊢
      exact ih ⟨z.x, z.s.clear A, z.f⟩ V (sw.fine_rmd F _) n2 (fun b h => hm b (by simp [h])) b hb
    · have e1 : sw.pass z A = ⟨sw.gn z.x A, z.s, z.f + 1⟩ := by unfold sw.pass; rw [if_neg hi, Int.toNat_natCast]
      rw [e1] at hb ⊢
      obtain ⟨V1, K1⟩ := sw.iv_gn V ha
      obtain ⟨k1, k2, k3⟩ := ih ⟨sw.gn z.x A, z.s, z.f + 1⟩ V1 F n2 (fun b h => by
        show b ∈ (sw.gn z.x A).tk
        rw [sw.gn_tk, List.mem_filter]
        exact ⟨hm b (by simp [h]), decide_eq_true (fun e => n1 (e ▸ h))⟩) b hb
      have k1 : b ∈ (sw.gn z.x A).tk := k1
      rw [sw.gn_tk, List.mem_filter] at k1
      obtain ⟨q1, q2⟩ := ph.fls_keep V K1 k1.1 (by simpa using k1.2)
      exact ⟨k1.1, k2.trans q2, k3.trans q1⟩
theorem unit_keep {z : sw.Sz} (V : st.Iv z.x) (F : bm.Fine 2048 z.s.ws) (p : Int) : ∀ b ∈ (sw.unit z p).x.tk, b ∈ z.x.tk ∧ tc.fls (sw.unit z p).x b = tc.fls z.x b ∧ (sw.unit z p).x.xs.getD b.toNat 0 = z.x.xs.getD b.toNat 0 := fun b hb => by
  have P := sw.pz_all (tc.inp z.x p) z V F (sw.inp_nodup V p) (fun a h => (sw.inp_mem.1 h).1)
  have hb' : b ∈ (sw.passes z (tc.inp z.x p)).x.tk := by
    have : (sw.unit z p).x.tk = (sw.passes z (tc.inp z.x p)).x.tk := sw.trimd_tk _ _
    rw [← this]; exact hb
  obtain ⟨k1, k2, k3⟩ := passes_keep (tc.inp z.x p) z V F (sw.inp_nodup V p) (fun a h => (sw.inp_mem.1 h).1) b hb'
  obtain ⟨_, K1, _⟩ := sw.iv_trimd P.iv p
  obtain ⟨q1, q2⟩ := ph.fls_keep P.iv K1 hb' trivial
  exact ⟨k1, q2.trans k2, q1.trans k3⟩
theorem passes_wok (l : List Int) : ∀ z : sw.Sz, st.Iv z.x → bm.Fine 2048 z.s.ws → l.Nodup → (∀ a ∈ l, a ∈ z.x.tk) → wok z.x → wok (sw.passes z l).x := by
  induction l with
  | nil => exact fun z V F _ _ h => h
  | cons a l ih =>
    intro z V F nd hm h
    obtain ⟨n1, n2⟩ := List.nodup_cons.1 nd
    have ha := hm a (by simp)
    have ra := ph.tk_range V ha
    obtain ⟨A, rfl⟩ : ∃ A : Nat, a = A := ⟨a.toNat, by omega⟩
    have e0 : sw.passes z ((A : Int) :: l) = sw.passes (sw.pass z A) l := rfl
    rw [e0]
    by_cases hi : isb z.s.ws A = true
    · have e1 : sw.pass z A = ⟨z.x, z.s.clear A, z.f⟩ := if_pos hi
      rw [e1]
      exact ih ⟨z.x, z.s.clear A, z.f⟩ V (sw.fine_rmd F _) n2 (fun b h => hm b (by simp [h])) h
    · have e1 : sw.pass z A = ⟨sw.gn z.x A, z.s, z.f + 1⟩ := by unfold sw.pass; rw [if_neg hi, Int.toNat_natCast]
      rw [e1]
      obtain ⟨V1, K1⟩ := sw.iv_gn V ha
      exact ih ⟨sw.gn z.x A, z.s, z.f + 1⟩ V1 F n2 (fun b h => by
        show b ∈ (sw.gn z.x A).tk
        rw [sw.gn_tk, List.mem_filter]
        exact ⟨hm b (by simp [h]), decide_eq_true (fun e => n1 (e ▸ h))⟩) (wok_keep V K1 (fun b hb => by
        rw [sw.gn_tk, List.mem_filter] at hb
        exact ⟨hb.1, by simpa using hb.2⟩) h)
theorem unit_wok {z : sw.Sz} (V : st.Iv z.x) (F : bm.Fine 2048 z.s.ws) (p : Int) (h : wok z.x) : wok (sw.unit z p).x := by
  have P := sw.pz_all (tc.inp z.x p) z V F (sw.inp_nodup V p) (fun a h => (sw.inp_mem.1 h).1)
  obtain ⟨_, K1, _⟩ := sw.iv_trimd P.iv p
  exact wok_keep P.iv K1 (fun b hb => ⟨by rw [← sw.trimd_tk (sw.passes z (tc.inp z.x p)).x p]; exact hb, trivial⟩) (passes_wok _ z V F (sw.inp_nodup V p) (fun a h => (sw.inp_mem.1 h).1) h)
section
variable {k : Kn} {σ : Cy} {t : Nat}
theorem Inv.few (h : Inv k σ) : σ.x.tk.length ≤ 2048 := bf.room 2048 _ (sw.tk_nodup h.iv) fun a ha => by have := h.rg ha; omega
theorem Inv.u3 (h : Inv k σ) (K : Kok k) (hp : σ.ph = 3) (hi : σ.idle = false) : Inv k (σ.u3 k) ∧ rc.W (σ.u3 k).x.tk (tc.fls (σ.u3 k).x) k.N (σ.u3 k).s + tc.left k.N (σ.u3 k).p + 1 ≤ rc.W σ.x.tk (tc.fls σ.x) k.N σ.s + tc.left k.N σ.p := by
  have h5 : σ.ph ≠ 5 := by omega
  have hp' : 2 ≤ σ.ph ∧ σ.ph ≤ 4 := by omega
  have N := K.N
  obtain ⟨b1, b2, b3, b4⟩ := unit3 (h.gd h5) (cd1 _) K.c.1 (by omega) (flo_at σ.x) (u := ⟨σ.s, σ.p⟩) (h.i3 hp').1 (h.i3 hp').2 hi (z := σ.ts k) rfl
  have g : ∀ a, (σ.u3 k).good a ↔ σ.good a := fun a => by rw [good_tk h5, good_tk (σ := σ.u3 k) h5]; exact Iff.rfl
  refine ⟨{ h with
    glg := (g _).2 h.glg
    rtg := fun t a ha => (g _).2 (h.rtg t a ha)
    cl := fun a ha j b hb => (g _).2 (h.cl a ((g _).1 ha) j b hb)
    fi := b1.i.fi
    mr := fun a ha => (b1.i.mr a ha).1
    lo := fun e => absurd e (by show ¬ σ.ph ≤ 1; omega)
    idl := fun e => absurd e (by show ¬ (σ.ph ≤ 1 ∨ σ.ph = 5); omega)
    q5 := fun e => absurd e h5
    i3 := fun e => ⟨b1, b4⟩
    p2 := fun e => absurd e (by show ¬ σ.ph = 2; omega)
    tr := fun e => (h.tr hp').adn b2 (fun a => .inl) (fun a => .inl) }, b3⟩
theorem Inv.to4 (h : Inv k σ) (hp : σ.ph = 3) : Inv k σ.to4 := by
  have h5 : σ.ph ≠ 5 := by omega
  have hp' : 2 ≤ σ.ph ∧ σ.ph ≤ 4 := by omega
  have g : ∀ a, σ.to4.good a ↔ σ.good a := fun a => by rw [good_tk h5, good_tk (σ := σ.to4) (by dsimp only [Cy.to4]; decide)]; exact Iff.rfl
  exact { h with
    thr := fun x hx => by have := h.thr x hx; show -1 ≤ x ∧ x ≤ ((σ.e + 1 : Nat) : Int); omega
    glg := (g _).2 h.glg
    rtg := fun t a ha => (g _).2 (h.rtg t a ha)
    cl := fun a ha j b hb => (g _).2 (h.cl a ((g _).1 ha) j b hb)
    p5 := by dsimp only [Cy.to4]; decide
    lo := fun e => absurd e (by dsimp only [Cy.to4]; decide)
    idl := fun e => absurd e (by dsimp only [Cy.to4]; decide)
    q5 := fun e => absurd e (by dsimp only [Cy.to4]; decide)
    qN := fun _ => h.qN h5
    bE := fun e => absurd e (by dsimp only [Cy.to4]; decide)
    bT := fun _ => h.bT hp'
    i3 := fun _ => h.i3 hp'
    p2 := fun e => absurd e (by dsimp only [Cy.to4]; decide)
    tr := fun _ => (h.tr hp').less fun a ha => ha.imp (fun e => e) fun ⟨u, _, h2⟩ => ⟨u, .inl (by omega), h2⟩ }
theorem Inv.u5 (h : Inv k σ) (K : Kok k) (hp : σ.ph = 5) : Inv k (σ.u5 k) ∧ ((σ.u5 k).ph = 0 → ∀ a, isb (σ.u5 k).s.ws a = false) ∧ (∀ b ∈ (σ.u5 k).x.tk, b ∈ σ.x.tk ∧ tc.fls (σ.u5 k).x b = tc.fls σ.x b ∧ (σ.u5 k).x.xs.getD b.toNat 0 = σ.x.xs.getD b.toNat 0) ∧ (∀ a, σ.good a → (σ.u5 k).good a) ∧ (∀ a, (σ.u5 k).good a → σ.good a) ∧ (∀ a ∈ σ.x.tk, a / 32 = (σ.q : Int) → isb σ.s.ws a = false → a ∉ (σ.u5 k).x.tk) ∧ (∀ a, isb (σ.u5 k).s.ws a = true → isb σ.s.ws a = true) := by
  obtain ⟨qN, q2, q3⟩ := h.q5 hp
  have P := sw.pz_unit (z := ⟨σ.x, σ.s, σ.f⟩) h.iv h.fi (σ.q : Int)
  have KP := unit_keep (z := ⟨σ.x, σ.s, σ.f⟩) h.iv h.fi (σ.q : Int)
  have im : ∀ b, b ∈ tc.inp σ.x (σ.q : Int) ↔ b ∈ σ.x.tk ∧ b / 32 = (σ.q : Int) := fun b => sw.inp_mem
  have tk : ∀ b, b ∈ σ.sz.x.tk ↔ b ∈ σ.x.tk ∧ (b / 32 ≠ (σ.q : Int) ∨ isb σ.s.ws b = true) := fun b => by
    rw [show σ.sz.x.tk = (sw.unit ⟨σ.x, σ.s, σ.f⟩ (σ.q : Int)).x.tk from rfl, P.tk, List.mem_filter]
    simp only [Bool.or_eq_true, decide_eq_true_eq]
    rw [im]
    constructor
    · rintro ⟨h1, h2 | h2⟩
      · exact ⟨h1, .inl fun e => h2 ⟨h1, e⟩⟩
      · exact ⟨h1, .inr h2⟩
    · rintro ⟨h1, h2 | h2⟩
      · exact ⟨h1, .inl fun e => h2 e.2⟩
      · exact ⟨h1, .inr h2⟩
  have mr : ∀ b, isb σ.sz.s.ws b = true ↔ isb σ.s.ws b = true ∧ b / 32 ≠ (σ.q : Int) := fun b => by
    rw [show isb σ.sz.s.ws b = (isb σ.s.ws b && decide (b ∉ tc.inp σ.x (σ.q : Int))) from P.mr b]
    simp only [Bool.and_eq_true, decide_eq_true_eq]
    rw [im]
    exact ⟨fun ⟨h1, h2⟩ => ⟨h1, fun e => h2 ⟨h.mr b h1, e⟩⟩, fun ⟨h1, h2⟩ => ⟨h1, fun e => h2 e.2⟩⟩
  have ph2 : (σ.u5 k).ph = if σ.q + 1 = k.N then 0 else 5 := rfl
  have up : ∀ a, σ.good a → (σ.u5 k).good a := fun a ha => by
    have g := ha.2 hp
    refine ⟨(tk a).2 ⟨ha.1, ?_⟩, fun _ => ?_⟩
    · rcases g with g | g
      · exact .inr g
      · exact .inl (by omega)
    · show isb σ.sz.s.ws a = true ∨ a / 32 < ((σ.q + 1 : Nat) : Int)
      by_cases e : a / 32 < ((σ.q + 1 : Nat) : Int)
      · exact .inr e
      · rcases g with g | g
        · exact .inl ((mr a).2 ⟨g, by omega⟩)
        · exact .inr (by omega)
  have dn : ∀ a, (σ.u5 k).good a → σ.good a := fun a ha => by
    obtain ⟨t1, t2⟩ := (tk a).1 ha.1
    refine ⟨t1, fun _ => ?_⟩
    have ra := h.rg t1
    by_cases e : a / 32 = (σ.q : Int)
    · exact .inl (t2.elim (absurd e) fun e => e)
    · by_cases e5 : (σ.u5 k).ph = 5
      · rcases ha.2 e5 with g | g
        · exact .inl ((mr a).1 g).1
        · have g : a / 32 < ((σ.q + 1 : Nat) : Int) := g
          exact .inr (by omega)
      · rw [ph2] at e5
        split at e5
        · exact .inr (by omega)
        · exact absurd rfl e5
  have zero : (σ.u5 k).ph = 0 → ∀ a, isb σ.sz.s.ws a = false := fun e a => by
    rw [ph2] at e
    split at e
    · cases hb : isb σ.sz.s.ws a with
      | false => rfl
      | true =>
        obtain ⟨h1, h2⟩ := (mr a).1 hb
        have := h.rg (h.mr a h1)
        have := q2 a h1
        omega
    · cases e
  have lf : σ.sz.f ≤ σ.f + 2048 := by
    rw [show σ.sz.f = σ.f + ((tc.inp σ.x (σ.q : Int)).filter fun b => !isb σ.s.ws b).length from P.f]
    have h1 := List.length_filter_le (fun b => !isb σ.s.ws b) (tc.inp σ.x (σ.q : Int))
    have h2 : (tc.inp σ.x (σ.q : Int)).length ≤ σ.x.tk.length := List.length_filter_le _ _
    have h3 := h.few
    omega
  have p05 : (σ.u5 k).ph = 0 ∨ (σ.u5 k).ph = 5 := by rw [ph2]; split <;> simp
  have id5 := h.idl (.inr hp)
  have KP' : ∀ b ∈ σ.sz.x.tk, tc.fls σ.sz.x b = tc.fls σ.x b := fun b hb => (KP b hb).2.1
  refine ⟨{ h with
    iv := P.iv
    wk := unit_wok (z := ⟨σ.x, σ.s, σ.f⟩) h.iv h.fi (σ.q : Int) h.wk
    xT := P.T.trans h.xT
    xN := P.len.trans h.xN
    gln := by show (tc.fls σ.sz.x _).length = 4; rw [KP' _ (up _ h.glg).1]; exact h.gln
    glg := up _ h.glg
    rtg := fun t a ha => up _ (h.rtg t a ha)
    cl := fun a ha j b hb => by
      have hb : (tc.fls σ.sz.x a)[j]? = some (2, b) := hb
      rw [KP' a ha.1] at hb
      exact up _ (h.cl a (dn a ha) j b hb)
    fi := P.fi
    mr := fun a ha => (tk a).2 ⟨h.mr a ((mr a).1 ha).1, .inr ((mr a).1 ha).1⟩
    p5 := by rcases p05 with e | e <;> rw [e] <;> decide
    lo := fun e => zero (by omega)
    idl := fun _ => ⟨(show σ.sz.s.m = σ.s.m from P.m).trans id5.1, (show σ.sz.s.b = σ.s.b from P.b).trans id5.2.1, id5.2.2⟩
    q5 := fun e => by
      rw [ph2] at e
      split at e
      · cases e
      · refine ⟨by show σ.q + 1 < k.N; omega, fun a ha => ?_, by show σ.sz.f ≤ 2048 * (σ.q + 1); omega⟩
        obtain ⟨h1, h2⟩ := (mr a).1 ha
        have := q2 a h1
        show ((σ.q + 1 : Nat) : Int) ≤ a / 32
        omega
    qN := fun e => by
      rw [ph2] at e
      split at e
      · assumption
      · exact absurd rfl e
    fN := by show σ.sz.f ≤ 2048 * k.N; omega
    bE := fun _ => h.bE (.inr hp)
    bT := fun e => absurd e (by omega)
    i3 := fun e => absurd e (by omega)
    p2 := fun e => absurd e (by omega)
    tr := fun e => absurd e (by omega) }, zero, KP, up, dn, fun a h1 h2 h3 h4 => ?_, fun a ha => ((mr a).1 ha).1⟩
  rcases ((tk a).1 h4).2 with e | e
  · exact e h2
  · rw [h3] at e; cases e
theorem Inv.beg (h : Inv k σ) (hp : σ.ph = 0) : Inv k σ.beg := by
  have h5 : σ.ph ≠ 5 := by omega
  have g : ∀ a, σ.beg.good a ↔ σ.good a := fun a => by rw [good_tk h5, good_tk (σ := σ.beg) (by dsimp only [Cy.beg]; decide)]; exact Iff.rfl
  exact { h with
    thr := fun x hx => by have := h.thr x hx; show -1 ≤ x ∧ x ≤ ((σ.e + 1 : Nat) : Int); omega
    glg := (g _).2 h.glg
    rtg := fun t a ha => (g _).2 (h.rtg t a ha)
    cl := fun a ha j b hb => (g _).2 (h.cl a ((g _).1 ha) j b hb)
    p5 := by dsimp only [Cy.beg]; decide
    lo := fun _ => h.lo (by omega)
    idl := fun _ => h.idl (by omega)
    q5 := fun e => absurd e (by dsimp only [Cy.beg]; decide)
    qN := fun _ => h.qN h5
    bE := fun e => absurd e (by dsimp only [Cy.beg]; decide)
    bT := fun e => absurd e (by dsimp only [Cy.beg]; decide)
    i3 := fun e => absurd e (by dsimp only [Cy.beg]; decide)
    p2 := fun e => absurd e (by dsimp only [Cy.beg]; decide)
    tr := fun e => absurd e (by dsimp only [Cy.beg]; decide) }
theorem Inv.begun (h : Inv k σ) (K : Kok k) (hp : σ.ph = 0) : Inv k (σ.beg.lead k) ∧ Stl (σ.beg.lead k) := (h.beg hp).lead K fun e => absurd e (by dsimp only [Cy.beg]; decide)
theorem Inv.dead (h : Inv k σ) (hl : σ.lv t = false) : σ.rt.getD t [] = [] ∧ σ.bf.getD t [] = [] := by
  refine ⟨?_, ?_⟩
  · by_cases e : σ.rt.getD t [] = []
    · exact e
    · have := h.rtd t e; rw [hl] at this; cases this
  · by_cases e : σ.bf.getD t [] = []
    · exact e
    · have := h.bfd t e; rw [hl] at this; cases this
theorem Inv.att (h : Inv k σ) (ht : t < k.n) (hl : σ.lv t = false) : Inv k (σ.att t) := h.confirm ht fun _ a ha => by rw [(h.dead hl).1] at ha; cases ha
theorem att_stl (h : Inv k σ) (S : Stl σ) (ht : t < k.n) (hl : σ.lv t = false) : Stl (σ.att t) := by
  have tl : t < σ.th.length := by rw [h.thl]; exact ht
  have e : (σ.att t).ag = σ.ag := by
    rw [Bool.eq_iff_iff, ag_iff (σ := σ.att t) (thr_set h.thr (by omega)), ag_iff h.thr]
    constructor
    · intro h1 u hu
      have h2 := h1 u (by
        show ep.lv (ep.of (σ.th.set t σ.e) u) = true
        rw [lv_set tl]
        split
        · exact ep.lv_nat _
        · exact hu)
      have h2 : ep.of (σ.th.set t σ.e) u = σ.e := h2
      rw [of_set tl] at h2
      split at h2
      · rename_i e1
        have : u = t := by omega
        subst this
        rw [hl] at hu; cases hu
      · exact h2
    · intro h1 u hu
      show ep.of (σ.th.set t σ.e) u = σ.e
      have hu : ep.lv (ep.of (σ.th.set t σ.e) u) = true := hu
      rw [lv_set tl] at hu
      rw [of_set tl]
      split
      · rfl
      · rename_i e1
        rw [if_neg e1] at hu
        exact h1 u hu
  exact ⟨fun h1 => e.trans (S.y h1), fun h1 => e.trans (S.n h1)⟩
theorem drps_tk (ps : List Int) : ∀ (x : Hs) (n : Nat), (ps.foldl dstep (x, n)).1.tk = x.tk ∧ (ps.foldl dstep (x, n)).1.ks.length = x.ks.length := by
  induction ps with
  | nil => exact fun x n => ⟨rfl, rfl⟩
  | cons p ps ih =>
    intro x n
    obtain ⟨e1, e2⟩ := ih (dstep (x, n) p).1 (dstep (x, n) p).2
    exact ⟨e1.trans (sw.dstep_tk _ _ _), e2.trans (sw.dstep_len _ _ _)⟩
theorem quit_of {x : Hs} (V : st.Iv x) (t : Int) : st.Iv (drps (x.left t) (x.pgs t)).1 ∧ (drps (x.left t) (x.pgs t)).1.T = x.T ∧ (drps (x.left t) (x.pgs t)).1.cnt = x.cnt ∧ (drps (x.left t) (x.pgs t)).1.tk = x.tk ∧ (drps (x.left t) (x.pgs t)).1.ks.length = x.ks.length ∧ (∀ a ∈ x.tk, tc.fls (drps (x.left t) (x.pgs t)).1 a = tc.fls x a ∧ (drps (x.left t) (x.pgs t)).1.xs.getD a.toNat 0 = x.xs.getD a.toNat 0) ∧ (wok x → wok (drps (x.left t) (x.pgs t)).1) := by
  obtain ⟨V1, K1, c1, T1⟩ := Iv.drps (x.pgs t) (x.left t) 0 (V.left t) (left_none V t)
  obtain ⟨e1, e2⟩ := drps_tk (x.pgs t) (x.left t) 0
  refine ⟨V1, T1, c1, e1, e2, fun a ha => ?_, fun h => wok_keep (V.left t) K1 (fun b hb => ⟨e1 ▸ hb, trivial⟩) (show wok (x.left t) from h)⟩
  obtain ⟨q1, q2⟩ := ph.fls_keep (V.left t) K1 (show a ∈ (x.left t).tk from ha) trivial
  exact ⟨q2, q1⟩
theorem Inv.det (h : Inv k σ) (ht : t < k.n) (hl : σ.lv t = true) : Inv k (σ.det k t) := by
  have p5 := h.p5
  obtain ⟨Vq, Tq, _, tq, lq, fq, wq⟩ := quit_of h.iv (t : Int)
  -- the store, the buffer, the roots, the thread
  have H1 : Inv k { σ with s := if σ.keeps = true then shs k.r σ.s (σ.bf.getD t []) else σ.s } ∧ (2 ≤ σ.ph ∧ σ.ph ≤ 4 → ∀ a ∈ σ.bf.getD t [], isb (if σ.keeps = true then shs k.r σ.s (σ.bf.getD t []) else σ.s).ws a = true) := by
    by_cases hk : 2 ≤ σ.ph ∧ σ.ph ≤ 4
    · have e : σ.keeps = true := by unfold Cy.keeps; rw [decide_eq_true hk.1, decide_eq_true hk.2]; rfl
      rw [if_pos e]
      obtain ⟨I1, A, _, m1⟩ := shs3 (l := σ.bf.getD t []) (h.gd (by omega)) (h.i3 hk).1 (fun a ha => ⟨h.bT hk a ⟨t, ha⟩, trivial⟩)
      exact ⟨h.shaded hk I1 A, fun _ => m1⟩
    · have e : ¬ σ.keeps = true := by unfold Cy.keeps; simp; omega
      rw [if_neg e]
      exact ⟨h, fun e => absurd e hk⟩
  have H2 := H1.1.unbuf t H1.2
  have H3 := H2.roots t (l := []) (fun v hv => by cases hv) (Nat.zero_le _)
  have H4 := H3.store Vq (wq h.wk) Tq lq tq (fun a ha => (fq a ha).1)
  have H5 := H4.leave ht (by show (σ.rt.set t []).getD t [] = []; rw [getD_set_nil, if_pos rfl]) (by show (σ.bf.set t []).getD t [] = []; rw [getD_set_nil, if_pos rfl])
  exact H5
theorem ag_of (h : Inv k σ) {τ : Cy} (H : Inv k τ) (ha : σ.ag = true) (hs : ∀ u : Nat, τ.lv u = true → σ.lv u = true ∧ ep.of τ.th u = ep.of σ.th u) (he : τ.e = σ.e) : τ.ag = true := by
  rw [ag_iff H.thr]
  intro u hu
  obtain ⟨h1, h2⟩ := hs u hu
  rw [h2, he]
  exact (ag_iff h.thr).1 ha u h1
theorem Inv.gone (h : Inv k σ) (K : Kok k) (S : Stl σ) (ht : t < k.n) (hl : σ.lv t = true) : Inv k ((σ.det k t).lead k) ∧ Stl ((σ.det k t).lead k) := by
  have H := h.det ht hl
  refine H.lead K fun e => ag_of h H (S.y e) (fun u hu => ?_) rfl
  have tl : t < σ.th.length := by rw [h.thl]; exact ht
  have hu : ep.lv (ep.of (σ.th.set t (-1)) u) = true := hu
  rw [lv_set tl] at hu
  split at hu
  · cases hu
  · rename_i e1
    refine ⟨hu, ?_⟩
    show ep.of (σ.th.set t (-1)) u = _
    rw [of_set tl, if_neg e1]
theorem rf_mem_fold : ∀ (m : List Va) (a : List Int) (z : Int), z ∈ m.foldl ro.rfA a ↔ z ∈ a ∨ (2, z) ∈ m
  | [], a, z => by simp
  | (v1, v2) :: m, a, z => by
    rw [List.foldl_cons, rf_mem_fold m]
    unfold ro.rfA
    dsimp only
    split
    · rename_i h
      rw [List.mem_append, List.mem_singleton, List.mem_cons, or_assoc]
      refine or_congr Iff.rfl (or_congr ⟨fun e => by rw [e, ← h.1], fun e => by injection e⟩ Iff.rfl)
    · rename_i h
      rw [List.mem_cons]
      constructor
      · rintro (h1 | h1)
        · exact .inl h1
        · exact .inr (.inr h1)
      · rintro (h1 | h1 | h1)
        · exact .inl h1
        · injection h1 with e1 e2
          refine .inl ?_
          by_cases h2 : v2 ∈ a
          · rw [e2]; exact h2
          · exact absurd ⟨e1.symm, h2⟩ h
        · exact .inr h1
theorem rf_mem {m : List Va} {z : Int} : z ∈ ro.rf m ↔ (2, z) ∈ m := by
  unfold ro.rf
  rw [rf_mem_fold]
  simp
theorem Inv.polled (h : Inv k σ) (ht : t < k.n) : Inv k (σ.polled k t) := by
  have p5 := h.p5
  unfold Cy.polled
  by_cases h2 : σ.ph = 2
  · have e4 : ¬ σ.ph = 4 := by omega
    rw [if_pos h2, if_neg e4]
    have hk : 2 ≤ σ.ph ∧ σ.ph ≤ 4 := by omega
    obtain ⟨I1, A, _, m1⟩ := shs3 (l := ro.rf (σ.rt.getD t [])) (h.gd (by omega)) (h.i3 hk).1 (fun a ha => ⟨(h.rtg t a (rf_mem.1 ha)).1, trivial⟩)
    exact (h.shaded hk I1 A).confirm ht fun _ a ha => m1 a (rf_mem.2 ha)
  · rw [if_neg h2]
    by_cases h4 : σ.ph = 4
    · rw [if_pos h4, if_pos h4]
      have hk : 2 ≤ σ.ph ∧ σ.ph ≤ 4 := by omega
      obtain ⟨I1, A, _, m1⟩ := shs3 (l := σ.bf.getD t []) (h.gd (by omega)) (h.i3 hk).1 (fun a ha => ⟨h.bT hk a ⟨t, ha⟩, trivial⟩)
      exact ((h.shaded hk I1 A).unbuf t fun _ => m1).confirm ht fun e => absurd e h2
    · rw [if_neg h4, if_neg h4]
      exact h.confirm ht fun e => absurd e h2
theorem Inv.poll (h : Inv k σ) (K : Kok k) (S : Stl σ) (ht : t < k.n) (hb : ep.of σ.th t ≠ σ.e) (hl : σ.lv t = true) : Inv k ((σ.polled k t).lead k) ∧ Stl ((σ.polled k t).lead k) := by
  refine (h.polled ht).lead K fun e => ?_
  have := (ag_iff h.thr).1 (S.y e) t hl
  exact absurd this hb
theorem Inv.unit (h : Inv k σ) (K : Kok k) (S : Stl σ) : Inv k (σ.unit k) ∧ Stl (σ.unit k) := by
  unfold Cy.unit
  by_cases h3 : σ.ph = 3
  · rw [if_pos h3]
    split
    · exact (h.to4 h3).lead K fun e => absurd e (by dsimp only [Cy.to4]; decide)
    · rename_i hi
      refine ⟨(h.u3 K h3 (by simpa using hi)).1, fun _ => S.y (by omega), fun e => absurd e (by show ¬ (σ.ph = 1 ∨ σ.ph = 2 ∨ σ.ph = 4); omega)⟩
  · rw [if_neg h3]
    split
    · rename_i h5
      refine ⟨(h.u5 K h5).1, fun _ => S.y (by omega), fun e => absurd e ?_⟩
      have : (σ.u5 k).ph = if σ.q + 1 = k.N then 0 else 5 := rfl
      rw [this]
      split <;> omega
    · exact ⟨h, S⟩
end
end Go.Proofs.YtkgdcgmbapchcaaGreatDoor.cy
namespace Go.Proofs.YtkgdcgmbapchcaaGreatDoor.cy
open Go.ChangeShapes Go.WideShapes Go.ChangeAt Go.RowKit gen calls cls geos ce st sh
set_option linter.unusedVariables false
set_option maxHeartbeats 4000000
set_option maxRecDepth 100000
structure Cb where
  B : Nat
  I : Ids
  g : Nat
  t : Nat
  v : Nat
  e : Nat
  b : Nat
def hc (rt : List (List Va)) : List Value := rt.flatMap ro.rc
def hd7 (c : Cb) (gl : Nat) : List Value := [.pointer (some ⟨c.I.S, 0, none⟩), .pointer (some ⟨c.g, 0, none⟩), .pointer (some ⟨c.t, 0, none⟩), .pointer (some ⟨c.v, 0, none⟩), .int .i64 gl, .pointer (some ⟨c.e, 0, none⟩), .pointer (some ⟨c.b, 0, none⟩)]
def bxc (c : Cb) (gl : Nat) (rt : List (List Va)) (ph cy un : Nat) : List Value := hd7 c gl ++ (hc rt ++ [.int .i64 ph, .int .i64 cy, .int .i64 un])
def Rl (rt : List (List Va)) : Prop := rt.length = 8 ∧ ∀ l ∈ rt, l.length ≤ 16
theorem hc_len : ∀ rt : List (List Va), (∀ l ∈ rt, l.length ≤ 16) → (hc rt).length = 33 * rt.length
  | [], _ => rfl
  | l :: rt, h => by
    show (ro.rc l ++ hc rt).length = _
    rw [List.length_append, ro.rc_length (h l (by simp)), hc_len rt (fun m hm => h m (by simp [hm])), List.length_cons]
    omega
theorem hc_at : ∀ (rt : List (List Va)), (∀ l ∈ rt, l.length ≤ 16) → ∀ t i, t < rt.length → i < 33 → (hc rt)[33 * t + i]? = (ro.rc (rt.getD t []))[i]?
  | [], _, t, i, ht, _ => by simp at ht
  | l :: rt, h, 0, i, _, hi => by
    show (ro.rc l ++ hc rt)[33 * 0 + i]? = _
    rw [List.getElem?_append_left (by rw [ro.rc_length (h l (by simp))]; omega), show 33 * 0 + i = i by omega]
    rfl
  | l :: rt, h, t + 1, i, ht, hi => by
    show (ro.rc l ++ hc rt)[33 * (t + 1) + i]? = _
    rw [List.getElem?_append_right (by rw [ro.rc_length (h l (by simp))]; omega), ro.rc_length (h l (by simp)), show 33 * (t + 1) + i - 33 = 33 * t + i by omega, hc_at rt (fun m hm => h m (by simp [hm])) t i (by simpa using ht) hi]
    rfl
section
variable {c : Cb} {gl : Nat} {rt : List (List Va)} {ph cy un : Nat}
theorem bx_len (h : Rl rt) : (bxc c gl rt ph cy un).length = 274 := by
  unfold bxc
  rw [List.length_append, List.length_append, hc_len rt h.2, h.1]
  rfl
theorem bx_low {i : Nat} (hi : i < 7) : (bxc c gl rt ph cy un)[i]? = (hd7 c gl)[i]? := by
  unfold bxc
  rw [List.getElem?_append_left (show i < 7 from hi)]
theorem bx_mid (h : Rl rt) {t i : Nat} (ht : t < 8) (hi : i < 33) : (bxc c gl rt ph cy un)[7 + t * 33 + i]? = (ro.rc (rt.getD t []))[i]? := by
  unfold bxc
  have l := hc_len rt h.2
  rw [h.1] at l
  rw [List.getElem?_append_right (show 7 ≤ 7 + t * 33 + i by omega), show 7 + t * 33 + i - (hd7 c gl).length = 33 * t + i from by show 7 + t * 33 + i - 7 = _; omega, List.getElem?_append_left (by omega), hc_at rt h.2 t i (by rw [h.1]; exact ht) hi]
theorem bx_end (h : Rl rt) (j : Nat) : (bxc c gl rt ph cy un)[271 + j]? = [Value.int .i64 ph, .int .i64 cy, .int .i64 un][j]? := by
  unfold bxc
  have l := hc_len rt h.2
  rw [h.1] at l
  rw [List.getElem?_append_right (show 7 ≤ 271 + j by omega), show 271 + j - (hd7 c gl).length = 264 + j from by show 271 + j - 7 = _; omega, List.getElem?_append_right (by omega), l, show 264 + j - 33 * 8 = j by omega]
theorem bx_set (h : Rl rt) (j : Nat) (hj : j < 3) (v : Value) : (bxc c gl rt ph cy un).set (271 + j) v = hd7 c gl ++ (hc rt ++ [Value.int .i64 ph, .int .i64 cy, .int .i64 un].set j v) := by
  have l := hc_len rt h.2
  rw [h.1] at l
  unfold bxc
  rw [List.set_append_right _ _ (show (hd7 c gl).length ≤ 271 + j by show 7 ≤ _; omega), show 271 + j - (hd7 c gl).length = 264 + j from by show 271 + j - 7 = _; omega, List.set_append_right _ _ (by omega), l, show 264 + j - 33 * 8 = j by omega]
theorem Rl.set (h : Rl rt) (t : Nat) {l : List Va} (hl : l.length ≤ 16) : Rl (rt.set t l) := ⟨by rw [List.length_set]; exact h.1, fun m hm => (List.mem_or_eq_of_mem_set hm).elim (h.2 m) fun e => e ▸ hl⟩
theorem bx_sg (h : Rl rt) {t : Nat} (ht : t < 8) : rx.Sg (bxc c gl rt ph cy un) (7 + t * 33) (ro.rc (rt.getD t [])) := by
  have hl : (rt.getD t []).length ≤ 16 := h.2 _ (by
    rw [List.getD_eq_getElem?_getD, List.getElem?_eq_getElem (by rw [h.1]; exact ht)]
    exact List.getElem_mem _)
  exact ⟨ro.rc_length hl, fun i hi => bx_mid h ht hi⟩
theorem bx_put (h : Rl rt) {t : Nat} (ht : t < 8) {l : List Va} (hl : l.length ≤ 16) {cs' : List Value} (hs : rx.Sg cs' (7 + t * 33) (ro.rc l)) (ho : rx.Out (7 + t * 33) (bxc c gl rt ph cy un) cs') : cs' = bxc c gl (rt.set t l) ph cy un := by
  have h' := h.set t hl
  have ll : cs'.length = 274 := ho.1.trans (bx_len h)
  refine List.ext_getElem? fun i => ?_
  by_cases h0 : i < 7
  · rw [ho.2 i (by omega), bx_low h0, bx_low h0]
  by_cases h1 : i < 271
  · obtain ⟨u, j, hu, hj, e⟩ : ∃ u j, u < 8 ∧ j < 33 ∧ i = 7 + u * 33 + j := ⟨(i - 7) / 33, (i - 7) % 33, by omega, by omega, by omega⟩
    subst e
    rw [bx_mid h' hu hj, getD_set (by rw [h.1]; exact ht)]
    by_cases e : u = t
    · subst e
      rw [if_pos rfl]
      exact hs.2 j hj
    · rw [if_neg e, ho.2 _ (by omega), bx_mid h hu hj]
  · by_cases h2 : i < 274
    · obtain ⟨j, rfl⟩ : ∃ j, i = 271 + j := ⟨i - 271, by omega⟩
      rw [ho.2 _ (by omega), bx_end h, bx_end h']
    · rw [List.getElem?_eq_none (by omega), List.getElem?_eq_none (by rw [bx_len h']; omega)]
end
theorem off_all {w : World} {I : Ids} {x : Hs} {B : Nat} (H : Sr w I x) {cs : Array Value} {t : TypeId} {z : Nat × Nat} (b : w.heap[B]? = some (.cells cs t z))
    (ht : t = 65 ∨ t = 128 ∨ t = 153 ∨ t = 160) : B ∉ I.all := by
  obtain ⟨ws, H0, _⟩ := H.hp
  obtain ⟨D, C⟩ := H.at_
  obtain ⟨zs, t1, t2, _⟩ := H0.tab
  obtain ⟨m1, m2, _⟩ := H0.mem
  obtain ⟨s1, _⟩ := H0.set
  obtain ⟨es, clock, hb, _⟩ := C.own
  have nm : ∀ x t f, Obj.map es clock ≠ .cells x t f := fun _ _ _ e => by cases e
  have a1 : B ≠ I.S := ce.ty_ne b H.box (by rcases ht with rfl | rfl | rfl | rfl <;> decide)
  have a2 : B ≠ I.c := ce.ty_ne b H0.cel (by rcases ht with rfl | rfl | rfl | rfl <;> decide)
  have a3 : B ≠ I.h := ce.ty_ne b H0.hea (by rcases ht with rfl | rfl | rfl | rfl <;> decide)
  have a4 : B ≠ I.g := ce.ty_ne b t1 (by rcases ht with rfl | rfl | rfl | rfl <;> decide)
  have a5 : B ≠ I.r := ce.ty_ne b t2 (by rcases ht with rfl | rfl | rfl | rfl <;> decide)
  have a6 : B ≠ I.m := ce.ty_ne b m1 (by rcases ht with rfl | rfl | rfl | rfl <;> decide)
  have a7 : B ≠ I.q := ce.ty_ne b m2 (by rcases ht with rfl | rfl | rfl | rfl <;> decide)
  have a8 : B ≠ I.s := ce.ty_ne b s1 (by rcases ht with rfl | rfl | rfl | rfl <;> decide)
  have a9 : B ≠ I.C := ce.ty_ne b C.box (by rcases ht with rfl | rfl | rfl | rfl <;> decide)
  have a10 : B ≠ I.mb := map_ne b hb nm
  simp only [Ids.all, List.mem_cons, List.not_mem_nil, or_false]
  omega
theorem off_buf {w : World} {K : List Nat} {g B : Nat} {ls : List (List Int)} (H : bf.Bf w K g ls) {cs : Array Value} {t : TypeId} {z : Nat × Nat} (b : w.heap[B]? = some (.cells cs t z))
    (h1 : t ≠ 131) (h2 : t ≠ 41) (h3 : t ≠ 3) : B ∉ K := fun hm => by
  obtain ⟨R, us, h, rfl⟩ := H
  rcases bf.ks_of hm with rfl | rfl | ⟨i, hi, e⟩
  · exact ce.ty_ne b h.box h1 rfl
  · exact ce.ty_ne b h.row h2 rfl
  · refine (h.each i (by rw [← h.len]; exact hi)).off b (fun cs' z' e2 => ?_) e
    injection e2 with _ e2 _
    exact h3 e2
structure Cw (w : World) (k : Kn) (c : Cb) (L K : List Nat) (σ : Cy) : Prop where
  tw : tc.Tw w c.I σ.x L c.g k.r σ.s c.t k.N k.c (tc.left k.N σ.p)
  so : sw.So w c.v c.I.S c.g k.N σ.q σ.f
  rg : ep.Rg w c.e true σ.e σ.th
  bf : bf.Bf w K c.b σ.bf
  bx : w.heap[c.B]? = some (.cells (bxc c k.gl σ.rt σ.ph σ.cy σ.un).toArray 65 (0, 0))
  rl : Rl σ.rt
  kI : ∀ q, q ∈ K → q ∉ c.I.all
  kL : ∀ q, q ∈ K → q ∉ L
def al (c : Cb) (L K : List Nat) : List Nat := c.B :: c.t :: c.v :: c.e :: (L ++ (K ++ c.I.all))
theorem in_al {c : Cb} {L K : List Nat} {q : Nat} : q ∈ al c L K ↔ q = c.B ∨ q = c.t ∨ q = c.v ∨ q = c.e ∨ q ∈ L ∨ q ∈ K ∨ q ∈ c.I.all := by
  unfold al
  rw [List.mem_cons, List.mem_cons, List.mem_cons, List.mem_cons, List.mem_append, List.mem_append]
structure Dj (c : Cb) (L K : List Nat) : Prop where
  LI : ∀ q, q ∈ L → q ∉ c.I.all
  KI : ∀ q, q ∈ K → q ∉ c.I.all
  KL : ∀ q, q ∈ K → q ∉ L
  t : c.t ∉ c.I.all ∧ c.t ∉ L ∧ c.t ∉ K
  v : c.v ∉ c.I.all ∧ c.v ∉ L ∧ c.v ∉ K
  e : c.e ∉ c.I.all ∧ c.e ∉ L ∧ c.e ∉ K
  B : c.B ∉ c.I.all ∧ c.B ∉ L ∧ c.B ∉ K
  ne : c.t ≠ c.v ∧ c.t ≠ c.e ∧ c.t ≠ c.B ∧ c.v ≠ c.e ∧ c.v ≠ c.B ∧ c.e ≠ c.B
section
variable {w w' : World} {k : Kn} {c : Cb} {L L' K K' M : List Nat} {σ : Cy}
theorem Cw.dj (h : Cw w k c L K σ) : Dj c L K := by
  have S := h.tw.sr
  have G := h.tw.gy
  refine ⟨h.tw.ap, h.kI, h.kL, ⟨off_all S h.tw.tc (by simp), h.tw.tL, off_buf h.bf h.tw.tc (by decide) (by decide) (by decide)⟩,
    ⟨off_all S h.so (by simp), G.off h.so (by decide) (by decide) (by decide) (by decide), off_buf h.bf h.so (by decide) (by decide) (by decide)⟩,
    ⟨off_all S h.rg.1 (by simp), G.off h.rg.1 (by decide) (by decide) (by decide) (by decide), off_buf h.bf h.rg.1 (by decide) (by decide) (by decide)⟩,
    ⟨off_all S h.bx (by simp), G.off h.bx (by decide) (by decide) (by decide) (by decide), off_buf h.bf h.bx (by decide) (by decide) (by decide)⟩,
    ce.ty_ne h.tw.tc h.so (by decide), ce.ty_ne h.tw.tc h.rg.1 (by decide), ce.ty_ne h.tw.tc h.bx (by decide), ce.ty_ne h.so h.rg.1 (by decide), ce.ty_ne h.so h.bx (by decide), ce.ty_ne h.rg.1 h.bx (by decide)⟩
theorem Cw.lt (h : Cw w k c L K σ) : ∀ q, q ∈ al c L K → q < w.heap.size := fun q hq => by
  rcases in_al.1 hq with rfl | rfl | rfl | rfl | hq | hq | hq
  · exact (Array.getElem?_eq_some_iff.1 h.bx).1
  · exact h.tw.tc.lt
  · exact h.so.lt
  · exact h.rg.lt
  · exact h.tw.gy.lt q hq
  · exact h.bf.lt q hq
  · exact h.tw.sr.lt q hq
theorem rg_gr {g e : Nat} {b : Bool} {m : List Int} (h : ep.Rg w g b e m) (hg : Gr M w w') (hM : g ∉ M) : ep.Rg w' g b e m := ⟨hg.heap h.1 hM, h.2⟩
theorem bf_gr {g : Nat} {ls : List (List Int)} (h : bf.Bf w K g ls) (hg : Gr M w w') (hM : ∀ q, q ∈ K → q ∉ M) : bf.Bf w' K g ls := h.gr ⟨hg.os, hg.tape, hg.output, hg.size, hg.block⟩ hM
theorem Cw.gr (h : Cw w k c L K σ) (hg : Gr M w w') (hM : ∀ q, q ∈ al c L K → q ∉ M) : Cw w' k c L K σ :=
  ⟨h.tw.gr hg (fun q hq hm => hM q (in_al.2 (by simp [hm])) hq) (fun q hq hm => hM q (in_al.2 (by simp [hm])) hq) (fun hm => hM _ (in_al.2 (by simp)) hm), h.so.gr hg (fun hm => hM _ (in_al.2 (by simp)) hm), rg_gr h.rg hg (fun hm => hM _ (in_al.2 (by simp)) hm), bf_gr h.bf hg (fun q hq hm => hM q (in_al.2 (by simp [hq])) hm), hg.heap h.bx (fun hm => hM _ (in_al.2 (by simp)) hm), h.rl, h.kI, h.kL⟩
theorem Cw.new (h : Cw w k c L K σ) (hg : w.grownBy w' none) : Cw w' k c L K σ := h.gr (M := []) (.new hg) (by simp)
theorem Cw.trace (h : Cw w k c L K σ) {x' : Hs} {s' : Ps} {p' : Int} (hL : ∀ q, q ∈ L' → q ∈ L ∨ w.heap.size ≤ q) (ht : tc.Tw w' c.I x' L' c.g k.r s' c.t k.N k.c (tc.left k.N p')) (hg : Gr M w w') (hM : ∀ q, q ∈ M → q = c.t ∨ q ∈ L ∨ q ∈ c.I.all) : Cw w' k c L' K { σ with x := x', s := s', p := p' } := by
  have D := h.dj
  have lt := h.lt
  have out : ∀ q, q ≠ c.t → q ∉ L → q ∉ c.I.all → q ∉ M := fun q h1 h2 h3 hm => by
    rcases hM q hm with e | e | e
    · exact h1 e
    · exact h2 e
    · exact h3 e
  exact ⟨ht, h.so.gr hg (out _ D.ne.1.symm D.v.2.1 D.v.1), rg_gr h.rg hg (out _ D.ne.2.1.symm D.e.2.1 D.e.1), bf_gr h.bf hg (fun q hq => out _ (fun e => D.t.2.2 (e ▸ hq)) (D.KL q hq) (D.KI q hq)), hg.heap h.bx (out _ D.ne.2.2.1.symm D.B.2.1 D.B.1), h.rl, h.kI, fun q hq hm => (hL q hm).elim (D.KL q hq) fun e => by have := lt q (in_al.2 (by simp [hq])); omega⟩
theorem Cw.grey (h : Cw w k c L K σ) {s' : Ps} (hL : ∀ q, q ∈ L' → q ∈ L ∨ w.heap.size ≤ q) (hs : Gy w' L' c.g k.r s') (hg : Gr L w w') : Cw w' k c L' K { σ with s := s' } :=
  h.trace hL (h.tw.grey hL hs hg) hg fun q hq => .inr (.inl hq)
theorem Cw.store (h : Cw w k c L K σ) {x' : Hs} (hs : Sr w' c.I x') (hv : st.Iv x') (s8 : x'.cnt < 1099511627776) (hg : Gr c.I.L w w') : Cw w' k c L K { σ with x := x' } := by
  have D := h.dj
  have sub : ∀ q, q ∈ c.I.L → q ∈ c.I.all := fun q hq => sw.IL_all hq
  exact h.trace (fun q => .inl) ⟨hs, hv, h.tw.gy.gr hg (fun q hq hm => D.LI q hq (sub q hm)), h.tw.tc.gr hg (fun hm => D.t.1 (sub _ hm)), h.tw.ap, s8, h.tw.n1, h.tw.c1, h.tw.nn⟩ hg fun q hq => .inr (.inr (sub q hq))
theorem Cw.sp (h : Cw w k c L K σ) (hq : σ.q ≤ k.N) (hf : σ.f ≤ 1000000) : sw.Sp w c.I σ.x L c.g k.r σ.s c.v k.N σ.q σ.f := ⟨h.tw.sr, h.tw.iv, h.tw.gy, h.so, h.tw.ap, h.tw.s8, h.tw.n1, hq, hf⟩
theorem Cw.sweep (h : Cw w k c L K σ) {x' : Hs} {s' : Ps} {q' f' : Nat} (hL : ∀ q, q ∈ L' → q ∈ L ∨ w.heap.size ≤ q) (hs : sw.Sp w' c.I x' L' c.g k.r s' c.v k.N q' f') (hg : Gr (sw.wr c.v L c.I) w w') : Cw w' k c L' K { σ with x := x', s := s', q := q', f := f' } := by
  have D := h.dj
  have lt := h.lt
  have sub : ∀ q, q ∈ c.I.L → q ∈ c.I.all := fun q hq => sw.IL_all hq
  have out : ∀ q, q ≠ c.v → q ∉ L → q ∉ c.I.all → q ∉ sw.wr c.v L c.I := fun q h1 h2 h3 hm => by
    rcases sw.in_wr.1 hm with e | e | e
    · exact h1 e
    · exact h2 e
    · exact h3 (sub q e)
  have tw' : tc.Tw w' c.I x' L' c.g k.r s' c.t k.N k.c (tc.left k.N σ.p) := ⟨hs.sr, hs.iv, hs.gy, h.tw.tc.gr hg (out _ D.ne.1 D.t.2.1 D.t.1), hs.ap, hs.s8, h.tw.n1, h.tw.c1, h.tw.nn⟩
  exact ⟨tw', hs.so, rg_gr h.rg hg (out _ D.ne.2.2.2.1.symm D.e.2.1 D.e.1), bf_gr h.bf hg (fun q hq => out _ (fun e => D.v.2.2 (e ▸ hq)) (D.KL q hq) (D.KI q hq)), hg.heap h.bx (out _ D.ne.2.2.2.2.1.symm D.B.2.1 D.B.1), h.rl, h.kI, fun q hq hm => (hL q hm).elim (D.KL q hq) fun e => by have := lt q (in_al.2 (by simp [hq])); omega⟩
theorem Cw.sweeper (h : Cw w k c L K σ) {q' f' : Nat} (hs : sw.So w' c.v c.I.S c.g k.N q' f') (hg : Gr [c.v] w w') : Cw w' k c L K { σ with q := q', f := f' } := by
  have D := h.dj
  have out : ∀ q, q ≠ c.v → q ∉ [c.v] := fun q h1 hm => h1 (by simpa using hm)
  exact ⟨h.tw.gr hg (fun q hq hm => by simp at hq; subst hq; exact D.v.1 hm) (fun q hq hm => by simp at hq; subst hq; exact D.v.2.1 hm) (out _ D.ne.1), hs, rg_gr h.rg hg (out _ D.ne.2.2.2.1.symm), bf_gr h.bf hg (fun q hq => out _ (fun e => D.v.2.2 (e ▸ hq))), hg.heap h.bx (out _ D.ne.2.2.2.2.1.symm), h.rl, h.kI, h.kL⟩
theorem Cw.reg (h : Cw w k c L K σ) {e' : Nat} {th' : List Int} (hs : ep.Rg w' c.e true e' th') (hg : Gr [c.e] w w') : Cw w' k c L K { σ with e := e', th := th' } := by
  have D := h.dj
  have out : ∀ q, q ≠ c.e → q ∉ [c.e] := fun q h1 hm => h1 (by simpa using hm)
  exact ⟨h.tw.gr hg (fun q hq hm => by simp at hq; subst hq; exact D.e.1 hm) (fun q hq hm => by simp at hq; subst hq; exact D.e.2.1 hm) (out _ D.ne.2.1), h.so.gr hg (out _ D.ne.2.2.2.1), hs, bf_gr h.bf hg (fun q hq => out _ (fun e => D.e.2.2 (e ▸ hq))), hg.heap h.bx (out _ D.ne.2.2.2.2.2.symm), h.rl, h.kI, h.kL⟩
theorem Cw.bufs (h : Cw w k c L K σ) {bf' : List (List Int)} (hK : ∀ q, q ∈ K' → q ∈ K ∨ w.heap.size ≤ q) (hs : bf.Bf w' K' c.b bf') (hg : Gr K w w') : Cw w' k c L K' { σ with bf := bf' } := by
  have D := h.dj
  have lt := h.lt
  exact ⟨h.tw.gr hg (fun q hq hm => D.KI q hq hm) (fun q hq hm => D.KL q hq hm) D.t.2.2, h.so.gr hg D.v.2.2, rg_gr h.rg hg D.e.2.2, hs, hg.heap h.bx D.B.2.2, h.rl, fun q hq hm => (hK q hq).elim (fun e => D.KI q e hm) (fun e => by have := lt q (in_al.2 (by simp [hm])); omega), fun q hq hm => (hK q hq).elim (fun e => D.KL q e hm) (fun e => by have := lt q (in_al.2 (by simp [hm])); omega)⟩
theorem Cw.box (h : Cw w k c L K σ) {rt : List (List Va)} {ph cc un : Nat} (hr : Rl rt) (hb : w'.heap[c.B]? = some (.cells (bxc c k.gl rt ph cc un).toArray 65 (0, 0))) (hg : Gr [c.B] w w') : Cw w' k c L K { σ with rt := rt, ph := ph, cy := cc, un := un } := by
  have D := h.dj
  have out : ∀ q, q ≠ c.B → q ∉ [c.B] := fun q h1 hm => h1 (by simpa using hm)
  exact ⟨h.tw.gr hg (fun q hq hm => by simp at hq; subst hq; exact D.B.1 hm) (fun q hq hm => by simp at hq; subst hq; exact D.B.2.1 hm) (out _ D.ne.2.2.1), h.so.gr hg (out _ D.ne.2.2.2.2.1), rg_gr h.rg hg (out _ D.ne.2.2.2.2.2), bf_gr h.bf hg (fun q hq => out _ (fun e => D.B.2.2 (e ▸ hq))), hb, hr, h.kI, h.kL⟩
end
end Go.Proofs.YtkgdcgmbapchcaaGreatDoor.cy
