/- Texts that this claim stands on. -/
import Derived.Test.YtkgdcgmbapchcaaGreatDoorPCzR
namespace Go.Proofs.YtkgdcgmbapchcaaGreatDoor.cy
open Go.ChangeShapes Go.WideShapes Go.ChangeAt Go.RowKit gen calls cls geos ce st sh
set_option linter.unusedVariables false
set_option maxHeartbeats 4000000
set_option maxRecDepth 100000
section
variable {w0 W w w1 w' : World} {k : Kn} {c : Cb} {L0 K0 L K M : List Nat} {σ τ : Cy} {kd : Int} {i : Nat}
structure Bn (i : Nat) (σ : Cy) : Prop where
  e : σ.e ≤ 3 * i
  un : σ.un ≤ i
  cy : σ.cy ≤ i
  cnt : σ.x.cnt ≤ i + 1
theorem Bn.more (h : Bn i σ) {j : Nat} (hj : i ≤ j) : Bn j σ := ⟨by have := h.e; omega, by have := h.un; omega, by have := h.cy; omega, by have := h.cnt; omega⟩
theorem n4_num (σ : Cy) : σ.n4.e = σ.e ∧ σ.n4.un = σ.un ∧ σ.n4.cy = σ.cy ∧ σ.n4.x = σ.x := by
  unfold Cy.n4
  split <;> exact ⟨rfl, rfl, rfl, rfl⟩
theorem lead_num (k : Kn) (σ : Cy) : (σ.lead k).e ≤ σ.e + 1 ∧ (σ.lead k).un = σ.un ∧ (σ.lead k).cy = σ.cy ∧ (σ.lead k).x = σ.x := by
  unfold Cy.lead
  split
  · split
    · split
      · exact ⟨Nat.le_refl _, rfl, rfl, rfl⟩
      · exact ⟨Nat.le_refl _, rfl, rfl, rfl⟩
    · split
      · exact ⟨Nat.le_succ _, rfl, rfl, rfl⟩
      · split
        · obtain ⟨h1, h2, h3, h4⟩ := n4_num σ
          exact ⟨by omega, h2, h3, h4⟩
        · exact ⟨Nat.le_succ _, rfl, rfl, rfl⟩
  · exact ⟨Nat.le_succ _, rfl, rfl, rfl⟩
theorem Bn.lead (h : Bn i σ) (he : σ.e + 1 ≤ 3 * i) : Bn i (σ.lead k) := by
  obtain ⟨h1, h2, h3, h4⟩ := lead_num k σ
  exact ⟨by omega, by rw [h2]; exact h.un, by rw [h3]; exact h.cy, by rw [h4]; exact h.cnt⟩
theorem Did.bn (H : Did k σ kd τ) (h : Inv k σ) (hk : Kok k) (B : Bn i σ) : Bn (i + 1) τ := by
  have b1 := B.e
  have b2 := B.un
  have b3 := B.cy
  have b4 := B.cnt
  cases H with
  | same => exact B.more (by omega)
  | beg _ hp => exact Bn.lead (σ := σ.beg) ⟨by show σ.e + 1 ≤ _; omega, Nat.zero_le _, by show σ.cy ≤ _; omega, by show σ.x.cnt ≤ _; omega⟩ (by show σ.e + 1 + 1 ≤ _; omega)
  | att t _ ht hl => exact Bn.lead (σ := σ.att t) ⟨by show σ.e ≤ _; omega, by show σ.un ≤ _; omega, by show σ.cy ≤ _; omega, by show σ.x.cnt ≤ _; omega⟩ (by show σ.e + 1 ≤ _; omega)
  | det t _ ht hl => exact Bn.lead (σ := σ.det k t) ⟨by show σ.e ≤ _; omega, by show σ.un ≤ _; omega, by show σ.cy ≤ _; omega, by have := (quit_of h.iv t).2.2.1; show (drps (σ.x.left t) (σ.x.pgs t)).1.cnt ≤ _; omega⟩ (by show σ.e + 1 ≤ _; omega)
  | poll t _ ht hl hb => exact Bn.lead (σ := σ.polled k t) ⟨by show σ.e ≤ _; omega, by show σ.un ≤ _; omega, by show σ.cy ≤ _; omega, by show σ.x.cnt ≤ _; omega⟩ (by show σ.e + 1 ≤ _; omega)
  | unit _ =>
    unfold Cy.unit
    split
    · split
      · exact Bn.lead (σ := σ.to4) ⟨by show σ.e + 1 ≤ _; omega, by show σ.un ≤ _; omega, by show σ.cy ≤ _; omega, by show σ.x.cnt ≤ _; omega⟩ (by show σ.e + 1 + 1 ≤ _; omega)
      · exact ⟨by show σ.e ≤ _; omega, by show σ.un + 1 ≤ _; omega, by show σ.cy ≤ _; omega, by show σ.x.cnt ≤ _; omega⟩
    · split
      · have := (sw.pz_unit (z := ⟨σ.x, σ.s, σ.f⟩) h.iv h.fi σ.q).cnt
        exact ⟨by show σ.e ≤ _; omega, by show σ.un + 1 ≤ _; omega, by show (if σ.q + 1 = k.N then σ.cy + 1 else σ.cy) ≤ _; split <;> omega, by show (sw.unit ⟨σ.x, σ.s, σ.f⟩ σ.q).x.cnt ≤ _; rw [this]; show σ.x.cnt ≤ _; omega⟩
      · exact B.more (by omega)
  | made y a n _ N => exact ⟨by show σ.e ≤ _; omega, by show σ.un ≤ _; omega, by show σ.cy ≤ _; omega, by show y.cnt ≤ _; have := N.cnt; omega⟩
  | madep t y a n _ N t8 hl hr => exact ⟨by show σ.e ≤ _; omega, by show σ.un ≤ _; omega, by show σ.cy ≤ _; omega, by show y.cnt ≤ _; have := N.cnt; omega⟩
  | push t v _ t8 hl hc hm hr => exact ⟨by show σ.e ≤ _; omega, by show σ.un ≤ _; omega, by show σ.cy ≤ _; omega, by show σ.x.cnt ≤ _; omega⟩
  | pop t _ => exact ⟨by show σ.e ≤ _; omega, by show σ.un ≤ _; omega, by show σ.cy ≤ _; omega, by show σ.x.cnt ≤ _; omega⟩
  | write t a i v u _ ht hl ha hv hf => exact ⟨by show σ.e ≤ _; omega, by show σ.un ≤ _; omega, by show σ.cy ≤ _; omega, by show σ.x.cnt ≤ _; omega⟩
structure Ru (k : Kn) (i : Nat) (σ : Cy) : Prop where
  hi : Inv k σ
  st : Stl σ
  hk : Kok k
  bn : Bn i σ
theorem Ru.al (h : Ru k i σ) (hi : i ≤ 2000) : Al k σ := ⟨h.hi, h.st, h.hk, ⟨by have := h.bn.e; omega, by have := h.bn.un; omega, by have := h.bn.cy; omega⟩, by have := h.bn.cnt; omega⟩
theorem Ru.did (h : Ru k i σ) (hi : i ≤ 2000) (H : Did k σ kd τ) : Ru k (i + 1) τ := by
  obtain ⟨h1, h2⟩ := H.inv h.hi h.st h.hk (h.al hi).s8
  exact ⟨h1, h2, h.hk, H.bn h.hi h.hk h.bn⟩
theorem Ru.s0 (hk : Kok k) {y : Hs} (N : Nw (x0 k.N (k.n + 1)) y k.gl 4) : Ru k 0 (s0 k y) := by
  obtain ⟨h1, h2⟩ := s0_inv hk N
  exact ⟨h1, h2, hk, ⟨Nat.le_refl _, Nat.le_refl _, Nat.le_refl _, by show y.cnt ≤ 1; have := N.cnt; show y.cnt ≤ 1; rw [this]; exact Nat.le_refl _⟩⟩
theorem few_any (A : Option Addr) (n c : Nat) (w : World) (hn : n ≤ c) (hc : c ≤ maxLen) (hA : 0 < n → ∃ ad, A = some ad) :
    Calls Tryz.prog 13 #[.slice A n c] w fun e w' => (∃ m c', m ≤ 60 ∧ m ≤ n ∧ e = .returned (.slice A m c')) ∧ w = w' := by
  unfold maxLen at hc
  by_cases h : 60 < n
  · obtain ⟨ad, rfl⟩ := hA (by omega)
    clear hA
    have l1 : (60 : Int) ≤ c := by omega
    go_enter Tryz.func13, Tryz.ntmps13
    go_wp2
    all_goals
      go_ret
      exact ⟨⟨60, _, by omega, by omega, rfl⟩, rfl⟩
  · clear hA
    go_enter Tryz.func13, Tryz.ntmps13
    go_wp2
    go_ret
    exact ⟨⟨n, _, by omega, by omega, rfl⟩, rfl⟩
theorem cfg_of {a0 a1 a2 a3 a4 a5 a6 a7 a8 a9 : Int} (h : cf.wrongN [a0, a1, a2, a3, a4, a5, a6, a7, a8, a9] = 0) : ∃ (k : Kn) (y : Hs), Kok k ∧ a0 = k.N ∧ a1 = k.n ∧ a7 = k.c ∧ a8 = k.r ∧ Slo (x0 k.N (k.n + 1)) k.n 4 y k.gl ∧ Ru k 0 (s0 k y) := by
  have f := cf.fine (cf.wrong_zero h).1
  obtain ⟨N, rfl⟩ : ∃ N : Nat, a0 = N := ⟨a0.toNat, by omega⟩
  obtain ⟨n, rfl⟩ : ∃ n : Nat, a1 = n := ⟨a1.toNat, by omega⟩
  obtain ⟨cc, rfl⟩ : ∃ n : Nat, a7 = n := ⟨a7.toNat, by omega⟩
  obtain ⟨r, rfl⟩ : ∃ n : Nat, a8 = n := ⟨a8.toNat, by omega⟩
  have hk0 : Kok ⟨N, r, cc, n, 0⟩ := ⟨by show 2 ≤ N ∧ N ≤ 64; omega, by show 1 ≤ r ∧ r ≤ 256; omega, by show 1 ≤ cc ∧ cc ≤ 16; omega, by show 1 ≤ n ∧ n ≤ 8; omega⟩
  obtain ⟨y, a, S⟩ := x0_slo hk0
  have hk : Kok ⟨N, r, cc, n, a⟩ := ⟨hk0.N, hk0.r, hk0.c, hk0.n⟩
  exact ⟨⟨N, r, cc, n, a⟩, y, hk, rfl, rfl, rfl, rfl, S, .s0 hk (Slo_nw (x0_iv hk.N.2) (by show 0 < 1099511627776; decide) ⟨by omega, by show (n : Int) < ((n + 1 : Nat) : Int); omega⟩ S)⟩
end
end Go.Proofs.YtkgdcgmbapchcaaGreatDoor.cy
namespace Go.Proofs.YtkgdcgmbapchcaaGreatDoor.cy
open Go.ChangeShapes Go.WideShapes Go.ChangeAt Go.RowKit gen calls cls geos ce st sh
set_option linter.unusedVariables false
set_option maxHeartbeats 4000000
set_option maxRecDepth 100000
section
variable {k : Kn} {σ τ : Cy} {t i n m : Nat} {a b : Int} {out out' : List Int} {l : List Va} {kd : Int}
structure Fo (k : Kn) (σ : Cy) (out : List Int) : Prop where
  nd : out.Nodup
  gl : (k.gl : Int) ∈ out
  re : ∀ a ∈ out, Rea k σ a
theorem Fo.start : Fo k σ [(k.gl : Int)] := ⟨by simp, by simp, fun a ha => by rw [List.mem_singleton.1 ha]; exact .gl⟩
theorem Fo.add (h : Fo k σ out) (hr : Rea k σ a) (hn : a ∉ out) : Fo k σ (out ++ [a]) :=
  ⟨List.nodup_append.2 ⟨h.nd, by simp, fun x hx y hy e => by rw [List.mem_singleton.1 hy] at e; subst e; exact hn hx⟩, List.mem_append_left _ h.gl, fun x hx => by
    rcases List.mem_append.1 hx with hx | hx
    · exact h.re x hx
    · rw [List.mem_singleton.1 hx]; exact hr⟩
theorem Fo.len (h : Fo k σ out) (hi : Inv k σ) : out.length ≤ 2048 := bf.room 2048 _ h.nd fun a ha => by
  have := hi.rg ((h.re a ha).good hi).1
  omega
def Rp (l : List Va) (i : Nat) (out : List Int) : Prop := ∀ j, j < i → ∀ a, l[j]? = some (2, a) → a ∈ out
theorem Rp.zero (l : List Va) (out : List Int) : Rp l 0 out := fun j hj => by omega
theorem Rp.next (h : Rp l i out) (hs : ∀ a ∈ out, a ∈ out') (hv : (l.getD i (0, 0)).1 = 2 → (l.getD i (0, 0)).2 ∈ out') : Rp l (i + 1) out' := fun j hj a ha => by
  rcases Nat.lt_or_ge j i with h2 | h2
  · exact hs a (h j h2 a ha)
  · obtain rfl : j = i := by omega
    rw [List.getD_eq_getElem?_getD, ha] at hv
    exact hv rfl
theorem Rp.skip (h : Rp l i out) (hv : (l.getD i (0, 0)).1 ≠ 2) : Rp l (i + 1) out := h.next (fun _ h => h) fun e => absurd e hv
theorem Rp.old (h : Rp l i out) (hv : (l.getD i (0, 0)).2 ∈ out) : Rp l (i + 1) out := h.next (fun _ h => h) fun _ => hv
theorem Rp.add (h : Rp l i out) : Rp l (i + 1) (out ++ [(l.getD i (0, 0)).2]) := h.next (fun _ h => List.mem_append_left _ h) fun _ => by simp
def Rh (σ : Cy) (t : Nat) (out : List Int) : Prop := ∀ u : Nat, u < t → ∀ a, (2, a) ∈ σ.rt.getD u [] → a ∈ out
theorem Rh.zero (σ : Cy) (out : List Int) : Rh σ 0 out := fun u hu => by omega
theorem Rh.mono (h : Rh σ t out) (hs : ∀ a ∈ out, a ∈ out') : Rh σ t out' := fun u hu a ha => hs a (h u hu a ha)
theorem Rh.add (h : Rh σ t out) (b : Int) : Rh σ t (out ++ [b]) := h.mono fun _ h => List.mem_append_left _ h
theorem Rh.next (h : Rh σ t out) (hp : Rp (σ.rt.getD t []) n out) (hn : (σ.rt.getD t []).length = n) : Rh σ (t + 1) out := fun u hu a ha => by
  rcases Nat.lt_or_ge u t with h2 | h2
  · exact h u h2 a ha
  · obtain rfl : u = t := by omega
    obtain ⟨j, hj⟩ := List.mem_iff_getElem?.1 ha
    exact hp j (by have := (List.getElem?_eq_some_iff.1 hj).1; omega) a hj
def Fh (σ : Cy) (n : Nat) (out : List Int) : Prop := ∀ j, j < n → ∀ b, out[j]? = some b → ∀ (i : Nat) a, (tc.fls σ.x b)[i]? = some (2, a) → a ∈ out
theorem Fh.zero (σ : Cy) (out : List Int) : Fh σ 0 out := fun j hj => by omega
theorem Fh.add (h : Fh σ n out) (hn : n ≤ out.length) (c : Int) : Fh σ n (out ++ [c]) := fun j hj b hb i a ha => by
  rw [List.getElem?_append_left (by omega)] at hb
  exact List.mem_append_left _ (h j hj b hb i a ha)
theorem Fh.next (h : Fh σ n out) (hb : out.getD n 0 = b) (hp : Rp (tc.fls σ.x b) m out) (hm : (tc.fls σ.x b).length = m) : Fh σ (n + 1) out := fun j hj c hc i a ha => by
  rcases Nat.lt_or_ge j n with h2 | h2
  · exact h j h2 c hc i a ha
  · obtain rfl : j = n := by omega
    rw [List.getD_eq_getElem?_getD, hc] at hb
    obtain rfl : c = b := hb
    exact hp i (by have := (List.getElem?_eq_some_iff.1 ha).1; omega) a ha
theorem Fo.all (h : Fo k σ out) (hi : Inv k σ) (hr : Rh σ 8 out) (hf : Fh σ out.length out) (a : Int) : a ∈ out ↔ Rea k σ a := by
  refine ⟨h.re a, fun r => ?_⟩
  induction r with
  | gl => exact h.gl
  | @rt t a ha =>
    rcases Nat.lt_or_ge t 8 with h8 | h8
    · exact hr t h8 a ha
    · rw [List.getD_eq_getElem?_getD, List.getElem?_eq_none (by have := hi.rtl; omega)] at ha
      cases ha
  | @fd b a j _ hj ih =>
    obtain ⟨i, hi'⟩ := List.mem_iff_getElem?.1 ih
    exact hf i (List.getElem?_eq_some_iff.1 hi').1 b hi' j a hj
theorem rea_ex (h : Inv k σ) : ∃ xs : List Int, xs.Pairwise (· < ·) ∧ ∀ a, a ∈ xs ↔ Rea k σ a := by
  classical
  exact ⟨σ.x.tk.filter fun a => decide (Rea k σ a), h.iv.ok.up.filter _, fun a => by
    rw [List.mem_filter, decide_eq_true_eq]
    exact ⟨fun e => e.2, fun r => ⟨(r.good h).1, r⟩⟩⟩
theorem Rea.of (hx : τ.x = σ.x) (hr : τ.rt = σ.rt) (r : Rea k σ a) : Rea k τ a := by
  induction r with
  | gl => exact .gl
  | rt h => exact .rt (by rw [hr]; exact h)
  | fd _ hj ih => exact .fd ih (by rw [hx]; exact hj)
theorem lead_rt (k : Kn) (σ : Cy) : (σ.lead k).rt = σ.rt := by
  unfold Cy.lead
  split
  · split
    · split <;> rfl
    · split
      · rfl
      · split
        · unfold Cy.n4; split <;> rfl
        · rfl
  · rfl
theorem lead_x (k : Kn) (σ : Cy) : (σ.lead k).x = σ.x := (lead_num k σ).2.2.2
theorem unit_safe (h : Inv k σ) (hk : Kok k) : (∀ a, Rea k σ a ↔ Rea k (σ.unit k) a) ∧ ∀ a, Rea k σ a → ser (σ.unit k).x a = ser σ.x a := by
  have same : ∀ τ : Cy, τ.x = σ.x → τ.rt = σ.rt → (∀ a, Rea k σ a ↔ Rea k τ a) ∧ ∀ a, Rea k σ a → ser τ.x a = ser σ.x a := fun τ hx hr => ⟨fun a => ⟨Rea.of hx hr, Rea.of hx.symm hr.symm⟩, fun a _ => by rw [hx]⟩
  unfold Cy.unit
  split
  · split
    · exact same _ (lead_x k _) (lead_rt k _)
    · exact same _ rfl rfl
  · split
    · rename_i hp
      obtain ⟨_, _, u3, u4, u5, _⟩ := h.u5 hk hp
      have kp : ∀ a, Rea k σ a → a ∈ (σ.u5 k).x.tk := fun a r => (u4 a (r.good h)).1
      refine ⟨fun a => ⟨fun r => ?_, fun r => ?_⟩, fun a r => ?_⟩
      · induction r with
        | gl => exact .gl
        | rt h => exact .rt h
        | @fd b a j r hj ih => exact .fd ih (by rw [(u3 b (kp b r)).2.1]; exact hj)
      · induction r with
        | gl => exact .gl
        | rt h => exact .rt h
        | @fd b a j r hj ih => exact .fd ih (by rw [← (u3 b (kp b ih)).2.1]; exact hj)
      · unfold ser
        rw [(u3 a (kp a r)).2.2]
    · exact same _ rfl rfl
theorem Did.safe (H : Did k σ kd τ) (h : Inv k σ) (hk : Kok k) (hq : kd = 1 ∨ kd = 2 ∨ kd = 4 ∨ kd = 5 ∨ 13 < kd) : (∀ a, Rea k σ a ↔ Rea k τ a) ∧ ∀ a, Rea k σ a → ser τ.x a = ser σ.x a := by
  have same : ∀ τ : Cy, τ.x = σ.x → τ.rt = σ.rt → (∀ a, Rea k σ a ↔ Rea k τ a) ∧ ∀ a, Rea k σ a → ser τ.x a = ser σ.x a := fun τ hx hr => ⟨fun a => ⟨Rea.of hx hr, Rea.of hx.symm hr.symm⟩, fun a _ => by rw [hx]⟩
  cases H with
  | same => exact same _ rfl rfl
  | beg _ hp => exact same _ (lead_x k _) (lead_rt k _)
  | att t _ ht hl => exact same _ (lead_x k _) (lead_rt k _)
  | poll t _ ht hl hb => exact same _ (lead_x k _) (lead_rt k _)
  | unit _ => exact unit_safe h hk
  | det t e => omega
  | made y a n e => omega
  | madep t y a n e => omega
  | push t v e => omega
  | pop t e => omega
  | write t a i v u e => omega
theorem Rea.mark (r : Rea k σ a) (h : Inv k σ) (h5 : σ.ph = 5) (hq : (σ.q : Int) ≤ a / 32) : isb σ.s.ws a = true := by
  rcases (r.good h).2 h5 with h1 | h1
  · exact h1
  · omega
end
end Go.Proofs.YtkgdcgmbapchcaaGreatDoor.cy
namespace Go.Proofs.YtkgdcgmbapchcaaGreatDoor.cy
open Go.ChangeShapes Go.WideShapes Go.ChangeAt Go.RowKit gen calls cls geos ce st sh
set_option linter.unusedVariables false
set_option maxHeartbeats 4000000
set_option maxRecDepth 100000
section
variable {k : Kn} {σ τ : Cy} {t i n m r : Nat} {a b z p : Int} {S tk : List Int} {D R : Int → Prop} {l : List Va} {kd : Int} {fl : Int → List Va} {s : Ps} {y : Hs}
structure Dm (k : Kn) (S : List Int) (D : Int → Prop) (σ : Cy) : Prop where
  s : ∀ a ∈ σ.x.tk, ser σ.x a ∈ S → D a
  t : ∀ a, D a → a ∈ σ.x.tk
  m : ∀ a, D a → isb σ.s.ws a = false
  g : ¬ D k.gl
  r : ∀ (t : Nat) (a : Int), (2, a) ∈ σ.rt.getD t [] → ¬ D a
  b : ∀ a, σ.Bfs a → ¬ D a
  f : ∀ b ∈ σ.x.tk, ¬ D b → ∀ (j : Nat) (a : Int), (tc.fls σ.x b)[j]? = some (2, a) → ¬ D a
  q : σ.ph = 5 → ∀ a, D a → (σ.q : Int) ≤ a / 32
theorem I3.rs (h : I3 tk fl All1 r s p) (hR : ∀ a, isb s.ws a = true → R a) : I3 tk fl R r s p := ⟨⟨h.i.fi, fun a ha => ⟨(h.i.mr a ha).1, hR a ha⟩, h.i.en, h.i.ln⟩, h.nd, h.ct⟩
theorem Dm.rea (H : Dm k S D σ) (h : Inv k σ) (r : Rea k σ a) : ¬ D a := by
  induction r with
  | gl => exact H.g
  | rt hr => exact H.r _ _ hr
  | fd r hj ih => exact H.f _ (r.good h).1 ih _ _ hj
theorem Dm.cd (H : Dm k S D σ) (h : Inv k σ) (h5 : σ.ph ≠ 5) : rc.Cd (tc.fls σ.x) (fun a => a ∈ σ.x.tk ∧ ¬ D a) := fun a v h1 hv e => by
  obtain ⟨j, hj⟩ := List.mem_iff_getElem?.1 hv
  obtain ⟨v1, v2⟩ := v
  dsimp only at e
  subst e
  exact ⟨(h.cl a (good_of h5 h1.1) j v2 hj).1, H.f a h1.1 h1.2 j v2 hj⟩
theorem Dm.i3 (H : Dm k S D σ) (h : Inv k σ) (hp : 2 ≤ σ.ph ∧ σ.ph ≤ 4) : I3 σ.x.tk (tc.fls σ.x) (fun a => a ∈ σ.x.tk ∧ ¬ D a) k.r σ.s σ.p :=
  (h.i3 hp).1.rs fun a ha => ⟨h.mr a ha, fun hd => by rw [H.m a hd] at ha; cases ha⟩
theorem i3_m {tk' : List Int} (I : I3 tk fl (fun a => a ∈ tk' ∧ ¬ D a) r s p) : ∀ a, D a → isb s.ws a = false := fun a hd => by
  rcases isb_or s.ws a with h | h
  · exact absurd hd (I.i.mr a h).2.2
  · exact h
theorem Dm.shs (H : Dm k S D σ) (h : Inv k σ) (hp : 2 ≤ σ.ph ∧ σ.ph ≤ 4) {l' : List Int} (hl : ∀ a ∈ l', a ∈ σ.x.tk ∧ ¬ D a) : ∀ a, D a → isb (shs k.r σ.s l').ws a = false :=
  i3_m (shs3 (h.gd (by omega)) (H.i3 h hp) (fun a ha => ⟨(hl a ha).1, hl a ha⟩)).1
theorem Dm.lead (H : Dm k S D σ) (h : ∀ a ∈ σ.x.tk, 0 ≤ a) (hp : 2 ≤ σ.ph) : Dm k S D (σ.lead k) := by
  unfold Cy.lead
  split
  · rw [if_neg (by omega)]
    split
    · exact ⟨H.s, H.t, H.m, H.g, H.r, H.b, H.f, fun e => absurd e (by show ¬ (3 : Nat) = 5; decide)⟩
    · split
      · unfold Cy.n4
        split
        · exact ⟨H.s, H.t, H.m, H.g, H.r, H.b, H.f, fun _ a ha => by have := h a (H.t a ha); show ((0 : Nat) : Int) ≤ a / 32; omega⟩
        · exact ⟨H.s, H.t, H.m, H.g, H.r, H.b, H.f, fun e => absurd e (by show ¬ (3 : Nat) = 5; decide)⟩
      · exact H
  · exact H
theorem mem_set {α : Type} {L : List (List α)} {l : List α} {t u : Nat} {x : α} (h : x ∈ (L.set t l).getD u []) : x ∈ l ∨ x ∈ L.getD u [] := by
  rw [List.getD_eq_getElem?_getD, List.getElem?_set] at h
  rw [List.getD_eq_getElem?_getD]
  split at h
  · rename_i e
    subst e
    split at h
    · exact .inl h
    · cases h
  · exact .inr h
theorem isb_shade (hf : bm.Fine 2048 s.ws) (r : Nat) (z a : Int) (h : isb (s.shade r z).ws a = true) : isb s.ws a = true ∨ a = z := by
  unfold Ps.shade at h
  split at h
  · have e : ((s.black z).push r (z, 0)).ws = mkd s.ws z := by unfold Ps.push; split <;> rfl
    rw [e] at h
    exact ((rc.isb_mkd hf z a).1 h).imp id (·.1)
  · exact .inl h
theorem isb_black (hf : bm.Fine 2048 s.ws) (z a : Int) (h : isb (s.black z).ws a = true) : isb s.ws a = true ∨ a = z := ((rc.isb_mkd hf z a).1 h).imp id (·.1)
theorem isb_col (hf : bm.Fine 2048 σ.s.ws) (z : Nat) (a : Int) (h : isb (σ.col k z).ws a = true) : isb σ.s.ws a = true ∨ a = z := by
  unfold Cy.col at h
  split at h
  · exact isb_shade hf _ _ _ h
  · split at h
    · exact isb_black hf _ _ h
    · exact .inl h
theorem wrote_facts (h : Inv k σ) {a i : Nat} {v u : Va} (hc : wd.chk v.1 v.2 = 0) (hf : fget σ.x a i = some u) (s8 : σ.x.cnt < 1099511627776) :
    (a : Int) ∈ σ.x.tk ∧ (tc.fls σ.x a)[i]? = some u ∧ (∀ b ∈ σ.x.tk, tc.fls (σ.wrote t a i v).x b = if b = a then (tc.fls σ.x a).set i v else tc.fls σ.x b) ∧ ∀ b ∈ σ.x.tk, ser (σ.wrote t a i v).x b = ser σ.x b := by
  obtain ⟨j, hj, ha, hju⟩ := fget_some hf
  obtain rfl : i = j := by omega
  obtain ⟨A, s, n, e1, h1, h2, h3, h4, _⟩ := ob_at h.iv s8 ha
  obtain rfl : a = A := by omega
  have hi := (List.getElem?_eq_some_iff.1 hju).1
  have wf := st.wd_fits v.1 v.2
  obtain ⟨V, FL⟩ := fls_stored h.iv h1 h2 (by omega : i < n) wf h3
  obtain ⟨_, K1, w0, _⟩ := h.iv.stored h1 h2 (by omega : i < n) wf h3
  obtain ⟨b1, b2, b3, _⟩ := wd.wd_back hc
  have rv : tc.rdv (wd.wd v.1 v.2) = v := by unfold tc.rdv; rw [b1, b2]
  rw [rv] at FL
  refine ⟨ha, hju, FL, fun b hb => ?_⟩
  show (σ.x.stored (a + 1 + i) (wd.wd v.1 v.2)).xs.getD b.toNat 0 / 128 = σ.x.xs.getD b.toNat 0 / 128
  by_cases e : b = a
  · subst e
    rw [Int.toNat_natCast, w0, h1.wd]
  · rw [(ph.fls_keep h.iv K1 hb e).1]
theorem Did.ser (H : Did k σ kd τ) (h : Inv k σ) (hk : Kok k) (s8 : σ.x.cnt + 1 < 1099511627776) : σ.x.cnt ≤ τ.x.cnt ∧ ∀ b ∈ τ.x.tk, (b ∈ σ.x.tk ∧ cy.ser τ.x b = cy.ser σ.x b) ∨ cy.ser τ.x b = σ.x.cnt := by
  have same : ∀ τ : Cy, τ.x = σ.x → σ.x.cnt ≤ τ.x.cnt ∧ ∀ b ∈ τ.x.tk, (b ∈ σ.x.tk ∧ cy.ser τ.x b = cy.ser σ.x b) ∨ cy.ser τ.x b = σ.x.cnt := fun τ e => by rw [e]; exact ⟨Nat.le_refl _, fun b hb => .inl ⟨hb, rfl⟩⟩
  cases H with
  | same => exact same _ rfl
  | beg _ hp => exact same _ (lead_x k _)
  | att t _ ht hl => exact same _ (lead_x k _)
  | poll t _ ht hl hb => exact same _ (lead_x k _)
  | det t _ ht hl =>
    obtain ⟨_, _, q3, q4, _, q6, _⟩ := quit_of h.iv t
    rw [lead_x]
    refine ⟨Nat.le_of_eq q3.symm, fun b hb => .inl ?_⟩
    have hb2 : b ∈ σ.x.tk := by
      have : b ∈ (drps (σ.x.left t) (σ.x.pgs t)).1.tk := hb
      rwa [q4] at this
    refine ⟨hb2, ?_⟩
    show (drps (σ.x.left t) (σ.x.pgs t)).1.xs.getD b.toNat 0 / 128 = _
    rw [(q6 b hb2).2]
    rfl
  | unit _ =>
    unfold Cy.unit
    split
    · split
      · exact same _ (lead_x k _)
      · exact same _ rfl
    · split
      · rename_i hp
        obtain ⟨_, _, u3, _⟩ := h.u5 hk hp
        refine ⟨?_, fun b hb => .inl ⟨(u3 b hb).1, by unfold cy.ser; rw [(u3 b hb).2.2]⟩⟩
        have := (sw.pz_unit (z := ⟨σ.x, σ.s, σ.f⟩) h.iv h.fi σ.q).cnt
        exact Nat.le_of_eq this.symm
      · exact same _ rfl
  | made y a n _ N =>
    refine ⟨by show _ ≤ y.cnt; have := N.cnt; omega, fun b hb => ?_⟩
    rcases (N.tk b).1 hb with h1 | h1
    · exact .inl ⟨h1, N.ser.2 b h1⟩
    · subst h1; exact .inr N.ser.1
  | madep t y a n _ N t8 hl hr =>
    refine ⟨by show _ ≤ y.cnt; have := N.cnt; omega, fun b hb => ?_⟩
    rcases (N.tk b).1 hb with h1 | h1
    · exact .inl ⟨h1, N.ser.2 b h1⟩
    · subst h1; exact .inr N.ser.1
  | push t v _ t8 hl hc hm hr => exact same _ rfl
  | pop t _ => exact same _ rfl
  | write t a i v u _ ht hl ha hv hf =>
    obtain ⟨_, _, _, w4⟩ := wrote_facts (t := t) h ((h.rtr t).2 v hv) hf (by omega)
    exact ⟨Nat.le_refl _, fun b hb => .inl ⟨hb, w4 b hb⟩⟩
theorem Dm.u5 (H : Dm k S D σ) (h : Inv k σ) (K : Kok k) (hp : σ.ph = 5) : ((σ.u5 k).ph ≠ 0 → Dm k S (fun a => D a ∧ a ∈ (σ.u5 k).x.tk) (σ.u5 k)) ∧ ((σ.u5 k).ph = 0 → ∀ a ∈ (σ.u5 k).x.tk, ser (σ.u5 k).x a ∉ S) := by
  obtain ⟨_, _, u3, _, _, u6, u7⟩ := h.u5 K hp
  have sr : ∀ a ∈ (σ.u5 k).x.tk, ser (σ.u5 k).x a ∈ S → D a := fun a ha hs => H.s a (u3 a ha).1 (by unfold ser at hs ⊢; rwa [(u3 a ha).2.2] at hs)
  have qq : ∀ a, D a → a ∈ (σ.u5 k).x.tk → (σ.q : Int) + 1 ≤ a / 32 := fun a hd ha => by
    have h1 := H.q hp a hd
    have h2 : a / 32 ≠ (σ.q : Int) := fun e => u6 a (u3 a ha).1 e (H.m a hd) ha
    omega
  refine ⟨fun h0 => ⟨fun a ha hs => ⟨sr a ha hs, ha⟩, fun a ha => ha.2, fun a ha => ?_, fun e => H.g e.1, fun t a ha e => H.r t a ha e.1, fun a ha e => H.b a ha e.1, fun b hb hn j a hj e => ?_, fun _ a ha => by have := qq a ha.1 ha.2; show ((σ.q + 1 : Nat) : Int) ≤ _; omega⟩, fun h0 a ha hs => ?_⟩
  · rcases isb_or (σ.u5 k).s.ws a with e | e
    · have := u7 a e
      rw [H.m a ha.1] at this
      cases this
    · exact e
  · rw [(u3 b hb).2.1] at hj
    exact H.f b (u3 b hb).1 (fun e2 => hn ⟨e2, hb⟩) j a hj e.1
  · have hd := sr a ha hs
    have h1 := qq a hd ha
    have h2 := h.rg (u3 a ha).1
    have h3 : (if σ.q + 1 = k.N then 0 else 5) = 0 := h0
    split at h3
    · omega
    · cases h3
theorem Dm.made (H : Dm k S D σ) (h : Inv k σ) {a : Nat} (N : Nw σ.x y a n) (hS : ∀ s ∈ S, s < σ.x.cnt) : Dm k S D (σ.made k y a) ∧ ¬ D a := by
  have na : ¬ D a := fun e => N.no (H.t _ e)
  refine ⟨⟨fun b hb hs => ?_, fun b hb => (N.tk b).2 (.inl (H.t b hb)), fun b hb => ?_, H.g, H.r, H.b, fun b hb hn j c hc => ?_, H.q⟩, na⟩
  · rcases (N.tk b).1 hb with h1 | h1
    · exact H.s b h1 (by have := N.ser.2 b h1; rw [← this]; exact hs)
    · subst h1
      have h2 : cy.ser y a ∈ S := hs
      rw [N.ser.1] at h2
      have := hS _ h2
      omega
  · rcases isb_or (σ.col k a).ws b with e | e
    · rcases isb_col h.fi a b e with e | e
      · rw [H.m b hb] at e; cases e
      · subst e; exact absurd hb na
    · exact e
  · rcases (N.tk b).1 hb with h1 | h1
    · have h2 : (tc.fls y b)[j]? = some (2, c) := hc
      rw [N.old b h1] at h2
      exact H.f b h1 hn j c h2
    · subst h1
      exact absurd hc (N.no2 j c)
theorem Dm.pushed (H : Dm k S D σ) {v : Va} (hv : v.1 = 2 → ¬ D v.2) : Dm k S D (σ.pushed t v) :=
  ⟨H.s, H.t, H.m, H.g, fun u a ha => by
    rcases mem_set ha with h1 | h1
    · rcases List.mem_append.1 h1 with h2 | h2
      · exact H.r t a h2
      · rw [List.mem_singleton] at h2; subst h2; exact hv rfl
    · exact H.r u a h1, H.b, H.f, H.q⟩
theorem Dm.popped (H : Dm k S D σ) : Dm k S D (σ.popped t) :=
  ⟨H.s, H.t, H.m, H.g, fun u a ha => by
    rcases mem_set ha with h1 | h1
    · exact H.r t a (dropLast_sub _ _ h1)
    · exact H.r u a h1, H.b, H.f, H.q⟩
theorem Dm.wrote (H : Dm k S D σ) (h : Inv k σ) {a i : Nat} {v u : Va} (ha : (2, (a : Int)) ∈ σ.rt.getD t []) (hv : v ∈ σ.rt.getD t []) (hf : fget σ.x a i = some u) (s8 : σ.x.cnt < 1099511627776) : Dm k S D (σ.wrote t a i v) := by
  obtain ⟨w1, w2, w3, w4⟩ := wrote_facts (t := t) h ((h.rtr t).2 v hv) hf s8
  have na := H.r t a ha
  refine ⟨fun b hb hs => H.s b hb (by have := w4 b hb; rw [← this]; exact hs), H.t, H.m, H.g, H.r, fun c hc => ?_, fun b hb hn j c hj => ?_, H.q⟩
  · obtain ⟨q, hq⟩ := hc
    have hq : c ∈ (if σ.notes t = true ∧ σ.white ((tc.fls σ.x a).getD i (0, 0)) = true then σ.bf.set t (putb (σ.bf.getD t []) ((tc.fls σ.x a).getD i (0, 0)).2) else σ.bf).getD q [] := hq
    split at hq
    · rename_i hw
      rcases mem_set hq with h1 | h1
      · rcases putb_mem.1 h1 with h2 | h2
        · exact H.b c ⟨t, h2⟩
        · rw [List.getD_eq_getElem?_getD, w2] at h2 hw
          subst h2
          have h3 := hw.2
          unfold Cy.white at h3
          simp only [Bool.and_eq_true, decide_eq_true_eq] at h3
          refine H.f a w1 na i _ (w2.trans ?_)
          obtain ⟨u1, u2⟩ := u
          have := h3.1.1
          dsimp only [Option.getD_some] at this ⊢
          rw [this]
      · exact H.b c ⟨q, h1⟩
    · exact H.b c ⟨q, hq⟩
  · have h1 : (tc.fls (σ.wrote t a i v).x b)[j]? = some (2, c) := hj
    rw [w3 b hb] at h1
    split at h1
    · rename_i e
      subst e
      rw [List.getElem?_set] at h1
      split at h1
      · split at h1
        · injection h1 with e
          exact H.r t c (e ▸ hv)
        · cases h1
      · exact H.f a w1 na j c h1
    · exact H.f b hb hn j c h1
structure Fz (k : Kn) (S : List Int) (σ : Cy) : Prop where
  lt : ∀ s ∈ S, s < σ.x.cnt
  lo : σ.ph ≤ 1 → ∀ a ∈ σ.x.tk, ser σ.x a ∉ S
  hi : 2 ≤ σ.ph → ∃ D, Dm k S D σ
theorem lead_lo (h1 : σ.ph ≤ 1) : (σ.lead k).ph ≤ 1 ∨ ((σ.lead k).s = σ.s.shade k.r k.gl ∧ (σ.lead k).bf = List.replicate σ.bf.length [] ∧ (σ.lead k).ph ≠ 5) := by
  unfold Cy.lead
  split
  · split
    · split
      · exact .inr ⟨rfl, rfl, by show ¬ (3 : Nat) = 5; decide⟩
      · exact .inr ⟨rfl, rfl, by show ¬ (2 : Nat) = 5; decide⟩
    · rw [if_neg (by omega), if_neg (by omega)]
      exact .inl h1
  · exact .inl h1
theorem Did.at2 (H : Did k σ kd τ) (h : Inv k σ) (h1 : σ.ph ≤ 1) (h2 : 2 ≤ τ.ph) : (∀ a, isb τ.s.ws a = true → a = k.gl) ∧ (∀ t : Nat, τ.bf.getD t [] = []) ∧ τ.ph ≠ 5 := by
  have go : ∀ ρ : Cy, ρ.ph ≤ 1 → ρ.s = σ.s → 2 ≤ (ρ.lead k).ph → (∀ a, isb (ρ.lead k).s.ws a = true → a = k.gl) ∧ (∀ t : Nat, (ρ.lead k).bf.getD t [] = []) ∧ (ρ.lead k).ph ≠ 5 := fun ρ e1 e2 e3 => by
    rcases lead_lo (k := k) e1 with e4 | ⟨e4, e5, e6⟩
    · omega
    · refine ⟨fun a ha => ?_, fun t => by rw [e5]; exact rep_nil _ t, e6⟩
      rw [e4, e2] at ha
      rcases isb_shade h.fi _ _ _ ha with h3 | h3
      · rw [h.lo h1 a] at h3; cases h3
      · exact h3
  cases H with
  | same => omega
  | beg _ hp => exact go _ (Nat.le_refl _) rfl h2
  | att t _ ht hl => exact go _ h1 rfl h2
  | det t _ ht hl =>
    refine go (σ.det k t) h1 ?_ h2
    show (if σ.keeps = true then _ else _) = _
    rw [if_neg]
    unfold Cy.keeps
    simp
    omega
  | poll t _ ht hl hb =>
    refine go (σ.polled k t) h1 ?_ h2
    show (if σ.ph = 2 then _ else _) = _
    rw [if_neg (by omega), if_neg (by omega)]
  | unit _ =>
    unfold Cy.unit at h2
    rw [if_neg (by omega), if_neg (by omega)] at h2
    omega
  | made y a n _ N => have : 2 ≤ σ.ph := h2; omega
  | madep t y a n _ N t8 hl hr => have : 2 ≤ σ.ph := h2; omega
  | push t v _ t8 hl hc hm hr => have : 2 ≤ σ.ph := h2; omega
  | pop t _ => have : 2 ≤ σ.ph := h2; omega
  | write t a i v u _ ht hl ha hv hf => have : 2 ≤ σ.ph := h2; omega
theorem Fz.new (h : Inv k σ) (hp : 2 ≤ σ.ph) (s8 : σ.x.cnt < 1099511627776) (A : (∀ a, isb σ.s.ws a = true → a = k.gl) ∧ (∀ t : Nat, σ.bf.getD t [] = []) ∧ σ.ph ≠ 5) (hS : ∀ s ∈ S, ∃ a ∈ σ.x.tk, ser σ.x a = s) (hR : ∀ a, Rea k σ a → ser σ.x a ∉ S) : Fz k S σ := by
  refine ⟨fun s hs => ?_, fun e => by omega, fun _ => ⟨fun a => a ∈ σ.x.tk ∧ ¬ Rea k σ a, fun a ha hs => ⟨ha, fun r => hR a r hs⟩, fun a ha => ha.1, fun a ha => ?_, fun e => e.2 .gl, fun t a ha e => e.2 (.rt ha), fun a ha e => ?_, fun b hb hn j a hj e => ?_, fun e => absurd e A.2.2⟩⟩
  · obtain ⟨a, ha, rfl⟩ := hS s hs
    obtain ⟨_, q, n, _, _, _, h3, _, h5⟩ := ob_at h.iv s8 ha
    rw [h5]
    omega
  · rcases isb_or σ.s.ws a with e | e
    · have := A.1 a e
      subst this
      exact absurd .gl ha.2
    · exact e
  · obtain ⟨t, ht⟩ := ha
    rw [A.2.1 t] at ht
    cases ht
  · rcases Classical.em (Rea k σ b) with r | r
    · exact e.2 (.fd r hj)
    · exact hn ⟨hb, r⟩
theorem Fz.none (h : σ.ph ≤ 1) : Fz k [] σ := ⟨fun s hs => by (cases hs), fun _ a _ hs => by (cases hs), fun e => by omega⟩
theorem Did.fz (H : Did k σ kd τ) (h : Inv k σ) (hk : Kok k) (s8 : σ.x.cnt + 1 < 1099511627776) (F : Fz k S σ) (hn : ¬ (σ.ph ≤ 1 ∧ 2 ≤ τ.ph)) : Fz k S τ := by
  obtain ⟨SC, SE⟩ := Did.ser H h hk s8
  refine ⟨fun s hs => by have := F.lt s hs; omega, fun e => ?_, fun e => ?_⟩
  · rcases Nat.lt_or_ge 1 σ.ph with h2 | h2
    · obtain ⟨D, M⟩ := F.hi h2
      have ld : ∀ ρ : Cy, 2 ≤ ρ.ph → 2 ≤ (ρ.lead k).ph := fun ρ hρ => by
        unfold Cy.lead
        split
        · rw [if_neg (by omega)]
          split
          · show 2 ≤ 3; decide
          · split
            · unfold Cy.n4
              split
              · show 2 ≤ 5; decide
              · show 2 ≤ 3; decide
            · exact hρ
        · exact hρ
      cases H with
      | same => omega
      | beg _ hp => omega
      | att t _ ht hl => have := ld (σ.att t) h2; omega
      | det t _ ht hl => have := ld (σ.det k t) h2; omega
      | poll t _ ht hl hb => have := ld (σ.polled k t) h2; omega
      | unit _ =>
        unfold Cy.unit at e ⊢
        by_cases h3 : σ.ph = 3
        · rw [if_pos h3] at e
          split at e
          · have := ld σ.to4 (by show 2 ≤ 4; decide); omega
          · have : σ.ph ≤ 1 := e; omega
        · rw [if_neg h3] at e ⊢
          by_cases h5 : σ.ph = 5
          · rw [if_pos h5] at e ⊢
            refine (M.u5 h hk h5).2 ?_
            have e : (if σ.q + 1 = k.N then 0 else 5) ≤ 1 := e
            show (if σ.q + 1 = k.N then 0 else 5) = 0
            split at e
            · rename_i e2; rw [if_pos e2]
            · omega
          · rw [if_neg h5] at e; omega
      | made y a n _ N => have : σ.ph ≤ 1 := e; omega
      | madep t y a n _ N t8 hl hr => have : σ.ph ≤ 1 := e; omega
      | push t v _ t8 hl hc hm hr => have : σ.ph ≤ 1 := e; omega
      | pop t _ => have : σ.ph ≤ 1 := e; omega
      | write t a i v u _ ht hl ha hv hf => have : σ.ph ≤ 1 := e; omega
    · intro a ha hs
      rcases SE a ha with ⟨e1, e2⟩ | e1
      · exact F.lo (by omega) a e1 (by rw [← e2]; exact hs)
      · have := F.lt _ hs
        omega
  · have h2 : 2 ≤ σ.ph := by omega
    obtain ⟨D, M⟩ := F.hi h2
    have nn : ∀ a ∈ σ.x.tk, 0 ≤ a := fun a ha => (h.rg ha).1
    have bt : 2 ≤ σ.ph ∧ σ.ph ≤ 4 → ∀ t : Nat, ∀ a ∈ σ.bf.getD t [], a ∈ σ.x.tk ∧ ¬ D a := fun hp t a ha => ⟨h.bT hp a ⟨t, ha⟩, M.b a ⟨t, ha⟩⟩
    cases H with
    | same => exact ⟨D, M⟩
    | beg _ hp => omega
    | att t _ ht hl => exact ⟨D, Dm.lead (σ := σ.att t) ⟨M.s, M.t, M.m, M.g, M.r, M.b, M.f, M.q⟩ nn h2⟩
    | det t _ ht hl =>
      obtain ⟨_, _, _, q4, _, q6, _⟩ := quit_of h.iv t
      have tk : ∀ b, b ∈ (σ.det k t).x.tk ↔ b ∈ σ.x.tk := fun b => by show b ∈ (drps (σ.x.left t) (σ.x.pgs t)).1.tk ↔ _; rw [q4]
      refine ⟨D, Dm.lead (σ := σ.det k t) ⟨fun a ha hs => M.s a ((tk a).1 ha) ?_, fun a ha => (tk a).2 (M.t a ha), ?_, M.g, fun u a ha => ?_, fun a ha => ?_, fun b hb hn j a hj => ?_, M.q⟩ (fun a ha => nn a ((tk a).1 ha)) h2⟩
      · have e1 : (drps (σ.x.left t) (σ.x.pgs t)).1.xs.getD a.toNat 0 / 128 ∈ S := hs
        rw [(q6 a ((tk a).1 ha)).2] at e1
        exact e1
      · show ∀ a, D a → isb (if σ.keeps = true then cy.shs k.r σ.s (σ.bf.getD t []) else σ.s).ws a = false
        split
        · rename_i hkp
          unfold Cy.keeps at hkp
          simp only [Bool.and_eq_true, decide_eq_true_eq] at hkp
          exact M.shs h hkp (bt hkp t)
        · exact M.m
      · rcases mem_set ha with e1 | e1
        · cases e1
        · exact M.r u a e1
      · obtain ⟨u, ha⟩ := ha
        rcases mem_set ha with e1 | e1
        · cases e1
        · exact M.b a ⟨u, e1⟩
      · have e1 : (tc.fls (drps (σ.x.left t) (σ.x.pgs t)).1 b)[j]? = some (2, a) := hj
        rw [(q6 b ((tk b).1 hb)).1] at e1
        exact M.f b ((tk b).1 hb) hn j a e1
    | poll t _ ht hl hb =>
      refine ⟨D, Dm.lead (σ := σ.polled k t) ⟨M.s, M.t, ?_, M.g, M.r, fun a ha => ?_, M.f, M.q⟩ nn h2⟩
      · show ∀ a, D a → isb (if σ.ph = 2 then cy.shs k.r σ.s (ro.rf (σ.rt.getD t [])) else if σ.ph = 4 then cy.shs k.r σ.s (σ.bf.getD t []) else σ.s).ws a = false
        split
        · rename_i e2
          exact M.shs h (by omega) fun a ha => ⟨(h.rtg t a (rf_mem.1 ha)).1, M.r t a (rf_mem.1 ha)⟩
        · split
          · exact M.shs h (by omega) (bt (by omega) t)
          · exact M.m
      · obtain ⟨u, ha⟩ := ha
        have ha : a ∈ (if σ.ph = 4 then σ.bf.set t [] else σ.bf).getD u [] := ha
        split at ha
        · rcases mem_set ha with e1 | e1
          · cases e1
          · exact M.b a ⟨u, e1⟩
        · exact M.b a ⟨u, ha⟩
    | unit _ =>
      unfold Cy.unit at e ⊢
      by_cases h3 : σ.ph = 3
      · rw [if_pos h3] at e ⊢
        split
        · exact ⟨D, Dm.lead (σ := σ.to4) ⟨M.s, M.t, M.m, M.g, M.r, M.b, M.f, fun e => absurd e (by show ¬ (4 : Nat) = 5; decide)⟩ nn (by show 2 ≤ 4; decide)⟩
        · rename_i hi
          have N := hk.N
          have hp' : 2 ≤ σ.ph ∧ σ.ph ≤ 4 := by omega
          obtain ⟨b1, _⟩ := unit3 (h.gd (by omega)) (M.cd h (by omega)) hk.c.1 (by omega) (flo_at σ.x) (u := ⟨σ.s, σ.p⟩) (M.i3 h hp') (h.i3 hp').2 (by simpa [Cy.idle] using hi) (z := σ.ts k) rfl
          exact ⟨D, M.s, M.t, i3_m b1, M.g, M.r, M.b, M.f, fun e => absurd e (by show ¬ σ.ph = 5; omega)⟩
      · rw [if_neg h3] at e ⊢
        by_cases h5 : σ.ph = 5
        · rw [if_pos h5] at e ⊢
          exact ⟨_, (M.u5 h hk h5).1 (by omega)⟩
        · rw [if_neg h5]
          exact ⟨D, M⟩
    | made y a n _ N => exact ⟨D, (M.made h N F.lt).1⟩
    | madep t y a n _ N t8 hl hr =>
      obtain ⟨M1, M2⟩ := M.made h N F.lt
      exact ⟨D, M1.pushed fun _ => M2⟩
    | push t v _ t8 hl hc hm hr => exact ⟨D, M.pushed fun e => M.rea h (hm e).2⟩
    | pop t _ => exact ⟨D, M.popped⟩
    | write t a i v u _ ht hl ha hv hf => exact ⟨D, M.wrote h ha hv hf (by omega)⟩
theorem Did.ended (H : Did k σ kd τ) (hc : σ.cy < τ.cy) : τ.ph ≤ 1 := by
  have ld : ∀ ρ : Cy, ρ.cy = σ.cy → (ρ.lead k).cy = σ.cy := fun ρ e => by rw [(lead_num k ρ).2.2.1]; exact e
  cases H with
  | same => omega
  | beg _ hp => have := ld σ.beg rfl; omega
  | att t _ ht hl => have := ld (σ.att t) rfl; omega
  | det t _ ht hl => have := ld (σ.det k t) rfl; omega
  | poll t _ ht hl hb => have := ld (σ.polled k t) rfl; omega
  | unit _ =>
    unfold Cy.unit at hc ⊢
    split at hc
    · split at hc
      · have := ld σ.to4 rfl; omega
      · have : σ.cy < σ.cy := hc; omega
    · rename_i h3
      rw [if_neg h3]
      split at hc
      · rename_i h5
        rw [if_pos h5]
        have hc : σ.cy < (if σ.q + 1 = k.N then σ.cy + 1 else σ.cy) := hc
        show (if σ.q + 1 = k.N then 0 else 5) ≤ 1
        split at hc
        · rename_i e; rw [if_pos e]; decide
        · omega
      · omega
  | made y a n _ N => have : σ.cy < σ.cy := hc; omega
  | madep t y a n _ N t8 hl hr => have : σ.cy < σ.cy := hc; omega
  | push t v _ t8 hl hc' hm hr => have : σ.cy < σ.cy := hc; omega
  | pop t _ => have : σ.cy < σ.cy := hc; omega
  | write t a i v u _ ht hl ha hv hf => have : σ.cy < σ.cy := hc; omega
end
end Go.Proofs.YtkgdcgmbapchcaaGreatDoor.cy
