/- Texts that this claim stands on. -/
import Derived.Test.YtkgdcgmbapchcaaGreatDoorPCzM
namespace Go.Proofs.YtkgdcgmbapchcaaGreatDoor.cy
open Go.ChangeShapes Go.WideShapes Go.ChangeAt Go.RowKit gen calls cls geos ce st sh
set_option linter.unusedVariables false
set_option maxHeartbeats 4000000
set_option maxRecDepth 100000
section
variable {k : Kn} {σ τ : Cy} {x y : Hs} {a n : Nat} {t : Nat}
inductive Rea (k : Kn) (σ : Cy) : Int → Prop
  | gl : Rea k σ k.gl
  | rt {t : Nat} {a : Int} : (2, a) ∈ σ.rt.getD t [] → Rea k σ a
  | fd {b a : Int} {j : Nat} : Rea k σ b → (tc.fls σ.x b)[j]? = some (2, a) → Rea k σ a
theorem Rea.good (h : Inv k σ) {a : Int} (r : Rea k σ a) : σ.good a := by
  induction r with
  | gl => exact h.glg
  | rt hr => exact h.rtg _ _ hr
  | fd _ hj ih => exact h.cl _ ih _ _ hj
def Cy.my (σ : Cy) (k : Kn) (t : Nat) (a : Int) : Prop := σ.may t a ∧ Rea k σ a
theorem Inv.my_gl (h : Inv k σ) (t : Nat) : σ.my k t k.gl := ⟨h.may_gl t, .gl⟩
theorem Inv.my_root (h : Inv k σ) {a : Int} (ha : (2, a) ∈ σ.rt.getD t []) : σ.my k t a := ⟨h.may_root ha, .rt ha⟩
theorem Inv.my_read (h : Inv k σ) {a b : Int} {j : Nat} (hb : σ.my k t b) (hj : (tc.fls σ.x b)[j]? = some (2, a)) : σ.my k t a := ⟨h.may_read hb.1 hj, .fd hb.2 hj⟩
inductive Did (k : Kn) (σ : Cy) (kd : Int) : Cy → Prop
  | same : Did k σ kd σ
  | beg : kd = 1 → σ.ph = 0 → Did k σ kd (σ.beg.lead k)
  | att (t : Nat) : kd = 2 → t < k.n → σ.lv t = false → Did k σ kd ((σ.att t).lead k)
  | det (t : Nat) : kd = 3 → t < k.n → σ.lv t = true → Did k σ kd ((σ.det k t).lead k)
  | poll (t : Nat) : kd = 4 → t < k.n → σ.lv t = true → ep.of σ.th t ≠ σ.e → Did k σ kd ((σ.polled k t).lead k)
  | unit : kd = 5 ∨ 13 < kd → Did k σ kd (σ.unit k)
  | made (y : Hs) (a n : Nat) : kd = 6 ∨ kd = 7 → Nw σ.x y a n → Did k σ kd (σ.made k y a)
  | madep (t : Nat) (y : Hs) (a n : Nat) : kd = 6 ∨ kd = 7 → Nw σ.x y a n → t < 8 → σ.lv t = true → (σ.rt.getD t []).length < 16 → Did k σ kd ((σ.made k y a).pushed t (2, a))
  | push (t : Nat) (v : Va) : kd = 8 ∨ kd = 11 ∨ kd = 13 → t < 8 → σ.lv t = true → wd.chk v.1 v.2 = 0 → (v.1 = 2 → σ.my k t v.2) → (σ.rt.getD t []).length < 16 → Did k σ kd (σ.pushed t v)
  | pop (t : Nat) : kd = 10 → Did k σ kd (σ.popped t)
  | write (t a i : Nat) (v u : Va) : kd = 9 → t < k.n → σ.lv t = true → (2, (a : Int)) ∈ σ.rt.getD t [] → v ∈ σ.rt.getD t [] → fget σ.x a i = some u → Did k σ kd (σ.wrote t a i v)
theorem Stl.of (S : Stl σ) (h1 : τ.ph = σ.ph) (h2 : τ.ag = σ.ag) : Stl τ := ⟨fun h => by rw [h2]; exact S.y (by rwa [h1] at h), fun h => by rw [h2]; exact S.n (by rwa [h1] at h)⟩
theorem tk_2048 (V : st.Iv y) (hk : y.ks.length ≤ 64) {a : Int} (ha : a ∈ y.tk) : 0 ≤ a ∧ a < 2048 := by
  have h1 := ph.tk_range V ha
  have h2 := bz_in V.ok ha
  have h3 := bz_pos V.ok ha
  omega
theorem chk_ref {a : Int} (h : 0 ≤ a ∧ a < 2048) : wd.chk 2 a = 0 := by
  unfold wd.chk
  rw [if_neg (by omega), if_neg (by omega)]
theorem getD_set1 (xs : List Int) (m l : Nat) (v d : Int) : (xs.set m v).getD l d = if m = l ∧ m < xs.length then v else xs.getD l d := by
  rw [List.getD_eq_getElem?_getD, List.getElem?_set, List.getD_eq_getElem?_getD]
  by_cases e : m = l
  · subst e
    by_cases hl : m < xs.length
    · rw [if_pos rfl, if_pos hl, if_pos ⟨rfl, hl⟩]; rfl
    · rw [if_pos rfl, if_neg hl, if_neg (fun h => hl h.2), List.getElem?_eq_none (by omega)]
  · rw [if_neg e, if_neg (fun h => e h.1)]
theorem notes_ph (h : σ.notes t = true) : 1 ≤ σ.ph ∧ σ.ph ≤ 4 := by
  unfold Cy.notes Cy.keeps at h
  simp only [Bool.or_eq_true, Bool.and_eq_true, decide_eq_true_eq] at h
  omega
theorem notes_of (h : 2 ≤ σ.ph ∧ σ.ph ≤ 4) : σ.notes t = true := by
  unfold Cy.notes Cy.keeps
  simp [h.1, h.2]
theorem white_tk {v : Va} (h : σ.white v = true) : v.2 ∈ σ.x.tk := by
  unfold Cy.white at h
  simp only [Bool.and_eq_true, decide_eq_true_eq] at h
  exact h.1.2
theorem Inv.wrote (h : Inv k σ) {a i : Nat} {v u : Va} (ht : t < k.n) (hl : σ.lv t = true) (hv : v.1 = 2 → (2, v.2) ∈ σ.rt.getD t []) (hc : wd.chk v.1 v.2 = 0) (hf : fget σ.x a i = some u) (s8 : σ.x.cnt < 1099511627776) : Inv k (σ.wrote t a i v) := by
  obtain ⟨j, hj, ha, hju⟩ := fget_some hf
  obtain rfl : i = j := by omega
  obtain ⟨A, s, n, e1, h1, h2, h3, h4, _⟩ := ob_at h.iv s8 ha
  obtain rfl : a = A := by omega
  have hi := (List.getElem?_eq_some_iff.1 hju).1
  have wf := st.wd_fits v.1 v.2
  have gu : (tc.fls σ.x a).getD i (0, 0) = u := by rw [List.getD_eq_getElem?_getD, hju]; rfl
  obtain ⟨V, FL⟩ := fls_stored h.iv h1 h2 (by omega : i < n) wf h3
  obtain ⟨b1, b2, b3, _⟩ := wd.wd_back hc
  have rv : tc.rdv (wd.wd v.1 v.2) = v := by unfold tc.rdv; rw [b1, b2]
  rw [rv] at FL
  obtain ⟨B, hB⟩ : ∃ B, B = (if σ.notes t = true ∧ σ.white u = true then σ.bf.set t (putb (σ.bf.getD t []) u.2) else σ.bf) := ⟨_, rfl⟩
  have e : σ.wrote t a i v = { { σ with bf := B } with x := σ.x.stored (a + 1 + i) (wd.wd v.1 v.2) } := by unfold Cy.wrote; rw [gu, hB]
  rw [e]
  have I1 : Inv k { σ with bf := B } := by
    rw [hB]
    split
    · rename_i hn
      exact h.note ht hl (notes_ph hn.1) (white_tk hn.2)
    · exact h
  have ln : ∀ b ∈ σ.x.tk, (tc.fls (σ.x.stored (a + 1 + i) (wd.wd v.1 v.2)) b).length = (tc.fls σ.x b).length := fun b hb => by
    rw [FL b hb]
    split
    · rename_i e; subst e; exact List.length_set
    · rfl
  refine I1.field (t := t) (a := a) (i := i) (v := v) V (fun b hb j hj => ?_) rfl rfl rfl ha FL hv (fun hp c hcc hw => ?_)
  · rw [ln b hb] at hj
    show wd.rb ((σ.x.xs.set (a + 1 + i) (wd.wd v.1 v.2)).getD (b.toNat + 1 + j) 0) = true
    rw [getD_set1]
    split
    · exact b3
    · exact h.wk b hb j hj
  · obtain rfl : u = (2, c) := by
      have := hju.symm.trans hcc
      injection this
    have h5 : σ.ph ≠ 5 := by have := hp.2; show σ.ph ≠ 5; have : σ.ph ≤ 4 := hp.2; omega
    have ct : c ∈ σ.x.tk := (h.cl a (good_of h5 ha) i c hju).1
    have hwh : σ.white (2, c) = true := by
      unfold Cy.white
      rw [show isb σ.s.ws c = false from hw]
      simp [ct]
    refine ⟨t, ?_⟩
    show c ∈ B.getD t []
    rw [hB, if_pos ⟨notes_of hp, hwh⟩, getD_set (by rw [h.bfl]; exact ht), if_pos rfl]
    exact putb_mem.2 (.inr rfl)
theorem Did.inv {kd : Int} (H : Did k σ kd τ) (h : Inv k σ) (S : Stl σ) (hk : Kok k) (s8 : σ.x.cnt + 1 < 1099511627776) : Inv k τ ∧ Stl τ := by
  cases H with
  | same => exact ⟨h, S⟩
  | beg _ hp => exact h.begun hk hp
  | att t _ ht hl =>
    have I := h.att ht hl
    have S2 := att_stl h S ht hl
    rw [lead_stl S2 I.p5]
    exact ⟨I, S2⟩
  | det t _ ht hl => exact h.gone hk S ht hl
  | poll t _ ht hl hb => exact h.poll hk S ht hb hl
  | unit _ => exact h.unit hk S
  | made y a n _ N => exact ⟨(h.nw N 0).1, S.of rfl rfl⟩
  | madep t y a n _ N t8 hl hr =>
    obtain ⟨I, M⟩ := h.nw N t
    refine ⟨I.pushed t8 hl (chk_ref (tk_2048 N.iv (by have := hk.N; have := I.xN; show (σ.made k y a).x.ks.length ≤ 64; omega) ((N.tk a).2 (.inr rfl)))) (fun _ => M) hr, S.of rfl rfl⟩
  | push t v _ t8 hl hc hm hr => exact ⟨h.pushed t8 hl hc (fun e => (hm e).1) hr, S.of rfl rfl⟩
  | pop t _ => exact ⟨h.popped t, S.of rfl rfl⟩
  | write t a i v u _ ht hl ha hv hf =>
    have hc := (h.rtr t).2 v hv
    exact ⟨h.wrote ht hl (fun e => by obtain ⟨v1, v2⟩ := v; dsimp only at e; subst e; exact hv) hc hf (by omega), S.of rfl rfl⟩
end
end Go.Proofs.YtkgdcgmbapchcaaGreatDoor.cy
namespace Go.Proofs.YtkgdcgmbapchcaaGreatDoor.cy
open Go.ChangeShapes Go.WideShapes Go.ChangeAt Go.RowKit gen calls cls geos ce st sh
set_option linter.unusedVariables false
set_option maxHeartbeats 4000000
set_option maxRecDepth 100000
section
variable {w0 W w w1 w' : World} {k : Kn} {c : Cb} {L0 K0 L K M : List Nat} {σ τ : Cy} {y : Hs} {a n : Nat} {kd : Int} {F : Nat} {args : Array Value} {v : Value}
def Dx (w0 : World) (k : Kn) (c : Cb) (L0 K0 : List Nat) (σ : Cy) (kd : Int) (w : World) : Prop := ∃ τ, Did k σ kd τ ∧ Cx w0 k c L0 K0 τ w
structure Al (k : Kn) (σ : Cy) : Prop where
  hi : Inv k σ
  st : Stl σ
  hk : Kok k
  bd : Bd σ
  s8 : σ.x.cnt + 1 < 1099511627776
theorem Al.h4 (A : Al k σ) : σ.ph = 4 → -1 ≤ σ.p ∧ σ.p < k.N := fun h => A.hi.pr (by omega)
theorem did (C : Calls Tryz.prog F args W fun e w' => e = .returned v ∧ Cx w0 k c L0 K0 τ w') (h : Did k σ kd τ) : Calls Tryz.prog F args W fun e w' => (∃ v, e = .returned v) ∧ Dx w0 k c L0 K0 σ kd w' :=
  C.mono fun e w' ⟨h1, h2⟩ => ⟨⟨_, h1⟩, _, h, h2⟩
theorem begin_do (X : Cx w0 k c L0 K0 σ W) (A : Al k σ) : Calls Tryz.prog 33 #[.pointer (some ⟨c.B, 0, none⟩)] W fun e w' => (∃ v, e = .returned v) ∧ Dx w0 k c L0 K0 σ 1 w' := by
  by_cases hp : σ.ph = 0
  · exact did (X.call fun L K h => Begin_yes h hp A.bd.e) (.beg rfl hp)
  · exact did (X.same fun L K h => Begin_no h hp) .same
theorem attach_do (X : Cx w0 k c L0 K0 σ W) (A : Al k σ) (t : Int) : Calls Tryz.prog 34 #[.pointer (some ⟨c.B, 0, none⟩), .int .i64 t] W fun e w' => (∃ v, e = .returned v) ∧ Dx w0 k c L0 K0 σ 2 w' := by
  have hr := of_le A.hi.thr
  by_cases hn : ep.hs σ.th t = false ∨ 0 ≤ ep.of σ.th t
  · have := X.call fun L K h => Attach_no h t hn A.h4 A.bd.e A.hi.p5
    rw [lead_stl A.st A.hi.p5] at this
    exact did this .same
  · obtain ⟨n1, n2⟩ := not_or.1 hn
    have n1 : ep.hs σ.th t = true := by simpa using n1
    unfold ep.hs at n1
    have n1 := of_decide_eq_true n1
    obtain ⟨j, rfl⟩ : ∃ j : Nat, t = j := ⟨t.toNat, by omega⟩
    have hj : j < σ.th.length := by omega
    have hm : ep.of σ.th j = -1 := by
      rw [ep.of_nat] at n2 ⊢
      have := (A.hi.thr _ (List.getElem_mem hj)).1
      rw [List.getD_eq_getElem?_getD, List.getElem?_eq_getElem hj] at n2 ⊢
      show σ.th[j] = -1
      have n2 : ¬ 0 ≤ σ.th[j] := n2
      omega
    exact did (X.call fun L K h => Attach_yes h j hj hm A.h4 A.bd.e A.hi.p5) (.att j rfl (by rw [← A.hi.thl]; exact hj) (by unfold Cy.lv; rw [hm]; rfl))
theorem detach_do (X : Cx w0 k c L0 K0 σ W) (A : Al k σ) (t : Int) : Calls Tryz.prog 35 #[.pointer (some ⟨c.B, 0, none⟩), .int .i64 t] W fun e w' => (∃ v, e = .returned v) ∧ Dx w0 k c L0 K0 σ 3 w' := by
  cases hl : σ.lv t with
  | false => exact did (X.same fun L K h => Detach_no h hl) .same
  | true =>
    obtain ⟨j, rfl, hj⟩ := lv_nat hl A.hi
    exact did (X.call fun L K h => Detach_yes h A.hi A.hk hj hl A.bd.e) (.det j rfl hj hl)
theorem poll_do (X : Cx w0 k c L0 K0 σ W) (A : Al k σ) (t : Int) : Calls Tryz.prog 27 #[.pointer (some ⟨c.B, 0, none⟩), .int .i64 t] W fun e w' => (∃ v, e = .returned v) ∧ Dx w0 k c L0 K0 σ 4 w' := by
  by_cases hn : ep.of σ.th t < 0 ∨ ep.of σ.th t = (σ.e : Int)
  · exact did (X.tell fun L K h => Poll_no h hn) .same
  · have hl : σ.lv t = true := by unfold Cy.lv ep.lv; exact decide_eq_true (by omega)
    obtain ⟨j, rfl, hj⟩ := lv_nat hl A.hi
    have := of_le A.hi.thr j
    exact did (X.call fun L K h => Poll_yes h A.hi A.hk hj (by omega) (by omega) A.bd.e) (.poll j rfl hj hl (by omega))
theorem unit_do (X : Cx w0 k c L0 K0 σ W) (hT : Tb w0 c L0 K0) (A : Al k σ) (h : kd = 5 ∨ 13 < kd) : Calls Tryz.prog 28 #[.pointer (some ⟨c.B, 0, none⟩)] W fun e w' => (∃ v, e = .returned v) ∧ Dx w0 k c L0 K0 σ kd w' :=
  did (X.unit hT A.hi A.hk A.bd) (.unit h)
theorem pop_do (X : Cx w0 k c L0 K0 σ W) (A : Al k σ) (t : Int) : Calls Tryz.prog 29 #[.pointer (some ⟨c.B, 0, none⟩), .int .i64 t] W fun e w' => (∃ v, e = .returned v) ∧ Dx w0 k c L0 K0 σ 10 w' := by
  cases hl : σ.lv t with
  | false => exact did (X.call fun L K h => Pop_dead h hl) .same
  | true =>
    obtain ⟨j, rfl, hj⟩ := lv_nat hl A.hi
    have hk := A.hk.n
    by_cases hr : σ.rt.getD j [] = []
    · exact did (X.call fun L K h => Pop_none h (by omega) hl hr) .same
    · obtain ⟨m, v, e⟩ : ∃ m v, σ.rt.getD j [] = m ++ [v] := (List.eq_nil_or_concat (σ.rt.getD j [])).elim (fun e => absurd e hr) (fun ⟨m, v, e⟩ => ⟨m, v, by simpa using e⟩)
      obtain ⟨v1, v2⟩ := v
      exact did (X.call fun L K h => Pop_yes h (by omega) hl e) (.pop j rfl)
theorem tks_of (A : Al k σ) {v : Va} (h : σ.tks v = true) : wd.chk v.1 v.2 = 0 := by
  unfold Cy.tks at h
  simp only [Bool.and_eq_true, decide_eq_true_eq] at h
  exact h.1
theorem push_do (X : Cx w0 k c L0 K0 σ W) (A : Al k σ) (h : kd = 8 ∨ kd = 11 ∨ kd = 13) (t : Int) {v1 v2 : Int} (hm : ∀ j : Nat, t = j → σ.lv j = true → v1 = 2 → σ.my k j v2) : Calls Tryz.prog 36 #[.pointer (some ⟨c.B, 0, none⟩), .int .i64 t, .agg #[.int .i64 v1, .int .i64 v2]] W fun e w' => (∃ v, e = .returned v) ∧ Dx w0 k c L0 K0 σ kd w' := by
  cases htk : σ.tks (v1, v2) with
  | false => exact did (X.tell fun L K h => Push_no h t htk) .same
  | true =>
    cases hl : σ.lv t with
    | false => exact did (X.call fun L K h => Push_dead h hl htk) .same
    | true =>
      obtain ⟨j, rfl, hj⟩ := lv_nat hl A.hi
      have hk := A.hk.n
      have := (A.hi.rtr j).1
      by_cases hr : (σ.rt.getD j []).length = 16
      · exact did (X.call fun L K h => Push_full h (by omega) hl htk hr) .same
      · exact did (X.call fun L K h => Push_yes h (by omega) hl htk (by omega)) (.push j (v1, v2) h (by omega) hl (tks_of A htk) (hm j rfl hl) (by omega))
theorem write_do (X : Cx w0 k c L0 K0 σ W) (A : Al k σ) (t : Int) {a i v1 v2 : Int} (hm : ∀ j : Nat, t = j → σ.lv j = true → (2, a) ∈ σ.rt.getD j [] ∧ (v1, v2) ∈ σ.rt.getD j []) : Calls Tryz.prog 37 #[.pointer (some ⟨c.B, 0, none⟩), .int .i64 t, .int .i64 a, .int .i64 i, .agg #[.int .i64 v1, .int .i64 v2]] W fun e w' => (∃ v, e = .returned v) ∧ Dx w0 k c L0 K0 σ 9 w' := by
  cases hf : fget σ.x a i with
  | none => exact did (X.tell fun L K h => Write_none h A.hi.wk t hf) .same
  | some u =>
    cases hl : σ.lv t with
    | false => exact did (X.tell fun L K h => Write_dead h A.hi.wk hf hl) .same
    | true =>
      cases htk : σ.tks (v1, v2) with
      | false => exact did (X.tell fun L K h => Write_not h A.hi.wk hf hl htk) .same
      | true =>
        obtain ⟨j, rfl, hj⟩ := lv_nat hl A.hi
        obtain ⟨i', rfl, ha, _⟩ := fget_some hf
        have h0 := (A.hi.rg ha).1
        obtain ⟨a', rfl⟩ : ∃ a' : Nat, a = a' := ⟨a.toNat, by omega⟩
        obtain ⟨m1, m2⟩ := hm j rfl hl
        exact did (X.call fun L K h => Write_yes h A.hi hj hf hl htk) (.write j a' i' (v1, v2) u rfl hj hl m1 m2 hf)
theorem slow_do (A : Al k σ) (t n : Int) : (∃ z, z ≠ 0 ∧ ∀ (w0 W : World) (c : Cb) (L0 K0 : List Nat), Cx w0 k c L0 K0 σ W → Calls Tryz.prog 31 #[.pointer (some ⟨c.B, 0, none⟩), .int .i64 t, .int .i64 n] W fun e w' => e = rE 0 z ∧ Cx w0 k c L0 K0 σ w') ∨ (∃ (j m a : Nat) (y : Hs), t = j ∧ j < k.n ∧ σ.lv j = true ∧ Nw σ.x y a m ∧ ∀ (w0 W : World) (c : Cb) (L0 K0 : List Nat), Cx w0 k c L0 K0 σ W → Calls Tryz.prog 31 #[.pointer (some ⟨c.B, 0, none⟩), .int .i64 t, .int .i64 n] W fun e w' => e = rE a 0 ∧ Cx w0 k c L0 K0 (σ.made k y a) w') := by
  have hT := A.hi.xT
  have hk := A.hk.n
  cases hl : σ.lv t with
  | false => exact .inl ⟨4, by decide, fun w0 W c L0 K0 X => X.any (Q := fun e w' => e = rE 0 4) (τ := σ) fun L K h => (Slow_dead h hl n).mono fun e w' ⟨h1, h2⟩ => ⟨h1, h2 ▸ Cx.start h⟩⟩
  | true =>
    obtain ⟨j, rfl, hj⟩ := lv_nat hl A.hi
    have tT : (0 : Int) ≤ (j : Int) ∧ (j : Int) < (σ.x.T : Int) := ⟨by omega, by omega⟩
    by_cases hn : 0 ≤ n ∧ n ≤ 127
    · obtain ⟨m, rfl⟩ : ∃ m : Nat, n = m := ⟨n.toNat, by omega⟩
      rcases Slo_dec A.hi.iv (t := j) (n := m) (by omega) tT with ⟨y, a, S⟩ | S
      · have N := Slo_nw A.hi.iv (by have := A.s8; omega) tT S
        exact .inr ⟨j, m, a, y, rfl, hj, hl, N, fun w0 W c L0 K0 X => X.any (Q := fun e w' => e = rE a 0) fun L K h => Slow_yes h A.hi hl tT.2 A.s8 S⟩
      · exact .inl ⟨10, by decide, fun w0 W c L0 K0 X => X.any (Q := fun e w' => e = rE 0 10) (τ := σ) fun L K h => (Slow_err h hl (z := 10) (by decide) fun W hg => Sno_prog (h.new hg).tw.sr A.hi.iv tT S).mono fun e w' ⟨h1, h2⟩ => ⟨h1, (Cx.start h).new h2⟩⟩
    · exact .inl ⟨4, by decide, fun w0 W c L0 K0 X => X.any (Q := fun e w' => e = rE 0 4) (τ := σ) fun L K h => (Slow_err h hl (z := 4) (by decide) fun W hg => Slow_range (h.new hg).tw.sr fun e => hn e.1).mono fun e w' ⟨h1, h2⟩ => ⟨h1, (Cx.start h).new h2⟩⟩
theorem Dx.base (hg : w.grownBy w1 none) (h : Dx w1 k c L0 K0 σ kd W) : Dx w k c L0 K0 σ kd W := by
  obtain ⟨τ, h1, h2⟩ := h
  exact ⟨τ, h1, h2.base hg⟩
theorem Dx.gro (h : Dx w k c L0 K0 σ kd W) : Gr (al c L0 K0) w W := by
  obtain ⟨τ, h1, h2⟩ := h
  exact h2.gro
theorem Dx.new (h : Dx w k c L0 K0 σ kd W) (hg : W.grownBy w' none) : Dx w k c L0 K0 σ kd w' := by
  obtain ⟨τ, h1, h2⟩ := h
  exact ⟨τ, h1, h2.new hg⟩
theorem Tb.new (h : Tb w c L K) (hg : w.grownBy w' none) : Tb w' c L K := ⟨h.t.kept hg (by simp), h.n⟩
theorem pushm_do (A : Al k σ) (h : kd = 6 ∨ kd = 7) {j m a : Nat} {y : Hs} (hj : j < k.n) (hl : σ.lv j = true) (N : Nw σ.x y a m) (X : Cx w0 k c L0 K0 (σ.made k y a) W) : Calls Tryz.prog 36 #[.pointer (some ⟨c.B, 0, none⟩), .int .i64 j, .agg #[.int .i64 2, .int .i64 a]] W fun e w' => (∃ v, e = .returned v) ∧ Dx w0 k c L0 K0 σ kd w' := by
  have hk := A.hk.n
  have hN := A.hk.N
  have hx := A.hi.xN
  have hks := N.ks
  have hla : (σ.made k y a).lv j = true := hl
  have htk : (σ.made k y a).tks (2, (a : Int)) = true := by
    unfold Cy.tks
    rw [decide_eq_true (chk_ref (tk_2048 N.iv (by omega) ((N.tk a).2 (.inr rfl))))]
    simp [show (a : Int) ∈ (σ.made k y a).x.tk from (N.tk a).2 (.inr rfl)]
  have := (A.hi.rtr j).1
  by_cases hr : (σ.rt.getD j []).length = 16
  · exact did (X.call fun L K h => Push_full h (by omega) hla htk hr) (.made y a m h N)
  · exact did (X.call fun L K h => Push_yes h (by omega) hla htk (by show (σ.rt.getD j []).length < 16; omega)) (.madep j y a m h N (by omega) hl (by omega))
end
end Go.Proofs.YtkgdcgmbapchcaaGreatDoor.cy
