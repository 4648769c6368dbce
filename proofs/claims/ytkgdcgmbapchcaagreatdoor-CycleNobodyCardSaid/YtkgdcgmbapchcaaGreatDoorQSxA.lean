/- Texts that this claim stands on. -/
import Derived.Test.YtkgdcgmbapchcaaGreatDoorQTcX
import Derived.Test.YtkgdcgmbapchcaaGreatDoorQBoX
import Derived.Test.YtkgdcgmbapchcaaGreatDoorQCyX
import Derived.Test.YtkgdcgmbapchcaaGreatDoorQEpX
import Derived.Test.YtkgdcgmbapchcaaGreatDoorQBfX
import Derived.Test.YtkgdcgmbapchcaaGreatDoorQRoX
namespace Go.Proofs.YtkgdcgmbapchcaaGreatDoor.sw
open Go.ChangeShapes Go.WideShapes Go.ChangeAt Go.RowKit gen calls cls geos ce st sh
open ph (tk_range)
set_option linter.unusedVariables false
set_option maxHeartbeats 4000000
set_option maxRecDepth 100000
theorem fine_rmd {ws : List Nat} (h : bm.Fine 2048 ws) (z : Int) : bm.Fine 2048 (rmd ws z) := by
  rcases sh.ways ws z with ⟨h1, h2, _, _, h5⟩ | ⟨i, rfl, hi, ⟨hb, h2, _, _, h5⟩ | ⟨hb, h2, _, _, h5⟩⟩
  · rw [h5]; exact h
  · rw [h5]; exact h.cut hi
  · rw [h5]; exact h
theorem isb_rmd {ws : List Nat} (h : bm.Fine 2048 ws) (z a : Int) : isb (rmd ws z) a = (isb ws a && decide (a ≠ z)) := by
  rcases sh.ways ws z with ⟨h1, h2, _, _, h5⟩ | ⟨i, rfl, hi, ⟨hb, h2, _, _, h5⟩ | ⟨hb, h2, _, _, h5⟩⟩
  · rw [h5]
    by_cases e : a = z
    · subst e; rw [h2]; rfl
    · simp [e]
  · rw [h5]
    unfold isb
    rw [bm.bit_cut _ _ _ (by have := h.1; omega)]
    by_cases e : a = (i : Int)
    · subst e; simp
    · by_cases h0 : 0 ≤ a
      · have : ¬ a.toNat = i := by omega
        simp [e, this]
      · simp [h0]
  · rw [h5]
    by_cases e : a = (i : Int)
    · subst e; rw [h2]; rfl
    · simp [e]
def gn (x : Hs) (a : Nat) : Hs := if pg.kind x.ks (a / 32 : Nat) = 5 then x.goneL a (a / 32) else x.goneC a (a / 32) ((a : Int) % 32 / sz (pg.kind x.ks (a / 32 : Nat)))
section
variable {w w' : World} {I : Ids} {x y : Hs} {a : Nat}
theorem gn_tk : (gn x a).tk = x.tk.filter fun y => decide (y ≠ (a : Int)) := by unfold gn; split <;> rfl
theorem gn_own : (gn x a).own = x.own := by unfold gn; split <;> rfl
theorem gn_T : (gn x a).T = x.T := by unfold gn; split <;> rfl
theorem gn_cnt : (gn x a).cnt = x.cnt := by unfold gn; split <;> rfl
theorem kinds_at (O : Ok x.ks x.xs x.cs x.tk x.fr) (ha : (a : Int) ∈ x.tk) : a < 2048 ∧ a / 32 < 64 ∧ a / 32 < x.ks.length ∧ (a : Int) / 32 = (a / 32 : Nat) ∧ (pg.kind x.ks (a / 32 : Nat) = 5 ∨ (1 ≤ pg.kind x.ks (a / 32 : Nat) ∧ pg.kind x.ks (a / 32 : Nat) ≤ 4)) := by
  have h1 := bz_in O ha
  have h2 := bz_pos O ha
  have h3 := O.len
  have h4 := O.few
  have e : (a : Int) / 32 = ((a / 32 : Nat) : Int) := by omega
  refine ⟨by omega, by omega, by omega, e, ?_⟩
  rcases (O.tkn a).1 ha with ⟨k1, _⟩ | ⟨k1, _, _⟩
  · rw [e] at k1; exact .inl k1
  · rw [e] at k1; exact .inr k1
theorem iv_gn (V : Iv x) (ha : (a : Int) ∈ x.tk) : Iv (gn x a) ∧ Kp (fun b => b ≠ a) x (gn x a) := by
  obtain ⟨_, _, _, e, hk | hk⟩ := kinds_at V.ok ha
  · unfold gn
    rw [if_pos hk]
    exact V.goneL ha e hk
  · unfold gn
    rw [if_neg (by omega)]
    exact V.goneC ha e hk rfl
theorem Free_gn (H : Sr w I x) (ha : (a : Int) ∈ x.tk) : Calls Tryz.prog 214 #[.pointer (some ⟨I.S, 0, none⟩), .int .i64 a] w (Done I (.bool true) (gn x a) w) := by
  obtain ⟨A, P, e, h1, h2, h3, h4, ⟨hk, hm⟩ | ⟨hk, hm⟩⟩ := at_tk H ha
  · obtain rfl : a = A := by omega
    obtain rfl : a / 32 = P := by omega
    unfold gn
    rw [if_pos hk]
    exact Free_large H ha h2 h1 hk
  · obtain rfl : a = A := by omega
    obtain rfl : a / 32 = P := by omega
    unfold gn
    rw [if_neg (by omega)]
    exact Free_cell H ha h2 h1 h3 hk hm rfl
def trimd (x : Hs) (p : Int) : Hs := if (ca.owner x.own p).1 = -1 then (dstep (x, 0) p).1 else x
def trimb (x : Hs) (p : Int) : Bool := decide ((ca.owner x.own p).1 = -1) && dropb x p
theorem Trim_tr (H : Sr w I x) (p : Int) : Calls Tryz.prog 147 #[.pointer (some ⟨I.S, 0, none⟩), .int .i64 p] w (Done I (.bool (trimb x p)) (trimd x p) w) := by
  by_cases ho : (ca.owner x.own p).1 = -1
  · unfold trimd trimb
    rw [if_pos ho, decide_eq_true ho, Bool.true_and]
    exact Trim_any H ho
  · unfold trimd trimb
    rw [if_neg ho, decide_eq_false ho, Bool.false_and]
    exact (Trim_own H ho).mono fun e w' ⟨h1, h2⟩ => ⟨h1, H.new h2, .new h2⟩
theorem dstep_tk (x : Hs) (k : Nat) (p : Int) : (dstep (x, k) p).1.tk = x.tk := by unfold dstep; split <;> rfl
theorem dstep_len (x : Hs) (k : Nat) (p : Int) : (dstep (x, k) p).1.ks.length = x.ks.length := by
  unfold dstep
  split
  · show (x.ks.set p.toNat 0).length = _
    rw [List.length_set]
  · rfl
theorem trimd_tk (x : Hs) (p : Int) : (trimd x p).tk = x.tk := by
  unfold trimd
  split
  · exact dstep_tk _ _ _
  · rfl
theorem trimd_len (x : Hs) (p : Int) : (trimd x p).ks.length = x.ks.length := by
  unfold trimd
  split
  · exact dstep_len _ _ _
  · rfl
theorem gn_len : (gn x a).ks.length = x.ks.length := by
  unfold gn
  split
  · show (pg.fillN _ _ _ _).length = _
    rw [pg.fillN_length]
  · rfl
theorem iv_trimd (V : Iv x) (p : Int) : Iv (trimd x p) ∧ Kp (fun _ => True) x (trimd x p) ∧ (trimd x p).own = x.own ∧ (trimd x p).cnt = x.cnt ∧ (trimd x p).T = x.T := by
  unfold trimd
  split
  · rename_i ho
    exact V.dstep 0 ((ca.owner_neg V.good p).1 (by omega))
  · exact ⟨V, Keep.refl _ _ _ _, rfl, rfl, rfl⟩
structure Sz where
  x : Hs
  s : Ps
  f : Nat
def pass (z : Sz) (a : Int) : Sz := if isb z.s.ws a = true then ⟨z.x, z.s.clear a, z.f⟩ else ⟨gn z.x a.toNat, z.s, z.f + 1⟩
def passes (z : Sz) (l : List Int) : Sz := l.foldl pass z
theorem passes_add (z : Sz) (l : List Int) (a : Int) : passes z (l ++ [a]) = pass (passes z l) a := by simp [passes]
def unit (z : Sz) (p : Int) : Sz := ⟨trimd (passes z (tc.inp z.x p)).x p, (passes z (tc.inp z.x p)).s, (passes z (tc.inp z.x p)).f⟩
structure Pz (z : Sz) (l : List Int) (y : Sz) : Prop where
  iv : Iv y.x
  own : y.x.own = z.x.own
  T : y.x.T = z.x.T
  cnt : y.x.cnt = z.x.cnt
  len : y.x.ks.length = z.x.ks.length
  tk : y.x.tk = z.x.tk.filter fun b => decide (b ∉ l) || isb z.s.ws b
  fi : bm.Fine 2048 y.s.ws
  mr : ∀ b, isb y.s.ws b = (isb z.s.ws b && decide (b ∉ l))
  m : y.s.m = z.s.m
  b : y.s.b = z.s.b
  f : y.f = z.f + (l.filter fun b => !isb z.s.ws b).length
theorem pz_all (l : List Int) : ∀ z : Sz, Iv z.x → bm.Fine 2048 z.s.ws → l.Nodup → (∀ a ∈ l, a ∈ z.x.tk) → Pz z l (passes z l) := by
  induction l with
  | nil => exact fun z V F _ _ => ⟨V, rfl, rfl, rfl, rfl, (List.filter_eq_self.2 (by simp)).symm, F, fun b => by simp [passes], rfl, rfl, rfl⟩
  | cons a l ih =>
    intro z V F nd hm
    obtain ⟨n1, n2⟩ := List.nodup_cons.1 nd
    have ha := hm a (by simp)
    have ra := tk_range V ha
    obtain ⟨A, rfl⟩ : ∃ A : Nat, a = A := ⟨a.toNat, by omega⟩
    have e0 : passes z ((A : Int) :: l) = passes (pass z A) l := rfl
    rw [e0]
    by_cases hb : isb z.s.ws A = true
    · have e1 : pass z A = ⟨z.x, z.s.clear A, z.f⟩ := if_pos hb
      rw [e1]
      have P := ih ⟨z.x, z.s.clear A, z.f⟩ V (fine_rmd F _) n2 (fun b h => hm b (by simp [h]))
      refine ⟨P.iv, P.own, P.T, P.cnt, P.len, P.tk.trans (List.filter_congr fun b hb' => ?_), P.fi, fun b => ?_, P.m, P.b, ?_⟩
      · show (decide (b ∉ l) || isb (rmd z.s.ws A) b) = _
        rw [isb_rmd F]
        by_cases e : b = (A : Int)
        · subst e; simp [n1, hb]
        · simp [e]
      · rw [P.mr b]
        show (isb (rmd z.s.ws A) b && _) = _
        rw [isb_rmd F]
        by_cases e : b = (A : Int)
        · subst e; simp
        · simp [e]
      · rw [P.f, List.filter_cons_of_neg (by simp [hb])]
        show z.f + (l.filter fun b => !isb (rmd z.s.ws A) b).length = _
        congr 2
        exact List.filter_congr fun b h => by
          rw [isb_rmd F]
          have : b ≠ (A : Int) := fun e => n1 (e ▸ h)
          simp [this]
    · have e1 : pass z A = ⟨gn z.x A, z.s, z.f + 1⟩ := by unfold pass; rw [if_neg hb, Int.toNat_natCast]
      rw [e1]
      obtain ⟨V1, K1⟩ := iv_gn V ha
      have P := ih ⟨gn z.x A, z.s, z.f + 1⟩ V1 F n2 (fun b h => by
        show b ∈ (gn z.x A).tk
        rw [gn_tk, List.mem_filter]
        exact ⟨hm b (by simp [h]), decide_eq_true (fun e => n1 (e ▸ h))⟩)
      refine ⟨P.iv, P.own.trans gn_own, P.T.trans gn_T, P.cnt.trans gn_cnt, P.len.trans gn_len, P.tk.trans ?_, P.fi, fun b => ?_, P.m, P.b, ?_⟩
      · show (gn z.x A).tk.filter _ = _
        rw [gn_tk, List.filter_filter]
        refine List.filter_congr fun b hb' => ?_
        by_cases e : b = (A : Int)
        · subst e; simp [hb]
        · simp [e]
      · rw [P.mr b]
        show (isb z.s.ws b && _) = _
        by_cases e : b = (A : Int)
        · subst e; simp [hb]
        · simp [e]
      · rw [P.f, List.filter_cons_of_pos (by simp [hb])]
        show z.f + 1 + (l.filter fun b => !isb z.s.ws b).length = _
        rw [List.length_cons]
        omega
theorem tk_nodup (V : Iv x) : x.tk.Nodup := V.ok.up.imp fun h => by omega
theorem inp_nodup (V : Iv x) (p : Int) : (tc.inp x p).Nodup := (tk_nodup V).sublist List.filter_sublist
theorem inp_mem {p b : Int} : b ∈ tc.inp x p ↔ b ∈ x.tk ∧ b / 32 = p := by unfold tc.inp; rw [List.mem_filter]; simp
theorem pz_unit {z : Sz} (V : Iv z.x) (F : bm.Fine 2048 z.s.ws) (p : Int) : Pz z (tc.inp z.x p) (unit z p) := by
  have P := pz_all (tc.inp z.x p) z V F (inp_nodup V p) (fun a h => (inp_mem.1 h).1)
  obtain ⟨V1, _, h1, h2, h3⟩ := iv_trimd P.iv p
  exact ⟨V1, h1.trans P.own, h3.trans P.T, h2.trans P.cnt, (trimd_len _ _).trans P.len, (trimd_tk _ _).trans P.tk, P.fi, P.mr, P.m, P.b, P.f⟩
end
end Go.Proofs.YtkgdcgmbapchcaaGreatDoor.sw
namespace Go.Proofs.YtkgdcgmbapchcaaGreatDoor.sw
open Go.ChangeShapes Go.WideShapes Go.ChangeAt Go.RowKit gen calls cls geos ce st sh ph
set_option linter.unusedVariables false
set_option maxHeartbeats 4000000
set_option maxRecDepth 100000
section
variable {w w' : World} {I : Ids} {x y : Hs} {a : Nat} {own : List ca.Ow} {T : Nat}
end
end Go.Proofs.YtkgdcgmbapchcaaGreatDoor.sw
namespace Go.Proofs.YtkgdcgmbapchcaaGreatDoor.cy
open Go.ChangeShapes Go.WideShapes Go.ChangeAt Go.RowKit gen calls cls geos ce st sh
set_option linter.unusedVariables false
set_option maxHeartbeats 4000000
set_option maxRecDepth 100000
structure Kn where
  N : Nat
  r : Nat
  c : Nat
  n : Nat
  gl : Nat
structure Kok (k : Kn) : Prop where
  N : 2 ≤ k.N ∧ k.N ≤ 64
  r : 1 ≤ k.r ∧ k.r ≤ 256
  c : 1 ≤ k.c ∧ k.c ≤ 16
  n : 1 ≤ k.n ∧ k.n ≤ 8
structure Cy where
  x : Hs
  s : Ps
  p : Int
  q : Nat
  f : Nat
  e : Nat
  th : List Int
  bf : List (List Int)
  rt : List (List Va)
  ph : Nat
  cy : Nat
  un : Nat
def Cy.lv (σ : Cy) (t : Int) : Bool := ep.lv (ep.of σ.th t)
def Cy.ag (σ : Cy) : Bool := ((ep.bh σ.e σ.th).length : Int) == 0
def Cy.n1 (k : Kn) (σ : Cy) : Cy := { σ with bf := List.replicate σ.bf.length [], s := σ.s.shade k.r k.gl, ph := 2, e := σ.e + 1 }
def Cy.n4 (σ : Cy) : Cy := if bf.tot σ.bf = 0 ∧ tc.Ts.idle ⟨σ.s, σ.p⟩ = true then { σ with ph := 5, q := 0, f := 0 } else { σ with ph := 3 }
def Cy.to3 (σ : Cy) : Cy := { σ with ph := 3 }
def Cy.lead (k : Kn) (σ : Cy) : Cy :=
  if σ.ag = true then
    if σ.ph = 1 then (if (σ.n1 k).ag = true then (σ.n1 k).to3 else σ.n1 k)
    else if σ.ph = 2 then σ.to3
    else if σ.ph = 4 then σ.n4
    else σ
  else σ
def Cy.beg (σ : Cy) : Cy := { σ with ph := 1, un := 0, e := σ.e + 1 }
def Cy.att (σ : Cy) (t : Nat) : Cy := { σ with th := σ.th.set t σ.e }
def Cy.ts (k : Kn) (σ : Cy) : tc.Ts := tc.Ts.unit k.r k.N k.c (tc.flo σ.x) (tc.inp σ.x) ⟨σ.s, σ.p⟩
def Cy.u3 (k : Kn) (σ : Cy) : Cy := { σ with s := (σ.ts k).s, p := (σ.ts k).p, un := σ.un + 1 }
def Cy.to4 (σ : Cy) : Cy := { σ with ph := 4, e := σ.e + 1 }
def Cy.sz (σ : Cy) : sw.Sz := sw.unit ⟨σ.x, σ.s, σ.f⟩ σ.q
def Cy.u5 (k : Kn) (σ : Cy) : Cy := { σ with x := σ.sz.x, s := σ.sz.s, f := σ.sz.f, q := σ.q + 1, un := σ.un + 1, ph := if σ.q + 1 = k.N then 0 else 5, cy := if σ.q + 1 = k.N then σ.cy + 1 else σ.cy }
def Cy.idle (σ : Cy) : Bool := tc.Ts.idle ⟨σ.s, σ.p⟩
def Cy.unb (σ : Cy) : Bool := (decide (σ.ph = 3) && !σ.idle) || decide (σ.ph = 5)
def Cy.unit (k : Kn) (σ : Cy) : Cy := if σ.ph = 3 then (if σ.idle = true then σ.to4.lead k else σ.u3 k) else if σ.ph = 5 then σ.u5 k else σ
def Cy.good (σ : Cy) (a : Int) : Prop := a ∈ σ.x.tk ∧ (σ.ph = 5 → isb σ.s.ws a = true ∨ a / 32 < (σ.q : Int))
def Cy.Cov (k : Kn) (σ : Cy) (a : Int) : Prop := a = k.gl ∨ ∃ t : Nat, (3 ≤ σ.ph ∨ ep.of σ.th t = σ.e) ∧ (2, a) ∈ σ.rt.getD t []
def Cy.Bfs (σ : Cy) (a : Int) : Prop := ∃ t : Nat, a ∈ σ.bf.getD t []
def wok (x : Hs) : Prop := ∀ a ∈ x.tk, ∀ j : Nat, j < (tc.fls x a).length → wd.rb (x.xs.getD (a.toNat + 1 + j) 0) = true
structure Inv (k : Kn) (σ : Cy) : Prop where
  iv : st.Iv σ.x
  wk : wok σ.x
  xT : σ.x.T = k.n + 1
  xN : σ.x.ks.length = k.N
  thl : σ.th.length = k.n
  thr : ∀ x ∈ σ.th, -1 ≤ x ∧ x ≤ (σ.e : Int)
  bfl : σ.bf.length = k.n
  bfo : bf.Ok σ.bf
  rtl : σ.rt.length = 8
  rtr : ∀ t : Nat, (σ.rt.getD t []).length ≤ 16 ∧ ∀ v ∈ σ.rt.getD t [], wd.chk v.1 v.2 = 0
  rtd : ∀ t : Nat, σ.rt.getD t [] ≠ [] → σ.lv t = true
  bfd : ∀ t : Nat, σ.bf.getD t [] ≠ [] → σ.lv t = true
  gln : (tc.fls σ.x k.gl).length = 4
  glg : σ.good k.gl
  rtg : ∀ (t : Nat) (a : Int), (2, a) ∈ σ.rt.getD t [] → σ.good a
  cl : ∀ a, σ.good a → ∀ (j : Nat) (b : Int), (tc.fls σ.x a)[j]? = some (2, b) → σ.good b
  fi : bm.Fine 2048 σ.s.ws
  mr : ∀ a, isb σ.s.ws a = true → a ∈ σ.x.tk
  p5 : σ.ph ≤ 5
  lo : σ.ph ≤ 1 → ∀ a, isb σ.s.ws a = false
  idl : σ.ph ≤ 1 ∨ σ.ph = 5 → σ.s.m = [] ∧ σ.s.b = false ∧ σ.p = -1
  q5 : σ.ph = 5 → σ.q < k.N ∧ (∀ a, isb σ.s.ws a = true → (σ.q : Int) ≤ a / 32) ∧ σ.f ≤ 2048 * σ.q
  qN : σ.ph ≠ 5 → σ.q = k.N
  fN : σ.f ≤ 2048 * k.N
  bE : σ.ph = 0 ∨ σ.ph = 5 → ∀ t : Nat, σ.bf.getD t [] = []
  bT : 2 ≤ σ.ph ∧ σ.ph ≤ 4 → ∀ a, σ.Bfs a → a ∈ σ.x.tk
  i3 : 2 ≤ σ.ph ∧ σ.ph ≤ 4 → I3 σ.x.tk (tc.fls σ.x) All1 k.r σ.s σ.p ∧ (-1 ≤ σ.p ∧ σ.p < k.N)
  p2 : σ.ph = 2 → σ.p = -1 ∧ ∀ a, isb σ.s.ws a = true → (a, 0) ∈ σ.s.m ∨ σ.s.b = true
  tr : 2 ≤ σ.ph ∧ σ.ph ≤ 4 → Tr (tc.fls σ.x) σ.s σ.p σ.Bfs (σ.Cov k)
structure Stl (σ : Cy) : Prop where
  y : σ.ph = 0 ∨ σ.ph = 3 ∨ σ.ph = 5 → σ.ag = true
  n : σ.ph = 1 ∨ σ.ph = 2 ∨ σ.ph = 4 → σ.ag = false
section
variable {k : Kn} {σ : Cy} {t : Nat}
theorem lv_of {th : List Int} {t : Int} (h : ep.lv (ep.of th t) = true) : ∃ j : Nat, t = j ∧ j < th.length ∧ 0 ≤ th.getD j (-1) := by
  have h0 : 0 ≤ ep.of th t := by simpa [ep.lv] using h
  obtain ⟨h1, h2⟩ := ep.of_in h0
  refine ⟨t.toNat, by omega, by omega, ?_⟩
  unfold ep.of at h0
  rwa [if_pos h1] at h0
theorem getD_set {α : Type} {l : List α} {d v : α} (ht : t < l.length) (u : Nat) : (l.set t v).getD u d = if u = t then v else l.getD u d := by
  rw [List.getD_eq_getElem?_getD, List.getElem?_set, List.getD_eq_getElem?_getD]
  by_cases e : t = u
  · subst e; rw [if_pos rfl, if_pos ht, if_pos rfl]; rfl
  · rw [if_neg e, if_neg (fun h => e h.symm)]
theorem getD_set_nil {α : Type} {l : List (List α)} (u : Nat) : (l.set t []).getD u [] = if u = t then [] else l.getD u [] := by
  by_cases ht : t < l.length
  · exact getD_set ht u
  · rw [List.set_eq_of_length_le (by omega)]
    split
    · rename_i e
      subst e
      rw [List.getD_eq_getElem?_getD, List.getElem?_eq_none (by omega)]; rfl
    · rfl
theorem ag_iff (hr : ∀ x ∈ σ.th, -1 ≤ x ∧ x ≤ (σ.e : Int)) : σ.ag = true ↔ ∀ t : Nat, σ.lv t = true → ep.of σ.th t = σ.e := by
  unfold Cy.ag Cy.lv
  simp only [beq_iff_eq]
  constructor
  · intro h t ht
    have h0 : ep.bh σ.e σ.th = [] := List.length_eq_zero_iff.1 (by omega)
    obtain ⟨j, e1, hj, h1⟩ := lv_of ht
    obtain rfl : t = j := by omega
    rw [ep.of_nat] at ht ⊢
    have hm : σ.th.getD t (-1) ∈ σ.th := by
      rw [List.getD_eq_getElem?_getD, List.getElem?_eq_getElem hj]
      exact List.getElem_mem hj
    have h2 := hr _ hm
    refine Int.le_antisymm h2.2 (Int.not_lt.1 fun h3 => ?_)
    have := ep.chs_mem (p := fun x => decide (x < (σ.e : Int))) (k := σ.th.length) hj ht (by simpa using h3)
    unfold ep.bh at h0
    rw [h0] at this
    cases this
  · intro h
    have : ep.bh σ.e σ.th = [] := by
      refine List.eq_nil_iff_forall_not_mem.2 fun x hx => ?_
      obtain ⟨t, ht, rfl, h1, h2⟩ := ep.mem_chs hx
      have := h t (by rw [ep.of_nat]; exact h1)
      rw [ep.of_nat] at this
      rw [this] at h2
      simp at h2
    rw [this]
    rfl
theorem Inv.gd (h : Inv k σ) (h5 : σ.ph ≠ 5) : rc.Gd σ.x.tk (tc.fls σ.x) k.N := by
  refine ⟨h.iv.ok.up.imp (fun h => by omega), fun a ha => ?_, fun a ha v hv h2 => ?_⟩
  · have h1 := ph.tk_range h.iv ha
    have h2 := bz_in h.iv.ok ha
    have h3 := bz_pos h.iv.ok ha
    have h4 := h.iv.ok.len
    have h5 := h.xN
    omega
  · obtain ⟨j, hj, e⟩ := List.mem_iff_getElem.1 hv
    obtain ⟨v1, v2⟩ := v
    dsimp only at h2
    subst h2
    exact (h.cl a ⟨ha, fun e => absurd e h5⟩ j v2 (by rw [List.getElem?_eq_getElem hj, e])).1
theorem Inv.rg (h : Inv k σ) {a : Int} (ha : a ∈ σ.x.tk) : 0 ≤ a ∧ a < 2048 ∧ a / 32 < k.N := by
  have h1 := ph.tk_range h.iv ha
  have h2 := bz_in h.iv.ok ha
  have h3 := bz_pos h.iv.ok ha
  have h4 := h.iv.ok.len
  have h5 := h.xN
  omega
theorem wok_keep {x z : Hs} {P : Int → Prop} (V : st.Iv x) (hK : Kp P x z) (hs : ∀ b ∈ z.tk, b ∈ x.tk ∧ P b) (h : wok x) : wok z := fun b hb j hj => by
  obtain ⟨h1, hP⟩ := hs b hb
  rw [(ph.fls_keep V hK h1 hP).2] at hj
  obtain ⟨_, _, h3⟩ := hK b h1 hP
  obtain ⟨s, m, l1, l2, l3, l4⟩ := V.live b h1
  have hr := ph.tk_range V h1
  have e : (tc.fls x b).length = m := by rw [tc.fls_len, l4]; omega
  rw [h3 (b.toNat + 1 + j) (by omega) (by omega)]
  exact h b h1 j hj
theorem rb_zero : wd.rb 0 = true := by unfold wd.rb; simp
theorem flo_at (x : Hs) : ∀ a ∈ x.tk, tc.flo x a = some (tc.fls x a) := fun a ha => by unfold tc.flo; rw [if_pos ha]
theorem cd1 (fl : Int → List Va) : rc.Cd fl All1 := fun _ _ _ _ _ => trivial
theorem i3_zero {tk : List Int} {fl : Int → List Va} {R : Int → Prop} {r : Nat} {s : Ps} (hf : bm.Fine 2048 s.ws) (hw : ∀ a, isb s.ws a = false) (hm : s.m = []) (hb : s.b = false) : I3 tk fl R r s (-1) :=
  ⟨⟨hf, fun a h => (by rw [hw] at h; cases h), fun e he => (by rw [hm] at he; cases he), by rw [hm]; exact Nat.zero_le _⟩, by rw [hm]; exact List.nodup_nil, by rw [hb]; simp⟩
end
end Go.Proofs.YtkgdcgmbapchcaaGreatDoor.cy
