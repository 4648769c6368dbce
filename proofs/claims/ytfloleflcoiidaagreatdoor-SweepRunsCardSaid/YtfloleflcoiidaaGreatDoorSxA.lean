/- Joined: SwP, SwQ. -/
import Derived.Test.YtfloleflcoiidaaGreatDoorTcX
import Derived.Test.YtfloleflcoiidaaGreatDoorPhW
/- Plain: a page gone through: of each of its objects, what is marked stays, and its mark goes; what is not is gone. -/
namespace Go.Proofs.YtfloleflcoiidaaGreatDoor.sw
open Go.ChangeShapes Go.WideShapes Go.ChangeAt Go.RowKit gen calls cls geos ce st sh
open ph (tk_range)
set_option linter.unusedVariables false
set_option maxHeartbeats 4000000
set_option maxRecDepth 100000
theorem fine_rmd {ws : List Nat} (h : bm.Fine 2048 ws) (z : Int) : bm.Fine 2048 (rmd ws z) := by
  rcases sh.ways ws z with ⟨h1, h2, _, _, h5⟩ | ⟨i, rfl, hi, ⟨hb, h2, _, _, h5⟩ | ⟨hb, h2, _, _, h5⟩⟩
  · rw [h5]; exact h
  · rw [h5]; exact h.cut hi
  · rw [h5]; exact h
theorem isb_rmd {ws : List Nat} (h : bm.Fine 2048 ws) (z a : Int) : isb (rmd ws z) a = (isb ws a && decide (a ≠ z)) := by
  rcases sh.ways ws z with ⟨h1, h2, _, _, h5⟩ | ⟨i, rfl, hi, ⟨hb, h2, _, _, h5⟩ | ⟨hb, h2, _, _, h5⟩⟩
  · rw [h5]
    by_cases e : a = z
    · subst e; rw [h2]; rfl
    · simp [e]
  · rw [h5]
    unfold isb
    rw [bm.bit_cut _ _ _ (by have := h.1; omega)]
    by_cases e : a = (i : Int)
    · subst e; simp
    · by_cases h0 : 0 ≤ a
      · have : ¬ a.toNat = i := by omega
        simp [e, this]
      · simp [h0]
  · rw [h5]
    by_cases e : a = (i : Int)
    · subst e; rw [h2]; rfl
    · simp [e]
theorem isb_range {ws : List Nat} {a : Int} (h : isb ws a = true) : 0 ≤ a ∧ a < 2048 := by
  unfold isb at h
  simp only [Bool.and_eq_true, decide_eq_true_eq] at h
  exact ⟨h.1.1, h.1.2⟩
/-- The object at a is gone. -/
def gn (x : Hs) (a : Nat) : Hs := if pg.kind x.ks (a / 32 : Nat) = 5 then x.goneL a (a / 32) else x.goneC a (a / 32) ((a : Int) % 32 / sz (pg.kind x.ks (a / 32 : Nat)))
section
variable {w w' : World} {I : Ids} {x y : Hs} {a : Nat}
theorem gn_tk : (gn x a).tk = x.tk.filter fun y => decide (y ≠ (a : Int)) := by unfold gn; split <;> rfl
theorem gn_own : (gn x a).own = x.own := by unfold gn; split <;> rfl
theorem gn_T : (gn x a).T = x.T := by unfold gn; split <;> rfl
theorem gn_cnt : (gn x a).cnt = x.cnt := by unfold gn; split <;> rfl
/-- Where what is taken lies: it is a large one, or in a small class's page. -/
theorem kinds_at (O : Ok x.ks x.xs x.cs x.tk x.fr) (ha : (a : Int) ∈ x.tk) : a < 2048 ∧ a / 32 < 64 ∧ a / 32 < x.ks.length ∧ (a : Int) / 32 = (a / 32 : Nat) ∧ (pg.kind x.ks (a / 32 : Nat) = 5 ∨ (1 ≤ pg.kind x.ks (a / 32 : Nat) ∧ pg.kind x.ks (a / 32 : Nat) ≤ 4)) := by
  have h1 := bz_in O ha
  have h2 := bz_pos O ha
  have h3 := O.len
  have h4 := O.few
  have e : (a : Int) / 32 = ((a / 32 : Nat) : Int) := by omega
  refine ⟨by omega, by omega, by omega, e, ?_⟩
  rcases (O.tkn a).1 ha with ⟨k1, _⟩ | ⟨k1, _, _⟩
  · rw [e] at k1; exact .inl k1
  · rw [e] at k1; exact .inr k1
theorem iv_gn (V : Iv x) (ha : (a : Int) ∈ x.tk) : Iv (gn x a) ∧ Kp (fun b => b ≠ a) x (gn x a) := by
  obtain ⟨_, _, _, e, hk | hk⟩ := kinds_at V.ok ha
  · unfold gn
    rw [if_pos hk]
    exact V.goneL ha e hk
  · unfold gn
    rw [if_neg (by omega)]
    exact V.goneC ha e hk rfl
theorem Free_gn (H : Sr w I x) (ha : (a : Int) ∈ x.tk) : Calls Tryz.prog 70 #[.pointer (some ⟨I.S, 0, none⟩), .int .i64 a] w (Done I (.bool true) (gn x a) w) := by
  obtain ⟨A, P, e, h1, h2, h3, h4, ⟨hk, hm⟩ | ⟨hk, hm⟩⟩ := at_tk H ha
  · obtain rfl : a = A := by omega
    obtain rfl : a / 32 = P := by omega
    unfold gn
    rw [if_pos hk]
    exact Free_large H ha h2 h1 hk
  · obtain rfl : a = A := by omega
    obtain rfl : a / 32 = P := by omega
    unfold gn
    rw [if_neg (by omega)]
    exact Free_cell H ha h2 h1 h3 hk hm rfl
/-- A page that is nobody's and has no object is free. -/
def trimd (x : Hs) (p : Int) : Hs := if (ca.owner x.own p).1 = -1 then (dstep (x, 0) p).1 else x
def trimb (x : Hs) (p : Int) : Bool := decide ((ca.owner x.own p).1 = -1) && dropb x p
theorem Trim_tr (H : Sr w I x) (p : Int) : Calls Tryz.prog 43 #[.pointer (some ⟨I.S, 0, none⟩), .int .i64 p] w (Done I (.bool (trimb x p)) (trimd x p) w) := by
  by_cases ho : (ca.owner x.own p).1 = -1
  · unfold trimd trimb
    rw [if_pos ho, decide_eq_true ho, Bool.true_and]
    exact Trim_any H ho
  · unfold trimd trimb
    rw [if_neg ho, decide_eq_false ho, Bool.false_and]
    exact (Trim_own H ho).mono fun e w' ⟨h1, h2⟩ => ⟨h1, H.new h2, .new h2⟩
theorem dstep_tk (x : Hs) (k : Nat) (p : Int) : (dstep (x, k) p).1.tk = x.tk := by unfold dstep; split <;> rfl
theorem dstep_len (x : Hs) (k : Nat) (p : Int) : (dstep (x, k) p).1.ks.length = x.ks.length := by
  unfold dstep
  split
  · show (x.ks.set p.toNat 0).length = _
    rw [List.length_set]
  · rfl
theorem trimd_tk (x : Hs) (p : Int) : (trimd x p).tk = x.tk := by
  unfold trimd
  split
  · exact dstep_tk _ _ _
  · rfl
theorem trimd_len (x : Hs) (p : Int) : (trimd x p).ks.length = x.ks.length := by
  unfold trimd
  split
  · exact dstep_len _ _ _
  · rfl
theorem gn_len : (gn x a).ks.length = x.ks.length := by
  unfold gn
  split
  · show (pg.fillN _ _ _ _).length = _
    rw [pg.fillN_length]
  · rfl
theorem iv_trimd (V : Iv x) (p : Int) : Iv (trimd x p) ∧ Kp (fun _ => True) x (trimd x p) ∧ (trimd x p).own = x.own ∧ (trimd x p).cnt = x.cnt ∧ (trimd x p).T = x.T := by
  unfold trimd
  split
  · rename_i ho
    exact V.dstep 0 ((ca.owner_neg V.good p).1 (by omega))
  · exact ⟨V, Keep.refl _ _ _ _, rfl, rfl, rfl⟩
/-! ### A page -/
/-- The store, the grey, how many were freed. -/
structure Sz where
  x : Hs
  s : Ps
  f : Nat
def pass (z : Sz) (a : Int) : Sz := if isb z.s.ws a = true then ⟨z.x, z.s.clear a, z.f⟩ else ⟨gn z.x a.toNat, z.s, z.f + 1⟩
def passes (z : Sz) (l : List Int) : Sz := l.foldl pass z
theorem passes_add (z : Sz) (l : List Int) (a : Int) : passes z (l ++ [a]) = pass (passes z l) a := by simp [passes]
def unit (z : Sz) (p : Int) : Sz := ⟨trimd (passes z (tc.inp z.x p)).x p, (passes z (tc.inp z.x p)).s, (passes z (tc.inp z.x p)).f⟩
/-- What some passes leave. -/
structure Pz (z : Sz) (l : List Int) (y : Sz) : Prop where
  iv : Iv y.x
  own : y.x.own = z.x.own
  T : y.x.T = z.x.T
  cnt : y.x.cnt = z.x.cnt
  len : y.x.ks.length = z.x.ks.length
  tk : y.x.tk = z.x.tk.filter fun b => decide (b ∉ l) || isb z.s.ws b
  fi : bm.Fine 2048 y.s.ws
  mr : ∀ b, isb y.s.ws b = (isb z.s.ws b && decide (b ∉ l))
  m : y.s.m = z.s.m
  b : y.s.b = z.s.b
  f : y.f = z.f + (l.filter fun b => !isb z.s.ws b).length
theorem pz_all (l : List Int) : ∀ z : Sz, Iv z.x → bm.Fine 2048 z.s.ws → l.Nodup → (∀ a ∈ l, a ∈ z.x.tk) → Pz z l (passes z l) := by
  induction l with
  | nil => exact fun z V F _ _ => ⟨V, rfl, rfl, rfl, rfl, (List.filter_eq_self.2 (by simp)).symm, F, fun b => by simp [passes], rfl, rfl, rfl⟩
  | cons a l ih =>
    intro z V F nd hm
    obtain ⟨n1, n2⟩ := List.nodup_cons.1 nd
    have ha := hm a (by simp)
    have ra := tk_range V ha
    obtain ⟨A, rfl⟩ : ∃ A : Nat, a = A := ⟨a.toNat, by omega⟩
    have e0 : passes z ((A : Int) :: l) = passes (pass z A) l := rfl
    rw [e0]
    by_cases hb : isb z.s.ws A = true
    · have e1 : pass z A = ⟨z.x, z.s.clear A, z.f⟩ := if_pos hb
      rw [e1]
      have P := ih ⟨z.x, z.s.clear A, z.f⟩ V (fine_rmd F _) n2 (fun b h => hm b (by simp [h]))
      refine ⟨P.iv, P.own, P.T, P.cnt, P.len, P.tk.trans (List.filter_congr fun b hb' => ?_), P.fi, fun b => ?_, P.m, P.b, ?_⟩
      · show (decide (b ∉ l) || isb (rmd z.s.ws A) b) = _
        rw [isb_rmd F]
        by_cases e : b = (A : Int)
        · subst e; simp [n1, hb]
        · simp [e]
      · rw [P.mr b]
        show (isb (rmd z.s.ws A) b && _) = _
        rw [isb_rmd F]
        by_cases e : b = (A : Int)
        · subst e; simp
        · simp [e]
      · rw [P.f, List.filter_cons_of_neg (by simp [hb])]
        show z.f + (l.filter fun b => !isb (rmd z.s.ws A) b).length = _
        congr 2
        exact List.filter_congr fun b h => by
          rw [isb_rmd F]
          have : b ≠ (A : Int) := fun e => n1 (e ▸ h)
          simp [this]
    · have e1 : pass z A = ⟨gn z.x A, z.s, z.f + 1⟩ := by unfold pass; rw [if_neg hb, Int.toNat_natCast]
      rw [e1]
      obtain ⟨V1, K1⟩ := iv_gn V ha
      have P := ih ⟨gn z.x A, z.s, z.f + 1⟩ V1 F n2 (fun b h => by
        show b ∈ (gn z.x A).tk
        rw [gn_tk, List.mem_filter]
        exact ⟨hm b (by simp [h]), decide_eq_true (fun e => n1 (e ▸ h))⟩)
      refine ⟨P.iv, P.own.trans gn_own, P.T.trans gn_T, P.cnt.trans gn_cnt, P.len.trans gn_len, P.tk.trans ?_, P.fi, fun b => ?_, P.m, P.b, ?_⟩
      · show (gn z.x A).tk.filter _ = _
        rw [gn_tk, List.filter_filter]
        refine List.filter_congr fun b hb' => ?_
        by_cases e : b = (A : Int)
        · subst e; simp [hb]
        · simp [e]
      · rw [P.mr b]
        show (isb z.s.ws b && _) = _
        by_cases e : b = (A : Int)
        · subst e; simp [hb]
        · simp [e]
      · rw [P.f, List.filter_cons_of_pos (by simp [hb])]
        show z.f + 1 + (l.filter fun b => !isb z.s.ws b).length = _
        rw [List.length_cons]
        omega
theorem tk_nodup (V : Iv x) : x.tk.Nodup := V.ok.up.imp fun h => by omega
theorem inp_nodup (V : Iv x) (p : Int) : (tc.inp x p).Nodup := (tk_nodup V).sublist List.filter_sublist
theorem inp_mem {p b : Int} : b ∈ tc.inp x p ↔ b ∈ x.tk ∧ b / 32 = p := by unfold tc.inp; rw [List.mem_filter]; simp
/-- What a unit leaves. -/
theorem pz_unit {z : Sz} (V : Iv z.x) (F : bm.Fine 2048 z.s.ws) (p : Int) : Pz z (tc.inp z.x p) (unit z p) := by
  have P := pz_all (tc.inp z.x p) z V F (inp_nodup V p) (fun a h => (inp_mem.1 h).1)
  obtain ⟨V1, _, h1, h2, h3⟩ := iv_trimd P.iv p
  exact ⟨V1, h1.trans P.own, h3.trans P.T, h2.trans P.cnt, (trimd_len _ _).trans P.len, (trimd_tk _ _).trans P.tk, P.fi, P.mr, P.m, P.b, P.f⟩
end
end Go.Proofs.YtfloleflcoiidaaGreatDoor.sw

/- Plain: what a thread's pages become when it has left, page by page; the plain heap's lists behind each. -/
namespace Go.Proofs.YtfloleflcoiidaaGreatDoor.sw
open Go.ChangeShapes Go.WideShapes Go.ChangeAt Go.RowKit gen calls cls geos ce st sh ph
set_option linter.unusedVariables false
set_option maxHeartbeats 4000000
set_option maxRecDepth 100000
section
variable {w w' : World} {I : Ids} {x y : Hs} {a : Nat} {own : List ca.Ow} {T : Nat}
/-- Whose pages are whose, when thread t's ones of the first classes are nobody's. -/
def qown (own : List ca.Ow) (t : Int) (k : Nat) : List ca.Ow := own.filter fun o => !(o.1 == t && decide (o.2.1 < k))
theorem qown_one (G : ca.Good T own) (t : Int) : qown own t 1 = own := by
  unfold qown
  rw [List.filter_eq_self]
  intro o ho
  have := G.bnd o ho
  simp
  omega
theorem qown_end (G : ca.Good T own) (t : Int) : qown own t 5 = ca.rest own t 0 := by
  unfold qown ca.rest ca.hit
  refine List.filter_congr fun o ho => ?_
  have := G.bnd o ho
  have h5 : o.2.1 < ((5 : Nat) : Int) := by omega
  rw [decide_eq_true h5]
  simp
theorem page_q (own : List ca.Ow) (t : Int) (j : Nat) (t' k : Int) : ca.page (qown own t j) t' k = if t' = t ∧ k < j then -1 else ca.page own t' k := by
  by_cases h : t' = t ∧ k < j
  · rw [if_pos h]
    refine ca.page_no fun p hp => ?_
    have := (List.mem_filter.1 hp).2
    simp at this
    omega
  · rw [if_neg h]
    unfold ca.page
    have e : (qown own t j).find? (fun x => x.1 == t' && x.2.1 == k) = own.find? (fun x => x.1 == t' && x.2.1 == k) := by
      unfold qown
      rw [List.find?_filter]
      congr 1
      funext o
      by_cases h2 : (o.1 == t' && o.2.1 == k) = true
      · simp at h2
        obtain ⟨e1, e2⟩ := h2
        simp [e1, e2]
        omega
      · simp only [Bool.not_eq_true] at h2
        simp [h2]
    rw [e]
theorem page_zero (G : ca.Good T own) (t : Int) {k : Int} (hk : k ≤ 0) : ca.page own t k = -1 := ca.page_no fun p hp => by have := G.bnd _ hp; simp at this; omega
theorem own45_q (G : ca.Good T own) {t k : Nat} (ht : t < 9) (hk : 1 ≤ k ∧ k < 5) : (own45 (qown own t k)).set (t * 5 + k) 0 = own45 (qown own t (k + 1)) := by
  apply List.ext_getElem?
  intro i
  rw [List.getElem?_set]
  by_cases hi : i < 45
  · have e1 := own45_at (qown own t k) (t := i / 5) (k := i % 5) (by omega) (by omega)
    have e2 := own45_at (qown own t (k + 1)) (t := i / 5) (k := i % 5) (by omega) (by omega)
    rw [show i / 5 * 5 + i % 5 = i by omega] at e1 e2
    rw [page_q] at e1 e2
    rw [e2]
    by_cases e : t * 5 + k = i
    · rw [if_pos e, if_pos (by rw [own45_len]; omega), if_pos (by omega)]
      rfl
    · rw [if_neg e, e1]
      by_cases h1 : ((i / 5 : Nat) : Int) = t ∧ ((i % 5 : Nat) : Int) < k
      · rw [if_pos h1, if_pos (by omega)]
      · rw [if_neg h1, if_neg (by omega)]
  · rw [List.getElem?_eq_none (l := own45 (qown own t (k + 1))) (by rw [own45_len]; omega), List.getElem?_eq_none (l := own45 (qown own t k)) (by rw [own45_len]; omega), own45_len]
    by_cases e : t * 5 + k = i
    · rw [if_pos e, if_neg (by omega)]
    · rw [if_neg e]
/-- Its pages, by class: -1 where it has none. -/
def pgl (own : List ca.Ow) (t : Int) (k : Nat) : List Int := (List.range (k - 1)).map fun j => ca.page own t ((j + 1 : Nat) : Int)
theorem pgl_more (own : List ca.Ow) (t : Int) {k : Nat} (hk : 1 ≤ k) : pgl own t (k + 1) = pgl own t k ++ [ca.page own t k] := by
  unfold pgl
  rw [show k + 1 - 1 = (k - 1) + 1 by omega, List.range_succ, List.map_append, List.map_singleton, show k - 1 + 1 = k by omega]
/-- Pages that become free, whose ever they are. -/
theorem dropb_own (x : Hs) (o : List ca.Ow) (p : Int) : dropb { x with own := o } p = dropb x p := rfl
theorem dstep_own (x : Hs) (n : Nat) (o : List ca.Ow) (p : Int) : dstep ({ x with own := o }, n) p = ({ (dstep (x, n) p).1 with own := o }, (dstep (x, n) p).2) := by
  unfold dstep
  rw [show dropb ({ x with own := o } : Hs) p = dropb x p from rfl]
  split <;> rfl
theorem dsteps_own (ps : List Int) : ∀ (x : Hs) (n : Nat) (o : List ca.Ow), ps.foldl dstep ({ x with own := o }, n) = ({ (ps.foldl dstep (x, n)).1 with own := o }, (ps.foldl dstep (x, n)).2) := by
  induction ps with
  | nil => intro x n o; rfl
  | cons p ps ih =>
    intro x n o
    rw [List.foldl_cons, List.foldl_cons, dstep_own]
    exact ih _ _ _
theorem dropb_range {p : Int} (h : dropb x p = true) : 0 ≤ p ∧ p.toNat < x.ks.length := by
  unfold dropb at h
  simp only [Bool.and_eq_true, decide_eq_true_eq] at h
  have := pg.kind_there (xs := x.ks) (p := p) (by omega)
  omega
theorem dropb_neg {p : Int} (h : p < 0) : dropb x p = false := by
  cases hb : dropb x p with
  | false => rfl
  | true => have := dropb_range hb; omega
theorem dropb_dropped {p q : Int} (hp : 0 ≤ p ∧ p.toNat < x.ks.length) (hne : p ≠ q) : dropb (x.dropped p.toNat) q = dropb x q := by
  have e : pg.kind (x.dropped p.toNat).ks q = pg.kind x.ks q := by
    show pg.kind (x.ks.set p.toNat 0) q = _
    rw [kind_set hp.2, if_neg (by omega)]
  unfold dropb
  rw [e]
  rfl
theorem dstep_comm (z : Hs × Nat) (p q : Int) : dstep (dstep z p) q = dstep (dstep z q) p := by
  by_cases e : p = q
  · rw [e]
  obtain ⟨x, n⟩ := z
  cases hp : dropb x p <;> cases hq : dropb x q
  · have e1 : dstep (x, n) p = (x, n) := by unfold dstep; rw [hp]; rfl
    have e2 : dstep (x, n) q = (x, n) := by unfold dstep; rw [hq]; rfl
    rw [e1, e2, e1]
  · have e1 : dstep (x, n) p = (x, n) := by unfold dstep; rw [hp]; rfl
    have e2 : dstep (x, n) q = (x.dropped q.toNat, n + 1) := by unfold dstep; rw [hq]; rfl
    have e3 : dstep (x.dropped q.toNat, n + 1) p = (x.dropped q.toNat, n + 1) := by
      unfold dstep
      rw [show dropb (x.dropped q.toNat) p = false by rw [dropb_dropped (dropb_range hq) (Ne.symm e)]; exact hp]
      rfl
    rw [e1, e2, e3]
  · have e1 : dstep (x, n) q = (x, n) := by unfold dstep; rw [hq]; rfl
    have e2 : dstep (x, n) p = (x.dropped p.toNat, n + 1) := by unfold dstep; rw [hp]; rfl
    have e3 : dstep (x.dropped p.toNat, n + 1) q = (x.dropped p.toNat, n + 1) := by
      unfold dstep
      rw [show dropb (x.dropped p.toNat) q = false by rw [dropb_dropped (dropb_range hp) e]; exact hq]
      rfl
    rw [e1, e2, e3]
  · have rp := dropb_range hp
    have rq := dropb_range hq
    have e1 : dstep (x, n) p = (x.dropped p.toNat, n + 1) := by unfold dstep; rw [hp]; rfl
    have e2 : dstep (x, n) q = (x.dropped q.toNat, n + 1) := by unfold dstep; rw [hq]; rfl
    have e3 : dstep (x.dropped p.toNat, n + 1) q = ((x.dropped p.toNat).dropped q.toNat, n + 1 + 1) := by
      unfold dstep
      rw [show dropb (x.dropped p.toNat) q = true by rw [dropb_dropped rp e]; exact hq]
      rfl
    have e4 : dstep (x.dropped q.toNat, n + 1) p = ((x.dropped q.toNat).dropped p.toNat, n + 1 + 1) := by
      unfold dstep
      rw [show dropb (x.dropped q.toNat) p = true by rw [dropb_dropped rq (Ne.symm e)]; exact hp]
      rfl
    rw [e1, e2, e3, e4]
    have : (x.dropped p.toNat).dropped q.toNat = (x.dropped q.toNat).dropped p.toNat := by
      unfold Hs.dropped
      congr 1
      exact List.set_comm _ _ (by omega)
    rw [this]
theorem dsteps_filter (ps : List Int) : ∀ z : Hs × Nat, ps.foldl dstep z = (ps.filter fun p => decide (0 ≤ p)).foldl dstep z := by
  induction ps with
  | nil => intro z; rfl
  | cons p ps ih =>
    intro z
    by_cases h : 0 ≤ p
    · rw [List.filter_cons_of_pos (by simpa using h), List.foldl_cons, List.foldl_cons, ih]
    · rw [List.filter_cons_of_neg (by simpa using h), List.foldl_cons]
      have : dstep z p = z := by unfold dstep; rw [dropb_neg (by omega)]; rfl
      rw [this, ih]
theorem pgl_mem (G : ca.Good T own) (t : Int) {p : Int} : p ∈ (pgl own t 5).filter (fun p => decide (0 ≤ p)) ↔ p ∈ ca.gone own t 0 := by
  unfold pgl ca.gone
  rw [List.mem_filter, List.mem_map, List.mem_map]
  constructor
  · rintro ⟨⟨j, hj, rfl⟩, hp⟩
    have hp : 0 ≤ ca.page own t ((j + 1 : Nat) : Int) := by simpa using hp
    have := page_mem (own := own) (t := t) (k := ((j + 1 : Nat) : Int)) (by omega)
    exact ⟨_, List.mem_filter.2 ⟨this, by simp [ca.hit]⟩, rfl⟩
  · rintro ⟨o, ho, rfl⟩
    obtain ⟨h1, h2⟩ := List.mem_filter.1 ho
    have b := G.bnd o h1
    have h3 : o.1 = t := by simpa [ca.hit] using h2
    have := ca.page_in G h1
    refine ⟨⟨o.2.1.toNat - 1, by simp; omega, ?_⟩, by simp; omega⟩
    rw [show ((o.2.1.toNat - 1 + 1 : Nat) : Int) = o.2.1 by omega, ← h3, this]
theorem pgl_nodup (G : ca.Good T own) (t : Int) : ((pgl own t 5).filter fun p => decide (0 ≤ p)).Nodup := by
  unfold pgl
  rw [List.filter_map, List.Nodup, List.pairwise_map]
  refine ((List.nodup_range (n := 5 - 1)).sublist (List.filter_sublist)).imp_of_mem fun {i j} hi hj hij e => ?_
  have h1 : 0 ≤ ca.page own t ((i + 1 : Nat) : Int) := by simpa using (List.mem_filter.1 hi).2
  have h2 : 0 ≤ ca.page own t ((j + 1 : Nat) : Int) := by simpa using (List.mem_filter.1 hj).2
  have m1 := page_mem (own := own) (t := t) (k := ((i + 1 : Nat) : Int)) (by omega)
  have m2 := page_mem (own := own) (t := t) (k := ((j + 1 : Nat) : Int)) (by omega)
  have := G.one' m1 m2 e
  injection this with _ e2
  injection e2 with e2
  omega
/-- The order makes nothing. -/
theorem dsteps_perm (G : ca.Good T own) (t : Int) (z : Hs × Nat) : (pgl own t 5).foldl dstep z = (bm.rising (ca.gone own t 0)).foldl dstep z := by
  rw [dsteps_filter]
  refine List.Perm.foldl_eq' ?_ (fun p _ q _ z => dstep_comm z p q) z
  have n2 : (bm.rising (ca.gone own t 0)).Nodup := (bm.rising_up _).imp fun h => by omega
  exact (List.perm_ext_iff_of_nodup (pgl_nodup G t) n2).2 fun p => by rw [pgl_mem G, bm.mem_rising]
end
end Go.Proofs.YtfloleflcoiidaaGreatDoor.sw
