/- Texts that this claim stands on. -/
import Derived.Deep.RegionHeld3
import Derived.BigQuiet
import Derived.Test.YtkgdcgmbapchcaaGreatDoorQStV
import Derived.Test.YtkgdcgmbapchcaaGreatDoorQShY
import Derived.Test.YtkgdcgmbapchcaaGreatDoorQSkY
namespace Go.Proofs.YtkgdcgmbapchcaaGreatDoor.st
open Go.ChangeShapes Go.WideShapes Go.ChangeAt Go.RowKit Go.Maps gen calls cls geos ce
set_option linter.unusedVariables false
set_option maxHeartbeats 4000000
set_option maxRecDepth 100000
structure Cel (x : Hs) (p a z : Nat) (f : Int) (rest : List Int) (k : Int) : Prop where
  kd : pg.kind x.ks p = k
  kk : 1 ≤ k ∧ k ≤ 4
  fr : x.fr p = f :: rest
  at_ : (a : Int) = p * 32 + f * sz k
  sz_ : sz k = z
def SlL (x : Hs) (n : Nat) (y : Hs) (a : Nat) : Prop := (16 ≤ n ∧ n ≤ 127) ∧ ∃ p N z : Nat, pgs n = N ∧ 1 ≤ N ∧ pg.find N 0 x.ks = some p ∧ a = p * 32 ∧ z = N * 32 ∧ y = (x.spanned p N a z).begun a n
def SlF (x : Hs) (t : Int) (n : Nat) (y : Hs) (a : Nat) : Prop := n ≤ 15 ∧ ∃ (p z : Nat) (f : Int) (rest : List Int), ca.page x.own t (ofn n) = p ∧ Cel x p a z f rest (ofn n) ∧ y = (x.took p f rest a z).begun a n
def SlM (x : Hs) (t : Int) (n : Nat) (y : Hs) (a : Nat) : Prop := n ≤ 15 ∧ Noc x (ca.page x.own t (ofn n)) ∧ ∃ (p z : Nat) (f : Int) (rest : List Int), p < 64 ∧ fit x (ofn n) p = true ∧ (∀ q : Nat, q < p → fit x (ofn n) q = false) ∧ Cel x p a z f rest (ofn n) ∧ y = ((x.owned t (ofn n) p).took p f rest a z).begun a n
def SlC (x : Hs) (t : Int) (n : Nat) (y : Hs) (a : Nat) : Prop := n ≤ 15 ∧ Noc x (ca.page x.own t (ofn n)) ∧ (∀ q : Nat, q < 64 → fit x (ofn n) q = false) ∧ ∃ (p z m0 n0 : Nat) (f : Int) (rest : List Int), pg.find 1 0 x.ks = some p ∧ sz (ofn n) = m0 ∧ cl (ofn n) = n0 ∧ Cel (x.carved p (ofn n) m0 n0) p a z f rest (ofn n) ∧ y = (((x.carved p (ofn n) m0 n0).owned t (ofn n) p).took p f rest a z).begun a n
def Slo (x : Hs) (t : Int) (n : Nat) (y : Hs) (a : Nat) : Prop := SlL x n y a ∨ SlF x t n y a ∨ SlM x t n y a ∨ SlC x t n y a
def Sno (x : Hs) (t : Int) (n : Nat) : Prop := ((16 ≤ n ∧ n ≤ 127) ∧ ∃ N : Nat, pgs n = N ∧ 1 ≤ N ∧ pg.find N 0 x.ks = none) ∨ (n ≤ 15 ∧ Noc x (ca.page x.own t (ofn n)) ∧ (∀ q : Nat, q < 64 → fit x (ofn n) q = false) ∧ pg.find 1 0 x.ks = none)
section
variable {w w' : World} {I : Ids} {x y : Hs} {t : Int} {n a : Nat}
theorem Slo_dec (V : Iv x) (h1 : n ≤ 127) (ht : 0 ≤ t ∧ t < x.T) : (∃ y a, Slo x t n y a) ∨ Sno x t n := by
  by_cases h16 : 16 ≤ n
  · obtain ⟨_, _, N, hN, N1, N4, hN2⟩ := cl_ofn5 (n := n) (by omega) (by omega)
    cases hf : pg.find N 0 x.ks with
    | none => exact .inr (.inl ⟨⟨h16, h1⟩, N, hN, N1, hf⟩)
    | some p => exact .inl ⟨_, _, .inl ⟨⟨h16, h1⟩, p, N, _, hN, N1, hf, rfl, rfl, rfl⟩⟩
  · obtain ⟨hk, _, hsz⟩ := cl_ofn (n := n) (by omega) (by omega)
    rcases page_dec V t (ofn n) with ⟨p, f, rest, hp, hkp, _, hfr⟩ | hno
    · obtain ⟨a, m, ha, hm⟩ := cell_num V.ok (by omega) hfr
      rw [hkp] at ha hm
      exact .inl ⟨_, a, .inr (.inl ⟨by omega, p, m, f, rest, hp, ⟨hkp, hk, hfr, ha, hm⟩, rfl⟩)⟩
    · rcases low (fun q => fit x (ofn n) q) 64 with ⟨p, p64, hf, hl⟩ | hl
      · have hf' := hf
        unfold fit at hf'
        simp only [Bool.and_eq_true, decide_eq_true_eq, beq_iff_eq] at hf'
        obtain ⟨⟨f1, f2⟩, f3⟩ := hf'
        have tl := (V.ok.told (p := p) (by omega)).2.1
        cases hfr : x.fr p with
        | nil => rw [hfr] at tl; simp at tl; omega
        | cons f rest =>
          obtain ⟨a, m, ha, hm⟩ := cell_num V.ok (p := p) (by omega) hfr
          rw [f1] at ha hm
          exact .inl ⟨_, a, .inr (.inr (.inl ⟨by omega, hno, p, m, f, rest, p64, hf, hl, ⟨f1, hk, hfr, ha, hm⟩, rfl⟩))⟩
      · cases hf : pg.find 1 0 x.ks with
        | none => exact .inr (.inr ⟨by omega, hno, hl, hf⟩)
        | some p =>
          obtain ⟨m0, n0, e1, e2, e3, e4, e5, e6, e7⟩ := ch.sz_cl hk.1 hk.2
          obtain ⟨V1, K1, ne⟩ := V.carved hk hf e1 e2
          have q := Ok.free0 (n := 1) (by omega) hf
          have pl : p < x.ks.length := by omega
          have kd : pg.kind (x.carved p (ofn n) m0 n0).ks p = ofn n := by show pg.kind (x.ks.set p (ofn n)) p = _; rw [kind_set pl, if_pos rfl]
          obtain ⟨n1, rfl⟩ : ∃ n1, n0 = n1 + 1 := ⟨n0 - 1, by omega⟩
          have hfr : (x.carved p (ofn n) m0 (n1 + 1)).fr p = ((0 : Nat) : Int) :: ch.from_ 1 n1 := upd_same _ _ _
          obtain ⟨a, m, ha, hm⟩ := cell_num V1.ok (p := p) (by omega) hfr
          rw [kd] at ha hm
          exact .inl ⟨_, a, .inr (.inr (.inr ⟨by omega, hno, hl, p, m, m0, _, _, _, hf, e1, e2, ⟨kd, hk, hfr, ha, hm⟩, rfl⟩))⟩
theorem Sno_prog (H : Sr w I x) (V : Iv x) (ht : 0 ≤ t ∧ t < x.T) (h : Sno x t n) :
    Calls Tryz.prog 82 #[.pointer (some ⟨I.S, 0, none⟩), .int .i64 t, .int .i64 n] w fun e w' => e = rE 0 10 ∧ w.grownBy w' none := by
  have T9 : x.T ≤ 9 := by obtain ⟨D, C⟩ := H.at_; exact C.few
  have tf : fits t = true := by simp [fits]; omega
  rcases h with ⟨h1, N, hN, N1, hf⟩ | ⟨h1, hno, hl, hf⟩
  · exact Slow_no H ⟨by omega, ht⟩ (take_large_no H t (by omega) (by omega) (by rw [hN]; exact hf))
  · obtain ⟨hk, _, hsz⟩ := cl_ofn (n := n) (by omega) (by omega)
    exact Slow_no H ⟨by omega, ht⟩ (take_full H t (by omega) (by omega) tf hno (open_full H hk hl hf))
theorem Slo_le (h : Slo x t n y a) : n ≤ 127 := by
  rcases h with ⟨h, _⟩ | ⟨h, _⟩ | ⟨h, _⟩ | ⟨h, _⟩ <;> omega
theorem Slo_iv (V : Iv x) (s8 : x.cnt < 1099511627776) (ht : 0 ≤ t ∧ t < x.T) (h : Slo x t n y a) : Iv y ∧ Kp (fun _ => True) x y ∧ Made x y a n ∧ y.T = x.T := by
  rcases h with ⟨h1, p, N, z, hN, N1, hf, ha, hz, rfl⟩ | ⟨h1, p, z, f, rest, hp, C, rfl⟩ | ⟨h1, hno, p, z, f, rest, p64, hf, hl, C, rfl⟩ | ⟨h1, hno, hl, p, z, m0, n0, f, rest, hf, e1, e2, C, rfl⟩
  · obtain ⟨_, _, N', hN', _, _, hN2⟩ := cl_ofn5 (n := n) (by omega) (by omega)
    obtain rfl : N = N' := by omega
    obtain ⟨V1, K1, M1⟩ := V.spanned (n := n) (by omega) s8 N1 hf ha hz (by omega)
    exact ⟨V1, K1, M1, rfl⟩
  all_goals
    obtain ⟨hk, _, hsz⟩ := cl_ofn (n := n) (by omega) (by omega)
    obtain ⟨c1, c2, c3, c4, c5⟩ := C
  · obtain ⟨V1, K1, M1⟩ := V.took (n := n) (by omega) s8 (by omega) c3 (by rw [c1]; exact c4) (by rw [c1]; exact c5) (by omega)
    exact ⟨V1, K1, M1, rfl⟩
  · have hf' := hf
    unfold fit at hf'
    simp only [Bool.and_eq_true, decide_eq_true_eq, beq_iff_eq] at hf'
    obtain ⟨⟨f1, f2⟩, f3⟩ := hf'
    have ne := (ca.owner_neg V.good p).1 (by omega)
    obtain ⟨V1, K1, M1⟩ := (V.owned ht hk p64 f1 ne).took (n := n) (p := p) (by omega) s8 (show 1 ≤ pg.kind x.ks p ∧ pg.kind x.ks p ≤ 4 by omega) c3 (show (a : Int) = p * 32 + f * sz (pg.kind x.ks p) by rw [c1]; exact c4) (show sz (pg.kind x.ks p) = z by rw [c1]; exact c5) (by omega)
    exact ⟨V1, K1, ⟨M1.not, M1.ob, M1.room, M1.zero, M1.cnt⟩, rfl⟩
  · obtain ⟨V0, K0, ne⟩ := V.carved hk hf e1 e2
    have q := Ok.free0 (n := 1) (by omega) hf
    have fw := V.ok.few
    obtain ⟨V1, K1, M1⟩ := (V0.owned ht hk (p := p) (by omega) c1 ne).took (n := n) (p := p) (by omega) s8 (show 1 ≤ pg.kind (x.carved p (ofn n) m0 n0).ks p ∧ pg.kind (x.carved p (ofn n) m0 n0).ks p ≤ 4 by omega) c3 (show (a : Int) = p * 32 + f * sz (pg.kind (x.carved p (ofn n) m0 n0).ks p) by rw [c1]; exact c4) (show sz (pg.kind (x.carved p (ofn n) m0 n0).ks p) = z by rw [c1]; exact c5) (by omega)
    exact ⟨V1, K0.trans K1, ⟨M1.not, M1.ob, M1.room, M1.zero, M1.cnt⟩, rfl⟩
theorem Slo_prog (H : Sr w I x) (V : Iv x) (s8 : x.cnt < 1099511627776) (ht : 0 ≤ t ∧ t < x.T) (h : Slo x t n y a) :
    Calls Tryz.prog 82 #[.pointer (some ⟨I.S, 0, none⟩), .int .i64 t, .int .i64 n] w (Done I (.tuple #[.int .i64 a, .int .i64 0]) y w) := by
  have T9 : x.T ≤ 9 := by obtain ⟨D, C⟩ := H.at_; exact C.few
  have tf : fits t = true := by simp [fits]; omega
  have hle := Slo_le h
  have may : ∀ {c : Nat}, c = x.cnt → hd.May c n := fun h => ⟨by omega, by omega, by omega, by omega⟩
  refine Slow_yes H ⟨by omega, ht⟩ ?_
  rcases h with ⟨h1, p, N, z, hN, N1, hf, ha, hz, rfl⟩ | ⟨h1, p, z, f, rest, hp, C, rfl⟩ | ⟨h1, hno, p, z, f, rest, p64, hf, hl, C, rfl⟩ | ⟨h1, hno, hl, p, z, m0, n0, f, rest, hf, e1, e2, C, rfl⟩
  · exact take_large_yes H t (by omega) (by omega) (may rfl) hN hf ha hz
  all_goals
    obtain ⟨hk, _, hsz⟩ := cl_ofn (n := n) (by omega) (by omega)
    obtain ⟨c1, c2, c3, c4, c5⟩ := C
  · exact take_fast H t (by omega) (by omega) tf hp (may rfl) (by omega) c3 (by rw [c1]; exact c4) (by rw [c1]; exact c5)
  · have hf' := hf
    unfold fit at hf'
    simp only [Bool.and_eq_true, decide_eq_true_eq, beq_iff_eq] at hf'
    obtain ⟨⟨f1, f2⟩, f3⟩ := hf'
    have ne := (ca.owner_neg V.good p).1 (by omega)
    have my : ca.may x.T x.own t (ofn n) p = true := by unfold ca.may ca.place; simp; omega
    exact take_more H (y := x) (by omega) (by omega) tf hno (open_found H hk p64 hf hl) my (may rfl) (by omega) c3 (by rw [c1]; exact c4) (by rw [c1]; exact c5)
  · obtain ⟨V0, K0, ne⟩ := V.carved hk hf e1 e2
    have q := Ok.free0 (n := 1) (by omega) hf
    have fw := V.ok.few
    have my : ca.may x.T x.own t (ofn n) p = true := by
      have := ca.owner_no ne
      unfold ca.may ca.place; rw [this]; simp; omega
    exact take_more H (y := x.carved p (ofn n) m0 n0) (by omega) (by omega) tf hno (open_carve H hk hl hf e1 e2) my (may rfl) (by omega) c3 (by rw [c1]; exact c4) (by rw [c1]; exact c5)
end
end Go.Proofs.YtkgdcgmbapchcaaGreatDoor.st
namespace Go.Proofs.YtkgdcgmbapchcaaGreatDoor.tc
open Go.ChangeShapes Go.WideShapes Go.ChangeAt Go.RowKit gen calls cls geos ce st sh
set_option linter.unusedVariables false
set_option maxHeartbeats 4000000
set_option maxRecDepth 100000
abbrev Va := Int × Int
def rdv (v : Int) : Va := (wd.rk v, wd.rn v)
def fls (x : Hs) (a : Int) : List Va := (List.range (x.xs.getD a.toNat 0 % 128).toNat).map fun j => rdv (x.xs.getD (a.toNat + 1 + j) 0)
def flo (x : Hs) (a : Int) : Option (List Va) := if a ∈ x.tk then some (fls x a) else none
def inp (x : Hs) (p : Int) : List Int := x.tk.filter fun a => decide (a / 32 = p)
def shv (r : Nat) (s : Ps) (v : Va) : Ps := if v.1 = 2 then s.shade r v.2 else s
def shl (r : Nat) (s : Ps) (l : List Va) : Ps := l.foldl (shv r) s
theorem shl_add (r : Nat) (s : Ps) (l : List Va) (v : Va) : shl r s (l ++ [v]) = shv r (shl r s l) v := by simp [shl]
def ent (r c : Nat) (F : Int → Option (List Va)) (s : Ps) (e : Va) : Ps :=
  match F e.1 with
  | none => s
  | some l => if 0 ≤ e.2 ∧ e.2 < l.length then shl r (if e.2 + c < l.length then s.push r (e.1, e.2 + c) else s) ((l.drop e.2.toNat).take c) else s
def lok (r : Nat) (F : Int → Option (List Va)) (s : Ps) (a : Int) : Ps := if isb s.ws a = true then shl r s ((F a).getD []) else s
structure Ts where
  s : Ps
  p : Int
def looked (r N : Nat) (F : Int → Option (List Va)) (G : Int → List Int) (s : Ps) (p : Int) : Ts := ⟨(G p).foldl (lok r F) s, if p + 1 < N then p + 1 else -1⟩
def Ts.idle (z : Ts) : Bool := decide (z.s.m = []) && decide (z.p < 0) && !z.s.b
def Ts.unit (r N c : Nat) (F : Int → Option (List Va)) (G : Int → List Int) (z : Ts) : Ts :=
  if z.s.m ≠ [] then ⟨ent r c F z.s.pop (top z.s.m), z.p⟩
  else if 0 ≤ z.p then looked r N F G z.s z.p
  else if z.s.b = true then looked r N F G z.s.settle 0
  else z
def left (N : Nat) (p : Int) : Nat := if p < 0 then 0 else (N - p).toNat
section
variable {w w' : World} {I : Ids} {x : Hs} {L L' M : List Nat} {g r t N c n : Nat} {s s' : Ps} {p p' : Int} {A : Int}
theorem fls_len (a : Int) : (fls x a).length = (x.xs.getD a.toNat 0 % 128).toNat := by simp [fls]
theorem fls_ob {a q n : Nat} (h : Ob x a q n) : (fls x a).length = n ∧ ∀ j, j < n → (fls x a).getD j (0, 0) = rdv (x.xs.getD (a + 1 + j) 0) := by
  have e : (x.xs.getD (a : Int).toNat 0 % 128).toNat = n := by have := h.wd; have := h.n8; rw [Int.toNat_natCast]; omega
  refine ⟨by rw [fls_len, e], fun j hj => ?_⟩
  unfold fls
  rw [e]
  simp [List.getD_eq_getElem?_getD, hj]
def Tc (w : World) (t S g N c n : Nat) : Prop := w.heap[t]? = some (.cells #[.pointer (some ⟨S, 0, none⟩), .pointer (some ⟨g, 0, none⟩), .int .i64 N, .int .i64 c, .int .i64 n] 160 (0, 0))
theorem Tc.lt {S : Nat} (h : Tc w t S g N c n) : t < w.heap.size := (Array.getElem?_eq_some_iff.1 h).1
theorem Tc.gr {S : Nat} (h : Tc w t S g N c n) (hg : Gr M w w') (ht : t ∉ M) : Tc w' t S g N c n := hg.heap h ht
theorem Tc.c0 {S : Nat} (h : Tc w t S g N c n) : w.cell? ⟨t, 0, none⟩ = some (.pointer (some ⟨S, 0, none⟩)) := by rw [cell_of_row w t 0 _ _ _ h]; rfl
theorem Tc.c1 {S : Nat} (h : Tc w t S g N c n) : w.cell? ⟨t, 1, none⟩ = some (.pointer (some ⟨g, 0, none⟩)) := by rw [cell_of_row w t 1 _ _ _ h]; rfl
theorem Tc.c2 {S : Nat} (h : Tc w t S g N c n) : w.cell? ⟨t, 2, none⟩ = some (.int .i64 N) := by rw [cell_of_row w t 2 _ _ _ h]; rfl
theorem Tc.c3 {S : Nat} (h : Tc w t S g N c n) : w.cell? ⟨t, 3, none⟩ = some (.int .i64 c) := by rw [cell_of_row w t 3 _ _ _ h]; rfl
theorem Tc.c4 {S : Nat} (h : Tc w t S g N c n) : w.cell? ⟨t, 4, none⟩ = some (.int .i64 n) := by rw [cell_of_row w t 4 _ _ _ h]; rfl
theorem Tc.fz {S : Nat} (h : Tc w t S g N c n) (k : Nat) : w.frozen? ⟨t, k, none⟩ = false := frozen_of_row w t k _ _ h
structure Tw (w : World) (I : Ids) (x : Hs) (L : List Nat) (g r : Nat) (s : Ps) (t N c n : Nat) : Prop where
  sr : Sr w I x
  iv : Iv x
  gy : Gy w L g r s
  tc : Tc w t I.S g N c n
  ap : ∀ q, q ∈ L → q ∉ I.all
  s8 : x.cnt < 1099511627776
  n1 : 1 ≤ N ∧ N ≤ 64
  c1 : 1 ≤ c ∧ c ≤ 16
  nn : n ≤ N
theorem Tw.tI (h : Tw w I x L g r s t N c n) : t ∉ I.all := by
  have H := h.sr
  obtain ⟨ws, H0, _⟩ := H.hp
  obtain ⟨D, C⟩ := H.at_
  obtain ⟨zs, t1, t2, _⟩ := H0.tab
  obtain ⟨m1, m2, _⟩ := H0.mem
  obtain ⟨s1, _⟩ := H0.set
  obtain ⟨es, clock, hb, _⟩ := C.own
  have nm : ∀ x t f, Obj.map es clock ≠ .cells x t f := fun _ _ _ e => by cases e
  have b := h.tc
  have a1 : t ≠ I.S := ty_ne b H.box (by decide)
  have a2 : t ≠ I.c := ty_ne b H0.cel (by decide)
  have a3 : t ≠ I.h := ty_ne b H0.hea (by decide)
  have a4 : t ≠ I.g := ty_ne b t1 (by decide)
  have a5 : t ≠ I.r := ty_ne b t2 (by decide)
  have a6 : t ≠ I.m := ty_ne b m1 (by decide)
  have a7 : t ≠ I.q := ty_ne b m2 (by decide)
  have a8 : t ≠ I.s := ty_ne b s1 (by decide)
  have a9 : t ≠ I.C := ty_ne b C.box (by decide)
  have a10 : t ≠ I.mb := map_ne b hb nm
  simp only [Ids.all, List.mem_cons, List.not_mem_nil, or_false]
  omega
theorem Tw.tL (h : Tw w I x L g r s t N c n) : t ∉ L := h.gy.off h.tc (by decide) (by decide) (by decide) (by decide)
theorem Tw.gr (h : Tw w I x L g r s t N c n) (hg : Gr M w w') (h1 : ∀ q, q ∈ M → q ∉ I.all) (h2 : ∀ q, q ∈ M → q ∉ L) (h3 : t ∉ M) : Tw w' I x L g r s t N c n :=
  ⟨h.sr.gr hg h1, h.iv, h.gy.gr hg (fun q hq hm => h2 q hm hq), h.tc.gr hg h3, h.ap, h.s8, h.n1, h.c1, h.nn⟩
theorem Tw.new (h : Tw w I x L g r s t N c n) (hg : w.grownBy w' none) : Tw w' I x L g r s t N c n := h.gr (M := []) (.new hg) (by simp) (by simp) (by simp)
theorem apart_new {K : List Nat} (h : ∀ q, q ∈ L → q ∉ K) (hK : ∀ q, q ∈ K → q < w.heap.size) (hL : ∀ q, q ∈ L' → q ∈ L ∨ w.heap.size ≤ q) : ∀ q, q ∈ L' → q ∉ K := fun q hq hm => by
  rcases hL q hq with e | e
  · exact h q e hm
  · have := hK q hm; omega
theorem Tw.grey (h : Tw w I x L g r s t N c n) (hL : ∀ q, q ∈ L' → q ∈ L ∨ w.heap.size ≤ q) (hs : Gy w' L' g r s') (hg : Gr L w w') : Tw w' I x L' g r s' t N c n :=
  ⟨h.sr.gr hg h.ap, h.iv, hs, h.tc.gr hg h.tL, apart_new h.ap h.sr.lt hL, h.s8, h.n1, h.c1, h.nn⟩
theorem Tw.count (h : Tw w I x L g r s t N c n) {m : Nat} (hm : m ≤ N) : Tw (w.setCell ⟨t, 4, none⟩ (.int .i64 m)) I x L g r s t N c m := by
  have G : Gr [t] w (w.setCell ⟨t, 4, none⟩ (.int .i64 m)) := .set _ _ _ _ (by simp)
  have tI := h.tI
  have tL := h.tL
  refine ⟨h.sr.gr G (fun q hq hm => by simp at hq; subst hq; exact tI hm), h.iv, h.gy.gr G (fun q hq hm => by simp at hm; subst hm; exact tL hq), ?_, h.ap, h.s8, h.n1, h.c1, hm⟩
  unfold Tc
  rw [heap_setCell_same w t 4 _ _ (.int .i64 (m : Int)) h.tc]
  rfl
def Ta (I : Ids) (x : Hs) (L : List Nat) (g r : Nat) (v : Value) (s : Ps) (t N c n : Nat) (w : World) (e : Ending) (w' : World) : Prop :=
  e = .returned v ∧ ∃ L', (∀ q, q ∈ L' → q ∈ L ∨ w.heap.size ≤ q) ∧ Tw w' I x L' g r s t N c n ∧ Gr (t :: L) w w'
theorem Ta.after {w1 : World} {v : Value} {e : Ending} (h0 : ∀ q, q ∈ L' → q ∈ L ∨ w.heap.size ≤ q) (g0 : Gr (t :: L) w w1) (h : Ta I x L' g r v s t N c n w1 e w') : Ta I x L g r v s t N c n w e w' := by
  obtain ⟨h1, L2, h2, h3, h4⟩ := h
  exact ⟨h1, L2, fun q hq => (h2 q hq).elim (h0 q) (fun e => .inr (Nat.le_trans g0.size e)), h3, g0.own h4 (fun q hq => by
    rcases List.mem_cons.1 hq with rfl | hq
    · exact .inl (by simp)
    · exact (h0 q hq).imp (fun e => by simp [e]) id)⟩
theorem Ta.same {v : Value} (h : Tw w I x L g r s t N c n) (hg : w.grownBy w' none) : Ta I x L g r v s t N c n w (.returned v) w' := ⟨rfl, L, fun q hq => .inl hq, h.new hg, .new hg⟩
end
end Go.Proofs.YtkgdcgmbapchcaaGreatDoor.tc
namespace Go.Proofs.YtkgdcgmbapchcaaGreatDoor.tc
open Go.ChangeShapes Go.WideShapes Go.ChangeAt Go.RowKit gen calls cls geos ce st sh
set_option linter.unusedVariables false
set_option maxHeartbeats 4000000
set_option maxRecDepth 100000
section
variable {w w' : World} {I : Ids} {x : Hs}
theorem Objects_any (H : Sr w I x) (hT : bm.Tab w) (h0 : I.s ≠ 1) : Calls Tryz.prog 65 #[.pointer (some ⟨I.S, 0, none⟩)] w (bm.ListAns x.tk w) := by
  obtain ⟨ws, H0, e⟩ := H.hp
  have AL := Lib.hid (ce.All_any H0 hT h0)
  rw [e] at AL
  have f0 := H.s0
  clear H H0 hT h0 e
  go_enter Tryz.func65, Tryz.ntmps65
  go_wp2_with (first
    | (go_at_call 127; (with_reducible refine (known_yes _ _).mono ?_); rintro e w' ⟨rfl, rfl⟩)
    | (go_at_call 128; (with_reducible refine AL.out.mono ?_); rintro e w2 ⟨A, d, rfl, ho, hg⟩; have O2 := Lib.hid ho; have G2 := Lib.hid hg; clear ho hg))
  go_ret
  exact ⟨A, d, rfl, O2.out, G2.out⟩
theorem tk_in (O : Ok x.ks x.xs x.cs x.tk x.fr) {a : Int} (ha : a ∈ x.tk) : 0 ≤ a ∧ a ≤ 2047 := by
  have h1 := bz_in O ha
  have h2 := bz_pos O ha
  have h3 := O.len
  have h4 := O.few
  omega
theorem inp_more (tk : List Int) (p : Int) {k : Nat} (hk : k < tk.length) : (tk.take (k + 1)).filter (fun a => decide (a / 32 = p)) = if tk.getD k 0 / 32 = p then (tk.take k).filter (fun a => decide (a / 32 = p)) ++ [tk.getD k 0] else (tk.take k).filter (fun a => decide (a / 32 = p)) := by
  rw [li.take_more hk 0, List.filter_append]
  generalize tk.getD k 0 = a
  by_cases h : a / 32 = p
  · rw [if_pos h]; simp [h]
  · rw [if_neg h]; simp [h]
theorem In_any (H : Sr w I x) (hT : bm.Tab w) (h0 : I.s ≠ 1) (p : Int) : Calls Tryz.prog 145 #[.pointer (some ⟨I.S, 0, none⟩), .int .i64 p] w (li.ListAns (inp x p) w) := by
  obtain ⟨i0, hi, hz0, hz1, hz2⟩ := info_parts li.info_int
  have E : Hid (i0.zero = some (.int .i64 0) ∧ i0.size = 1 ∧ i0.bytes = 8 ∧ Tryz.prog.info? 3 = some i0) := ⟨hz0, hz1, hz2, hi⟩
  clear hi hz0 hz1 hz2
  have OB := Lib.hid (Objects_any H hT h0)
  have TK := Lib.hid (fun a (ha : a ∈ x.tk) => tk_in H.ok ha)
  obtain ⟨n, hn⟩ : ∃ n, x.tk.length = n := ⟨_, rfl⟩
  have hn2 : n ≤ 2048 := by
    obtain ⟨ws, _, e⟩ := H.hp
    rw [← hn, ← e]
    exact bm.nums_length ws
  rw [show bm.ListAns x.tk w = fun e w' => ∃ A c, e = .returned (.slice A n c) ∧ w'.ownsRow w.heap.size 3 1 (.slice A n c) n (bm.ints x.tk) ∧ w.grownBy w' none by rw [← hn]; rfl] at OB
  have HN := Lib.hid hn
  have MO := Lib.hid (fun k (hk : k < n) => inp_more x.tk p (k := k) (by omega))
  have GM := Lib.hid (fun k (hk : k < n) => li.getD_mem (xs := x.tk) (k := k) (by omega) 0)
  have IP := Lib.hid (show inp x p = (x.tk.take n).filter (fun a => decide (a / 32 = p)) by rw [List.take_of_length_le (by omega)]; rfl)
  have LE := Lib.hid (fun k => (show ((x.tk.take k).filter (fun a => decide (a / 32 = p))).length ≤ 2048 from by have := List.length_filter_le (fun a => decide (a / 32 = p)) (x.tk.take k); rw [List.length_take] at this; omega))
  generalize x.tk = tk at *
  clear H hT h0 hn
  go_enter Tryz.func145, Tryz.ntmps145
  go_wp2_with (first
    | (go_at_call 65; (with_reducible refine OB.out.mono ?_); rintro e w2 ⟨A, c, rfl, ho, hg⟩; have R2 := Lib.hid (bm.rd_own ho); have G2 := Lib.hid hg; clear ho hg))
  go_loopw [5, 7, 11] (fun v _ i wr => ∃ (k : Nat) (A' : Option Addr) (m c' : Nat), k ≤ n ∧ i = .int .i64 k ∧ m = ((tk.take k).filter (fun a => decide (a / 32 = p))).length ∧ v = .slice A' m c' ∧ wr.ownsRow w2.heap.size 3 1 (.slice A' m c') m (li.ints ((tk.take k).filter (fun a => decide (a / 32 = p)))) ∧ w2.grownBy wr none) (fun _ _ i _ => n - (intOf i).toNat)
  case atStart => exact ⟨0, none, 0, 0, Nat.zero_le _, rfl, rfl, rfl, World.ownsRow_nil _ _ _ _, World.grownBy.refl _ _⟩
  case round =>
    obtain ⟨k, A', m, c', hk, rfl, hm, rfl, ho, hg⟩ := hrel
    have HO := Lib.hid ho
    have HG := Lib.hid hg
    have HM := Lib.hid hm
    have SZW := Lib.hid (show w2.heap.size ≤ wr.heap.size from hg.size)
    clear ho hg hm
    by_cases hlt : k < n
    · obtain ⟨b1, o1, rfl, g1⟩ := (bm.Rd.below' R2.out (li.grown_below HG.out) HG.out.size).at_ hlt
      have M1 := Lib.hid (MO.out k hlt)
      have T1 := TK.out _ (GM.out k hlt)
      have L1 := Lib.hid (LE.out k)
      generalize tk.getD k 0 = a at *
      obtain ⟨a0, a1⟩ := T1
      have PG := Lib.hid (fun W => (geos.page_any a W))
      rw [geos.pgOf_yes a0 a1] at PG
      by_cases hp : a / 32 = p
      · have t1 : (a / 32 == p) = true := by simpa using hp
        have M2 := Lib.hid (M1.out.trans (if_pos hp))
        clear hp M1
        go_wp2_with (first
          | (go_at_call 155; (with_reducible refine (PG.out _).mono ?_); rintro e w' ⟨rfl, rfl⟩)
          | (refine wpList_append_rd rfl (.tmp 19) (.tmp 21) 41 rfl w2.heap.size 3 i0 (.int .i64 0) 8 Tryz.underlying41 E.out.2.2.2 E.out.1 E.out.2.1 E.out.2.2.1 rfl _ m _ rfl (HO.out.alloc _) (some ⟨wr.heap.size, 0, none⟩) 1 1 _ [a] rfl (li.Rd.one _ _ _) (by have := HM.out; have := L1.out; unfold maxLen; omega) (by have := HM.out; have := L1.out; omega) (by have := SZW.out; simp; omega) ?_; intro A6 c6 w6 own1 rd1 gr1; have OWN1 := Lib.hid own1; have GR1 := Lib.hid gr1; clear own1 gr1 rd1))
        go_roundw
        case rel => exact ⟨k + 1, A6, m + 1, c6, by omega, by go_num, by rw [M2.out, List.length_append, ← HM.out]; rfl, rfl, by rw [M2.out]; simpa [li.ints] using OWN1.out, li.grown_one HG.out HO.out (by simp) GR1.out⟩
        case measure => simp [intOf]; omega
      · have t1 : (a / 32 == p) = false := by simpa using hp
        have M2 := Lib.hid (M1.out.trans (if_neg hp))
        clear hp M1
        go_wp2_with (first
          | (go_at_call 155; (with_reducible refine (PG.out _).mono ?_); rintro e w' ⟨rfl, rfl⟩))
        go_roundw
        case rel => exact ⟨k + 1, A', m, c', by omega, by go_num, by rw [M2.out, ← HM.out], rfl, by rw [M2.out]; exact HO.out, HG.out⟩
        case measure => simp [intOf]; omega
    · obtain rfl : k = n := by omega
      go_wp2
      go_ret
      rw [IP.out]
      have hm := HM.out
      subst hm
      exact ⟨A', c', rfl, bm.own_mono HO.out G2.out.size, G2.out.trans HG.out⟩
end
end Go.Proofs.YtkgdcgmbapchcaaGreatDoor.tc
namespace Go.Proofs.YtkgdcgmbapchcaaGreatDoor.tc
open Go.ChangeShapes Go.WideShapes Go.ChangeAt Go.RowKit gen calls cls geos ce st sh
set_option linter.unusedVariables false
set_option maxHeartbeats 4000000
set_option maxRecDepth 100000
section
variable {w w' : World} {I : Ids} {x : Hs} {L L' M : List Nat} {g r t N c n : Nat} {s s' : Ps}
theorem there_any (t : Nat) (w : World) : Calls Tryz.prog 138 #[.pointer (some ⟨t, 0, none⟩)] w fun e w' => e = .returned (.pointer (some ⟨t, 0, none⟩)) ∧ w = w' := by
  go_enter Tryz.func138, Tryz.ntmps138
  go_wp2
  go_ret
  exact ⟨rfl, rfl⟩
theorem cut_more (l : List Va) {f j : Nat} (h1 : f ≤ j) (h2 : j < l.length) : (l.drop f).take (j + 1 - f) = (l.drop f).take (j - f) ++ [l.getD j (0, 0)] := by
  rw [show j + 1 - f = (j - f) + 1 by omega, List.take_add_one]
  congr 1
  rw [List.getElem?_drop, show f + (j - f) = j by omega, List.getElem?_eq_getElem h2, List.getD_eq_getElem?_getD, List.getElem?_eq_getElem h2]
  rfl
theorem Tw.then (h : Tw w I x L g r s t N c n) {w1 : World} {w0 : World} {L0 L1 : List Nat} (h0 : ∀ q, q ∈ L → q ∈ L0 ∨ w0.heap.size ≤ q) (hg : Gr (t :: L0) w0 w) (hL : ∀ q, q ∈ L1 → q ∈ L ∨ w.heap.size ≤ q) (hs : Gy w1 L1 g r s') (hg1 : Gr L w w1) :
    (∀ q, q ∈ L1 → q ∈ L0 ∨ w0.heap.size ≤ q) ∧ Tw w1 I x L1 g r s' t N c n ∧ Gr (t :: L0) w0 w1 :=
  ⟨fun q hq => (hL q hq).elim (h0 q) (fun e => .inr (Nat.le_trans hg.size e)), h.grey hL hs hg1, hg.own hg1 (fun q hq => (h0 q hq).imp (fun e => by simp [e]) id)⟩
theorem shade_any (h : Tw w I x L g r s t N c n) {a q m f e : Nat} (hb : Ob x a q m) (hz : (m : Int) + 1 ≤ bz x.ks a) (hf : f ≤ e) (he : e ≤ m) :
    Calls Tryz.prog 211 #[.pointer (some ⟨t, 0, none⟩), .int .i64 a, .int .i64 f, .int .i64 e] w (Ta I x L g r (.tuple #[]) (shl r s (((fls x a).drop f).take (e - f))) t N c n w) := by
  obtain ⟨l1, l2⟩ := fls_ob hb
  have CM := Lib.hid (fun j (h1 : f ≤ j) (h2 : j < m) => cut_more (fls x a) (f := f) h1 (by omega))
  have VL := Lib.hid l2
  have GT := Lib.hid (fun W (hs : Sr W I x) (j : Nat) (hj : j < m) => Get_yes hs hb hj hz rfl rfl rfl)
  have m8 := hb.n8
  have HT := Lib.hid h
  generalize fls x a = l at *
  clear h hb hz l1 l2
  go_enter Tryz.func211, Tryz.ntmps211
  go_wp2
  go_loopw [8, 9, 10] (fun i _ _ wr => ∃ (j : Nat) (L' : List Nat), f ≤ j ∧ j ≤ e ∧ i = .int .i64 j ∧ (∀ q, q ∈ L' → q ∈ L ∨ w.heap.size ≤ q) ∧ Tw wr I x L' g r (shl r s ((l.drop f).take (j - f))) t N c n ∧ Gr (t :: L) w wr) (fun i _ _ _ => e - (intOf i).toNat)
  case atStart => exact ⟨f, L, Nat.le_refl _, hf, rfl, fun q hq => .inl hq, by rw [Nat.sub_self, List.take_zero]; exact HT.out, Gr.refl _ _⟩
  case round =>
    obtain ⟨j, L1, h1, h2, rfl, hl1, hT1, hg1⟩ := hrel
    have T1 := Lib.hid hT1
    have HL1 := Lib.hid hl1
    have G1 := Lib.hid hg1
    have c0 := hT1.tc.c0
    have c1 := hT1.tc.c1
    clear hT1 hl1 hg1
    by_cases hlt : j < e
    · have GJ := Lib.hid (GT.out wr T1.out.sr j (by omega))
      have HS := Lib.hid ((CM.out j h1 (by omega)).trans (by rw [VL.out j (by omega)]))
      generalize x.xs.getD (a + 1 + j) 0 = v at *
      have HR := Lib.hid (show rdv v = (wd.rk v, wd.rn v) from rfl)
      generalize wd.rk v = k at *
      generalize wd.rn v = mm at *
      generalize wd.rb v = bb at *
      have SH := Lib.hid (fun W (hg : wr.grownBy W none) => Shade_any (T1.out.gy.new hg) mm)
      have C1 := Lib.hid (fun W (hg : wr.grownBy W none) => (T1.out.tc.gr (Gr.new (L := []) hg) (by simp)).c1)
      by_cases hk : k = 2
      · subst hk
        have FIN := Lib.hid (show shv r (shl r s ((l.drop f).take (j - f))) (rdv v) = (shl r s ((l.drop f).take (j - f))).shade r mm by rw [HR.out]; rfl)
        go_wp2_with (go_at_call 83; (with_reducible refine GJ.out.mono ?_); rintro e2 w2 ⟨rfl, hg⟩; have G2 := Lib.hid (hg.trans (World.grownBy_alloc w2 (.cells #[.int .i64 2, .int .i64 mm] 36) none)); have d1 := C1.out _ G2.out; have d2 : (w2.alloc (.cells #[.int .i64 2, .int .i64 mm] 36)).cell? ⟨w2.heap.size, 1, none⟩ = some (.int .i64 mm) := (wd.Two.new w2 36 2 mm rfl).2.1; have HB := Lib.hid (show w2.heap.size ∉ L1 from fun hm => by have := T1.out.gy.lt _ hm; have := hg.size; omega); clear hg)
        go_region_held3 (fun W => W.cell? ⟨t, 1, none⟩ = some (.pointer (some ⟨g, 0, none⟩)) ∧ W.cell? ⟨w2.heap.size, 1, none⟩ = some (.int .i64 mm)) (first | exact d1 | exact d3 | go_keep) (first
          | (go_at_call 132; (with_reducible refine (SH.out _ (by first | exact G2.out | exact G2.out.trans (li.grown_drewN _ _ _) | exact G2.out.trans (gr.grown_drew _ _))).mono ?_); rintro e3 w3 ⟨rfl, L3, hl3, hs3, hg3⟩; have R3 := Lib.hid (Tw.then (T1.out.new (by first | exact G2.out | exact G2.out.trans (li.grown_drewN _ _ _) | exact G2.out.trans (gr.grown_drew _ _))) HL1.out (G1.out.made (by first | exact G2.out | exact G2.out.trans (li.grown_drewN _ _ _) | exact G2.out.trans (gr.grown_drew _ _))) (fun q hq => (hl3 q hq)) hs3 hg3); have d3 := (⟨R3.out.2.1.tc.c1, hg3.cell (p := ⟨w2.heap.size, 1, none⟩) d2 HB.out⟩ : w3.cell? ⟨t, 1, none⟩ = some (.pointer (some ⟨g, 0, none⟩)) ∧ w3.cell? ⟨w2.heap.size, 1, none⟩ = some (.int .i64 mm)); clear hl3 hs3 hg3))
        all_goals
          go_wp2
          go_roundw
          case rel => exact ⟨j + 1, L3, by omega, by omega, by go_num, R3.out.1, by rw [HS.out, shl_add, FIN.out]; exact R3.out.2.1, R3.out.2.2⟩
          case measure => simp [intOf]; omega
      · have t1 : (k == 2) = false := by simpa using hk
        have FIN := Lib.hid (show shv r (shl r s ((l.drop f).take (j - f))) (rdv v) = shl r s ((l.drop f).take (j - f)) by rw [HR.out]; exact if_neg hk)
        clear hk
        go_wp2_with (go_at_call 83; (with_reducible refine GJ.out.mono ?_); rintro e2 w2 ⟨rfl, hg⟩; have G2 := Lib.hid (hg.trans (World.grownBy_alloc w2 (.cells #[.int .i64 k, .int .i64 mm] 36) none)); clear hg)
        go_roundw
        case rel => exact ⟨j + 1, L1, by omega, by omega, by go_num, fun q hq => HL1.out q hq, by rw [HS.out, shl_add, FIN.out]; exact T1.out.new G2.out, G1.out.made G2.out⟩
        case measure => simp [intOf]; omega
    · obtain rfl : j = e := by omega
      go_wp2
      go_end0
      exact ⟨rfl, L1, HL1.out, T1.out, G1.out⟩
end
end Go.Proofs.YtkgdcgmbapchcaaGreatDoor.tc
namespace Go.Proofs.YtkgdcgmbapchcaaGreatDoor.tc
open Go.ChangeShapes Go.WideShapes Go.ChangeAt Go.RowKit gen calls cls geos ce st sh
set_option linter.unusedVariables false
set_option maxHeartbeats 4000000
set_option maxRecDepth 100000
section
variable {w w' : World} {I : Ids} {x : Hs} {L L' M : List Nat} {g r t N c n : Nat} {s s' : Ps}
theorem take_no (h : Tw w I x L g r s t N c n) (e1 e2 : Int) {m : Int} (FD : ∀ W, w.grownBy W none → Calls Tryz.prog 97 #[.pointer (some ⟨I.S, 0, none⟩), .int .i64 e1] W fun e w' => e = int1 m ∧ W.grownBy w' none) (hn : e2 < 0 ∨ m ≤ e2) :
    Calls Tryz.prog 140 #[.pointer (some ⟨t, 0, none⟩), .agg #[.int .i64 e1, .int .i64 e2]] w fun e w' => e = .returned (.tuple #[]) ∧ w.grownBy w' none := by
  have G0 := Lib.hid (World.grownBy_alloc w (.cells #[.int .i64 e1, .int .i64 e2] 157) none)
  have EB := Lib.hid (fun W (hg : (w.alloc (.cells #[.int .i64 e1, .int .i64 e2] 157)).grownBy W none) => ((sk.En.made w e1 e2).new hg).f)
  have T0 := Lib.hid (fun W (hg : w.grownBy W none) => (h.new hg).tc.c0)
  have FD := Lib.hid FD
  obtain ⟨b0, b1, _⟩ := EB.out _ (World.grownBy.refl _ _)
  have c0 := T0.out _ G0.out
  clear h
  by_cases h1 : e2 < 0
  · have t1 : decide (e2 < 0) = true := by simpa using h1
    clear hn h1
    go_enter Tryz.func140, Tryz.ntmps140
    go_wp2
    go_region_held3 (fun W => W.cell? ⟨t, 0, none⟩ = some (.pointer (some ⟨I.S, 0, none⟩)) ∧ W.cell? ⟨w.heap.size, 0, none⟩ = some (.int .i64 e1)) (first | exact c0 | exact b0 | go_keep) (first
      | (go_at_call 97; (with_reducible refine (FD.out _ (by first | exact G0.out | exact G0.out.trans (li.grown_drewN _ _ _) | exact G0.out.trans (gr.grown_drew _ _))).mono ?_); rintro e3 w3 ⟨rfl, hg⟩; have G3 := Lib.hid (show (w.alloc (.cells #[.int .i64 e1, .int .i64 e2] 157)).grownBy w3 none from World.grownBy.trans (by first | exact World.grownBy.refl _ _ | exact (li.grown_drewN _ _ _) | exact (gr.grown_drew _ _)) hg); have c3 := T0.out _ (G0.out.trans G3.out); obtain ⟨d0, d1, _⟩ := EB.out _ G3.out; clear hg))
    all_goals
      go_wp2
      refine bodyPost_ret (results_none rfl _ _ _) rfl ?_
      exact ⟨rfl, G0.out.trans G3.out⟩
  · have t1 : decide (e2 < 0) = false := by simpa using h1
    have t2 : decide (m ≤ e2) = true := by simp; omega
    clear hn h1
    go_enter Tryz.func140, Tryz.ntmps140
    go_wp2
    go_region_held3 (fun W => W.cell? ⟨t, 0, none⟩ = some (.pointer (some ⟨I.S, 0, none⟩)) ∧ W.cell? ⟨w.heap.size, 0, none⟩ = some (.int .i64 e1)) (first | exact c0 | exact b0 | go_keep) (first
      | (go_at_call 97; (with_reducible refine (FD.out _ (by first | exact G0.out | exact G0.out.trans (li.grown_drewN _ _ _) | exact G0.out.trans (gr.grown_drew _ _))).mono ?_); rintro e3 w3 ⟨rfl, hg⟩; have G3 := Lib.hid (show (w.alloc (.cells #[.int .i64 e1, .int .i64 e2] 157)).grownBy w3 none from World.grownBy.trans (by first | exact World.grownBy.refl _ _ | exact (li.grown_drewN _ _ _) | exact (gr.grown_drew _ _)) hg); have c3 := T0.out _ (G0.out.trans G3.out); obtain ⟨d0, d1, _⟩ := EB.out _ G3.out; clear hg))
    all_goals
      go_wp2
      refine bodyPost_ret (results_none rfl _ _ _) rfl ?_
      exact ⟨rfl, G0.out.trans G3.out⟩
theorem take_rest (h : Tw w I x L g r s t N c n) {a q m f : Nat} (hb : Ob x a q m) (hz : (m : Int) + 1 ≤ bz x.ks a) (hf : f + c < m) :
    Calls Tryz.prog 140 #[.pointer (some ⟨t, 0, none⟩), .agg #[.int .i64 a, .int .i64 f]] w (Ta I x L g r (.tuple #[]) (shl r (s.push r (a, ((f + c : Nat) : Int))) (((fls x a).drop f).take (f + c - f))) t N c n w) := by
  have G0 := Lib.hid (World.grownBy_alloc w (.cells #[.int .i64 a, .int .i64 f] 157) none)
  have EB := Lib.hid (fun W (hg : (w.alloc (.cells #[.int .i64 a, .int .i64 f] 157)).grownBy W none) => ((sk.En.made w a f).new hg))
  have T0 := Lib.hid (fun W (hg : w.grownBy W none) => h.new hg)
  have FD := Lib.hid (fun W (hg : w.grownBy W none) => Fields_yes (h.sr.new hg) hb)
  have RS := Lib.hid (fun W (hg : w.grownBy W none) => Rest_any (h.gy.new hg) a ((f + c : Nat) : Int))
  have SH := Lib.hid (fun W L1 (hT : Tw W I x L1 g r (s.push r ((a : Int), ((f + c : Nat) : Int))) t N c n) => shade_any hT hb hz (f := f) (e := f + c) (by omega) (by omega))
  have WL := Lib.hid h.gy.lt
  obtain ⟨b0, b1, _⟩ := (EB.out _ (World.grownBy.refl _ _)).f
  have c0 := (T0.out _ G0.out).tc.c0
  have m8 := hb.n8
  have e0 : ((f + c : Nat) : Int) = (f : Int) + c := by omega
  have f0 : (0 : Int) ≤ f := by omega
  have c16 := h.c1
  have k0 : (1 : Int) ≤ c := by omega
  have k1 : (c : Int) ≤ 16 := by omega
  have fm : (f : Int) < m := by omega
  have m9 : (m : Int) < 128 := by omega
  have fc : (f : Int) + c < m := by omega
  have qmin : min (m : Int) ((f : Int) + c) = (f : Int) + c := by omega
  have t1 : decide ((f : Int) < 0) = false := by simp
  have t2 : decide ((m : Int) ≤ f) = false := by simp; omega
  have t3 : decide ((f : Int) + c < m) = true := by simpa using fc
  rw [e0] at RS SH ⊢
  generalize fls x a = l at *
  generalize hfi : (f : Int) = fi at *
  generalize hmi : (m : Int) = mi at *
  have HL0 := Lib.hid (⟨hfi, hmi⟩ : _ ∧ _)
  clear h hb hz hf m8 e0 c16 hfi hmi
  go_enter Tryz.func140, Tryz.ntmps140
  go_wp2
  go_region_held3 (fun W => W.cell? ⟨t, 0, none⟩ = some (.pointer (some ⟨I.S, 0, none⟩)) ∧ W.cell? ⟨w.heap.size, 0, none⟩ = some (.int .i64 a)) (first | exact c0 | exact b0 | go_keep) (first
    | (go_at_call 97; (with_reducible refine (FD.out _ (by first | exact G0.out | exact G0.out.trans (li.grown_drewN _ _ _) | exact G0.out.trans (gr.grown_drew _ _))).mono ?_); rintro e3 w3 ⟨rfl, hg⟩; have G3 := Lib.hid (show (w.alloc (.cells #[.int .i64 a, .int .i64 fi] 157)).grownBy w3 none from World.grownBy.trans (by first | exact World.grownBy.refl _ _ | exact (li.grown_drewN _ _ _) | exact (gr.grown_drew _ _)) hg); have T3 := Lib.hid (T0.out _ (G0.out.trans G3.out)); have c3 := T3.out.tc.c3; have c30 := T3.out.tc.c0; have c31 := T3.out.tc.c1; have B3 := Lib.hid (EB.out _ G3.out); obtain ⟨d0, d1, _⟩ := B3.out.f; clear hg))
  all_goals
    go_wp2
    go_quiet (fail)
    go_wp2
    go_region_held3 (fun W => W.cell? ⟨t, 1, none⟩ = some (.pointer (some ⟨g, 0, none⟩)) ∧ W.cell? ⟨w.heap.size, 0, none⟩ = some (.int .i64 a)) (first | exact c31 | exact c41 | exact d0 | exact p0 | go_keep) (first
      | (go_at_call 210; (with_reducible refine (RS.out _ (by first | exact G0.out.trans G3.out | exact (G0.out.trans G3.out).trans (li.grown_drewN _ _ _) | exact (G0.out.trans G3.out).trans (gr.grown_drew _ _))).mono ?_); rintro e4 w4 ⟨rfl, L4, hl4, hs4, hg4⟩; have R4 := Lib.hid (Tw.then (w0 := w) (L0 := L) (T0.out _ (by first | exact G0.out.trans G3.out | exact (G0.out.trans G3.out).trans (li.grown_drewN _ _ _) | exact (G0.out.trans G3.out).trans (gr.grown_drew _ _))) (fun q hq => .inl hq) (Gr.new (by first | exact G0.out.trans G3.out | exact (G0.out.trans G3.out).trans (li.grown_drewN _ _ _) | exact (G0.out.trans G3.out).trans (gr.grown_drew _ _))) hl4 hs4 hg4); have B4 : sk.En w4 w.heap.size a fi := hg4.heap B3.out (fun hm => by have := WL.out _ hm; omega); obtain ⟨p0, p1, _⟩ := B4.f; have c41 := R4.out.2.1.tc.c1; clear hl4 hs4 hg4))
    all_goals
      go_wp2_with (go_at_call 211; (with_reducible refine (SH.out _ _ R4.out.2.1).mono ?_); rintro e5 w5 ⟨rfl, h5⟩; have R5 := Lib.hid h5; clear h5)
      go_end0
      exact Ta.after R4.out.1 R4.out.2.2 ⟨rfl, R5.out⟩
theorem take_all (h : Tw w I x L g r s t N c n) {a q m f : Nat} (hb : Ob x a q m) (hz : (m : Int) + 1 ≤ bz x.ks a) (hf : f < m) (hc : m ≤ f + c) :
    Calls Tryz.prog 140 #[.pointer (some ⟨t, 0, none⟩), .agg #[.int .i64 a, .int .i64 f]] w (Ta I x L g r (.tuple #[]) (shl r s (((fls x a).drop f).take (m - f))) t N c n w) := by
  have G0 := Lib.hid (World.grownBy_alloc w (.cells #[.int .i64 a, .int .i64 f] 157) none)
  have EB := Lib.hid (fun W (hg : (w.alloc (.cells #[.int .i64 a, .int .i64 f] 157)).grownBy W none) => ((sk.En.made w a f).new hg).f)
  have T0 := Lib.hid (fun W (hg : w.grownBy W none) => h.new hg)
  have FD := Lib.hid (fun W (hg : w.grownBy W none) => Fields_yes (h.sr.new hg) hb)
  have SH := Lib.hid (fun W (hg : w.grownBy W none) => shade_any (h.new hg) hb hz (f := f) (e := m) (by omega) (Nat.le_refl _))
  obtain ⟨b0, b1, _⟩ := EB.out _ (World.grownBy.refl _ _)
  have c0 := (T0.out _ G0.out).tc.c0
  have m8 := hb.n8
  have f0 : (0 : Int) ≤ f := by omega
  have c16 := h.c1
  have k0 : (1 : Int) ≤ c := by omega
  have k1 : (c : Int) ≤ 16 := by omega
  have fm : (f : Int) < m := by omega
  have m9 : (m : Int) < 128 := by omega
  have fc : (m : Int) ≤ (f : Int) + c := by omega
  have fc2 : ¬ ((f : Int) + c < m) := by omega
  have qmin : min (m : Int) ((f : Int) + c) = m := by omega
  have t1 : decide ((f : Int) < 0) = false := by simp
  have t2 : decide ((m : Int) ≤ f) = false := by simp; omega
  have t3 : decide ((m : Int) < m) = false := by simp
  generalize fls x a = l at *
  generalize hfi : (f : Int) = fi at *
  generalize hmi : (m : Int) = mi at *
  have HL0 := Lib.hid (⟨hfi, hmi⟩ : _ ∧ _)
  clear h hb hz hf hc m8 c16 hfi hmi
  go_enter Tryz.func140, Tryz.ntmps140
  go_wp2
  go_region_held3 (fun W => W.cell? ⟨t, 0, none⟩ = some (.pointer (some ⟨I.S, 0, none⟩)) ∧ W.cell? ⟨w.heap.size, 0, none⟩ = some (.int .i64 a)) (first | exact c0 | exact b0 | go_keep) (first
    | (go_at_call 97; (with_reducible refine (FD.out _ (by first | exact G0.out | exact G0.out.trans (li.grown_drewN _ _ _) | exact G0.out.trans (gr.grown_drew _ _))).mono ?_); rintro e3 w3 ⟨rfl, hg⟩; have G3 := Lib.hid (show (w.alloc (.cells #[.int .i64 a, .int .i64 fi] 157)).grownBy w3 none from World.grownBy.trans (by first | exact World.grownBy.refl _ _ | exact (li.grown_drewN _ _ _) | exact (gr.grown_drew _ _)) hg); have T3 := Lib.hid (T0.out _ (G0.out.trans G3.out)); have c3 := T3.out.tc.c3; have c30 := T3.out.tc.c0; obtain ⟨d0, d1, _⟩ := EB.out _ G3.out; clear hg))
  all_goals
    go_wp2
    go_quiet (fail)
    go_wp2_with (go_at_call 211; (with_reducible refine (SH.out _ (by first | exact G0.out.trans G3.out | exact (G0.out.trans G3.out).trans (li.grown_drewN _ _ _) | exact (G0.out.trans G3.out).trans (gr.grown_drew _ _))).mono ?_); rintro e5 w5 ⟨rfl, h5⟩; have R5 := Lib.hid h5; clear h5)
    go_end0
    exact Ta.after (fun q hq => .inl hq) (Gr.new (by first | exact G0.out.trans G3.out | exact (G0.out.trans G3.out).trans (li.grown_drewN _ _ _) | exact (G0.out.trans G3.out).trans (gr.grown_drew _ _))) ⟨rfl, R5.out⟩
theorem flo_in {a q m : Nat} (h : Ob x a q m) : flo x a = some (fls x a) := if_pos h.tk
theorem take_any (h : Tw w I x L g r s t N c n) (e1 e2 : Int) :
    Calls Tryz.prog 140 #[.pointer (some ⟨t, 0, none⟩), .agg #[.int .i64 e1, .int .i64 e2]] w (Ta I x L g r (.tuple #[]) (ent r c (flo x) s (e1, e2)) t N c n w) := by
  have hs8 := h.s8
  by_cases hin : e1 ∈ x.tk
  · obtain ⟨a, q, m, rfl, hb, hz, _⟩ := h.iv.ob hin (by omega)
    obtain ⟨l1, _⟩ := fls_ob hb
    by_cases hr : 0 ≤ e2 ∧ e2 < m
    · obtain ⟨f, rfl⟩ : ∃ f : Nat, e2 = f := ⟨e2.toNat, by omega⟩
      have E : ent r c (flo x) s ((a : Int), (f : Int)) = shl r (if (f : Int) + c < (m : Int) then s.push r (a, (f : Int) + c) else s) (((fls x a).drop f).take c) := by
        unfold ent
        dsimp only
        rw [flo_in hb]
        dsimp only
        rw [l1, if_pos hr, Int.toNat_natCast]
      rw [E]
      by_cases hc : f + c < m
      · have := take_rest h hb hz hc
        rw [if_pos (by omega), ← show ((f + c : Nat) : Int) = (f : Int) + c by omega]
        rwa [show f + c - f = c by omega] at this
      · have := take_all h hb hz (f := f) (by omega) (by omega)
        rw [if_neg (by omega)]
        rwa [List.take_of_length_le (by rw [List.length_drop]; omega), ← List.take_of_length_le (l := (fls x a).drop f) (i := c) (by rw [List.length_drop]; omega)] at this
    · have E : ent r c (flo x) s ((a : Int), e2) = s := by
        unfold ent
        dsimp only
        rw [flo_in hb]
        dsimp only
        rw [l1, if_neg hr]
      rw [E]
      exact (take_no h a e2 (fun W hg => Fields_yes (h.sr.new hg) hb) (by omega)).mono fun e w' ⟨h1, h2⟩ => by subst h1; exact Ta.same h h2
  · have E : ent r c (flo x) s (e1, e2) = s := by
      unfold ent
      dsimp only
      rw [show flo x e1 = none from if_neg hin]
    rw [E]
    exact (take_no h e1 e2 (fun W hg => Fields_no (h.sr.new hg) hin) (by omega)).mono fun e w' ⟨h1, h2⟩ => by subst h1; exact Ta.same h h2
end
end Go.Proofs.YtkgdcgmbapchcaaGreatDoor.tc
