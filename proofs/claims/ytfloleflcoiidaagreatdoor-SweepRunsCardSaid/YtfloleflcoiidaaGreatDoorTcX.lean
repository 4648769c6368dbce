/- Joined: SlA, TcA, TcS. -/
import Derived.Test.YtfloleflcoiidaaGreatDoorStV
import Derived.Test.YtfloleflcoiidaaGreatDoorShY
/- How a store makes an object: in which way, and what it leaves. -/
namespace Go.Proofs.YtfloleflcoiidaaGreatDoor.st
open Go.ChangeShapes Go.WideShapes Go.ChangeAt Go.RowKit Go.Maps gen calls cls geos ce
set_option linter.unusedVariables false
set_option maxHeartbeats 4000000
set_option maxRecDepth 100000
/-- The next free cell of page p, of class k, is at a. -/
structure Cel (x : Hs) (p a z : Nat) (f : Int) (rest : List Int) (k : Int) : Prop where
  kd : pg.kind x.ks p = k
  kk : 1 ≤ k ∧ k ≤ 4
  fr : x.fr p = f :: rest
  at_ : (a : Int) = p * 32 + f * sz k
  sz_ : sz k = z
/-- A large one; from the thread's page; from another page; from one that is carved. -/
def SlL (x : Hs) (n : Nat) (y : Hs) (a : Nat) : Prop := (16 ≤ n ∧ n ≤ 127) ∧ ∃ p N z : Nat, pgs n = N ∧ 1 ≤ N ∧ pg.find N 0 x.ks = some p ∧ a = p * 32 ∧ z = N * 32 ∧ y = (x.spanned p N a z).begun a n
def SlF (x : Hs) (t : Int) (n : Nat) (y : Hs) (a : Nat) : Prop := n ≤ 15 ∧ ∃ (p z : Nat) (f : Int) (rest : List Int), ca.page x.own t (ofn n) = p ∧ Cel x p a z f rest (ofn n) ∧ y = (x.took p f rest a z).begun a n
def SlM (x : Hs) (t : Int) (n : Nat) (y : Hs) (a : Nat) : Prop := n ≤ 15 ∧ Noc x (ca.page x.own t (ofn n)) ∧ ∃ (p z : Nat) (f : Int) (rest : List Int), p < 64 ∧ fit x (ofn n) p = true ∧ (∀ q : Nat, q < p → fit x (ofn n) q = false) ∧ Cel x p a z f rest (ofn n) ∧ y = ((x.owned t (ofn n) p).took p f rest a z).begun a n
def SlC (x : Hs) (t : Int) (n : Nat) (y : Hs) (a : Nat) : Prop := n ≤ 15 ∧ Noc x (ca.page x.own t (ofn n)) ∧ (∀ q : Nat, q < 64 → fit x (ofn n) q = false) ∧ ∃ (p z m0 n0 : Nat) (f : Int) (rest : List Int), pg.find 1 0 x.ks = some p ∧ sz (ofn n) = m0 ∧ cl (ofn n) = n0 ∧ Cel (x.carved p (ofn n) m0 n0) p a z f rest (ofn n) ∧ y = (((x.carved p (ofn n) m0 n0).owned t (ofn n) p).took p f rest a z).begun a n
def Slo (x : Hs) (t : Int) (n : Nat) (y : Hs) (a : Nat) : Prop := SlL x n y a ∨ SlF x t n y a ∨ SlM x t n y a ∨ SlC x t n y a
/-- There is no room. -/
def Sno (x : Hs) (t : Int) (n : Nat) : Prop := ((16 ≤ n ∧ n ≤ 127) ∧ ∃ N : Nat, pgs n = N ∧ 1 ≤ N ∧ pg.find N 0 x.ks = none) ∨ (n ≤ 15 ∧ Noc x (ca.page x.own t (ofn n)) ∧ (∀ q : Nat, q < 64 → fit x (ofn n) q = false) ∧ pg.find 1 0 x.ks = none)
section
variable {w w' : World} {I : Ids} {x y : Hs} {t : Int} {n a : Nat}
theorem Slo_dec (V : Iv x) (h1 : n ≤ 127) (ht : 0 ≤ t ∧ t < x.T) : (∃ y a, Slo x t n y a) ∨ Sno x t n := by
  by_cases h16 : 16 ≤ n
  · obtain ⟨_, _, N, hN, N1, N4, hN2⟩ := cl_ofn5 (n := n) (by omega) (by omega)
    cases hf : pg.find N 0 x.ks with
    | none => exact .inr (.inl ⟨⟨h16, h1⟩, N, hN, N1, hf⟩)
    | some p => exact .inl ⟨_, _, .inl ⟨⟨h16, h1⟩, p, N, _, hN, N1, hf, rfl, rfl, rfl⟩⟩
  · obtain ⟨hk, _, hsz⟩ := cl_ofn (n := n) (by omega) (by omega)
    rcases page_dec V t (ofn n) with ⟨p, f, rest, hp, hkp, _, hfr⟩ | hno
    · obtain ⟨a, m, ha, hm⟩ := cell_num V.ok (by omega) hfr
      rw [hkp] at ha hm
      exact .inl ⟨_, a, .inr (.inl ⟨by omega, p, m, f, rest, hp, ⟨hkp, hk, hfr, ha, hm⟩, rfl⟩)⟩
    · rcases low (fun q => fit x (ofn n) q) 64 with ⟨p, p64, hf, hl⟩ | hl
      · have hf' := hf
        unfold fit at hf'
        simp only [Bool.and_eq_true, decide_eq_true_eq, beq_iff_eq] at hf'
        obtain ⟨⟨f1, f2⟩, f3⟩ := hf'
        have tl := (V.ok.told (p := p) (by omega)).2.1
        cases hfr : x.fr p with
        | nil => rw [hfr] at tl; simp at tl; omega
        | cons f rest =>
          obtain ⟨a, m, ha, hm⟩ := cell_num V.ok (p := p) (by omega) hfr
          rw [f1] at ha hm
          exact .inl ⟨_, a, .inr (.inr (.inl ⟨by omega, hno, p, m, f, rest, p64, hf, hl, ⟨f1, hk, hfr, ha, hm⟩, rfl⟩))⟩
      · cases hf : pg.find 1 0 x.ks with
        | none => exact .inr (.inr ⟨by omega, hno, hl, hf⟩)
        | some p =>
          obtain ⟨m0, n0, e1, e2, e3, e4, e5, e6, e7⟩ := ch.sz_cl hk.1 hk.2
          obtain ⟨V1, K1, ne⟩ := V.carved hk hf e1 e2
          have q := Ok.free0 (n := 1) (by omega) hf
          have pl : p < x.ks.length := by omega
          have kd : pg.kind (x.carved p (ofn n) m0 n0).ks p = ofn n := by show pg.kind (x.ks.set p (ofn n)) p = _; rw [kind_set pl, if_pos rfl]
          obtain ⟨n1, rfl⟩ : ∃ n1, n0 = n1 + 1 := ⟨n0 - 1, by omega⟩
          have hfr : (x.carved p (ofn n) m0 (n1 + 1)).fr p = ((0 : Nat) : Int) :: ch.from_ 1 n1 := upd_same _ _ _
          obtain ⟨a, m, ha, hm⟩ := cell_num V1.ok (p := p) (by omega) hfr
          rw [kd] at ha hm
          exact .inl ⟨_, a, .inr (.inr (.inr ⟨by omega, hno, hl, p, m, m0, _, _, _, hf, e1, e2, ⟨kd, hk, hfr, ha, hm⟩, rfl⟩))⟩
theorem Sno_prog (H : Sr w I x) (V : Iv x) (ht : 0 ≤ t ∧ t < x.T) (h : Sno x t n) :
    Calls Tryz.prog 23 #[.pointer (some ⟨I.S, 0, none⟩), .int .i64 t, .int .i64 n] w fun e w' => e = rE 0 10 ∧ w.grownBy w' none := by
  have T9 : x.T ≤ 9 := by obtain ⟨D, C⟩ := H.at_; exact C.few
  have tf : fits t = true := by simp [fits]; omega
  rcases h with ⟨h1, N, hN, N1, hf⟩ | ⟨h1, hno, hl, hf⟩
  · exact Slow_no H ⟨by omega, ht⟩ (take_large_no H t (by omega) (by omega) (by rw [hN]; exact hf))
  · obtain ⟨hk, _, hsz⟩ := cl_ofn (n := n) (by omega) (by omega)
    exact Slow_no H ⟨by omega, ht⟩ (take_full H t (by omega) (by omega) tf hno (open_full H hk hl hf))
theorem Slo_le (h : Slo x t n y a) : n ≤ 127 := by
  rcases h with ⟨h, _⟩ | ⟨h, _⟩ | ⟨h, _⟩ | ⟨h, _⟩ <;> omega
/-- What it leaves. -/
theorem Slo_iv (V : Iv x) (s8 : x.cnt < 1099511627776) (ht : 0 ≤ t ∧ t < x.T) (h : Slo x t n y a) : Iv y ∧ Kp (fun _ => True) x y ∧ Made x y a n ∧ y.T = x.T := by
  rcases h with ⟨h1, p, N, z, hN, N1, hf, ha, hz, rfl⟩ | ⟨h1, p, z, f, rest, hp, C, rfl⟩ | ⟨h1, hno, p, z, f, rest, p64, hf, hl, C, rfl⟩ | ⟨h1, hno, hl, p, z, m0, n0, f, rest, hf, e1, e2, C, rfl⟩
  · obtain ⟨_, _, N', hN', _, _, hN2⟩ := cl_ofn5 (n := n) (by omega) (by omega)
    obtain rfl : N = N' := by omega
    obtain ⟨V1, K1, M1⟩ := V.spanned (n := n) (by omega) s8 N1 hf ha hz (by omega)
    exact ⟨V1, K1, M1, rfl⟩
  all_goals
    obtain ⟨hk, _, hsz⟩ := cl_ofn (n := n) (by omega) (by omega)
    obtain ⟨c1, c2, c3, c4, c5⟩ := C
  · obtain ⟨V1, K1, M1⟩ := V.took (n := n) (by omega) s8 (by omega) c3 (by rw [c1]; exact c4) (by rw [c1]; exact c5) (by omega)
    exact ⟨V1, K1, M1, rfl⟩
  · have hf' := hf
    unfold fit at hf'
    simp only [Bool.and_eq_true, decide_eq_true_eq, beq_iff_eq] at hf'
    obtain ⟨⟨f1, f2⟩, f3⟩ := hf'
    have ne := (ca.owner_neg V.good p).1 (by omega)
    obtain ⟨V1, K1, M1⟩ := (V.owned ht hk p64 f1 ne).took (n := n) (p := p) (by omega) s8 (show 1 ≤ pg.kind x.ks p ∧ pg.kind x.ks p ≤ 4 by omega) c3 (show (a : Int) = p * 32 + f * sz (pg.kind x.ks p) by rw [c1]; exact c4) (show sz (pg.kind x.ks p) = z by rw [c1]; exact c5) (by omega)
    exact ⟨V1, K1, ⟨M1.not, M1.ob, M1.room, M1.zero, M1.cnt⟩, rfl⟩
  · obtain ⟨V0, K0, ne⟩ := V.carved hk hf e1 e2
    have q := Ok.free0 (n := 1) (by omega) hf
    have fw := V.ok.few
    obtain ⟨V1, K1, M1⟩ := (V0.owned ht hk (p := p) (by omega) c1 ne).took (n := n) (p := p) (by omega) s8 (show 1 ≤ pg.kind (x.carved p (ofn n) m0 n0).ks p ∧ pg.kind (x.carved p (ofn n) m0 n0).ks p ≤ 4 by omega) c3 (show (a : Int) = p * 32 + f * sz (pg.kind (x.carved p (ofn n) m0 n0).ks p) by rw [c1]; exact c4) (show sz (pg.kind (x.carved p (ofn n) m0 n0).ks p) = z by rw [c1]; exact c5) (by omega)
    exact ⟨V1, K0.trans K1, ⟨M1.not, M1.ob, M1.room, M1.zero, M1.cnt⟩, rfl⟩
theorem Slo_prog (H : Sr w I x) (V : Iv x) (s8 : x.cnt < 1099511627776) (ht : 0 ≤ t ∧ t < x.T) (h : Slo x t n y a) :
    Calls Tryz.prog 23 #[.pointer (some ⟨I.S, 0, none⟩), .int .i64 t, .int .i64 n] w (Done I (.tuple #[.int .i64 a, .int .i64 0]) y w) := by
  have T9 : x.T ≤ 9 := by obtain ⟨D, C⟩ := H.at_; exact C.few
  have tf : fits t = true := by simp [fits]; omega
  have hle := Slo_le h
  have may : ∀ {c : Nat}, c = x.cnt → hd.May c n := fun h => ⟨by omega, by omega, by omega, by omega⟩
  refine Slow_yes H ⟨by omega, ht⟩ ?_
  rcases h with ⟨h1, p, N, z, hN, N1, hf, ha, hz, rfl⟩ | ⟨h1, p, z, f, rest, hp, C, rfl⟩ | ⟨h1, hno, p, z, f, rest, p64, hf, hl, C, rfl⟩ | ⟨h1, hno, hl, p, z, m0, n0, f, rest, hf, e1, e2, C, rfl⟩
  · exact take_large_yes H t (by omega) (by omega) (may rfl) hN hf ha hz
  all_goals
    obtain ⟨hk, _, hsz⟩ := cl_ofn (n := n) (by omega) (by omega)
    obtain ⟨c1, c2, c3, c4, c5⟩ := C
  · exact take_fast H t (by omega) (by omega) tf hp (may rfl) (by omega) c3 (by rw [c1]; exact c4) (by rw [c1]; exact c5)
  · have hf' := hf
    unfold fit at hf'
    simp only [Bool.and_eq_true, decide_eq_true_eq, beq_iff_eq] at hf'
    obtain ⟨⟨f1, f2⟩, f3⟩ := hf'
    have ne := (ca.owner_neg V.good p).1 (by omega)
    have my : ca.may x.T x.own t (ofn n) p = true := by unfold ca.may ca.place; simp; omega
    exact take_more H (y := x) (by omega) (by omega) tf hno (open_found H hk p64 hf hl) my (may rfl) (by omega) c3 (by rw [c1]; exact c4) (by rw [c1]; exact c5)
  · obtain ⟨V0, K0, ne⟩ := V.carved hk hf e1 e2
    have q := Ok.free0 (n := 1) (by omega) hf
    have fw := V.ok.few
    have my : ca.may x.T x.own t (ofn n) p = true := by
      have := ca.owner_no ne
      unfold ca.may ca.place; rw [this]; simp; omega
    exact take_more H (y := x.carved p (ofn n) m0 n0) (by omega) (by omega) tf hno (open_carve H hk hl hf e1 e2) my (may rfl) (by omega) c3 (by rw [c1]; exact c4) (by rw [c1]; exact c5)
end
end Go.Proofs.YtfloleflcoiidaaGreatDoor.st

/- Plain: a unit of a tracer, over marks, what waits, a page, and objects by lists. A tracer's object in memory. -/
namespace Go.Proofs.YtfloleflcoiidaaGreatDoor.tc
open Go.ChangeShapes Go.WideShapes Go.ChangeAt Go.RowKit gen calls cls geos ce st sh
set_option linter.unusedVariables false
set_option maxHeartbeats 4000000
set_option maxRecDepth 100000
abbrev Va := Int × Int
/-- A word, read. -/
def rdv (v : Int) : Va := (wd.rk v, wd.rn v)
/-- The fields of what begins at a. -/
def fls (x : Hs) (a : Int) : List Va := (List.range (x.xs.getD a.toNat 0 % 128).toNat).map fun j => rdv (x.xs.getD (a.toNat + 1 + j) 0)
/-- The same, if there is an object. -/
def flo (x : Hs) (a : Int) : Option (List Va) := if a ∈ x.tk then some (fls x a) else none
/-- The objects of a page. -/
def inp (x : Hs) (p : Int) : List Int := x.tk.filter fun a => decide (a / 32 = p)
/-- One field shades what it refers to. -/
def shv (r : Nat) (s : Ps) (v : Va) : Ps := if v.1 = 2 then s.shade r v.2 else s
def shl (r : Nat) (s : Ps) (l : List Va) : Ps := l.foldl (shv r) s
theorem shl_add (r : Nat) (s : Ps) (l : List Va) (v : Va) : shl r s (l ++ [v]) = shv r (shl r s l) v := by simp [shl]
/-- An entry is gone through. -/
def ent (r c : Nat) (F : Int → Option (List Va)) (s : Ps) (e : Va) : Ps :=
  match F e.1 with
  | none => s
  | some l => if 0 ≤ e.2 ∧ e.2 < l.length then shl r (if e.2 + c < l.length then s.push r (e.1, e.2 + c) else s) ((l.drop e.2.toNat).take c) else s
/-- An object is looked at. -/
def lok (r : Nat) (F : Int → Option (List Va)) (s : Ps) (a : Int) : Ps := if isb s.ws a = true then shl r s ((F a).getD []) else s
/-- Marks and what waits, and the page that is looked at next; -1: none. -/
structure Ts where
  s : Ps
  p : Int
def looked (r N : Nat) (F : Int → Option (List Va)) (G : Int → List Int) (s : Ps) (p : Int) : Ts := ⟨(G p).foldl (lok r F) s, if p + 1 < N then p + 1 else -1⟩
/-- Is there nothing to do? -/
def Ts.idle (z : Ts) : Bool := decide (z.s.m = []) && decide (z.p < 0) && !z.s.b
/-- What a unit leaves. -/
def Ts.unit (r N c : Nat) (F : Int → Option (List Va)) (G : Int → List Int) (z : Ts) : Ts :=
  if z.s.m ≠ [] then ⟨ent r c F z.s.pop (top z.s.m), z.p⟩
  else if 0 ≤ z.p then looked r N F G z.s z.p
  else if z.s.b = true then looked r N F G z.s.settle 0
  else z
/-- How many pages are still to be looked at. -/
def left (N : Nat) (p : Int) : Nat := if p < 0 then 0 else (N - p).toNat
section
variable {w w' : World} {I : Ids} {x : Hs} {L L' M : List Nat} {g r t N c n : Nat} {s s' : Ps} {p p' : Int} {A : Int}
theorem fls_len (a : Int) : (fls x a).length = (x.xs.getD a.toNat 0 % 128).toNat := by simp [fls]
theorem fls_ob {a q n : Nat} (h : Ob x a q n) : (fls x a).length = n ∧ ∀ j, j < n → (fls x a).getD j (0, 0) = rdv (x.xs.getD (a + 1 + j) 0) := by
  have e : (x.xs.getD (a : Int).toNat 0 % 128).toNat = n := by have := h.wd; have := h.n8; rw [Int.toNat_natCast]; omega
  refine ⟨by rw [fls_len, e], fun j hj => ?_⟩
  unfold fls
  rw [e]
  simp [List.getD_eq_getElem?_getD, hj]
theorem apart_new {K : List Nat} (h : ∀ q, q ∈ L → q ∉ K) (hK : ∀ q, q ∈ K → q < w.heap.size) (hL : ∀ q, q ∈ L' → q ∈ L ∨ w.heap.size ≤ q) : ∀ q, q ∈ L' → q ∉ K := fun q hq hm => by
  rcases hL q hq with e | e
  · exact h q e hm
  · have := hK q hm; omega
end
end Go.Proofs.YtfloleflcoiidaaGreatDoor.tc

/- A store's own: all objects, those of a page. -/
namespace Go.Proofs.YtfloleflcoiidaaGreatDoor.tc
open Go.ChangeShapes Go.WideShapes Go.ChangeAt Go.RowKit gen calls cls geos ce st sh
set_option linter.unusedVariables false
set_option maxHeartbeats 4000000
set_option maxRecDepth 100000
section
variable {w w' : World} {I : Ids} {x : Hs}
theorem Objects_any (H : Sr w I x) (hT : bm.Tab w) (h0 : I.s ≠ 0) : Calls Tryz.prog 12 #[.pointer (some ⟨I.S, 0, none⟩)] w (bm.ListAns x.tk w) := by
  obtain ⟨ws, H0, e⟩ := H.hp
  have AL := Lib.hid (ce.All_any H0 hT h0)
  rw [e] at AL
  have f0 := H.s0
  clear H H0 hT h0 e
  go_enter Tryz.func12, Tryz.ntmps12
  go_wp2_with (first
    | (go_at_call 38; (with_reducible refine (known_yes _ _).mono ?_); rintro e w' ⟨rfl, rfl⟩)
    | (go_at_call 39; (with_reducible refine AL.out.mono ?_); rintro e w2 ⟨A, d, rfl, ho, hg⟩; have O2 := Lib.hid ho; have G2 := Lib.hid hg; clear ho hg))
  go_ret
  exact ⟨A, d, rfl, O2.out, G2.out⟩
theorem tk_in (O : Ok x.ks x.xs x.cs x.tk x.fr) {a : Int} (ha : a ∈ x.tk) : 0 ≤ a ∧ a ≤ 2047 := by
  have h1 := bz_in O ha
  have h2 := bz_pos O ha
  have h3 := O.len
  have h4 := O.few
  omega
theorem inp_more (tk : List Int) (p : Int) {k : Nat} (hk : k < tk.length) : (tk.take (k + 1)).filter (fun a => decide (a / 32 = p)) = if tk.getD k 0 / 32 = p then (tk.take k).filter (fun a => decide (a / 32 = p)) ++ [tk.getD k 0] else (tk.take k).filter (fun a => decide (a / 32 = p)) := by
  rw [li.take_more hk 0, List.filter_append]
  generalize tk.getD k 0 = a
  by_cases h : a / 32 = p
  · rw [if_pos h]; simp [h]
  · rw [if_neg h]; simp [h]
theorem In_any (H : Sr w I x) (hT : bm.Tab w) (h0 : I.s ≠ 0) (p : Int) : Calls Tryz.prog 41 #[.pointer (some ⟨I.S, 0, none⟩), .int .i64 p] w (li.ListAns (inp x p) w) := by
  obtain ⟨i0, hi, hz0, hz1, hz2⟩ := info_parts li.info_int
  have E : Hid (i0.zero = some (.int .i64 0) ∧ i0.size = 1 ∧ i0.bytes = 8 ∧ Tryz.prog.info? 3 = some i0) := ⟨hz0, hz1, hz2, hi⟩
  clear hi hz0 hz1 hz2
  have OB := Lib.hid (Objects_any H hT h0)
  have TK := Lib.hid (fun a (ha : a ∈ x.tk) => tk_in H.ok ha)
  obtain ⟨n, hn⟩ : ∃ n, x.tk.length = n := ⟨_, rfl⟩
  have hn2 : n ≤ 2048 := by
    obtain ⟨ws, _, e⟩ := H.hp
    rw [← hn, ← e]
    exact bm.nums_length ws
  rw [show bm.ListAns x.tk w = fun e w' => ∃ A c, e = .returned (.slice A n c) ∧ w'.ownsRow w.heap.size 3 1 (.slice A n c) n (bm.ints x.tk) ∧ w.grownBy w' none by rw [← hn]; rfl] at OB
  have HN := Lib.hid hn
  have MO := Lib.hid (fun k (hk : k < n) => inp_more x.tk p (k := k) (by omega))
  have GM := Lib.hid (fun k (hk : k < n) => li.getD_mem (xs := x.tk) (k := k) (by omega) 0)
  have IP := Lib.hid (show inp x p = (x.tk.take n).filter (fun a => decide (a / 32 = p)) by rw [List.take_of_length_le (by omega)]; rfl)
  have LE := Lib.hid (fun k => (show ((x.tk.take k).filter (fun a => decide (a / 32 = p))).length ≤ 2048 from by have := List.length_filter_le (fun a => decide (a / 32 = p)) (x.tk.take k); rw [List.length_take] at this; omega))
  generalize x.tk = tk at *
  clear H hT h0 hn
  go_enter Tryz.func41, Tryz.ntmps41
  go_wp2_with (first
    | (go_at_call 12; (with_reducible refine OB.out.mono ?_); rintro e w2 ⟨A, c, rfl, ho, hg⟩; have R2 := Lib.hid (bm.rd_own ho); have G2 := Lib.hid hg; clear ho hg))
  go_loopw [5, 7, 11] (fun v _ i wr => ∃ (k : Nat) (A' : Option Addr) (m c' : Nat), k ≤ n ∧ i = .int .i64 k ∧ m = ((tk.take k).filter (fun a => decide (a / 32 = p))).length ∧ v = .slice A' m c' ∧ wr.ownsRow w2.heap.size 3 1 (.slice A' m c') m (li.ints ((tk.take k).filter (fun a => decide (a / 32 = p)))) ∧ w2.grownBy wr none) (fun _ _ i _ => n - (intOf i).toNat)
  case atStart => exact ⟨0, none, 0, 0, Nat.zero_le _, rfl, rfl, rfl, World.ownsRow_nil _ _ _ _, World.grownBy.refl _ _⟩
  case round =>
    obtain ⟨k, A', m, c', hk, rfl, hm, rfl, ho, hg⟩ := hrel
    have HO := Lib.hid ho
    have HG := Lib.hid hg
    have HM := Lib.hid hm
    have SZW := Lib.hid (show w2.heap.size ≤ wr.heap.size from hg.size)
    clear ho hg hm
    by_cases hlt : k < n
    · obtain ⟨b1, o1, rfl, g1⟩ := (bm.Rd.below' R2.out (li.grown_below HG.out) HG.out.size).at_ hlt
      have M1 := Lib.hid (MO.out k hlt)
      have T1 := TK.out _ (GM.out k hlt)
      have L1 := Lib.hid (LE.out k)
      generalize tk.getD k 0 = a at *
      obtain ⟨a0, a1⟩ := T1
      have PG := Lib.hid (fun W => (geos.page_any a W))
      rw [geos.pgOf_yes a0 a1] at PG
      by_cases hp : a / 32 = p
      · have t1 : (a / 32 == p) = true := by simpa using hp
        have M2 := Lib.hid (M1.out.trans (if_pos hp))
        clear hp M1
        go_wp2_with (first
          | (go_at_call 68; (with_reducible refine (PG.out _).mono ?_); rintro e w' ⟨rfl, rfl⟩)
          | (refine wpList_append_rd rfl (.tmp 19) (.tmp 21) 31 rfl w2.heap.size 3 i0 (.int .i64 0) 8 Tryz.underlying31 E.out.2.2.2 E.out.1 E.out.2.1 E.out.2.2.1 rfl _ m _ rfl (HO.out.alloc _) (some ⟨wr.heap.size, 0, none⟩) 1 1 _ [a] rfl (li.Rd.one _ _ _) (by have := HM.out; have := L1.out; unfold maxLen; omega) (by have := HM.out; have := L1.out; omega) (by have := SZW.out; simp; omega) ?_; intro A6 c6 w6 own1 rd1 gr1; have OWN1 := Lib.hid own1; have GR1 := Lib.hid gr1; clear own1 gr1 rd1))
        go_roundw
        case rel => exact ⟨k + 1, A6, m + 1, c6, by omega, by go_num, by rw [M2.out, List.length_append, ← HM.out]; rfl, rfl, by rw [M2.out]; simpa [li.ints] using OWN1.out, li.grown_one HG.out HO.out (by simp) GR1.out⟩
        case measure => simp [intOf]; omega
      · have t1 : (a / 32 == p) = false := by simpa using hp
        have M2 := Lib.hid (M1.out.trans (if_neg hp))
        clear hp M1
        go_wp2_with (first
          | (go_at_call 68; (with_reducible refine (PG.out _).mono ?_); rintro e w' ⟨rfl, rfl⟩))
        go_roundw
        case rel => exact ⟨k + 1, A', m, c', by omega, by go_num, by rw [M2.out, ← HM.out], rfl, by rw [M2.out]; exact HO.out, HG.out⟩
        case measure => simp [intOf]; omega
    · obtain rfl : k = n := by omega
      go_wp2
      go_ret
      rw [IP.out]
      have hm := HM.out
      subst hm
      exact ⟨A', c', rfl, bm.own_mono HO.out G2.out.size, G2.out.trans HG.out⟩
end
end Go.Proofs.YtfloleflcoiidaaGreatDoor.tc
