/- How a store makes an object: in which way, and what it leaves. -/
import Derived.Test.YtacjleladjgkeaaGreatDoorStV
namespace Go.Proofs.YtacjleladjgkeaaGreatDoor.st
open Go.ChangeShapes Go.WideShapes Go.ChangeAt Go.RowKit Go.Maps gen calls cls geos ce
set_option linter.unusedVariables false
set_option maxHeartbeats 4000000
set_option maxRecDepth 100000
/-- The next free cell of page p, of class k, is at a. -/
structure Cel (x : Hs) (p a z : Nat) (f : Int) (rest : List Int) (k : Int) : Prop where
  kd : pg.kind x.ks p = k
  kk : 1 ≤ k ∧ k ≤ 4
  fr : x.fr p = f :: rest
  at_ : (a : Int) = p * 32 + f * sz k
  sz_ : sz k = z
/-- A large one; from the thread's page; from another page; from one that is carved. -/
def SlL (x : Hs) (n : Nat) (y : Hs) (a : Nat) : Prop := (16 ≤ n ∧ n ≤ 127) ∧ ∃ p N z : Nat, pgs n = N ∧ 1 ≤ N ∧ pg.find N 0 x.ks = some p ∧ a = p * 32 ∧ z = N * 32 ∧ y = (x.spanned p N a z).begun a n
def SlF (x : Hs) (t : Int) (n : Nat) (y : Hs) (a : Nat) : Prop := n ≤ 15 ∧ ∃ (p z : Nat) (f : Int) (rest : List Int), ca.page x.own t (ofn n) = p ∧ Cel x p a z f rest (ofn n) ∧ y = (x.took p f rest a z).begun a n
def SlM (x : Hs) (t : Int) (n : Nat) (y : Hs) (a : Nat) : Prop := n ≤ 15 ∧ Noc x (ca.page x.own t (ofn n)) ∧ ∃ (p z : Nat) (f : Int) (rest : List Int), p < 64 ∧ fit x (ofn n) p = true ∧ (∀ q : Nat, q < p → fit x (ofn n) q = false) ∧ Cel x p a z f rest (ofn n) ∧ y = ((x.owned t (ofn n) p).took p f rest a z).begun a n
def SlC (x : Hs) (t : Int) (n : Nat) (y : Hs) (a : Nat) : Prop := n ≤ 15 ∧ Noc x (ca.page x.own t (ofn n)) ∧ (∀ q : Nat, q < 64 → fit x (ofn n) q = false) ∧ ∃ (p z m0 n0 : Nat) (f : Int) (rest : List Int), pg.find 1 0 x.ks = some p ∧ sz (ofn n) = m0 ∧ cl (ofn n) = n0 ∧ Cel (x.carved p (ofn n) m0 n0) p a z f rest (ofn n) ∧ y = (((x.carved p (ofn n) m0 n0).owned t (ofn n) p).took p f rest a z).begun a n
def Slo (x : Hs) (t : Int) (n : Nat) (y : Hs) (a : Nat) : Prop := SlL x n y a ∨ SlF x t n y a ∨ SlM x t n y a ∨ SlC x t n y a
/-- There is no room. -/
def Sno (x : Hs) (t : Int) (n : Nat) : Prop := ((16 ≤ n ∧ n ≤ 127) ∧ ∃ N : Nat, pgs n = N ∧ 1 ≤ N ∧ pg.find N 0 x.ks = none) ∨ (n ≤ 15 ∧ Noc x (ca.page x.own t (ofn n)) ∧ (∀ q : Nat, q < 64 → fit x (ofn n) q = false) ∧ pg.find 1 0 x.ks = none)
section
variable {w w' : World} {I : Ids} {x y : Hs} {t : Int} {n a : Nat}
theorem Slo_dec (V : Iv x) (h1 : n ≤ 127) (ht : 0 ≤ t ∧ t < x.T) : (∃ y a, Slo x t n y a) ∨ Sno x t n := by
  by_cases h16 : 16 ≤ n
  · obtain ⟨_, _, N, hN, N1, N4, hN2⟩ := cl_ofn5 (n := n) (by omega) (by omega)
    cases hf : pg.find N 0 x.ks with
    | none => exact .inr (.inl ⟨⟨h16, h1⟩, N, hN, N1, hf⟩)
    | some p => exact .inl ⟨_, _, .inl ⟨⟨h16, h1⟩, p, N, _, hN, N1, hf, rfl, rfl, rfl⟩⟩
  · obtain ⟨hk, _, hsz⟩ := cl_ofn (n := n) (by omega) (by omega)
    rcases page_dec V t (ofn n) with ⟨p, f, rest, hp, hkp, _, hfr⟩ | hno
    · obtain ⟨a, m, ha, hm⟩ := cell_num V.ok (by omega) hfr
      rw [hkp] at ha hm
      exact .inl ⟨_, a, .inr (.inl ⟨by omega, p, m, f, rest, hp, ⟨hkp, hk, hfr, ha, hm⟩, rfl⟩)⟩
    · rcases low (fun q => fit x (ofn n) q) 64 with ⟨p, p64, hf, hl⟩ | hl
      · have hf' := hf
        unfold fit at hf'
        simp only [Bool.and_eq_true, decide_eq_true_eq, beq_iff_eq] at hf'
        obtain ⟨⟨f1, f2⟩, f3⟩ := hf'
        have tl := (V.ok.told (p := p) (by omega)).2.1
        cases hfr : x.fr p with
        | nil => rw [hfr] at tl; simp at tl; omega
        | cons f rest =>
          obtain ⟨a, m, ha, hm⟩ := cell_num V.ok (p := p) (by omega) hfr
          rw [f1] at ha hm
          exact .inl ⟨_, a, .inr (.inr (.inl ⟨by omega, hno, p, m, f, rest, p64, hf, hl, ⟨f1, hk, hfr, ha, hm⟩, rfl⟩))⟩
      · cases hf : pg.find 1 0 x.ks with
        | none => exact .inr (.inr ⟨by omega, hno, hl, hf⟩)
        | some p =>
          obtain ⟨m0, n0, e1, e2, e3, e4, e5, e6, e7⟩ := ch.sz_cl hk.1 hk.2
          obtain ⟨V1, K1, ne⟩ := V.carved hk hf e1 e2
          have q := Ok.free0 (n := 1) (by omega) hf
          have pl : p < x.ks.length := by omega
          have kd : pg.kind (x.carved p (ofn n) m0 n0).ks p = ofn n := by show pg.kind (x.ks.set p (ofn n)) p = _; rw [kind_set pl, if_pos rfl]
          obtain ⟨n1, rfl⟩ : ∃ n1, n0 = n1 + 1 := ⟨n0 - 1, by omega⟩
          have hfr : (x.carved p (ofn n) m0 (n1 + 1)).fr p = ((0 : Nat) : Int) :: ch.from_ 1 n1 := upd_same _ _ _
          obtain ⟨a, m, ha, hm⟩ := cell_num V1.ok (p := p) (by omega) hfr
          rw [kd] at ha hm
          exact .inl ⟨_, a, .inr (.inr (.inr ⟨by omega, hno, hl, p, m, m0, _, _, _, hf, e1, e2, ⟨kd, hk, hfr, ha, hm⟩, rfl⟩))⟩
theorem Sno_prog (H : Sr w I x) (V : Iv x) (ht : 0 ≤ t ∧ t < x.T) (h : Sno x t n) :
    Calls Tryz.prog 24 #[.pointer (some ⟨I.S, 0, none⟩), .int .i64 t, .int .i64 n] w fun e w' => e = rE 0 10 ∧ w.grownBy w' none := by
  have T9 : x.T ≤ 9 := by obtain ⟨D, C⟩ := H.at_; exact C.few
  have tf : fits t = true := by simp [fits]; omega
  rcases h with ⟨h1, N, hN, N1, hf⟩ | ⟨h1, hno, hl, hf⟩
  · exact Slow_no H ⟨by omega, ht⟩ (take_large_no H t (by omega) (by omega) (by rw [hN]; exact hf))
  · obtain ⟨hk, _, hsz⟩ := cl_ofn (n := n) (by omega) (by omega)
    exact Slow_no H ⟨by omega, ht⟩ (take_full H t (by omega) (by omega) tf hno (open_full H hk hl hf))
theorem Slo_le (h : Slo x t n y a) : n ≤ 127 := by
  rcases h with ⟨h, _⟩ | ⟨h, _⟩ | ⟨h, _⟩ | ⟨h, _⟩ <;> omega
/-- What it leaves. -/
theorem Slo_iv (V : Iv x) (s8 : x.cnt < 1099511627776) (ht : 0 ≤ t ∧ t < x.T) (h : Slo x t n y a) : Iv y ∧ Kp (fun _ => True) x y ∧ Made x y a n ∧ y.T = x.T := by
  rcases h with ⟨h1, p, N, z, hN, N1, hf, ha, hz, rfl⟩ | ⟨h1, p, z, f, rest, hp, C, rfl⟩ | ⟨h1, hno, p, z, f, rest, p64, hf, hl, C, rfl⟩ | ⟨h1, hno, hl, p, z, m0, n0, f, rest, hf, e1, e2, C, rfl⟩
  · obtain ⟨_, _, N', hN', _, _, hN2⟩ := cl_ofn5 (n := n) (by omega) (by omega)
    obtain rfl : N = N' := by omega
    obtain ⟨V1, K1, M1⟩ := V.spanned (n := n) (by omega) s8 N1 hf ha hz (by omega)
    exact ⟨V1, K1, M1, rfl⟩
  all_goals
    obtain ⟨hk, _, hsz⟩ := cl_ofn (n := n) (by omega) (by omega)
    obtain ⟨c1, c2, c3, c4, c5⟩ := C
  · obtain ⟨V1, K1, M1⟩ := V.took (n := n) (by omega) s8 (by omega) c3 (by rw [c1]; exact c4) (by rw [c1]; exact c5) (by omega)
    exact ⟨V1, K1, M1, rfl⟩
  · have hf' := hf
    unfold fit at hf'
    simp only [Bool.and_eq_true, decide_eq_true_eq, beq_iff_eq] at hf'
    obtain ⟨⟨f1, f2⟩, f3⟩ := hf'
    have ne := (ca.owner_neg V.good p).1 (by omega)
    obtain ⟨V1, K1, M1⟩ := (V.owned ht hk p64 f1 ne).took (n := n) (p := p) (by omega) s8 (show 1 ≤ pg.kind x.ks p ∧ pg.kind x.ks p ≤ 4 by omega) c3 (show (a : Int) = p * 32 + f * sz (pg.kind x.ks p) by rw [c1]; exact c4) (show sz (pg.kind x.ks p) = z by rw [c1]; exact c5) (by omega)
    exact ⟨V1, K1, ⟨M1.not, M1.ob, M1.room, M1.zero, M1.cnt⟩, rfl⟩
  · obtain ⟨V0, K0, ne⟩ := V.carved hk hf e1 e2
    have q := Ok.free0 (n := 1) (by omega) hf
    have fw := V.ok.few
    obtain ⟨V1, K1, M1⟩ := (V0.owned ht hk (p := p) (by omega) c1 ne).took (n := n) (p := p) (by omega) s8 (show 1 ≤ pg.kind (x.carved p (ofn n) m0 n0).ks p ∧ pg.kind (x.carved p (ofn n) m0 n0).ks p ≤ 4 by omega) c3 (show (a : Int) = p * 32 + f * sz (pg.kind (x.carved p (ofn n) m0 n0).ks p) by rw [c1]; exact c4) (show sz (pg.kind (x.carved p (ofn n) m0 n0).ks p) = z by rw [c1]; exact c5) (by omega)
    exact ⟨V1, K0.trans K1, ⟨M1.not, M1.ob, M1.room, M1.zero, M1.cnt⟩, rfl⟩
theorem Slo_prog (H : Sr w I x) (V : Iv x) (s8 : x.cnt < 1099511627776) (ht : 0 ≤ t ∧ t < x.T) (h : Slo x t n y a) :
    Calls Tryz.prog 24 #[.pointer (some ⟨I.S, 0, none⟩), .int .i64 t, .int .i64 n] w (Done I (.tuple #[.int .i64 a, .int .i64 0]) y w) := by
  have T9 : x.T ≤ 9 := by obtain ⟨D, C⟩ := H.at_; exact C.few
  have tf : fits t = true := by simp [fits]; omega
  have hle := Slo_le h
  have may : ∀ {c : Nat}, c = x.cnt → hd.May c n := fun h => ⟨by omega, by omega, by omega, by omega⟩
  refine Slow_yes H ⟨by omega, ht⟩ ?_
  rcases h with ⟨h1, p, N, z, hN, N1, hf, ha, hz, rfl⟩ | ⟨h1, p, z, f, rest, hp, C, rfl⟩ | ⟨h1, hno, p, z, f, rest, p64, hf, hl, C, rfl⟩ | ⟨h1, hno, hl, p, z, m0, n0, f, rest, hf, e1, e2, C, rfl⟩
  · exact take_large_yes H t (by omega) (by omega) (may rfl) hN hf ha hz
  all_goals
    obtain ⟨hk, _, hsz⟩ := cl_ofn (n := n) (by omega) (by omega)
    obtain ⟨c1, c2, c3, c4, c5⟩ := C
  · exact take_fast H t (by omega) (by omega) tf hp (may rfl) (by omega) c3 (by rw [c1]; exact c4) (by rw [c1]; exact c5)
  · have hf' := hf
    unfold fit at hf'
    simp only [Bool.and_eq_true, decide_eq_true_eq, beq_iff_eq] at hf'
    obtain ⟨⟨f1, f2⟩, f3⟩ := hf'
    have ne := (ca.owner_neg V.good p).1 (by omega)
    have my : ca.may x.T x.own t (ofn n) p = true := by unfold ca.may ca.place; simp; omega
    exact take_more H (y := x) (by omega) (by omega) tf hno (open_found H hk p64 hf hl) my (may rfl) (by omega) c3 (by rw [c1]; exact c4) (by rw [c1]; exact c5)
  · obtain ⟨V0, K0, ne⟩ := V.carved hk hf e1 e2
    have q := Ok.free0 (n := 1) (by omega) hf
    have fw := V.ok.few
    have my : ca.may x.T x.own t (ofn n) p = true := by
      have := ca.owner_no ne
      unfold ca.may ca.place; rw [this]; simp; omega
    exact take_more H (y := x.carved p (ofn n) m0 n0) (by omega) (by omega) tf hno (open_carve H hk hl hf e1 e2) my (may rfl) (by omega) c3 (by rw [c1]; exact c4) (by rw [c1]; exact c5)
end
end Go.Proofs.YtacjleladjgkeaaGreatDoor.st
