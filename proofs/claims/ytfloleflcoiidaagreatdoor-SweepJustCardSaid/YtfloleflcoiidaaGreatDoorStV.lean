/- Joined: StI, StJ, StK. -/
import Derived.Test.YtfloleflcoiidaaGreatDoorStW
/- Plain: what stands in a store, and what each change leaves. -/
namespace Go.Proofs.YtfloleflcoiidaaGreatDoor.st
open Go.RowKit calls cls geos ce
set_option linter.unusedVariables false
set_option maxRecDepth 100000
/-- A store by lists that is whole: all that is taken is an object, whose pages have their class. -/
structure Iv (x : Hs) : Prop where
  ok : Ok x.ks x.xs x.cs x.tk x.fr
  live : Live x.ks x.xs x.tk x.cnt
  kin : Kin x.ks x.own
  good : ca.Good x.T x.own
/-- What is left as it was. -/
abbrev Kp (P : Int → Prop) (x y : Hs) : Prop := Keep P x.ks x.xs x.tk y.ks y.xs y.tk
/-- A new object at a. -/
structure Made (x y : Hs) (a n : Nat) : Prop where
  not : (a : Int) ∉ x.tk
  ob : (a : Int) ∈ y.tk ∧ y.xs.getD a 0 = (x.cnt : Int) * 128 + n
  room : (n : Int) + 1 ≤ bz y.ks a
  zero : ∀ j : Nat, 1 ≤ j → j ≤ n → y.xs.getD (a + j) 0 = 0
  cnt : y.cnt = x.cnt + 1
section
variable {x y z : Hs} {P : Int → Prop}
theorem Iv.class (V : Iv x) {o : ca.Ow} (ho : o ∈ x.own) : ∃ p : Nat, o.2.2 = p ∧ 1 ≤ pg.kind x.ks p ∧ pg.kind x.ks p ≤ 4 := by
  have hb := V.good.bnd o ho
  have hk := V.kin o ho
  obtain ⟨p, e⟩ : ∃ p : Nat, o.2.2 = p := ⟨o.2.2.toNat, by omega⟩
  rw [e] at hk
  exact ⟨p, e, by omega, by omega⟩
/-- The first word of one that was granted is written. -/
theorem made_of {ks cs tk : List Int} {fr : Nat → List Int} {cnt a n m : Nat} {ks0 xs0 cs0 tk0 : List Int} {fr0 : Nat → List Int}
    (O0 : Ok ks0 xs0 cs0 tk0 fr0) (L : Live ks0 xs0 tk0 cnt) (K : Keep (fun _ => True) ks0 xs0 tk0 ks (mm.fillN xs0 a 0 m) tk) (O : Ok ks (mm.fillN xs0 a 0 m) cs tk fr) (hn : (a : Int) ∉ tk0)
    (ht : ∀ b, b ∈ tk ↔ b ∈ tk0 ∨ b = a) (hz : bz ks a = m) (hx : a + m ≤ xs0.length) (n8 : n < 128) (nm : n + 1 ≤ m) (s8 : cnt < 1099511627776) :
    Ok ks ((mm.fillN xs0 a 0 m).set a ((cnt : Int) * 128 + n)) cs tk fr ∧ Live ks ((mm.fillN xs0 a 0 m).set a ((cnt : Int) * 128 + n)) tk (cnt + 1) ∧
      Keep (fun _ => True) ks0 xs0 tk0 ks ((mm.fillN xs0 a 0 m).set a ((cnt : Int) * 128 + n)) tk ∧ ((mm.fillN xs0 a 0 m).set a ((cnt : Int) * 128 + n)).getD a 0 = (cnt : Int) * 128 + n ∧
      ∀ j : Nat, 1 ≤ j → j ≤ n → ((mm.fillN xs0 a 0 m).set a ((cnt : Int) * 128 + n)).getD (a + j) 0 = 0 := by
  have am : (a : Int) ∈ tk := (ht a).2 (.inr rfl)
  have hl : a < (mm.fillN xs0 a 0 m).length := by rw [mm.fillN_length]; omega
  have K2 := (K.mono (Q := fun b => b ≠ a) (fun _ _ => trivial)).trans (Keep.store O am (Int.le_refl _) (by omega) ((cnt : Int) * 128 + n))
  have K3 : Keep (fun _ => True) ks0 xs0 tk0 ks ((mm.fillN xs0 a 0 m).set a ((cnt : Int) * 128 + n)) tk := fun b hb _ => K2 b hb (fun e => hn (e ▸ hb))
  have hv : ((mm.fillN xs0 a 0 m).set a ((cnt : Int) * 128 + n)).getD a 0 = (cnt : Int) * 128 + n := by rw [ch.set_getD _ _ _ _ hl, if_pos rfl]
  refine ⟨(O.store (by rw [base_in O am (Int.le_refl _) (by omega)]; omega) (by omega)).1, L.keep O0 K3 (by omega) fun b hb => ?_, K3, hv, fun j h1 h2 => ?_⟩
  · rcases (ht b).1 hb with h | rfl
    · exact .inl ⟨h, trivial⟩
    · exact .inr ⟨cnt, n, by omega, n8, by rw [hz]; omega, by rw [Int.toNat_natCast]; exact hv⟩
  · rw [ch.set_getD _ _ _ _ hl, if_neg (by omega), ch.fillN_getD _ _ _ _ hx, if_pos (by omega)]
theorem Iv.took (V : Iv x) {p a m n : Nat} {f : Int} {rest : List Int} (n8 : n < 128) (s8 : x.cnt < 1099511627776) (hk : 1 ≤ pg.kind x.ks p ∧ pg.kind x.ks p ≤ 4) (hfr : x.fr p = f :: rest) (ha : (a : Int) = p * 32 + f * sz (pg.kind x.ks p)) (hz : sz (pg.kind x.ks p) = m) (nm : n + 1 ≤ m) :
    Iv ((x.took p f rest a m).begun a n) ∧ Kp (fun _ => True) x ((x.took p f rest a m).begun a n) ∧ Made x ((x.took p f rest a m).begun a n) a n := by
  obtain ⟨O', hn⟩ := V.ok.take hk hfr ha hz
  obtain ⟨K, e, hx⟩ := Keep.take V.ok hk hfr ha hz
  have M := made_of V.ok V.live K O' hn (fun b => by rw [bm.mem_rising]; simp) e hx n8 nm s8
  exact ⟨⟨M.1, M.2.1, V.kin, V.good⟩, M.2.2.1, ⟨hn, ⟨by simp [Hs.begun, Hs.took, bm.mem_rising], M.2.2.2.1⟩, by show _ ≤ bz x.ks a; rw [e]; omega, M.2.2.2.2, rfl⟩⟩
theorem Iv.spanned (V : Iv x) {p a m n N : Nat} (n8 : n < 128) (s8 : x.cnt < 1099511627776) (h1 : 1 ≤ N) (hf : pg.find N 0 x.ks = some p) (ha : a = p * 32) (hz : m = N * 32) (nm : n + 1 ≤ m) :
    Iv ((x.spanned p N a m).begun a n) ∧ Kp (fun _ => True) x ((x.spanned p N a m).begun a n) ∧ Made x ((x.spanned p N a m).begun a n) a n := by
  obtain ⟨O', hn⟩ := V.ok.large h1 hf ha hz
  obtain ⟨K, e, hx⟩ := Keep.large V.ok h1 hf ha hz
  obtain ⟨q1, q2⟩ := Ok.free0 h1 hf
  have M := made_of V.ok V.live K O' hn (fun b => by rw [bm.mem_rising]; simp) e hx n8 nm s8
  refine ⟨⟨M.1, M.2.1, fun o ho => ?_, V.good⟩, M.2.2.1, ⟨hn, ⟨by simp [Hs.begun, Hs.spanned, bm.mem_rising], M.2.2.2.1⟩, by show _ ≤ bz (pg.spanN x.ks p N) a; rw [e]; omega, M.2.2.2.2, rfl⟩⟩
  obtain ⟨q, e, k1, k4⟩ := V.class ho
  have := V.kin o ho
  show pg.kind (pg.spanN x.ks p N) o.2.2 = o.2.1
  rw [← this, e, kind_span h1 q1, if_neg (fun h => ?_), if_neg (fun h => ?_)]
  · have := q2 q (by omega) (by omega); omega
  · have := q2 q (by omega) (by omega); omega
theorem Iv.carved (V : Iv x) {p m n : Nat} {k : Int} (hk : 1 ≤ k ∧ k ≤ 4) (hf : pg.find 1 0 x.ks = some p) (hz : sz k = m) (hn : cl k = n) : Iv (x.carved p k m n) ∧ Kp (fun _ => True) x (x.carved p k m n) ∧ ∀ o ∈ x.own, o.2.2 ≠ p := by
  obtain ⟨q1, q2⟩ := Ok.free0 (n := 1) (by omega) hf
  have k0 := q2 p (by omega) (by omega)
  have K := Keep.carve V.ok hk hf hz hn
  have ne : ∀ o ∈ x.own, o.2.2 ≠ p := fun o ho e => by
    obtain ⟨q, e2, k1, k4⟩ := V.class ho
    rw [← e2, e] at k1
    omega
  refine ⟨⟨V.ok.carve hk hf hz hn, V.live.keep V.ok K (Nat.le_refl _) (fun b hb => .inl ⟨hb, trivial⟩), fun o ho => ?_, V.good⟩, K, ne⟩
  show pg.kind (x.ks.set p k) o.2.2 = o.2.1
  rw [kind_set (by omega), if_neg (ne o ho)]
  exact V.kin o ho
theorem Iv.owned (V : Iv x) {t k : Int} {p : Nat} (ht : 0 ≤ t ∧ t < x.T) (hk : 1 ≤ k ∧ k ≤ 4) (p64 : p < 64) (hp : pg.kind x.ks p = k) (ne : ∀ o ∈ x.own, o.2.2 ≠ p) : Iv (x.owned t k p) := by
  refine ⟨V.ok, V.live, fun o ho => ?_, V.good.put ⟨ht, hk, by omega, by omega⟩ ne⟩
  rcases List.mem_append.1 ho with h | h
  · exact V.kin o (List.mem_filter.1 h).1
  · simp at h
    subst h
    exact hp
theorem Iv.left (V : Iv x) (t : Int) : Iv (x.left t) := ⟨V.ok, V.live, fun o ho => V.kin o (List.mem_filter.1 ho).1, V.good.filter _⟩
theorem Iv.dropped (V : Iv x) {p : Int} (h : dropb x p = true) (ne : ∀ o ∈ x.own, o.2.2 ≠ p) : Iv (x.dropped p.toNat) ∧ Kp (fun _ => True) x (x.dropped p.toNat) := by
  unfold dropb at h
  simp only [Bool.and_eq_true, decide_eq_true_eq] at h
  obtain ⟨⟨h1, h2⟩, h3⟩ := h
  obtain ⟨q, rfl, q64, ql⟩ := there V.ok.few (z := p) (by omega)
  rw [Int.toNat_natCast] at *
  have K := Keep.drop V.ok ⟨h1, h2⟩ h3
  refine ⟨⟨V.ok.drop ⟨h1, h2⟩ h3, V.live.keep V.ok K (Nat.le_refl _) (fun b hb => .inl ⟨hb, trivial⟩), fun o ho => ?_, V.good⟩, K⟩
  show pg.kind (x.ks.set q 0) o.2.2 = o.2.1
  rw [kind_set ql, if_neg (ne o ho)]
  exact V.kin o ho
theorem Iv.dstep (V : Iv x) (k : Nat) {p : Int} (ne : ∀ o ∈ x.own, o.2.2 ≠ p) : Iv (dstep (x, k) p).1 ∧ Kp (fun _ => True) x (dstep (x, k) p).1 ∧ (dstep (x, k) p).1.own = x.own ∧ (dstep (x, k) p).1.cnt = x.cnt ∧ (dstep (x, k) p).1.T = x.T := by
  by_cases h : dropb x p = true
  · rw [show st.dstep (x, k) p = (x.dropped p.toNat, k + 1) from if_pos h]
    have := V.dropped h ne
    exact ⟨this.1, this.2, rfl, rfl, rfl⟩
  · rw [show st.dstep (x, k) p = (x, k) from if_neg h]
    exact ⟨V, Keep.refl _ _ _ _, rfl, rfl, rfl⟩
theorem Iv.drps (ps : List Int) : ∀ (x : Hs) (k : Nat), Iv x → (∀ p ∈ ps, ∀ o ∈ x.own, o.2.2 ≠ p) → Iv (ps.foldl st.dstep (x, k)).1 ∧ Kp (fun _ => True) x (ps.foldl st.dstep (x, k)).1 ∧ (ps.foldl st.dstep (x, k)).1.cnt = x.cnt ∧ (ps.foldl st.dstep (x, k)).1.T = x.T := by
  induction ps with
  | nil => intro x k V _; exact ⟨V, Keep.refl _ _ _ _, rfl, rfl⟩
  | cons p ps ih =>
    intro x k V ne
    obtain ⟨a1, a2, a3, a4, a5⟩ := V.dstep k (ne p (by simp))
    obtain ⟨b1, b2, b3, b4⟩ := ih (st.dstep (x, k) p).1 (st.dstep (x, k) p).2 a1 (fun q hq o ho => ne q (by simp [hq]) o (a3 ▸ ho))
    rw [List.foldl_cons]
    exact ⟨b1, a2.trans b2, b3.trans a4, b4.trans a5⟩
/-- A thread's pages are nobody's when it has left. -/
theorem left_none (V : Iv x) (t : Int) : ∀ p ∈ x.pgs t, ∀ o ∈ (x.left t).own, o.2.2 ≠ p := fun p hp o ho e => by
  unfold Hs.pgs at hp
  rw [bm.mem_rising] at hp
  unfold ca.gone at hp
  rw [List.mem_map] at hp
  obtain ⟨o2, h2, e2⟩ := hp
  rw [List.mem_filter] at h2
  have h1 := List.mem_filter.1 ho
  have := V.good.one' h1.1 h2.1 (e.trans e2.symm)
  subst this
  have h3 := h1.2
  rw [h2.2] at h3
  cases h3
theorem Iv.goneC (V : Iv x) {a p : Nat} {i : Int} (ha : (a : Int) ∈ x.tk) (hP : (a : Int) / 32 = p) (hk : 1 ≤ pg.kind x.ks p ∧ pg.kind x.ks p ≤ 4) (hi : (a : Int) % 32 / sz (pg.kind x.ks p) = i) : Iv (x.goneC a p i) ∧ Kp (fun b => b ≠ a) x (x.goneC a p i) := by
  have K := Keep.gone_cell V.ok ha (-1 - cf x.cs p)
  refine ⟨⟨(V.ok.gone_cell ha hP hk hi).1, V.live.keep V.ok K (Nat.le_refl _) (fun b hb => ?_), V.kin, V.good⟩, K⟩
  have hb' := List.mem_filter.1 hb
  exact .inl ⟨hb'.1, by simpa using hb'.2⟩
theorem Iv.goneL (V : Iv x) {a p : Nat} (ha : (a : Int) ∈ x.tk) (hP : (a : Int) / 32 = p) (hk : pg.kind x.ks p = 5) : Iv (x.goneL a p) ∧ Kp (fun b => b ≠ a) x (x.goneL a p) := by
  have K := Keep.gone_large V.ok ha hP hk
  have hs := siz_ge (ks := x.ks) (p := p) (by omega)
  have hin := pg.siz_in (xs := x.ks) (p := p) (by omega)
  have hle : p + (pg.siz x.ks p).toNat ≤ x.ks.length := by omega
  refine ⟨⟨V.ok.gone_large ha hP hk, V.live.keep V.ok K (Nat.le_refl _) (fun b hb => ?_), fun o ho => ?_, V.good⟩, K⟩
  · have hb' := List.mem_filter.1 hb
    exact .inl ⟨hb'.1, by simpa using hb'.2⟩
  · obtain ⟨q, e, k1, k4⟩ := V.class ho
    have := V.kin o ho
    show pg.kind (pg.fillN x.ks p 0 (pg.siz x.ks p).toNat) o.2.2 = o.2.1
    rw [← this, e, kind_fill hle, if_neg (fun h => ?_)]
    by_cases e2 : (q : Int) = p
    · rw [e2] at k4; omega
    · have := (large_pages hk (q - p) (by omega)).1 (by omega)
      rw [show ((p + (q - p) : Nat) : Int) = q by omega] at this
      omega
theorem Iv.stored (V : Iv x) {a s n j : Nat} {v : Int} (hb : Ob x a s n) (hz : (n : Int) + 1 ≤ bz x.ks a) (hj : j < n) (hv : -9223372036854775808 ≤ v ∧ v ≤ 9223372036854775807) (hs : s < x.cnt) : Iv (x.stored (a + 1 + j) v) ∧ Kp (fun b => b ≠ a) x (x.stored (a + 1 + j) v) ∧ (x.stored (a + 1 + j) v).xs.getD a 0 = (s : Int) * 128 + n ∧ (x.stored (a + 1 + j) v).xs.getD (a + 1 + j) 0 = v := by
  have K := Keep.store V.ok hb.tk (x := a + 1 + j) (by omega) (by omega) v
  have hin := bz_in V.ok hb.tk
  have hl : a + 1 + j < x.xs.length := by omega
  have h0 : (x.xs.set (a + 1 + j) v).getD a 0 = (s : Int) * 128 + n := by rw [ch.set_getD _ _ _ _ hl, if_neg (by omega)]; exact hb.wd
  refine ⟨⟨(V.ok.store (by rw [base_in V.ok hb.tk (by omega) (by omega)]; omega) hv).1, V.live.keep V.ok K (Nat.le_refl _) (fun b hb' => ?_), V.kin, V.good⟩, K, h0, by show (x.xs.set _ _).getD _ _ = _; rw [ch.set_getD _ _ _ _ hl, if_pos rfl]⟩
  by_cases e : b = a
  · subst e
    exact .inr ⟨s, n, hs, hb.n8, hz, by rw [Int.toNat_natCast]; exact h0⟩
  · exact .inl ⟨hb', e⟩
end
end Go.Proofs.YtfloleflcoiidaaGreatDoor.st

/- What each call of a store leaves, whatever it is asked. -/
namespace Go.Proofs.YtfloleflcoiidaaGreatDoor.st
open Go.ChangeShapes Go.WideShapes Go.ChangeAt Go.RowKit Go.Maps gen calls cls geos ce
set_option linter.unusedVariables false
set_option maxHeartbeats 4000000
set_option maxRecDepth 100000
/-- What a call leaves. -/
structure Ch (I : Ids) (P : Int → Prop) (x y : Hs) (w w' : World) : Prop where
  sr : Sr w' I y
  iv : Iv y
  kp : Kp P x y
  cnt : y.cnt ≤ x.cnt + 1
  T : y.T = x.T
  gr : Gr I.L w w'
/-- A call that has ended, whatever it answers. -/
def Any (I : Ids) (P : Int → Prop) (x : Hs) (w : World) (e : Ending) (w' : World) : Prop := ∃ v y, e = .returned v ∧ Ch I P x y w w'
section
variable {w w' : World} {I : Ids} {x y : Hs} {P : Int → Prop}
theorem Ch.same (H : Sr w I x) (V : Iv x) (hg : w.grownBy w' none) : Ch I P x x w w' := ⟨H.new hg, V, Keep.refl _ _ _ _, by omega, rfl, .new hg⟩
theorem Ch.mono {Q : Int → Prop} (C : Ch I P x y w w') (h : ∀ b, Q b → P b) : Ch I Q x y w w' := ⟨C.sr, C.iv, C.kp.mono h, C.cnt, C.T, C.gr⟩
theorem low (f : Nat → Bool) (n : Nat) : (∃ q, q < n ∧ f q = true ∧ ∀ r, r < q → f r = false) ∨ ∀ q, q < n → f q = false := by
  induction n with
  | zero => exact .inr (fun q h => absurd h (by omega))
  | succ n ih =>
    rcases ih with ⟨q, h1, h2, h3⟩ | h
    · exact .inl ⟨q, by omega, h2, h3⟩
    · cases hf : f n with
      | true => exact .inl ⟨n, by omega, hf, h⟩
      | false =>
        refine .inr (fun q hq => ?_)
        by_cases e : q = n
        · rw [e]; exact hf
        · exact h q (by omega)
theorem cell_num {ks xs cs tk : List Int} {fr : Nat → List Int} (O : Ok ks xs cs tk fr) {p : Nat} {f : Int} {rest : List Int} (hk : 1 ≤ pg.kind ks p ∧ pg.kind ks p ≤ 4) (hfr : fr p = f :: rest) : ∃ a m : Nat, (a : Int) = p * 32 + f * sz (pg.kind ks p) ∧ sz (pg.kind ks p) = m := by
  obtain ⟨_, _, d1⟩ := O.tkt hk hfr
  have r := room d1.1 d1.2
  have h0 := Int.mul_nonneg d1.1 (Int.le_of_lt r.1)
  exact ⟨((p : Int) * 32 + f * sz (pg.kind ks p)).toNat, (sz (pg.kind ks p)).toNat, by omega, by omega⟩
/-- A new object, and what it leaves. -/
def New1 (I : Ids) (x : Hs) (a n : Nat) (w w' : World) : Prop := ∃ y, Ch I (fun _ => True) x y w w' ∧ Made x y a n
theorem took_new {p a m n : Nat} {f : Int} {rest : List Int} (V : Iv x) (V0 : Iv y) (K0 : Kp (fun _ => True) x y) (hcnt : y.cnt = x.cnt) (hT : y.T = x.T) (htk : y.tk = x.tk) (n8 : n < 128) (s8 : x.cnt < 1099511627776) (hk : 1 ≤ pg.kind y.ks p ∧ pg.kind y.ks p ≤ 4) (hfr : y.fr p = f :: rest) (ha : (a : Int) = p * 32 + f * sz (pg.kind y.ks p)) (hz : sz (pg.kind y.ks p) = m) (nm : n + 1 ≤ m)
    (hs : Sr w' I ((y.took p f rest a m).begun a n)) (hg : Gr I.L w w') : New1 I x a n w w' := by
  obtain ⟨V1, K1, M1⟩ := V0.took n8 (by omega) hk hfr ha hz nm
  exact ⟨_, ⟨hs, V1, K0.trans K1, by have := M1.cnt; omega, hT, hg⟩, ⟨by rw [← htk]; exact M1.not, by rw [← hcnt]; exact M1.ob, M1.room, M1.zero, by rw [← hcnt]; exact M1.cnt⟩⟩
theorem page_mem {own : List ca.Ow} {t k : Int} (h : ca.page own t k ≠ -1) : (t, k, ca.page own t k) ∈ own := by
  unfold ca.page at h ⊢
  split at h
  · rename_i o ho
    have hm := List.mem_of_find?_eq_some ho
    have hp := List.find?_some ho
    simp at hp
    obtain ⟨a, b, c⟩ := o
    simp at hp ⊢
    obtain ⟨rfl, rfl⟩ := hp
    exact hm
  · exact absurd rfl h
/-- Thread t's page for a small class has a free cell, or has none. -/
theorem page_dec (V : Iv x) (t k : Int) : (∃ (p : Nat) (f : Int) (rest : List Int), ca.page x.own t k = p ∧ pg.kind x.ks p = k ∧ (1 ≤ k ∧ k ≤ 4) ∧ x.fr p = f :: rest) ∨ Noc x (ca.page x.own t k) := by
  by_cases h : ca.page x.own t k = -1
  · right
    rw [h]
    intro h1
    have := pg.kind_out (xs := x.ks) (p := -1) (by omega)
    omega
  · have hm := page_mem h
    have hb : (0 ≤ t ∧ t < x.T) ∧ (1 ≤ k ∧ k ≤ 4) ∧ 0 ≤ ca.page x.own t k ∧ ca.page x.own t k < 64 := V.good.bnd _ hm
    have hk : pg.kind x.ks (ca.page x.own t k) = k := V.kin _ hm
    obtain ⟨p, e⟩ : ∃ p : Nat, ca.page x.own t k = p := ⟨(ca.page x.own t k).toNat, by omega⟩
    rw [e] at hk ⊢
    cases hfr : x.fr p with
    | nil => exact .inr (fun _ => by rw [Int.toNat_natCast]; exact hfr)
    | cons f rest => exact .inl ⟨p, f, rest, rfl, hk, hb.2.1, hfr⟩
/-- take: there is no room, or there is a new object. -/
theorem take_dec (H : Sr w I x) (V : Iv x) {t : Int} {n : Nat} (h1 : n ≤ 127) (ht : 0 ≤ t ∧ t < x.T) (s8 : x.cnt < 1099511627776) :
    (Calls Tryz.prog 50 #[.pointer (some ⟨I.S, 0, none⟩), .int .i64 t, .int .i64 n] w fun e w' => e = rI 0 false ∧ w.grownBy w' none) ∨
    ∃ (a : Nat) (y : Hs), (Calls Tryz.prog 50 #[.pointer (some ⟨I.S, 0, none⟩), .int .i64 t, .int .i64 n] w (Done I (.tuple #[.int .i64 a, .bool true]) y w)) ∧ ∀ w', Sr w' I y → Gr I.L w w' → New1 I x a n w w' := by
  have T9 : x.T ≤ 9 := by obtain ⟨D, C⟩ := H.at_; exact C.few
  have tf : fits t = true := by simp [fits]; omega
  have may : ∀ {c : Nat}, c = x.cnt → hd.May c n := fun h => ⟨by omega, by omega, by omega, by omega⟩
  by_cases h16 : 16 ≤ n
  · obtain ⟨_, _, N, hN, N1, N4, hN2⟩ := cl_ofn5 (n := n) (by omega) (by omega)
    cases hf : pg.find N 0 x.ks with
    | none => exact .inl (take_large_no H t (by omega) (by omega) (by rw [hN]; exact hf))
    | some p =>
      obtain ⟨V1, K1, M1⟩ := V.spanned (n := n) (by omega) s8 N1 hf rfl rfl (by omega)
      exact .inr ⟨_, _, take_large_yes H t (by omega) (by omega) (may rfl) hN hf rfl rfl, fun w' hs hg => ⟨_, ⟨hs, V1, K1, by have := M1.cnt; omega, rfl, hg⟩, M1⟩⟩
  · obtain ⟨hk, _, hsz⟩ := cl_ofn (n := n) (by omega) (by omega)
    rcases page_dec V t (ofn n) with ⟨p, f, rest, hp, hkp, _, hfr⟩ | hno
    · obtain ⟨a, m, ha, hm⟩ := cell_num V.ok (by omega) hfr
      refine .inr ⟨a, _, take_fast H t (by omega) (by omega) tf hp (may rfl) (by omega) hfr ha hm, fun w' hs hg => ?_⟩
      exact took_new V V (Keep.refl _ _ _ _) rfl rfl rfl (by omega) s8 (by omega) hfr ha hm (by rw [hkp] at hm; omega) hs hg
    · rcases low (fun q => fit x (ofn n) q) 64 with ⟨p, p64, hf, hl⟩ | hl
      · have hf' := hf
        unfold fit at hf'
        simp only [Bool.and_eq_true, decide_eq_true_eq, beq_iff_eq] at hf'
        obtain ⟨⟨f1, f2⟩, f3⟩ := hf'
        have ne := (ca.owner_neg V.good p).1 (by omega)
        have tl := (V.ok.told (p := p) (by omega)).2.1
        cases hfr : x.fr p with
        | nil => rw [hfr] at tl; simp at tl; omega
        | cons f rest =>
          obtain ⟨a, m, ha, hm⟩ := cell_num V.ok (p := p) (by omega) hfr
          have my : ca.may x.T x.own t (ofn n) p = true := by unfold ca.may ca.place; simp; omega
          refine .inr ⟨a, _, take_more H (y := x) (by omega) (by omega) tf hno (open_found H hk p64 hf hl) my (may rfl) (by omega) hfr ha hm, fun w' hs hg => ?_⟩
          exact took_new (y := x.owned t (ofn n) p) V (V.owned ht hk p64 f1 ne) (Keep.refl _ _ _ _) rfl rfl rfl (by omega) s8 (show 1 ≤ pg.kind x.ks p ∧ pg.kind x.ks p ≤ 4 by omega) hfr ha hm (by rw [f1] at hm; omega) hs hg
      · cases hf : pg.find 1 0 x.ks with
        | none => exact .inl (take_full H t (by omega) (by omega) tf hno (open_full H hk hl hf))
        | some p =>
          obtain ⟨m0, n0, e1, e2, e3, e4, e5, e6, e7⟩ := ch.sz_cl hk.1 hk.2
          obtain ⟨V1, K1, ne⟩ := V.carved hk hf e1 e2
          have q := Ok.free0 (n := 1) (by omega) hf
          have pl : p < x.ks.length := by omega
          have fw := V.ok.few
          have kd : pg.kind (x.carved p (ofn n) m0 n0).ks p = ofn n := by show pg.kind (x.ks.set p (ofn n)) p = _; rw [kind_set pl, if_pos rfl]
          obtain ⟨n1, rfl⟩ : ∃ n1, n0 = n1 + 1 := ⟨n0 - 1, by omega⟩
          have hfr : (x.carved p (ofn n) m0 (n1 + 1)).fr p = ((0 : Nat) : Int) :: ch.from_ 1 n1 := upd_same _ _ _
          obtain ⟨a, m, ha, hm⟩ := cell_num V1.ok (p := p) (by omega) hfr
          have my : ca.may x.T x.own t (ofn n) p = true := by
            have := ca.owner_no ne
            unfold ca.may ca.place; rw [this]; simp; omega
          refine .inr ⟨a, _, take_more H (y := x.carved p (ofn n) m0 (n1 + 1)) (by omega) (by omega) tf hno (open_carve H hk hl hf e1 e2) my (may rfl) (by omega) hfr ha hm, fun w' hs hg => ?_⟩
          exact took_new (y := (x.carved p (ofn n) m0 (n1 + 1)).owned t (ofn n) p) V (V1.owned ht hk (by omega) kd ne) K1 rfl rfl rfl (by omega) s8 (show 1 ≤ pg.kind (x.carved p (ofn n) m0 (n1 + 1)).ks p ∧ pg.kind (x.carved p (ofn n) m0 (n1 + 1)).ks p ≤ 4 by omega) hfr ha hm (by rw [kd] at hm; omega) hs hg
/-- Slow: it is out of range, or there is no room, or there is a new object. -/
theorem Slow_dec (H : Sr w I x) (V : Iv x) (t n : Int) (s8 : x.cnt < 1099511627776) :
    (¬ ((0 ≤ n ∧ n ≤ 127) ∧ 0 ≤ t ∧ t < x.T) ∧ Calls Tryz.prog 23 #[.pointer (some ⟨I.S, 0, none⟩), .int .i64 t, .int .i64 n] w fun e w' => e = rE 0 4 ∧ w.grownBy w' none) ∨
    (Calls Tryz.prog 23 #[.pointer (some ⟨I.S, 0, none⟩), .int .i64 t, .int .i64 n] w fun e w' => e = rE 0 10 ∧ w.grownBy w' none) ∨
    ∃ (a N : Nat) (y : Hs), n = N ∧ N ≤ 127 ∧ (Calls Tryz.prog 23 #[.pointer (some ⟨I.S, 0, none⟩), .int .i64 t, .int .i64 n] w (Done I (.tuple #[.int .i64 a, .int .i64 0]) y w)) ∧ ∀ w', Sr w' I y → Gr I.L w w' → New1 I x a N w w' := by
  by_cases h : (0 ≤ n ∧ n ≤ 127) ∧ 0 ≤ t ∧ t < x.T
  · obtain ⟨N, rfl⟩ : ∃ N : Nat, n = N := ⟨n.toNat, by omega⟩
    rcases take_dec H V (n := N) (by omega) h.2 s8 with hk | ⟨a, y, hk, hn⟩
    · exact .inr (.inl (Slow_no H h hk))
    · exact .inr (.inr ⟨a, N, y, rfl, by omega, Slow_yes H h hk, hn⟩)
  · exact .inl ⟨h, Slow_range H h⟩
end
end Go.Proofs.YtfloleflcoiidaaGreatDoor.st

/- What each call of a store leaves, whatever it is asked: the calls of a script. -/
namespace Go.Proofs.YtfloleflcoiidaaGreatDoor.st
open Go.ChangeShapes Go.WideShapes Go.ChangeAt Go.RowKit Go.Maps gen calls cls geos ce
set_option linter.unusedVariables false
set_option maxHeartbeats 4000000
set_option maxRecDepth 100000
section
variable {w w' : World} {I : Ids} {x y : Hs} {P : Int → Prop}
theorem Iv.ob (V : Iv x) {a : Int} (ha : a ∈ x.tk) (s8 : x.cnt ≤ 1099511627776) : ∃ A s n : Nat, a = A ∧ Ob x A s n ∧ (n : Int) + 1 ≤ bz x.ks A ∧ s < x.cnt := by
  obtain ⟨s, n, l1, l2, l3, l4⟩ := V.live a ha
  have hin := bz_in V.ok ha
  obtain ⟨A, rfl⟩ : ∃ A : Nat, a = A := ⟨a.toNat, by omega⟩
  exact ⟨A, s, n, rfl, ⟨ha, by rw [Int.toNat_natCast] at l4; exact l4, l2, by omega⟩, l3, l1⟩
theorem Any.same {v : Value} (H : Sr w I x) (V : Iv x) {e : Ending} (he : e = .returned v) (hg : w.grownBy w' none) : Any I P x w e w' := ⟨v, x, he, .same H V hg⟩
theorem Fast_do (H : Sr w I x) (V : Iv x) (t n : Int) (ht : fits t = true) (s8 : x.cnt < 1099511627776) :
    Calls Tryz.prog 79 #[.pointer (some ⟨I.S, 0, none⟩), .int .i64 t, .int .i64 n] w (Any I (fun _ => True) x w) := by
  rcases page_dec V t (ofn n) with ⟨p, f, rest, hp, hkp, hk, hfr⟩ | hno
  · have hn := ofn_eq n
    have hn5 : 0 ≤ n ∧ n ≤ 15 := by omega
    obtain ⟨_, _, hsz⟩ := cl_ofn hn5.1 hn5.2
    obtain ⟨a, m, ha, hm⟩ := cell_num V.ok (by omega) hfr
    obtain ⟨N, rfl⟩ : ∃ N : Nat, n = N := ⟨n.toNat, by omega⟩
    refine (Fast_yes H t ht hp ⟨by omega, by omega, by omega, by omega⟩ (by omega) hfr ha hm).mono fun e w' ⟨he, hs, hg⟩ => ?_
    obtain ⟨y, C, M⟩ := took_new V V (Keep.refl _ _ _ _) rfl rfl rfl (by omega) s8 (by omega) hfr ha hm (by rw [hkp] at hm; omega) hs hg
    exact ⟨_, y, he, C⟩
  · exact (Fast_no H t n ht hno).mono fun e w' ⟨he, hg⟩ => .same H V he hg
theorem Slow_do (H : Sr w I x) (V : Iv x) (t n : Int) (s8 : x.cnt < 1099511627776) :
    Calls Tryz.prog 23 #[.pointer (some ⟨I.S, 0, none⟩), .int .i64 t, .int .i64 n] w (Any I (fun _ => True) x w) := by
  rcases Slow_dec H V t n s8 with ⟨_, h⟩ | h | ⟨a, N, y, _, _, h, hn⟩
  · exact h.mono fun e w' ⟨he, hg⟩ => .same H V he hg
  · exact h.mono fun e w' ⟨he, hg⟩ => .same H V he hg
  · refine h.mono fun e w' ⟨he, hs, hg⟩ => ?_
    obtain ⟨y2, C, M⟩ := hn w' hs hg
    exact ⟨_, y2, he, C⟩
theorem Free_do (H : Sr w I x) (V : Iv x) (a : Int) :
    Calls Tryz.prog 70 #[.pointer (some ⟨I.S, 0, none⟩), .int .i64 a] w (Any I (fun b => b ≠ a) x w) := by
  by_cases ha : a ∈ x.tk
  · obtain ⟨A, p, rfl, hP, hp, p64, pl, ⟨hk, _⟩ | ⟨hk, hm⟩⟩ := at_tk H ha
    · obtain ⟨V1, K1⟩ := V.goneL ha hP hk
      exact (Free_large H ha hp hP hk).mono fun e w' ⟨he, hs, hg⟩ => ⟨_, _, he, hs, V1, K1, by show x.cnt ≤ _; omega, rfl, hg⟩
    · obtain ⟨V1, K1⟩ := V.goneC ha hP hk rfl
      exact (Free_cell H ha hp hP p64 hk hm rfl).mono fun e w' ⟨he, hs, hg⟩ => ⟨_, _, he, hs, V1, K1, by show x.cnt ≤ _; omega, rfl, hg⟩
  · exact (Free_no H ha).mono fun e w' ⟨he, hs, hg⟩ => ⟨_, x, he, hs, V, Keep.refl _ _ _ _, by omega, rfl, hg⟩
/-- A field, or none. -/
theorem field_dec (V : Iv x) (a i : Int) (s8 : x.cnt ≤ 1099511627776) : Nof x a i ∨ ∃ A s n j : Nat, a = A ∧ i = j ∧ Ob x A s n ∧ j < n ∧ (n : Int) + 1 ≤ bz x.ks A ∧ s < x.cnt := by
  by_cases hi : i < 0
  · exact .inl (.inl hi)
  by_cases ha : a ∈ x.tk
  · obtain ⟨A, s, n, rfl, hb, hz, hs⟩ := V.ob ha s8
    by_cases hn : (n : Int) ≤ i
    · exact .inl (.inr (.inr ⟨A, s, n, rfl, hb, hn⟩))
    · exact .inr ⟨A, s, n, i.toNat, rfl, by omega, hb, by omega, hz, hs⟩
  · exact .inl (.inr (.inl ha))
theorem Trim_do (H : Sr w I x) (V : Iv x) (p : Int) :
    Calls Tryz.prog 43 #[.pointer (some ⟨I.S, 0, none⟩), .int .i64 p] w (Any I (fun _ => True) x w) := by
  by_cases ho : (ca.owner x.own p).1 = -1
  · obtain ⟨V1, K1, _, c1, t1⟩ := V.dstep 0 (p := p) ((ca.owner_neg V.good p).1 (by omega))
    exact (Trim_any H ho).mono fun e w' ⟨he, hs, hg⟩ => ⟨_, _, he, hs, V1, K1, by omega, t1, hg⟩
  · exact (Trim_own H ho).mono fun e w' ⟨he, hg⟩ => .same H V he hg
theorem Quit_do (H : Sr w I x) (V : Iv x) (t : Int) :
    Calls Tryz.prog 32 #[.pointer (some ⟨I.S, 0, none⟩), .int .i64 t] w (Any I (fun _ => True) x w) := by
  obtain ⟨V1, K1, c1, t1⟩ := Iv.drps (x.pgs t) (x.left t) 0 (V.left t) (left_none V t)
  refine (Quit_any H t).mono fun e w' ⟨he, hs, hg⟩ => ⟨_, _, he, hs, V1, K1, ?_, t1, hg⟩
  show ((x.pgs t).foldl dstep (x.left t, 0)).1.cnt ≤ _
  rw [c1]
  show x.cnt ≤ _
  omega
/-- What a script's call leaves alone. -/
def Alone (k A b : Int) : Prop := b ≠ A ∨ (k ≠ 3 ∧ k ≠ 4)
theorem Ch.from_ {w1 : World} (hg : w.grownBy w1 none) (C : Ch I P x y w1 w') : Ch I P x y w w' := ⟨C.sr, C.iv, C.kp, C.cnt, C.T, (Gr.new hg).trans C.gr⟩
theorem alone_no {k a : Int} (h : (k == 3) = true ∨ (k == 4) = true) (b : Int) (hb : Alone k a b) : b ≠ a := hb.resolve_right (by rintro ⟨h1, h2⟩; rcases h with h | h <;> simp at h <;> omega)
end
end Go.Proofs.YtfloleflcoiidaaGreatDoor.st
