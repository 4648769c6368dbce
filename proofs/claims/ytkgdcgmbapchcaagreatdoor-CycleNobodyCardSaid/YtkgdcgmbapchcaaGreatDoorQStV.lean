/- Texts that this claim stands on. -/
import Derived.Test.YtkgdcgmbapchcaaGreatDoorQStW
namespace Go.Proofs.YtkgdcgmbapchcaaGreatDoor.st
open Go.RowKit calls cls geos ce
set_option linter.unusedVariables false
set_option maxRecDepth 100000
structure Iv (x : Hs) : Prop where
  ok : Ok x.ks x.xs x.cs x.tk x.fr
  live : Live x.ks x.xs x.tk x.cnt
  kin : Kin x.ks x.own
  good : ca.Good x.T x.own
abbrev Kp (P : Int → Prop) (x y : Hs) : Prop := Keep P x.ks x.xs x.tk y.ks y.xs y.tk
structure Made (x y : Hs) (a n : Nat) : Prop where
  not : (a : Int) ∉ x.tk
  ob : (a : Int) ∈ y.tk ∧ y.xs.getD a 0 = (x.cnt : Int) * 128 + n
  room : (n : Int) + 1 ≤ bz y.ks a
  zero : ∀ j : Nat, 1 ≤ j → j ≤ n → y.xs.getD (a + j) 0 = 0
  cnt : y.cnt = x.cnt + 1
section
variable {x y z : Hs} {P : Int → Prop}
theorem Iv.class (V : Iv x) {o : ca.Ow} (ho : o ∈ x.own) : ∃ p : Nat, o.2.2 = p ∧ 1 ≤ pg.kind x.ks p ∧ pg.kind x.ks p ≤ 4 := by
  have hb := V.good.bnd o ho
  have hk := V.kin o ho
  obtain ⟨p, e⟩ : ∃ p : Nat, o.2.2 = p := ⟨o.2.2.toNat, by omega⟩
  rw [e] at hk
  exact ⟨p, e, by omega, by omega⟩
theorem made_of {ks cs tk : List Int} {fr : Nat → List Int} {cnt a n m : Nat} {ks0 xs0 cs0 tk0 : List Int} {fr0 : Nat → List Int}
    (O0 : Ok ks0 xs0 cs0 tk0 fr0) (L : Live ks0 xs0 tk0 cnt) (K : Keep (fun _ => True) ks0 xs0 tk0 ks (mm.fillN xs0 a 0 m) tk) (O : Ok ks (mm.fillN xs0 a 0 m) cs tk fr) (hn : (a : Int) ∉ tk0)
    (ht : ∀ b, b ∈ tk ↔ b ∈ tk0 ∨ b = a) (hz : bz ks a = m) (hx : a + m ≤ xs0.length) (n8 : n < 128) (nm : n + 1 ≤ m) (s8 : cnt < 1099511627776) :
    Ok ks ((mm.fillN xs0 a 0 m).set a ((cnt : Int) * 128 + n)) cs tk fr ∧ Live ks ((mm.fillN xs0 a 0 m).set a ((cnt : Int) * 128 + n)) tk (cnt + 1) ∧
      Keep (fun _ => True) ks0 xs0 tk0 ks ((mm.fillN xs0 a 0 m).set a ((cnt : Int) * 128 + n)) tk ∧ ((mm.fillN xs0 a 0 m).set a ((cnt : Int) * 128 + n)).getD a 0 = (cnt : Int) * 128 + n ∧
      ∀ j : Nat, 1 ≤ j → j ≤ n → ((mm.fillN xs0 a 0 m).set a ((cnt : Int) * 128 + n)).getD (a + j) 0 = 0 := by
  have am : (a : Int) ∈ tk := (ht a).2 (.inr rfl)
  have hl : a < (mm.fillN xs0 a 0 m).length := by rw [mm.fillN_length]; omega
  have K2 := (K.mono (Q := fun b => b ≠ a) (fun _ _ => trivial)).trans (Keep.store O am (Int.le_refl _) (by omega) ((cnt : Int) * 128 + n))
  have K3 : Keep (fun _ => True) ks0 xs0 tk0 ks ((mm.fillN xs0 a 0 m).set a ((cnt : Int) * 128 + n)) tk := fun b hb _ => K2 b hb (fun e => hn (e ▸ hb))
  have hv : ((mm.fillN xs0 a 0 m).set a ((cnt : Int) * 128 + n)).getD a 0 = (cnt : Int) * 128 + n := by rw [ch.set_getD _ _ _ _ hl, if_pos rfl]
  refine ⟨(O.store (by rw [base_in O am (Int.le_refl _) (by omega)]; omega) (by omega)).1, L.keep O0 K3 (by omega) fun b hb => ?_, K3, hv, fun j h1 h2 => ?_⟩
  · rcases (ht b).1 hb with h | rfl
    · exact .inl ⟨h, trivial⟩
    · exact .inr ⟨cnt, n, by omega, n8, by rw [hz]; omega, by rw [Int.toNat_natCast]; exact hv⟩
  · rw [ch.set_getD _ _ _ _ hl, if_neg (by omega), ch.fillN_getD _ _ _ _ hx, if_pos (by omega)]
theorem Iv.took (V : Iv x) {p a m n : Nat} {f : Int} {rest : List Int} (n8 : n < 128) (s8 : x.cnt < 1099511627776) (hk : 1 ≤ pg.kind x.ks p ∧ pg.kind x.ks p ≤ 4) (hfr : x.fr p = f :: rest) (ha : (a : Int) = p * 32 + f * sz (pg.kind x.ks p)) (hz : sz (pg.kind x.ks p) = m) (nm : n + 1 ≤ m) :
    Iv ((x.took p f rest a m).begun a n) ∧ Kp (fun _ => True) x ((x.took p f rest a m).begun a n) ∧ Made x ((x.took p f rest a m).begun a n) a n := by
  obtain ⟨O', hn⟩ := V.ok.take hk hfr ha hz
  obtain ⟨K, e, hx⟩ := Keep.take V.ok hk hfr ha hz
  have M := made_of V.ok V.live K O' hn (fun b => by rw [bm.mem_rising]; simp) e hx n8 nm s8
  exact ⟨⟨M.1, M.2.1, V.kin, V.good⟩, M.2.2.1, ⟨hn, ⟨by simp [Hs.begun, Hs.took, bm.mem_rising], M.2.2.2.1⟩, by show _ ≤ bz x.ks a; rw [e]; omega, M.2.2.2.2, rfl⟩⟩
theorem Iv.spanned (V : Iv x) {p a m n N : Nat} (n8 : n < 128) (s8 : x.cnt < 1099511627776) (h1 : 1 ≤ N) (hf : pg.find N 0 x.ks = some p) (ha : a = p * 32) (hz : m = N * 32) (nm : n + 1 ≤ m) :
    Iv ((x.spanned p N a m).begun a n) ∧ Kp (fun _ => True) x ((x.spanned p N a m).begun a n) ∧ Made x ((x.spanned p N a m).begun a n) a n := by
  obtain ⟨O', hn⟩ := V.ok.large h1 hf ha hz
  obtain ⟨K, e, hx⟩ := Keep.large V.ok h1 hf ha hz
  obtain ⟨q1, q2⟩ := Ok.free0 h1 hf
  have M := made_of V.ok V.live K O' hn (fun b => by rw [bm.mem_rising]; simp) e hx n8 nm s8
  refine ⟨⟨M.1, M.2.1, fun o ho => ?_, V.good⟩, M.2.2.1, ⟨hn, ⟨by simp [Hs.begun, Hs.spanned, bm.mem_rising], M.2.2.2.1⟩, by show _ ≤ bz (pg.spanN x.ks p N) a; rw [e]; omega, M.2.2.2.2, rfl⟩⟩
  obtain ⟨q, e, k1, k4⟩ := V.class ho
  have := V.kin o ho
  show pg.kind (pg.spanN x.ks p N) o.2.2 = o.2.1
  rw [← this, e, kind_span h1 q1, if_neg (fun h => ?_), if_neg (fun h => ?_)]
  · have := q2 q (by omega) (by omega); omega
  · have := q2 q (by omega) (by omega); omega
theorem Iv.carved (V : Iv x) {p m n : Nat} {k : Int} (hk : 1 ≤ k ∧ k ≤ 4) (hf : pg.find 1 0 x.ks = some p) (hz : sz k = m) (hn : cl k = n) : Iv (x.carved p k m n) ∧ Kp (fun _ => True) x (x.carved p k m n) ∧ ∀ o ∈ x.own, o.2.2 ≠ p := by
  obtain ⟨q1, q2⟩ := Ok.free0 (n := 1) (by omega) hf
  have k0 := q2 p (by omega) (by omega)
  have K := Keep.carve V.ok hk hf hz hn
  have ne : ∀ o ∈ x.own, o.2.2 ≠ p := fun o ho e => by
    obtain ⟨q, e2, k1, k4⟩ := V.class ho
    rw [← e2, e] at k1
    omega
  refine ⟨⟨V.ok.carve hk hf hz hn, V.live.keep V.ok K (Nat.le_refl _) (fun b hb => .inl ⟨hb, trivial⟩), fun o ho => ?_, V.good⟩, K, ne⟩
  show pg.kind (x.ks.set p k) o.2.2 = o.2.1
  rw [kind_set (by omega), if_neg (ne o ho)]
  exact V.kin o ho
theorem Iv.owned (V : Iv x) {t k : Int} {p : Nat} (ht : 0 ≤ t ∧ t < x.T) (hk : 1 ≤ k ∧ k ≤ 4) (p64 : p < 64) (hp : pg.kind x.ks p = k) (ne : ∀ o ∈ x.own, o.2.2 ≠ p) : Iv (x.owned t k p) := by
  refine ⟨V.ok, V.live, fun o ho => ?_, V.good.put ⟨ht, hk, by omega, by omega⟩ ne⟩
  rcases List.mem_append.1 ho with h | h
  · exact V.kin o (List.mem_filter.1 h).1
  · simp at h
    subst h
    exact hp
theorem Iv.dropped (V : Iv x) {p : Int} (h : dropb x p = true) (ne : ∀ o ∈ x.own, o.2.2 ≠ p) : Iv (x.dropped p.toNat) ∧ Kp (fun _ => True) x (x.dropped p.toNat) := by
  unfold dropb at h
  simp only [Bool.and_eq_true, decide_eq_true_eq] at h
  obtain ⟨⟨h1, h2⟩, h3⟩ := h
  obtain ⟨q, rfl, q64, ql⟩ := there V.ok.few (z := p) (by omega)
  rw [Int.toNat_natCast] at *
  have K := Keep.drop V.ok ⟨h1, h2⟩ h3
  refine ⟨⟨V.ok.drop ⟨h1, h2⟩ h3, V.live.keep V.ok K (Nat.le_refl _) (fun b hb => .inl ⟨hb, trivial⟩), fun o ho => ?_, V.good⟩, K⟩
  show pg.kind (x.ks.set q 0) o.2.2 = o.2.1
  rw [kind_set ql, if_neg (ne o ho)]
  exact V.kin o ho
theorem Iv.dstep (V : Iv x) (k : Nat) {p : Int} (ne : ∀ o ∈ x.own, o.2.2 ≠ p) : Iv (dstep (x, k) p).1 ∧ Kp (fun _ => True) x (dstep (x, k) p).1 ∧ (dstep (x, k) p).1.own = x.own ∧ (dstep (x, k) p).1.cnt = x.cnt ∧ (dstep (x, k) p).1.T = x.T := by
  by_cases h : dropb x p = true
  · rw [show st.dstep (x, k) p = (x.dropped p.toNat, k + 1) from if_pos h]
    have := V.dropped h ne
    exact ⟨this.1, this.2, rfl, rfl, rfl⟩
  · rw [show st.dstep (x, k) p = (x, k) from if_neg h]
    exact ⟨V, Keep.refl _ _ _ _, rfl, rfl, rfl⟩
theorem Iv.goneC (V : Iv x) {a p : Nat} {i : Int} (ha : (a : Int) ∈ x.tk) (hP : (a : Int) / 32 = p) (hk : 1 ≤ pg.kind x.ks p ∧ pg.kind x.ks p ≤ 4) (hi : (a : Int) % 32 / sz (pg.kind x.ks p) = i) : Iv (x.goneC a p i) ∧ Kp (fun b => b ≠ a) x (x.goneC a p i) := by
  have K := Keep.gone_cell V.ok ha (-1 - cf x.cs p)
  refine ⟨⟨(V.ok.gone_cell ha hP hk hi).1, V.live.keep V.ok K (Nat.le_refl _) (fun b hb => ?_), V.kin, V.good⟩, K⟩
  have hb' := List.mem_filter.1 hb
  exact .inl ⟨hb'.1, by simpa using hb'.2⟩
theorem Iv.goneL (V : Iv x) {a p : Nat} (ha : (a : Int) ∈ x.tk) (hP : (a : Int) / 32 = p) (hk : pg.kind x.ks p = 5) : Iv (x.goneL a p) ∧ Kp (fun b => b ≠ a) x (x.goneL a p) := by
  have K := Keep.gone_large V.ok ha hP hk
  have hs := siz_ge (ks := x.ks) (p := p) (by omega)
  have hin := pg.siz_in (xs := x.ks) (p := p) (by omega)
  have hle : p + (pg.siz x.ks p).toNat ≤ x.ks.length := by omega
  refine ⟨⟨V.ok.gone_large ha hP hk, V.live.keep V.ok K (Nat.le_refl _) (fun b hb => ?_), fun o ho => ?_, V.good⟩, K⟩
  · have hb' := List.mem_filter.1 hb
    exact .inl ⟨hb'.1, by simpa using hb'.2⟩
  · obtain ⟨q, e, k1, k4⟩ := V.class ho
    have := V.kin o ho
    show pg.kind (pg.fillN x.ks p 0 (pg.siz x.ks p).toNat) o.2.2 = o.2.1
    rw [← this, e, kind_fill hle, if_neg (fun h => ?_)]
    by_cases e2 : (q : Int) = p
    · rw [e2] at k4; omega
    · have := (large_pages hk (q - p) (by omega)).1 (by omega)
      rw [show ((p + (q - p) : Nat) : Int) = q by omega] at this
      omega
end
end Go.Proofs.YtkgdcgmbapchcaaGreatDoor.st
namespace Go.Proofs.YtkgdcgmbapchcaaGreatDoor.st
open Go.ChangeShapes Go.WideShapes Go.ChangeAt Go.RowKit Go.Maps gen calls cls geos ce
set_option linter.unusedVariables false
set_option maxHeartbeats 4000000
set_option maxRecDepth 100000
section
variable {w w' : World} {I : Ids} {x y : Hs} {P : Int → Prop}
theorem low (f : Nat → Bool) (n : Nat) : (∃ q, q < n ∧ f q = true ∧ ∀ r, r < q → f r = false) ∨ ∀ q, q < n → f q = false := by
  induction n with
  | zero => exact .inr (fun q h => absurd h (by omega))
  | succ n ih =>
    rcases ih with ⟨q, h1, h2, h3⟩ | h
    · exact .inl ⟨q, by omega, h2, h3⟩
    · cases hf : f n with
      | true => exact .inl ⟨n, by omega, hf, h⟩
      | false =>
        refine .inr (fun q hq => ?_)
        by_cases e : q = n
        · rw [e]; exact hf
        · exact h q (by omega)
theorem cell_num {ks xs cs tk : List Int} {fr : Nat → List Int} (O : Ok ks xs cs tk fr) {p : Nat} {f : Int} {rest : List Int} (hk : 1 ≤ pg.kind ks p ∧ pg.kind ks p ≤ 4) (hfr : fr p = f :: rest) : ∃ a m : Nat, (a : Int) = p * 32 + f * sz (pg.kind ks p) ∧ sz (pg.kind ks p) = m := by
  obtain ⟨_, _, d1⟩ := O.tkt hk hfr
  have r := room d1.1 d1.2
  have h0 := Int.mul_nonneg d1.1 (Int.le_of_lt r.1)
  exact ⟨((p : Int) * 32 + f * sz (pg.kind ks p)).toNat, (sz (pg.kind ks p)).toNat, by omega, by omega⟩
theorem page_mem {own : List ca.Ow} {t k : Int} (h : ca.page own t k ≠ -1) : (t, k, ca.page own t k) ∈ own := by
  unfold ca.page at h ⊢
  split at h
  · rename_i o ho
    have hm := List.mem_of_find?_eq_some ho
    have hp := List.find?_some ho
    simp at hp
    obtain ⟨a, b, c⟩ := o
    simp at hp ⊢
    obtain ⟨rfl, rfl⟩ := hp
    exact hm
  · exact absurd rfl h
theorem page_dec (V : Iv x) (t k : Int) : (∃ (p : Nat) (f : Int) (rest : List Int), ca.page x.own t k = p ∧ pg.kind x.ks p = k ∧ (1 ≤ k ∧ k ≤ 4) ∧ x.fr p = f :: rest) ∨ Noc x (ca.page x.own t k) := by
  by_cases h : ca.page x.own t k = -1
  · right
    rw [h]
    intro h1
    have := pg.kind_out (xs := x.ks) (p := -1) (by omega)
    omega
  · have hm := page_mem h
    have hb : (0 ≤ t ∧ t < x.T) ∧ (1 ≤ k ∧ k ≤ 4) ∧ 0 ≤ ca.page x.own t k ∧ ca.page x.own t k < 64 := V.good.bnd _ hm
    have hk : pg.kind x.ks (ca.page x.own t k) = k := V.kin _ hm
    obtain ⟨p, e⟩ : ∃ p : Nat, ca.page x.own t k = p := ⟨(ca.page x.own t k).toNat, by omega⟩
    rw [e] at hk ⊢
    cases hfr : x.fr p with
    | nil => exact .inr (fun _ => by rw [Int.toNat_natCast]; exact hfr)
    | cons f rest => exact .inl ⟨p, f, rest, rfl, hk, hb.2.1, hfr⟩
end
end Go.Proofs.YtkgdcgmbapchcaaGreatDoor.st
namespace Go.Proofs.YtkgdcgmbapchcaaGreatDoor.st
open Go.ChangeShapes Go.WideShapes Go.ChangeAt Go.RowKit Go.Maps gen calls cls geos ce
set_option linter.unusedVariables false
set_option maxHeartbeats 4000000
set_option maxRecDepth 100000
section
variable {w w' : World} {I : Ids} {x y : Hs} {P : Int → Prop}
theorem Iv.ob (V : Iv x) {a : Int} (ha : a ∈ x.tk) (s8 : x.cnt ≤ 1099511627776) : ∃ A s n : Nat, a = A ∧ Ob x A s n ∧ (n : Int) + 1 ≤ bz x.ks A ∧ s < x.cnt := by
  obtain ⟨s, n, l1, l2, l3, l4⟩ := V.live a ha
  have hin := bz_in V.ok ha
  obtain ⟨A, rfl⟩ : ∃ A : Nat, a = A := ⟨a.toNat, by omega⟩
  exact ⟨A, s, n, rfl, ⟨ha, by rw [Int.toNat_natCast] at l4; exact l4, l2, by omega⟩, l3, l1⟩
end
end Go.Proofs.YtkgdcgmbapchcaaGreatDoor.st
