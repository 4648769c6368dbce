/- Plain: a store by lists: what each change of it leaves as it was. -/
import Derived.Test.YtfhmhlofjoahlaaGreatDoorCeT
import Derived.Test.YtfhmhlofjoahlaaGreatDoorCaP
namespace Go.Proofs.YtfhmhlofjoahlaaGreatDoor.st
open Go.RowKit calls cls geos ce
set_option linter.unusedVariables false
/-- What is taken, where P holds, is taken then, as great as it was, and each of its words is as it was. -/
def Keep (P : Int → Prop) (ks xs tk ks' xs' tk' : List Int) : Prop := ∀ b ∈ tk, P b → b ∈ tk' ∧ bz ks' b = bz ks b ∧ ∀ j : Nat, b ≤ j → (j : Int) < b + bz ks b → xs'.getD j 0 = xs.getD j 0
section
variable {P : Int → Prop} {ks xs cs tk ks' xs' tk' ks'' xs'' tk'' : List Int} {fr : Nat → List Int}
theorem Keep.refl (P : Int → Prop) (ks xs tk : List Int) : Keep P ks xs tk ks xs tk := fun b hb _ => ⟨hb, rfl, fun _ _ _ => rfl⟩
theorem Keep.trans (h1 : Keep P ks xs tk ks' xs' tk') (h2 : Keep P ks' xs' tk' ks'' xs'' tk'') : Keep P ks xs tk ks'' xs'' tk'' := fun b hb hP => by
  obtain ⟨a1, a2, a3⟩ := h1 b hb hP
  obtain ⟨b1, b2, b3⟩ := h2 b a1 hP
  exact ⟨b1, b2.trans a2, fun j h3 h4 => (b3 j h3 (by rw [a2]; exact h4)).trans (a3 j h3 h4)⟩
theorem Keep.mono {Q : Int → Prop} (h : Keep P ks xs tk ks' xs' tk') (hq : ∀ b, Q b → P b) : Keep Q ks xs tk ks' xs' tk' := fun b hb hQ => h b hb (hq b hQ)
theorem Wd.self (ks tk xs : List Int) : Wd ks tk xs xs := fun _ _ _ _ _ => rfl
/-- Two that are taken have no word in common. -/
theorem one_of (O : Ok ks xs cs tk fr) {a b : Int} (ha : a ∈ tk) (hb : b ∈ tk) {x : Int} (h1 : a ≤ x) (h2 : x < a + bz ks a) (h3 : b ≤ x) (h4 : x < b + bz ks b) : a = b := (base_in O ha h1 h2).symm.trans (base_in O hb h3 h4)
theorem Keep.carve (O : Ok ks xs cs tk fr) {k : Int} (hk : 1 ≤ k ∧ k ≤ 4) {p z n : Nat} (hf : pg.find 1 0 ks = some p) (hz : sz k = z) (hn : cl k = n) : Keep (fun _ => True) ks xs tk (ks.set p k) (ch.builtN xs p z n) tk := fun b hb _ => by
  obtain ⟨q1, q2⟩ := Ok.free0 (n := 1) (by omega) hf
  have k0 := q2 p (by omega) (by omega)
  obtain ⟨P, hP, s1, s2, s3, s4⟩ := block_kinds O hb
  have hne : ∀ i : Int, (P : Int) ≤ i → i < P + pg.siz ks P → i ≠ p := fun i h1 h2 e => by
    by_cases e2 : i = P
    · rw [← e2, e] at s2; omega
    · have := (s3 i (by omega) h2).1; rw [e] at this; omega
  have e := bz_same (ks' := ks.set p k) hP s1 s2 s3 (fun i h1 h2 => by rw [kind_set (by omega), if_neg (hne i h1 h2)]) (fun h5 => by
    rw [kind_set (by omega)]
    split
    · omega
    · exact s4 h5)
  exact ⟨hb, e, fun j h1 h2 => (Wd.self ks tk xs).carve O hk hf hz hn b hb j h1 (by rw [e]; exact h2)⟩
theorem Keep.take (O : Ok ks xs cs tk fr) {p a z : Nat} {f : Int} {rest : List Int} (hk : 1 ≤ pg.kind ks p ∧ pg.kind ks p ≤ 4) (hfr : fr p = f :: rest) (ha : (a : Int) = p * 32 + f * sz (pg.kind ks p)) (hz : sz (pg.kind ks p) = z) :
    Keep (fun _ => True) ks xs tk ks (mm.fillN xs a 0 z) (bm.rising (tk ++ [(a : Int)])) ∧ bz ks a = z ∧ a + z ≤ xs.length := by
  obtain ⟨O', hn⟩ := O.take hk hfr ha hz
  obtain ⟨_, _, d1⟩ := O.tkt hk hfr
  have ac := at_cell (p := p) hk d1
  rw [← ha] at ac
  have e : bz ks a = z := by unfold bz; rw [ac.1, if_neg (by omega)]; exact hz
  have am : (a : Int) ∈ bm.rising (tk ++ [(a : Int)]) := by rw [bm.mem_rising]; simp
  have hx := bz_in O' am
  rw [e, mm.fillN_length] at hx
  refine ⟨fun b hb _ => ?_, e, by omega⟩
  have bm' : b ∈ bm.rising (tk ++ [(a : Int)]) := by rw [bm.mem_rising]; simp [hb]
  refine ⟨bm', rfl, fun j h1 h2 => ?_⟩
  rw [ch.fillN_getD _ _ _ _ (by omega), if_neg (fun h => ?_)]
  have := one_of O' am bm' (x := j) (by omega) (by omega) h1 h2
  exact hn (this ▸ hb)
theorem Keep.large (O : Ok ks xs cs tk fr) {n p a z : Nat} (hn : 1 ≤ n) (hf : pg.find n 0 ks = some p) (ha : a = p * 32) (hz : z = n * 32) :
    Keep (fun _ => True) ks xs tk (pg.spanN ks p n) (mm.fillN xs a 0 z) (bm.rising (tk ++ [(a : Int)])) ∧ bz (pg.spanN ks p n) a = z ∧ a + z ≤ xs.length := by
  obtain ⟨O', hno⟩ := O.large hn hf ha hz
  obtain ⟨q1, q2⟩ := Ok.free0 hn hf
  have hl := O.len
  have e0 := ((Wd.self ks tk xs).large O hn hf ha hz (by omega)).2
  have am : (a : Int) ∈ bm.rising (tk ++ [(a : Int)]) := by rw [bm.mem_rising]; simp
  refine ⟨fun b h _ => ?_, e0, by omega⟩
  have bm' : b ∈ bm.rising (tk ++ [(a : Int)]) := by rw [bm.mem_rising]; simp [h]
  obtain ⟨P, hP, s1, s2, s3, s4⟩ := block_kinds O h
  have k0 : ∀ i : Int, (P : Int) ≤ i → i < P + pg.siz ks P → pg.kind ks i ≠ 0 := fun i h1 h2 e => by
    by_cases e2 : i = P
    · rw [← e2] at s2; omega
    · have := (s3 i (by omega) h2).1; omega
  have e := bz_same (ks' := pg.spanN ks p n) hP s1 s2 s3 (fun i h1 h2 => by
    rw [kind_span hn q1, if_neg (fun e => k0 i h1 h2 (q2 i (by omega) (by omega))), if_neg (fun e => k0 i h1 h2 (q2 i (by omega) (by omega)))]) (fun h5 => by
    rw [kind_span hn q1]
    split
    · omega
    · split
      · rename_i e
        exact absurd (q2 (P + pg.siz ks P - 1) (by omega) (by omega)) (k0 _ (by omega) (by omega))
      · exact s4 h5)
  refine ⟨bm', e, fun j h1 h2 => ?_⟩
  rw [ch.fillN_getD _ _ _ _ (by omega), if_neg (fun h' => ?_)]
  have := one_of O' am bm' (x := j) (by omega) (by omega) h1 (by rw [e]; exact h2)
  exact hno (this ▸ h)
theorem Keep.gone_large (O : Ok ks xs cs tk fr) {a P : Nat} (ha : (a : Int) ∈ tk) (hP : (a : Int) / 32 = P) (hk : pg.kind ks P = 5) :
    Keep (fun b => b ≠ a) ks xs tk (pg.fillN ks P 0 (pg.siz ks P).toNat) xs (tk.filter fun y => decide (y ≠ (a : Int))) := fun b hb hne => by
  have hs := siz_ge (ks := ks) (p := P) (by omega)
  have hin := pg.siz_in (xs := ks) (p := P) (by omega)
  have hle : P + (pg.siz ks P).toNat ≤ ks.length := by omega
  obtain ⟨Q, hQ, s1, s2, s3, s4⟩ := block_kinds O hb
  have am : (a : Int) % 32 = 0 := by
    rcases (O.tkn a).1 ha with ⟨_, h⟩ | ⟨h, _⟩
    · exact h
    · rw [hP] at h; omega
  have ba : bz ks a = 32 * pg.siz ks P := by unfold bz; rw [hP, if_pos hk]
  have ap : ∀ i : Int, (Q : Int) ≤ i → i < Q + pg.siz ks Q → ¬ ((P : Int) ≤ i ∧ i < P + pg.siz ks P) := fun i h1 h2 h3 => by
    have ea := base_in O ha (x := 32 * i) (by omega) (by omega)
    have ka : i = P ∨ pg.kind ks i = 6 := by
      by_cases e : i = P
      · exact .inl e
      · have := (large_pages hk (i - P).toNat (by omega)).1 (by omega)
        rw [show ((P + (i - P).toNat : Nat) : Int) = i by omega] at this
        exact .inr this
    by_cases h5 : pg.kind ks Q = 5
    · have m0 : b % 32 = 0 := by
        rcases (O.tkn b).1 hb with ⟨_, h⟩ | ⟨h, _⟩
        · exact h
        · rw [hQ] at h; omega
      have eb := base_in O hb (x := 32 * i) (by omega) (by unfold bz; rw [hQ, if_pos h5]; omega)
      exact hne (by omega)
    · have s0 : pg.siz ks Q = 1 := pg.siz_small (by omega)
      have e : i = Q := by omega
      rw [e] at ka
      rcases ka with e2 | h6
      · rw [e2] at h5; exact h5 hk
      · omega
  have e := bz_same (ks' := pg.fillN ks P 0 (pg.siz ks P).toNat) hQ s1 s2 s3 (fun i h1 h2 => by rw [kind_fill hle, if_neg (fun h => ap i h1 h2 (by omega))]) (fun h5 => by
    rw [kind_fill hle]
    split
    · omega
    · exact s4 h5)
  exact ⟨by rw [List.mem_filter]; exact ⟨hb, by simpa using hne⟩, e, fun _ _ _ => rfl⟩
theorem Keep.gone_cell (O : Ok ks xs cs tk fr) {a : Nat} (ha : (a : Int) ∈ tk) (v : Int) : Keep (fun b => b ≠ a) ks xs tk ks (xs.set a v) (tk.filter fun y => decide (y ≠ (a : Int))) := fun b hb hne => by
  have hx := bz_in O ha
  have hp := bz_pos O ha
  refine ⟨by rw [List.mem_filter]; exact ⟨hb, by simpa using hne⟩, rfl, fun j h1 h2 => ?_⟩
  rw [ch.set_getD _ _ _ _ (by omega), if_neg (fun e => ?_)]
  exact hne (one_of O hb ha (x := j) h1 h2 (by omega) (by omega))
theorem Keep.drop (O : Ok ks xs cs tk fr) {p : Nat} (hk : 1 ≤ pg.kind ks p ∧ pg.kind ks p ≤ 4) (hc : cl (pg.kind ks p) ≤ (fr p).length) : Keep (fun _ => True) ks xs tk (ks.set p 0) xs tk := fun b hb _ => by
  obtain ⟨P', eP, p64, pl⟩ := there O.few (z := (p : Int)) (by omega)
  obtain rfl : p = P' := by omega
  obtain ⟨Q, hQ, s1, s2, s3, s4⟩ := block_kinds O hb
  have hne : ∀ i : Int, (Q : Int) ≤ i → i < Q + pg.siz ks Q → i ≠ p := fun i h1 h2 e => by
    by_cases e2 : i = Q
    · have e3 : (Q : Int) = p := by omega
      have ht := ((O.drop hk hc).tkn b).1 hb
      rcases ht with ⟨h, _⟩ | ⟨h, _⟩ <;> rw [hQ, e3, kind_set pl, if_pos rfl] at h <;> omega
    · have := (s3 i (by omega) h2).1; rw [e] at this; omega
  have e := bz_same (ks' := ks.set p 0) hQ s1 s2 s3 (fun i h1 h2 => by rw [kind_set pl, if_neg (hne i h1 h2)]) (fun h5 => by
    rw [kind_set pl]
    split
    · omega
    · exact s4 h5)
  exact ⟨hb, e, fun _ _ _ => rfl⟩
/-- A word of one that is taken written: all others stay. -/
theorem Keep.store (O : Ok ks xs cs tk fr) {a : Int} {x : Nat} (ha : a ∈ tk) (h1 : a ≤ x) (h2 : (x : Int) < a + bz ks a) (v : Int) : Keep (fun b => b ≠ a) ks xs tk ks (xs.set x v) tk := fun b hb hne => by
  have hx := bz_in O ha
  refine ⟨hb, rfl, fun j h3 h4 => ?_⟩
  rw [ch.set_getD _ _ _ _ (by omega), if_neg (fun e => ?_)]
  subst e
  exact hne (one_of O hb ha (x := j) h3 h4 h1 h2)
/-- Each that is taken is an object, made ahead of the count. -/
def Live (ks xs tk : List Int) (cnt : Nat) : Prop := ∀ b ∈ tk, ∃ s n : Nat, s < cnt ∧ n < 128 ∧ (n : Int) + 1 ≤ bz ks b ∧ xs.getD b.toNat 0 = s * 128 + n
theorem Live.keep {c c' : Nat} (L : Live ks xs tk c) (O : Ok ks xs cs tk fr) (K : Keep P ks xs tk ks' xs' tk') (hc : c ≤ c') (h : ∀ b ∈ tk', (b ∈ tk ∧ P b) ∨ ∃ s n : Nat, s < c' ∧ n < 128 ∧ (n : Int) + 1 ≤ bz ks' b ∧ xs'.getD b.toNat 0 = s * 128 + n) : Live ks' xs' tk' c' := fun b hb => by
  rcases h b hb with ⟨h1, h2⟩ | h
  · obtain ⟨_, k2, k3⟩ := K b h1 h2
    obtain ⟨s, n, l1, l2, l3, l4⟩ := L b h1
    have hin := bz_in O h1
    have hp := bz_pos O h1
    exact ⟨s, n, by omega, l2, by rw [k2]; exact l3, by rw [k3 b.toNat (by omega) (by omega)]; exact l4⟩
  · exact h
/-- Whose pages have their class. -/
def Kin (ks : List Int) (own : List ca.Ow) : Prop := ∀ o ∈ own, pg.kind ks o.2.2 = o.2.1
end
end Go.Proofs.YtfhmhlofjoahlaaGreatDoor.st
