/- Texts that this claim stands on. -/
import Derived.Deep.RegionHeld3
import Derived.Test.YtkgdcgmbapchcaaGreatDoorQCeY
import Derived.Test.YtkgdcgmbapchcaaGreatDoorQCaX
import Derived.Test.YtkgdcgmbapchcaaGreatDoorQShf
import Derived.Test.YtkgdcgmbapchcaaGreatDoorQMmQ
import Derived.Test.YtkgdcgmbapchcaaGreatDoorQCsQ
namespace Go.Proofs.YtkgdcgmbapchcaaGreatDoor.st
open Go.RowKit calls cls geos ce
set_option linter.unusedVariables false
def Keep (P : Int → Prop) (ks xs tk ks' xs' tk' : List Int) : Prop := ∀ b ∈ tk, P b → b ∈ tk' ∧ bz ks' b = bz ks b ∧ ∀ j : Nat, b ≤ j → (j : Int) < b + bz ks b → xs'.getD j 0 = xs.getD j 0
section
variable {P : Int → Prop} {ks xs cs tk ks' xs' tk' ks'' xs'' tk'' : List Int} {fr : Nat → List Int}
theorem Keep.refl (P : Int → Prop) (ks xs tk : List Int) : Keep P ks xs tk ks xs tk := fun b hb _ => ⟨hb, rfl, fun _ _ _ => rfl⟩
theorem Keep.trans (h1 : Keep P ks xs tk ks' xs' tk') (h2 : Keep P ks' xs' tk' ks'' xs'' tk'') : Keep P ks xs tk ks'' xs'' tk'' := fun b hb hP => by
  obtain ⟨a1, a2, a3⟩ := h1 b hb hP
  obtain ⟨b1, b2, b3⟩ := h2 b a1 hP
  exact ⟨b1, b2.trans a2, fun j h3 h4 => (b3 j h3 (by rw [a2]; exact h4)).trans (a3 j h3 h4)⟩
theorem Keep.mono {Q : Int → Prop} (h : Keep P ks xs tk ks' xs' tk') (hq : ∀ b, Q b → P b) : Keep Q ks xs tk ks' xs' tk' := fun b hb hQ => h b hb (hq b hQ)
theorem Wd.self (ks tk xs : List Int) : Wd ks tk xs xs := fun _ _ _ _ _ => rfl
theorem one_of (O : Ok ks xs cs tk fr) {a b : Int} (ha : a ∈ tk) (hb : b ∈ tk) {x : Int} (h1 : a ≤ x) (h2 : x < a + bz ks a) (h3 : b ≤ x) (h4 : x < b + bz ks b) : a = b := (base_in O ha h1 h2).symm.trans (base_in O hb h3 h4)
theorem Keep.carve (O : Ok ks xs cs tk fr) {k : Int} (hk : 1 ≤ k ∧ k ≤ 4) {p z n : Nat} (hf : pg.find 1 0 ks = some p) (hz : sz k = z) (hn : cl k = n) : Keep (fun _ => True) ks xs tk (ks.set p k) (ch.builtN xs p z n) tk := fun b hb _ => by
  obtain ⟨q1, q2⟩ := Ok.free0 (n := 1) (by omega) hf
  have k0 := q2 p (by omega) (by omega)
  obtain ⟨P, hP, s1, s2, s3, s4⟩ := block_kinds O hb
  have hne : ∀ i : Int, (P : Int) ≤ i → i < P + pg.siz ks P → i ≠ p := fun i h1 h2 e => by
    by_cases e2 : i = P
    · rw [← e2, e] at s2; omega
    · have := (s3 i (by omega) h2).1; rw [e] at this; omega
  have e := bz_same (ks' := ks.set p k) hP s1 s2 s3 (fun i h1 h2 => by rw [kind_set (by omega), if_neg (hne i h1 h2)]) (fun h5 => by
    rw [kind_set (by omega)]
    split
    · omega
    · exact s4 h5)
  exact ⟨hb, e, fun j h1 h2 => (Wd.self ks tk xs).carve O hk hf hz hn b hb j h1 (by rw [e]; exact h2)⟩
theorem Keep.take (O : Ok ks xs cs tk fr) {p a z : Nat} {f : Int} {rest : List Int} (hk : 1 ≤ pg.kind ks p ∧ pg.kind ks p ≤ 4) (hfr : fr p = f :: rest) (ha : (a : Int) = p * 32 + f * sz (pg.kind ks p)) (hz : sz (pg.kind ks p) = z) :
    Keep (fun _ => True) ks xs tk ks (mm.fillN xs a 0 z) (bm.rising (tk ++ [(a : Int)])) ∧ bz ks a = z ∧ a + z ≤ xs.length := by
  obtain ⟨O', hn⟩ := O.take hk hfr ha hz
  obtain ⟨_, _, d1⟩ := O.tkt hk hfr
  have ac := at_cell (p := p) hk d1
  rw [← ha] at ac
  have e : bz ks a = z := by unfold bz; rw [ac.1, if_neg (by omega)]; exact hz
  have am : (a : Int) ∈ bm.rising (tk ++ [(a : Int)]) := by rw [bm.mem_rising]; simp
  have hx := bz_in O' am
  rw [e, mm.fillN_length] at hx
  refine ⟨fun b hb _ => ?_, e, by omega⟩
  have bm' : b ∈ bm.rising (tk ++ [(a : Int)]) := by rw [bm.mem_rising]; simp [hb]
  refine ⟨bm', rfl, fun j h1 h2 => ?_⟩
  rw [ch.fillN_getD _ _ _ _ (by omega), if_neg (fun h => ?_)]
  have := one_of O' am bm' (x := j) (by omega) (by omega) h1 h2
  exact hn (this ▸ hb)
theorem Keep.large (O : Ok ks xs cs tk fr) {n p a z : Nat} (hn : 1 ≤ n) (hf : pg.find n 0 ks = some p) (ha : a = p * 32) (hz : z = n * 32) :
    Keep (fun _ => True) ks xs tk (pg.spanN ks p n) (mm.fillN xs a 0 z) (bm.rising (tk ++ [(a : Int)])) ∧ bz (pg.spanN ks p n) a = z ∧ a + z ≤ xs.length := by
  obtain ⟨O', hno⟩ := O.large hn hf ha hz
  obtain ⟨q1, q2⟩ := Ok.free0 hn hf
  have hl := O.len
  have e0 := ((Wd.self ks tk xs).large O hn hf ha hz (by omega)).2
  have am : (a : Int) ∈ bm.rising (tk ++ [(a : Int)]) := by rw [bm.mem_rising]; simp
  refine ⟨fun b h _ => ?_, e0, by omega⟩
  have bm' : b ∈ bm.rising (tk ++ [(a : Int)]) := by rw [bm.mem_rising]; simp [h]
  obtain ⟨P, hP, s1, s2, s3, s4⟩ := block_kinds O h
  have k0 : ∀ i : Int, (P : Int) ≤ i → i < P + pg.siz ks P → pg.kind ks i ≠ 0 := fun i h1 h2 e => by
    by_cases e2 : i = P
    · rw [← e2] at s2; omega
    · have := (s3 i (by omega) h2).1; omega
  have e := bz_same (ks' := pg.spanN ks p n) hP s1 s2 s3 (fun i h1 h2 => by
    rw [kind_span hn q1, if_neg (fun e => k0 i h1 h2 (q2 i (by omega) (by omega))), if_neg (fun e => k0 i h1 h2 (q2 i (by omega) (by omega)))]) (fun h5 => by
    rw [kind_span hn q1]
    split
    · omega
    · split
      · rename_i e
        exact absurd (q2 (P + pg.siz ks P - 1) (by omega) (by omega)) (k0 _ (by omega) (by omega))
      · exact s4 h5)
  refine ⟨bm', e, fun j h1 h2 => ?_⟩
  rw [ch.fillN_getD _ _ _ _ (by omega), if_neg (fun h' => ?_)]
  have := one_of O' am bm' (x := j) (by omega) (by omega) h1 (by rw [e]; exact h2)
  exact hno (this ▸ h)
theorem Keep.gone_large (O : Ok ks xs cs tk fr) {a P : Nat} (ha : (a : Int) ∈ tk) (hP : (a : Int) / 32 = P) (hk : pg.kind ks P = 5) :
    Keep (fun b => b ≠ a) ks xs tk (pg.fillN ks P 0 (pg.siz ks P).toNat) xs (tk.filter fun y => decide (y ≠ (a : Int))) := fun b hb hne => by
  have hs := siz_ge (ks := ks) (p := P) (by omega)
  have hin := pg.siz_in (xs := ks) (p := P) (by omega)
  have hle : P + (pg.siz ks P).toNat ≤ ks.length := by omega
  obtain ⟨Q, hQ, s1, s2, s3, s4⟩ := block_kinds O hb
  have am : (a : Int) % 32 = 0 := by
    rcases (O.tkn a).1 ha with ⟨_, h⟩ | ⟨h, _⟩
    · exact h
    · rw [hP] at h; omega
  have ba : bz ks a = 32 * pg.siz ks P := by unfold bz; rw [hP, if_pos hk]
  have ap : ∀ i : Int, (Q : Int) ≤ i → i < Q + pg.siz ks Q → ¬ ((P : Int) ≤ i ∧ i < P + pg.siz ks P) := fun i h1 h2 h3 => by
    have ea := base_in O ha (x := 32 * i) (by omega) (by omega)
    have ka : i = P ∨ pg.kind ks i = 6 := by
      by_cases e : i = P
      · exact .inl e
      · have := (large_pages hk (i - P).toNat (by omega)).1 (by omega)
        rw [show ((P + (i - P).toNat : Nat) : Int) = i by omega] at this
        exact .inr this
    by_cases h5 : pg.kind ks Q = 5
    · have m0 : b % 32 = 0 := by
        rcases (O.tkn b).1 hb with ⟨_, h⟩ | ⟨h, _⟩
        · exact h
        · rw [hQ] at h; omega
      have eb := base_in O hb (x := 32 * i) (by omega) (by unfold bz; rw [hQ, if_pos h5]; omega)
      exact hne (by omega)
    · have s0 : pg.siz ks Q = 1 := pg.siz_small (by omega)
      have e : i = Q := by omega
      rw [e] at ka
      rcases ka with e2 | h6
      · rw [e2] at h5; exact h5 hk
      · omega
  have e := bz_same (ks' := pg.fillN ks P 0 (pg.siz ks P).toNat) hQ s1 s2 s3 (fun i h1 h2 => by rw [kind_fill hle, if_neg (fun h => ap i h1 h2 (by omega))]) (fun h5 => by
    rw [kind_fill hle]
    split
    · omega
    · exact s4 h5)
  exact ⟨by rw [List.mem_filter]; exact ⟨hb, by simpa using hne⟩, e, fun _ _ _ => rfl⟩
theorem Keep.gone_cell (O : Ok ks xs cs tk fr) {a : Nat} (ha : (a : Int) ∈ tk) (v : Int) : Keep (fun b => b ≠ a) ks xs tk ks (xs.set a v) (tk.filter fun y => decide (y ≠ (a : Int))) := fun b hb hne => by
  have hx := bz_in O ha
  have hp := bz_pos O ha
  refine ⟨by rw [List.mem_filter]; exact ⟨hb, by simpa using hne⟩, rfl, fun j h1 h2 => ?_⟩
  rw [ch.set_getD _ _ _ _ (by omega), if_neg (fun e => ?_)]
  exact hne (one_of O hb ha (x := j) h1 h2 (by omega) (by omega))
theorem Keep.drop (O : Ok ks xs cs tk fr) {p : Nat} (hk : 1 ≤ pg.kind ks p ∧ pg.kind ks p ≤ 4) (hc : cl (pg.kind ks p) ≤ (fr p).length) : Keep (fun _ => True) ks xs tk (ks.set p 0) xs tk := fun b hb _ => by
  obtain ⟨P', eP, p64, pl⟩ := there O.few (z := (p : Int)) (by omega)
  obtain rfl : p = P' := by omega
  obtain ⟨Q, hQ, s1, s2, s3, s4⟩ := block_kinds O hb
  have hne : ∀ i : Int, (Q : Int) ≤ i → i < Q + pg.siz ks Q → i ≠ p := fun i h1 h2 e => by
    by_cases e2 : i = Q
    · have e3 : (Q : Int) = p := by omega
      have ht := ((O.drop hk hc).tkn b).1 hb
      rcases ht with ⟨h, _⟩ | ⟨h, _⟩ <;> rw [hQ, e3, kind_set pl, if_pos rfl] at h <;> omega
    · have := (s3 i (by omega) h2).1; rw [e] at this; omega
  have e := bz_same (ks' := ks.set p 0) hQ s1 s2 s3 (fun i h1 h2 => by rw [kind_set pl, if_neg (hne i h1 h2)]) (fun h5 => by
    rw [kind_set pl]
    split
    · omega
    · exact s4 h5)
  exact ⟨hb, e, fun _ _ _ => rfl⟩
theorem Keep.store (O : Ok ks xs cs tk fr) {a : Int} {x : Nat} (ha : a ∈ tk) (h1 : a ≤ x) (h2 : (x : Int) < a + bz ks a) (v : Int) : Keep (fun b => b ≠ a) ks xs tk ks (xs.set x v) tk := fun b hb hne => by
  have hx := bz_in O ha
  refine ⟨hb, rfl, fun j h3 h4 => ?_⟩
  rw [ch.set_getD _ _ _ _ (by omega), if_neg (fun e => ?_)]
  subst e
  exact hne (one_of O hb ha (x := j) h3 h4 h1 h2)
def Live (ks xs tk : List Int) (cnt : Nat) : Prop := ∀ b ∈ tk, ∃ s n : Nat, s < cnt ∧ n < 128 ∧ (n : Int) + 1 ≤ bz ks b ∧ xs.getD b.toNat 0 = s * 128 + n
theorem Live.keep {c c' : Nat} (L : Live ks xs tk c) (O : Ok ks xs cs tk fr) (K : Keep P ks xs tk ks' xs' tk') (hc : c ≤ c') (h : ∀ b ∈ tk', (b ∈ tk ∧ P b) ∨ ∃ s n : Nat, s < c' ∧ n < 128 ∧ (n : Int) + 1 ≤ bz ks' b ∧ xs'.getD b.toNat 0 = s * 128 + n) : Live ks' xs' tk' c' := fun b hb => by
  rcases h b hb with ⟨h1, h2⟩ | h
  · obtain ⟨_, k2, k3⟩ := K b h1 h2
    obtain ⟨s, n, l1, l2, l3, l4⟩ := L b h1
    have hin := bz_in O h1
    have hp := bz_pos O h1
    exact ⟨s, n, by omega, l2, by rw [k2]; exact l3, by rw [k3 b.toNat (by omega) (by omega)]; exact l4⟩
  · exact h
def Kin (ks : List Int) (own : List ca.Ow) : Prop := ∀ o ∈ own, pg.kind ks o.2.2 = o.2.1
end
end Go.Proofs.YtkgdcgmbapchcaaGreatDoor.st
namespace Go.Proofs.YtkgdcgmbapchcaaGreatDoor.st
open Go.ChangeShapes Go.WideShapes Go.ChangeAt Go.RowKit Go.Maps gen calls cls geos ce
set_option linter.unusedVariables false
structure Ids where
  S : Nat
  c : Nat
  h : Nat
  g : Nat
  r : Nat
  m : Nat
  q : Nat
  s : Nat
  C : Nat
  mb : Nat
structure Hs where
  ks : List Int
  xs : List Int
  cs : List Int
  tk : List Int
  fr : Nat → List Int
  own : List ca.Ow
  cnt : Nat
  T : Nat
def Ids.L (I : Ids) : List Nat := [I.S, I.h, I.r, I.q, I.s, I.mb]
def Ids.all (I : Ids) : List Nat := [I.S, I.c, I.h, I.g, I.r, I.m, I.q, I.s, I.C, I.mb]
structure Sr (w : World) (I : Ids) (x : Hs) : Prop where
  box : w.heap[I.S]? = some (.cells #[.pointer (some ⟨I.c, 0, none⟩), .pointer (some ⟨I.C, 0, none⟩), .int .i64 x.T, .int .i64 x.cnt] 149 (0, 0))
  hp : ∃ ws, Hp w I.c I.h I.g I.r I.m I.q I.s x.ks x.xs x.cs ws ∧ bm.nums ws = x.tk
  ok : Ok x.ks x.xs x.cs x.tk x.fr
  at_ : ∃ D, ca.At w I.C I.mb x.T x.own D
theorem at_gr {L : List Nat} {w w' : World} {c mb n : Nat} {m : List ca.Ow} {D : DataW Unit} (C : ca.At w c mb n m D) (hg : Gr L w w') (h1 : c ∉ L) (h2 : mb ∉ L) : ca.At w' c mb n m D := by
  obtain ⟨es, clock, hb, F, hs, hD⟩ := C.own
  exact ⟨hg.heap C.box h1, ⟨es, clock, hg.heap hb h2, F, hs, hD⟩, C.tells, C.good, C.few⟩
theorem map_ne {w : World} {a b : Nat} {x : Array Value} {t : TypeId} {f : Nat × Nat} {o : Obj} (h1 : w.heap[a]? = some (.cells x t f)) (h2 : w.heap[b]? = some o) (h : ∀ x t f, o ≠ .cells x t f) : a ≠ b := by
  rintro rfl
  have := h1.symm.trans h2
  injection this with this
  exact h _ _ _ this.symm
section
variable {w w' : World} {I : Ids} {x : Hs}
structure Ne (I : Ids) : Prop where
  S : I.S ≠ I.c ∧ I.S ≠ I.h ∧ I.S ≠ I.g ∧ I.S ≠ I.r ∧ I.S ≠ I.m ∧ I.S ≠ I.q ∧ I.S ≠ I.s ∧ I.S ≠ I.C ∧ I.S ≠ I.mb
  C : I.C ≠ I.c ∧ I.C ≠ I.h ∧ I.C ≠ I.g ∧ I.C ≠ I.r ∧ I.C ≠ I.m ∧ I.C ≠ I.q ∧ I.C ≠ I.s ∧ I.C ≠ I.mb
  mb : I.c ≠ I.mb ∧ I.h ≠ I.mb ∧ I.g ≠ I.mb ∧ I.r ≠ I.mb ∧ I.m ≠ I.mb ∧ I.q ≠ I.mb ∧ I.s ≠ I.mb
theorem Sr.ne (H : Sr w I x) : Ne I := by
  obtain ⟨ws, H0, _⟩ := H.hp
  obtain ⟨D, C⟩ := H.at_
  obtain ⟨zs, t1, t2, _⟩ := H0.tab
  obtain ⟨m1, m2, _⟩ := H0.mem
  obtain ⟨s1, _⟩ := H0.set
  obtain ⟨es, clock, hb, _⟩ := C.own
  have nm : ∀ x t f, Obj.map es clock ≠ .cells x t f := fun _ _ _ e => by cases e
  have b := H.box
  have cb := C.box
  have c1 := H0.cel
  have h1 := H0.hea
  exact ⟨⟨ty_ne b c1 (by decide), ty_ne b h1 (by decide), ty_ne b t1 (by decide), ty_ne b t2 (by decide), ty_ne b m1 (by decide), ty_ne b m2 (by decide), ty_ne b s1 (by decide), ty_ne b cb (by decide), map_ne b hb nm⟩,
    ⟨ty_ne cb c1 (by decide), ty_ne cb h1 (by decide), ty_ne cb t1 (by decide), ty_ne cb t2 (by decide), ty_ne cb m1 (by decide), ty_ne cb m2 (by decide), ty_ne cb s1 (by decide), map_ne cb hb nm⟩,
    ⟨map_ne c1 hb nm, map_ne h1 hb nm, map_ne t1 hb nm, map_ne t2 hb nm, map_ne m1 hb nm, map_ne m2 hb nm, map_ne s1 hb nm⟩⟩
theorem Sr.lt (H : Sr w I x) : ∀ k, k ∈ I.all → k < w.heap.size := by
  obtain ⟨ws, H0, _⟩ := H.hp
  obtain ⟨D, C⟩ := H.at_
  have h1 := H0.lt
  have h2 := C.lt
  have h3 := pg.lt_of_heap H.box
  intro k hk
  simp only [Ids.all, List.mem_cons, List.not_mem_nil, or_false] at hk
  omega
theorem Sr.gr {L : List Nat} (H : Sr w I x) (hg : Gr L w w') (hL : ∀ k, k ∈ L → k ∉ I.all) : Sr w' I x := by
  have h1 : ∀ k, k ∈ I.all → k ∉ L := fun k h1 h2 => hL k h2 h1
  obtain ⟨ws, H0, e⟩ := H.hp
  obtain ⟨D, C⟩ := H.at_
  refine ⟨hg.heap H.box (h1 _ (by simp [Ids.all])), ⟨ws, H0.gr hg (fun k hk => ?_), e⟩, H.ok, ⟨D, at_gr C hg (h1 _ (by simp [Ids.all])) (h1 _ (by simp [Ids.all]))⟩⟩
  have := hL k hk
  simp only [Ids.all, List.mem_cons, List.not_mem_nil, or_false] at this
  omega
theorem Sr.new (H : Sr w I x) (hg : w.grownBy w' none) : Sr w' I x := H.gr (L := []) (.new hg) (by simp)
theorem Sr.s0 (H : Sr w I x) : w.cell? ⟨I.S, 0, none⟩ = some (.pointer (some ⟨I.c, 0, none⟩)) := by rw [cell_of_row w I.S 0 _ _ _ H.box]; rfl
theorem Sr.s1 (H : Sr w I x) : w.cell? ⟨I.S, 1, none⟩ = some (.pointer (some ⟨I.C, 0, none⟩)) := by rw [cell_of_row w I.S 1 _ _ _ H.box]; rfl
theorem Sr.s2 (H : Sr w I x) : w.cell? ⟨I.S, 2, none⟩ = some (.int .i64 x.T) := by rw [cell_of_row w I.S 2 _ _ _ H.box]; rfl
theorem Sr.s3 (H : Sr w I x) : w.cell? ⟨I.S, 3, none⟩ = some (.int .i64 x.cnt) := by rw [cell_of_row w I.S 3 _ _ _ H.box]; rfl
theorem Sr.fz (H : Sr w I x) (k : Nat) : w.frozen? ⟨I.S, k, none⟩ = false := frozen_of_row w I.S k _ _ H.box
theorem Sr.heap (H : Sr w I x) {ks xs cs tk : List Int} {fr : Nat → List Int} {ws : List Nat} (hp : Hp w' I.c I.h I.g I.r I.m I.q I.s ks xs cs ws) (e : bm.nums ws = tk) (O : Ok ks xs cs tk fr) (hg : Gr [I.h, I.r, I.q, I.s] w w') : Sr w' I { x with ks := ks, xs := xs, cs := cs, tk := tk, fr := fr } := by
  have n := H.ne
  obtain ⟨D, C⟩ := H.at_
  refine ⟨hg.heap H.box (by simp; have := n.S; omega), ⟨ws, hp, e⟩, O, ⟨D, at_gr C hg (by simp; have := n.C; omega) (by simp; have := n.mb; omega)⟩⟩
theorem Sr.cache (H : Sr w I x) {own : List ca.Ow} {D : DataW Unit} (C : ca.At w' I.C I.mb x.T own D) (hg : w.grownBy w' (some I.mb)) : Sr w' I { x with own := own } := by
  have n := H.ne
  obtain ⟨ws, H0, e⟩ := H.hp
  have G : Gr [I.mb] w w' := .one hg (by simp)
  refine ⟨G.heap H.box (by simp; exact n.S.2.2.2.2.2.2.2.2), ⟨ws, H0.gr G (fun k hk => ?_), e⟩, H.ok, ⟨D, C⟩⟩
  have := n.mb
  simp at hk
  omega
theorem Sr.count (H : Sr w I x) (v : Nat) : Sr (w.setCell ⟨I.S, 3, none⟩ (.int .i64 v)) I { x with cnt := v } := by
  have n := H.ne
  obtain ⟨ws, H0, e⟩ := H.hp
  obtain ⟨D, C⟩ := H.at_
  have G : Gr [I.S] w (w.setCell ⟨I.S, 3, none⟩ (.int .i64 v)) := .set _ _ _ _ (by simp)
  refine ⟨?_, ⟨ws, H0.gr G (fun k hk => ?_), e⟩, H.ok, ⟨D, at_gr C G (by simp; have := n.S; omega) (by simp; have := n.S; omega)⟩⟩
  · rw [heap_setCell_same w I.S _ _ _ _ H.box]; rfl
  · have := n.S
    simp at hk
    omega
def Done (I : Ids) (v : Value) (y : Hs) (w : World) (e : Ending) (w' : World) : Prop := e = .returned v ∧ Sr w' I y ∧ Gr I.L w w'
theorem gr4 {I : Ids} {w w' : World} (h : Gr [I.h, I.r, I.q, I.s] w w') : Gr I.L w w' := h.mono (fun k hk => by simp at hk; simp [Ids.L]; omega)
theorem grm {I : Ids} {w w' : World} (h : w.grownBy w' (some I.mb)) : Gr I.L w w' := .one h (by simp [Ids.L])
theorem grs {I : Ids} (w : World) (k : Nat) (v : Value) : Gr I.L w (w.setCell ⟨I.S, k, none⟩ v) := .set _ _ _ _ (by simp [Ids.L])
end
end Go.Proofs.YtkgdcgmbapchcaaGreatDoor.st
namespace Go.Proofs.YtkgdcgmbapchcaaGreatDoor.st
open Go.ChangeShapes Go.WideShapes Go.ChangeAt Go.RowKit Go.Maps gen calls cls geos ce
set_option linter.unusedVariables false
set_option maxHeartbeats 4000000
set_option maxRecDepth 100000
def Hs.took (x : Hs) (p : Nat) (f : Int) (rest : List Int) (a z : Nat) : Hs := { x with xs := mm.fillN x.xs a 0 z, cs := cput x.cs p (ch.lk x.xs p (pg.kind x.ks p) f) (cn x.cs p - 1), tk := bm.rising (x.tk ++ [(a : Int)]), fr := upd x.fr p rest }
def Hs.begun (x : Hs) (a : Nat) (n : Int) : Hs := { x with xs := x.xs.set a ((x.cnt : Int) * 128 + n), cnt := x.cnt + 1 }
def Hs.carved (x : Hs) (p : Nat) (k : Int) (z n : Nat) : Hs := { x with ks := x.ks.set p k, xs := ch.builtN x.xs p z n, cs := cput x.cs p 0 n, fr := upd x.fr p (ch.from_ 0 n) }
def Hs.spanned (x : Hs) (p n a z : Nat) : Hs := { x with ks := pg.spanN x.ks p n, xs := mm.fillN x.xs a 0 z, tk := bm.rising (x.tk ++ [(a : Int)]) }
def Hs.owned (x : Hs) (t k p : Int) : Hs := { x with own := ca.rest x.own t k ++ [(t, k, p)] }
def Hs.goneL (x : Hs) (a P : Nat) : Hs := { x with ks := pg.fillN x.ks P 0 (pg.siz x.ks P).toNat, tk := x.tk.filter fun y => decide (y ≠ (a : Int)) }
def Hs.goneC (x : Hs) (a P : Nat) (i : Int) : Hs := { x with xs := x.xs.set a (-1 - cf x.cs P), cs := cput x.cs P i (cn x.cs P + 1), tk := x.tk.filter fun y => decide (y ≠ (a : Int)), fr := upd x.fr P (i :: x.fr P) }
def Hs.dropped (x : Hs) (p : Nat) : Hs := { x with ks := x.ks.set p 0 }
section
variable {w w' : World} {I : Ids} {x : Hs}
theorem known_yes (S : Nat) (w : World) : Calls Tryz.prog 127 #[.pointer (some ⟨S, 0, none⟩)] w fun e w' => e = .returned (.pointer (some ⟨S, 0, none⟩)) ∧ w = w' := by
  go_enter Tryz.func127, Tryz.ntmps127
  go_wp2
  go_ret
  exact ⟨rfl, rfl⟩
theorem Owner_any (H : Sr w I x) (p : Int) : Calls Tryz.prog 215 #[.pointer (some ⟨I.S, 0, none⟩), .int .i64 p] w fun e w' => e = .returned (.int .i64 (ca.owner x.own p).1) ∧ w.grownBy w' none := by
  have f := H.s1
  obtain ⟨D, C⟩ := H.at_
  have O := Lib.hid (ca.Owner_any C p)
  clear H C
  go_enter Tryz.func215, Tryz.ntmps215
  go_wp2_with (first
    | (go_at_call 127; (with_reducible refine (known_yes _ _).mono ?_); rintro e w' ⟨rfl, rfl⟩)
    | (go_at_call 261; (with_reducible refine O.out.mono ?_); rintro e w2 ⟨rfl, hg⟩; have G2 := Lib.hid hg; clear hg))
  go_ret
  exact ⟨rfl, G2.out⟩
theorem begin_any (H : Sr w I x) {a : Nat} {n : Int} (hm : hd.May x.cnt n) (hb : bs x.ks x.tk a ≠ -1) :
    Calls Tryz.prog 217 #[.pointer (some ⟨I.S, 0, none⟩), .int .i64 a, .int .i64 n] w (Done I (.tuple #[]) (x.begun a n) w) := by
  obtain ⟨ws, H0, e⟩ := H.hp
  subst_vars
  have O := H.ok
  rw [← e] at hb O
  have hv : -9223372036854775808 ≤ (x.cnt : Int) * 128 + n ∧ (x.cnt : Int) * 128 + n ≤ 9223372036854775807 := by obtain ⟨_, _, _, _⟩ := hm; omega
  obtain ⟨O', hx⟩ := O.store hb hv
  have ST := Lib.hid (Store_yes H0 O.kds a ((x.cnt : Int) * 128 + n) hb hx)
  have f0 := H.s0
  have f3 := H.s3
  have HH := Lib.hid H
  have MK := Lib.hid (hd.Make_yes _ _ w hm)
  have OO := Lib.hid O'
  have CC : (x.cnt : Int) < 1099511627776 := hm.2.1
  obtain ⟨c, hc⟩ : ∃ c : Nat, c = x.cnt := ⟨_, rfl⟩
  have HE := Lib.hid e
  have HC := Lib.hid hc
  generalize hv2 : (x.cnt : Int) * 128 + n = v at *
  have HV := Lib.hid hv2
  clear H H0 O O' hb hx hv hm e hv2
  go_enter Tryz.func217, Tryz.ntmps217
  go_wp2_with (first
    | (go_at_call 265; (with_reducible refine MK.out.mono ?_); rintro e w' ⟨rfl, rfl⟩)
    | (go_at_call 168; (with_reducible refine ST.out.mono ?_); rintro e w2 ⟨ws2, rfl, hp, he, hg⟩; have H2 := Lib.hid (HH.out.heap hp (he.trans HE.out) (HE.out ▸ OO.out) hg); have G2 := Lib.hid (gr4 (I := I) hg); have f32 := H2.out.s3; have z3 := H2.out.fz 3; clear hp he hg))
  go_end0
  refine ⟨rfl, ?_, G2.out.trans (grs _ _ _)⟩
  have := H2.out.count (x.cnt + 1)
  unfold Hs.begun
  rw [HV.out]
  simpa using this
end
end Go.Proofs.YtkgdcgmbapchcaaGreatDoor.st
