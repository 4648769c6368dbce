/- A store in memory: what stands where; what leaves it. -/
import Derived.Test.YtfhmhlofjoahlaaGreatDoorStP
import Derived.Test.YtfhmhlofjoahlaaGreatDoorCeR
import Derived.Test.YtfhmhlofjoahlaaGreatDoorCaF
namespace Go.Proofs.YtfhmhlofjoahlaaGreatDoor.st
open Go.ChangeShapes Go.WideShapes Go.ChangeAt Go.RowKit Go.Maps gen calls cls geos ce
set_option linter.unusedVariables false
/-- Where a store's parts lie. -/
structure Ids where
  S : Nat
  c : Nat
  h : Nat
  g : Nat
  r : Nat
  m : Nat
  q : Nat
  s : Nat
  C : Nat
  mb : Nat
/-- A store by lists. -/
structure Hs where
  ks : List Int
  xs : List Int
  cs : List Int
  tk : List Int
  fr : Nat → List Int
  own : List ca.Ow
  cnt : Nat
  T : Nat
/-- What a store's calls write. -/
def Ids.L (I : Ids) : List Nat := [I.S, I.h, I.r, I.q, I.s, I.mb]
def Ids.all (I : Ids) : List Nat := [I.S, I.c, I.h, I.g, I.r, I.m, I.q, I.s, I.C, I.mb]
structure Sr (w : World) (I : Ids) (x : Hs) : Prop where
  box : w.heap[I.S]? = some (.cells #[.pointer (some ⟨I.c, 0, none⟩), .pointer (some ⟨I.C, 0, none⟩), .int .i64 x.T, .int .i64 x.cnt] 29 (0, 0))
  hp : ∃ ws, Hp w I.c I.h I.g I.r I.m I.q I.s x.ks x.xs x.cs ws ∧ bm.nums ws = x.tk
  ok : Ok x.ks x.xs x.cs x.tk x.fr
  at_ : ∃ D, ca.At w I.C I.mb x.T x.own D
theorem at_gr {L : List Nat} {w w' : World} {c mb n : Nat} {m : List ca.Ow} {D : DataW Unit} (C : ca.At w c mb n m D) (hg : Gr L w w') (h1 : c ∉ L) (h2 : mb ∉ L) : ca.At w' c mb n m D := by
  obtain ⟨es, clock, hb, F, hs, hD⟩ := C.own
  exact ⟨hg.heap C.box h1, ⟨es, clock, hg.heap hb h2, F, hs, hD⟩, C.tells, C.good, C.few⟩
theorem map_ne {w : World} {a b : Nat} {x : Array Value} {t : TypeId} {f : Nat × Nat} {o : Obj} (h1 : w.heap[a]? = some (.cells x t f)) (h2 : w.heap[b]? = some o) (h : ∀ x t f, o ≠ .cells x t f) : a ≠ b := by
  rintro rfl
  have := h1.symm.trans h2
  injection this with this
  exact h _ _ _ this.symm
section
variable {w w' : World} {I : Ids} {x : Hs}
/-- No two of a store's blocks are one. -/
structure Ne (I : Ids) : Prop where
  S : I.S ≠ I.c ∧ I.S ≠ I.h ∧ I.S ≠ I.g ∧ I.S ≠ I.r ∧ I.S ≠ I.m ∧ I.S ≠ I.q ∧ I.S ≠ I.s ∧ I.S ≠ I.C ∧ I.S ≠ I.mb
  C : I.C ≠ I.c ∧ I.C ≠ I.h ∧ I.C ≠ I.g ∧ I.C ≠ I.r ∧ I.C ≠ I.m ∧ I.C ≠ I.q ∧ I.C ≠ I.s ∧ I.C ≠ I.mb
  mb : I.c ≠ I.mb ∧ I.h ≠ I.mb ∧ I.g ≠ I.mb ∧ I.r ≠ I.mb ∧ I.m ≠ I.mb ∧ I.q ≠ I.mb ∧ I.s ≠ I.mb
theorem Sr.ne (H : Sr w I x) : Ne I := by
  obtain ⟨ws, H0, _⟩ := H.hp
  obtain ⟨D, C⟩ := H.at_
  obtain ⟨zs, t1, t2, _⟩ := H0.tab
  obtain ⟨m1, m2, _⟩ := H0.mem
  obtain ⟨s1, _⟩ := H0.set
  obtain ⟨es, clock, hb, _⟩ := C.own
  have nm : ∀ x t f, Obj.map es clock ≠ .cells x t f := fun _ _ _ e => by cases e
  have b := H.box
  have cb := C.box
  have c1 := H0.cel
  have h1 := H0.hea
  exact ⟨⟨ty_ne b c1 (by decide), ty_ne b h1 (by decide), ty_ne b t1 (by decide), ty_ne b t2 (by decide), ty_ne b m1 (by decide), ty_ne b m2 (by decide), ty_ne b s1 (by decide), ty_ne b cb (by decide), map_ne b hb nm⟩,
    ⟨ty_ne cb c1 (by decide), ty_ne cb h1 (by decide), ty_ne cb t1 (by decide), ty_ne cb t2 (by decide), ty_ne cb m1 (by decide), ty_ne cb m2 (by decide), ty_ne cb s1 (by decide), map_ne cb hb nm⟩,
    ⟨map_ne c1 hb nm, map_ne h1 hb nm, map_ne t1 hb nm, map_ne t2 hb nm, map_ne m1 hb nm, map_ne m2 hb nm, map_ne s1 hb nm⟩⟩
theorem Sr.lt (H : Sr w I x) : ∀ k, k ∈ I.all → k < w.heap.size := by
  obtain ⟨ws, H0, _⟩ := H.hp
  obtain ⟨D, C⟩ := H.at_
  have h1 := H0.lt
  have h2 := C.lt
  have h3 := pg.lt_of_heap H.box
  intro k hk
  simp only [Ids.all, List.mem_cons, List.not_mem_nil, or_false] at hk
  omega
/-- What writes none of it. -/
theorem Sr.gr {L : List Nat} (H : Sr w I x) (hg : Gr L w w') (hL : ∀ k, k ∈ L → k ∉ I.all) : Sr w' I x := by
  have h1 : ∀ k, k ∈ I.all → k ∉ L := fun k h1 h2 => hL k h2 h1
  obtain ⟨ws, H0, e⟩ := H.hp
  obtain ⟨D, C⟩ := H.at_
  refine ⟨hg.heap H.box (h1 _ (by simp [Ids.all])), ⟨ws, H0.gr hg (fun k hk => ?_), e⟩, H.ok, ⟨D, at_gr C hg (h1 _ (by simp [Ids.all])) (h1 _ (by simp [Ids.all]))⟩⟩
  have := hL k hk
  simp only [Ids.all, List.mem_cons, List.not_mem_nil, or_false] at this
  omega
theorem Sr.new (H : Sr w I x) (hg : w.grownBy w' none) : Sr w' I x := H.gr (L := []) (.new hg) (by simp)
theorem Sr.drewN (H : Sr w I x) (n : Nat) : Sr (w.drewN n) I x := H.new (bm.grown_drewN _ _ _)
theorem Sr.s0 (H : Sr w I x) : w.cell? ⟨I.S, 0, none⟩ = some (.pointer (some ⟨I.c, 0, none⟩)) := by rw [cell_of_row w I.S 0 _ _ _ H.box]; rfl
theorem Sr.s1 (H : Sr w I x) : w.cell? ⟨I.S, 1, none⟩ = some (.pointer (some ⟨I.C, 0, none⟩)) := by rw [cell_of_row w I.S 1 _ _ _ H.box]; rfl
theorem Sr.s2 (H : Sr w I x) : w.cell? ⟨I.S, 2, none⟩ = some (.int .i64 x.T) := by rw [cell_of_row w I.S 2 _ _ _ H.box]; rfl
theorem Sr.s3 (H : Sr w I x) : w.cell? ⟨I.S, 3, none⟩ = some (.int .i64 x.cnt) := by rw [cell_of_row w I.S 3 _ _ _ H.box]; rfl
theorem Sr.fz (H : Sr w I x) (k : Nat) : w.frozen? ⟨I.S, k, none⟩ = false := frozen_of_row w I.S k _ _ H.box
/-- The heap of cells has changed. -/
theorem Sr.heap (H : Sr w I x) {ks xs cs tk : List Int} {fr : Nat → List Int} {ws : List Nat} (hp : Hp w' I.c I.h I.g I.r I.m I.q I.s ks xs cs ws) (e : bm.nums ws = tk) (O : Ok ks xs cs tk fr) (hg : Gr [I.h, I.r, I.q, I.s] w w') : Sr w' I { x with ks := ks, xs := xs, cs := cs, tk := tk, fr := fr } := by
  have n := H.ne
  obtain ⟨D, C⟩ := H.at_
  refine ⟨hg.heap H.box (by simp; have := n.S; omega), ⟨ws, hp, e⟩, O, ⟨D, at_gr C hg (by simp; have := n.C; omega) (by simp; have := n.mb; omega)⟩⟩
/-- The cache has changed. -/
theorem Sr.cache (H : Sr w I x) {own : List ca.Ow} {D : DataW Unit} (C : ca.At w' I.C I.mb x.T own D) (hg : w.grownBy w' (some I.mb)) : Sr w' I { x with own := own } := by
  have n := H.ne
  obtain ⟨ws, H0, e⟩ := H.hp
  have G : Gr [I.mb] w w' := .one hg (by simp)
  refine ⟨G.heap H.box (by simp; exact n.S.2.2.2.2.2.2.2.2), ⟨ws, H0.gr G (fun k hk => ?_), e⟩, H.ok, ⟨D, C⟩⟩
  have := n.mb
  simp at hk
  omega
/-- One more is counted. -/
theorem Sr.count (H : Sr w I x) (v : Nat) : Sr (w.setCell ⟨I.S, 3, none⟩ (.int .i64 v)) I { x with cnt := v } := by
  have n := H.ne
  obtain ⟨ws, H0, e⟩ := H.hp
  obtain ⟨D, C⟩ := H.at_
  have G : Gr [I.S] w (w.setCell ⟨I.S, 3, none⟩ (.int .i64 v)) := .set _ _ _ _ (by simp)
  refine ⟨?_, ⟨ws, H0.gr G (fun k hk => ?_), e⟩, H.ok, ⟨D, at_gr C G (by simp; have := n.S; omega) (by simp; have := n.S; omega)⟩⟩
  · rw [heap_setCell_same w I.S _ _ _ _ H.box]; rfl
  · have := n.S
    simp at hk
    omega
/-- What a call that changed a store answers. -/
def Done (I : Ids) (v : Value) (y : Hs) (w : World) (e : Ending) (w' : World) : Prop := e = .returned v ∧ Sr w' I y ∧ Gr I.L w w'
theorem gr4 {I : Ids} {w w' : World} (h : Gr [I.h, I.r, I.q, I.s] w w') : Gr I.L w w' := h.mono (fun k hk => by simp at hk; simp [Ids.L]; omega)
theorem grm {I : Ids} {w w' : World} (h : w.grownBy w' (some I.mb)) : Gr I.L w w' := .one h (by simp [Ids.L])
theorem grs {I : Ids} (w : World) (k : Nat) (v : Value) : Gr I.L w (w.setCell ⟨I.S, k, none⟩ v) := .set _ _ _ _ (by simp [Ids.L])
end
end Go.Proofs.YtfhmhlofjoahlaaGreatDoor.st
