/- The store's own: known, begin, from; what only tells. -/
import Derived.Test.YtfhmhlofjoahlaaGreatDoorStA
import Derived.Test.YtfhmhlofjoahlaaGreatDoorHdA
import Derived.Test.YtfhmhlofjoahlaaGreatDoorCsO
import Derived.Deep.RegionHeld3
namespace Go.Proofs.YtfhmhlofjoahlaaGreatDoor.st
open Go.ChangeShapes Go.WideShapes Go.ChangeAt Go.RowKit Go.Maps gen calls cls geos ce
set_option linter.unusedVariables false
set_option maxHeartbeats 4000000
set_option maxRecDepth 100000
/-- What changes of a store by lists. -/
def Hs.took (x : Hs) (p : Nat) (f : Int) (rest : List Int) (a z : Nat) : Hs := { x with xs := mm.fillN x.xs a 0 z, cs := cput x.cs p (ch.lk x.xs p (pg.kind x.ks p) f) (cn x.cs p - 1), tk := bm.rising (x.tk ++ [(a : Int)]), fr := upd x.fr p rest }
def Hs.begun (x : Hs) (a : Nat) (n : Int) : Hs := { x with xs := x.xs.set a ((x.cnt : Int) * 128 + n), cnt := x.cnt + 1 }
def Hs.carved (x : Hs) (p : Nat) (k : Int) (z n : Nat) : Hs := { x with ks := x.ks.set p k, xs := ch.builtN x.xs p z n, cs := cput x.cs p 0 n, fr := upd x.fr p (ch.from_ 0 n) }
def Hs.spanned (x : Hs) (p n a z : Nat) : Hs := { x with ks := pg.spanN x.ks p n, xs := mm.fillN x.xs a 0 z, tk := bm.rising (x.tk ++ [(a : Int)]) }
def Hs.owned (x : Hs) (t k p : Int) : Hs := { x with own := ca.rest x.own t k ++ [(t, k, p)] }
def Hs.goneL (x : Hs) (a P : Nat) : Hs := { x with ks := pg.fillN x.ks P 0 (pg.siz x.ks P).toNat, tk := x.tk.filter fun y => decide (y ≠ (a : Int)) }
def Hs.goneC (x : Hs) (a P : Nat) (i : Int) : Hs := { x with xs := x.xs.set a (-1 - cf x.cs P), cs := cput x.cs P i (cn x.cs P + 1), tk := x.tk.filter fun y => decide (y ≠ (a : Int)), fr := upd x.fr P (i :: x.fr P) }
def Hs.dropped (x : Hs) (p : Nat) : Hs := { x with ks := x.ks.set p 0 }
def Hs.stored (x : Hs) (j : Nat) (v : Int) : Hs := { x with xs := x.xs.set j v }
section
variable {w w' : World} {I : Ids} {x : Hs}
theorem known_yes (S : Nat) (w : World) : Calls Tryz.prog 21 #[.pointer (some ⟨S, 0, none⟩)] w fun e w' => e = .returned (.pointer (some ⟨S, 0, none⟩)) ∧ w = w' := by
  go_enter Tryz.func21, Tryz.ntmps21
  go_wp2
  go_ret
  exact ⟨rfl, rfl⟩
theorem Made_any (H : Sr w I x) : Calls Tryz.prog 19 #[.pointer (some ⟨I.S, 0, none⟩)] w fun e w' => e = .returned (.int .i64 x.cnt) ∧ w = w' := by
  have f := H.s3
  clear H
  go_enter Tryz.func19, Tryz.ntmps19
  go_wp2_with (go_at_call 21; (with_reducible refine (known_yes _ _).mono ?_); rintro e w' ⟨rfl, rfl⟩)
  go_ret
  exact ⟨rfl, rfl⟩
theorem Owner_any (H : Sr w I x) (p : Int) : Calls Tryz.prog 18 #[.pointer (some ⟨I.S, 0, none⟩), .int .i64 p] w fun e w' => e = .returned (.int .i64 (ca.owner x.own p).1) ∧ w.grownBy w' none := by
  have f := H.s1
  obtain ⟨D, C⟩ := H.at_
  have O := Lib.hid (ca.Owner_any C p)
  clear H C
  go_enter Tryz.func18, Tryz.ntmps18
  go_wp2_with (first
    | (go_at_call 21; (with_reducible refine (known_yes _ _).mono ?_); rintro e w' ⟨rfl, rfl⟩)
    | (go_at_call 39; (with_reducible refine O.out.mono ?_); rintro e w2 ⟨rfl, hg⟩; have G2 := Lib.hid hg; clear hg))
  go_ret
  exact ⟨rfl, G2.out⟩
/-- The words that were granted become an object. -/
theorem begin_any (H : Sr w I x) {a : Nat} {n : Int} (hm : hd.May x.cnt n) (hb : bs x.ks x.tk a ≠ -1) :
    Calls Tryz.prog 44 #[.pointer (some ⟨I.S, 0, none⟩), .int .i64 a, .int .i64 n] w (Done I (.tuple #[]) (x.begun a n) w) := by
  obtain ⟨ws, H0, e⟩ := H.hp
  subst_vars
  have O := H.ok
  rw [← e] at hb O
  have hv : -9223372036854775808 ≤ (x.cnt : Int) * 128 + n ∧ (x.cnt : Int) * 128 + n ≤ 9223372036854775807 := by obtain ⟨_, _, _, _⟩ := hm; omega
  obtain ⟨O', hx⟩ := O.store hb hv
  have ST := Lib.hid (Store_yes H0 O.kds a ((x.cnt : Int) * 128 + n) hb hx)
  have f0 := H.s0
  have f3 := H.s3
  have HH := Lib.hid H
  have MK := Lib.hid (hd.Make_yes _ _ w hm)
  have OO := Lib.hid O'
  have CC : (x.cnt : Int) < 1099511627776 := hm.2.1
  obtain ⟨c, hc⟩ : ∃ c : Nat, c = x.cnt := ⟨_, rfl⟩
  have HE := Lib.hid e
  have HC := Lib.hid hc
  generalize hv2 : (x.cnt : Int) * 128 + n = v at *
  have HV := Lib.hid hv2
  clear H H0 O O' hb hx hv hm e hv2
  go_enter Tryz.func44, Tryz.ntmps44
  go_wp2_with (first
    | (go_at_call 76; (with_reducible refine MK.out.mono ?_); rintro e w' ⟨rfl, rfl⟩)
    | (go_at_call 31; (with_reducible refine ST.out.mono ?_); rintro e w2 ⟨ws2, rfl, hp, he, hg⟩; have H2 := Lib.hid (HH.out.heap hp (he.trans HE.out) (HE.out ▸ OO.out) hg); have G2 := Lib.hid (gr4 (I := I) hg); have f32 := H2.out.s3; have z3 := H2.out.fz 3; clear hp he hg))
  go_end0
  refine ⟨rfl, ?_, G2.out.trans (grs _ _ _)⟩
  have := H2.out.count (x.cnt + 1)
  unfold Hs.begun
  rw [HV.out]
  simpa using this
end
end Go.Proofs.YtfhmhlofjoahlaaGreatDoor.st
