/- Texts that this claim stands on. -/
import Derived.Deep.AppendLies
import Derived.Deep.RegionHeld3
import Derived.Deep.RegionHeldLaw
import Derived.Laws.OwnMore
import Derived.Lib.SliceRun
import Derived.BigQuiet
import Derived.BigRegion
import Derived.Test.YtfhebjkoojodiaaDoorQVaA
import Derived.Test.YtfhebjkoojodiaaDoorQGrA
import Derived.Test.YtfhebjkoojodiaaDoorQCdC
namespace Go.Proofs.YtfhebjkoojodiaaDoor.gp
open Go.ChangeShapes Go.WideShapes Go.ChangeAt Go.RowKit gen va
set_option linter.unusedVariables false
set_option maxHeartbeats 1000000
set_option maxRecDepth 100000
structure Gs where
  N : Nat
  q : Int
  M : Nat
  lv : Nat → Bool
  hd : Nat → List Va
  nd : Nat → List Va
structure Gs.Ok (σ : Gs) : Prop where
  n : σ.N ≤ 8
  n0 : 0 < σ.N
  q1 : 1 ≤ σ.q
  q2 : σ.q ≤ 16
  m0 : 0 < σ.M
  m : σ.M ≤ 1000
  hl : ∀ t, (σ.hd t).length ≤ 16
  nl : ∀ i, (σ.nd i).length ≤ 127
  hr : ∀ t v, v ∈ σ.hd t → v.1 = 2 → 0 ≤ v.2 ∧ v.2 < σ.M
  nr : ∀ i v, i < σ.M → v ∈ σ.nd i → v.1 = 2 → 0 ≤ v.2 ∧ v.2 < σ.M
  dead : ∀ t, σ.lv t = false → σ.hd t = []
def upd {α : Type} (f : Nat → α) (i : Nat) (x : α) : Nat → α := fun j => if j = i then x else f j
theorem upd_same {α : Type} (f : Nat → α) (i : Nat) (x : α) : upd f i x i = x := if_pos rfl
theorem upd_else {α : Type} (f : Nat → α) {i j : Nat} (x : α) (h : j ≠ i) : upd f i x j = f j := if_neg h
section
variable {w w' : World} {K L : List Nat} {g : Nat} {c : Nat → Int} {σ : Gs} {R : Nat} {A : Option Addr} {nc : Nat} {vs : Nat → Value} {bs : Nat → Nat}
end
end Go.Proofs.YtfhebjkoojodiaaDoor.gp
namespace Go.Proofs.YtfhebjkoojodiaaDoor.cd
open Go.ChangeShapes Go.WideShapes Go.ChangeAt Go.RowKit gen yb
set_option linter.unusedVariables false
set_option maxHeartbeats 1000000
set_option maxRecDepth 100000
theorem Check_as {k t i f j c n z : Int} (w : World) (hz : chk k [k, t, i, f, j, c] n = z) : Calls Tryd.prog 37 #[.agg #[.int .i64 k, .int .i64 t, .int .i64 i, .int .i64 f, .int .i64 j, .int .i64 c, .int .i64 n]] w
    fun e w' => e = .returned (.int .i64 z) ∧ w.grownBy w' none := by
  subst hz
  by_cases h : k < 1 ∨ 17 < k
  · rw [chk_12 h]
    exact Check_kind k t i f j c n w h
  · exact Check_any k t i f j c n w (by omega) (by omega)
end Go.Proofs.YtfhebjkoojodiaaDoor.cd
namespace Go.Proofs.YtfhebjkoojodiaaDoor.gp
open Go.ChangeShapes Go.WideShapes Go.ChangeAt Go.RowKit gen va cd
set_option linter.unusedVariables false
set_option maxHeartbeats 1000000
set_option maxRecDepth 100000
def wh (σ : Gs) (k : Int) (t : Nat) : Int :=
  if 16 ≤ k then 0 else if σ.N ≤ t then 4 else if k = 1 then (if σ.lv t = true then 9 else 0) else (if σ.lv t = true then 0 else 14)
def nb (σ : Gs) (k c n : Int) : Bool :=
  (k == 3 && (decide (n < 0) || decide (127 < n) || decide (c < 1) || decide (σ.q < c))) || (k == 4 && (decide (n < -1099511627776) || decide (1099511627775 < n))) ||
  ((k == 13 || k == 16) && (decide (n < 1) || decide (64 < n))) || (k == 15 && (decide (n < 1) || decide (64 < n) || decide (c < 1) || decide (σ.q < c)))
def ob (σ : Gs) (t i f : Nat) (b : Bool) : Int :=
  if (σ.hd t).length ≤ i then 4 else if ((σ.hd t).getD i (0, 0)).1 ≠ 2 then 12 else if b = true ∧ (σ.nd ((σ.hd t).getD i (0, 0)).2.toNat).length ≤ f then 4 else 0
theorem drew2 (w : World) (a b : Nat) : w.grownBy ((w.drewN a).drewN b) none := (li.grown_drewN _ _ _).trans (li.grown_drewN _ _ _)
theorem drew3 (w : World) (a b c : Nat) : w.grownBy (((w.drewN a).drewN b).drewN c) none := (drew2 w a b).trans (li.grown_drewN _ _ _)
section
variable {w : World} {K : List Nat} {g : Nat} {cf : Nat → Int} {σ : Gs}
end
end Go.Proofs.YtfhebjkoojodiaaDoor.gp
namespace Go.Proofs.YtfhebjkoojodiaaDoor.gp
open Go.ChangeShapes Go.WideShapes Go.ChangeAt Go.RowKit gen va cd
set_option linter.unusedVariables false
set_option maxHeartbeats 1000000
set_option maxRecDepth 100000
def g0 (N : Nat) (q : Int) : Gs := { N := N, q := q, M := 1, lv := fun _ => false, hd := fun _ => [], nd := fun _ => List.replicate 4 (0, 0) }
end Go.Proofs.YtfhebjkoojodiaaDoor.gp
