/- What the law's own small functions on a page's chain do when they are called: link, walk, few. -/
import Derived.Test.YtkkoiglfimibjaaDoorChE
import Derived.Test.YtkkoiglfimibjaaDoorGenC
namespace Go.Proofs.YtkkoiglfimibjaaDoor.ch
open Go.ChangeShapes Go.WideShapes Go.ChangeAt Go.RowKit gen calls cls geos mm
set_option linter.unusedVariables false

theorem below_grown {w w' : World} (h : Below w.heap.size w w') : w.grownBy w' none := ⟨h.os, h.tape, h.output, h.size, fun i hi _ => h.block i hi⟩
theorem rSize_g (k : Int) (w : World) (h : fits k = true) : Calls Tryd.prog 19 #[.int .i64 k] w fun e w' => e = .returned (.int .i64 (sz k)) ∧ w.grownBy w' none :=
  (rSize_any k w h).mono fun _ _ ⟨he, hb⟩ => ⟨he, below_grown hb⟩
theorem rCells_g (k : Int) (w : World) (h : fits k = true) : Calls Tryd.prog 77 #[.int .i64 k] w fun e w' => e = .returned (.int .i64 (cl k)) ∧ w.grownBy w' none :=
  (rCells_any k w h).mono fun _ _ ⟨he, hb⟩ => ⟨he, below_grown hb⟩
theorem small_fits {k : Int} (h1 : 1 ≤ k) (h2 : k ≤ 4) : fits k = true := fits_iff.mpr (by omega)

theorem Rd.grown {w w' : World} {A : Option Addr} {n c : Nat} {xs : List Int} (h : Rd w w.heap.size A n c xs) (hg : w.grownBy w' none) : Rd w' w'.heap.size A n c xs :=
  ⟨h.1, h.2.1, fun ad e i hi => ⟨Nat.lt_of_lt_of_le (h.2.2 ad e i hi).1 hg.size, ((h.below (grown_below hg)).2.2 ad e i hi).2⟩⟩

end Go.Proofs.YtkkoiglfimibjaaDoor.ch
