/- Layer 8's All: what it does when it is called. -/
import Derived.Test.YtkkoiglfimibjaaDoorChD
namespace Go.Proofs.YtkkoiglfimibjaaDoor.ch
open Go.ChangeShapes Go.WideShapes Go.ChangeAt Go.RowKit gen calls cls geos mm
set_option linter.unusedVariables false

theorem ret_list {A : Option Addr} {n m c : Nat} {b : Bool} (h : n = m) : Ending.returned (.tuple #[.slice A n c, .bool b]) = .returned (.tuple #[.slice A m c, .bool b]) := by rw [h]
theorem grown_box (w : World) (B : Nat) (a b : Value) : w.grownBy ((w.setCell ⟨B, 0, none⟩ a).setCell ⟨B, 1, none⟩ b) (some B) := grown_row (grown_row (World.grownBy.refl _ _) _ _) _ _
end Go.Proofs.YtkkoiglfimibjaaDoor.ch
