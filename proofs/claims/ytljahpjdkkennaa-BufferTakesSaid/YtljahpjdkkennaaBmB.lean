/- What Add, Remove, Has, Count, Next and Clear do to a set in memory. -/
import Derived.Test.YtljahpjdkkennaaBmA
import Derived.Maps.AppendAt
import Derived.Laws.OwnMore
import Derived.Laws.AppendOwn
namespace Go.Proofs.Ytljahpjdkkennaa.bm
open Go.ChangeShapes Go.WideShapes Go.ChangeAt Go.RowKit
set_option linter.unusedVariables false

theorem grown_refl (w : World) (row : Option Nat) : w.grownBy w row := ⟨rfl, rfl, rfl, Nat.le_refl _, fun _ _ _ => rfl⟩
theorem grown_drewN (w : World) (n : Nat) (row : Option Nat) : w.grownBy (w.drewN n) row := ⟨rfl, rfl, rfl, Nat.le_refl _, fun _ _ _ => rfl⟩
/-- What a look leaves behind. -/
def Drew (w w' : World) : Prop := ∃ k, w' = w.drewN k
section
variable {w : World} {g n : Nat} {b : Bool} {ws : List Nat}
end
end Go.Proofs.Ytljahpjdkkennaa.bm
