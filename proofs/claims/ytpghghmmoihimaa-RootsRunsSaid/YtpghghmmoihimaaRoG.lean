/- The walk of RootsRuns. -/
import Derived.Test.YtpghghmmoihimaaRoF
namespace Go.Proofs.Ytpghghmmoihimaa.ro
open Go.ChangeShapes Go.WideShapes Go.ChangeAt Go.RowKit gen li va wd
set_option linter.unusedVariables false
set_option maxHeartbeats 8000000
set_option maxRecDepth 100000
theorem RootsRuns_any (D : Option Addr) (l c2 : Nat) (f : Nat → Nat → Int) (w : World) (hc : l ≤ c2) (hc2 : c2 ≤ maxLen) (ho : Rws w w.heap.size D l 4 f) :
    Calls Try.prog 3 #[.slice D l c2] w fun e w' => e = .returned (.bool true) ∧ w.grownBy w' none := by
  have HO := Lib.hid ho
  have HD := Lib.hid (show 0 < l → ∃ ad, D = some ad from ho.some)
  have HL1 := Lib.hid hc
  have HL2 := Lib.hid hc2
  clear ho hc hc2
  go_enter Try.func3, Try.ntmps3
  go_wp2_with (first
    | (go_at_call 6; (with_reducible refine (alive_any _).mono ?_); rintro e w1 ⟨rfl, hg⟩; have G1 := Lib.hid hg; have R1 := Lib.hid (Rt.zero w1); have G2 := Lib.hid (hg.trans (grown_zero w1)); have LE := Lib.hid hg.size; clear hg)
    | (go_at_call 8; (with_reducible refine (few_any _ _ _ _ HL1.out HL2.out HD.out).mono ?_); rintro e w' ⟨⟨l2, c3, hl1, hl2, rfl⟩, rfl⟩)
    | (go_at_call 7; (with_reducible refine (run_any R1.out (Lv.nil _ _) rfl ((HO.out.less hl2).kept G2.out (by simp)) LE.out hl1).mono ?_); rintro e w5 ⟨A5, N5, c5, m5, rfl, _, _, _, hg5⟩; have G5 := Lib.hid (grown_new G1.out (grown_then (grown_zero w1) hg5) LE.out); clear hg5))

  go_ret
  exact ⟨rfl, G5.out⟩
end Go.Proofs.Ytpghghmmoihimaa.ro
