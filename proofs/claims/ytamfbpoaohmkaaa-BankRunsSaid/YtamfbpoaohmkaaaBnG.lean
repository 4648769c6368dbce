/- The walk of BankRuns. -/
import Derived.Test.YtamfbpoaohmkaaaBnF
namespace Go.Proofs.Ytamfbpoaohmkaaa.bn
open Go.ChangeShapes Go.WideShapes Go.ChangeAt Go.RowKit gen li gr
set_option linter.unusedVariables false
set_option maxHeartbeats 8000000
set_option maxRecDepth 100000
theorem BankRuns_any (n : Int) (D : Option Addr) (l c2 : Nat) (f : Nat → Nat → Int) (w : World) (hc : l ≤ c2) (hc2 : c2 ≤ maxLen) (ho : Rws w w.heap.size D l 2 f) :
    Calls Try.prog 3 #[.int .i64 n, .slice D l c2] w fun e w' => e = .returned (.bool true) ∧ w.grownBy w' none := by
  have NW := Lib.hid (fun w => New_any n w)
  have NE := Lib.hid (fun w => Near_any n 0 65535 w)
  have HO := Lib.hid ho
  have FW := Lib.hid (fun w => few_any D l c2 w hc hc2 ho.some)
  generalize near n 0 65535 = r0 at NW NE
  clear ho hc hc2
  go_enter Try.func3, Try.ntmps3
  go_wp2_with (first
    | (go_at_call 6; (with_reducible refine (alive_any _).mono ?_); rintro r w1 ⟨rfl, hg⟩; have G1 := Lib.hid hg; clear hg)
    | (go_at_call 8; (with_reducible refine (NW.out _).mono ?_); rintro r w2 ⟨g, rfl, hr, hge, hg⟩; have K2 := Lib.hid hr; have G2 := Lib.hid (G1.out.trans hg); have LE := Lib.hid (Nat.le_trans G1.out.size hge); clear hr hge hg)
    | (go_at_call 9; (with_reducible refine (NE.out _).mono ?_); rintro e w' ⟨rfl, hw⟩; subst hw)
    | (go_at_call 10; (with_reducible refine (FW.out _).mono ?_); rintro r w' ⟨⟨l2, c4, hl1, hl2, rfl⟩, rfl⟩; have RU := Lib.hid (show Calls Try.prog 7 #[.pointer (some ⟨g, 0, none⟩), .agg #[.int .i64 r0, .int .i64 0, .int .i64 0, .int .i64 0, .int .i64 0], .slice D l2 c4] w2 (RunA g l2 0 r0 w2) from run_any K2.out (by omega) ((HO.out.less hl2).kept G2.out (by simp)) LE.out hl1); clear hl1 hl2)
    | (go_at_call 7; (with_reducible refine RU.out.mono ?_); rintro r w5 ⟨h5, i5, o5, l5, rfl, _, hg5⟩; have G5 := Lib.hid (grown_new G2.out hg5 LE.out); clear hg5))
  go_ret
  exact ⟨rfl, G5.out.trans (World.grownBy_alloc _ _ _)⟩
end Go.Proofs.Ytamfbpoaohmkaaa.bn
