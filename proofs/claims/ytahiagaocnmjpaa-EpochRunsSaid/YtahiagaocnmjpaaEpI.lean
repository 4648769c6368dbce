/- The walk of EpochRuns. -/
import Derived.Test.YtahiagaocnmjpaaEpH
namespace Go.Proofs.Ytahiagaocnmjpaa.ep
open Go.ChangeShapes Go.WideShapes Go.ChangeAt Go.RowKit gen li
set_option linter.unusedVariables false
set_option maxHeartbeats 8000000
set_option maxRecDepth 100000
theorem EpochRuns_any (n : Int) (D : Option Addr) (l c2 : Nat) (f : Nat → Nat → Int) (w : World) (hc : l ≤ c2) (hc2 : c2 ≤ maxLen) (ho : Rws w w.heap.size D l 2 f) :
    Calls Try.prog 3 #[.int .i64 n, .slice D l c2] w fun e w' => e = .returned (.bool true) ∧ w.grownBy w' none := by
  obtain ⟨k, hk, h8⟩ := near_nat n 8
  have NW := Lib.hid (fun w => New_any n k hk h8 w)
  have BG := Lib.hid (fun w => begin_any n k hk h8 w)
  have HO := Lib.hid ho
  have FW := Lib.hid (fun w => few_any D l c2 w hc hc2 ho.some)
  clear ho hc hc2 hk
  go_enter Try.func3, Try.ntmps3
  go_wp2_with (first
    | (go_at_call 6; (with_reducible refine (alive_any _).mono ?_); rintro r w1 ⟨rfl, hg⟩; have G1 := Lib.hid hg; clear hg)
    | (go_at_call 8; (with_reducible refine (NW.out _).mono ?_); rintro r w2 ⟨g, rfl, hr, hge, hg⟩; have R2 := Lib.hid hr; have G2 := Lib.hid (G1.out.trans hg); have LE := Lib.hid (Nat.le_trans G1.out.size hge); clear hr hge hg)
    | (go_at_call 9; (with_reducible refine (BG.out _).mono ?_); rintro r w3 ⟨A3, N3, c3, hn3, rfl, hl3, hg⟩; have HN3 := Lib.hid hn3; have R3 := Lib.hid (R2.out.new hg); have L3 := Lib.hid hl3; have G3 := Lib.hid (G2.out.trans hg); clear hn3 hl3 hg)
    | (go_at_call 10; (with_reducible refine (FW.out _).mono ?_); rintro r w' ⟨⟨l2, c4, hl1, hl2, rfl⟩, rfl⟩; have RU := Lib.hid (show Calls Try.prog 7 #[.pointer (some ⟨g, 0, none⟩), .agg #[.slice A3 N3 c3, .int .i64 0], .slice D l2 c4] w3 (RunA g 0 l2 w3) from run_any (e := 0) R3.out L3.out HN3.out (by omega) ((HO.out.less hl2).kept G3.out (by simp)) LE.out hl1))
    | (go_at_call 7; (with_reducible refine RU.out.mono ?_); rintro r w5 ⟨A5, N5, c5, m5, e5, rfl, _, _, _, _, hg5⟩; have G5 := Lib.hid (grown_new G3.out hg5 LE.out); clear hg5))
  go_ret
  exact ⟨rfl, G5.out.trans (World.grownBy_alloc _ _ _)⟩
end Go.Proofs.Ytahiagaocnmjpaa.ep
