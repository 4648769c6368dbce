/- Texts that this claim stands on. -/
import Derived.Test.YtfhebjkoojodiaaDoorQCfB
namespace Go.Proofs.YtfhebjkoojodiaaDoor.cf
end Go.Proofs.YtfhebjkoojodiaaDoor.cf
namespace Go.Proofs.YtfhebjkoojodiaaDoor.cf
open Go.ChangeShapes Go.WideShapes Go.ChangeAt Go.RowKit
set_option linter.unusedVariables false
set_option maxRecDepth 100000
section
variable (a0 a1 a2 a3 a4 a5 a6 a7 a8 a9 : Int) (w : World)
set_option maxHeartbeats 4000000
theorem Wrong_as {n : Int} (hT : Table w) (hn : wrongN [a0, a1, a2, a3, a4, a5, a6, a7, a8, a9] = n) : Calls Tryd.prog 23 #[.agg #[.int .i64 a0, .int .i64 a1, .int .i64 a2, .int .i64 a3, .int .i64 a4, .int .i64 a5, .int .i64 a6, .int .i64 a7, .int .i64 a8, .int .i64 a9]] w
    fun e w' => e = .returned (.int .i64 n) ∧ Below w.heap.size w w' := hn ▸ Wrong_any a0 a1 a2 a3 a4 a5 a6 a7 a8 a9 w hT
theorem Check_yes (hT : Table w) (hn : wrongN [a0, a1, a2, a3, a4, a5, a6, a7, a8, a9] = 0) : Calls Tryd.prog 8 #[.agg #[.int .i64 a0, .int .i64 a1, .int .i64 a2, .int .i64 a3, .int .i64 a4, .int .i64 a5, .int .i64 a6, .int .i64 a7, .int .i64 a8, .int .i64 a9]] w
    fun e w' => e = .returned (.int .i64 0) ∧ Below w.heap.size w w' := by
  have hz := hT.1
  have HT := Lib.hid (hT.below (((Below.refl w.heap.size w)).alloc (Nat.le_refl _) (.cells #[.int .i64 a0, .int .i64 a1, .int .i64 a2, .int .i64 a3, .int .i64 a4, .int .i64 a5, .int .i64 a6, .int .i64 a7, .int .i64 a8, .int .i64 a9] 23)))
  have B0 := Lib.hid (((Below.refl w.heap.size w)).alloc (Nat.le_refl _) (.cells #[.int .i64 a0, .int .i64 a1, .int .i64 a2, .int .i64 a3, .int .i64 a4, .int .i64 a5, .int .i64 a6, .int .i64 a7, .int .i64 a8, .int .i64 a9] 23))
  have HN := Lib.hid hn
  clear hT hn
  go_enter Tryd.func8, Tryd.ntmps8
  go_wp2_with (go_at_call 23; (with_reducible refine (Wrong_as _ _ _ _ _ _ _ _ _ _ _ HT.out HN.out).mono ?_); rintro e w2 ⟨rfl, hb2⟩; have HB2 := Lib.hid hb2; have HS2 := Lib.hid ((Ten.new w 23 a0 a1 a2 a3 a4 a5 a6 a7 a8 a9).below hb2); obtain ⟨c0, c1, c2, c3, c4, c5, c6, c7, c8, c9⟩ := HS2.out; clear hb2)
  go_ret
  exact ⟨rfl, B0.out.trans (HB2.out.mono (by simp))⟩
theorem Check_no {n : Int} (h0 : (n == 0) = false) (hT : Table w) (hn : wrongN [a0, a1, a2, a3, a4, a5, a6, a7, a8, a9] = n) : Calls Tryd.prog 8 #[.agg #[.int .i64 a0, .int .i64 a1, .int .i64 a2, .int .i64 a3, .int .i64 a4, .int .i64 a5, .int .i64 a6, .int .i64 a7, .int .i64 a8, .int .i64 a9]] w
    fun e w' => e = .returned (.int .i64 6) ∧ Below w.heap.size w w' := by
  have hz := hT.1
  have HT := Lib.hid (hT.below (((Below.refl w.heap.size w)).alloc (Nat.le_refl _) (.cells #[.int .i64 a0, .int .i64 a1, .int .i64 a2, .int .i64 a3, .int .i64 a4, .int .i64 a5, .int .i64 a6, .int .i64 a7, .int .i64 a8, .int .i64 a9] 23)))
  have B0 := Lib.hid (((Below.refl w.heap.size w)).alloc (Nat.le_refl _) (.cells #[.int .i64 a0, .int .i64 a1, .int .i64 a2, .int .i64 a3, .int .i64 a4, .int .i64 a5, .int .i64 a6, .int .i64 a7, .int .i64 a8, .int .i64 a9] 23))
  have HN := Lib.hid hn
  clear hT hn
  go_enter Tryd.func8, Tryd.ntmps8
  go_wp2_with (go_at_call 23; (with_reducible refine (Wrong_as _ _ _ _ _ _ _ _ _ _ _ HT.out HN.out).mono ?_); rintro e w2 ⟨rfl, hb2⟩; have HB2 := Lib.hid hb2; have HS2 := Lib.hid ((Ten.new w 23 a0 a1 a2 a3 a4 a5 a6 a7 a8 a9).below hb2); obtain ⟨c0, c1, c2, c3, c4, c5, c6, c7, c8, c9⟩ := HS2.out; clear hb2)
  go_ret
  exact ⟨rfl, B0.out.trans (HB2.out.mono (by simp))⟩
end
end Go.Proofs.YtfhebjkoojodiaaDoor.cf
