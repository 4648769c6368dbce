/- The walk of StackRuns. -/
import Derived.Test.YtokjiklmeolleaaSkH
namespace Go.Proofs.Ytokjiklmeolleaa.sk
open Go.ChangeShapes Go.WideShapes Go.ChangeAt Go.RowKit gen li en gr
set_option linter.unusedVariables false
set_option maxHeartbeats 8000000
set_option maxRecDepth 100000
/-- A run on a stack that the call made. -/
theorem run_begin {w W : World} {K : List Nat} {g k : Nat} {D : Option Addr} {l l2 c4 : Nat} {f : Nat → Nat → Int} (h1 : 1 ≤ k) (h : Al w K g k false [] W) (hr : Rws w w.heap.size D l 3 f) (hl1 : l2 ≤ 60) (hl2 : l2 ≤ l) :
    Calls Try.prog 7 #[.pointer (some ⟨g, 0, none⟩), .agg #[.slice none 0 0, .int .i64 k, .bool false], .slice D l2 c4] W (StA K nl g k W) :=
  run_any h.sk h1 (Lv.nil _ _) rfl (fun q e => by cases e) ((hr.less hl2).kept h.grown (by simp)) h.le hl1
theorem StackRuns_any (n : Int) (D : Option Addr) (l c2 : Nat) (f : Nat → Nat → Int) (w : World) (hc : l ≤ c2) (hc2 : c2 ≤ maxLen) (ho : Rws w w.heap.size D l 3 f) :
    Calls Try.prog 3 #[.int .i64 n, .slice D l c2] w fun e w' => e = .returned (.bool true) ∧ w.grownBy w' none := by
  obtain ⟨k, hk, h1, h8⟩ := near_nat n
  have NW := Lib.hid (fun W (hg : w.grownBy W none) => (New_any n k hk h8 W).mono (fun e w' (h : NewA k false [] W e w') => Al.of hg h))
  have FW := Lib.hid (fun w => few_any D l c2 w hc hc2 ho.some)
  have RB := Lib.hid (fun W K g (h : Al w K g k false [] W) l2 c4 hl1 hl2 => run_begin (D := D) (l2 := l2) (c4 := c4) h1 h ho hl1 hl2)
  have NR := Lib.hid (fun w => (show Calls Try.prog 9 #[.int .i64 n, .int .i64 1, .int .i64 256] w (fun e w' => e = .returned (.int .i64 (k : Int)) ∧ w = w') from hk ▸ Near_any n 1 256 w))
  clear ho hc hc2 hk
  go_enter Try.func3, Try.ntmps3
  go_wp2_with (first
    | (have mark := L3; go_at_call 7; (with_reducible refine (RB.out _ _ _ S2.out _ _ L3.out.1 L3.out.2).mono ?_); rintro e w3 ⟨A3, N3, c3, b3, m3, K3, rfl, _, hR3⟩; have G3 := Lib.hid (Gr.grown S2.out.grown hR3.gr S2.out.le); clear hR3)
    | (go_at_call 10; (with_reducible refine (FW.out _).mono ?_); rintro e w' ⟨⟨l2, c4, hl1, hl2, rfl⟩, hw⟩; subst hw; have L3 := Lib.hid (⟨hl1, hl2⟩ : l2 ≤ 60 ∧ l2 ≤ l); clear hl1 hl2)
    | (go_at_call 9; (with_reducible refine (NR.out _).mono ?_); rintro e w' ⟨rfl, hw⟩; subst hw)
    | (go_at_call 8; (with_reducible refine (NW.out _ G1.out).mono ?_); rintro e w2 ⟨g, K, rfl, hs⟩; have S2 := Lib.hid hs; clear hs)
    | (go_at_call 6; (with_reducible refine (alive_any _).mono ?_); rintro e w1 ⟨rfl, hg⟩; have G1 := Lib.hid hg; clear hg))
  go_ret
  exact ⟨rfl, G3.out.trans (World.grownBy_alloc _ _ _)⟩
end Go.Proofs.Ytokjiklmeolleaa.sk
