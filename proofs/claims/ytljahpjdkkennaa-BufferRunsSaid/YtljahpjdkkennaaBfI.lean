/- The walk of BufferRuns. -/
import Derived.Test.YtljahpjdkkennaaBfH
namespace Go.Proofs.Ytljahpjdkkennaa.bf
open Go.ChangeShapes Go.WideShapes Go.ChangeAt Go.RowKit gen li
set_option linter.unusedVariables false
set_option maxHeartbeats 8000000
set_option maxRecDepth 100000
/-- A run on buffers that the call made, with a table that it made. -/
theorem run_begin {w w1 : World} {K : List Nat} {g k : Nat} {D : Option Addr} {l : Nat} {f : Nat → Nat → Int} (h8 : k ≤ 8) (h : Al w K g (List.replicate k []) w1) (hr : Rws w w.heap.size D l 3 f) {W : World} {n l2 c4 : Nat} (hg : w1.grownBy W none)
    (hd : Gd W [n] (.slice (some ⟨n, 0, none⟩) k k) (List.replicate k [])) (hn : w1.heap.size ≤ n) (hl1 : l2 ≤ 60) (hl2 : l2 ≤ l) :
    Calls Try.prog 7 #[.pointer (some ⟨g, 0, none⟩), .slice (some ⟨n, 0, none⟩) k k, .slice D l2 c4] W (StA K [n] g W) :=
  run_any (h.bf.new hg) hd (fun q hq hq2 => by rw [List.mem_singleton] at hq2; subst hq2; have := h.bf.lt q hq; omega) (by simp) ((hr.less hl2).kept (h.grown.trans hg) (by simp)) h.le hl1
theorem BufferRuns_any (n : Int) (D : Option Addr) (l c2 : Nat) (f : Nat → Nat → Int) (w : World) (hc : l ≤ c2) (hc2 : c2 ≤ maxLen) (ho : Rws w w.heap.size D l 3 f) :
    Calls Try.prog 3 #[.int .i64 n, .slice D l c2] w fun e w' => e = .returned (.bool true) ∧ w.grownBy w' none := by
  obtain ⟨k, hk, h8⟩ := near_nat n 8
  have NW := Lib.hid (fun W (hg : w.grownBy W none) => (New_any n k hk h8 W).mono (fun r w' (h : NewA _ W r w') => (show NewA (List.replicate k []) w r w' from by
    obtain ⟨g, K, e, hb, hK, hg2⟩ := h
    exact ⟨g, K, e, hb, fun q hq => Nat.le_trans hg.size (hK q hq), hg.trans hg2⟩)))
  have HO := Lib.hid ho
  have FW := Lib.hid (fun w => few_any D l c2 w hc hc2 ho.some)
  have mk := make_lists k h8
  have FS := Lib.hid (fun W n (hn : W.heap.size = n) => Gd.fresh' W h8 n hn)
  have RB := Lib.hid (fun w1 K g (h : Al w K g (List.replicate k []) w1) W n l2 c4 hg hd hn hl1 hl2 => run_begin (D := D) (W := W) (n := n) (l2 := l2) (c4 := c4) h8 h ho hg hd hn hl1 hl2)
  have NR := Lib.hid (fun w => (show Calls Try.prog 9 #[.int .i64 n, .int .i64 0, .int .i64 8] w (fun e w' => e = .returned (.int .i64 (k : Int)) ∧ w = w') from hk ▸ Near_any n 0 8 w))
  clear ho hc hc2 hk
  generalize (List.replicate k nl).toArray = cs at mk FS
  go_enter Try.func3, Try.ntmps3
  go_wp2_with (go_at_call 6; (with_reducible refine (alive_any _).mono ?_); rintro r w1 ⟨rfl, hg⟩; have G1 := Lib.hid hg; clear hg)
  go_region_held3 (fun W => True) (trivial) (first
    | (have mark := L2; go_at_call 7; (with_reducible refine (RB.out _ _ _ S2.out _ _ _ _ (by first | exact World.grownBy_alloc _ _ _ | exact (World.grownBy_alloc _ _ _).trans (grown_drew _ _)) (by first | exact FS.out _ _ rfl | exact (FS.out _ _ (by simp)).new (grown_drew _ none)) (by simp) L2.out.1 L2.out.2).mono ?_); rintro r w3 ⟨A3, N3, c3, ls3, K3, J3, rfl, _, hR3⟩; have G3 := Lib.hid (Gr.grown (S2.out.grown.trans (by first | exact World.grownBy_alloc _ _ _ | exact (World.grownBy_alloc _ _ _).trans (grown_drew _ _))) hR3.gr S2.out.le); clear hR3)
    | (go_at_call 10; (with_reducible refine (FW.out _).mono ?_); rintro r w' ⟨⟨l2, c4, hl1, hl2, rfl⟩, hw⟩; subst hw; have L2 := Lib.hid (⟨hl1, hl2⟩ : l2 ≤ 60 ∧ l2 ≤ l))
    | (go_at_call 9; (with_reducible refine (NR.out _).mono ?_); rintro r w' ⟨rfl, hw⟩; subst hw)
    | (go_at_call 8; (with_reducible refine (NW.out _ (by first | exact G1.out | exact G1.out.trans (grown_drew _ _))).mono ?_); rintro r w2 ⟨g, K, rfl, hb, hk, hg⟩; have S2 := Lib.hid (show Al w K g (List.replicate k []) w2 from ⟨hb, hk, hg⟩); clear hb hk hg))
  all_goals
    go_wp2
    go_ret
    first | exact ⟨rfl, G3.out⟩ | exact ⟨rfl, G3.out.trans (grown_drew _ _)⟩
end Go.Proofs.Ytljahpjdkkennaa.bf
