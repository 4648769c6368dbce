/- A grey's New and Clone. -/
import Derived.Test.YtokjpibaaioehaaShC
namespace Go.Proofs.Ytokjpibaaioehaa.sh
open Go.ChangeShapes Go.WideShapes Go.ChangeAt Go.RowKit gen li en gr
set_option linter.unusedVariables false
set_option maxHeartbeats 4000000
set_option maxRecDepth 100000
/-- A grey that was made. -/
def NewG (r : Nat) (s : Ps) (w : World) (e : Ending) (w' : World) : Prop := ∃ g L, e = .returned (.pointer (some ⟨g, 0, none⟩)) ∧ Gy w' L g r s ∧ (∀ q, q ∈ L → w.heap.size ≤ q) ∧ w.grownBy w' none
section
variable {w w' W w1 w2 : World} {g k c r B : Nat} {K L : List Nat} {s : Ps} {p v : Value}
theorem NewG.fin {m : List Va} {b : Bool} {ws : List Nat} (hr : 1 ≤ r) (hg : w.grownBy w1 none) (hs : sk.Sk w1 K k r b m) (hK : ∀ q, q ∈ K → w.heap.size ≤ q) (hg2 : w1.grownBy w2 none) (hc : bm.SetAt w2 c true 2048 ws) (hc1 : w.heap.size ≤ c) :
    NewG r ⟨ws, m, b⟩ w (.returned (.pointer (some ⟨w2.heap.size, 0, none⟩))) (w2.alloc (.cells #[.pointer (some ⟨k, 0, none⟩), .pointer (some ⟨c, 0, none⟩)] 41)) := by
  have G := World.grownBy_alloc w2 (.cells #[.pointer (some ⟨k, 0, none⟩), .pointer (some ⟨c, 0, none⟩)] 41) none
  refine ⟨_, _, rfl, ⟨k, c, K, ⟨heap_alloc_new _ _, (hs.new hg2).new G, hc.kept G (by simp), hr⟩, rfl⟩, fun q hq => ?_, (hg.trans hg2).trans G⟩
  rcases List.mem_cons.1 hq with rfl | hq
  · exact (hg.trans hg2).size
  rcases List.mem_cons.1 hq with rfl | hq
  · exact hc1
  · exact hK q hq
theorem New_any (n : Int) (r : Nat) (hk : sk.near n 1 256 = r) (h1 : 1 ≤ r) (h8 : r ≤ 256) (w : World) : Calls Try.prog 5 #[.int .i64 n] w (NewG r none0 w) := by
  have X := Lib.hid (sk.New_any n r hk h8 w)
  have Y := Lib.hid (fun W => bm.New_any 2048 2048 (by decide) W)
  have H1 := Lib.hid h1
  clear hk h1 h8
  go_enter Try.func5, Try.ntmps5
  go_wp2_with (first
    | (go_at_call 13; (with_reducible refine X.out.mono ?_); rintro e w1 ⟨k, K, rfl, hs, hK, hg⟩; have S1 := Lib.hid hs; have K1 := Lib.hid hK; have G1 := Lib.hid hg; clear hs hK hg)
    | (go_at_call 14; (with_reducible refine (Y.out _).mono ?_); rintro e w2 ⟨c, rfl, hc, hc1, hg⟩; have C2 := Lib.hid hc; have D2 := Lib.hid (Nat.le_trans G1.out.size hc1); have G2 := Lib.hid hg; clear hc hc1 hg))
  go_ret
  exact NewG.fin H1.out G1.out S1.out K1.out G2.out C2.out D2.out
end
end Go.Proofs.Ytokjpibaaioehaa.sh
