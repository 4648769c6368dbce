/- The walk of the statement on runs of calls. -/
import Derived.Test.YtkejalafpejgdaaDoorBmH
namespace Go.Proofs.YtkejalafpejgdaaDoor.bm
open Go.ChangeShapes Go.WideShapes Go.ChangeAt Go.RowKit gen
set_option linter.unusedVariables false

theorem nums_zeros_length : (nums zeros).length = 0 := by rw [nums_zeros]; rfl
theorem Lst.zeros (w : World) (g : Nat) : Lst w g (.slice none 0 0) (nums zeros) := by rw [nums_zeros]; exact Lst.nil w g
set_option maxRecDepth 100000 in
set_option maxHeartbeats 4000000 in
theorem BitmapRuns_any (n : Int) (D : Option Addr) (l c2 : Nat) (f : Nat → Nat → Int) (w : World) (hT : Tab w) (hc : l ≤ c2) (hc2 : c2 ≤ maxLen) (ho : Rws w w.heap.size D l 2 f) :
    Calls Tryd.prog 3 #[.int .i64 n, .slice D l c2] w fun e w' => e = .returned (.bool true) ∧ w.grownBy w' none := by
  obtain ⟨k, hk, hk2⟩ := near_nat n 2048
  have HK : Hid (near n 0 2048 = (k : Int)) := Lib.hid hk
  have HO := Lib.hid ho
  have HD := Lib.hid (show 0 < l → ∃ ad, D = some ad from ho.some)
  have HL1 := Lib.hid hc
  have HL2 := Lib.hid hc2
  have HT := Lib.hid hT
  clear hk ho hc hc2 hT
  go_enter Tryd.func3, Tryd.ntmps3
  go_wp2_with (first
    | (go_at_call 6; (with_reducible refine (alive_any HT.out).mono ?_); rintro e w1 ⟨rfl, hg⟩; have G1 := Lib.hid hg; have T1 := Lib.hid (HT.out.kept hg (by simp)); clear hg)
    | (go_at_call 8; (with_reducible refine (New_any _ _ HK.out _).mono ?_); rintro e w2 ⟨g, rfl, hm, hg, hw⟩; have M2 := Lib.hid hm; have G2 := Lib.hid (G1.out.trans hw); have T2 := Lib.hid (T1.out.kept hw (by simp)); have HG := Lib.hid (show w.heap.size ≤ g from Nat.le_trans G1.out.size hg); have HG0 := Lib.hid (show g ≠ 0 from by have := HT.out.1; have := HG.out; omega); clear hm hw hg)
    | (go_at_call 9; (with_reducible refine (Near_any _ _ _ _).mono ?_); rintro e w' ⟨rfl, rfl⟩; rw [HK.out])
    | (go_at_call 10; (with_reducible refine (few_any _ _ _ _ HL1.out HL2.out HD.out).mono ?_); rintro e w' ⟨⟨l2, c3, hl1, hl2, rfl⟩, rfl⟩)
    | (go_at_call 7; (with_reducible refine (run_any M2.out nums_zeros_length (Lst.zeros _ _) T2.out HG0.out ((HO.out.less hl2).kept G2.out (by simp)) HG.out hl1).mono ?_); rintro e w5 ⟨A5, c5, ws5, m5, rfl, _, _, _, hg5, _⟩; have G5 := Lib.hid (grown_new G2.out hg5 HG.out); clear hg5))
  go_ret
  exact ⟨rfl, G5.out⟩
end Go.Proofs.YtkejalafpejgdaaDoor.bm
