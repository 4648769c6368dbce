/- The walks of the statements on runs of calls, and on clones. -/
import Derived.Test.YtdlclkmaiaeleaaMmI
import Derived.Deep.DeepCutAuto
import Derived.Deep.RegionWith
namespace Go.Proofs.Ytdlclkmaiaeleaa.mm
open Go.ChangeShapes Go.WideShapes Go.ChangeAt Go.RowKit gen
set_option linter.unusedVariables false

/-- Behind the first line: words, and a list that is alike. -/
def Both (w : World) (k : Nat) (p m : Value) (wx : World) : Prop := ∃ g r A c, p = .pointer (some ⟨g, 0, none⟩) ∧ m = .slice A k c ∧ MemAt wx g r (List.replicate k 0) ∧ Lst wx r m (List.replicate k 0) ∧ w.heap.size ≤ r ∧ w.grownBy wx none

set_option maxRecDepth 100000 in
set_option maxHeartbeats 4000000 in
theorem MemRuns_any (n : Int) (D : Option Addr) (l c2 : Nat) (f : Nat → Nat → Int) (w : World) (hc : l ≤ c2) (hc2 : c2 ≤ maxLen) (ho : Rws w w.heap.size D l 5 f) :
    Calls Try.prog 3 #[.int .i64 n, .slice D l c2] w fun e w' => e = .returned (.bool true) ∧ w.grownBy w' none := by
  obtain ⟨k, hk, hk2⟩ := near_nat n 2048
  have HK : Hid (near n 0 2048 = (k : Int)) := Lib.hid hk
  have mk := make_words k hk2
  obtain ⟨cs, hcs⟩ : ∃ cs, cs = (ints (List.replicate k 0)).toArray := ⟨_, rfl⟩
  rw [← hcs] at mk
  have HC := Lib.hid hcs
  have HO := Lib.hid ho
  have HD := Lib.hid (show 0 < l → ∃ ad, D = some ad from ho.some)
  have HL1 := Lib.hid hc
  have HL2 := Lib.hid hc2
  clear hk hcs ho hc hc2
  go_enter Try.func3, Try.ntmps3
  go_upto_region 3 with (go_at_call 7; (with_reducible refine (alive_any _).mono ?_); rintro e w1 ⟨rfl, hg⟩; have G1 := Lib.hid hg; clear hg)
  go_cut [5, 6] (fun p m wx => Both w k p m wx)
  case first =>
    go_region_with (first
      | (go_at_call 8; (with_reducible refine (New_any _ _ HK.out _).mono ?_); rintro e w2 ⟨g, r, rfl, hm, hg, hr, hw⟩; have M2 := Lib.hid hm; have G2 := Lib.hid hw; clear hm hw)
      | (go_at_call 9; (with_reducible refine (Near_any _ _ _ _).mono ?_); rintro e w' ⟨rfl, rfl⟩; rw [HK.out]))
    go_wp2
    go_meet
    have G3 : w.grownBy (w2.alloc (.cells cs 2)) none := (G1.out.trans ⟨G2.out.os, G2.out.tape, G2.out.output, G2.out.size, G2.out.block⟩).trans (World.grownBy_alloc _ _ _)
    refine ⟨g, r, _, _, rfl, rfl, M2.out.kept (World.grownBy_alloc _ _ none) (by simp) (by simp), ?_, Nat.le_trans G1.out.size hr, G3⟩
    have hO := World.ownsRow_lit (base := r + 1) (e := 2) (size := 1) w2 cs k (by have := M2.out.lt.2; omega) (by unfold maxLen; omega) (by rw [HC.out]; simp [ints])
    rw [show cs.toList = (List.replicate k 0).map (Value.int .i64) by rw [HC.out]; simp [ints]] at hO
    exact own_lst hO (by simp) (by omega)
  case rest =>
    obtain ⟨g, r, A, c, rfl, rfl, hm, hl, hr, hg⟩ := hcut
    have M0 := Lib.hid hm
    have L0 := Lib.hid hl
    have HG := Lib.hid hg
    have HR := Lib.hid hr
    have ZL := Lib.hid (show (List.replicate k (0 : Int)).length = k by simp)
    generalize List.replicate k (0 : Int) = zs at M0 L0 ZL
    clear hm hl hg hr mk HC cs
    go_wp2_with (first
      | (go_at_call 11; (with_reducible refine (All_yes M0.out).mono ?_); rintro e w3 ⟨A3, e3, rfl, ho3, hg3⟩; have R3 := Lib.hid (rd_own ho3); have M3 := Lib.hid (M0.out.kept hg3 (by simp) (by simp)); have L3 := Lib.hid (L0.out.made hg3); have G3 := Lib.hid (HG.out.trans hg3); clear ho3 hg3)
      | (go_at_call 10; (with_reducible refine (words_true zs _ _ _ _ _ _ _ _ _ (by rw [ZL.out]; omega) ZL.out R3.out (L3.out.rd' ZL.out)).mono ?_); rintro e w4 ⟨rfl, q, rfl⟩; have G4 := Lib.hid (G3.out.trans (grown_drewN _ q none)))
      | (go_at_call 13; (with_reducible refine (few_any _ _ _ _ HL1.out HL2.out HD.out).mono ?_); rintro e w' ⟨⟨l2, c3, hl1, hl2, rfl⟩, rfl⟩)
      | (go_at_call 12; (with_reducible refine (run_any (M3.out.drewN q) ZL.out (L3.out.drewN q) ((HO.out.less hl2).kept G4.out (by simp)) HR.out hl1).mono ?_); rintro e w5 ⟨A5, c5, ys, rfl, _, _, _, hg5, _⟩; have G5 := Lib.hid (grown_new G4.out hg5 HR.out); clear hg5))
    go_ret
    exact ⟨rfl, G5.out⟩
end Go.Proofs.Ytdlclkmaiaeleaa.mm
