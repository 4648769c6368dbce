/- Every script, step by step: all is told as by lists. -/
import Derived.Test.YtfloleflcoiidaaGreatDoorSwI
import Derived.Test.YtfloleflcoiidaaGreatDoorSwJ
namespace Go.Proofs.YtfloleflcoiidaaGreatDoor.sw
open Go.ChangeShapes Go.WideShapes Go.ChangeAt Go.RowKit gen calls cls geos ce st sh
set_option linter.unusedVariables false
set_option maxHeartbeats 8000000
set_option maxRecDepth 100000
theorem Ru.told {w0 W : World} {B : Nat} {I : Ids} {x : Hs} {g r t N c f H M : Nat} {s : Ps} (h : Ru w0 B I g r t N H M x s c f W) (hT : bm.Tab w0) :
    Calls Tryz.prog 10 #[.pointer (some ⟨B, 0, none⟩)] W fun e w' => e = .returned (.bool true) ∧ Ru w0 B I g r t N H M x s c f w' :=
  (told_any h hT).mono fun e w' ⟨k1, k2⟩ => ⟨k1, h.new k2⟩
theorem SweepRuns_any (n1 : Int) (D : Option Addr) (l c2 : Nat) (fo : Nat → Nat → Int) (w : World) (hc : l ≤ c2) (hc2 : c2 ≤ maxLen) (ho : Rws w w.heap.size D l 3 fo) (hT : bm.Tab w) :
    Calls Tryz.prog 3 #[.int .i64 n1, .slice D l c2] w fun e w' => e = .returned (.bool true) ∧ w.grownBy w' none := by
  obtain ⟨N, hN, N1, N2⟩ := near_nat n1 (b := 64) (by decide)
  have AL := Lib.hid (alive_any w hT)
  have BG := Lib.hid (fun W (hg : w.grownBy W none) => begin_any hg n1 (N := N) hN ⟨N1, N2⟩)
  have FW := Lib.hid (fun w => few_any D l c2 w hc hc2 ho.some)
  have HO := Lib.hid ho
  have HT := Lib.hid hT
  clear ho hc hc2 hT hN
  go_enter Tryz.func3, Tryz.ntmps3
  go_wp2_with (first
    | (go_at_call 8; (with_reducible refine (FW.out _).mono ?_); rintro e w' ⟨⟨l2, c4, hl1, hl2, rfl⟩, hw⟩; subst hw)
    | (go_at_call 7; (with_reducible refine (BG.out _ G1.out).mono ?_); rintro e w2 ⟨B, I, g, t, H, M, rfl, hs⟩; have A3 := Lib.hid hs; clear hs)
    | (go_at_call 6; (with_reducible refine AL.out.mono ?_); rintro e w1 ⟨rfl, hg⟩; have G1 := Lib.hid hg; clear hg))
  go_loopw [6] (fun i wr => ∃ (j : Nat) (x : Hs) (s : Ps) (c f : Nat), j ≤ l2 ∧ i = .int .i64 j ∧ x.cnt ≤ j ∧ Ru w B I g 1 t N H M x s c f wr) (fun i _ => l2 - (intOf i).toNat)
  case atStart => exact ⟨0, _, _, _, _, Nat.zero_le _, rfl, Nat.le_refl _, A3.out⟩
  case round =>
    obtain ⟨j, x, s, c, f, hj, rfl, hx, hR⟩ := hrel
    have R1 := Lib.hid hR
    have O1 := Lib.hid ((HO.out.less hl2).kept hR.grown (by simp))
    clear hR A3
    by_cases hlt : j < l2
    · obtain ⟨q, off, rfl, hq, hcc, hw⟩ := O1.out j hlt
      have p0 := hcc 0 (by omega)
      rw [Nat.add_zero] at p0
      have p1 := hcc 1 (by omega)
      have p2 := hcc 2 (by omega)
      generalize fo j 0 = x0 at p0
      generalize fo j 1 = x1 at p1
      generalize fo j 2 = x2 at p2
      have l1 : (0 : Int) ≤ (j : Int) := by omega
      have l3 : (j : Int) < l2 := by omega
      have ST := Lib.hid (R1.out.step (by omega) HT.out x0 x1 x2)
      clear hcc hw O1 hq
      go_wp2_with (first
        | (go_at_call 9; (with_reducible refine ST.out.mono ?_); rintro e w4 ⟨rfl, x', s', c', f', hs, hx', _⟩; have R4 := Lib.hid hs; clear hs)
        | (go_at_call 10; (with_reducible refine (R4.out.told HT.out).mono ?_); rintro e w5 ⟨rfl, hs⟩; have R5 := Lib.hid hs; clear hs))
      go_roundw
      case rel => exact ⟨j + 1, x', s', c', f', by omega, by go_num, by omega, R5.out⟩
      case measure => first | (simp [intOf]; done) | (simp [intOf]; omega)
    · have TD := Lib.hid (R1.out.told HT.out)
      go_wp2_with (go_at_call 10; (with_reducible refine TD.out.mono ?_); rintro e w4 ⟨rfl, hs⟩; have R4 := Lib.hid hs; clear hs)
      go_ret
      exact ⟨rfl, R4.out.grown⟩
end Go.Proofs.YtfloleflcoiidaaGreatDoor.sw
