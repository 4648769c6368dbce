/- The walk of ShadeRuns. -/
import Derived.Test.YtokjpibaaioehaaDoorShL
import Derived.Test.YtokjpibaaioehaaDoorShM
namespace Go.Proofs.YtokjpibaaioehaaDoor.sh
open Go.ChangeShapes Go.WideShapes Go.ChangeAt Go.RowKit gen li en gr
set_option linter.unusedVariables false
set_option maxHeartbeats 8000000
set_option maxRecDepth 100000
/-- A grey and a plain one that the call made, alike; w is where it began. -/
structure Rx (w : World) (L J : List Nat) (g M r : Nat) (s : Ps) (W : World) : Prop where
  gy : Gy W L g r s
  bk : Bk W J M r s
  ll : ∀ q, q ∈ L → w.heap.size ≤ q
  jj : ∀ q, q ∈ J → w.heap.size ≤ q
  gr : w.grownBy W none
def Ru (w : World) (g M r : Nat) (s : Ps) (W : World) : Prop := ∃ L J, Rx w L J g M r s W
section
variable {w W W2 : World} {L J : List Nat} {g M r : Nat} {s : Ps} {k x1 x2 : Int}
theorem Ru.new (h : Ru w g M r s W) (hg : W.grownBy W2 none) : Ru w g M r s W2 := by
  obtain ⟨L, J, h⟩ := h
  exact ⟨L, J, h.gy.new hg, h.bk.new hg, h.ll, h.jj, h.gr.trans hg⟩
theorem Ru.grown (h : Ru w g M r s W) : w.grownBy W none := by
  obtain ⟨L, J, h⟩ := h
  exact h.gr
theorem Rx.after {s2 : Ps} {e : Ending} (h : Rx w L J g M r s W) (k : StA L J g M r s2 W e W2) : e = .returned (.bool true) ∧ ∃ L' J', Rx w L' J' g M r s2 W2 ∧ (∀ q, q ∈ L' → q ∈ L ∨ W.heap.size ≤ q) ∧ (∀ q, q ∈ J' → q ∈ J ∨ W.heap.size ≤ q) ∧ Gr (L ++ J) W W2 := by
  obtain ⟨h1, L', J', k⟩ := k
  refine ⟨h1, L', J', ⟨k.gy, k.bk, fun q hq => (k.ll q hq).elim (h.ll q) (fun e => Nat.le_trans h.gr.size e), fun q hq => (k.jj q hq).elim (h.jj q) (fun e => Nat.le_trans h.gr.size e), Gr.grown h.gr k.gr (fun q hq => (List.mem_append.1 hq).elim (h.ll q) (h.jj q))⟩, k.ll, k.jj, k.gr⟩
theorem Ru.step (h : Ru w g M r s W) (k x1 x2 : Int) : Calls Tryd.prog 9 #[.pointer (some ⟨g, 0, none⟩), .pointer (some ⟨M, 0, none⟩), .agg #[.int .i64 k, .int .i64 x1, .int .i64 x2]] W fun e w' => e = .returned (.bool true) ∧ Ru w g M r (nx r k x1 x2 s) w' := by
  obtain ⟨L, J, h⟩ := h
  refine (step_any h.gy h.bk k x1 x2).mono fun e w' hk => ?_
  obtain ⟨h1, L', J', h2, _⟩ := h.after hk
  exact ⟨h1, L', J', h2⟩
theorem Ru.told (h : Ru w g M r s W) (hT : bm.Tab W) : Calls Tryd.prog 10 #[.pointer (some ⟨g, 0, none⟩), .pointer (some ⟨M, 0, none⟩)] W fun e w' => e = .returned (.bool true) ∧ w.grownBy w' none := by
  obtain ⟨L, J, h⟩ := h
  exact (told_any h.gy h.bk hT).mono fun e w' hk => ⟨hk.1, h.gr.trans hk.2⟩
theorem Ru.start {e : Ending} (h : Al w g r s W) (k : NewB r s W e W2) : ∃ M, e = .returned (.pointer (some ⟨M, 0, none⟩)) ∧ Ru w g M r s W2 := by
  obtain ⟨L, h⟩ := h
  obtain ⟨M, J, h1, h2, h3, h4⟩ := k
  exact ⟨M, h1, L, J, h.gy.new h4, h2, h.le, fun q hq => Nat.le_trans h.gr.size (h3 q hq), h.gr.trans h4⟩
end
theorem ShadeRuns_any (n : Int) (D : Option Addr) (l c2 : Nat) (f : Nat → Nat → Int) (w : World) (hc : l ≤ c2) (hc2 : c2 ≤ maxLen) (ho : Rws w w.heap.size D l 3 f) (hT : bm.Tab w) :
    Calls Tryd.prog 3 #[.int .i64 n, .slice D l c2] w fun e w' => e = .returned (.bool true) ∧ w.grownBy w' none := by
  obtain ⟨r, hk, h1, h8⟩ := sk.near_nat n
  have NW := Lib.hid (fun W (hg : w.grownBy W none) => (New_any n r hk h1 h8 W).mono (fun e w' h => Al.of hg h))
  have RN := Lib.hid (fun W g (h : Al w g r none0 W) => (rNew_any n r hk h8 W).mono (fun e w' k => Ru.start h k))
  have FW := Lib.hid (fun w => few_any D l c2 w hc hc2 ho.some)
  have HO := Lib.hid ho
  have HT := Lib.hid hT
  clear ho hc hc2 hk hT
  go_enter Tryd.func3, Tryd.ntmps3
  go_wp2_with (first
    | (go_at_call 8; (with_reducible refine (FW.out _).mono ?_); rintro e w' ⟨⟨l2, c4, hl1, hl2, rfl⟩, hw⟩; subst hw)
    | (go_at_call 7; (with_reducible refine (RN.out _ _ A2.out).mono ?_); rintro e w3 ⟨M, rfl, hs⟩; have A3 := Lib.hid hs; clear hs)
    | (go_at_call 6; (with_reducible refine (NW.out _ G1.out).mono ?_); rintro e w2 ⟨g, rfl, hs⟩; have A2 := Lib.hid hs; clear hs)
    | (go_at_call 5; (with_reducible refine (alive_any _).mono ?_); rintro e w1 ⟨rfl, hg⟩; have G1 := Lib.hid hg; clear hg))
  go_loopw [7] (fun i wr => ∃ (j : Nat) (s : Ps), j ≤ l2 ∧ i = .int .i64 j ∧ Ru w g M r s wr) (fun i _ => l2 - (intOf i).toNat)
  case atStart => exact ⟨0, _, Nat.zero_le _, rfl, A3.out⟩
  case round =>
    obtain ⟨j, s, hj, rfl, hR⟩ := hrel
    have R1 := Lib.hid hR
    have O1 := Lib.hid ((HO.out.less hl2).kept hR.grown (by simp))
    clear hR A3
    by_cases hlt : j < l2
    · obtain ⟨q, off, rfl, hq, hcc, hw⟩ := O1.out j hlt
      have p0 := hcc 0 (by omega)
      rw [Nat.add_zero] at p0
      have p1 := hcc 1 (by omega)
      have p2 := hcc 2 (by omega)
      generalize f j 0 = x0 at p0
      generalize f j 1 = x1 at p1
      generalize f j 2 = x2 at p2
      have l1 : (0 : Int) ≤ (j : Int) := by omega
      have l3 : (j : Int) < l2 := by omega
      have ST := Lib.hid (R1.out.step x0 x1 x2)
      clear hcc hw O1 hq
      go_wp2_with (go_at_call 9; (with_reducible refine ST.out.mono ?_); rintro e w4 ⟨rfl, hs⟩; have R4 := Lib.hid hs; clear hs)
      go_roundw
      case rel => exact ⟨j + 1, _, by omega, by go_num, R4.out⟩
      case measure => first | (simp [intOf]; done) | (simp [intOf]; omega)
    · have TD := Lib.hid (R1.out.told (HT.out.kept R1.out.grown (by simp)))
      go_wp2_with (go_at_call 10; (with_reducible refine TD.out.mono ?_); rintro e w4 ⟨rfl, hg⟩; have G4 := Lib.hid hg; clear hg)
      go_ret
      exact ⟨rfl, G4.out⟩
end Go.Proofs.YtokjpibaaioehaaDoor.sh
