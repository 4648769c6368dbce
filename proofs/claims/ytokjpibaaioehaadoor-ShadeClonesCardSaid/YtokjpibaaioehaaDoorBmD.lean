/- The next number of a set. -/
import Derived.Test.YtokjpibaaioehaaDoorBmC
namespace Go.Proofs.YtokjpibaaioehaaDoor.bm
open Go.ChangeShapes Go.WideShapes Go.ChangeAt Go.RowKit
set_option linter.unusedVariables false
section
variable {w : World} {g n : Nat} {b : Bool} {ws : List Nat}
/-- No number from j on, as far as looked. -/
def Gone (ws : List Nat) (j k r : Nat) : Prop := j ≤ 64 * k + r ∧ r < 64 ∧ ∀ i, j ≤ i → i < 64 * k + r → bit ws i = false
theorem Gone.more {j k r : Nat} (h : Gone ws j k r) (h0 : high (ws.getD k 0) r = 0) : Gone ws j (k + 1) 0 := by
  obtain ⟨h1, h2, h3⟩ := h
  refine ⟨by omega, by omega, fun i hi hlt => ?_⟩
  by_cases hc : i < 64 * k + r
  · exact h3 i hi hc
  · have := high_zero _ r (i % 64) h2 h0 (by omega) (by omega)
    unfold bit
    rw [show i / 64 = k by omega]
    exact this
theorem Gone.none {n : Nat} {j r : Nat} {z : Int} (hf : Fine n ws) (h : Gone ws j 32 r) (hz : ∀ i : Nat, z ≤ i → j ≤ i) : nextOf (nums ws) z = -1 := by
  refine next_none hf (fun i hi => ?_)
  by_cases hc : i < 64 * 32 + r
  · exact h.2.2 i (hz i hi) hc
  · cases e : bit ws i with
    | false => rfl
    | true => have := hf.2.2.1 i e; have := hf.2.2.2; omega
theorem Gone.found {n : Nat} {j k r : Nat} {z : Int} (hf : Fine n ws) (h : Gone ws j k r) (hk : k < 32) (h0 : high (ws.getD k 0) r ≠ 0) (hz : z ≤ j) (hj : ∀ i : Nat, z ≤ i → j ≤ i) :
    Lib.ctz 64 (high (ws.getD k 0) r) < 64 ∧ nextOf (nums ws) z = ((64 * k + Lib.ctz 64 (high (ws.getD k 0) r) : Nat) : Int) := by
  obtain ⟨c1, c2, c3, c4⟩ := high_ctz _ r h.2.1 (hf.2.1 k) h0
  generalize Lib.ctz 64 (high (ws.getD k 0) r) = c at c1 c2 c3 c4
  have h1 := h.1
  refine ⟨c1, next_found hf ?_ (by omega) (fun i hi hlt => ?_)⟩
  · unfold bit
    rw [show (64 * k + c) / 64 = k by omega, show (64 * k + c) % 64 = c by omega]
    exact c2
  · by_cases hc : i < 64 * k + r
    · exact h.2.2 i (hj i hi) hc
    · unfold bit
      rw [show i / 64 = k by omega]
      exact c4 _ (by omega) (by omega)
theorem Next_out (v : Value) (z : Int) (w : World) (h : z < 0 → Calls Tryd.prog 49 #[v, .int .i64 0] w fun e w' => e = none3 ∧ w' = w) (h' : 0 ≤ z → Calls Tryd.prog 49 #[v, .int .i64 z] w fun e w' => e = none3 ∧ w' = w) :
    Calls Tryd.prog 54 #[v, .int .i64 z] w fun e w' => e = .returned (.int .i64 (-1)) ∧ w' = w := by
  by_cases h0 : z < 0
  · have P := Lib.hid (h h0)
    clear h h'
    go_enter Tryd.func54, Tryd.ntmps54
    go_wp2_with (go_at_call 49; (with_reducible refine P.out.mono ?_); rintro e w' ⟨rfl, rfl⟩)
    go_ret
    exact ⟨rfl, rfl⟩
  · have h1 : 0 ≤ z := by omega
    have P := Lib.hid (h' h1)
    clear h h' h0
    go_enter Tryd.func54, Tryd.ntmps54
    go_wp2_with (go_at_call 49; (with_reducible refine P.out.mono ?_); rintro e w' ⟨rfl, rfl⟩)
    go_ret
    exact ⟨rfl, rfl⟩
theorem below_wrap {r p : Nat} (hp : 2 ^ r = p) (hr : r < 64) : IntKind.u64.wrap ((p : Int) - 1) = ((2 ^ r - 1 : Nat) : Int) := by
  subst hp
  have := Nat.pow_lt_pow_right (a := 2) (by omega) hr
  have := Nat.two_pow_pos r
  rw [IntKind.wrap_u64]
  generalize 2 ^ r = p at *
  omega
theorem look_high (h : SetAt w g b n ws) (k r : Nat) (hr : r < 64) : bits .andNot .u64 ((ws.getD k 0 : Nat) : Int) ((2 ^ r - 1 : Nat) : Int) = (high (ws.getD k 0) r : Nat) :=
  u64_andNot_nat _ _ (h.lt_word _) (pow_one_lt hr)
set_option maxHeartbeats 1000000 in
theorem Next_in (h : SetAt w g b n ws) (hT : Tab w) (z : Int) (hz : z < n) (hn : 0 < n) : Calls Tryd.prog 54 #[.pointer (some ⟨g, 0, none⟩), .int .i64 z] w fun e w' => e = .returned (.int .i64 (nextOf (nums ws) z)) ∧ Drew w w' := by
  have HF := Lib.hid h.2
  have HT := Lib.hid hT
  have HWD := Lib.hid (fun (k : Nat) (hk : k < 32) => h.word hk)
  have HLK := Lib.hid (look_high h)
  by_cases hz0 : z < 0
  · obtain ⟨j, hj⟩ : ∃ j : Nat, j = 0 := ⟨0, rfl⟩
    obtain ⟨q, hq⟩ : ∃ q, j / 64 = q := ⟨_, rfl⟩
    obtain ⟨p, hp⟩ : ∃ p, 2 ^ (j % 64) = p := ⟨_, rfl⟩
    have P : Hid (Calls Tryd.prog 49 #[.pointer (some ⟨g, 0, none⟩), .int .i64 0] w _) := Lib.hid (by have := place_yes h j q p (by omega) hq hp; rw [hj] at this; exact this)
    have BW := Lib.hid (below_wrap hp (by omega))
    have q32 : q ≤ 32 := by omega
    have Z1 := Lib.hid (show z ≤ (j : Int) by omega)
    have Z2 := Lib.hid (show ∀ i : Nat, z ≤ i → j ≤ i by omega)
    clear h hT hp
    go_enter Tryd.func54, Tryd.ntmps54
    go_wp2_with (go_at_call 49; (with_reducible refine P.out.mono ?_); rintro e w' ⟨rfl, d, rfl⟩)
    go_loopw [8, 9] (fun s i wr => ∃ k r : Nat, k ≤ 32 ∧ s = .int .u64 (2 ^ r - 1 : Nat) ∧ i = .int .i64 k ∧ Gone ws j k r ∧ wr = w.drewN d) (fun _ i _ => 32 - (intOf i).toNat)
    case atStart => exact ⟨q, j % 64, by omega, by rw [BW.out], rfl, ⟨by omega, by omega, fun i h1 h2 => by omega⟩, rfl⟩
    case round =>
      obtain ⟨k, r, hk, rfl, rfl, hg, hw⟩ := hrel
      subst hw
      by_cases hlt : k < 32
      · have c := HWD.out k hlt
        have l := HLK.out k r hg.2.1
        have G := Lib.hid hg
        have hx := Lib.hid (high_lt (ws.getD k 0) r (HF.out.2.1 k))
        by_cases h0 : high (ws.getD k 0) r = 0
        · rw [h0] at l
          generalize ws.getD k 0 = x at c l
          generalize 2 ^ r - 1 = y at l
          have N := Lib.hid (hg.more h0)
          clear hg h0 hx
          go_wp2
          go_roundw
          case rel => exact ⟨k + 1, 0, by omega, rfl, by go_num, N.out, trivial⟩
          case measure => simp [intOf]; omega
        · have N := Lib.hid (hg.found HF.out hlt h0 Z1.out Z2.out)
          have T := Lib.hid (tz_any _ hx.out h0 (HT.out.drewN d))
          have h1 : ((high (ws.getD k 0) r : Nat) : Int) ≠ 0 := by omega
          generalize high (ws.getD k 0) r = y at l N T h1
          generalize ws.getD k 0 = x at c l
          generalize 2 ^ r - 1 = y' at l
          have hb := N.out.1
          generalize Lib.ctz 64 y = t at N T hb
          have e1 : ((y : Int) == 0) = false := by simpa using h1
          have e2 : ((y : Int) != 0) = true := by simpa using h1
          have e3 : IntKind.i64.wrap ((k : Int) * 64) = (k : Int) * 64 := IntWalk.i64_in _ (by omega)
          have e4 : IntKind.i64.wrap ((k : Int) * 64 + (t : Int)) = (k : Int) * 64 + t := IntWalk.i64_in _ (by omega)
          clear hg h0 hx
          go_wp2_with (go_at_call 63; (with_reducible refine T.out.mono ?_); rintro e w' ⟨rfl, rfl⟩)
          go_ret
          refine ⟨?_, d, rfl⟩
          rw [N.out.2]
          show Ending.returned (.int .i64 ((k : Int) * 64 + t)) = _
          congr 2
          omega
      · obtain rfl : k = 32 := by omega
        have N := Lib.hid (hg.none HF.out Z2.out)
        go_wp2
        go_ret
        exact ⟨by rw [N.out]; rfl, d, rfl⟩
  · obtain ⟨j, rfl⟩ : ∃ j : Nat, z = j := ⟨z.toNat, by omega⟩
    have hz1 : (0 : Int) ≤ (j : Int) := by omega
    obtain ⟨q, hq⟩ : ∃ q, j / 64 = q := ⟨_, rfl⟩
    obtain ⟨p, hp⟩ : ∃ p, 2 ^ (j % 64) = p := ⟨_, rfl⟩
    have P := Lib.hid (place_yes h j q p (by omega) hq hp)
    have BW := Lib.hid (below_wrap hp (by omega))
    have q32 : q ≤ 32 := by have := h.2.2.2.2; omega
    have Z1 := Lib.hid (show (j : Int) ≤ (j : Int) by omega)
    have Z2 := Lib.hid (show ∀ i : Nat, (j : Int) ≤ i → j ≤ i by omega)
    clear h hT hp hz0
    go_enter Tryd.func54, Tryd.ntmps54
    go_wp2_with (go_at_call 49; (with_reducible refine P.out.mono ?_); rintro e w' ⟨rfl, d, rfl⟩)
    go_loopw [8, 9] (fun s i wr => ∃ k r : Nat, k ≤ 32 ∧ s = .int .u64 (2 ^ r - 1 : Nat) ∧ i = .int .i64 k ∧ Gone ws j k r ∧ wr = w.drewN d) (fun _ i _ => 32 - (intOf i).toNat)
    case atStart => exact ⟨q, j % 64, by omega, by rw [BW.out], rfl, ⟨by omega, by omega, fun i h1 h2 => by omega⟩, rfl⟩
    case round =>
      obtain ⟨k, r, hk, rfl, rfl, hg, hw⟩ := hrel
      subst hw
      by_cases hlt : k < 32
      · have c := HWD.out k hlt
        have l := HLK.out k r hg.2.1
        have G := Lib.hid hg
        have hx := Lib.hid (high_lt (ws.getD k 0) r (HF.out.2.1 k))
        by_cases h0 : high (ws.getD k 0) r = 0
        · rw [h0] at l
          generalize ws.getD k 0 = x at c l
          generalize 2 ^ r - 1 = y at l
          have N := Lib.hid (hg.more h0)
          clear hg h0 hx
          go_wp2
          go_roundw
          case rel => exact ⟨k + 1, 0, by omega, rfl, by go_num, N.out, trivial⟩
          case measure => simp [intOf]; omega
        · have N := Lib.hid (hg.found HF.out hlt h0 Z1.out Z2.out)
          have T := Lib.hid (tz_any _ hx.out h0 (HT.out.drewN d))
          have h1 : ((high (ws.getD k 0) r : Nat) : Int) ≠ 0 := by omega
          generalize high (ws.getD k 0) r = y at l N T h1
          generalize ws.getD k 0 = x at c l
          generalize 2 ^ r - 1 = y' at l
          have hb := N.out.1
          generalize Lib.ctz 64 y = t at N T hb
          have e1 : ((y : Int) == 0) = false := by simpa using h1
          have e2 : ((y : Int) != 0) = true := by simpa using h1
          have e3 : IntKind.i64.wrap ((k : Int) * 64) = (k : Int) * 64 := IntWalk.i64_in _ (by omega)
          have e4 : IntKind.i64.wrap ((k : Int) * 64 + (t : Int)) = (k : Int) * 64 + t := IntWalk.i64_in _ (by omega)
          clear hg h0 hx
          go_wp2_with (go_at_call 63; (with_reducible refine T.out.mono ?_); rintro e w' ⟨rfl, rfl⟩)
          go_ret
          refine ⟨?_, d, rfl⟩
          rw [N.out.2]
          show Ending.returned (.int .i64 ((k : Int) * 64 + t)) = _
          congr 2
          omega
      · obtain rfl : k = 32 := by omega
        have N := Lib.hid (hg.none HF.out Z2.out)
        go_wp2
        go_ret
        exact ⟨by rw [N.out]; rfl, d, rfl⟩
theorem Drew.same {w w' : World} (h : w' = w) : Drew w w' := ⟨0, h⟩
theorem Next_any (h : SetAt w g b n ws) (hT : Tab w) (z : Int) : Calls Tryd.prog 54 #[.pointer (some ⟨g, 0, none⟩), .int .i64 z] w fun e w' => e = .returned (.int .i64 (nextOf (nums ws) z)) ∧ Drew w w' := by
  by_cases hi : z < n ∧ 0 < n
  · exact Next_in h hT z hi.1 hi.2
  · have e : nextOf (nums ws) z = -1 := nextOf_none (fun x hx => by have := mem_nums_lt h.2 hx; omega)
    rw [e]
    exact (Next_out _ z w (fun hz => place_no h 0 (by omega)) (fun hz => place_no h z (by omega))).mono fun _ _ ⟨h1, h2⟩ => ⟨h1, .same h2⟩
theorem Next_nil (z : Int) (w : World) : Calls Tryd.prog 54 #[.pointer none, .int .i64 z] w fun e w' => e = .returned (.int .i64 (-1)) ∧ w' = w :=
  Next_out _ z w (fun _ => place_nil 0 w) (fun _ => place_nil z w)
end
end Go.Proofs.YtokjpibaaioehaaDoor.bm
