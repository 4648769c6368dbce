/- What each function of layer 1, and each of its plain answers, does when it is called. -/
import Derived.Test.YtgahppmglkhipaaRows
import Derived.Test.YtgahppmglkhipaaM
import Derived.WalkKit
import Derived.ProofKit
import Derived.OpenShut
namespace Go.Proofs.Ytgahppmglkhipaa.calls
open Go.ChangeShapes Go.WideShapes Go.ChangeAt Go.RowKit

/-- The number that is told where the exact one is n. -/
def val (n : Int) : Int := if fits n = true then n else 0
theorem val_yes {n : Int} (h : fits n = true) : val n = n := by simp [val, h]
theorem val_no {n : Int} (h : fits n = false) : val n = 0 := by simp [val, h]
/-- What is answered where the exact number is n. -/
abbrev Told (n : Int) (w : World) (e : Ending) (w' : World) : Prop := e = .returned (.tuple #[.int .i64 (val n), .bool (fits n)]) ∧ w = w'

theorem add_yes (a b : Int) (w : World) (h : fits (a + b) = true) :
    Calls Try.prog 8 #[.int .i64 a, .int .i64 b] w fun e w' => e = .returned (.tuple #[.int .i64 (a + b), .bool true]) ∧ w = w' := by
  obtain ⟨h1, h2⟩ := fits_iff.mp h
  clear h
  by_cases hb : 0 < b
  · have hd : decide (a < a + b) = true := by simp; omega
    have hb' : decide (0 < b) = true := by simp; omega
    go_enter Try.func8, Try.ntmps8
    go_wp2
    go_ret2
    exact ⟨rfl, rfl⟩
  · have hd : decide (a < a + b) = false := by simp; omega
    have hb' : decide (0 < b) = false := by simp; omega
    go_enter Try.func8, Try.ntmps8
    go_wp2
    go_ret2
    exact ⟨rfl, rfl⟩
theorem add_no (a b : Int) (w : World) (a1 : fits a = true) (b1 : fits b = true) (h : fits (a + b) = false) :
    Calls Try.prog 8 #[.int .i64 a, .int .i64 b] w fun e w' => e = .returned (.tuple #[.int .i64 0, .bool false]) ∧ w = w' := by
  have ha := fits_iff.mp a1
  have hb := fits_iff.mp b1
  have hn := fits_no.mp h
  obtain ⟨s, hs⟩ : ∃ s, s = wrap64 (a + b) := ⟨_, rfl⟩
  have hs' := hs
  unfold wrap64 at hs'
  clear a1 b1 h
  by_cases hb : 0 < b
  · have hd : decide (a < wrap64 (a + b)) = false := by rw [← hs]; simp; omega
    have hb' : decide (0 < b) = true := by simp; omega
    clear ha hn hs hs'
    go_enter Try.func8, Try.ntmps8
    go_wp2
    go_ret2
    exact ⟨rfl, rfl⟩
  · have hd : decide (a < wrap64 (a + b)) = true := by rw [← hs]; simp; omega
    have hb' : decide (0 < b) = false := by simp; omega
    clear ha hn hs hs'
    go_enter Try.func8, Try.ntmps8
    go_wp2
    go_ret2
    exact ⟨rfl, rfl⟩
theorem add_any (a b : Int) (w : World) (a1 : fits a = true) (b1 : fits b = true) : Calls Try.prog 8 #[.int .i64 a, .int .i64 b] w (Told (a + b) w) := by
  cases h : fits (a + b)
  · unfold Told; rw [val_no h, h]; exact add_no a b w a1 b1 h
  · unfold Told; rw [val_yes h, h]; exact add_yes a b w h

theorem sub_yes (a b : Int) (w : World) (h : fits (a - b) = true) :
    Calls Try.prog 10 #[.int .i64 a, .int .i64 b] w fun e w' => e = .returned (.tuple #[.int .i64 (a - b), .bool true]) ∧ w = w' := by
  obtain ⟨h1, h2⟩ := fits_iff.mp h
  clear h
  by_cases hb : 0 < b
  · have hd : decide (a - b < a) = true := by simp; omega
    have hb' : decide (0 < b) = true := by simp; omega
    go_enter Try.func10, Try.ntmps10
    go_wp2
    go_ret2
    exact ⟨rfl, rfl⟩
  · have hd : decide (a - b < a) = false := by simp; omega
    have hb' : decide (0 < b) = false := by simp; omega
    go_enter Try.func10, Try.ntmps10
    go_wp2
    go_ret2
    exact ⟨rfl, rfl⟩
theorem sub_no (a b : Int) (w : World) (a1 : fits a = true) (b1 : fits b = true) (h : fits (a - b) = false) :
    Calls Try.prog 10 #[.int .i64 a, .int .i64 b] w fun e w' => e = .returned (.tuple #[.int .i64 0, .bool false]) ∧ w = w' := by
  have ha := fits_iff.mp a1
  have hb := fits_iff.mp b1
  have hn := fits_no.mp h
  obtain ⟨s, hs⟩ : ∃ s, s = wrap64 (a - b) := ⟨_, rfl⟩
  have hs' := hs
  unfold wrap64 at hs'
  clear a1 b1 h
  by_cases hb : 0 < b
  · have hd : decide (wrap64 (a - b) < a) = false := by rw [← hs]; simp; omega
    have hb' : decide (0 < b) = true := by simp; omega
    clear ha hn hs hs'
    go_enter Try.func10, Try.ntmps10
    go_wp2
    go_ret2
    exact ⟨rfl, rfl⟩
  · have hd : decide (wrap64 (a - b) < a) = true := by rw [← hs]; simp; omega
    have hb' : decide (0 < b) = false := by simp; omega
    clear ha hn hs hs'
    go_enter Try.func10, Try.ntmps10
    go_wp2
    go_ret2
    exact ⟨rfl, rfl⟩
theorem sub_any (a b : Int) (w : World) (a1 : fits a = true) (b1 : fits b = true) : Calls Try.prog 10 #[.int .i64 a, .int .i64 b] w (Told (a - b) w) := by
  cases h : fits (a - b)
  · unfold Told; rw [val_no h, h]; exact sub_no a b w a1 b1 h
  · unfold Told; rw [val_yes h, h]; exact sub_yes a b w h

theorem radd_any (a b : Int) (w : World) (a1 : fits a = true) (b1 : fits b = true) : Calls Try.prog 9 #[.int .i64 a, .int .i64 b] w (Told (a + b) w) := by
  have ha := fits_iff.mp a1
  have hb := fits_iff.mp b1
  clear a1 b1
  unfold Told
  cases h : fits (a + b)
  · rw [val_no h]
    have hn := fits_no.mp h
    clear h
    rcases Int.lt_trichotomy b 0 with k | rfl | k
    · have k1 : decide (0 < b) = false := by simp; omega
      have k2 : decide (b < 0) = true := by simp; omega
      have k3 : decide (a < -9223372036854775808 - b) = true := by simp; omega
      go_enter Try.func9, Try.ntmps9
      go_wp2
      go_ret2
      exact ⟨rfl, rfl⟩
    · omega
    · have k1 : decide (0 < b) = true := by simp; omega
      have k3 : decide (9223372036854775807 - b < a) = true := by simp; omega
      go_enter Try.func9, Try.ntmps9
      go_wp2
      go_ret2
      exact ⟨rfl, rfl⟩
  · rw [val_yes h]
    have hn := fits_iff.mp h
    clear h
    rcases Int.lt_trichotomy b 0 with k | rfl | k
    · have k1 : decide (0 < b) = false := by simp; omega
      have k2 : decide (b < 0) = true := by simp; omega
      have k3 : decide (a < -9223372036854775808 - b) = false := by simp; omega
      go_enter Try.func9, Try.ntmps9
      go_wp2
      go_ret2
      exact ⟨rfl, rfl⟩
    · go_enter Try.func9, Try.ntmps9
      go_wp2
      go_ret2
      exact ⟨by simp, rfl⟩
    · have k1 : decide (0 < b) = true := by simp; omega
      have k2 : decide (b < 0) = false := by simp; omega
      have k3 : decide (9223372036854775807 - b < a) = false := by simp; omega
      go_enter Try.func9, Try.ntmps9
      go_wp2
      go_ret2
      exact ⟨rfl, rfl⟩
theorem rsub_any (a b : Int) (w : World) (a1 : fits a = true) (b1 : fits b = true) : Calls Try.prog 11 #[.int .i64 a, .int .i64 b] w (Told (a - b) w) := by
  have ha := fits_iff.mp a1
  have hb := fits_iff.mp b1
  clear a1 b1
  unfold Told
  cases h : fits (a - b)
  · rw [val_no h]
    have hn := fits_no.mp h
    clear h
    rcases Int.lt_trichotomy b 0 with k | rfl | k
    · have k2 : decide (b < 0) = true := by simp; omega
      have k3 : decide (9223372036854775807 + b < a) = true := by simp; omega
      go_enter Try.func11, Try.ntmps11
      go_wp2
      go_ret2
      exact ⟨rfl, rfl⟩
    · omega
    · have k1 : decide (0 < b) = true := by simp; omega
      have k2 : decide (b < 0) = false := by simp; omega
      have k3 : decide (a < -9223372036854775808 + b) = true := by simp; omega
      go_enter Try.func11, Try.ntmps11
      go_wp2
      go_ret2
      exact ⟨rfl, rfl⟩
  · rw [val_yes h]
    have hn := fits_iff.mp h
    clear h
    rcases Int.lt_trichotomy b 0 with k | rfl | k
    · have k1 : decide (0 < b) = false := by simp; omega
      have k2 : decide (b < 0) = true := by simp; omega
      have k3 : decide (9223372036854775807 + b < a) = false := by simp; omega
      go_enter Try.func11, Try.ntmps11
      go_wp2
      go_ret2
      exact ⟨rfl, rfl⟩
    · go_enter Try.func11, Try.ntmps11
      go_wp2
      go_ret2
      exact ⟨by simp, rfl⟩
    · have k1 : decide (0 < b) = true := by simp; omega
      have k2 : decide (b < 0) = false := by simp; omega
      have k3 : decide (a < -9223372036854775808 + b) = false := by simp; omega
      go_enter Try.func11, Try.ntmps11
      go_wp2
      go_ret2
      exact ⟨rfl, rfl⟩

theorem clamp_lo (n lo hi : Int) (w : World) (h : n < lo) :
    Calls Try.prog 19 #[.int .i64 n, .int .i64 lo, .int .i64 hi] w fun e w' => e = .returned (.int .i64 lo) ∧ w = w' := by
  go_enter Try.func19, Try.ntmps19
  go_wp2
  go_ret
  exact ⟨rfl, rfl⟩
theorem clamp_hi (n lo hi : Int) (w : World) (h : ¬ n < lo) (h2 : hi < n) :
    Calls Try.prog 19 #[.int .i64 n, .int .i64 lo, .int .i64 hi] w fun e w' => e = .returned (.int .i64 hi) ∧ w = w' := by
  go_enter Try.func19, Try.ntmps19
  go_wp2
  go_ret
  exact ⟨rfl, rfl⟩
theorem clamp_in (n lo hi : Int) (w : World) (h : ¬ n < lo) (h2 : ¬ hi < n) :
    Calls Try.prog 19 #[.int .i64 n, .int .i64 lo, .int .i64 hi] w fun e w' => e = .returned (.int .i64 n) ∧ w = w' := by
  go_enter Try.func19, Try.ntmps19
  go_wp2
  go_ret
  exact ⟨rfl, rfl⟩
end Go.Proofs.Ytgahppmglkhipaa.calls
