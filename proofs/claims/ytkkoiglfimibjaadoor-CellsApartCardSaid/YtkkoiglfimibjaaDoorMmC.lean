/- Layer 4's functions that write, and those that make memory. -/
import Derived.Test.YtkkoiglfimibjaaDoorMmB
import Derived.Laws.AppendOwnNone
import Derived.Deep.RegionHeld3
import Derived.Deep.RegionHeldLaw
import Derived.Deep.RegionLaw
namespace Go.Proofs.YtkkoiglfimibjaaDoor.mm
open Go.ChangeShapes Go.WideShapes Go.ChangeAt Go.RowKit gen
set_option linter.unusedVariables false

theorem Fill_yes {g r : Nat} {xs : List Int} {w : World} (h : MemAt w g r xs) (a n : Nat) (v : Int) (hyes : a + n ≤ xs.length) :
    Calls Tryd.prog 68 #[.pointer (some ⟨g, 0, none⟩), .int .i64 a, .int .i64 n, .int .i64 v] w fun e w' => e = .returned (.bool true) ∧ MemAt w' g r (fillN xs a v n) ∧ w.grownBy w' (some r) := by
  have H := Lib.hid h
  have HY := Lib.hid hyes
  have hs : n ≤ 2048 := by have := h.2.2; omega
  have ha : a ≤ 2048 := by have := h.2.2; omega
  clear h hyes
  go_enter Tryd.func68, Tryd.ntmps68
  go_wp2_with (go_at_call 93; (with_reducible refine (part_yes H.out a n HY.out).mono ?_); rintro e w' ⟨⟨A, rfl, hA⟩, rfl⟩; have HA := Lib.hid hA; clear hA)
  go_loopw [21] (fun i wr => ∃ k : Nat, k ≤ n ∧ i = .int .i64 k ∧ MemAt wr g r (fillN xs a v k) ∧ w.grownBy wr (some r)) (fun i _ => n - (intOf i).toNat)
  case atStart => exact ⟨0, Nat.zero_le _, rfl, H.out, grown_refl _ _⟩
  case round =>
    obtain ⟨k, hk, rfl, hm, hg⟩ := hrel
    have HM := Lib.hid hm
    have HG := Lib.hid hg
    clear hm hg
    by_cases hlt : k < n
    · obtain rfl := HA.out (by omega)
      have hc := HM.out.word (k := a + k) (by rw [fillN_length]; have := HY.out; omega)
      have hf := HM.out.free (a + k)
      go_wp2
      go_roundw
      case rel => exact ⟨k + 1, by omega, by go_num, (HM.out.set (a + k) v).1, HG.out.trans (HM.out.set (a + k) v).2⟩
      case measure => simp [intOf]; omega
    · obtain rfl : k = n := by omega
      go_wp2
      go_ret
      exact ⟨rfl, HM.out, HG.out⟩
theorem Fill_none (p : Value) (a n v : Int) (w : World) (h : Calls Tryd.prog 93 #[p, .int .i64 a, .int .i64 n] w fun e w' => e = none2 ∧ w = w') :
    Calls Tryd.prog 68 #[p, .int .i64 a, .int .i64 n, .int .i64 v] w fun e w' => e = .returned (.bool false) ∧ w = w' := by
  have H := Lib.hid h
  clear h
  go_enter Tryd.func68, Tryd.ntmps68
  go_wp2_with (go_at_call 93; (with_reducible refine H.out.mono ?_); rintro e w' ⟨rfl, rfl⟩)
  go_loopw [21] (fun i wr => i = .int .i64 0 ∧ wr = w) (fun i _ => 0)
  case atStart => exact ⟨rfl, rfl⟩
  case round =>
    obtain ⟨rfl, rfl⟩ := hrel
    go_wp2
    go_ret
    exact ⟨rfl, rfl⟩
theorem Fill_one {g r : Nat} {xs : List Int} {w : World} (h : MemAt w g r xs) (a : Nat) (v : Int) (hyes : a < xs.length) :
    Calls Tryd.prog 68 #[.pointer (some ⟨g, 0, none⟩), .int .i64 a, .int .i64 1, .int .i64 v] w fun e w' => e = .returned (.bool true) ∧ MemAt w' g r (xs.set a v) ∧ w.grownBy w' (some r) :=
  Fill_yes h a 1 v hyes
theorem Store_yes {g r : Nat} {xs : List Int} {w : World} (h : MemAt w g r xs) (a : Nat) (v : Int) (hyes : a < xs.length) :
    Calls Tryd.prog 26 #[.pointer (some ⟨g, 0, none⟩), .int .i64 a, .int .i64 v] w fun e w' => e = .returned (.bool true) ∧ MemAt w' g r (xs.set a v) ∧ w.grownBy w' (some r) := by
  have H := Lib.hid (Fill_one h a v hyes)
  clear h hyes
  go_enter Tryd.func26, Tryd.ntmps26
  go_wp2_with (go_at_call 68; (with_reducible refine H.out.mono ?_); rintro e w' ⟨rfl, hm, hg⟩; have HM := Lib.hid hm; have HG := Lib.hid hg; clear hm hg)
  go_ret
  exact ⟨rfl, HM.out, HG.out⟩
theorem Store_none (p : Value) (a v : Int) (w : World) (h : Calls Tryd.prog 93 #[p, .int .i64 a, .int .i64 1] w fun e w' => e = none2 ∧ w = w') :
    Calls Tryd.prog 26 #[p, .int .i64 a, .int .i64 v] w fun e w' => e = .returned (.bool false) ∧ w = w' := by
  have H := Lib.hid (Fill_none p a 1 v w h)
  clear h
  go_enter Tryd.func26, Tryd.ntmps26
  go_wp2_with (go_at_call 68; (with_reducible refine H.out.mono ?_); rintro e w' ⟨rfl, rfl⟩)
  go_ret
  exact ⟨rfl, rfl⟩
theorem info2 : (Tryd.prog.info? 2).map (·.size) = some 1 := by kernel_rfl
end Go.Proofs.YtkkoiglfimibjaaDoor.mm
