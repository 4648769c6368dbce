/- What a sum of many does when it is called, and that the few calls which every law of layer 1 begins with come out as told. -/
import Derived.Test.YtgahppmglkhipaaB
import Derived.Outline
namespace Go.Proofs.Ytgahppmglkhipaa.calls
open Go.ChangeShapes Go.WideShapes Go.ChangeAt Go.RowKit
set_option linter.unusedVariables false

/-- The sum of many behind t, one by one; 0 and false, if one on the way is none. -/
def sumTo (t : Int) : List Int → Int × Bool
  | [] => (t, true)
  | x :: r => if fits (t + x) = true then sumTo (t + x) r else (0, false)
theorem sumTo_yes {t x : Int} {r : List Int} (h : fits (t + x) = true) : sumTo t (x :: r) = sumTo (t + x) r := by simp [sumTo, h]
theorem sumTo_no {t x : Int} {r : List Int} (h : fits (t + x) = false) : sumTo t (x :: r) = (0, false) := by simp [sumTo, h]
theorem drop_here {xs : List Int} {k : Nat} (h : k < xs.length) : xs.drop k = xs.getD k 0 :: xs.drop (k + 1) := by
  rw [List.drop_eq_getElem_cons h]; simp [h]
theorem drop_all {xs : List Int} {k : Nat} (h : ¬ k < xs.length) : xs.drop k = [] := List.drop_eq_nil_of_le (by omega)

theorem retp {a : Int} {x : Bool} {p : Int × Bool} (h : p = (a, x)) : Ending.returned (.tuple #[.int .i64 a, .bool x]) = .returned (.tuple #[.int .i64 p.1, .bool p.2]) := by rw [h]

theorem sum_row (xs : List Int) (b off cap : Nat) (w : World) (hm : xs.length ≤ maxLen) (hf : ∀ i, fits (xs.getD i 0) = true)
    (hc : ∀ i, i < xs.length → w.cell? ⟨b, off + i, none⟩ = some (.int .i64 (xs.getD i 0))) :
    Calls Try.prog 18 #[.slice (some ⟨b, off, none⟩) xs.length cap] w fun e w' => e = .returned (.tuple #[.int .i64 (sumTo 0 xs).1, .bool (sumTo 0 xs).2]) ∧ w = w' := by
  unfold maxLen at hm
  go_enter Try.func18, Try.ntmps18
  go_wp2
  go_loop [4, 11] (fun t i => ∃ (k : Nat) (n : Int), k ≤ xs.length ∧ i = .int .i64 k ∧ t = .int .i64 n ∧ fits n = true ∧ sumTo 0 xs = sumTo n (xs.drop k)) (fun _ i => xs.length - (intOf i).toNat)
  case atStart => exact ⟨0, 0, Nat.zero_le _, rfl, rfl, fits0, rfl⟩
  case round =>
    obtain ⟨k, n, hk, rfl, rfl, hn, hs⟩ := hrel
    have HS := Lib.hid hs
    clear hs
    by_cases hlt : k < xs.length
    · have g := hc k hlt
      have f := hf k
      have D := Lib.hid (drop_here hlt)
      generalize xs.getD k 0 = x at g f D
      have HN := Lib.hid hn
      have HF := Lib.hid f
      clear hn f hc hf
      cases h : fits (n + x)
      · have H := Lib.hid h
        clear h
        go_wp2_with (go_at_call 8; (with_reducible refine (add_no _ _ _ HN.out HF.out H.out).mono ?_); rintro e w' ⟨rfl, rfl⟩)
        go_ret2
        exact ⟨retp (by rw [HS.out, D.out, sumTo_no H.out]), rfl⟩
      · have H := Lib.hid h
        clear h
        go_wp2_with (go_at_call 8; (with_reducible refine (add_yes _ _ _ H.out).mono ?_); rintro e w' ⟨rfl, rfl⟩)
        go_round
        case rel => exact ⟨k + 1, n + x, by omega, by go_num, rfl, H.out, by rw [HS.out, D.out, sumTo_yes H.out]⟩
        case measure => simp [intOf]; omega
    · have D := Lib.hid (drop_all hlt)
      clear hn hc hf
      go_wp2
      go_ret2
      exact ⟨retp (by rw [HS.out, D.out]; rfl), rfl⟩
theorem sum_nil (w : World) :
    Calls Try.prog 18 #[.slice none 0 0] w fun e w' => e = .returned (.tuple #[.int .i64 0, .bool true]) ∧ w = w' := by
  go_enter Try.func18, Try.ntmps18
  go_wp2
  refine wp_loop_rounds 1 ?_; rw [rounds_succ]
  go_wp2
  go_ret2
  exact ⟨rfl, rfl⟩
theorem add12 (w : World) : Calls Try.prog 8 #[.int .i64 1, .int .i64 2] w fun e w' => e = .returned (.tuple #[.int .i64 3, .bool true]) ∧ w = w' :=
  add_yes 1 2 w (by simp [fits])
theorem mul24 (w : World) : Calls Try.prog 12 #[.int .i64 4611686018427387904, .int .i64 4] w fun e w' => e = .returned (.tuple #[.int .i64 0, .bool false]) ∧ w = w' :=
  mul_no 4611686018427387904 4 w (by omega) (by omega) (by simp [fits]) (by simp [fits]) (by simp [fits])
theorem down32 (w : World) : Calls Try.prog 14 #[.int .i64 (-3), .int .i64 2] w fun e w' => e = .returned (.tuple #[.int .i64 (-2), .bool true]) ∧ w = w' :=
  down_any (-3) 2 w (by simp [fits]) (by simp [fits])
theorem sum6 (b cap : Nat) (w : World) (h0 : w.cell? ⟨b, 0, none⟩ = some (.int .i64 1)) (h1 : w.cell? ⟨b, 1, none⟩ = some (.int .i64 2)) (h2 : w.cell? ⟨b, 2, none⟩ = some (.int .i64 3)) :
    Calls Try.prog 18 #[.slice (some ⟨b, 0, none⟩) 3 cap] w fun e w' => e = .returned (.tuple #[.int .i64 6, .bool true]) ∧ w = w' := by
  have h := sum_row [1, 2, 3] b 0 cap w (by simp [maxLen]) (fun i => by match i with | 0 => simp [fits] | 1 => simp [fits] | 2 => simp [fits] | n + 3 => simp [fits])
    (fun i hi => by match i, hi with | 0, _ => exact h0 | 1, _ => exact h1 | 2, _ => exact h2)
  have e : sumTo 0 [1, 2, 3] = (6, true) := by simp [sumTo, fits]
  rw [e] at h
  exact h
theorem alive_any (w : World) : Calls Try.prog 7 #[] w fun e w' => e = .returned (.bool true) ∧ Below w.heap.size w w' := by
  go_enter Try.func7, Try.ntmps7
  go_wp2_with (first
    | (go_at_call 8; (with_reducible refine (add12 _).mono ?_); rintro e w' ⟨rfl, rfl⟩)
    | (go_at_call 12; (with_reducible refine (mul24 _).mono ?_); rintro e w' ⟨rfl, rfl⟩)
    | (go_at_call 14; (with_reducible refine (down32 _).mono ?_); rintro e w' ⟨rfl, rfl⟩)
    | (go_at_call 18; (with_reducible refine (sum6 _ _ _ ?_ ?_ ?_).mono ?_); go_simp; go_simp; go_simp; rintro e w' ⟨rfl, rfl⟩)
    | (go_at_call 19; (with_reducible refine (clamp_hi _ _ _ _ (by omega) (by omega)).mono ?_); rintro e w' ⟨rfl, rfl⟩))
  go_ret
  exact ⟨rfl, (Below.refl _ _).alloc (Nat.le_refl _) _⟩
theorem alive_grown (w : World) : Calls Try.prog 7 #[] w fun e w' => e = .returned (.bool true) ∧ Grown w w' := by
  go_enter Try.func7, Try.ntmps7
  go_wp2_with (first
    | (go_at_call 8; (with_reducible refine (add12 _).mono ?_); rintro e w' ⟨rfl, rfl⟩)
    | (go_at_call 12; (with_reducible refine (mul24 _).mono ?_); rintro e w' ⟨rfl, rfl⟩)
    | (go_at_call 14; (with_reducible refine (down32 _).mono ?_); rintro e w' ⟨rfl, rfl⟩)
    | (go_at_call 18; (with_reducible refine (sum6 _ _ _ ?_ ?_ ?_).mono ?_); go_simp; go_simp; go_simp; rintro e w' ⟨rfl, rfl⟩)
    | (go_at_call 19; (with_reducible refine (clamp_hi _ _ _ _ (by omega) (by omega)).mono ?_); rintro e w' ⟨rfl, rfl⟩))
  go_ret
  exact ⟨rfl, (Grown.refl _).alloc _ _⟩
end Go.Proofs.Ytgahppmglkhipaa.calls
