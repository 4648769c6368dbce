/- What the small functions of layer 2 do when they are called. -/
import Derived.Test.YtdplkodaccjgaaaDoorRows
import Derived.Test.YtdplkodaccjgaaaDoorCfM
import Derived.WalkKit
import Derived.ProofKit
import Derived.OpenShut
import Derived.Outline
import Derived.Lib.Hide
import Derived.IntWalk
import Derived.Deep.QuietTactic
import Derived.BigQuiet
namespace Go.Proofs.YtdplkodaccjgaaaDoor.cf
open Go.ChangeShapes Go.WideShapes Go.ChangeAt Go.RowKit
set_option linter.unusedVariables false

theorem bcell {W w1 : World} (hb : Below W.heap.size W w1) : (∀ b o, b < W.heap.size → w1.cell? ⟨b, o, none⟩ = W.cell? ⟨b, o, none⟩) ∧ (∀ b o, b < W.heap.size → w1.frozen? ⟨b, o, none⟩ = W.frozen? ⟨b, o, none⟩) :=
  ⟨fun b o h => hb.cell (p := ⟨b, o, none⟩) h, fun b o h => hb.frozen (p := ⟨b, o, none⟩) h⟩

theorem Below.drewN {B : Nat} {a w : World} (h : Below B a w) (n : Nat) : Below B a (w.drewN n) := ⟨h.os, h.tape, h.output, h.size, h.block⟩
section
variable (a0 a1 a2 a3 a4 a5 a6 a7 a8 a9 : Int) (w : World)
set_option maxHeartbeats 400000
theorem fields_any : Calls Tryd.prog 18 #[.agg #[.int .i64 a0, .int .i64 a1, .int .i64 a2, .int .i64 a3, .int .i64 a4, .int .i64 a5, .int .i64 a6, .int .i64 a7, .int .i64 a8, .int .i64 a9]] w
    fun e w' => e = .returned (.agg #[.int .i64 a0, .int .i64 a1, .int .i64 a2, .int .i64 a3, .int .i64 a4, .int .i64 a5, .int .i64 a6, .int .i64 a7, .int .i64 a8, .int .i64 a9]) ∧ Below w.heap.size w w' := by
  go_enter Tryd.func18, Tryd.ntmps18
  go_wp2
  exact bodyPost_ret (v := .agg #[.int .i64 a0, .int .i64 a1, .int .i64 a2, .int .i64 a3, .int .i64 a4, .int .i64 a5, .int .i64 a6, .int .i64 a7, .int .i64 a8, .int .i64 a9]) (by simp [results, Tryd.results18, go_sem]) rfl ⟨rfl, (((Below.refl _ _).alloc (Nat.le_refl _) _).alloc (by simp) _)⟩
theorem left_any (h2 : 1 ≤ a2 ∧ a2 ≤ 64) (h4 : 0 ≤ a4 ∧ a4 ≤ 1000) : Calls Tryd.prog 19 #[.agg #[.int .i64 a0, .int .i64 a1, .int .i64 a2, .int .i64 a3, .int .i64 a4, .int .i64 a5, .int .i64 a6, .int .i64 a7, .int .i64 a8, .int .i64 a9]] w
    fun e w' => e = .returned (.int .i64 (a2 * (1000 - a4))) ∧ Below w.heap.size w w' := by
  obtain ⟨p0, p1⟩ := prod_bd h2 h4
  have f : IntKind.i64.wrap (a2 * (1000 - a4)) = a2 * (1000 - a4) := IntWalk.i64_in _ (by omega)
  obtain ⟨h20, h21⟩ := h2
  obtain ⟨h40, h41⟩ := h4
  go_enter Tryd.func19, Tryd.ntmps19
  go_wp2
  go_ret
  exact ⟨rfl, (Below.refl _ _).alloc (Nat.le_refl _) _⟩

theorem made_any : Calls Tryd.prog 21 #[.agg #[.int .i64 a0, .int .i64 a1, .int .i64 a2, .int .i64 a3, .int .i64 a4, .int .i64 a5, .int .i64 a6, .int .i64 a7, .int .i64 a8, .int .i64 a9]] w
    fun e w' => e = .returned (.agg #[.int .i64 a0, .int .i64 a1, .int .i64 a2, .int .i64 a3, .int .i64 a4, .int .i64 a5, .int .i64 a6, .int .i64 a7, .int .i64 a8, .int .i64 a9]) ∧ Below w.heap.size w w' := by
  go_enter Tryd.func21, Tryd.ntmps21
  go_wp2
  exact bodyPost_ret (v := .agg #[.int .i64 a0, .int .i64 a1, .int .i64 a2, .int .i64 a3, .int .i64 a4, .int .i64 a5, .int .i64 a6, .int .i64 a7, .int .i64 a8, .int .i64 a9]) (by simp [results, Tryd.results21, go_sem]) rfl ⟨rfl, (((Below.refl _ _).alloc (Nat.le_refl _) _).alloc (by simp) _)⟩
theorem usual_any : Calls Tryd.prog 17 #[] w
    fun e w' => e = .returned (.agg #[.int .i64 16, .int .i64 4, .int .i64 20, .int .i64 4, .int .i64 700, .int .i64 100, .int .i64 4, .int .i64 4, .int .i64 16, .int .i64 4]) ∧ Below w.heap.size w w' := by
  go_enter Tryd.func17, Tryd.ntmps17
  go_wp2
  exact bodyPost_ret (v := .agg #[.int .i64 16, .int .i64 4, .int .i64 20, .int .i64 4, .int .i64 700, .int .i64 100, .int .i64 4, .int .i64 4, .int .i64 16, .int .i64 4]) (by simp [results, Tryd.results17, go_sem]) rfl ⟨rfl, ((Below.refl _ _).alloc (Nat.le_refl _) _)⟩
/-- What field k + 1 and its ends are told to be. -/
def Triple (l : List Int) (k : Nat) (w : World) (e : Ending) (w' : World) : Prop :=
  e = .returned (.tuple #[.int .i64 (l.getD k 0), .int .i64 (lo k), .int .i64 (hi k)]) ∧ Below w.heap.size w w'
/-- The three rows of eleven numbers that the statements' own function lays. -/
theorem rows11 (k : Nat) (hk : k < 10) : ((((w.alloc (.cells #[.int .i64 a0, .int .i64 a1, .int .i64 a2, .int .i64 a3, .int .i64 a4, .int .i64 a5, .int .i64 a6, .int .i64 a7, .int .i64 a8, .int .i64 a9] 23)).alloc (.cells #[.int .i64 0, .int .i64 a0, .int .i64 a1, .int .i64 a2, .int .i64 a3, .int .i64 a4, .int .i64 a5, .int .i64 a6, .int .i64 a7, .int .i64 a8, .int .i64 a9] 47)).alloc (.cells #[.int .i64 0, .int .i64 2, .int .i64 1, .int .i64 1, .int .i64 1, .int .i64 0, .int .i64 0, .int .i64 0, .int .i64 1, .int .i64 1, .int .i64 0] 47)).alloc (.cells #[.int .i64 0, .int .i64 64, .int .i64 8, .int .i64 64, .int .i64 16, .int .i64 1000, .int .i64 65535, .int .i64 64, .int .i64 16, .int .i64 256, .int .i64 64] 47)).cell? ⟨w.heap.size + 1, k + 1, none⟩ = some (.int .i64 ([a0, a1, a2, a3, a4, a5, a6, a7, a8, a9].getD k 0)) ∧ ((((w.alloc (.cells #[.int .i64 a0, .int .i64 a1, .int .i64 a2, .int .i64 a3, .int .i64 a4, .int .i64 a5, .int .i64 a6, .int .i64 a7, .int .i64 a8, .int .i64 a9] 23)).alloc (.cells #[.int .i64 0, .int .i64 a0, .int .i64 a1, .int .i64 a2, .int .i64 a3, .int .i64 a4, .int .i64 a5, .int .i64 a6, .int .i64 a7, .int .i64 a8, .int .i64 a9] 47)).alloc (.cells #[.int .i64 0, .int .i64 2, .int .i64 1, .int .i64 1, .int .i64 1, .int .i64 0, .int .i64 0, .int .i64 0, .int .i64 1, .int .i64 1, .int .i64 0] 47)).alloc (.cells #[.int .i64 0, .int .i64 64, .int .i64 8, .int .i64 64, .int .i64 16, .int .i64 1000, .int .i64 65535, .int .i64 64, .int .i64 16, .int .i64 256, .int .i64 64] 47)).cell? ⟨w.heap.size + 1 + 1, k + 1, none⟩ = some (.int .i64 (lo k)) ∧ ((((w.alloc (.cells #[.int .i64 a0, .int .i64 a1, .int .i64 a2, .int .i64 a3, .int .i64 a4, .int .i64 a5, .int .i64 a6, .int .i64 a7, .int .i64 a8, .int .i64 a9] 23)).alloc (.cells #[.int .i64 0, .int .i64 a0, .int .i64 a1, .int .i64 a2, .int .i64 a3, .int .i64 a4, .int .i64 a5, .int .i64 a6, .int .i64 a7, .int .i64 a8, .int .i64 a9] 47)).alloc (.cells #[.int .i64 0, .int .i64 2, .int .i64 1, .int .i64 1, .int .i64 1, .int .i64 0, .int .i64 0, .int .i64 0, .int .i64 1, .int .i64 1, .int .i64 0] 47)).alloc (.cells #[.int .i64 0, .int .i64 64, .int .i64 8, .int .i64 64, .int .i64 16, .int .i64 1000, .int .i64 65535, .int .i64 64, .int .i64 16, .int .i64 256, .int .i64 64] 47)).cell? ⟨w.heap.size + 1 + 1 + 1, k + 1, none⟩ = some (.int .i64 (hi k)) := by
  have hk' : k = 0 ∨ k = 1 ∨ k = 2 ∨ k = 3 ∨ k = 4 ∨ k = 5 ∨ k = 6 ∨ k = 7 ∨ k = 8 ∨ k = 9 := by omega
  have h1 : ((((w.alloc (.cells #[.int .i64 a0, .int .i64 a1, .int .i64 a2, .int .i64 a3, .int .i64 a4, .int .i64 a5, .int .i64 a6, .int .i64 a7, .int .i64 a8, .int .i64 a9] 23)).alloc (.cells #[.int .i64 0, .int .i64 a0, .int .i64 a1, .int .i64 a2, .int .i64 a3, .int .i64 a4, .int .i64 a5, .int .i64 a6, .int .i64 a7, .int .i64 a8, .int .i64 a9] 47)).alloc (.cells #[.int .i64 0, .int .i64 2, .int .i64 1, .int .i64 1, .int .i64 1, .int .i64 0, .int .i64 0, .int .i64 0, .int .i64 1, .int .i64 1, .int .i64 0] 47)).alloc (.cells #[.int .i64 0, .int .i64 64, .int .i64 8, .int .i64 64, .int .i64 16, .int .i64 1000, .int .i64 65535, .int .i64 64, .int .i64 16, .int .i64 256, .int .i64 64] 47)).cell? ⟨w.heap.size + 1, k + 1, none⟩ = (show Array Value from #[.int .i64 0, .int .i64 a0, .int .i64 a1, .int .i64 a2, .int .i64 a3, .int .i64 a4, .int .i64 a5, .int .i64 a6, .int .i64 a7, .int .i64 a8, .int .i64 a9])[k + 1]? := by simp [go_sem]
  have h2 : ((((w.alloc (.cells #[.int .i64 a0, .int .i64 a1, .int .i64 a2, .int .i64 a3, .int .i64 a4, .int .i64 a5, .int .i64 a6, .int .i64 a7, .int .i64 a8, .int .i64 a9] 23)).alloc (.cells #[.int .i64 0, .int .i64 a0, .int .i64 a1, .int .i64 a2, .int .i64 a3, .int .i64 a4, .int .i64 a5, .int .i64 a6, .int .i64 a7, .int .i64 a8, .int .i64 a9] 47)).alloc (.cells #[.int .i64 0, .int .i64 2, .int .i64 1, .int .i64 1, .int .i64 1, .int .i64 0, .int .i64 0, .int .i64 0, .int .i64 1, .int .i64 1, .int .i64 0] 47)).alloc (.cells #[.int .i64 0, .int .i64 64, .int .i64 8, .int .i64 64, .int .i64 16, .int .i64 1000, .int .i64 65535, .int .i64 64, .int .i64 16, .int .i64 256, .int .i64 64] 47)).cell? ⟨w.heap.size + 1 + 1, k + 1, none⟩ = (show Array Value from #[.int .i64 0, .int .i64 2, .int .i64 1, .int .i64 1, .int .i64 1, .int .i64 0, .int .i64 0, .int .i64 0, .int .i64 1, .int .i64 1, .int .i64 0])[k + 1]? := by simp [go_sem]
  have h3 : ((((w.alloc (.cells #[.int .i64 a0, .int .i64 a1, .int .i64 a2, .int .i64 a3, .int .i64 a4, .int .i64 a5, .int .i64 a6, .int .i64 a7, .int .i64 a8, .int .i64 a9] 23)).alloc (.cells #[.int .i64 0, .int .i64 a0, .int .i64 a1, .int .i64 a2, .int .i64 a3, .int .i64 a4, .int .i64 a5, .int .i64 a6, .int .i64 a7, .int .i64 a8, .int .i64 a9] 47)).alloc (.cells #[.int .i64 0, .int .i64 2, .int .i64 1, .int .i64 1, .int .i64 1, .int .i64 0, .int .i64 0, .int .i64 0, .int .i64 1, .int .i64 1, .int .i64 0] 47)).alloc (.cells #[.int .i64 0, .int .i64 64, .int .i64 8, .int .i64 64, .int .i64 16, .int .i64 1000, .int .i64 65535, .int .i64 64, .int .i64 16, .int .i64 256, .int .i64 64] 47)).cell? ⟨w.heap.size + 1 + 1 + 1, k + 1, none⟩ = (show Array Value from #[.int .i64 0, .int .i64 64, .int .i64 8, .int .i64 64, .int .i64 16, .int .i64 1000, .int .i64 65535, .int .i64 64, .int .i64 16, .int .i64 256, .int .i64 64])[k + 1]? := by simp [go_sem]
  rw [h1, h2, h3]
  rcases hk' with rfl | rfl | rfl | rfl | rfl | rfl | rfl | rfl | rfl | rfl <;> exact ⟨rfl, rfl, rfl⟩
theorem field_any (k : Nat) (hk : k < 10) : Calls Tryd.prog 14 #[.agg #[.int .i64 a0, .int .i64 a1, .int .i64 a2, .int .i64 a3, .int .i64 a4, .int .i64 a5, .int .i64 a6, .int .i64 a7, .int .i64 a8, .int .i64 a9], .int .i64 ((k : Int) + 1)] w
    (Triple [a0, a1, a2, a3, a4, a5, a6, a7, a8, a9] k w) := by
  have R := Lib.hid (rows11 a0 a1 a2 a3 a4 a5 a6 a7 a8 a9 w k hk)
  have B := Lib.hid (((((Below.refl w.heap.size w).alloc (Nat.le_refl _) (.cells #[.int .i64 a0, .int .i64 a1, .int .i64 a2, .int .i64 a3, .int .i64 a4, .int .i64 a5, .int .i64 a6, .int .i64 a7, .int .i64 a8, .int .i64 a9] 23)).alloc (by simp) (.cells #[.int .i64 0, .int .i64 a0, .int .i64 a1, .int .i64 a2, .int .i64 a3, .int .i64 a4, .int .i64 a5, .int .i64 a6, .int .i64 a7, .int .i64 a8, .int .i64 a9] 47)).alloc (by simp; omega) (.cells #[.int .i64 0, .int .i64 2, .int .i64 1, .int .i64 1, .int .i64 1, .int .i64 0, .int .i64 0, .int .i64 0, .int .i64 1, .int .i64 1, .int .i64 0] 47)).alloc (by simp; omega) (.cells #[.int .i64 0, .int .i64 64, .int .i64 8, .int .i64 64, .int .i64 16, .int .i64 1000, .int .i64 65535, .int .i64 64, .int .i64 16, .int .i64 256, .int .i64 64] 47))
  unfold Triple
  generalize hx : List.getD [a0, a1, a2, a3, a4, a5, a6, a7, a8, a9] k 0 = x at R
  generalize hl : lo k = l at R
  generalize hh : hi k = h at R
  clear hx hl hh
  go_enter Tryd.func14, Tryd.ntmps14
  go_wp2_with fail
  generalize ((((w.alloc (.cells #[.int .i64 a0, .int .i64 a1, .int .i64 a2, .int .i64 a3, .int .i64 a4, .int .i64 a5, .int .i64 a6, .int .i64 a7, .int .i64 a8, .int .i64 a9] 23)).alloc (.cells #[.int .i64 0, .int .i64 a0, .int .i64 a1, .int .i64 a2, .int .i64 a3, .int .i64 a4, .int .i64 a5, .int .i64 a6, .int .i64 a7, .int .i64 a8, .int .i64 a9] 47)).alloc (.cells #[.int .i64 0, .int .i64 2, .int .i64 1, .int .i64 1, .int .i64 1, .int .i64 0, .int .i64 0, .int .i64 0, .int .i64 1, .int .i64 1, .int .i64 0] 47)).alloc (.cells #[.int .i64 0, .int .i64 64, .int .i64 8, .int .i64 64, .int .i64 16, .int .i64 1000, .int .i64 65535, .int .i64 64, .int .i64 16, .int .i64 256, .int .i64 64] 47)) = wx at R B ⊢
  obtain ⟨r1, r2, r3⟩ := R.out
  have k0 : (0 : Int) ≤ (k : Int) + 1 := by omega
  have k1 : (k : Int) + 1 < 11 := by omega
  have k2 : ((k : Int) + 1).toNat = k + 1 := by omega
  go_quiet (fail)
  clear k2
  go_wp2
  exact bodyPost_ret (v := .tuple #[.int .i64 x, .int .i64 l, .int .i64 h]) (by simp [results, Tryd.results14, go_sem]) rfl ⟨rfl, Below.drewN B.out _⟩
end
end Go.Proofs.YtdplkodaccjgaaaDoor.cf
