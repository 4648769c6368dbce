/- slices.Repeat of one bool (at most 64 times). -/
import Derived.Test.YtgfgchmpdocihaaLbA
import Derived.RegionTactic
import Derived.Deep.RegionLaw
import Derived.Laws.CopyOwn
import Derived.Laws.MakeOwn
import Derived.Laws.Bits64b
namespace Go.Proofs.Ytgfgchmpdocihaa.lb
open Go.ChangeShapes Go.WideShapes Go.ChangeAt Go.RowKit gen
set_option linter.unusedVariables false
set_option maxHeartbeats 1000000
set_option maxRecDepth 100000

theorem low (a : Nat) (ha : a < 4294967296) : bits .and .u64 (a : Int) 4294967295 = (a : Int) := by
  have h := bits_and_u64_nat a 4294967295 (by omega) (by omega)
  have e : a &&& 4294967295 = a := by
    rw [show (4294967295 : Nat) = 2 ^ 32 - 1 from rfl, Nat.and_two_pow_sub_one_eq_mod]
    omega
  rw [e] at h
  exact h
theorem low1 : bits .and .u64 1 4294967295 = 1 := low 1 (by omega)
theorem low0 : bits .and .u64 0 4294967295 = 0 := low 0 (by omega)
/-- 1 times a small number. -/
theorem Mul64_one (k : Nat) (hk : k ≤ 64) (w : World) : Calls Try.prog 23 #[.int .u64 1, .int .u64 (k : Int)] w fun e w' => e = .returned (.tuple #[.int .u64 0, .int .u64 (k : Int)]) ∧ w = w' := by
  have l1 := low1
  have l0 := low0
  have lk := low k (by omega)
  have d1 : (1 : Int) / 4294967296 = 0 := by decide
  have dk : (k : Int) / 4294967296 = 0 := by omega
  have wk : IntKind.u64.wrap (k : Int) = (k : Int) := by rw [IntKind.wrap_u64]; omega
  have w0 : IntKind.u64.wrap 0 = 0 := by decide
  go_enter Try.func23, Try.ntmps23
  go_wp2
  go_ret2
  exact ⟨rfl, rfl⟩
theorem Mul_one (k : Nat) (hk : k ≤ 64) (w : World) : Calls Try.prog 21 #[.int .u64 1, .int .u64 (k : Int)] w fun e w' => e = .returned (.tuple #[.int .u64 0, .int .u64 (k : Int)]) ∧ w = w' := by
  have M := Lib.hid (fun w => Mul64_one k hk w)
  go_enter Try.func21, Try.ntmps21
  go_wp2_with (go_at_call 23; (with_reducible refine (M.out _).mono ?_); rintro e w' ⟨rfl, hw⟩; subst hw)
  go_ret2
  exact ⟨rfl, rfl⟩
theorem madeCells_rep (z : Value) (n : Nat) : madeCells #[z] n = (List.replicate n z).toArray := by
  apply Array.ext'
  rw [toList_madeCells_one]
theorem bools_rep (n : Nat) (y : Bool) : bools (List.replicate n y) = List.replicate n (.bool y) := by simp [bools]
theorem make_bools (n : Nat) (hn : n ≤ 64) (w : World) :
    (Instr.makeSlice 32 (.int .i64 (n : Int)) (.int .i64 (n : Int))).run Try.prog w = .ok (.slice (some ⟨w.heap.size, 0, none⟩) n n) (w.alloc (.cells (bools (List.replicate n false)).toArray 4)) := by
  obtain ⟨i0, hi, hz0, hz1, hz2⟩ := info_parts info_bool
  have h := run_make (P := Try.prog) w 32 4 i0 _ Try.underlying32 hi hz0 .i64 .i64 n n (by omega) (Int.le_refl _) (by rw [hz2]; omega) (by omega)
  rw [h]
  simp only [Int.toNat_natCast, hz1, Nat.mul_one]
  rw [show (Value.bool false).cells = #[.bool false] from rfl, madeCells_rep, bools_rep]
/-- The first j are laid. -/
def lay (k j : Nat) (y : Bool) : List Bool := List.replicate j y ++ List.replicate (k - j) false
theorem lay_zero (k : Nat) (y : Bool) : lay k 0 y = List.replicate k false := by simp [lay]
theorem lay_all (k : Nat) (y : Bool) : lay k k y = List.replicate k y := by simp [lay]
theorem lay_length {k j : Nat} (y : Bool) (h : j ≤ k) : (lay k j y).length = k := by simp [lay]; omega
theorem lay_more {k j m : Nat} (y : Bool) (h : j + m ≤ k) : splice (bools (lay k j y)) j (bools (List.replicate m y)) = bools (lay k (j + m) y) := by
  have e1 : (bools (List.replicate j y)).length = j := by simp [bools]
  have e2 : (bools (List.replicate m y)).length = m := by simp [bools]
  unfold splice lay
  rw [bools_append, bools_append, e2, List.take_left' e1, List.drop_append, e1, List.drop_eq_nil_of_le (by rw [e1]; omega), List.nil_append, show j + m - j = m by omega]
  rw [show bools (List.replicate (k - j) false) = bools (List.replicate m false) ++ bools (List.replicate (k - (j + m)) false) by rw [← bools_append, List.replicate_append_replicate]; congr 2; omega]
  rw [List.drop_left' (by simp [bools]), ← List.append_assoc, ← bools_append, List.replicate_append_replicate]
theorem lay_at {w : World} {R k j i : Nat} {y : Bool} (h : w.heap[R]? = some (.cells (bools (lay k j y)).toArray 4 (0, 0))) (hi : i < j) : w.cell? ⟨R, i, none⟩ = some (.bool y) := by
  rw [cell_of_row w R i _ _ _ h]
  simp [bools, lay, List.getElem?_append, hi]
theorem below_grown {a w : World} (h : Below a.heap.size a w) : a.grownBy w none := ⟨h.os, h.tape, h.output, h.size, fun k hk _ => h.block k hk⟩
theorem grown_below_alloc (w : World) (o : Obj) : Below w.heap.size w (w.alloc o) := li.grown_below (World.grownBy_alloc w o none)
theorem Repeat_any {w : World} {A : Option Addr} {n c : Nat} {y : Bool} (h : Rb w A n c [y]) (k : Nat) (hk : k ≤ 64) : Calls Try.prog 20 #[.slice A n c, .int .i64 (k : Int)] w (LbAns (List.replicate k y) w) := by
  obtain rfl : 1 = n := h.1
  have c1 := h.2.1
  have c2 := h.2.2.1
  obtain ⟨ab, ao, rfl, hc⟩ := h.at_ (i := 0) (by omega)
  dsimp only [Nat.add_zero, List.getD_cons_zero] at hc
  have hab := World.block_lt_of_cell? _ _ hc
  dsimp only at hab
  clear h
  have M := Lib.hid (fun w => Mul_one k hk w)
  have mk := make_bools k hk
  have H0 := Lib.hid (show ∀ W : World, W.heap.size = w.heap.size → (W.alloc (.cells (bools (List.replicate k false)).toArray 4)).heap[w.heap.size]? = some (.cells (bools (lay k 0 y)).toArray 4 (0, 0)) from fun W hW => by rw [lay_zero, ← hW, heap_alloc_new])
  have B0 := Lib.hid (fun o => grown_below_alloc w o)
  have L0 := Lib.hid (lay_length (k := k) (j := 0) y (Nat.zero_le _))
  generalize (bools (List.replicate k false)).toArray = cs at mk H0
  have k0 : (0 : Int) ≤ (k : Int) := by omega
  have wk : IntKind.u64.wrap (k : Int) = (k : Int) := by rw [IntKind.wrap_u64]; omega
  have wi : IntKind.i64.wrap (k : Int) = (k : Int) := by rw [IntKind.wrap_i64]; omega
  have g1 : decide ((9223372036854775807 : Int) < (k : Int)) = false := decide_eq_false (by omega)
  obtain ⟨j1, hj1⟩ : ∃ j1, j1 = Nat.min 1 k := ⟨_, rfl⟩
  have hj2 : j1 ≤ k ∧ j1 ≤ 1 ∧ (0 < k → 0 < j1) := by rw [hj1]; simp only [Nat.min_def]; split <;> omega
  have H1 := Lib.hid (lay_more (k := k) (j := 0) (m := j1) y (by omega))
  rw [Nat.zero_add] at H1
  have LX := Lib.hid (show (bools (List.replicate j1 y)).length = j1 by simp [bools])
  have OX := Lib.hid (bools_one (List.replicate j1 y))
  have CX := Lib.hid (show ∀ (W : World), W.cell? ⟨ab, ao, none⟩ = some (.bool y) → ∀ j v, (bools (List.replicate j1 y))[j]? = some v → W.cell? ((⟨ab, ao, none⟩ : Addr).add j) = some v from fun W hW j v hj => by
    have h1 : j < j1 := by have := (List.getElem?_eq_some_iff.1 hj).1; simpa [bools] using this
    obtain rfl : j = 0 := by omega
    simp [bools, h1] at hj
    subst hj
    simpa [Addr.add] using hW)
  have HC := Lib.hid hc
  generalize bools (List.replicate j1 y) = X1 at H1 LX OX CX
  have LC := Lib.hid (show (bools (lay k 0 y)).length = k by rw [bools_length, lay_length _ (Nat.zero_le _)])
  have LX2 : X1.length = j1 := LX.out
  have HJ1 := Lib.hid hj1
  clear L0 hj1
  go_enter Try.func20, Try.ntmps20
  go_wp2_with (first
    | (go_at_call 21; (with_reducible refine (M.out _).mono ?_); rintro e w' ⟨rfl, hw⟩; subst hw)
    | (refine wpList_copy_splice rfl (.tmp 31) (.tmp 32) 32 32 rfl 4 Try.underlying32 (by kernel_rfl) _ _ _ _ _ _ rfl rfl w.heap.size 0 _ _ (H0.out _ rfl) X1 (LX.out.trans HJ1.out) (fun h1 => ⟨rfl, _, rfl, CX.out _ ((World.grownBy_alloc _ _ none).cell HC.out (by simp))⟩) (by rw [LC.out, LX.out]; omega) OX.out w.heap.size w (B0.out _) (Nat.le_refl _) ?_; intro w2 hg2 hb2; rw [H1.out] at hg2; have HG2 := Lib.hid hg2.out; have HB2 := Lib.hid (below_grown hb2); clear hg2 hb2))
  go_loopw [8] (fun i wr => ∃ j : Nat, j ≤ k ∧ (0 < k → 0 < j) ∧ i = .int .i64 j ∧ wr.heap[w.heap.size]? = some (.cells (bools (lay k j y)).toArray 4 (0, 0)) ∧ w.grownBy wr none) (fun i _ => k - (intOf i).toNat)
  case atStart => exact ⟨j1, hj2.1, hj2.2.2, rfl, HG2.out, HB2.out⟩
  case round =>
    obtain ⟨j, hj, hj0, rfl, hr, hg⟩ := hrel
    have HR := Lib.hid hr
    have HG := Lib.hid hg
    clear hr hg
    by_cases hlt : j < k
    · obtain ⟨m, hm⟩ : ∃ m, m = Nat.min j (k - j) := ⟨_, rfl⟩
      have hm2 : m ≤ j ∧ j + m ≤ k ∧ 0 < m := by rw [hm]; simp only [Nat.min_def]; split <;> omega
      have H2 := Lib.hid (lay_more (k := k) (j := j) (m := m) y (by omega))
      have LY := Lib.hid (show (bools (List.replicate m y)).length = m by simp [bools])
      have OY := Lib.hid (bools_one (List.replicate m y))
      have CY := Lib.hid (show ∀ (W : World), W.heap[w.heap.size]? = some (.cells (bools (lay k j y)).toArray 4 (0, 0)) → ∀ i v, (bools (List.replicate m y))[i]? = some v → W.cell? ((⟨w.heap.size, 0, none⟩ : Addr).add i) = some v from fun W hW i v hi => by
        have h1 : i < m := by have := (List.getElem?_eq_some_iff.1 hi).1; simpa [bools] using this
        simp [bools, h1] at hi
        subst hi
        rw [Addr.add_lit, Nat.zero_add]
        exact lay_at hW (by omega))
      have LL := Lib.hid (show (bools (lay k j y)).length = k by rw [bools_length, lay_length _ hj])
      have LY2 : (bools (List.replicate m y)).length = m := LY.out
      generalize bools (List.replicate m y) = Y1 at H2 LY OY CY LY2
      have BG := Lib.hid (li.grown_below HG.out)
      have l0 : (0 : Int) ≤ (j : Int) := by omega
      have l1 : (j : Int) ≤ (k : Int) := by omega
      have l2 : (j : Int) < (k : Int) := by omega
      have HM := Lib.hid hm
      have hne : ¬ (k = j) := by omega
      have BD := Lib.hid (li.grown_below (HG.out.trans (gr.grown_drew wr none)))
      clear hm
      go_wp2
      go_region_law
        (refine step_copy_splice (by rfl) (.tmp 41) (.tmp 44) 32 32 (by rfl) 4 Try.underlying32 (by kernel_rfl) (some ⟨w.heap.size, j, none⟩) (some ⟨w.heap.size, 0, none⟩) (k - j) (k - j) j k (by go_simp) (by go_simp) w.heap.size j (bools (lay k j y)) 4 HR.out Y1 (LY.out.trans HM.out) (fun h1 => ⟨rfl, _, rfl, CY.out _ HR.out⟩) (by rw [LL.out, LY.out]; omega) OY.out w.heap.size w BD.out (Nat.le_refl _) ?_; intro w2 hg2 hb2; rw [H2.out] at hg2; have HG2 := Lib.hid hg2.out; have HB2 := Lib.hid (below_grown hb2); clear hg2 hb2)
      have wj : IntKind.i64.wrap ((j : Int) + (m : Int)) = ((j + m : Nat) : Int) := by rw [IntKind.wrap_i64]; omega
      simp only [Act.put]
      simp
      rw [wj]
      go_wp2
      go_roundw
      case rel => exact ⟨j + m, by omega, by omega, rfl, HG2.out, HB2.out⟩
      case measure => simp [intOf]; omega
    · obtain rfl : j = k := by omega
      go_wp2
      go_ret
      refine ⟨_, j, _, rfl, by simp, ?_, HG.out⟩
      have hr := HR.out
      rw [lay_all] at hr
      have := Lb.whole (base := w.heap.size) hr (Nat.le_refl _) (by simp [maxLen]; omega)
      simpa using this
end Go.Proofs.Ytgfgchmpdocihaa.lb
