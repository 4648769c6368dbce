/- Layer 24: the program reads a step. -/
import Derived.Test.YtnehhplflgcoiaaCdG
namespace Go.Proofs.Ytnehhplflgcoiaa.cd
open Go.ChangeShapes Go.WideShapes Go.ChangeAt Go.RowKit gen yb
set_option linter.unusedVariables false
set_option maxHeartbeats 1000000
set_option maxRecDepth 100000

theorem oc_wrap' (m : List UInt8) (j : Nat) : IntKind.i64.wrap (oc m j) = oc m j := by rw [← wrap64_eq]; exact oc_wrap m j
theorem set7' (w : World) (g : Nat) (v0 v1 v2 v3 v4 v5 v6 : Value) : w.grownBy (((((((w.setCell ⟨g, 0, none⟩ v0).setCell ⟨g, 1, none⟩ v1).setCell ⟨g, 2, none⟩ v2).setCell ⟨g, 3, none⟩ v3).setCell ⟨g, 4, none⟩ v4).setCell ⟨g, 5, none⟩ v5).setCell ⟨g, 6, none⟩ v6) (some g) :=
  ((((((gr.grown_set _ _ _ _).trans (gr.grown_set _ _ _ _)).trans (gr.grown_set _ _ _ _)).trans (gr.grown_set _ _ _ _)).trans (gr.grown_set _ _ _ _)).trans (gr.grown_set _ _ _ _)).trans (gr.grown_set _ _ _ _)
theorem Read_len {w : World} {A : Option Addr} {n c : Nat} (hn : ¬ n = 14) : Calls Try.prog 11 #[.slice A n c] w
    fun e w' => e = .returned (.tuple #[.agg #[.int .i64 0, .int .i64 0, .int .i64 0, .int .i64 0, .int .i64 0, .int .i64 0, .int .i64 0], .int .i64 16]) ∧ w.grownBy w' none := by
  have h1 : ((n : Int) == 14) = false := by simp; omega
  have h2 : ((n : Int) != 14) = true := by simp; omega
  go_enter Try.func11, Try.ntmps11
  go_wp2
  exact bodyPost_ret (v := .tuple #[.agg #[.int .i64 0, .int .i64 0, .int .i64 0, .int .i64 0, .int .i64 0, .int .i64 0, .int .i64 0], .int .i64 16]) (by simp [results, Try.results11, go_sem]) rfl ⟨rfl, grown_alloc _ _⟩
/-- Zeros in a box that may be written. -/
def Zv (w : World) (B : Nat) : Prop := Sv w B 0 0 0 0 0 0 0 ∧ ∀ j, w.frozen? ⟨B, j, none⟩ = false
theorem Zv.made {w w' : World} {B : Nat} (h : Zv w B) (hg : w.grownBy w' none) (hB : B < w.heap.size) : Zv w' B := ⟨h.1.made hg, fun j => by
  have := hg.block B hB (by simp)
  have h2 := h.2 j
  unfold World.frozen? at h2 ⊢
  rw [this]
  exact h2⟩
theorem Zv.new (w : World) (ty : TypeId) : Zv (w.alloc (.cells #[.int .i64 0, .int .i64 0, .int .i64 0, .int .i64 0, .int .i64 0, .int .i64 0, .int .i64 0] ty)) w.heap.size := ⟨Sv.new _ _ _ _ _ _ _ _ _, fun j => by simp [go_sem]⟩
theorem Read_no {w : World} {b off c : Nat} {m : List UInt8} (h : Ry w (some ⟨b, off, none⟩) 14 c m) {z : Int} (hz : chk (oc m 0) [oc m 0, oc m 1, oc m 2, oc m 3, oc m 4, oc m 5] (IntKind.i64.wrap (val (m.drop 6) : Int)) = z) (h0 : (z != 0) = true) : Calls Try.prog 11 #[.slice (some ⟨b, off, none⟩) 14 c] w
    fun e w' => e = .returned (.tuple #[.agg #[.int .i64 0, .int .i64 0, .int .i64 0, .int .i64 0, .int .i64 0, .int .i64 0, .int .i64 0], .int .i64 z]) ∧ w.grownBy w' none := by
  obtain ⟨w1, hw1⟩ : ∃ w1, w1 = w.alloc (.cells #[.int .i64 0, .int .i64 0, .int .i64 0, .int .i64 0, .int .i64 0, .int .i64 0, .int .i64 0] 23) := ⟨_, rfl⟩
  have G1 := Lib.hid (show w.grownBy w1 none by rw [hw1]; exact grown_alloc _ _)
  have R1 := Lib.hid (h.made G1.out)
  have Z1 := Lib.hid (show Zv w1 w.heap.size by rw [hw1]; exact Zv.new _ _)
  have hs1 : w1.heap.size = w.heap.size + 1 := by rw [hw1]; simp
  have HC : 14 ≤ c := h.2.1
  have NB := Lib.hid (fun W (hg : w1.grownBy W none) => number_any ((R1.out.made hg).part (k := 6) (j := 8) (c' := c - 6) (by omega) (by omega) (by have := h.2.2.1; omega)) (by omega))
  have MD := Lib.hid (show (m.drop 6).take 8 = m.drop 6 from List.take_of_length_le (by rw [List.length_drop, h.1]; omega))
  rw [MD.out] at NB
  have HZ := Lib.hid hz
  clear h hz
  generalize IntKind.i64.wrap (val (m.drop 6) : Int) = nn at NB HZ ⊢
  have d0 := cells14 R1.out (j := 0) (by omega)
  have d1 := cells14 R1.out (j := 1) (by omega)
  have d2 := cells14 R1.out (j := 2) (by omega)
  have d3 := cells14 R1.out (j := 3) (by omega)
  have d4 := cells14 R1.out (j := 4) (by omega)
  have d5 := cells14 R1.out (j := 5) (by omega)
  rw [Nat.add_zero] at d0
  have q0 := oc_wrap' m 0
  have q1 := oc_wrap' m 1
  have q2 := oc_wrap' m 2
  have q3 := oc_wrap' m 3
  have q4 := oc_wrap' m 4
  have q5 := oc_wrap' m 5
  have hbl : b < w1.heap.size := World.block_lt_of_cell? w1 _ d0
  have HW := Lib.hid hw1
  clear hw1
  go_enter Try.func11, Try.ntmps11
  go_wp2
  rw [← HW.out]
  have C3 := Lib.hid (fun W3 (hg : ((w1.alloc (.cells #[.int .i64 (oc m 0), .int .i64 (oc m 1), .int .i64 (oc m 2), .int .i64 (oc m 3), .int .i64 (oc m 4), .int .i64 (oc m 5), .int .i64 nn] 23)).drew).grownBy W3 none) => (show w.grownBy W3 none ∧ Zv W3 w.heap.size ∧ Sv W3 (w.heap.size + 1) (oc m 0) (oc m 1) (oc m 2) (oc m 3) (oc m 4) (oc m 5) nn from
    ⟨G1.out.trans ((grown_alloc _ _).trans ((gr.grown_drew _ _).trans hg)), Z1.out.made ((grown_alloc _ _).trans ((gr.grown_drew _ _).trans hg)) (by omega), hs1 ▸ (Sv.new w1 23 _ _ _ _ _ _ _).made ((gr.grown_drew _ _).trans hg)⟩))
  have c6 : ¬ (c = 6) := by omega
  have c14 : (14 : Int) ≤ c := by omega
  have D := Lib.hid (show w1.drew.cell? ⟨b, off, none⟩ = some (.int .u8 (oc m 0)) ∧ w1.drew.cell? ⟨b, off + 1, none⟩ = some (.int .u8 (oc m 1)) ∧ w1.drew.cell? ⟨b, off + 2, none⟩ = some (.int .u8 (oc m 2)) ∧ w1.drew.cell? ⟨b, off + 3, none⟩ = some (.int .u8 (oc m 3)) ∧ w1.drew.cell? ⟨b, off + 4, none⟩ = some (.int .u8 (oc m 4)) ∧ w1.drew.cell? ⟨b, off + 5, none⟩ = some (.int .u8 (oc m 5)) from ⟨d0, d1, d2, d3, d4, d5⟩)
  go_region_held3 (fun W => W.cell? ⟨b, off, none⟩ = some (.int .u8 (oc m 0)) ∧ W.cell? ⟨b, off + 1, none⟩ = some (.int .u8 (oc m 1)) ∧ W.cell? ⟨b, off + 2, none⟩ = some (.int .u8 (oc m 2)) ∧ W.cell? ⟨b, off + 3, none⟩ = some (.int .u8 (oc m 3)) ∧ W.cell? ⟨b, off + 4, none⟩ = some (.int .u8 (oc m 4)) ∧ W.cell? ⟨b, off + 5, none⟩ = some (.int .u8 (oc m 5))) (first | with_reducible exact D.out | go_keep) (first
    | (go_at_call 20; (with_reducible refine (NB.out _ (by first | exact World.grownBy.refl _ _ | exact gr.grown_drew _ _ | exact grown_alloc _ _ | exact (grown_alloc _ _).trans (gr.grown_drew _ _) | exact (gr.grown_drew _ _).trans (grown_alloc _ _))).mono ?_); rintro e w2 ⟨rfl, hw⟩; subst hw))
  all_goals
    clear d0 d1 d2 d3 d4 d5
    go_wp2_with (go_at_call 9; (with_reducible refine (Check_as _ HZ.out).mono ?_); rintro e w3 ⟨rfl, hg⟩; have X3 := Lib.hid (C3.out _ hg); obtain ⟨⟨z0, z1, z2, z3, z4, z5, z6⟩, zf⟩ := X3.out.2.1; have f0 := zf 0; have f1 := zf 1; have f2 := zf 2; have f3 := zf 3; have f4 := zf 4; have f5 := zf 5; have f6 := zf 6; obtain ⟨s0, s1, s2, s3, s4, s5, s6⟩ := X3.out.2.2; clear hg zf)
    exact bodyPost_ret (v := .tuple #[.agg #[.int .i64 0, .int .i64 0, .int .i64 0, .int .i64 0, .int .i64 0, .int .i64 0, .int .i64 0], .int .i64 z]) (by simp [results, Try.results11, go_sem, z0, z1, z2, z3, z4, z5, z6]) rfl ⟨rfl, li.grown_new X3.out.1 (set7' _ _ _ _ _ _ _ _ _) (Nat.le_refl _)⟩
theorem Read_yes {w : World} {b off c : Nat} {m : List UInt8} (h : Ry w (some ⟨b, off, none⟩) 14 c m) (hz : chk (oc m 0) [oc m 0, oc m 1, oc m 2, oc m 3, oc m 4, oc m 5] (IntKind.i64.wrap (val (m.drop 6) : Int)) = 0) : Calls Try.prog 11 #[.slice (some ⟨b, off, none⟩) 14 c] w
    fun e w' => e = .returned (.tuple #[.agg #[.int .i64 (oc m 0), .int .i64 (oc m 1), .int .i64 (oc m 2), .int .i64 (oc m 3), .int .i64 (oc m 4), .int .i64 (oc m 5), .int .i64 (IntKind.i64.wrap (val (m.drop 6) : Int))], .int .i64 0]) ∧ w.grownBy w' none := by
  obtain ⟨w1, hw1⟩ : ∃ w1, w1 = w.alloc (.cells #[.int .i64 0, .int .i64 0, .int .i64 0, .int .i64 0, .int .i64 0, .int .i64 0, .int .i64 0] 23) := ⟨_, rfl⟩
  have G1 := Lib.hid (show w.grownBy w1 none by rw [hw1]; exact grown_alloc _ _)
  have R1 := Lib.hid (h.made G1.out)
  have Z1 := Lib.hid (show Zv w1 w.heap.size by rw [hw1]; exact Zv.new _ _)
  have hs1 : w1.heap.size = w.heap.size + 1 := by rw [hw1]; simp
  have HC : 14 ≤ c := h.2.1
  have NB := Lib.hid (fun W (hg : w1.grownBy W none) => number_any ((R1.out.made hg).part (k := 6) (j := 8) (c' := c - 6) (by omega) (by omega) (by have := h.2.2.1; omega)) (by omega))
  have MD := Lib.hid (show (m.drop 6).take 8 = m.drop 6 from List.take_of_length_le (by rw [List.length_drop, h.1]; omega))
  rw [MD.out] at NB
  have HZ := Lib.hid hz
  clear h hz
  generalize IntKind.i64.wrap (val (m.drop 6) : Int) = nn at NB HZ ⊢
  have d0 := cells14 R1.out (j := 0) (by omega)
  have d1 := cells14 R1.out (j := 1) (by omega)
  have d2 := cells14 R1.out (j := 2) (by omega)
  have d3 := cells14 R1.out (j := 3) (by omega)
  have d4 := cells14 R1.out (j := 4) (by omega)
  have d5 := cells14 R1.out (j := 5) (by omega)
  rw [Nat.add_zero] at d0
  have q0 := oc_wrap' m 0
  have q1 := oc_wrap' m 1
  have q2 := oc_wrap' m 2
  have q3 := oc_wrap' m 3
  have q4 := oc_wrap' m 4
  have q5 := oc_wrap' m 5
  have hbl : b < w1.heap.size := World.block_lt_of_cell? w1 _ d0
  have HW := Lib.hid hw1
  clear hw1
  go_enter Try.func11, Try.ntmps11
  go_wp2
  rw [← HW.out]
  have C3 := Lib.hid (fun W3 (hg : ((w1.alloc (.cells #[.int .i64 (oc m 0), .int .i64 (oc m 1), .int .i64 (oc m 2), .int .i64 (oc m 3), .int .i64 (oc m 4), .int .i64 (oc m 5), .int .i64 nn] 23)).drew).grownBy W3 none) => (show w.grownBy W3 none ∧ Zv W3 w.heap.size ∧ Sv W3 (w.heap.size + 1) (oc m 0) (oc m 1) (oc m 2) (oc m 3) (oc m 4) (oc m 5) nn from
    ⟨G1.out.trans ((grown_alloc _ _).trans ((gr.grown_drew _ _).trans hg)), Z1.out.made ((grown_alloc _ _).trans ((gr.grown_drew _ _).trans hg)) (by omega), hs1 ▸ (Sv.new w1 23 _ _ _ _ _ _ _).made ((gr.grown_drew _ _).trans hg)⟩))
  have c6 : ¬ (c = 6) := by omega
  have c14 : (14 : Int) ≤ c := by omega
  have D := Lib.hid (show w1.drew.cell? ⟨b, off, none⟩ = some (.int .u8 (oc m 0)) ∧ w1.drew.cell? ⟨b, off + 1, none⟩ = some (.int .u8 (oc m 1)) ∧ w1.drew.cell? ⟨b, off + 2, none⟩ = some (.int .u8 (oc m 2)) ∧ w1.drew.cell? ⟨b, off + 3, none⟩ = some (.int .u8 (oc m 3)) ∧ w1.drew.cell? ⟨b, off + 4, none⟩ = some (.int .u8 (oc m 4)) ∧ w1.drew.cell? ⟨b, off + 5, none⟩ = some (.int .u8 (oc m 5)) from ⟨d0, d1, d2, d3, d4, d5⟩)
  go_region_held3 (fun W => W.cell? ⟨b, off, none⟩ = some (.int .u8 (oc m 0)) ∧ W.cell? ⟨b, off + 1, none⟩ = some (.int .u8 (oc m 1)) ∧ W.cell? ⟨b, off + 2, none⟩ = some (.int .u8 (oc m 2)) ∧ W.cell? ⟨b, off + 3, none⟩ = some (.int .u8 (oc m 3)) ∧ W.cell? ⟨b, off + 4, none⟩ = some (.int .u8 (oc m 4)) ∧ W.cell? ⟨b, off + 5, none⟩ = some (.int .u8 (oc m 5))) (first | with_reducible exact D.out | go_keep) (first
    | (go_at_call 20; (with_reducible refine (NB.out _ (by first | exact World.grownBy.refl _ _ | exact gr.grown_drew _ _ | exact grown_alloc _ _ | exact (grown_alloc _ _).trans (gr.grown_drew _ _) | exact (gr.grown_drew _ _).trans (grown_alloc _ _))).mono ?_); rintro e w2 ⟨rfl, hw⟩; subst hw))
  all_goals
    clear d0 d1 d2 d3 d4 d5
    go_wp2_with (go_at_call 9; (with_reducible refine (Check_as _ HZ.out).mono ?_); rintro e w3 ⟨rfl, hg⟩; have X3 := Lib.hid (C3.out _ hg); obtain ⟨⟨z0, z1, z2, z3, z4, z5, z6⟩, zf⟩ := X3.out.2.1; have f0 := zf 0; have f1 := zf 1; have f2 := zf 2; have f3 := zf 3; have f4 := zf 4; have f5 := zf 5; have f6 := zf 6; obtain ⟨s0, s1, s2, s3, s4, s5, s6⟩ := X3.out.2.2; clear hg zf)
    exact bodyPost_ret (v := .tuple #[.agg #[.int .i64 (oc m 0), .int .i64 (oc m 1), .int .i64 (oc m 2), .int .i64 (oc m 3), .int .i64 (oc m 4), .int .i64 (oc m 5), .int .i64 nn], .int .i64 0]) (by simp [results, Try.results11, go_sem, z0, z1, z2, z3, z4, z5, z6]) rfl ⟨rfl, li.grown_new X3.out.1 (set7' _ _ _ _ _ _ _ _ _) (Nat.le_refl _)⟩
end Go.Proofs.Ytnehhplflgcoiaa.cd
