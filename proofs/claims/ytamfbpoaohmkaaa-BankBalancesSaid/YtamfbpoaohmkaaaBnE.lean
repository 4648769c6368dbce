/- The statement's own step. (Printed by wip/tools/genBnE.py.) -/
import Derived.Test.YtamfbpoaohmkaaaBnD
namespace Go.Proofs.Ytamfbpoaohmkaaa.bn
open Go.ChangeShapes Go.WideShapes Go.ChangeAt Go.RowKit gen li gr
set_option linter.unusedVariables false
set_option maxHeartbeats 8000000
set_option maxRecDepth 100000
section
variable {w W W' : World} {g B : Nat} {N r h i o l x n : Int}
theorem Bk.to {h2 i2 o2 l2 : Int} (k : Bk w g N h i o l r) (e0 : h = h2) (e1 : i = i2) (e2 : o = o2) (e3 : l = l2) : Bk w g N h2 i2 o2 l2 r := by subst e0 e1 e2 e3; exact k
theorem step_put (k : Bk w g N h i o l r) (hN : N ≤ 1152921504606846976)  : Calls Try.prog 20 #[.pointer (some ⟨g, 0, none⟩), .agg #[.int .i64 r, .int .i64 h, .int .i64 i, .int .i64 o, .int .i64 l], .agg #[.int .i64 1, .int .i64 n]] w (StA g N r w) := by
  obtain ⟨W0, hW0⟩ : ∃ W0, W0 = (((w.alloc (.cells #[.int .i64 r, .int .i64 h, .int .i64 i, .int .i64 o, .int .i64 l] 25)).alloc (.cells #[.int .i64 1, .int .i64 n] 34)).alloc (.cells #[.int .i64 0, .int .i64 0, .int .i64 0, .int .i64 0, .int .i64 0] 25)) := ⟨_, rfl⟩
  obtain ⟨B, hB⟩ : ∃ B, B = w.heap.size := ⟨_, rfl⟩
  have S0 := Lib.hid (show Sp w g B r h i o l 1 n W0 by rw [hW0, hB]; exact Sp.start w g k.lt _ _ _ _ _ _ _)
  have GG := (show w.grownBy W0 none by rw [hW0]; exact (World.grownBy_alloc _ _ _).trans ((World.grownBy_alloc _ _ _).trans (World.grownBy_alloc _ _ _)))
  have K0 := Lib.hid (k.new GG)
  obtain ⟨e1, o0, h0, hr, r1, l0, il⟩ := k.nu
  have CL := Lib.hid (fun W => Near_any n 0 2147483648 W)
  have PU := Lib.hid (fun W (hg : W0.grownBy W none) => (Put_any (K0.out.new hg) (by omega) n).mono (fun e w' q => (⟨q.1, q.2.1, (S0.out.new hg).row q.2.2⟩ : e = .returned (.int .i64 (kept n h r)) ∧ Bk w' g (N + 2147483648) (h + kept n h r) (i + kept n h r) o (l + (near n 0 2147483648 - kept n h r)) r ∧ Sp w g B r h i o l 1 n w')))
  have n0 := near_lo (n := n) (a := 0) (b := 2147483648) (by omega)
  have n9 := near_hi (n := n) (a := 0) (b := 2147483648) (by omega)
  unfold kept at PU
  generalize near n 0 2147483648 = c at CL PU n0 n9
  obtain ⟨y, hy⟩ : ∃ y, y = r - h := ⟨_, rfl⟩
  rw [← hy] at PU
  have ey : IntKind.i64.wrap (r - h) = y := by rw [IntKind.wrap_i64]; omega
  obtain ⟨q, hq, hc⟩ : ∃ q, min c y = q ∧ ((c < y ∧ q = c) ∨ (c = y ∧ q = c) ∨ (y < c ∧ q = y)) := ⟨_, rfl, by omega⟩
  rw [hq] at PU
  clear hq
  have eh : IntKind.i64.wrap (h + q) = h + q := by rw [IntKind.wrap_i64]; omega
  have ei : IntKind.i64.wrap (i + q) = i + q := by rw [IntKind.wrap_i64]; omega
  have ec : IntKind.i64.wrap (c - q) = c - q := by rw [IntKind.wrap_i64]; omega
  have el : IntKind.i64.wrap (l + (c - q)) = l + (c - q) := by rw [IntKind.wrap_i64]; omega
  have el0 : IntKind.i64.wrap l = l := by rw [IntKind.wrap_i64]; omega
  have el1 : wrap64 l = l := by unfold wrap64; omega
  have el2 : IntKind.i64.wrap (l + IntKind.i64.wrap 0) = l := by rw [IntKind.wrap_i64, IntKind.wrap_i64]; omega
  clear hy e1 o0 h0 hr r1 l0 il hN
  clear GG k
  go_enter Try.func20, Try.ntmps20
  go_upto_region 1 with fail
  rw [← hW0, ← hB]
  clear hW0 hB
  have n1 : ¬ (B + 1 + 1 = B) := by omega
  have n2 : ¬ (B = B + 1 + 1) := by omega
  obtain ⟨b0, b1, b2, b3, b4, p1⟩ := S0.out.f
  have p0 := S0.out.x0
  have f := S0.out.f
  rcases hc with ⟨hc, rfl⟩ | ⟨rfl, rfl⟩ | ⟨hc, rfl⟩
  · go_wp2_with (first
      | (go_at_call 9; (with_reducible refine (CL.out _).mono ?_); rintro e w' ⟨rfl, hw⟩; subst hw))
    go_region_held3 (fun W => W.cell? ⟨B, 0, none⟩ = some (.int .i64 r) ∧ W.cell? ⟨B, 1, none⟩ = some (.int .i64 h) ∧ W.cell? ⟨B, 2, none⟩ = some (.int .i64 i) ∧ W.cell? ⟨B, 3, none⟩ = some (.int .i64 o) ∧ W.cell? ⟨B, 4, none⟩ = some (.int .i64 l) ∧ W.cell? ⟨B + 1, 1, none⟩ = some (.int .i64 n)) (first | with_reducible exact f | with_reducible exact ff | go_keep) (first
      | (go_at_call 11; (with_reducible refine (PU.out _ (by first | exact World.grownBy.refl _ _ | exact grown_drew _ _ | exact li.grown_drewN _ _ _)).mono ?_); rintro e w2 ⟨rfl, hk, hg⟩; have K2 := Lib.hid hk; have S2 := Lib.hid hg; have ff := hg.f; obtain ⟨d0, d1, d2, d3, d4⟩ := hg.rs.f; have z0 := hg.rs.free 0; have z1 := hg.rs.free 1; have z2 := hg.rs.free 2; have z3 := hg.rs.free 3; have z4 := hg.rs.free 4; have lt2 := hg.rs.lt; clear hk hg))
    go_wp2
    refine bodyPost_ret (v := .tuple #[.agg #[.int .i64 r, .int .i64 (h + q), .int .i64 (i + q), .int .i64 (o), .int .i64 (l)], .bool true]) ?_ rfl ?_
    · simp [results, Try.results20, go_sem, *]
    · exact S2.out.fin (K2.out.to (by omega) (by omega) (by omega) (by omega)) (set5 _ _ _ _ _ _ _)
  · go_wp2_with (first
      | (go_at_call 9; (with_reducible refine (CL.out _).mono ?_); rintro e w' ⟨rfl, hw⟩; subst hw))
    go_region_held3 (fun W => W.cell? ⟨B, 0, none⟩ = some (.int .i64 r) ∧ W.cell? ⟨B, 1, none⟩ = some (.int .i64 h) ∧ W.cell? ⟨B, 2, none⟩ = some (.int .i64 i) ∧ W.cell? ⟨B, 3, none⟩ = some (.int .i64 o) ∧ W.cell? ⟨B, 4, none⟩ = some (.int .i64 l) ∧ W.cell? ⟨B + 1, 1, none⟩ = some (.int .i64 n)) (first | with_reducible exact f | with_reducible exact ff | go_keep) (first
      | (go_at_call 11; (with_reducible refine (PU.out _ (by first | exact World.grownBy.refl _ _ | exact grown_drew _ _ | exact li.grown_drewN _ _ _)).mono ?_); rintro e w2 ⟨rfl, hk, hg⟩; have K2 := Lib.hid hk; have S2 := Lib.hid hg; have ff := hg.f; obtain ⟨d0, d1, d2, d3, d4⟩ := hg.rs.f; have z0 := hg.rs.free 0; have z1 := hg.rs.free 1; have z2 := hg.rs.free 2; have z3 := hg.rs.free 3; have z4 := hg.rs.free 4; have lt2 := hg.rs.lt; clear hk hg))
    go_wp2
    refine bodyPost_ret (v := .tuple #[.agg #[.int .i64 r, .int .i64 (h + q), .int .i64 (i + q), .int .i64 (o), .int .i64 (l)], .bool true]) ?_ rfl ?_
    · simp [results, Try.results20, go_sem, *]
    · exact S2.out.fin (K2.out.to (by omega) (by omega) (by omega) (by omega)) (set5 _ _ _ _ _ _ _)
  · go_wp2_with (first
      | (go_at_call 9; (with_reducible refine (CL.out _).mono ?_); rintro e w' ⟨rfl, hw⟩; subst hw))
    go_region_held3 (fun W => W.cell? ⟨B, 0, none⟩ = some (.int .i64 r) ∧ W.cell? ⟨B, 1, none⟩ = some (.int .i64 h) ∧ W.cell? ⟨B, 2, none⟩ = some (.int .i64 i) ∧ W.cell? ⟨B, 3, none⟩ = some (.int .i64 o) ∧ W.cell? ⟨B, 4, none⟩ = some (.int .i64 l) ∧ W.cell? ⟨B + 1, 1, none⟩ = some (.int .i64 n)) (first | with_reducible exact f | with_reducible exact ff | go_keep) (first
      | (go_at_call 11; (with_reducible refine (PU.out _ (by first | exact World.grownBy.refl _ _ | exact grown_drew _ _ | exact li.grown_drewN _ _ _)).mono ?_); rintro e w2 ⟨rfl, hk, hg⟩; have K2 := Lib.hid hk; have S2 := Lib.hid hg; have ff := hg.f; obtain ⟨d0, d1, d2, d3, d4⟩ := hg.rs.f; have z0 := hg.rs.free 0; have z1 := hg.rs.free 1; have z2 := hg.rs.free 2; have z3 := hg.rs.free 3; have z4 := hg.rs.free 4; have lt2 := hg.rs.lt; clear hk hg))
    go_wp2
    refine bodyPost_ret (v := .tuple #[.agg #[.int .i64 r, .int .i64 (h + q), .int .i64 (i + q), .int .i64 (o), .int .i64 (l + (c - q))], .bool true]) ?_ rfl ?_
    · simp [results, Try.results20, go_sem, *]
    · exact S2.out.fin (K2.out.to (by omega) (by omega) (by omega) (by omega)) (set5 _ _ _ _ _ _ _)
theorem step_no (k : Bk w g N h i o l r) (hN : N ≤ 1152921504606846976) (hn : n < 0 ∨ h < n) : Calls Try.prog 20 #[.pointer (some ⟨g, 0, none⟩), .agg #[.int .i64 r, .int .i64 h, .int .i64 i, .int .i64 o, .int .i64 l], .agg #[.int .i64 2, .int .i64 n]] w (StA g N r w) := by
  obtain ⟨W0, hW0⟩ : ∃ W0, W0 = (((w.alloc (.cells #[.int .i64 r, .int .i64 h, .int .i64 i, .int .i64 o, .int .i64 l] 25)).alloc (.cells #[.int .i64 2, .int .i64 n] 34)).alloc (.cells #[.int .i64 0, .int .i64 0, .int .i64 0, .int .i64 0, .int .i64 0] 25)) := ⟨_, rfl⟩
  obtain ⟨B, hB⟩ : ∃ B, B = w.heap.size := ⟨_, rfl⟩
  have S0 := Lib.hid (show Sp w g B r h i o l 2 n W0 by rw [hW0, hB]; exact Sp.start w g k.lt _ _ _ _ _ _ _)
  have GG := (show w.grownBy W0 none by rw [hW0]; exact (World.grownBy_alloc _ _ _).trans ((World.grownBy_alloc _ _ _).trans (World.grownBy_alloc _ _ _)))
  have K0 := Lib.hid (k.new GG)
  obtain ⟨e1, o0, h0, hr, r1, l0, il⟩ := k.nu
  have TN := Lib.hid (fun W (hg : W0.grownBy W none) => (Take_no (K0.out.new hg) n hn).mono (fun e w' q => (⟨q.1, (⟨(K0.out.new (hg.trans q.2)).bo, (K0.out.new hg).nu.more (by omega)⟩ : Bk w' g (N + 2147483648) h i o l r), S0.out.new (hg.trans q.2)⟩ : e = .returned (.bool false) ∧ Bk w' g (N + 2147483648) h i o l r ∧ Sp w g B r h i o l 2 n w')))
  clear e1 o0 h0 hr r1 l0 il hN
  clear GG k
  go_enter Try.func20, Try.ntmps20
  go_upto_region 1 with fail
  rw [← hW0, ← hB]
  clear hW0 hB
  have n1 : ¬ (B + 1 + 1 = B) := by omega
  have n2 : ¬ (B = B + 1 + 1) := by omega
  obtain ⟨b0, b1, b2, b3, b4, p1⟩ := S0.out.f
  have p0 := S0.out.x0
  have f := S0.out.f
  rcases Int.lt_or_le n 0 with h1 | h1
  · have d1 : decide (n < 0) = true := decide_eq_true h1
    clear hn
    go_wp2_with (first
      | fail)
    go_region_held3 (fun W => W.cell? ⟨B, 0, none⟩ = some (.int .i64 r) ∧ W.cell? ⟨B, 1, none⟩ = some (.int .i64 h) ∧ W.cell? ⟨B, 2, none⟩ = some (.int .i64 i) ∧ W.cell? ⟨B, 3, none⟩ = some (.int .i64 o) ∧ W.cell? ⟨B, 4, none⟩ = some (.int .i64 l) ∧ W.cell? ⟨B + 1, 1, none⟩ = some (.int .i64 n)) (first | with_reducible exact f | with_reducible exact ff | go_keep) (first
      | (go_at_call 12; (with_reducible refine (TN.out _ (by first | exact World.grownBy.refl _ _ | exact grown_drew _ _ | exact li.grown_drewN _ _ _)).mono ?_); rintro e w2 ⟨rfl, hk, hg⟩; have K2 := Lib.hid hk; have S2 := Lib.hid hg; have ff := hg.f; obtain ⟨d0, d1, d2, d3, d4⟩ := hg.rs.f; have z0 := hg.rs.free 0; have z1 := hg.rs.free 1; have z2 := hg.rs.free 2; have z3 := hg.rs.free 3; have z4 := hg.rs.free 4; have lt2 := hg.rs.lt; clear hk hg))
    go_wp2
    refine bodyPost_ret (v := .tuple #[.agg #[.int .i64 r, .int .i64 (h), .int .i64 (i), .int .i64 (o), .int .i64 (l)], .bool true]) ?_ rfl ?_
    · simp [results, Try.results20, go_sem, *]
    · exact S2.out.fin (K2.out.to (by omega) (by omega) (by omega) (by omega)) (set5 _ _ _ _ _ _ _)
  · have d1 : decide (n < 0) = false := decide_eq_false (by omega)
    have d2 : decide (h < n) = true := decide_eq_true (by omega)
    clear hn
    go_wp2_with (first
      | fail)
    go_region_held3 (fun W => W.cell? ⟨B, 0, none⟩ = some (.int .i64 r) ∧ W.cell? ⟨B, 1, none⟩ = some (.int .i64 h) ∧ W.cell? ⟨B, 2, none⟩ = some (.int .i64 i) ∧ W.cell? ⟨B, 3, none⟩ = some (.int .i64 o) ∧ W.cell? ⟨B, 4, none⟩ = some (.int .i64 l) ∧ W.cell? ⟨B + 1, 1, none⟩ = some (.int .i64 n)) (first | with_reducible exact f | with_reducible exact ff | go_keep) (first
      | (go_at_call 12; (with_reducible refine (TN.out _ (by first | exact World.grownBy.refl _ _ | exact grown_drew _ _ | exact li.grown_drewN _ _ _)).mono ?_); rintro e w2 ⟨rfl, hk, hg⟩; have K2 := Lib.hid hk; have S2 := Lib.hid hg; have ff := hg.f; obtain ⟨d0, d1, d2, d3, d4⟩ := hg.rs.f; have z0 := hg.rs.free 0; have z1 := hg.rs.free 1; have z2 := hg.rs.free 2; have z3 := hg.rs.free 3; have z4 := hg.rs.free 4; have lt2 := hg.rs.lt; clear hk hg))
    go_wp2
    refine bodyPost_ret (v := .tuple #[.agg #[.int .i64 r, .int .i64 (h), .int .i64 (i), .int .i64 (o), .int .i64 (l)], .bool true]) ?_ rfl ?_
    · simp [results, Try.results20, go_sem, *]
    · exact S2.out.fin (K2.out.to (by omega) (by omega) (by omega) (by omega)) (set5 _ _ _ _ _ _ _)
theorem step_take (k : Bk w g N h i o l r) (hN : N ≤ 1152921504606846976) (n0 : 0 ≤ n) (n9 : n ≤ h) : Calls Try.prog 20 #[.pointer (some ⟨g, 0, none⟩), .agg #[.int .i64 r, .int .i64 h, .int .i64 i, .int .i64 o, .int .i64 l], .agg #[.int .i64 2, .int .i64 n]] w (StA g N r w) := by
  obtain ⟨W0, hW0⟩ : ∃ W0, W0 = (((w.alloc (.cells #[.int .i64 r, .int .i64 h, .int .i64 i, .int .i64 o, .int .i64 l] 25)).alloc (.cells #[.int .i64 2, .int .i64 n] 34)).alloc (.cells #[.int .i64 0, .int .i64 0, .int .i64 0, .int .i64 0, .int .i64 0] 25)) := ⟨_, rfl⟩
  obtain ⟨B, hB⟩ : ∃ B, B = w.heap.size := ⟨_, rfl⟩
  have S0 := Lib.hid (show Sp w g B r h i o l 2 n W0 by rw [hW0, hB]; exact Sp.start w g k.lt _ _ _ _ _ _ _)
  have GG := (show w.grownBy W0 none by rw [hW0]; exact (World.grownBy_alloc _ _ _).trans ((World.grownBy_alloc _ _ _).trans (World.grownBy_alloc _ _ _)))
  have K0 := Lib.hid (k.new GG)
  obtain ⟨e1, o0, h0, hr, r1, l0, il⟩ := k.nu
  have TY := Lib.hid (fun W (hg : W0.grownBy W none) => (Take_yes (K0.out.new hg) (by omega) n n0 n9).mono (fun e w' q => (⟨q.1, (⟨q.2.1.bo, q.2.1.nu.more (by omega)⟩ : Bk w' g (N + 2147483648) (h - n) i (o + n) l r), (S0.out.new hg).row q.2.2⟩ : e = .returned (.bool true) ∧ Bk w' g (N + 2147483648) (h - n) i (o + n) l r ∧ Sp w g B r h i o l 2 n w')))
  have d1 : decide (n < 0) = false := decide_eq_false (by omega)
  have d2 : decide (h < n) = false := decide_eq_false (by omega)
  have eh : IntKind.i64.wrap (h - n) = h - n := by rw [IntKind.wrap_i64]; omega
  have eo : IntKind.i64.wrap (o + n) = o + n := by rw [IntKind.wrap_i64]; omega
  clear e1 o0 h0 hr r1 l0 il hN
  clear GG k
  go_enter Try.func20, Try.ntmps20
  go_upto_region 1 with fail
  rw [← hW0, ← hB]
  clear hW0 hB
  have n1 : ¬ (B + 1 + 1 = B) := by omega
  have n2 : ¬ (B = B + 1 + 1) := by omega
  obtain ⟨b0, b1, b2, b3, b4, p1⟩ := S0.out.f
  have p0 := S0.out.x0
  have f := S0.out.f
  go_wp2_with (first
    | fail)
  go_region_held3 (fun W => W.cell? ⟨B, 0, none⟩ = some (.int .i64 r) ∧ W.cell? ⟨B, 1, none⟩ = some (.int .i64 h) ∧ W.cell? ⟨B, 2, none⟩ = some (.int .i64 i) ∧ W.cell? ⟨B, 3, none⟩ = some (.int .i64 o) ∧ W.cell? ⟨B, 4, none⟩ = some (.int .i64 l) ∧ W.cell? ⟨B + 1, 1, none⟩ = some (.int .i64 n)) (first | with_reducible exact f | with_reducible exact ff | go_keep) (first
    | (go_at_call 12; (with_reducible refine (TY.out _ (by first | exact World.grownBy.refl _ _ | exact grown_drew _ _ | exact li.grown_drewN _ _ _)).mono ?_); rintro e w2 ⟨rfl, hk, hg⟩; have K2 := Lib.hid hk; have S2 := Lib.hid hg; have ff := hg.f; obtain ⟨d0, d1, d2, d3, d4⟩ := hg.rs.f; have z0 := hg.rs.free 0; have z1 := hg.rs.free 1; have z2 := hg.rs.free 2; have z3 := hg.rs.free 3; have z4 := hg.rs.free 4; have lt2 := hg.rs.lt; clear hk hg))
  go_wp2
  refine bodyPost_ret (v := .tuple #[.agg #[.int .i64 r, .int .i64 (h - n), .int .i64 (i), .int .i64 (o + n), .int .i64 (l)], .bool true]) ?_ rfl ?_
  · simp [results, Try.results20, go_sem, *]
  · exact S2.out.fin (K2.out.to (by omega) (by omega) (by omega) (by omega)) (set5 _ _ _ _ _ _ _)
theorem step_else (k : Bk w g N h i o l r) (hN : N ≤ 1152921504606846976) (x1 : (x == 1) = false) (x2 : (x == 2) = false) : Calls Try.prog 20 #[.pointer (some ⟨g, 0, none⟩), .agg #[.int .i64 r, .int .i64 h, .int .i64 i, .int .i64 o, .int .i64 l], .agg #[.int .i64 x, .int .i64 n]] w (StA g N r w) := by
  obtain ⟨W0, hW0⟩ : ∃ W0, W0 = (((w.alloc (.cells #[.int .i64 r, .int .i64 h, .int .i64 i, .int .i64 o, .int .i64 l] 25)).alloc (.cells #[.int .i64 x, .int .i64 n] 34)).alloc (.cells #[.int .i64 0, .int .i64 0, .int .i64 0, .int .i64 0, .int .i64 0] 25)) := ⟨_, rfl⟩
  obtain ⟨B, hB⟩ : ∃ B, B = w.heap.size := ⟨_, rfl⟩
  have S0 := Lib.hid (show Sp w g B r h i o l x n W0 by rw [hW0, hB]; exact Sp.start w g k.lt _ _ _ _ _ _ _)
  have GG := (show w.grownBy W0 none by rw [hW0]; exact (World.grownBy_alloc _ _ _).trans ((World.grownBy_alloc _ _ _).trans (World.grownBy_alloc _ _ _)))
  have K0 := Lib.hid (k.new GG)
  obtain ⟨e1, o0, h0, hr, r1, l0, il⟩ := k.nu
  have CL := Lib.hid (fun W => Near_any n 0 h W)
  have SY := Lib.hid (fun W (hg : W0.grownBy W none) => (Spend_any (K0.out.new hg) (by omega) n).mono (fun e w' q => (⟨q.1, (⟨q.2.1.bo, q.2.1.nu.more (by omega)⟩ : Bk w' g (N + 2147483648) (h - near n 0 h) i (o + near n 0 h) l r), (S0.out.new hg).row q.2.2⟩ : e = .returned (.int .i64 (near n 0 h)) ∧ Bk w' g (N + 2147483648) (h - near n 0 h) i (o + near n 0 h) l r ∧ Sp w g B r h i o l x n w')))
  have n0 := near_lo (n := n) (a := 0) (b := h) (by omega)
  have n9 := near_hi (n := n) (a := 0) (b := h) (by omega)
  generalize near n 0 h = c at CL SY n0 n9
  have eh : IntKind.i64.wrap (h - c) = h - c := by rw [IntKind.wrap_i64]; omega
  have eo : IntKind.i64.wrap (o + c) = o + c := by rw [IntKind.wrap_i64]; omega
  clear e1 o0 h0 hr r1 l0 il hN
  clear GG k
  go_enter Try.func20, Try.ntmps20
  go_upto_region 1 with fail
  rw [← hW0, ← hB]
  clear hW0 hB
  have n1 : ¬ (B + 1 + 1 = B) := by omega
  have n2 : ¬ (B = B + 1 + 1) := by omega
  obtain ⟨b0, b1, b2, b3, b4, p1⟩ := S0.out.f
  have p0 := S0.out.x0
  have f := S0.out.f
  go_wp2_with (first
    | (go_at_call 9; (with_reducible refine (CL.out _).mono ?_); rintro e w' ⟨rfl, hw⟩; subst hw))
  go_region_held3 (fun W => W.cell? ⟨B, 0, none⟩ = some (.int .i64 r) ∧ W.cell? ⟨B, 1, none⟩ = some (.int .i64 h) ∧ W.cell? ⟨B, 2, none⟩ = some (.int .i64 i) ∧ W.cell? ⟨B, 3, none⟩ = some (.int .i64 o) ∧ W.cell? ⟨B, 4, none⟩ = some (.int .i64 l) ∧ W.cell? ⟨B + 1, 1, none⟩ = some (.int .i64 n)) (first | with_reducible exact f | with_reducible exact ff | go_keep) (first
    | (go_at_call 13; (with_reducible refine (SY.out _ (by first | exact World.grownBy.refl _ _ | exact grown_drew _ _ | exact li.grown_drewN _ _ _)).mono ?_); rintro e w2 ⟨rfl, hk, hg⟩; have K2 := Lib.hid hk; have S2 := Lib.hid hg; have ff := hg.f; obtain ⟨d0, d1, d2, d3, d4⟩ := hg.rs.f; have z0 := hg.rs.free 0; have z1 := hg.rs.free 1; have z2 := hg.rs.free 2; have z3 := hg.rs.free 3; have z4 := hg.rs.free 4; have lt2 := hg.rs.lt; clear hk hg))
  go_wp2
  refine bodyPost_ret (v := .tuple #[.agg #[.int .i64 r, .int .i64 (h - c), .int .i64 (i), .int .i64 (o + c), .int .i64 (l)], .bool true]) ?_ rfl ?_
  · simp [results, Try.results20, go_sem, *]
  · exact S2.out.fin (K2.out.to (by omega) (by omega) (by omega) (by omega)) (set5 _ _ _ _ _ _ _)
theorem step_any (k : Bk w g N h i o l r) (hN : N ≤ 1152921504606846976) (x n : Int) : Calls Try.prog 20 #[.pointer (some ⟨g, 0, none⟩), .agg #[.int .i64 r, .int .i64 h, .int .i64 i, .int .i64 o, .int .i64 l], .agg #[.int .i64 x, .int .i64 n]] w (StA g N r w) := by
  by_cases h1 : x = 1
  · subst h1; exact step_put k hN
  by_cases h2 : x = 2
  · subst h2
    by_cases hn : n < 0 ∨ h < n
    · exact step_no k hN hn
    · exact step_take k hN (by omega) (by omega)
  · exact step_else k hN (by simpa using h1) (by simpa using h2)
end
end Go.Proofs.Ytamfbpoaohmkaaa.bn
