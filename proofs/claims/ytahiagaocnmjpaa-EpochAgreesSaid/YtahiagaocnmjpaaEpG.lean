/- The statement's own step, where a thread's number changes; each step. (Printed by wip/tools/genEpG.py.) -/
import Derived.Test.YtahiagaocnmjpaaEpF
namespace Go.Proofs.Ytahiagaocnmjpaa.ep
open Go.ChangeShapes Go.WideShapes Go.ChangeAt Go.RowKit gen li
set_option linter.unusedVariables false
set_option maxHeartbeats 8000000
set_option maxRecDepth 100000
section
variable {w : World} {g : Nat} {e : Nat} {m : List Int} {A : Option Addr} {N c : Nat}
theorem step1_yes (h : Rg w g true e m) (hl : Li w (.slice A N c) m) (hN : N = m.length) (he : e ≤ 1000000) (k : Nat) (hk : k < N) (hy : of m (k : Int) = -1) :
    Calls Try.prog 26 #[.pointer (some ⟨g, 0, none⟩), .agg #[.slice A N c, .int .i64 (e : Int)], .agg #[.int .i64 1, .int .i64 (k : Int)]] w (StA g w e) := by
  have h8 : N ≤ 8 := by rw [hN]; exact h.2.1
  obtain ⟨W0, hW0⟩ : ∃ W0, W0 = (((w.alloc (.cells #[.slice A N c, .int .i64 (e : Int)] 26)).alloc (.cells #[.int .i64 1, .int .i64 (k : Int)] 35)).alloc (.cells #[.slice none 0 0, .int .i64 0] 26)) := ⟨_, rfl⟩
  have S0 := Lib.hid (show Sp w g (.slice A N c) e 1 k W0 by rw [hW0]; exact Sp.start w g h.lt _ _ _ _)
  have GG := (show w.grownBy W0 none by rw [hW0]; exact (World.grownBy_alloc _ _ _).trans ((World.grownBy_alloc _ _ _).trans (World.grownBy_alloc _ _ _)))
  have R0 := Lib.hid (h.new GG)
  have L0 := Lib.hid (hl.new GG)
  have BO := Lib.hid (fun W (hg : W0.grownBy W none) => bof_any ((L0.out.new hg).rd hN) e k (by omega))
  have HN := Lib.hid hN
  have HE := Lib.hid he
  have H8 := Lib.hid h8
  have hkm : k < m.length := by omega
  have ST := Lib.hid (fun W (hg : W0.grownBy W none) => bset_any ((L0.out.new hg).rd hN) e (e : Int) k hk (by omega))
  have YT := Lib.hid (fun W (hW : Rg W g true e m) => Attach_yes hW k hkm hy)
  generalize of m (k : Int) = y at BO hy
  have l1 : (0 : Int) ≤ (k : Int) := by omega
  have l2 : (k : Int) < (N : Int) := by omega
  have k1 : decide ((0 : Int) ≤ (k : Int)) = true := decide_eq_true l1
  have k2 : decide ((k : Int) < (N : Int)) = true := decide_eq_true l2
  have k3 : decide ((0 : Int) ≤ y) = false := decide_eq_false (by omega)
  clear hkm hk
  clear GG h hl hN he
  go_enter Try.func26, Try.ntmps26
  go_wp2
  rw [← hW0]
  clear hW0
  have n1 : ¬ (w.heap.size + 1 + 1 = w.heap.size) := by omega
  have n2 : ¬ (w.heap.size = w.heap.size + 1 + 1) := by omega
  have f0 := S0.out.f
  go_region_held3 (fun W => W.cell? ⟨w.heap.size, 0, none⟩ = some (.slice A N c) ∧ W.cell? ⟨w.heap.size, 1, none⟩ = some (.int .i64 (e : Int)) ∧ W.cell? ⟨w.heap.size + 1, 0, none⟩ = some (.int .i64 1) ∧ W.cell? ⟨w.heap.size + 1, 1, none⟩ = some (.int .i64 (k : Int))) (first | exact f0 | exact f1 | go_keep) (first
    | (go_at_call 33; (with_reducible refine (BO.out _ (by first | exact World.grownBy.refl _ _ | exact (World.grownBy.refl W0 none).trans (grown_drew _ _) | exact (World.grownBy.refl W0 none).trans (li.grown_drewN _ _ _))).mono ?_); rintro r w1 ⟨rfl, hg1⟩; have G1 := Lib.hid ((show W0.grownBy _ none from (by first | exact World.grownBy.refl _ _ | exact (World.grownBy.refl W0 none).trans (grown_drew _ _) | exact (World.grownBy.refl W0 none).trans (li.grown_drewN _ _ _))).trans hg1); have S1 := Lib.hid (S0.out.new G1.out); have R1 := Lib.hid (R0.out.new G1.out); have L1 := Lib.hid (L0.out.new G1.out); have f1 := S1.out.f; obtain ⟨d0, d1, z0, z1, lt1⟩ := S1.out.z; clear hg1))
  obtain ⟨b0, b1, p0, p1⟩ := f1
  have f1 := S1.out.f
  go_wp2
  go_region_held3 (fun W => W.cell? ⟨w.heap.size, 0, none⟩ = some (.slice A N c) ∧ W.cell? ⟨w.heap.size, 1, none⟩ = some (.int .i64 (e : Int)) ∧ W.cell? ⟨w.heap.size + 1, 0, none⟩ = some (.int .i64 1) ∧ W.cell? ⟨w.heap.size + 1, 1, none⟩ = some (.int .i64 (k : Int))) (first | exact f1 | exact f2 | exact f3 | go_keep) (first
    | (have mark := M2; go_at_call 11; (with_reducible refine (YT.out _ (show Rg _ g true e m from by first | exact R2.out | exact R2.out.new (grown_drew _ _) | exact R2.out.drewN _)).mono ?_); rintro r w3 ⟨rfl, hr, hg⟩; have S3 := Lib.hid ((show Sp w g (.slice A N c) e 1 k _ from (by first | exact S2.out | exact (S2.out).drew | exact (S2.out).drewN _)).row hg); have L3 := Lib.hid ((show Li _ (.slice A2 N2 c2) (m.set k (e : Int)) from by first | exact M2.out | exact M2.out.new (grown_drew _ _) | exact M2.out.new (li.grown_drewN _ _ _)).row (show Rg _ g true e m from by first | exact R2.out | exact R2.out.new (grown_drew _ _) | exact R2.out.drewN _) hg); have R3 := Lib.hid hr; have f3 := S3.out.f; obtain ⟨d0, d1, z0, z1, lt3⟩ := S3.out.z; clear hr hg)
    | (go_at_call 34; (with_reducible refine (ST.out _ (by first | exact G1.out | exact G1.out.trans (grown_drew _ _) | exact G1.out.trans (li.grown_drewN _ _ _))).mono ?_); rintro r w2 ⟨A2, N2, c2, hn2, rfl, hl2, hg⟩; have HN2 := Lib.hid hn2; have G2 := Lib.hid ((show W0.grownBy _ none from (by first | exact G1.out | exact G1.out.trans (grown_drew _ _) | exact G1.out.trans (li.grown_drewN _ _ _))).trans hg); have S2 := Lib.hid (S0.out.new G2.out); have R2 := Lib.hid (R0.out.new G2.out); have M2 := Lib.hid hl2; have f2 := S2.out.f; obtain ⟨d0, d1, z0, z1, lt2⟩ := S2.out.z; clear hn2 hl2 hg))
  go_wp2
  refine bodyPost_ret (v := .tuple #[.agg #[.slice A2 N2 c2, .int .i64 (e : Int)], .bool true]) ?_ rfl ?_
  · simp [results, Try.results26, go_sem, *]
  · first | exact S3.out.fin HN2.out (by omega) R3.out L3.out (by first | exact ((grown_set _ _ _ _).trans (grown_set _ _ _ _)).trans (grown_drew _ _) | exact (grown_set _ _ _ _).trans (grown_set _ _ _ _) | exact ((grown_set _ _ _ _).trans (grown_set _ _ _ _)).trans (li.grown_drewN _ _ _)) | exact (S3.out.drewN _).fin HN2.out (by omega) (R3.out.drewN _) (L3.out.new (li.grown_drewN _ _ _)) (by first | exact ((grown_set _ _ _ _).trans (grown_set _ _ _ _)).trans (grown_drew _ _) | exact (grown_set _ _ _ _).trans (grown_set _ _ _ _) | exact ((grown_set _ _ _ _).trans (grown_set _ _ _ _)).trans (li.grown_drewN _ _ _))

theorem step2_yes (h : Rg w g true e m) (hl : Li w (.slice A N c) m) (hN : N = m.length) (he : e ≤ 1000000) (k : Nat) (hk : k < N) (hy : 0 ≤ of m (k : Int)) :
    Calls Try.prog 26 #[.pointer (some ⟨g, 0, none⟩), .agg #[.slice A N c, .int .i64 (e : Int)], .agg #[.int .i64 2, .int .i64 (k : Int)]] w (StA g w e) := by
  have h8 : N ≤ 8 := by rw [hN]; exact h.2.1
  obtain ⟨W0, hW0⟩ : ∃ W0, W0 = (((w.alloc (.cells #[.slice A N c, .int .i64 (e : Int)] 26)).alloc (.cells #[.int .i64 2, .int .i64 (k : Int)] 35)).alloc (.cells #[.slice none 0 0, .int .i64 0] 26)) := ⟨_, rfl⟩
  have S0 := Lib.hid (show Sp w g (.slice A N c) e 2 k W0 by rw [hW0]; exact Sp.start w g h.lt _ _ _ _)
  have GG := (show w.grownBy W0 none by rw [hW0]; exact (World.grownBy_alloc _ _ _).trans ((World.grownBy_alloc _ _ _).trans (World.grownBy_alloc _ _ _)))
  have R0 := Lib.hid (h.new GG)
  have L0 := Lib.hid (hl.new GG)
  have BO := Lib.hid (fun W (hg : W0.grownBy W none) => bof_any ((L0.out.new hg).rd hN) e k (by omega))
  have HN := Lib.hid hN
  have HE := Lib.hid he
  have H8 := Lib.hid h8
  have hkm : k < m.length := by omega
  have ST := Lib.hid (fun W (hg : W0.grownBy W none) => bset_any ((L0.out.new hg).rd hN) e (-1) k hk (by omega))
  have YT := Lib.hid (fun W (hW : Rg W g true e m) => Detach_yes hW k hy)
  generalize of m (k : Int) = y at BO hy
  have l1 : (0 : Int) ≤ (k : Int) := by omega
  have l2 : (k : Int) < (N : Int) := by omega
  have k1 : decide ((0 : Int) ≤ (k : Int)) = true := decide_eq_true l1
  have k2 : decide ((k : Int) < (N : Int)) = true := decide_eq_true l2
  have k3 : decide ((0 : Int) ≤ y) = true := decide_eq_true (by omega)
  clear hkm hk
  clear GG h hl hN he
  go_enter Try.func26, Try.ntmps26
  go_wp2
  rw [← hW0]
  clear hW0
  have n1 : ¬ (w.heap.size + 1 + 1 = w.heap.size) := by omega
  have n2 : ¬ (w.heap.size = w.heap.size + 1 + 1) := by omega
  have f0 := S0.out.f
  go_region_held3 (fun W => W.cell? ⟨w.heap.size, 0, none⟩ = some (.slice A N c) ∧ W.cell? ⟨w.heap.size, 1, none⟩ = some (.int .i64 (e : Int)) ∧ W.cell? ⟨w.heap.size + 1, 0, none⟩ = some (.int .i64 2) ∧ W.cell? ⟨w.heap.size + 1, 1, none⟩ = some (.int .i64 (k : Int))) (first | exact f0 | exact f1 | go_keep) (first
    | (go_at_call 33; (with_reducible refine (BO.out _ (by first | exact World.grownBy.refl _ _ | exact (World.grownBy.refl W0 none).trans (grown_drew _ _) | exact (World.grownBy.refl W0 none).trans (li.grown_drewN _ _ _))).mono ?_); rintro r w1 ⟨rfl, hg1⟩; have G1 := Lib.hid ((show W0.grownBy _ none from (by first | exact World.grownBy.refl _ _ | exact (World.grownBy.refl W0 none).trans (grown_drew _ _) | exact (World.grownBy.refl W0 none).trans (li.grown_drewN _ _ _))).trans hg1); have S1 := Lib.hid (S0.out.new G1.out); have R1 := Lib.hid (R0.out.new G1.out); have L1 := Lib.hid (L0.out.new G1.out); have f1 := S1.out.f; obtain ⟨d0, d1, z0, z1, lt1⟩ := S1.out.z; clear hg1))
  obtain ⟨b0, b1, p0, p1⟩ := f1
  have f1 := S1.out.f
  go_wp2
  go_region_held3 (fun W => W.cell? ⟨w.heap.size, 0, none⟩ = some (.slice A N c) ∧ W.cell? ⟨w.heap.size, 1, none⟩ = some (.int .i64 (e : Int)) ∧ W.cell? ⟨w.heap.size + 1, 0, none⟩ = some (.int .i64 2) ∧ W.cell? ⟨w.heap.size + 1, 1, none⟩ = some (.int .i64 (k : Int))) (first | exact f1 | exact f2 | exact f3 | go_keep) (first
    | (have mark := M2; go_at_call 12; (with_reducible refine (YT.out _ (show Rg _ g true e m from by first | exact R2.out | exact R2.out.new (grown_drew _ _) | exact R2.out.drewN _)).mono ?_); rintro r w3 ⟨rfl, hr, hg⟩; have S3 := Lib.hid ((show Sp w g (.slice A N c) e 2 k _ from (by first | exact S2.out | exact (S2.out).drew | exact (S2.out).drewN _)).row hg); have L3 := Lib.hid ((show Li _ (.slice A2 N2 c2) (m.set k (-1)) from by first | exact M2.out | exact M2.out.new (grown_drew _ _) | exact M2.out.new (li.grown_drewN _ _ _)).row (show Rg _ g true e m from by first | exact R2.out | exact R2.out.new (grown_drew _ _) | exact R2.out.drewN _) hg); have R3 := Lib.hid hr; have f3 := S3.out.f; obtain ⟨d0, d1, z0, z1, lt3⟩ := S3.out.z; clear hr hg)
    | (go_at_call 34; (with_reducible refine (ST.out _ (by first | exact G1.out | exact G1.out.trans (grown_drew _ _) | exact G1.out.trans (li.grown_drewN _ _ _))).mono ?_); rintro r w2 ⟨A2, N2, c2, hn2, rfl, hl2, hg⟩; have HN2 := Lib.hid hn2; have G2 := Lib.hid ((show W0.grownBy _ none from (by first | exact G1.out | exact G1.out.trans (grown_drew _ _) | exact G1.out.trans (li.grown_drewN _ _ _))).trans hg); have S2 := Lib.hid (S0.out.new G2.out); have R2 := Lib.hid (R0.out.new G2.out); have M2 := Lib.hid hl2; have f2 := S2.out.f; obtain ⟨d0, d1, z0, z1, lt2⟩ := S2.out.z; clear hn2 hl2 hg))
  go_wp2
  refine bodyPost_ret (v := .tuple #[.agg #[.slice A2 N2 c2, .int .i64 (e : Int)], .bool true]) ?_ rfl ?_
  · simp [results, Try.results26, go_sem, *]
  · first | exact S3.out.fin HN2.out (by omega) R3.out L3.out (by first | exact ((grown_set _ _ _ _).trans (grown_set _ _ _ _)).trans (grown_drew _ _) | exact (grown_set _ _ _ _).trans (grown_set _ _ _ _) | exact ((grown_set _ _ _ _).trans (grown_set _ _ _ _)).trans (li.grown_drewN _ _ _)) | exact (S3.out.drewN _).fin HN2.out (by omega) (R3.out.drewN _) (L3.out.new (li.grown_drewN _ _ _)) (by first | exact ((grown_set _ _ _ _).trans (grown_set _ _ _ _)).trans (grown_drew _ _) | exact (grown_set _ _ _ _).trans (grown_set _ _ _ _) | exact ((grown_set _ _ _ _).trans (grown_set _ _ _ _)).trans (li.grown_drewN _ _ _))

theorem step4_yes (h : Rg w g true e m) (hl : Li w (.slice A N c) m) (hN : N = m.length) (he : e ≤ 1000000) (k : Nat) (hk : k < N) (hy : 0 ≤ of m (k : Int) ∧ of m (k : Int) < (e : Int)) :
    Calls Try.prog 26 #[.pointer (some ⟨g, 0, none⟩), .agg #[.slice A N c, .int .i64 (e : Int)], .agg #[.int .i64 4, .int .i64 (k : Int)]] w (StA g w e) := by
  have h8 : N ≤ 8 := by rw [hN]; exact h.2.1
  obtain ⟨W0, hW0⟩ : ∃ W0, W0 = (((w.alloc (.cells #[.slice A N c, .int .i64 (e : Int)] 26)).alloc (.cells #[.int .i64 4, .int .i64 (k : Int)] 35)).alloc (.cells #[.slice none 0 0, .int .i64 0] 26)) := ⟨_, rfl⟩
  have S0 := Lib.hid (show Sp w g (.slice A N c) e 4 k W0 by rw [hW0]; exact Sp.start w g h.lt _ _ _ _)
  have GG := (show w.grownBy W0 none by rw [hW0]; exact (World.grownBy_alloc _ _ _).trans ((World.grownBy_alloc _ _ _).trans (World.grownBy_alloc _ _ _)))
  have R0 := Lib.hid (h.new GG)
  have L0 := Lib.hid (hl.new GG)
  have BO := Lib.hid (fun W (hg : W0.grownBy W none) => bof_any ((L0.out.new hg).rd hN) e k (by omega))
  have HN := Lib.hid hN
  have HE := Lib.hid he
  have H8 := Lib.hid h8
  have hkm : k < m.length := by omega
  have ST := Lib.hid (fun W (hg : W0.grownBy W none) => bset_any ((L0.out.new hg).rd hN) e (e : Int) k hk (by omega))
  have YT := Lib.hid (fun W (hW : Rg W g true e m) => Confirm_yes hW k hy.1 hy.2)
  generalize of m (k : Int) = y at BO hy
  have l1 : (0 : Int) ≤ (k : Int) := by omega
  have l2 : (k : Int) < (N : Int) := by omega
  have k1 : decide ((0 : Int) ≤ (k : Int)) = true := decide_eq_true l1
  have k2 : decide ((k : Int) < (N : Int)) = true := decide_eq_true l2
  have k3 : decide ((0 : Int) ≤ y) = true := decide_eq_true (by omega)
  clear hkm hk
  clear GG h hl hN he
  go_enter Try.func26, Try.ntmps26
  go_wp2
  rw [← hW0]
  clear hW0
  have n1 : ¬ (w.heap.size + 1 + 1 = w.heap.size) := by omega
  have n2 : ¬ (w.heap.size = w.heap.size + 1 + 1) := by omega
  have f0 := S0.out.f
  go_region_held3 (fun W => W.cell? ⟨w.heap.size, 0, none⟩ = some (.slice A N c) ∧ W.cell? ⟨w.heap.size, 1, none⟩ = some (.int .i64 (e : Int)) ∧ W.cell? ⟨w.heap.size + 1, 0, none⟩ = some (.int .i64 4) ∧ W.cell? ⟨w.heap.size + 1, 1, none⟩ = some (.int .i64 (k : Int))) (first | exact f0 | exact f1 | go_keep) (first
    | (go_at_call 33; (with_reducible refine (BO.out _ (by first | exact World.grownBy.refl _ _ | exact (World.grownBy.refl W0 none).trans (grown_drew _ _) | exact (World.grownBy.refl W0 none).trans (li.grown_drewN _ _ _))).mono ?_); rintro r w1 ⟨rfl, hg1⟩; have G1 := Lib.hid ((show W0.grownBy _ none from (by first | exact World.grownBy.refl _ _ | exact (World.grownBy.refl W0 none).trans (grown_drew _ _) | exact (World.grownBy.refl W0 none).trans (li.grown_drewN _ _ _))).trans hg1); have S1 := Lib.hid (S0.out.new G1.out); have R1 := Lib.hid (R0.out.new G1.out); have L1 := Lib.hid (L0.out.new G1.out); have f1 := S1.out.f; obtain ⟨d0, d1, z0, z1, lt1⟩ := S1.out.z; clear hg1))
  obtain ⟨b0, b1, p0, p1⟩ := f1
  have f1 := S1.out.f
  go_wp2
  have k4 : (y == (e : Int)) = false := by simp; omega
  go_region_held3 (fun W => W.cell? ⟨w.heap.size, 0, none⟩ = some (.slice A N c) ∧ W.cell? ⟨w.heap.size, 1, none⟩ = some (.int .i64 (e : Int)) ∧ W.cell? ⟨w.heap.size + 1, 0, none⟩ = some (.int .i64 4) ∧ W.cell? ⟨w.heap.size + 1, 1, none⟩ = some (.int .i64 (k : Int))) (first | exact f1 | exact f2 | go_keep) (first
    | (go_at_call 33; (with_reducible refine (BO.out _ (by first | exact G1.out | exact G1.out.trans (grown_drew _ _) | exact G1.out.trans (li.grown_drewN _ _ _))).mono ?_); rintro r w2 ⟨rfl, hg2⟩; have G2 := Lib.hid ((show W0.grownBy _ none from (by first | exact G1.out | exact G1.out.trans (grown_drew _ _) | exact G1.out.trans (li.grown_drewN _ _ _))).trans hg2); have S2 := Lib.hid (S0.out.new G2.out); have R2 := Lib.hid (R0.out.new G2.out); have L2 := Lib.hid (L0.out.new G2.out); have f2 := S2.out.f; obtain ⟨d0, d1, z0, z1, lt2⟩ := S2.out.z; clear hg2))
  obtain ⟨b0, b1, p0, p1⟩ := f2
  have f2 := S2.out.f
  go_wp2
  go_region_held3 (fun W => W.cell? ⟨w.heap.size, 0, none⟩ = some (.slice A N c) ∧ W.cell? ⟨w.heap.size, 1, none⟩ = some (.int .i64 (e : Int)) ∧ W.cell? ⟨w.heap.size + 1, 0, none⟩ = some (.int .i64 4) ∧ W.cell? ⟨w.heap.size + 1, 1, none⟩ = some (.int .i64 (k : Int))) (first | exact f2 | exact f3 | exact f4 | go_keep) (first
    | (have mark := M3; go_at_call 14; (with_reducible refine (YT.out _ (show Rg _ g true e m from by first | exact R3.out | exact R3.out.new (grown_drew _ _) | exact R3.out.drewN _)).mono ?_); rintro r w4 ⟨rfl, hr, hg⟩; have S4 := Lib.hid ((show Sp w g (.slice A N c) e 4 k _ from (by first | exact S3.out | exact (S3.out).drew | exact (S3.out).drewN _)).row hg); have L4 := Lib.hid ((show Li _ (.slice A2 N2 c2) (m.set k (e : Int)) from by first | exact M3.out | exact M3.out.new (grown_drew _ _) | exact M3.out.new (li.grown_drewN _ _ _)).row (show Rg _ g true e m from by first | exact R3.out | exact R3.out.new (grown_drew _ _) | exact R3.out.drewN _) hg); have R4 := Lib.hid hr; have f4 := S4.out.f; obtain ⟨d0, d1, z0, z1, lt4⟩ := S4.out.z; clear hr hg)
    | (go_at_call 34; (with_reducible refine (ST.out _ (by first | exact G2.out | exact G2.out.trans (grown_drew _ _) | exact G2.out.trans (li.grown_drewN _ _ _))).mono ?_); rintro r w3 ⟨A2, N2, c2, hn2, rfl, hl2, hg⟩; have HN2 := Lib.hid hn2; have G3 := Lib.hid ((show W0.grownBy _ none from (by first | exact G2.out | exact G2.out.trans (grown_drew _ _) | exact G2.out.trans (li.grown_drewN _ _ _))).trans hg); have S3 := Lib.hid (S0.out.new G3.out); have R3 := Lib.hid (R0.out.new G3.out); have M3 := Lib.hid hl2; have f3 := S3.out.f; obtain ⟨d0, d1, z0, z1, lt3⟩ := S3.out.z; clear hn2 hl2 hg))
  go_wp2
  refine bodyPost_ret (v := .tuple #[.agg #[.slice A2 N2 c2, .int .i64 (e : Int)], .bool true]) ?_ rfl ?_
  · simp [results, Try.results26, go_sem, *]
  · first | exact S4.out.fin HN2.out (by omega) R4.out L4.out (by first | exact ((grown_set _ _ _ _).trans (grown_set _ _ _ _)).trans (grown_drew _ _) | exact (grown_set _ _ _ _).trans (grown_set _ _ _ _) | exact ((grown_set _ _ _ _).trans (grown_set _ _ _ _)).trans (li.grown_drewN _ _ _)) | exact (S4.out.drewN _).fin HN2.out (by omega) (R4.out.drewN _) (L4.out.new (li.grown_drewN _ _ _)) (by first | exact ((grown_set _ _ _ _).trans (grown_set _ _ _ _)).trans (grown_drew _ _) | exact (grown_set _ _ _ _).trans (grown_set _ _ _ _) | exact ((grown_set _ _ _ _).trans (grown_set _ _ _ _)).trans (li.grown_drewN _ _ _))

theorem step_any (h : Rg w g true e m) (hl : Li w (.slice A N c) m) (hN : N = m.length) (he : e ≤ 1000000) (o t : Int) :
    Calls Try.prog 26 #[.pointer (some ⟨g, 0, none⟩), .agg #[.slice A N c, .int .i64 (e : Int)], .agg #[.int .i64 o, .int .i64 t]] w (StA g w e) := by
  have hr := h.range t
  have kinds : o = 1 ∨ o = 2 ∨ o = 3 ∨ o = 4 ∨ ((o == 1) = false ∧ (o == 2) = false ∧ (o == 3) = false ∧ (o == 4) = false) := by
    by_cases h1 : o = 1
    · exact .inl h1
    by_cases h2 : o = 2
    · exact .inr (.inl h2)
    by_cases h3 : o = 3
    · exact .inr (.inr (.inl h3))
    by_cases h4 : o = 4
    · exact .inr (.inr (.inr (.inl h4)))
    exact .inr (.inr (.inr (.inr ⟨by simpa using h1, by simpa using h2, by simpa using h3, by simpa using h4⟩)))
  by_cases hin : 0 ≤ t ∧ t < (N : Int)
  · obtain ⟨k, rfl⟩ : ∃ k : Nat, t = k := ⟨t.toNat, by omega⟩
    have hk : k < N := by omega
    have hc : ((k : Int) < 0 ∧ of m k < 0 ∧ true = false ∧ decide (0 ≤ of m k) = false) ∨ (0 ≤ (k : Int) ∧ (N : Int) ≤ k ∧ of m k < 0 ∧ true = false ∧ decide (0 ≤ of m k) = false) ∨ (0 ≤ (k : Int) ∧ (k : Int) < (N : Int) ∧ decide (0 ≤ of m k) = decide (0 ≤ of m k) ∧ true = true) := .inr (.inr ⟨hin.1, hin.2, rfl, rfl⟩)
    by_cases hv : 0 ≤ of m k
    · rcases kinds with rfl | rfl | rfl | rfl | ho
      · exact step_no h hl hN he _ _ _ _ hc (.inl ⟨rfl, .inr (decide_eq_true hv)⟩)
      · exact step2_yes h hl hN he k hk hv
      · exact step_no h hl hN he _ _ _ _ hc (.inr (.inr (.inl rfl)))
      · by_cases hb : of m k < (e : Int)
        · exact step4_yes h hl hN he k hk ⟨hv, hb⟩
        · exact step_no h hl hN he _ _ _ _ hc (.inr (.inr (.inr (.inl ⟨rfl, .inr (by omega)⟩))))
      · exact step_no h hl hN he _ _ _ _ hc (.inr (.inr (.inr (.inr ho))))
    · rcases kinds with rfl | rfl | rfl | rfl | ho
      · exact step1_yes h hl hN he k hk (by omega)
      · exact step_no h hl hN he _ _ _ _ hc (.inr (.inl ⟨rfl, decide_eq_false hv⟩))
      · exact step_no h hl hN he _ _ _ _ hc (.inr (.inr (.inl rfl)))
      · exact step_no h hl hN he _ _ _ _ hc (.inr (.inr (.inr (.inl ⟨rfl, .inl (decide_eq_false hv)⟩))))
      · exact step_no h hl hN he _ _ _ _ hc (.inr (.inr (.inr (.inr ho))))
  · have ho := of_out (m := m) (t := t) (by omega)
    have hc : (t < 0 ∧ of m t < 0 ∧ false = false ∧ false = false) ∨ (0 ≤ t ∧ (N : Int) ≤ t ∧ of m t < 0 ∧ false = false ∧ false = false) ∨ (0 ≤ t ∧ t < (N : Int) ∧ decide (0 ≤ of m t) = false ∧ false = true) := by
      by_cases h0 : t < 0
      · exact .inl ⟨h0, by omega, rfl, rfl⟩
      · exact .inr (.inl ⟨by omega, by omega, by omega, rfl, rfl⟩)
    rcases kinds with rfl | rfl | rfl | rfl | hk
    · exact step_no h hl hN he _ _ _ _ hc (.inl ⟨rfl, .inl rfl⟩)
    · exact step_no h hl hN he _ _ _ _ hc (.inr (.inl ⟨rfl, rfl⟩))
    · exact step_no h hl hN he _ _ _ _ hc (.inr (.inr (.inl rfl)))
    · exact step_no h hl hN he _ _ _ _ hc (.inr (.inr (.inr (.inl ⟨rfl, .inl rfl⟩))))
    · exact step_no h hl hN he _ _ _ _ hc (.inr (.inr (.inr (.inr hk))))
end
end Go.Proofs.Ytahiagaocnmjpaa.ep
