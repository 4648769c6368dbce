/- Texts that this claim stands on. -/
import Derived.Test.YtfhebjkoojodiaaDoorPGpE
namespace Go.Proofs.YtfhebjkoojodiaaDoor.gp
open Go.ChangeShapes Go.WideShapes Go.ChangeAt Go.RowKit gen va cd
set_option linter.unusedVariables false
set_option maxHeartbeats 1000000
set_option maxRecDepth 100000
def Ac (z v1 v2 : Int) : Ending := .returned (.agg #[.int .i64 z, .int .i64 v1, .int .i64 v2, .int .i64 0, .int .i64 0])
section
variable {w : World} {K : List Nat} {g : Nat} {cf : Nat → Int} {σ : Gs}
theorem Step_bad (h : Gw w K g cf σ) (k t i f j c n no : Int) {z : Int} (hz : codz σ k t i f j c n = z) (h0 : (z != 0) = true) : Calls Tryd.prog 13 #[.pointer (some ⟨g, 0, none⟩), .agg #[.int .i64 k, .int .i64 t, .int .i64 i, .int .i64 f, .int .i64 j, .int .i64 c, .int .i64 n], .int .i64 no] w
    fun e w' => e = Ac z 0 0 ∧ Gans w K g cf σ w' := by
  obtain ⟨w0, hw0⟩ : ∃ w0, w0 = (w.alloc (.cells #[.int .i64 k, .int .i64 t, .int .i64 i, .int .i64 f, .int .i64 j, .int .i64 c, .int .i64 n] 39)).alloc (.cells #[.int .i64 0, .int .i64 0, .int .i64 0, .int .i64 0, .int .i64 0] 36) := ⟨_, rfl⟩
  have G0 := Lib.hid (show w.grownBy w0 none by rw [hw0]; exact (grown_alloc _ _).trans (grown_alloc _ _))
  have z0 : w0.heap.size = w.heap.size + 2 := by rw [hw0]; simp
  have S0 := Lib.hid (show Sv w0 w.heap.size k t i f j c n by rw [hw0]; exact (Sv.new w 39 k t i f j c n).made (grown_alloc _ _))
  have AZ := Lib.hid (show ∀ j, j < 5 → w0.cell? ⟨w.heap.size + 1, j, none⟩ = some (.int .i64 0) ∧ w0.frozen? ⟨w.heap.size + 1, j, none⟩ = false by
    intro j hj
    rw [hw0]
    have hj' : j = 0 ∨ j = 1 ∨ j = 2 ∨ j = 3 ∨ j = 4 := by omega
    rcases hj' with rfl | rfl | rfl | rfl | rfl <;> simp [go_sem])
  have HW := Lib.hid hw0
  have H := Lib.hid h
  have CA := Lib.hid (fun W (hW : w.grownBy W none) => (show Calls Tryd.prog 25 #[.pointer (some ⟨g, 0, none⟩), .agg #[.int .i64 k, .int .i64 t, .int .i64 i, .int .i64 f, .int .i64 j, .int .i64 c, .int .i64 n]] W fun e w' => e = .returned (.int .i64 z) ∧ W.grownBy w' none from hz ▸ Code_any (h.new hW) k t i f j c n))
  clear h hw0 hz
  go_enter Tryd.func13, Tryd.ntmps13
  go_wp2_with (first
    | (rw [← HW.out]; go_at_call 25; (with_reducible refine (CA.out _ G0.out).mono ?_); rintro e w1 ⟨rfl, hg⟩; have GA := Lib.hid hg; have G1 := Lib.hid (G0.out.trans hg); have S1 := Lib.hid (S0.out.made hg); have AZ1 := Lib.hid (fun q hq => (show w1.cell? ⟨w.heap.size + 1, q, none⟩ = some (.int .i64 0) ∧ w1.frozen? ⟨w.heap.size + 1, q, none⟩ = false from ⟨hg.cell (AZ.out q hq).1 (by simp), gr.Gr.frozen (L := []) (.new hg) (AZ.out q hq).2 (by rw [z0]; simp) (by simp)⟩)); obtain ⟨c0, c1, c2, c3, c4, c5, c6⟩ := S1.out; obtain ⟨a0, f0⟩ := AZ1.out 0 (by omega); obtain ⟨a1, f1⟩ := AZ1.out 1 (by omega); obtain ⟨a2, f2⟩ := AZ1.out 2 (by omega); obtain ⟨a3, f3⟩ := AZ1.out 3 (by omega); obtain ⟨a4, f4⟩ := AZ1.out 4 (by omega); clear hg))
  refine bodyPost_ret (v := .agg #[.int .i64 z, .int .i64 0, .int .i64 0, .int .i64 0, .int .i64 0]) (by simp [results, Tryd.results13, go_sem, a0, a1, a2, a3, a4]) rfl ?_
  exact ⟨rfl, K, H.out.new (li.grown_new G1.out (setA _ _ _ _ _ _ _) (Nat.le_succ _)), .new (li.grown_new G1.out (setA _ _ _ _ _ _ _) (Nat.le_succ _)), fun q hq => .inl hq⟩
theorem Step_noa (h : Gw w K g cf σ) (k t i f j c n no : Int) {z : Int} (hz : codz σ k t i f j c n = z) (h0 : z = 0) (b3 : (k == 3) = true) (hn : (no != 0) = true) : Calls Tryd.prog 13 #[.pointer (some ⟨g, 0, none⟩), .agg #[.int .i64 k, .int .i64 t, .int .i64 i, .int .i64 f, .int .i64 j, .int .i64 c, .int .i64 n], .int .i64 no] w
    fun e w' => e = Ac no 0 0 ∧ Gans w K g cf σ w' := by
  subst h0
  obtain ⟨w0, hw0⟩ : ∃ w0, w0 = (w.alloc (.cells #[.int .i64 k, .int .i64 t, .int .i64 i, .int .i64 f, .int .i64 j, .int .i64 c, .int .i64 n] 39)).alloc (.cells #[.int .i64 0, .int .i64 0, .int .i64 0, .int .i64 0, .int .i64 0] 36) := ⟨_, rfl⟩
  have G0 := Lib.hid (show w.grownBy w0 none by rw [hw0]; exact (grown_alloc _ _).trans (grown_alloc _ _))
  have z0 : w0.heap.size = w.heap.size + 2 := by rw [hw0]; simp
  have S0 := Lib.hid (show Sv w0 w.heap.size k t i f j c n by rw [hw0]; exact (Sv.new w 39 k t i f j c n).made (grown_alloc _ _))
  have AZ := Lib.hid (show ∀ j, j < 5 → w0.cell? ⟨w.heap.size + 1, j, none⟩ = some (.int .i64 0) ∧ w0.frozen? ⟨w.heap.size + 1, j, none⟩ = false by
    intro j hj
    rw [hw0]
    have hj' : j = 0 ∨ j = 1 ∨ j = 2 ∨ j = 3 ∨ j = 4 := by omega
    rcases hj' with rfl | rfl | rfl | rfl | rfl <;> simp [go_sem])
  have HW := Lib.hid hw0
  have H := Lib.hid h
  have CA := Lib.hid (fun W (hW : w.grownBy W none) => (show Calls Tryd.prog 25 #[.pointer (some ⟨g, 0, none⟩), .agg #[.int .i64 k, .int .i64 t, .int .i64 i, .int .i64 f, .int .i64 j, .int .i64 c, .int .i64 n]] W fun e w' => e = .returned (.int .i64 0) ∧ W.grownBy w' none from hz ▸ Code_any (h.new hW) k t i f j c n))
  clear h hw0 hz
  go_enter Tryd.func13, Tryd.ntmps13
  go_wp2_with (first
    | (rw [← HW.out]; go_at_call 25; (with_reducible refine (CA.out _ G0.out).mono ?_); rintro e w1 ⟨rfl, hg⟩; have GA := Lib.hid hg; have G1 := Lib.hid (G0.out.trans hg); have S1 := Lib.hid (S0.out.made hg); have AZ1 := Lib.hid (fun q hq => (show w1.cell? ⟨w.heap.size + 1, q, none⟩ = some (.int .i64 0) ∧ w1.frozen? ⟨w.heap.size + 1, q, none⟩ = false from ⟨hg.cell (AZ.out q hq).1 (by simp), gr.Gr.frozen (L := []) (.new hg) (AZ.out q hq).2 (by rw [z0]; simp) (by simp)⟩)); obtain ⟨c0, c1, c2, c3, c4, c5, c6⟩ := S1.out; obtain ⟨a0, f0⟩ := AZ1.out 0 (by omega); obtain ⟨a1, f1⟩ := AZ1.out 1 (by omega); obtain ⟨a2, f2⟩ := AZ1.out 2 (by omega); obtain ⟨a3, f3⟩ := AZ1.out 3 (by omega); obtain ⟨a4, f4⟩ := AZ1.out 4 (by omega); clear hg))
  refine bodyPost_ret (v := .agg #[.int .i64 no, .int .i64 0, .int .i64 0, .int .i64 0, .int .i64 0]) (by simp [results, Tryd.results13, go_sem, a0, a1, a2, a3, a4]) rfl ?_
  exact ⟨rfl, K, H.out.new (li.grown_new G1.out (setA _ _ _ _ _ _ _) (Nat.le_succ _)), .new (li.grown_new G1.out (setA _ _ _ _ _ _ _) (Nat.le_succ _)), fun q hq => .inl hq⟩
theorem Step_nob (h : Gw w K g cf σ) (k t i f j c n no : Int) {z : Int} (hz : codz σ k t i f j c n = z) (h0 : z = 0) (b3 : (k == 3) = false) (b15 : (k == 15) = true) (hn : (no != 0) = true) : Calls Tryd.prog 13 #[.pointer (some ⟨g, 0, none⟩), .agg #[.int .i64 k, .int .i64 t, .int .i64 i, .int .i64 f, .int .i64 j, .int .i64 c, .int .i64 n], .int .i64 no] w
    fun e w' => e = Ac no 0 0 ∧ Gans w K g cf σ w' := by
  subst h0
  obtain ⟨w0, hw0⟩ : ∃ w0, w0 = (w.alloc (.cells #[.int .i64 k, .int .i64 t, .int .i64 i, .int .i64 f, .int .i64 j, .int .i64 c, .int .i64 n] 39)).alloc (.cells #[.int .i64 0, .int .i64 0, .int .i64 0, .int .i64 0, .int .i64 0] 36) := ⟨_, rfl⟩
  have G0 := Lib.hid (show w.grownBy w0 none by rw [hw0]; exact (grown_alloc _ _).trans (grown_alloc _ _))
  have z0 : w0.heap.size = w.heap.size + 2 := by rw [hw0]; simp
  have S0 := Lib.hid (show Sv w0 w.heap.size k t i f j c n by rw [hw0]; exact (Sv.new w 39 k t i f j c n).made (grown_alloc _ _))
  have AZ := Lib.hid (show ∀ j, j < 5 → w0.cell? ⟨w.heap.size + 1, j, none⟩ = some (.int .i64 0) ∧ w0.frozen? ⟨w.heap.size + 1, j, none⟩ = false by
    intro j hj
    rw [hw0]
    have hj' : j = 0 ∨ j = 1 ∨ j = 2 ∨ j = 3 ∨ j = 4 := by omega
    rcases hj' with rfl | rfl | rfl | rfl | rfl <;> simp [go_sem])
  have HW := Lib.hid hw0
  have H := Lib.hid h
  have CA := Lib.hid (fun W (hW : w.grownBy W none) => (show Calls Tryd.prog 25 #[.pointer (some ⟨g, 0, none⟩), .agg #[.int .i64 k, .int .i64 t, .int .i64 i, .int .i64 f, .int .i64 j, .int .i64 c, .int .i64 n]] W fun e w' => e = .returned (.int .i64 0) ∧ W.grownBy w' none from hz ▸ Code_any (h.new hW) k t i f j c n))
  clear h hw0 hz
  go_enter Tryd.func13, Tryd.ntmps13
  go_wp2_with (first
    | (rw [← HW.out]; go_at_call 25; (with_reducible refine (CA.out _ G0.out).mono ?_); rintro e w1 ⟨rfl, hg⟩; have GA := Lib.hid hg; have G1 := Lib.hid (G0.out.trans hg); have S1 := Lib.hid (S0.out.made hg); have AZ1 := Lib.hid (fun q hq => (show w1.cell? ⟨w.heap.size + 1, q, none⟩ = some (.int .i64 0) ∧ w1.frozen? ⟨w.heap.size + 1, q, none⟩ = false from ⟨hg.cell (AZ.out q hq).1 (by simp), gr.Gr.frozen (L := []) (.new hg) (AZ.out q hq).2 (by rw [z0]; simp) (by simp)⟩)); obtain ⟨c0, c1, c2, c3, c4, c5, c6⟩ := S1.out; obtain ⟨a0, f0⟩ := AZ1.out 0 (by omega); obtain ⟨a1, f1⟩ := AZ1.out 1 (by omega); obtain ⟨a2, f2⟩ := AZ1.out 2 (by omega); obtain ⟨a3, f3⟩ := AZ1.out 3 (by omega); obtain ⟨a4, f4⟩ := AZ1.out 4 (by omega); clear hg))
  refine bodyPost_ret (v := .agg #[.int .i64 no, .int .i64 0, .int .i64 0, .int .i64 0, .int .i64 0]) (by simp [results, Tryd.results13, go_sem, a0, a1, a2, a3, a4]) rfl ?_
  exact ⟨rfl, K, H.out.new (li.grown_new G1.out (setA _ _ _ _ _ _ _) (Nat.le_succ _)), .new (li.grown_new G1.out (setA _ _ _ _ _ _ _) (Nat.le_succ _)), fun q hq => .inl hq⟩
theorem Step_noc (h : Gw w K g cf σ) (k t i f j c n no : Int) {z : Int} (hz : codz σ k t i f j c n = z) (h0 : z = 0) (b3 : (k == 3) = false) (b15 : (k == 15) = false) (b17 : (k == 17) = true) (hn : (no != 0) = true) : Calls Tryd.prog 13 #[.pointer (some ⟨g, 0, none⟩), .agg #[.int .i64 k, .int .i64 t, .int .i64 i, .int .i64 f, .int .i64 j, .int .i64 c, .int .i64 n], .int .i64 no] w
    fun e w' => e = Ac no 0 0 ∧ Gans w K g cf σ w' := by
  subst h0
  obtain ⟨w0, hw0⟩ : ∃ w0, w0 = (w.alloc (.cells #[.int .i64 k, .int .i64 t, .int .i64 i, .int .i64 f, .int .i64 j, .int .i64 c, .int .i64 n] 39)).alloc (.cells #[.int .i64 0, .int .i64 0, .int .i64 0, .int .i64 0, .int .i64 0] 36) := ⟨_, rfl⟩
  have G0 := Lib.hid (show w.grownBy w0 none by rw [hw0]; exact (grown_alloc _ _).trans (grown_alloc _ _))
  have z0 : w0.heap.size = w.heap.size + 2 := by rw [hw0]; simp
  have S0 := Lib.hid (show Sv w0 w.heap.size k t i f j c n by rw [hw0]; exact (Sv.new w 39 k t i f j c n).made (grown_alloc _ _))
  have AZ := Lib.hid (show ∀ j, j < 5 → w0.cell? ⟨w.heap.size + 1, j, none⟩ = some (.int .i64 0) ∧ w0.frozen? ⟨w.heap.size + 1, j, none⟩ = false by
    intro j hj
    rw [hw0]
    have hj' : j = 0 ∨ j = 1 ∨ j = 2 ∨ j = 3 ∨ j = 4 := by omega
    rcases hj' with rfl | rfl | rfl | rfl | rfl <;> simp [go_sem])
  have HW := Lib.hid hw0
  have H := Lib.hid h
  have CA := Lib.hid (fun W (hW : w.grownBy W none) => (show Calls Tryd.prog 25 #[.pointer (some ⟨g, 0, none⟩), .agg #[.int .i64 k, .int .i64 t, .int .i64 i, .int .i64 f, .int .i64 j, .int .i64 c, .int .i64 n]] W fun e w' => e = .returned (.int .i64 0) ∧ W.grownBy w' none from hz ▸ Code_any (h.new hW) k t i f j c n))
  clear h hw0 hz
  go_enter Tryd.func13, Tryd.ntmps13
  go_wp2_with (first
    | (rw [← HW.out]; go_at_call 25; (with_reducible refine (CA.out _ G0.out).mono ?_); rintro e w1 ⟨rfl, hg⟩; have GA := Lib.hid hg; have G1 := Lib.hid (G0.out.trans hg); have S1 := Lib.hid (S0.out.made hg); have AZ1 := Lib.hid (fun q hq => (show w1.cell? ⟨w.heap.size + 1, q, none⟩ = some (.int .i64 0) ∧ w1.frozen? ⟨w.heap.size + 1, q, none⟩ = false from ⟨hg.cell (AZ.out q hq).1 (by simp), gr.Gr.frozen (L := []) (.new hg) (AZ.out q hq).2 (by rw [z0]; simp) (by simp)⟩)); obtain ⟨c0, c1, c2, c3, c4, c5, c6⟩ := S1.out; obtain ⟨a0, f0⟩ := AZ1.out 0 (by omega); obtain ⟨a1, f1⟩ := AZ1.out 1 (by omega); obtain ⟨a2, f2⟩ := AZ1.out 2 (by omega); obtain ⟨a3, f3⟩ := AZ1.out 3 (by omega); obtain ⟨a4, f4⟩ := AZ1.out 4 (by omega); clear hg))
  refine bodyPost_ret (v := .agg #[.int .i64 no, .int .i64 0, .int .i64 0, .int .i64 0, .int .i64 0]) (by simp [results, Tryd.results13, go_sem, a0, a1, a2, a3, a4]) rfl ?_
  exact ⟨rfl, K, H.out.new (li.grown_new G1.out (setA _ _ _ _ _ _ _) (Nat.le_succ _)), .new (li.grown_new G1.out (setA _ _ _ _ _ _ _) (Nat.le_succ _)), fun q hq => .inl hq⟩
theorem Step_doa (h : Gw w K g cf σ) (k : Int) (t i f j : Nat) (c n no : Int) (k1 : 1 ≤ k) (k2 : k ≤ 17) (hM : σ.M < 1000) (hc : cod σ k t i f j c n = 0) {z : Int} (hz : codz σ k t i f j c n = z) (h0 : z = 0) (b3 : (k == 3) = true) (hn : (no != 0) = false) : Calls Tryd.prog 13 #[.pointer (some ⟨g, 0, none⟩), .agg #[.int .i64 k, .int .i64 (t : Int), .int .i64 (i : Int), .int .i64 (f : Int), .int .i64 (j : Int), .int .i64 c, .int .i64 n], .int .i64 no] w
    fun e w' => e = Ac 0 (an σ k t i f j n).1 (an σ k t i f j n).2 ∧ Gans w K g cf (ef σ k t i f j n) w' := by
  subst h0
  have DO := Lib.hid (fun W (hW : w.grownBy W none) => (Do_any (h.new hW) k1 k2 hM hc).mono (fun e w' hh => (⟨hh.1, hh.2⟩ : e = .returned (.agg #[.int .i64 0, .int .i64 (an σ k t i f j n).1, .int .i64 (an σ k t i f j n).2, .int .i64 0, .int .i64 0]) ∧ Gans W K g cf (ef σ k t i f j n) w')))
  have KL := Lib.hid h.lt
  have N1 := Lib.hid (show ∀ q, w.heap.size ≤ q → q ∉ K from fun q hq hm => by have := KL.out q hm; omega)
  generalize an σ k t i f j n = av at DO ⊢
  obtain ⟨v1, v2⟩ := av
  dsimp only at DO ⊢
  obtain ⟨w0, hw0⟩ : ∃ w0, w0 = (w.alloc (.cells #[.int .i64 k, .int .i64 (t : Int), .int .i64 (i : Int), .int .i64 (f : Int), .int .i64 (j : Int), .int .i64 c, .int .i64 n] 39)).alloc (.cells #[.int .i64 0, .int .i64 0, .int .i64 0, .int .i64 0, .int .i64 0] 36) := ⟨_, rfl⟩
  have G0 := Lib.hid (show w.grownBy w0 none by rw [hw0]; exact (grown_alloc _ _).trans (grown_alloc _ _))
  have z0 : w0.heap.size = w.heap.size + 2 := by rw [hw0]; simp
  have S0 := Lib.hid (show Sv w0 w.heap.size k t i f j c n by rw [hw0]; exact (Sv.new w 39 k t i f j c n).made (grown_alloc _ _))
  have AZ := Lib.hid (show ∀ j, j < 5 → w0.cell? ⟨w.heap.size + 1, j, none⟩ = some (.int .i64 0) ∧ w0.frozen? ⟨w.heap.size + 1, j, none⟩ = false by
    intro j hj
    rw [hw0]
    have hj' : j = 0 ∨ j = 1 ∨ j = 2 ∨ j = 3 ∨ j = 4 := by omega
    rcases hj' with rfl | rfl | rfl | rfl | rfl <;> simp [go_sem])
  have HW := Lib.hid hw0
  have H := Lib.hid h
  have CA := Lib.hid (fun W (hW : w.grownBy W none) => (show Calls Tryd.prog 25 #[.pointer (some ⟨g, 0, none⟩), .agg #[.int .i64 k, .int .i64 (t : Int), .int .i64 (i : Int), .int .i64 (f : Int), .int .i64 (j : Int), .int .i64 c, .int .i64 n]] W fun e w' => e = .returned (.int .i64 0) ∧ W.grownBy w' none from hz ▸ Code_any (h.new hW) k t i f j c n))
  clear h hw0 hz
  clear k1 k2
  go_enter Tryd.func13, Tryd.ntmps13
  go_wp2_with (first
    | (rw [← HW.out]; go_at_call 25; (with_reducible refine (CA.out _ G0.out).mono ?_); rintro e w1 ⟨rfl, hg⟩; have GA := Lib.hid hg; have G1 := Lib.hid (G0.out.trans hg); have S1 := Lib.hid (S0.out.made hg); have AZ1 := Lib.hid (fun q hq => (show w1.cell? ⟨w.heap.size + 1, q, none⟩ = some (.int .i64 0) ∧ w1.frozen? ⟨w.heap.size + 1, q, none⟩ = false from ⟨hg.cell (AZ.out q hq).1 (by simp), gr.Gr.frozen (L := []) (.new hg) (AZ.out q hq).2 (by rw [z0]; simp) (by simp)⟩)); obtain ⟨c0, c1, c2, c3, c4, c5, c6⟩ := S1.out; obtain ⟨a0, f0⟩ := AZ1.out 0 (by omega); obtain ⟨a1, f1⟩ := AZ1.out 1 (by omega); obtain ⟨a2, f2⟩ := AZ1.out 2 (by omega); obtain ⟨a3, f3⟩ := AZ1.out 3 (by omega); obtain ⟨a4, f4⟩ := AZ1.out 4 (by omega); clear hg)
    | (go_at_call 26; (with_reducible refine (DO.out _ G1.out).mono ?_); rintro e w2 ⟨rfl, hG⟩; obtain ⟨K2, hK1, hK2, hK3⟩ := hG; have GK := Lib.hid hK2; have AZ2 := Lib.hid (fun q hq => (show w2.cell? ⟨w.heap.size + 1, q, none⟩ = some (.int .i64 0) ∧ w2.frozen? ⟨w.heap.size + 1, q, none⟩ = false from ⟨GK.out.cell (AZ1.out q hq).1 (N1.out _ (Nat.le_succ _)), GK.out.frozen (AZ1.out q hq).2 (by have := GA.out.size; rw [z0] at this; simp; omega) (N1.out _ (Nat.le_succ _))⟩)); clear a0 a1 a2 a3 a4 f0 f1 f2 f3 f4; obtain ⟨a0, f0⟩ := AZ2.out 0 (by omega); obtain ⟨a1, f1⟩ := AZ2.out 1 (by omega); obtain ⟨a2, f2⟩ := AZ2.out 2 (by omega); obtain ⟨a3, f3⟩ := AZ2.out 3 (by omega); obtain ⟨a4, f4⟩ := AZ2.out 4 (by omega)))
  refine bodyPost_ret (v := .agg #[.int .i64 0, .int .i64 v1, .int .i64 v2, .int .i64 0, .int .i64 0]) (by simp [results, Tryd.results13, go_sem, a0, a1, a2, a3, a4]) rfl ?_
  have NE : ∀ k, k ∈ K2 → k ∉ [w.heap.size + 1] := fun k hk hm => by
    rw [List.mem_singleton] at hm
    rcases hK3 k hk with e | e
    · have := KL.out k e; omega
    · have := GA.out.size; rw [z0] at this; omega
  exact ⟨rfl, K2, hK1.gr (.one (setA _ _ _ _ _ _ _) (by simp)) NE, ((gr.Gr.new G1.out).trans GK.out).own (M := [w.heap.size + 1]) (.one (setA _ _ _ _ _ _ _) (by simp)) (fun x hx => .inr (by rw [List.mem_singleton] at hx; omega)), fun k hk => (hK3 k hk).imp id (fun e => by have := G1.out.size; omega)⟩
theorem Step_dob (h : Gw w K g cf σ) (k : Int) (t i f j : Nat) (c n no : Int) (k1 : 1 ≤ k) (k2 : k ≤ 17) (hM : σ.M < 1000) (hc : cod σ k t i f j c n = 0) {z : Int} (hz : codz σ k t i f j c n = z) (h0 : z = 0) (b3 : (k == 3) = false) (b15 : (k == 15) = true) (hn : (no != 0) = false) : Calls Tryd.prog 13 #[.pointer (some ⟨g, 0, none⟩), .agg #[.int .i64 k, .int .i64 (t : Int), .int .i64 (i : Int), .int .i64 (f : Int), .int .i64 (j : Int), .int .i64 c, .int .i64 n], .int .i64 no] w
    fun e w' => e = Ac 0 (an σ k t i f j n).1 (an σ k t i f j n).2 ∧ Gans w K g cf (ef σ k t i f j n) w' := by
  subst h0
  have DO := Lib.hid (fun W (hW : w.grownBy W none) => (Do_any (h.new hW) k1 k2 hM hc).mono (fun e w' hh => (⟨hh.1, hh.2⟩ : e = .returned (.agg #[.int .i64 0, .int .i64 (an σ k t i f j n).1, .int .i64 (an σ k t i f j n).2, .int .i64 0, .int .i64 0]) ∧ Gans W K g cf (ef σ k t i f j n) w')))
  have KL := Lib.hid h.lt
  have N1 := Lib.hid (show ∀ q, w.heap.size ≤ q → q ∉ K from fun q hq hm => by have := KL.out q hm; omega)
  generalize an σ k t i f j n = av at DO ⊢
  obtain ⟨v1, v2⟩ := av
  dsimp only at DO ⊢
  obtain ⟨w0, hw0⟩ : ∃ w0, w0 = (w.alloc (.cells #[.int .i64 k, .int .i64 (t : Int), .int .i64 (i : Int), .int .i64 (f : Int), .int .i64 (j : Int), .int .i64 c, .int .i64 n] 39)).alloc (.cells #[.int .i64 0, .int .i64 0, .int .i64 0, .int .i64 0, .int .i64 0] 36) := ⟨_, rfl⟩
  have G0 := Lib.hid (show w.grownBy w0 none by rw [hw0]; exact (grown_alloc _ _).trans (grown_alloc _ _))
  have z0 : w0.heap.size = w.heap.size + 2 := by rw [hw0]; simp
  have S0 := Lib.hid (show Sv w0 w.heap.size k t i f j c n by rw [hw0]; exact (Sv.new w 39 k t i f j c n).made (grown_alloc _ _))
  have AZ := Lib.hid (show ∀ j, j < 5 → w0.cell? ⟨w.heap.size + 1, j, none⟩ = some (.int .i64 0) ∧ w0.frozen? ⟨w.heap.size + 1, j, none⟩ = false by
    intro j hj
    rw [hw0]
    have hj' : j = 0 ∨ j = 1 ∨ j = 2 ∨ j = 3 ∨ j = 4 := by omega
    rcases hj' with rfl | rfl | rfl | rfl | rfl <;> simp [go_sem])
  have HW := Lib.hid hw0
  have H := Lib.hid h
  have CA := Lib.hid (fun W (hW : w.grownBy W none) => (show Calls Tryd.prog 25 #[.pointer (some ⟨g, 0, none⟩), .agg #[.int .i64 k, .int .i64 (t : Int), .int .i64 (i : Int), .int .i64 (f : Int), .int .i64 (j : Int), .int .i64 c, .int .i64 n]] W fun e w' => e = .returned (.int .i64 0) ∧ W.grownBy w' none from hz ▸ Code_any (h.new hW) k t i f j c n))
  clear h hw0 hz
  clear k1 k2
  go_enter Tryd.func13, Tryd.ntmps13
  go_wp2_with (first
    | (rw [← HW.out]; go_at_call 25; (with_reducible refine (CA.out _ G0.out).mono ?_); rintro e w1 ⟨rfl, hg⟩; have GA := Lib.hid hg; have G1 := Lib.hid (G0.out.trans hg); have S1 := Lib.hid (S0.out.made hg); have AZ1 := Lib.hid (fun q hq => (show w1.cell? ⟨w.heap.size + 1, q, none⟩ = some (.int .i64 0) ∧ w1.frozen? ⟨w.heap.size + 1, q, none⟩ = false from ⟨hg.cell (AZ.out q hq).1 (by simp), gr.Gr.frozen (L := []) (.new hg) (AZ.out q hq).2 (by rw [z0]; simp) (by simp)⟩)); obtain ⟨c0, c1, c2, c3, c4, c5, c6⟩ := S1.out; obtain ⟨a0, f0⟩ := AZ1.out 0 (by omega); obtain ⟨a1, f1⟩ := AZ1.out 1 (by omega); obtain ⟨a2, f2⟩ := AZ1.out 2 (by omega); obtain ⟨a3, f3⟩ := AZ1.out 3 (by omega); obtain ⟨a4, f4⟩ := AZ1.out 4 (by omega); clear hg)
    | (go_at_call 26; (with_reducible refine (DO.out _ G1.out).mono ?_); rintro e w2 ⟨rfl, hG⟩; obtain ⟨K2, hK1, hK2, hK3⟩ := hG; have GK := Lib.hid hK2; have AZ2 := Lib.hid (fun q hq => (show w2.cell? ⟨w.heap.size + 1, q, none⟩ = some (.int .i64 0) ∧ w2.frozen? ⟨w.heap.size + 1, q, none⟩ = false from ⟨GK.out.cell (AZ1.out q hq).1 (N1.out _ (Nat.le_succ _)), GK.out.frozen (AZ1.out q hq).2 (by have := GA.out.size; rw [z0] at this; simp; omega) (N1.out _ (Nat.le_succ _))⟩)); clear a0 a1 a2 a3 a4 f0 f1 f2 f3 f4; obtain ⟨a0, f0⟩ := AZ2.out 0 (by omega); obtain ⟨a1, f1⟩ := AZ2.out 1 (by omega); obtain ⟨a2, f2⟩ := AZ2.out 2 (by omega); obtain ⟨a3, f3⟩ := AZ2.out 3 (by omega); obtain ⟨a4, f4⟩ := AZ2.out 4 (by omega)))
  refine bodyPost_ret (v := .agg #[.int .i64 0, .int .i64 v1, .int .i64 v2, .int .i64 0, .int .i64 0]) (by simp [results, Tryd.results13, go_sem, a0, a1, a2, a3, a4]) rfl ?_
  have NE : ∀ k, k ∈ K2 → k ∉ [w.heap.size + 1] := fun k hk hm => by
    rw [List.mem_singleton] at hm
    rcases hK3 k hk with e | e
    · have := KL.out k e; omega
    · have := GA.out.size; rw [z0] at this; omega
  exact ⟨rfl, K2, hK1.gr (.one (setA _ _ _ _ _ _ _) (by simp)) NE, ((gr.Gr.new G1.out).trans GK.out).own (M := [w.heap.size + 1]) (.one (setA _ _ _ _ _ _ _) (by simp)) (fun x hx => .inr (by rw [List.mem_singleton] at hx; omega)), fun k hk => (hK3 k hk).imp id (fun e => by have := G1.out.size; omega)⟩
theorem Step_doc (h : Gw w K g cf σ) (k : Int) (t i f j : Nat) (c n no : Int) (k1 : 1 ≤ k) (k2 : k ≤ 17) (hM : σ.M < 1000) (hc : cod σ k t i f j c n = 0) {z : Int} (hz : codz σ k t i f j c n = z) (h0 : z = 0) (b3 : (k == 3) = false) (b15 : (k == 15) = false) (b17 : (k == 17) = true) (hn : (no != 0) = false) : Calls Tryd.prog 13 #[.pointer (some ⟨g, 0, none⟩), .agg #[.int .i64 k, .int .i64 (t : Int), .int .i64 (i : Int), .int .i64 (f : Int), .int .i64 (j : Int), .int .i64 c, .int .i64 n], .int .i64 no] w
    fun e w' => e = Ac 0 (an σ k t i f j n).1 (an σ k t i f j n).2 ∧ Gans w K g cf (ef σ k t i f j n) w' := by
  subst h0
  have DO := Lib.hid (fun W (hW : w.grownBy W none) => (Do_any (h.new hW) k1 k2 hM hc).mono (fun e w' hh => (⟨hh.1, hh.2⟩ : e = .returned (.agg #[.int .i64 0, .int .i64 (an σ k t i f j n).1, .int .i64 (an σ k t i f j n).2, .int .i64 0, .int .i64 0]) ∧ Gans W K g cf (ef σ k t i f j n) w')))
  have KL := Lib.hid h.lt
  have N1 := Lib.hid (show ∀ q, w.heap.size ≤ q → q ∉ K from fun q hq hm => by have := KL.out q hm; omega)
  generalize an σ k t i f j n = av at DO ⊢
  obtain ⟨v1, v2⟩ := av
  dsimp only at DO ⊢
  obtain ⟨w0, hw0⟩ : ∃ w0, w0 = (w.alloc (.cells #[.int .i64 k, .int .i64 (t : Int), .int .i64 (i : Int), .int .i64 (f : Int), .int .i64 (j : Int), .int .i64 c, .int .i64 n] 39)).alloc (.cells #[.int .i64 0, .int .i64 0, .int .i64 0, .int .i64 0, .int .i64 0] 36) := ⟨_, rfl⟩
  have G0 := Lib.hid (show w.grownBy w0 none by rw [hw0]; exact (grown_alloc _ _).trans (grown_alloc _ _))
  have z0 : w0.heap.size = w.heap.size + 2 := by rw [hw0]; simp
  have S0 := Lib.hid (show Sv w0 w.heap.size k t i f j c n by rw [hw0]; exact (Sv.new w 39 k t i f j c n).made (grown_alloc _ _))
  have AZ := Lib.hid (show ∀ j, j < 5 → w0.cell? ⟨w.heap.size + 1, j, none⟩ = some (.int .i64 0) ∧ w0.frozen? ⟨w.heap.size + 1, j, none⟩ = false by
    intro j hj
    rw [hw0]
    have hj' : j = 0 ∨ j = 1 ∨ j = 2 ∨ j = 3 ∨ j = 4 := by omega
    rcases hj' with rfl | rfl | rfl | rfl | rfl <;> simp [go_sem])
  have HW := Lib.hid hw0
  have H := Lib.hid h
  have CA := Lib.hid (fun W (hW : w.grownBy W none) => (show Calls Tryd.prog 25 #[.pointer (some ⟨g, 0, none⟩), .agg #[.int .i64 k, .int .i64 (t : Int), .int .i64 (i : Int), .int .i64 (f : Int), .int .i64 (j : Int), .int .i64 c, .int .i64 n]] W fun e w' => e = .returned (.int .i64 0) ∧ W.grownBy w' none from hz ▸ Code_any (h.new hW) k t i f j c n))
  clear h hw0 hz
  clear k1 k2
  go_enter Tryd.func13, Tryd.ntmps13
  go_wp2_with (first
    | (rw [← HW.out]; go_at_call 25; (with_reducible refine (CA.out _ G0.out).mono ?_); rintro e w1 ⟨rfl, hg⟩; have GA := Lib.hid hg; have G1 := Lib.hid (G0.out.trans hg); have S1 := Lib.hid (S0.out.made hg); have AZ1 := Lib.hid (fun q hq => (show w1.cell? ⟨w.heap.size + 1, q, none⟩ = some (.int .i64 0) ∧ w1.frozen? ⟨w.heap.size + 1, q, none⟩ = false from ⟨hg.cell (AZ.out q hq).1 (by simp), gr.Gr.frozen (L := []) (.new hg) (AZ.out q hq).2 (by rw [z0]; simp) (by simp)⟩)); obtain ⟨c0, c1, c2, c3, c4, c5, c6⟩ := S1.out; obtain ⟨a0, f0⟩ := AZ1.out 0 (by omega); obtain ⟨a1, f1⟩ := AZ1.out 1 (by omega); obtain ⟨a2, f2⟩ := AZ1.out 2 (by omega); obtain ⟨a3, f3⟩ := AZ1.out 3 (by omega); obtain ⟨a4, f4⟩ := AZ1.out 4 (by omega); clear hg)
    | (go_at_call 26; (with_reducible refine (DO.out _ G1.out).mono ?_); rintro e w2 ⟨rfl, hG⟩; obtain ⟨K2, hK1, hK2, hK3⟩ := hG; have GK := Lib.hid hK2; have AZ2 := Lib.hid (fun q hq => (show w2.cell? ⟨w.heap.size + 1, q, none⟩ = some (.int .i64 0) ∧ w2.frozen? ⟨w.heap.size + 1, q, none⟩ = false from ⟨GK.out.cell (AZ1.out q hq).1 (N1.out _ (Nat.le_succ _)), GK.out.frozen (AZ1.out q hq).2 (by have := GA.out.size; rw [z0] at this; simp; omega) (N1.out _ (Nat.le_succ _))⟩)); clear a0 a1 a2 a3 a4 f0 f1 f2 f3 f4; obtain ⟨a0, f0⟩ := AZ2.out 0 (by omega); obtain ⟨a1, f1⟩ := AZ2.out 1 (by omega); obtain ⟨a2, f2⟩ := AZ2.out 2 (by omega); obtain ⟨a3, f3⟩ := AZ2.out 3 (by omega); obtain ⟨a4, f4⟩ := AZ2.out 4 (by omega)))
  refine bodyPost_ret (v := .agg #[.int .i64 0, .int .i64 v1, .int .i64 v2, .int .i64 0, .int .i64 0]) (by simp [results, Tryd.results13, go_sem, a0, a1, a2, a3, a4]) rfl ?_
  have NE : ∀ k, k ∈ K2 → k ∉ [w.heap.size + 1] := fun k hk hm => by
    rw [List.mem_singleton] at hm
    rcases hK3 k hk with e | e
    · have := KL.out k e; omega
    · have := GA.out.size; rw [z0] at this; omega
  exact ⟨rfl, K2, hK1.gr (.one (setA _ _ _ _ _ _ _) (by simp)) NE, ((gr.Gr.new G1.out).trans GK.out).own (M := [w.heap.size + 1]) (.one (setA _ _ _ _ _ _ _) (by simp)) (fun x hx => .inr (by rw [List.mem_singleton] at hx; omega)), fun k hk => (hK3 k hk).imp id (fun e => by have := G1.out.size; omega)⟩
theorem Step_dod (h : Gw w K g cf σ) (k : Int) (t i f j : Nat) (c n no : Int) (k1 : 1 ≤ k) (k2 : k ≤ 17) (hM : σ.M < 1000) (hc : cod σ k t i f j c n = 0) {z : Int} (hz : codz σ k t i f j c n = z) (h0 : z = 0) (b3 : (k == 3) = false) (b15 : (k == 15) = false) (b17 : (k == 17) = false)  : Calls Tryd.prog 13 #[.pointer (some ⟨g, 0, none⟩), .agg #[.int .i64 k, .int .i64 (t : Int), .int .i64 (i : Int), .int .i64 (f : Int), .int .i64 (j : Int), .int .i64 c, .int .i64 n], .int .i64 no] w
    fun e w' => e = Ac 0 (an σ k t i f j n).1 (an σ k t i f j n).2 ∧ Gans w K g cf (ef σ k t i f j n) w' := by
  subst h0
  have DO := Lib.hid (fun W (hW : w.grownBy W none) => (Do_any (h.new hW) k1 k2 hM hc).mono (fun e w' hh => (⟨hh.1, hh.2⟩ : e = .returned (.agg #[.int .i64 0, .int .i64 (an σ k t i f j n).1, .int .i64 (an σ k t i f j n).2, .int .i64 0, .int .i64 0]) ∧ Gans W K g cf (ef σ k t i f j n) w')))
  have KL := Lib.hid h.lt
  have N1 := Lib.hid (show ∀ q, w.heap.size ≤ q → q ∉ K from fun q hq hm => by have := KL.out q hm; omega)
  generalize an σ k t i f j n = av at DO ⊢
  obtain ⟨v1, v2⟩ := av
  dsimp only at DO ⊢
  obtain ⟨w0, hw0⟩ : ∃ w0, w0 = (w.alloc (.cells #[.int .i64 k, .int .i64 (t : Int), .int .i64 (i : Int), .int .i64 (f : Int), .int .i64 (j : Int), .int .i64 c, .int .i64 n] 39)).alloc (.cells #[.int .i64 0, .int .i64 0, .int .i64 0, .int .i64 0, .int .i64 0] 36) := ⟨_, rfl⟩
  have G0 := Lib.hid (show w.grownBy w0 none by rw [hw0]; exact (grown_alloc _ _).trans (grown_alloc _ _))
  have z0 : w0.heap.size = w.heap.size + 2 := by rw [hw0]; simp
  have S0 := Lib.hid (show Sv w0 w.heap.size k t i f j c n by rw [hw0]; exact (Sv.new w 39 k t i f j c n).made (grown_alloc _ _))
  have AZ := Lib.hid (show ∀ j, j < 5 → w0.cell? ⟨w.heap.size + 1, j, none⟩ = some (.int .i64 0) ∧ w0.frozen? ⟨w.heap.size + 1, j, none⟩ = false by
    intro j hj
    rw [hw0]
    have hj' : j = 0 ∨ j = 1 ∨ j = 2 ∨ j = 3 ∨ j = 4 := by omega
    rcases hj' with rfl | rfl | rfl | rfl | rfl <;> simp [go_sem])
  have HW := Lib.hid hw0
  have H := Lib.hid h
  have CA := Lib.hid (fun W (hW : w.grownBy W none) => (show Calls Tryd.prog 25 #[.pointer (some ⟨g, 0, none⟩), .agg #[.int .i64 k, .int .i64 (t : Int), .int .i64 (i : Int), .int .i64 (f : Int), .int .i64 (j : Int), .int .i64 c, .int .i64 n]] W fun e w' => e = .returned (.int .i64 0) ∧ W.grownBy w' none from hz ▸ Code_any (h.new hW) k t i f j c n))
  clear h hw0 hz
  clear k1 k2
  go_enter Tryd.func13, Tryd.ntmps13
  go_wp2_with (first
    | (rw [← HW.out]; go_at_call 25; (with_reducible refine (CA.out _ G0.out).mono ?_); rintro e w1 ⟨rfl, hg⟩; have GA := Lib.hid hg; have G1 := Lib.hid (G0.out.trans hg); have S1 := Lib.hid (S0.out.made hg); have AZ1 := Lib.hid (fun q hq => (show w1.cell? ⟨w.heap.size + 1, q, none⟩ = some (.int .i64 0) ∧ w1.frozen? ⟨w.heap.size + 1, q, none⟩ = false from ⟨hg.cell (AZ.out q hq).1 (by simp), gr.Gr.frozen (L := []) (.new hg) (AZ.out q hq).2 (by rw [z0]; simp) (by simp)⟩)); obtain ⟨c0, c1, c2, c3, c4, c5, c6⟩ := S1.out; obtain ⟨a0, f0⟩ := AZ1.out 0 (by omega); obtain ⟨a1, f1⟩ := AZ1.out 1 (by omega); obtain ⟨a2, f2⟩ := AZ1.out 2 (by omega); obtain ⟨a3, f3⟩ := AZ1.out 3 (by omega); obtain ⟨a4, f4⟩ := AZ1.out 4 (by omega); clear hg)
    | (go_at_call 26; (with_reducible refine (DO.out _ G1.out).mono ?_); rintro e w2 ⟨rfl, hG⟩; obtain ⟨K2, hK1, hK2, hK3⟩ := hG; have GK := Lib.hid hK2; have AZ2 := Lib.hid (fun q hq => (show w2.cell? ⟨w.heap.size + 1, q, none⟩ = some (.int .i64 0) ∧ w2.frozen? ⟨w.heap.size + 1, q, none⟩ = false from ⟨GK.out.cell (AZ1.out q hq).1 (N1.out _ (Nat.le_succ _)), GK.out.frozen (AZ1.out q hq).2 (by have := GA.out.size; rw [z0] at this; simp; omega) (N1.out _ (Nat.le_succ _))⟩)); clear a0 a1 a2 a3 a4 f0 f1 f2 f3 f4; obtain ⟨a0, f0⟩ := AZ2.out 0 (by omega); obtain ⟨a1, f1⟩ := AZ2.out 1 (by omega); obtain ⟨a2, f2⟩ := AZ2.out 2 (by omega); obtain ⟨a3, f3⟩ := AZ2.out 3 (by omega); obtain ⟨a4, f4⟩ := AZ2.out 4 (by omega)))
  refine bodyPost_ret (v := .agg #[.int .i64 0, .int .i64 v1, .int .i64 v2, .int .i64 0, .int .i64 0]) (by simp [results, Tryd.results13, go_sem, a0, a1, a2, a3, a4]) rfl ?_
  have NE : ∀ k, k ∈ K2 → k ∉ [w.heap.size + 1] := fun k hk hm => by
    rw [List.mem_singleton] at hm
    rcases hK3 k hk with e | e
    · have := KL.out k e; omega
    · have := GA.out.size; rw [z0] at this; omega
  exact ⟨rfl, K2, hK1.gr (.one (setA _ _ _ _ _ _ _) (by simp)) NE, ((gr.Gr.new G1.out).trans GK.out).own (M := [w.heap.size + 1]) (.one (setA _ _ _ _ _ _ _) (by simp)) (fun x hx => .inr (by rw [List.mem_singleton] at hx; omega)), fun k hk => (hK3 k hk).imp id (fun e => by have := G1.out.size; omega)⟩
def ask (k : Int) : Bool := k == 3 || (k == 15 || k == 17)
def stz (σ : Gs) (k t i f j c n no : Int) : Int := if codz σ k t i f j c n ≠ 0 then codz σ k t i f j c n else if ask k = true then no else 0
def sta (σ : Gs) (k t i f j c n no : Int) : Va := if stz σ k t i f j c n no ≠ 0 then (0, 0) else an σ k t.toNat i.toNat f.toNat j.toNat n
def stg (σ : Gs) (k t i f j c n no : Int) : Gs := if stz σ k t i f j c n no ≠ 0 then σ else ef σ k t.toNat i.toNat f.toNat j.toNat n
theorem codz_0 {k t i f j c n : Int} (h : codz σ k t i f j c n = 0) : chk k [k, t, i, f, j, c] n = 0 ∧ cod σ k t.toNat i.toNat f.toNat j.toNat c n = 0 := by
  unfold codz at h
  by_cases e : chk k [k, t, i, f, j, c] n = 0
  · rw [if_neg (by simpa using e)] at h; exact ⟨e, h⟩
  · rw [if_pos e] at h; exact absurd h e
theorem Step_any (h : Gw w K g cf σ) (k t i f j c n no : Int) (hM : σ.M < 1000) : Calls Tryd.prog 13 #[.pointer (some ⟨g, 0, none⟩), .agg #[.int .i64 k, .int .i64 t, .int .i64 i, .int .i64 f, .int .i64 j, .int .i64 c, .int .i64 n], .int .i64 no] w
    fun e w' => e = Ac (stz σ k t i f j c n no) (sta σ k t i f j c n no).1 (sta σ k t i f j c n no).2 ∧ Gans w K g cf (stg σ k t i f j c n no) w' := by
  by_cases hz : codz σ k t i f j c n = 0
  · have ez : stz σ k t i f j c n no = if ask k = true then no else 0 := by unfold stz; rw [if_neg (by simpa using hz)]
    by_cases hr : ask k = true ∧ no ≠ 0
    · have e : stz σ k t i f j c n no = no := by rw [ez, if_pos hr.1]
      unfold sta stg
      rw [e, if_pos hr.2, if_pos hr.2]
      have hn : (no != 0) = true := by simpa using hr.2
      have ha := hr.1
      cases b3 : k == 3 with
      | true => exact Step_noa h k t i f j c n no hz rfl b3 hn
      | false =>
        cases b15 : k == 15 with
        | true => exact Step_nob h k t i f j c n no hz rfl b3 b15 hn
        | false =>
          cases b17 : k == 17 with
          | true => exact Step_noc h k t i f j c n no hz rfl b3 b15 b17 hn
          | false => unfold ask at ha; rw [b3, b15, b17] at ha; cases ha
    · have e : stz σ k t i f j c n no = 0 := by
        rw [ez]
        by_cases ha : ask k = true
        · rw [if_pos ha]
          exact Classical.byContradiction fun e => hr ⟨ha, e⟩
        · rw [if_neg ha]
      unfold sta stg
      rw [e, if_neg (by simp), if_neg (by simp)]
      obtain ⟨hc, hd⟩ := codz_0 hz
      obtain ⟨k1, k2, ⟨T, rfl, hT⟩, ⟨I, rfl, hI⟩, ⟨F, rfl, hF⟩, ⟨J, rfl, hJ⟩⟩ := fine_nat hc
      simp only [Int.toNat_natCast] at hd ⊢
      cases b3 : k == 3 with
      | true => exact Step_doa h k T I F J c n no k1 k2 hM hd hz rfl b3 (by
          have ha : ask k = true := by unfold ask; rw [b3]; rfl
          have : no = 0 := Classical.byContradiction fun e => hr ⟨ha, e⟩
          rw [this]; rfl)
      | false =>
        cases b15 : k == 15 with
        | true => exact Step_dob h k T I F J c n no k1 k2 hM hd hz rfl b3 b15 (by
            have ha : ask k = true := by unfold ask; rw [b3, b15]; rfl
            have : no = 0 := Classical.byContradiction fun e => hr ⟨ha, e⟩
            rw [this]; rfl)
        | false =>
          cases b17 : k == 17 with
          | true => exact Step_doc h k T I F J c n no k1 k2 hM hd hz rfl b3 b15 b17 (by
              have ha : ask k = true := by unfold ask; rw [b3, b15, b17]; rfl
              have : no = 0 := Classical.byContradiction fun e => hr ⟨ha, e⟩
              rw [this]; rfl)
          | false => exact Step_dod h k T I F J c n no k1 k2 hM hd hz rfl b3 b15 b17
  · have e : stz σ k t i f j c n no = codz σ k t i f j c n := by unfold stz; rw [if_pos hz]
    unfold sta stg
    rw [e, if_pos hz, if_pos hz]
    exact Step_bad h k t i f j c n no rfl (by simpa using hz)
end
end Go.Proofs.YtfhebjkoojodiaaDoor.gp
