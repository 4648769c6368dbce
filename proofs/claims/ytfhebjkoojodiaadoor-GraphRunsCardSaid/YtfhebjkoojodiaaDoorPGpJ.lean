/- Texts that this claim stands on. -/
import Derived.Test.YtfhebjkoojodiaaDoorPGpI
namespace Go.Proofs.YtfhebjkoojodiaaDoor.gp
open Go.ChangeShapes Go.WideShapes Go.ChangeAt Go.RowKit gen va cd
set_option linter.unusedVariables false
set_option maxHeartbeats 1000000
set_option maxRecDepth 100000
section
variable {w : World} {K : List Nat} {g : Nat} {cf : Nat → Int} {σ : Gs}
theorem Do_4 (h : Gw w K g cf σ) (t : Nat) (i f j c n : Int) (ht : t < σ.N) (live : σ.lv t = true) (hl : (σ.hd t).length < 16) {v1 v2 : Int} (hv : v1 = 2 → 0 ≤ v2 ∧ v2 < σ.M)
    (hp : ∀ W, w.grownBy W none → Calls Tryd.prog 46 #[.pointer (some ⟨g, 0, none⟩), .agg #[.int .i64 4, .int .i64 (t : Int), .int .i64 i, .int .i64 f, .int .i64 j, .int .i64 c, .int .i64 n]] W fun e w' => e = .returned (.agg #[.int .i64 v1, .int .i64 v2]) ∧ W.grownBy w' none) :
    Calls Tryd.prog 26 #[.pointer (some ⟨g, 0, none⟩), .agg #[.int .i64 4, .int .i64 (t : Int), .int .i64 i, .int .i64 f, .int .i64 j, .int .i64 c, .int .i64 n]] w fun e w' => e = Aw v1 v2 ∧ Gans w K g cf { σ with hd := upd σ.hd t (σ.hd t ++ [(v1, v2)]) } w' := by
  obtain ⟨w0, hw0⟩ : ∃ w0, w0 = (w.alloc (.cells #[.int .i64 4, .int .i64 (t : Int), .int .i64 i, .int .i64 f, .int .i64 j, .int .i64 c, .int .i64 n] 39)).alloc (.cells #[.int .i64 0, .int .i64 0, .int .i64 0, .int .i64 0, .int .i64 0] 36) := ⟨_, rfl⟩
  have G0 := Lib.hid (show w.grownBy w0 none by rw [hw0]; exact (grown_alloc _ _).trans (grown_alloc _ _))
  have z0 : w0.heap.size = w.heap.size + 2 := by rw [hw0]; simp
  have S0 := Lib.hid (show Sv w0 w.heap.size 4 t i f j c n by rw [hw0]; exact (Sv.new w 39 4 t i f j c n).made (grown_alloc _ _))
  have AZ := Lib.hid (show ∀ j, j < 5 → w0.cell? ⟨w.heap.size + 1, j, none⟩ = some (.int .i64 0) ∧ w0.frozen? ⟨w.heap.size + 1, j, none⟩ = false by
    intro j hj
    rw [hw0]
    have hj' : j = 0 ∨ j = 1 ∨ j = 2 ∨ j = 3 ∨ j = 4 := by omega
    rcases hj' with rfl | rfl | rfl | rfl | rfl <;> simp [go_sem])
  have HW := Lib.hid hw0
  have H := Lib.hid h
  have HP := Lib.hid hp
  have HO := Lib.hid (fun W (hg : w.grownBy W none) => hold_any (h.new hg) ht v1 v2 hl hv live)
  have D0 := Lib.hid (show w0.drew.cell? ⟨w.heap.size, 0, none⟩ = some (.int .i64 4) ∧ w0.drew.cell? ⟨w.heap.size, 1, none⟩ = some (.int .i64 (t : Int)) ∧ w0.drew.cell? ⟨w.heap.size, 2, none⟩ = some (.int .i64 i) ∧ w0.drew.cell? ⟨w.heap.size, 3, none⟩ = some (.int .i64 f) ∧ w0.drew.cell? ⟨w.heap.size, 4, none⟩ = some (.int .i64 j) ∧ w0.drew.cell? ⟨w.heap.size, 5, none⟩ = some (.int .i64 c) ∧ w0.drew.cell? ⟨w.heap.size, 6, none⟩ = some (.int .i64 n) from S0.out)
  have KL := Lib.hid h.lt
  clear h hp hl live hv hw0
  go_enter Tryd.func26, Tryd.ntmps26
  go_wp2
  rw [← HW.out]
  have GD := Lib.hid (G0.out.trans (gr.grown_drew w0 none))
  go_region_held3 (fun W => W.cell? ⟨w.heap.size, 0, none⟩ = some (.int .i64 4) ∧ W.cell? ⟨w.heap.size, 1, none⟩ = some (.int .i64 (t : Int)) ∧ W.cell? ⟨w.heap.size, 2, none⟩ = some (.int .i64 i) ∧ W.cell? ⟨w.heap.size, 3, none⟩ = some (.int .i64 f) ∧ W.cell? ⟨w.heap.size, 4, none⟩ = some (.int .i64 j) ∧ W.cell? ⟨w.heap.size, 5, none⟩ = some (.int .i64 c) ∧ W.cell? ⟨w.heap.size, 6, none⟩ = some (.int .i64 n)) (first | with_reducible exact D0.out | with_reducible exact D1.out | with_reducible exact D2.out | go_keep) (first
    | (go_at_call 46; (with_reducible refine (HP.out _ GD.out).mono ?_); rintro e w1 ⟨rfl, hg⟩; have G1 := Lib.hid (GD.out.trans hg); have D1 := Lib.hid (show w1.cell? ⟨w.heap.size, 0, none⟩ = some (.int .i64 4) ∧ w1.cell? ⟨w.heap.size, 1, none⟩ = some (.int .i64 (t : Int)) ∧ w1.cell? ⟨w.heap.size, 2, none⟩ = some (.int .i64 i) ∧ w1.cell? ⟨w.heap.size, 3, none⟩ = some (.int .i64 f) ∧ w1.cell? ⟨w.heap.size, 4, none⟩ = some (.int .i64 j) ∧ w1.cell? ⟨w.heap.size, 5, none⟩ = some (.int .i64 c) ∧ w1.cell? ⟨w.heap.size, 6, none⟩ = some (.int .i64 n) from S0.out.made ((gr.grown_drew w0 none).trans hg)); have A1 := Lib.hid ((gr.grown_drew w0 none).trans hg); clear hg)
    | (go_at_call 45; (with_reducible refine (HO.out _ G1.out).mono ?_); rintro e w2 ⟨rfl, hG⟩; have G2 := Lib.hid hG; have N2 := Lib.hid (show ∀ q, w.heap.size ≤ q → q ∉ K from fun q hq hm => by have := KL.out q hm; omega); obtain ⟨K2, hK1, hK2, hK3⟩ := G2.out; have GK := Lib.hid hK2; have D2 := Lib.hid (show w2.cell? ⟨w.heap.size, 0, none⟩ = some (.int .i64 4) ∧ w2.cell? ⟨w.heap.size, 1, none⟩ = some (.int .i64 (t : Int)) ∧ w2.cell? ⟨w.heap.size, 2, none⟩ = some (.int .i64 i) ∧ w2.cell? ⟨w.heap.size, 3, none⟩ = some (.int .i64 f) ∧ w2.cell? ⟨w.heap.size, 4, none⟩ = some (.int .i64 j) ∧ w2.cell? ⟨w.heap.size, 5, none⟩ = some (.int .i64 c) ∧ w2.cell? ⟨w.heap.size, 6, none⟩ = some (.int .i64 n) from ⟨GK.out.cell D1.out.1 (N2.out _ (Nat.le_refl _)), GK.out.cell D1.out.2.1 (N2.out _ (Nat.le_refl _)), GK.out.cell D1.out.2.2.1 (N2.out _ (Nat.le_refl _)), GK.out.cell D1.out.2.2.2.1 (N2.out _ (Nat.le_refl _)), GK.out.cell D1.out.2.2.2.2.1 (N2.out _ (Nat.le_refl _)), GK.out.cell D1.out.2.2.2.2.2.1 (N2.out _ (Nat.le_refl _)), GK.out.cell D1.out.2.2.2.2.2.2 (N2.out _ (Nat.le_refl _))⟩); have AZ2 := Lib.hid (fun j hj => (show w2.cell? ⟨w.heap.size + 1, j, none⟩ = some (.int .i64 0) ∧ w2.frozen? ⟨w.heap.size + 1, j, none⟩ = false from ⟨GK.out.cell (A1.out.cell (AZ.out j hj).1 (by simp)) (N2.out _ (Nat.le_succ _)), GK.out.frozen (gr.Gr.frozen (L := []) (.new A1.out) (AZ.out j hj).2 (by rw [z0]; simp) (by simp)) (by have := A1.out.size; rw [z0] at this; simp; omega) (N2.out _ (Nat.le_succ _))⟩)); obtain ⟨a0, f0⟩ := AZ2.out 0 (by omega); obtain ⟨a1, f1⟩ := AZ2.out 1 (by omega); obtain ⟨a2, f2⟩ := AZ2.out 2 (by omega); obtain ⟨a3, f3⟩ := AZ2.out 3 (by omega); obtain ⟨a4, f4⟩ := AZ2.out 4 (by omega); clear hG hK2))
  go_wp2
  refine bodyPost_ret (v := .agg #[.int .i64 0, .int .i64 v1, .int .i64 v2, .int .i64 0, .int .i64 0]) (by simp [results, Tryd.results26, go_sem, a0, a1, a2, a3, a4]) rfl ⟨rfl, ?_⟩
  have SZ := G1.out.size
  have SA := A1.out.size
  have NE : ∀ k, k ∈ K2 → k ∉ [w.heap.size + 1] := fun k hk hm => by
    rw [List.mem_singleton] at hm
    rcases hK3 k hk with e | e
    · have := KL.out k e; omega
    · rw [z0] at SA; omega
  exact ⟨K2, hK1.gr (.one (setA _ _ _ _ _ _ _) (by simp)) NE, ((gr.Gr.new G1.out).trans GK.out).own (M := [w.heap.size + 1]) (.one (setA _ _ _ _ _ _ _) (by simp)) (fun x hx => .inr (by rw [List.mem_singleton] at hx; omega)), fun k hk => (hK3 k hk).imp id (fun e => by omega)⟩
theorem Do_5 (h : Gw w K g cf σ) (t : Nat) (i f j c n : Int) (ht : t < σ.N) (live : σ.lv t = true) (hl : (σ.hd t).length < 16) {v1 v2 : Int} (hv : v1 = 2 → 0 ≤ v2 ∧ v2 < σ.M)
    (hp : ∀ W, w.grownBy W none → Calls Tryd.prog 46 #[.pointer (some ⟨g, 0, none⟩), .agg #[.int .i64 5, .int .i64 (t : Int), .int .i64 i, .int .i64 f, .int .i64 j, .int .i64 c, .int .i64 n]] W fun e w' => e = .returned (.agg #[.int .i64 v1, .int .i64 v2]) ∧ W.grownBy w' none) :
    Calls Tryd.prog 26 #[.pointer (some ⟨g, 0, none⟩), .agg #[.int .i64 5, .int .i64 (t : Int), .int .i64 i, .int .i64 f, .int .i64 j, .int .i64 c, .int .i64 n]] w fun e w' => e = Aw v1 v2 ∧ Gans w K g cf { σ with hd := upd σ.hd t (σ.hd t ++ [(v1, v2)]) } w' := by
  obtain ⟨w0, hw0⟩ : ∃ w0, w0 = (w.alloc (.cells #[.int .i64 5, .int .i64 (t : Int), .int .i64 i, .int .i64 f, .int .i64 j, .int .i64 c, .int .i64 n] 39)).alloc (.cells #[.int .i64 0, .int .i64 0, .int .i64 0, .int .i64 0, .int .i64 0] 36) := ⟨_, rfl⟩
  have G0 := Lib.hid (show w.grownBy w0 none by rw [hw0]; exact (grown_alloc _ _).trans (grown_alloc _ _))
  have z0 : w0.heap.size = w.heap.size + 2 := by rw [hw0]; simp
  have S0 := Lib.hid (show Sv w0 w.heap.size 5 t i f j c n by rw [hw0]; exact (Sv.new w 39 5 t i f j c n).made (grown_alloc _ _))
  have AZ := Lib.hid (show ∀ j, j < 5 → w0.cell? ⟨w.heap.size + 1, j, none⟩ = some (.int .i64 0) ∧ w0.frozen? ⟨w.heap.size + 1, j, none⟩ = false by
    intro j hj
    rw [hw0]
    have hj' : j = 0 ∨ j = 1 ∨ j = 2 ∨ j = 3 ∨ j = 4 := by omega
    rcases hj' with rfl | rfl | rfl | rfl | rfl <;> simp [go_sem])
  have HW := Lib.hid hw0
  have H := Lib.hid h
  have HP := Lib.hid hp
  have HO := Lib.hid (fun W (hg : w.grownBy W none) => hold_any (h.new hg) ht v1 v2 hl hv live)
  have D0 := Lib.hid (show w0.drew.cell? ⟨w.heap.size, 0, none⟩ = some (.int .i64 5) ∧ w0.drew.cell? ⟨w.heap.size, 1, none⟩ = some (.int .i64 (t : Int)) ∧ w0.drew.cell? ⟨w.heap.size, 2, none⟩ = some (.int .i64 i) ∧ w0.drew.cell? ⟨w.heap.size, 3, none⟩ = some (.int .i64 f) ∧ w0.drew.cell? ⟨w.heap.size, 4, none⟩ = some (.int .i64 j) ∧ w0.drew.cell? ⟨w.heap.size, 5, none⟩ = some (.int .i64 c) ∧ w0.drew.cell? ⟨w.heap.size, 6, none⟩ = some (.int .i64 n) from S0.out)
  have KL := Lib.hid h.lt
  clear h hp hl live hv hw0
  go_enter Tryd.func26, Tryd.ntmps26
  go_wp2
  rw [← HW.out]
  have GD := Lib.hid (G0.out.trans (gr.grown_drew w0 none))
  go_region_held3 (fun W => W.cell? ⟨w.heap.size, 0, none⟩ = some (.int .i64 5) ∧ W.cell? ⟨w.heap.size, 1, none⟩ = some (.int .i64 (t : Int)) ∧ W.cell? ⟨w.heap.size, 2, none⟩ = some (.int .i64 i) ∧ W.cell? ⟨w.heap.size, 3, none⟩ = some (.int .i64 f) ∧ W.cell? ⟨w.heap.size, 4, none⟩ = some (.int .i64 j) ∧ W.cell? ⟨w.heap.size, 5, none⟩ = some (.int .i64 c) ∧ W.cell? ⟨w.heap.size, 6, none⟩ = some (.int .i64 n)) (first | with_reducible exact D0.out | with_reducible exact D1.out | with_reducible exact D2.out | go_keep) (first
    | (go_at_call 46; (with_reducible refine (HP.out _ GD.out).mono ?_); rintro e w1 ⟨rfl, hg⟩; have G1 := Lib.hid (GD.out.trans hg); have D1 := Lib.hid (show w1.cell? ⟨w.heap.size, 0, none⟩ = some (.int .i64 5) ∧ w1.cell? ⟨w.heap.size, 1, none⟩ = some (.int .i64 (t : Int)) ∧ w1.cell? ⟨w.heap.size, 2, none⟩ = some (.int .i64 i) ∧ w1.cell? ⟨w.heap.size, 3, none⟩ = some (.int .i64 f) ∧ w1.cell? ⟨w.heap.size, 4, none⟩ = some (.int .i64 j) ∧ w1.cell? ⟨w.heap.size, 5, none⟩ = some (.int .i64 c) ∧ w1.cell? ⟨w.heap.size, 6, none⟩ = some (.int .i64 n) from S0.out.made ((gr.grown_drew w0 none).trans hg)); have A1 := Lib.hid ((gr.grown_drew w0 none).trans hg); clear hg)
    | (go_at_call 45; (with_reducible refine (HO.out _ G1.out).mono ?_); rintro e w2 ⟨rfl, hG⟩; have G2 := Lib.hid hG; have N2 := Lib.hid (show ∀ q, w.heap.size ≤ q → q ∉ K from fun q hq hm => by have := KL.out q hm; omega); obtain ⟨K2, hK1, hK2, hK3⟩ := G2.out; have GK := Lib.hid hK2; have D2 := Lib.hid (show w2.cell? ⟨w.heap.size, 0, none⟩ = some (.int .i64 5) ∧ w2.cell? ⟨w.heap.size, 1, none⟩ = some (.int .i64 (t : Int)) ∧ w2.cell? ⟨w.heap.size, 2, none⟩ = some (.int .i64 i) ∧ w2.cell? ⟨w.heap.size, 3, none⟩ = some (.int .i64 f) ∧ w2.cell? ⟨w.heap.size, 4, none⟩ = some (.int .i64 j) ∧ w2.cell? ⟨w.heap.size, 5, none⟩ = some (.int .i64 c) ∧ w2.cell? ⟨w.heap.size, 6, none⟩ = some (.int .i64 n) from ⟨GK.out.cell D1.out.1 (N2.out _ (Nat.le_refl _)), GK.out.cell D1.out.2.1 (N2.out _ (Nat.le_refl _)), GK.out.cell D1.out.2.2.1 (N2.out _ (Nat.le_refl _)), GK.out.cell D1.out.2.2.2.1 (N2.out _ (Nat.le_refl _)), GK.out.cell D1.out.2.2.2.2.1 (N2.out _ (Nat.le_refl _)), GK.out.cell D1.out.2.2.2.2.2.1 (N2.out _ (Nat.le_refl _)), GK.out.cell D1.out.2.2.2.2.2.2 (N2.out _ (Nat.le_refl _))⟩); have AZ2 := Lib.hid (fun j hj => (show w2.cell? ⟨w.heap.size + 1, j, none⟩ = some (.int .i64 0) ∧ w2.frozen? ⟨w.heap.size + 1, j, none⟩ = false from ⟨GK.out.cell (A1.out.cell (AZ.out j hj).1 (by simp)) (N2.out _ (Nat.le_succ _)), GK.out.frozen (gr.Gr.frozen (L := []) (.new A1.out) (AZ.out j hj).2 (by rw [z0]; simp) (by simp)) (by have := A1.out.size; rw [z0] at this; simp; omega) (N2.out _ (Nat.le_succ _))⟩)); obtain ⟨a0, f0⟩ := AZ2.out 0 (by omega); obtain ⟨a1, f1⟩ := AZ2.out 1 (by omega); obtain ⟨a2, f2⟩ := AZ2.out 2 (by omega); obtain ⟨a3, f3⟩ := AZ2.out 3 (by omega); obtain ⟨a4, f4⟩ := AZ2.out 4 (by omega); clear hG hK2))
  go_wp2
  refine bodyPost_ret (v := .agg #[.int .i64 0, .int .i64 v1, .int .i64 v2, .int .i64 0, .int .i64 0]) (by simp [results, Tryd.results26, go_sem, a0, a1, a2, a3, a4]) rfl ⟨rfl, ?_⟩
  have SZ := G1.out.size
  have SA := A1.out.size
  have NE : ∀ k, k ∈ K2 → k ∉ [w.heap.size + 1] := fun k hk hm => by
    rw [List.mem_singleton] at hm
    rcases hK3 k hk with e | e
    · have := KL.out k e; omega
    · rw [z0] at SA; omega
  exact ⟨K2, hK1.gr (.one (setA _ _ _ _ _ _ _) (by simp)) NE, ((gr.Gr.new G1.out).trans GK.out).own (M := [w.heap.size + 1]) (.one (setA _ _ _ _ _ _ _) (by simp)) (fun x hx => .inr (by rw [List.mem_singleton] at hx; omega)), fun k hk => (hK3 k hk).imp id (fun e => by omega)⟩
theorem Do_6 (h : Gw w K g cf σ) (t : Nat) (i f j c n : Int) (ht : t < σ.N) (live : σ.lv t = true) (hl : (σ.hd t).length < 16) {v1 v2 : Int} (hv : v1 = 2 → 0 ≤ v2 ∧ v2 < σ.M)
    (hp : ∀ W, w.grownBy W none → Calls Tryd.prog 46 #[.pointer (some ⟨g, 0, none⟩), .agg #[.int .i64 6, .int .i64 (t : Int), .int .i64 i, .int .i64 f, .int .i64 j, .int .i64 c, .int .i64 n]] W fun e w' => e = .returned (.agg #[.int .i64 v1, .int .i64 v2]) ∧ W.grownBy w' none) :
    Calls Tryd.prog 26 #[.pointer (some ⟨g, 0, none⟩), .agg #[.int .i64 6, .int .i64 (t : Int), .int .i64 i, .int .i64 f, .int .i64 j, .int .i64 c, .int .i64 n]] w fun e w' => e = Aw v1 v2 ∧ Gans w K g cf { σ with hd := upd σ.hd t (σ.hd t ++ [(v1, v2)]) } w' := by
  obtain ⟨w0, hw0⟩ : ∃ w0, w0 = (w.alloc (.cells #[.int .i64 6, .int .i64 (t : Int), .int .i64 i, .int .i64 f, .int .i64 j, .int .i64 c, .int .i64 n] 39)).alloc (.cells #[.int .i64 0, .int .i64 0, .int .i64 0, .int .i64 0, .int .i64 0] 36) := ⟨_, rfl⟩
  have G0 := Lib.hid (show w.grownBy w0 none by rw [hw0]; exact (grown_alloc _ _).trans (grown_alloc _ _))
  have z0 : w0.heap.size = w.heap.size + 2 := by rw [hw0]; simp
  have S0 := Lib.hid (show Sv w0 w.heap.size 6 t i f j c n by rw [hw0]; exact (Sv.new w 39 6 t i f j c n).made (grown_alloc _ _))
  have AZ := Lib.hid (show ∀ j, j < 5 → w0.cell? ⟨w.heap.size + 1, j, none⟩ = some (.int .i64 0) ∧ w0.frozen? ⟨w.heap.size + 1, j, none⟩ = false by
    intro j hj
    rw [hw0]
    have hj' : j = 0 ∨ j = 1 ∨ j = 2 ∨ j = 3 ∨ j = 4 := by omega
    rcases hj' with rfl | rfl | rfl | rfl | rfl <;> simp [go_sem])
  have HW := Lib.hid hw0
  have H := Lib.hid h
  have HP := Lib.hid hp
  have HO := Lib.hid (fun W (hg : w.grownBy W none) => hold_any (h.new hg) ht v1 v2 hl hv live)
  have D0 := Lib.hid (show w0.drew.cell? ⟨w.heap.size, 0, none⟩ = some (.int .i64 6) ∧ w0.drew.cell? ⟨w.heap.size, 1, none⟩ = some (.int .i64 (t : Int)) ∧ w0.drew.cell? ⟨w.heap.size, 2, none⟩ = some (.int .i64 i) ∧ w0.drew.cell? ⟨w.heap.size, 3, none⟩ = some (.int .i64 f) ∧ w0.drew.cell? ⟨w.heap.size, 4, none⟩ = some (.int .i64 j) ∧ w0.drew.cell? ⟨w.heap.size, 5, none⟩ = some (.int .i64 c) ∧ w0.drew.cell? ⟨w.heap.size, 6, none⟩ = some (.int .i64 n) from S0.out)
  have KL := Lib.hid h.lt
  clear h hp hl live hv hw0
  go_enter Tryd.func26, Tryd.ntmps26
  go_wp2
  rw [← HW.out]
  have GD := Lib.hid (G0.out.trans (gr.grown_drew w0 none))
  go_region_held3 (fun W => W.cell? ⟨w.heap.size, 0, none⟩ = some (.int .i64 6) ∧ W.cell? ⟨w.heap.size, 1, none⟩ = some (.int .i64 (t : Int)) ∧ W.cell? ⟨w.heap.size, 2, none⟩ = some (.int .i64 i) ∧ W.cell? ⟨w.heap.size, 3, none⟩ = some (.int .i64 f) ∧ W.cell? ⟨w.heap.size, 4, none⟩ = some (.int .i64 j) ∧ W.cell? ⟨w.heap.size, 5, none⟩ = some (.int .i64 c) ∧ W.cell? ⟨w.heap.size, 6, none⟩ = some (.int .i64 n)) (first | with_reducible exact D0.out | with_reducible exact D1.out | with_reducible exact D2.out | go_keep) (first
    | (go_at_call 46; (with_reducible refine (HP.out _ GD.out).mono ?_); rintro e w1 ⟨rfl, hg⟩; have G1 := Lib.hid (GD.out.trans hg); have D1 := Lib.hid (show w1.cell? ⟨w.heap.size, 0, none⟩ = some (.int .i64 6) ∧ w1.cell? ⟨w.heap.size, 1, none⟩ = some (.int .i64 (t : Int)) ∧ w1.cell? ⟨w.heap.size, 2, none⟩ = some (.int .i64 i) ∧ w1.cell? ⟨w.heap.size, 3, none⟩ = some (.int .i64 f) ∧ w1.cell? ⟨w.heap.size, 4, none⟩ = some (.int .i64 j) ∧ w1.cell? ⟨w.heap.size, 5, none⟩ = some (.int .i64 c) ∧ w1.cell? ⟨w.heap.size, 6, none⟩ = some (.int .i64 n) from S0.out.made ((gr.grown_drew w0 none).trans hg)); have A1 := Lib.hid ((gr.grown_drew w0 none).trans hg); clear hg)
    | (go_at_call 45; (with_reducible refine (HO.out _ G1.out).mono ?_); rintro e w2 ⟨rfl, hG⟩; have G2 := Lib.hid hG; have N2 := Lib.hid (show ∀ q, w.heap.size ≤ q → q ∉ K from fun q hq hm => by have := KL.out q hm; omega); obtain ⟨K2, hK1, hK2, hK3⟩ := G2.out; have GK := Lib.hid hK2; have D2 := Lib.hid (show w2.cell? ⟨w.heap.size, 0, none⟩ = some (.int .i64 6) ∧ w2.cell? ⟨w.heap.size, 1, none⟩ = some (.int .i64 (t : Int)) ∧ w2.cell? ⟨w.heap.size, 2, none⟩ = some (.int .i64 i) ∧ w2.cell? ⟨w.heap.size, 3, none⟩ = some (.int .i64 f) ∧ w2.cell? ⟨w.heap.size, 4, none⟩ = some (.int .i64 j) ∧ w2.cell? ⟨w.heap.size, 5, none⟩ = some (.int .i64 c) ∧ w2.cell? ⟨w.heap.size, 6, none⟩ = some (.int .i64 n) from ⟨GK.out.cell D1.out.1 (N2.out _ (Nat.le_refl _)), GK.out.cell D1.out.2.1 (N2.out _ (Nat.le_refl _)), GK.out.cell D1.out.2.2.1 (N2.out _ (Nat.le_refl _)), GK.out.cell D1.out.2.2.2.1 (N2.out _ (Nat.le_refl _)), GK.out.cell D1.out.2.2.2.2.1 (N2.out _ (Nat.le_refl _)), GK.out.cell D1.out.2.2.2.2.2.1 (N2.out _ (Nat.le_refl _)), GK.out.cell D1.out.2.2.2.2.2.2 (N2.out _ (Nat.le_refl _))⟩); have AZ2 := Lib.hid (fun j hj => (show w2.cell? ⟨w.heap.size + 1, j, none⟩ = some (.int .i64 0) ∧ w2.frozen? ⟨w.heap.size + 1, j, none⟩ = false from ⟨GK.out.cell (A1.out.cell (AZ.out j hj).1 (by simp)) (N2.out _ (Nat.le_succ _)), GK.out.frozen (gr.Gr.frozen (L := []) (.new A1.out) (AZ.out j hj).2 (by rw [z0]; simp) (by simp)) (by have := A1.out.size; rw [z0] at this; simp; omega) (N2.out _ (Nat.le_succ _))⟩)); obtain ⟨a0, f0⟩ := AZ2.out 0 (by omega); obtain ⟨a1, f1⟩ := AZ2.out 1 (by omega); obtain ⟨a2, f2⟩ := AZ2.out 2 (by omega); obtain ⟨a3, f3⟩ := AZ2.out 3 (by omega); obtain ⟨a4, f4⟩ := AZ2.out 4 (by omega); clear hG hK2))
  go_wp2
  refine bodyPost_ret (v := .agg #[.int .i64 0, .int .i64 v1, .int .i64 v2, .int .i64 0, .int .i64 0]) (by simp [results, Tryd.results26, go_sem, a0, a1, a2, a3, a4]) rfl ⟨rfl, ?_⟩
  have SZ := G1.out.size
  have SA := A1.out.size
  have NE : ∀ k, k ∈ K2 → k ∉ [w.heap.size + 1] := fun k hk hm => by
    rw [List.mem_singleton] at hm
    rcases hK3 k hk with e | e
    · have := KL.out k e; omega
    · rw [z0] at SA; omega
  exact ⟨K2, hK1.gr (.one (setA _ _ _ _ _ _ _) (by simp)) NE, ((gr.Gr.new G1.out).trans GK.out).own (M := [w.heap.size + 1]) (.one (setA _ _ _ _ _ _ _) (by simp)) (fun x hx => .inr (by rw [List.mem_singleton] at hx; omega)), fun k hk => (hK3 k hk).imp id (fun e => by omega)⟩
theorem Do_7 (h : Gw w K g cf σ) (t : Nat) (i f j c n : Int) (ht : t < σ.N) (live : σ.lv t = true) (hl : (σ.hd t).length < 16) {v1 v2 : Int} (hv : v1 = 2 → 0 ≤ v2 ∧ v2 < σ.M)
    (hp : ∀ W, w.grownBy W none → Calls Tryd.prog 46 #[.pointer (some ⟨g, 0, none⟩), .agg #[.int .i64 7, .int .i64 (t : Int), .int .i64 i, .int .i64 f, .int .i64 j, .int .i64 c, .int .i64 n]] W fun e w' => e = .returned (.agg #[.int .i64 v1, .int .i64 v2]) ∧ W.grownBy w' none) :
    Calls Tryd.prog 26 #[.pointer (some ⟨g, 0, none⟩), .agg #[.int .i64 7, .int .i64 (t : Int), .int .i64 i, .int .i64 f, .int .i64 j, .int .i64 c, .int .i64 n]] w fun e w' => e = Aw v1 v2 ∧ Gans w K g cf { σ with hd := upd σ.hd t (σ.hd t ++ [(v1, v2)]) } w' := by
  obtain ⟨w0, hw0⟩ : ∃ w0, w0 = (w.alloc (.cells #[.int .i64 7, .int .i64 (t : Int), .int .i64 i, .int .i64 f, .int .i64 j, .int .i64 c, .int .i64 n] 39)).alloc (.cells #[.int .i64 0, .int .i64 0, .int .i64 0, .int .i64 0, .int .i64 0] 36) := ⟨_, rfl⟩
  have G0 := Lib.hid (show w.grownBy w0 none by rw [hw0]; exact (grown_alloc _ _).trans (grown_alloc _ _))
  have z0 : w0.heap.size = w.heap.size + 2 := by rw [hw0]; simp
  have S0 := Lib.hid (show Sv w0 w.heap.size 7 t i f j c n by rw [hw0]; exact (Sv.new w 39 7 t i f j c n).made (grown_alloc _ _))
  have AZ := Lib.hid (show ∀ j, j < 5 → w0.cell? ⟨w.heap.size + 1, j, none⟩ = some (.int .i64 0) ∧ w0.frozen? ⟨w.heap.size + 1, j, none⟩ = false by
    intro j hj
    rw [hw0]
    have hj' : j = 0 ∨ j = 1 ∨ j = 2 ∨ j = 3 ∨ j = 4 := by omega
    rcases hj' with rfl | rfl | rfl | rfl | rfl <;> simp [go_sem])
  have HW := Lib.hid hw0
  have H := Lib.hid h
  have HP := Lib.hid hp
  have HO := Lib.hid (fun W (hg : w.grownBy W none) => hold_any (h.new hg) ht v1 v2 hl hv live)
  have D0 := Lib.hid (show w0.drew.cell? ⟨w.heap.size, 0, none⟩ = some (.int .i64 7) ∧ w0.drew.cell? ⟨w.heap.size, 1, none⟩ = some (.int .i64 (t : Int)) ∧ w0.drew.cell? ⟨w.heap.size, 2, none⟩ = some (.int .i64 i) ∧ w0.drew.cell? ⟨w.heap.size, 3, none⟩ = some (.int .i64 f) ∧ w0.drew.cell? ⟨w.heap.size, 4, none⟩ = some (.int .i64 j) ∧ w0.drew.cell? ⟨w.heap.size, 5, none⟩ = some (.int .i64 c) ∧ w0.drew.cell? ⟨w.heap.size, 6, none⟩ = some (.int .i64 n) from S0.out)
  have KL := Lib.hid h.lt
  clear h hp hl live hv hw0
  go_enter Tryd.func26, Tryd.ntmps26
  go_wp2
  rw [← HW.out]
  have GD := Lib.hid (G0.out.trans (gr.grown_drew w0 none))
  go_region_held3 (fun W => W.cell? ⟨w.heap.size, 0, none⟩ = some (.int .i64 7) ∧ W.cell? ⟨w.heap.size, 1, none⟩ = some (.int .i64 (t : Int)) ∧ W.cell? ⟨w.heap.size, 2, none⟩ = some (.int .i64 i) ∧ W.cell? ⟨w.heap.size, 3, none⟩ = some (.int .i64 f) ∧ W.cell? ⟨w.heap.size, 4, none⟩ = some (.int .i64 j) ∧ W.cell? ⟨w.heap.size, 5, none⟩ = some (.int .i64 c) ∧ W.cell? ⟨w.heap.size, 6, none⟩ = some (.int .i64 n)) (first | with_reducible exact D0.out | with_reducible exact D1.out | with_reducible exact D2.out | go_keep) (first
    | (go_at_call 46; (with_reducible refine (HP.out _ GD.out).mono ?_); rintro e w1 ⟨rfl, hg⟩; have G1 := Lib.hid (GD.out.trans hg); have D1 := Lib.hid (show w1.cell? ⟨w.heap.size, 0, none⟩ = some (.int .i64 7) ∧ w1.cell? ⟨w.heap.size, 1, none⟩ = some (.int .i64 (t : Int)) ∧ w1.cell? ⟨w.heap.size, 2, none⟩ = some (.int .i64 i) ∧ w1.cell? ⟨w.heap.size, 3, none⟩ = some (.int .i64 f) ∧ w1.cell? ⟨w.heap.size, 4, none⟩ = some (.int .i64 j) ∧ w1.cell? ⟨w.heap.size, 5, none⟩ = some (.int .i64 c) ∧ w1.cell? ⟨w.heap.size, 6, none⟩ = some (.int .i64 n) from S0.out.made ((gr.grown_drew w0 none).trans hg)); have A1 := Lib.hid ((gr.grown_drew w0 none).trans hg); clear hg)
    | (go_at_call 45; (with_reducible refine (HO.out _ G1.out).mono ?_); rintro e w2 ⟨rfl, hG⟩; have G2 := Lib.hid hG; have N2 := Lib.hid (show ∀ q, w.heap.size ≤ q → q ∉ K from fun q hq hm => by have := KL.out q hm; omega); obtain ⟨K2, hK1, hK2, hK3⟩ := G2.out; have GK := Lib.hid hK2; have D2 := Lib.hid (show w2.cell? ⟨w.heap.size, 0, none⟩ = some (.int .i64 7) ∧ w2.cell? ⟨w.heap.size, 1, none⟩ = some (.int .i64 (t : Int)) ∧ w2.cell? ⟨w.heap.size, 2, none⟩ = some (.int .i64 i) ∧ w2.cell? ⟨w.heap.size, 3, none⟩ = some (.int .i64 f) ∧ w2.cell? ⟨w.heap.size, 4, none⟩ = some (.int .i64 j) ∧ w2.cell? ⟨w.heap.size, 5, none⟩ = some (.int .i64 c) ∧ w2.cell? ⟨w.heap.size, 6, none⟩ = some (.int .i64 n) from ⟨GK.out.cell D1.out.1 (N2.out _ (Nat.le_refl _)), GK.out.cell D1.out.2.1 (N2.out _ (Nat.le_refl _)), GK.out.cell D1.out.2.2.1 (N2.out _ (Nat.le_refl _)), GK.out.cell D1.out.2.2.2.1 (N2.out _ (Nat.le_refl _)), GK.out.cell D1.out.2.2.2.2.1 (N2.out _ (Nat.le_refl _)), GK.out.cell D1.out.2.2.2.2.2.1 (N2.out _ (Nat.le_refl _)), GK.out.cell D1.out.2.2.2.2.2.2 (N2.out _ (Nat.le_refl _))⟩); have AZ2 := Lib.hid (fun j hj => (show w2.cell? ⟨w.heap.size + 1, j, none⟩ = some (.int .i64 0) ∧ w2.frozen? ⟨w.heap.size + 1, j, none⟩ = false from ⟨GK.out.cell (A1.out.cell (AZ.out j hj).1 (by simp)) (N2.out _ (Nat.le_succ _)), GK.out.frozen (gr.Gr.frozen (L := []) (.new A1.out) (AZ.out j hj).2 (by rw [z0]; simp) (by simp)) (by have := A1.out.size; rw [z0] at this; simp; omega) (N2.out _ (Nat.le_succ _))⟩)); obtain ⟨a0, f0⟩ := AZ2.out 0 (by omega); obtain ⟨a1, f1⟩ := AZ2.out 1 (by omega); obtain ⟨a2, f2⟩ := AZ2.out 2 (by omega); obtain ⟨a3, f3⟩ := AZ2.out 3 (by omega); obtain ⟨a4, f4⟩ := AZ2.out 4 (by omega); clear hG hK2))
  go_wp2
  refine bodyPost_ret (v := .agg #[.int .i64 0, .int .i64 v1, .int .i64 v2, .int .i64 0, .int .i64 0]) (by simp [results, Tryd.results26, go_sem, a0, a1, a2, a3, a4]) rfl ⟨rfl, ?_⟩
  have SZ := G1.out.size
  have SA := A1.out.size
  have NE : ∀ k, k ∈ K2 → k ∉ [w.heap.size + 1] := fun k hk hm => by
    rw [List.mem_singleton] at hm
    rcases hK3 k hk with e | e
    · have := KL.out k e; omega
    · rw [z0] at SA; omega
  exact ⟨K2, hK1.gr (.one (setA _ _ _ _ _ _ _) (by simp)) NE, ((gr.Gr.new G1.out).trans GK.out).own (M := [w.heap.size + 1]) (.one (setA _ _ _ _ _ _ _) (by simp)) (fun x hx => .inr (by rw [List.mem_singleton] at hx; omega)), fun k hk => (hK3 k hk).imp id (fun e => by omega)⟩
theorem Do_9 (h : Gw w K g cf σ) (t : Nat) (i f j c n : Int) (ht : t < σ.N) (live : σ.lv t = true) (hl : (σ.hd t).length < 16) {v1 v2 : Int} (hv : v1 = 2 → 0 ≤ v2 ∧ v2 < σ.M)
    (hp : ∀ W, w.grownBy W none → Calls Tryd.prog 46 #[.pointer (some ⟨g, 0, none⟩), .agg #[.int .i64 9, .int .i64 (t : Int), .int .i64 i, .int .i64 f, .int .i64 j, .int .i64 c, .int .i64 n]] W fun e w' => e = .returned (.agg #[.int .i64 v1, .int .i64 v2]) ∧ W.grownBy w' none) :
    Calls Tryd.prog 26 #[.pointer (some ⟨g, 0, none⟩), .agg #[.int .i64 9, .int .i64 (t : Int), .int .i64 i, .int .i64 f, .int .i64 j, .int .i64 c, .int .i64 n]] w fun e w' => e = Aw v1 v2 ∧ Gans w K g cf { σ with hd := upd σ.hd t (σ.hd t ++ [(v1, v2)]) } w' := by
  obtain ⟨w0, hw0⟩ : ∃ w0, w0 = (w.alloc (.cells #[.int .i64 9, .int .i64 (t : Int), .int .i64 i, .int .i64 f, .int .i64 j, .int .i64 c, .int .i64 n] 39)).alloc (.cells #[.int .i64 0, .int .i64 0, .int .i64 0, .int .i64 0, .int .i64 0] 36) := ⟨_, rfl⟩
  have G0 := Lib.hid (show w.grownBy w0 none by rw [hw0]; exact (grown_alloc _ _).trans (grown_alloc _ _))
  have z0 : w0.heap.size = w.heap.size + 2 := by rw [hw0]; simp
  have S0 := Lib.hid (show Sv w0 w.heap.size 9 t i f j c n by rw [hw0]; exact (Sv.new w 39 9 t i f j c n).made (grown_alloc _ _))
  have AZ := Lib.hid (show ∀ j, j < 5 → w0.cell? ⟨w.heap.size + 1, j, none⟩ = some (.int .i64 0) ∧ w0.frozen? ⟨w.heap.size + 1, j, none⟩ = false by
    intro j hj
    rw [hw0]
    have hj' : j = 0 ∨ j = 1 ∨ j = 2 ∨ j = 3 ∨ j = 4 := by omega
    rcases hj' with rfl | rfl | rfl | rfl | rfl <;> simp [go_sem])
  have HW := Lib.hid hw0
  have H := Lib.hid h
  have HP := Lib.hid hp
  have HO := Lib.hid (fun W (hg : w.grownBy W none) => hold_any (h.new hg) ht v1 v2 hl hv live)
  have D0 := Lib.hid (show w0.drew.cell? ⟨w.heap.size, 0, none⟩ = some (.int .i64 9) ∧ w0.drew.cell? ⟨w.heap.size, 1, none⟩ = some (.int .i64 (t : Int)) ∧ w0.drew.cell? ⟨w.heap.size, 2, none⟩ = some (.int .i64 i) ∧ w0.drew.cell? ⟨w.heap.size, 3, none⟩ = some (.int .i64 f) ∧ w0.drew.cell? ⟨w.heap.size, 4, none⟩ = some (.int .i64 j) ∧ w0.drew.cell? ⟨w.heap.size, 5, none⟩ = some (.int .i64 c) ∧ w0.drew.cell? ⟨w.heap.size, 6, none⟩ = some (.int .i64 n) from S0.out)
  have KL := Lib.hid h.lt
  clear h hp hl live hv hw0
  go_enter Tryd.func26, Tryd.ntmps26
  go_wp2
  rw [← HW.out]
  have GD := Lib.hid (G0.out.trans (gr.grown_drew w0 none))
  go_region_held3 (fun W => W.cell? ⟨w.heap.size, 0, none⟩ = some (.int .i64 9) ∧ W.cell? ⟨w.heap.size, 1, none⟩ = some (.int .i64 (t : Int)) ∧ W.cell? ⟨w.heap.size, 2, none⟩ = some (.int .i64 i) ∧ W.cell? ⟨w.heap.size, 3, none⟩ = some (.int .i64 f) ∧ W.cell? ⟨w.heap.size, 4, none⟩ = some (.int .i64 j) ∧ W.cell? ⟨w.heap.size, 5, none⟩ = some (.int .i64 c) ∧ W.cell? ⟨w.heap.size, 6, none⟩ = some (.int .i64 n)) (first | with_reducible exact D0.out | with_reducible exact D1.out | with_reducible exact D2.out | go_keep) (first
    | (go_at_call 46; (with_reducible refine (HP.out _ GD.out).mono ?_); rintro e w1 ⟨rfl, hg⟩; have G1 := Lib.hid (GD.out.trans hg); have D1 := Lib.hid (show w1.cell? ⟨w.heap.size, 0, none⟩ = some (.int .i64 9) ∧ w1.cell? ⟨w.heap.size, 1, none⟩ = some (.int .i64 (t : Int)) ∧ w1.cell? ⟨w.heap.size, 2, none⟩ = some (.int .i64 i) ∧ w1.cell? ⟨w.heap.size, 3, none⟩ = some (.int .i64 f) ∧ w1.cell? ⟨w.heap.size, 4, none⟩ = some (.int .i64 j) ∧ w1.cell? ⟨w.heap.size, 5, none⟩ = some (.int .i64 c) ∧ w1.cell? ⟨w.heap.size, 6, none⟩ = some (.int .i64 n) from S0.out.made ((gr.grown_drew w0 none).trans hg)); have A1 := Lib.hid ((gr.grown_drew w0 none).trans hg); clear hg)
    | (go_at_call 45; (with_reducible refine (HO.out _ G1.out).mono ?_); rintro e w2 ⟨rfl, hG⟩; have G2 := Lib.hid hG; have N2 := Lib.hid (show ∀ q, w.heap.size ≤ q → q ∉ K from fun q hq hm => by have := KL.out q hm; omega); obtain ⟨K2, hK1, hK2, hK3⟩ := G2.out; have GK := Lib.hid hK2; have D2 := Lib.hid (show w2.cell? ⟨w.heap.size, 0, none⟩ = some (.int .i64 9) ∧ w2.cell? ⟨w.heap.size, 1, none⟩ = some (.int .i64 (t : Int)) ∧ w2.cell? ⟨w.heap.size, 2, none⟩ = some (.int .i64 i) ∧ w2.cell? ⟨w.heap.size, 3, none⟩ = some (.int .i64 f) ∧ w2.cell? ⟨w.heap.size, 4, none⟩ = some (.int .i64 j) ∧ w2.cell? ⟨w.heap.size, 5, none⟩ = some (.int .i64 c) ∧ w2.cell? ⟨w.heap.size, 6, none⟩ = some (.int .i64 n) from ⟨GK.out.cell D1.out.1 (N2.out _ (Nat.le_refl _)), GK.out.cell D1.out.2.1 (N2.out _ (Nat.le_refl _)), GK.out.cell D1.out.2.2.1 (N2.out _ (Nat.le_refl _)), GK.out.cell D1.out.2.2.2.1 (N2.out _ (Nat.le_refl _)), GK.out.cell D1.out.2.2.2.2.1 (N2.out _ (Nat.le_refl _)), GK.out.cell D1.out.2.2.2.2.2.1 (N2.out _ (Nat.le_refl _)), GK.out.cell D1.out.2.2.2.2.2.2 (N2.out _ (Nat.le_refl _))⟩); have AZ2 := Lib.hid (fun j hj => (show w2.cell? ⟨w.heap.size + 1, j, none⟩ = some (.int .i64 0) ∧ w2.frozen? ⟨w.heap.size + 1, j, none⟩ = false from ⟨GK.out.cell (A1.out.cell (AZ.out j hj).1 (by simp)) (N2.out _ (Nat.le_succ _)), GK.out.frozen (gr.Gr.frozen (L := []) (.new A1.out) (AZ.out j hj).2 (by rw [z0]; simp) (by simp)) (by have := A1.out.size; rw [z0] at this; simp; omega) (N2.out _ (Nat.le_succ _))⟩)); obtain ⟨a0, f0⟩ := AZ2.out 0 (by omega); obtain ⟨a1, f1⟩ := AZ2.out 1 (by omega); obtain ⟨a2, f2⟩ := AZ2.out 2 (by omega); obtain ⟨a3, f3⟩ := AZ2.out 3 (by omega); obtain ⟨a4, f4⟩ := AZ2.out 4 (by omega); clear hG hK2))
  go_wp2
  refine bodyPost_ret (v := .agg #[.int .i64 0, .int .i64 v1, .int .i64 v2, .int .i64 0, .int .i64 0]) (by simp [results, Tryd.results26, go_sem, a0, a1, a2, a3, a4]) rfl ⟨rfl, ?_⟩
  have SZ := G1.out.size
  have SA := A1.out.size
  have NE : ∀ k, k ∈ K2 → k ∉ [w.heap.size + 1] := fun k hk hm => by
    rw [List.mem_singleton] at hm
    rcases hK3 k hk with e | e
    · have := KL.out k e; omega
    · rw [z0] at SA; omega
  exact ⟨K2, hK1.gr (.one (setA _ _ _ _ _ _ _) (by simp)) NE, ((gr.Gr.new G1.out).trans GK.out).own (M := [w.heap.size + 1]) (.one (setA _ _ _ _ _ _ _) (by simp)) (fun x hx => .inr (by rw [List.mem_singleton] at hx; omega)), fun k hk => (hK3 k hk).imp id (fun e => by omega)⟩
end
end Go.Proofs.YtfhebjkoojodiaaDoor.gp
