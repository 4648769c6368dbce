/- Texts that this claim stands on. -/
import Derived.Test.YtfhebjkoojodiaaDoorQGqD
namespace Go.Proofs.YtfhebjkoojodiaaDoor.gq
open Go.ChangeShapes Go.WideShapes Go.ChangeAt Go.RowKit gen va cd gp
set_option linter.unusedVariables false
set_option linter.unusedSimpArgs false
set_option maxHeartbeats 1000000
set_option maxRecDepth 100000
structure By (w : World) (k t i f j c n : Int) (w1 : World) : Prop where
  gr : gr.Gr [] w w1
  sz : w.heap.size + 1 ≤ w1.heap.size
  sv : Sv w1 w.heap.size k t i f j c n
theorem By.start (w : World) (k t i f j c n : Int) : By w k t i f j c n (w.alloc (.cells #[.int .i64 k, .int .i64 t, .int .i64 i, .int .i64 f, .int .i64 j, .int .i64 c, .int .i64 n] 39)) := ⟨.new (grown_alloc _ _), by simp, Sv.new w 39 k t i f j c n⟩
theorem By.new {w w1 w2 : World} {k t i f j c n : Int} (h : By w k t i f j c n w1) (hg : w1.grownBy w2 none) : By w k t i f j c n w2 := ⟨h.gr.made hg, by have := hg.size; have := h.sz; omega, h.sv.made hg⟩
theorem By.grow {w w1 : World} {k t i f j c n : Int} (h : By w k t i f j c n w1) : w.grownBy w1 none := h.gr.grown (World.grownBy.refl _ _) (fun q hq => by cases hq)
section
variable {w : World} {K : List Nat} {g : Nat} {σ : Gs} {R tc : Nat} {A : Option Addr} {nc : Nat} {vs : Nat → Value} {bs : Nat → Nat}
theorem made_yes (h : PwI w K g σ R tc A nc vs bs) : Calls Tryd.prog 28 #[.pointer (some ⟨g, 0, none⟩)] w fun e w' => e = .returned (.bool true) ∧ w = w' := by
  have c2 := h.c2
  have d0 := h.ok.m0
  clear h
  go_enter Tryd.func28, Tryd.ntmps28
  go_wp2
  go_ret
  exact ⟨by simp, rfl⟩
theorem made_nil (w : World) : Calls Tryd.prog 28 #[.pointer none] w fun e w' => e = .returned (.bool false) ∧ w = w' := by
  go_enter Tryd.func28, Tryd.ntmps28
  go_wp2
  go_ret
  exact ⟨rfl, rfl⟩
theorem made_odd {c : Nat} (h : w.cell? ⟨g, 2, none⟩ = some (.slice none 0 c)) : Calls Tryd.prog 28 #[.pointer (some ⟨g, 0, none⟩)] w fun e w' => e = .returned (.bool false) ∧ w = w' := by
  go_enter Tryd.func28, Tryd.ntmps28
  go_wp2
  go_ret
  exact ⟨rfl, rfl⟩
theorem turn_out (h : PwI w K g σ R tc A nc vs bs) (k : Int) (t : Nat) (i f j c n : Int) (ht : t ≤ 255) (hlt : σ.N ≤ t) : Calls Tryd.prog 39 #[.pointer (some ⟨g, 0, none⟩), .agg #[.int .i64 k, .int .i64 (t : Int), .int .i64 i, .int .i64 f, .int .i64 j, .int .i64 c, .int .i64 n]] w fun e w' => e = .returned (.int .i64 4) ∧ w.grownBy w' none := by
  have G0 := Lib.hid (grown_alloc w (.cells #[.int .i64 k, .int .i64 (t : Int), .int .i64 i, .int .i64 f, .int .i64 j, .int .i64 c, .int .i64 n] 39))
  have h1 := h.new G0.out
  obtain ⟨s0, s1, s2, s3, s4, s5, s6⟩ := Sv.new w 39 k t i f j c n
  have x1 := h1.c1
  have hN := h.ok.n
  clear h h1 s2 s3 s4 s5 s6
  go_enter Tryd.func39, Tryd.ntmps39
  go_wp2
  go_quiet (fail)
  go_wp2
  go_ret
  exact ⟨rfl, G0.out.trans (by first | exact li.grown_drewN _ _ _ | exact drew2 _ _ _ | exact drew3 _ _ _ _)⟩
theorem turn_a (h : PwI w K g σ R tc A nc vs bs) (k : Int) (t : Nat) (i f j c n : Int) (ht : t ≤ 255) (hlt : t < σ.N) (hl : σ.lv t = true) (k1 : (k == 1) = true) : Calls Tryd.prog 39 #[.pointer (some ⟨g, 0, none⟩), .agg #[.int .i64 k, .int .i64 (t : Int), .int .i64 i, .int .i64 f, .int .i64 j, .int .i64 c, .int .i64 n]] w fun e w' => e = .returned (.int .i64 9) ∧ w.grownBy w' none := by
  have G0 := Lib.hid (grown_alloc w (.cells #[.int .i64 k, .int .i64 (t : Int), .int .i64 i, .int .i64 f, .int .i64 j, .int .i64 c, .int .i64 n] 39))
  have h1 := h.new G0.out
  obtain ⟨s0, s1, s2, s3, s4, s5, s6⟩ := Sv.new w 39 k t i f j c n
  have x1 := h1.c1
  have hN := h.ok.n
  have t0 := (h1.tw hlt).c33
  have i1 : (0 : Int) ≤ (t : Int) := by omega
  have i2 : (t : Int) < (σ.N : Int) := by omega
  rw [hl] at t0
  clear h h1 s2 s3 s4 s5 s6 hl
  go_enter Tryd.func39, Tryd.ntmps39
  go_wp2
  go_quiet (fail)
  go_wp2
  go_quiet (fail)
  go_wp2
  go_ret
  exact ⟨rfl, G0.out.trans (by first | exact li.grown_drewN _ _ _ | exact drew2 _ _ _ | exact drew3 _ _ _ _)⟩
theorem turn_b (h : PwI w K g σ R tc A nc vs bs) (k : Int) (t : Nat) (i f j c n : Int) (ht : t ≤ 255) (hlt : t < σ.N) (hl : σ.lv t = false) (k1 : (k == 1) = true) : Calls Tryd.prog 39 #[.pointer (some ⟨g, 0, none⟩), .agg #[.int .i64 k, .int .i64 (t : Int), .int .i64 i, .int .i64 f, .int .i64 j, .int .i64 c, .int .i64 n]] w fun e w' => e = .returned (.int .i64 0) ∧ w.grownBy w' none := by
  have G0 := Lib.hid (grown_alloc w (.cells #[.int .i64 k, .int .i64 (t : Int), .int .i64 i, .int .i64 f, .int .i64 j, .int .i64 c, .int .i64 n] 39))
  have h1 := h.new G0.out
  obtain ⟨s0, s1, s2, s3, s4, s5, s6⟩ := Sv.new w 39 k t i f j c n
  have x1 := h1.c1
  have hN := h.ok.n
  have t0 := (h1.tw hlt).c33
  have i1 : (0 : Int) ≤ (t : Int) := by omega
  have i2 : (t : Int) < (σ.N : Int) := by omega
  rw [hl] at t0
  clear h h1 s2 s3 s4 s5 s6 hl
  go_enter Tryd.func39, Tryd.ntmps39
  go_wp2
  go_quiet (fail)
  go_wp2
  go_quiet (fail)
  go_wp2
  go_ret
  exact ⟨rfl, G0.out.trans (by first | exact li.grown_drewN _ _ _ | exact drew2 _ _ _ | exact drew3 _ _ _ _)⟩
theorem turn_c (h : PwI w K g σ R tc A nc vs bs) (k : Int) (t : Nat) (i f j c n : Int) (ht : t ≤ 255) (hlt : t < σ.N) (hl : σ.lv t = true) (k1 : (k == 1) = false) : Calls Tryd.prog 39 #[.pointer (some ⟨g, 0, none⟩), .agg #[.int .i64 k, .int .i64 (t : Int), .int .i64 i, .int .i64 f, .int .i64 j, .int .i64 c, .int .i64 n]] w fun e w' => e = .returned (.int .i64 0) ∧ w.grownBy w' none := by
  have G0 := Lib.hid (grown_alloc w (.cells #[.int .i64 k, .int .i64 (t : Int), .int .i64 i, .int .i64 f, .int .i64 j, .int .i64 c, .int .i64 n] 39))
  have h1 := h.new G0.out
  obtain ⟨s0, s1, s2, s3, s4, s5, s6⟩ := Sv.new w 39 k t i f j c n
  have x1 := h1.c1
  have hN := h.ok.n
  have t0 := (h1.tw hlt).c33
  have i1 : (0 : Int) ≤ (t : Int) := by omega
  have i2 : (t : Int) < (σ.N : Int) := by omega
  rw [hl] at t0
  clear h h1 s2 s3 s4 s5 s6 hl
  go_enter Tryd.func39, Tryd.ntmps39
  go_wp2
  go_quiet (fail)
  go_wp2
  go_quiet (fail)
  go_wp2
  go_ret
  exact ⟨rfl, G0.out.trans (by first | exact li.grown_drewN _ _ _ | exact drew2 _ _ _ | exact drew3 _ _ _ _)⟩
theorem turn_d (h : PwI w K g σ R tc A nc vs bs) (k : Int) (t : Nat) (i f j c n : Int) (ht : t ≤ 255) (hlt : t < σ.N) (hl : σ.lv t = false) (k1 : (k == 1) = false) : Calls Tryd.prog 39 #[.pointer (some ⟨g, 0, none⟩), .agg #[.int .i64 k, .int .i64 (t : Int), .int .i64 i, .int .i64 f, .int .i64 j, .int .i64 c, .int .i64 n]] w fun e w' => e = .returned (.int .i64 14) ∧ w.grownBy w' none := by
  have G0 := Lib.hid (grown_alloc w (.cells #[.int .i64 k, .int .i64 (t : Int), .int .i64 i, .int .i64 f, .int .i64 j, .int .i64 c, .int .i64 n] 39))
  have h1 := h.new G0.out
  obtain ⟨s0, s1, s2, s3, s4, s5, s6⟩ := Sv.new w 39 k t i f j c n
  have x1 := h1.c1
  have hN := h.ok.n
  have t0 := (h1.tw hlt).c33
  have i1 : (0 : Int) ≤ (t : Int) := by omega
  have i2 : (t : Int) < (σ.N : Int) := by omega
  rw [hl] at t0
  clear h h1 s2 s3 s4 s5 s6 hl
  go_enter Tryd.func39, Tryd.ntmps39
  go_wp2
  go_quiet (fail)
  go_wp2
  go_quiet (fail)
  go_wp2
  go_ret
  exact ⟨rfl, G0.out.trans (by first | exact li.grown_drewN _ _ _ | exact drew2 _ _ _ | exact drew3 _ _ _ _)⟩
theorem turn_any (h : PwI w K g σ R tc A nc vs bs) (k : Int) (t : Nat) (i f j c n : Int) (ht : t ≤ 255) (hk : k < 16) {z : Int} (hz : wh σ k t = z) : Calls Tryd.prog 39 #[.pointer (some ⟨g, 0, none⟩), .agg #[.int .i64 k, .int .i64 (t : Int), .int .i64 i, .int .i64 f, .int .i64 j, .int .i64 c, .int .i64 n]] w fun e w' => e = .returned (.int .i64 z) ∧ w.grownBy w' none := by
  subst hz
  unfold wh
  rw [if_neg (by omega)]
  by_cases hN : σ.N ≤ t
  · rw [if_pos hN]
    exact turn_out h k t i f j c n ht hN
  · rw [if_neg hN]
    by_cases k1 : k = 1
    · rw [if_pos k1]
      cases hl : σ.lv t with
      | true => exact turn_a h k t i f j c n ht (by omega) hl (by simpa using k1)
      | false => exact turn_b h k t i f j c n ht (by omega) hl (by simpa using k1)
    · rw [if_neg k1]
      cases hl : σ.lv t with
      | true => exact turn_c h k t i f j c n ht (by omega) hl (by simpa using k1)
      | false => exact turn_d h k t i f j c n ht (by omega) hl (by simpa using k1)
theorem fields_i (h : PwI w K g σ R tc A nc vs bs) {t : Nat} (ht : t < σ.N) (k t' f j c n : Int) (i : Nat) (hi : (σ.hd t).length ≤ i) : Calls Tryd.prog 69 #[.pointer (some ⟨g, 0, none⟩), .pointer (some ⟨R, t * 34, none⟩), .agg #[.int .i64 k, .int .i64 t', .int .i64 (i : Int), .int .i64 f, .int .i64 j, .int .i64 c, .int .i64 n]] w
    fun e w' => e = .returned (.tuple #[.slice none 0 0, .int .i64 4]) ∧ w.grownBy w' none := by
  have G0 := Lib.hid (grown_alloc w (.cells #[.int .i64 k, .int .i64 t', .int .i64 (i : Int), .int .i64 f, .int .i64 j, .int .i64 c, .int .i64 n] 39))
  have B0 := Lib.hid (By.start w k t' i f j c n)
  have ZA := Lib.hid (show Z2 ((w.alloc (.cells #[.int .i64 k, .int .i64 t', .int .i64 (i : Int), .int .i64 f, .int .i64 j, .int .i64 c, .int .i64 n] 39)).alloc (.cells #[.int .i64 0, .int .i64 0] 57)) (w.heap.size + 1) from (Bx.start w k t' i f j c n).zz)
  obtain ⟨s0, s1, s2, s3, s4, s5, s6⟩ := B0.out.sv
  have TW := h.tw ht
  have l16 := h.ok.hl t
  have GE := Lib.hid (fun W (hg : w.grownBy W none) => get_no (TW.new hg) (i := (i : Int)) (.inr (by omega)))
  have H := Lib.hid h
  clear h TW
  go_enter Tryd.func69, Tryd.ntmps69
  go_wp2
  go_region_held3 (fun W => W.cell? ⟨w.heap.size, 2, none⟩ = some (.int .i64 (i : Int))) (first | go_keep | with_reducible exact q2) (first
    | (go_at_call 66; (with_reducible refine (GE.out _ (by first | exact G0.out.trans (gr.grown_drew _ _) | exact G0.out.trans ((grown_alloc _ _).trans (gr.grown_drew _ _)) | exact (G0.out.trans (gr.grown_drew _ _)).trans (grown_alloc _ _))).mono ?_); rintro e w1 ⟨rfl, hg⟩; (first | (have hh := Lib.hid ((gr.grown_drew _ none).trans hg); have q2 := hh.out.cell s2 (by simp)) | (have hh := Lib.hid (((grown_alloc _ _).trans (gr.grown_drew _ none)).trans hg); have q2 := hh.out.cell s2 (by simp); obtain ⟨a0, a1, f0, f1⟩ := (Z2.new (ZA.out.new (gr.grown_drew _ none) (by simp)) hg (by simp)).at_)); have G1 := Lib.hid (G0.out.trans hh.out); clear hg))
  all_goals first
    | (obtain ⟨wz, hz⟩ : ∃ wz, wz = (w1.setCell ⟨w.heap.size + 1, 0, none⟩ (.int .i64 0)).setCell ⟨w.heap.size + 1, 1, none⟩ (.int .i64 0) := ⟨_, rfl⟩
       have GZ := Lib.hid (show w.grownBy wz none by rw [hz]; exact li.grown_new G1.out (gp.set2 _ _ _ _) (Nat.le_succ _))
       have b0 : wz.cell? ⟨w.heap.size + 1, 0, none⟩ = some (.int .i64 0) := (by rw [hz]; simp [go_sem, a0, a1]); have b1 : wz.cell? ⟨w.heap.size + 1, 1, none⟩ = some (.int .i64 0) := (by rw [hz]; simp [go_sem, a0, a1]); rw [← hz]; clear hz
       go_wp2
       go_ret2
       exact ⟨rfl, GZ.out⟩
      )
    | (obtain ⟨wz, hz⟩ : ∃ wz, wz = w1.alloc (.cells #[.int .i64 0, .int .i64 0] 57) := ⟨_, rfl⟩
       have GZ := Lib.hid (show w.grownBy wz none by rw [hz]; exact G1.out.trans (grown_alloc _ _))
       have b0 : wz.cell? ⟨w1.heap.size, 0, none⟩ = some (.int .i64 0) := (by rw [hz]; simp [go_sem]); have b1 : wz.cell? ⟨w1.heap.size, 1, none⟩ = some (.int .i64 0) := (by rw [hz]; simp [go_sem]); rw [← hz]; clear hz
       go_wp2
       go_ret2
       exact ⟨rfl, GZ.out⟩
      )
theorem fields_k (h : PwI w K g σ R tc A nc vs bs) {t : Nat} (ht : t < σ.N) (k t' f j c n : Int) (i : Nat) (hi : i < (σ.hd t).length) {v1 v2 : Int} (hv : (σ.hd t).getD i (0, 0) = (v1, v2)) (h2 : (v1 != 2) = true) : Calls Tryd.prog 69 #[.pointer (some ⟨g, 0, none⟩), .pointer (some ⟨R, t * 34, none⟩), .agg #[.int .i64 k, .int .i64 t', .int .i64 (i : Int), .int .i64 f, .int .i64 j, .int .i64 c, .int .i64 n]] w
    fun e w' => e = .returned (.tuple #[.slice none 0 0, .int .i64 12]) ∧ w.grownBy w' none := by
  have G0 := Lib.hid (grown_alloc w (.cells #[.int .i64 k, .int .i64 t', .int .i64 (i : Int), .int .i64 f, .int .i64 j, .int .i64 c, .int .i64 n] 39))
  have B0 := Lib.hid (By.start w k t' i f j c n)
  have ZA := Lib.hid (show Z2 ((w.alloc (.cells #[.int .i64 k, .int .i64 t', .int .i64 (i : Int), .int .i64 f, .int .i64 j, .int .i64 c, .int .i64 n] 39)).alloc (.cells #[.int .i64 0, .int .i64 0] 57)) (w.heap.size + 1) from (Bx.start w k t' i f j c n).zz)
  obtain ⟨s0, s1, s2, s3, s4, s5, s6⟩ := B0.out.sv
  have TW := h.tw ht
  have l16 := h.ok.hl t
  have GE := Lib.hid (fun W (hg : w.grownBy W none) => get_yes (TW.new hg) hi l16 hv)
  have H := Lib.hid h
  clear hv
  clear h TW
  go_enter Tryd.func69, Tryd.ntmps69
  go_wp2
  go_region_held3 (fun W => W.cell? ⟨w.heap.size, 2, none⟩ = some (.int .i64 (i : Int))) (first | go_keep | with_reducible exact q2) (first
    | (go_at_call 66; (with_reducible refine (GE.out _ (by first | exact G0.out.trans (gr.grown_drew _ _) | exact G0.out.trans ((grown_alloc _ _).trans (gr.grown_drew _ _)) | exact (G0.out.trans (gr.grown_drew _ _)).trans (grown_alloc _ _))).mono ?_); rintro e w1 ⟨rfl, hg⟩; (first | (have hh := Lib.hid ((gr.grown_drew _ none).trans hg); have q2 := hh.out.cell s2 (by simp)) | (have hh := Lib.hid (((grown_alloc _ _).trans (gr.grown_drew _ none)).trans hg); have q2 := hh.out.cell s2 (by simp); obtain ⟨a0, a1, f0, f1⟩ := (Z2.new (ZA.out.new (gr.grown_drew _ none) (by simp)) hg (by simp)).at_)); have G1 := Lib.hid (G0.out.trans hh.out); clear hg))
  all_goals first
    | (obtain ⟨wz, hz⟩ : ∃ wz, wz = (w1.setCell ⟨w.heap.size + 1, 0, none⟩ (.int .i64 v1)).setCell ⟨w.heap.size + 1, 1, none⟩ (.int .i64 v2) := ⟨_, rfl⟩
       have GZ := Lib.hid (show w.grownBy wz none by rw [hz]; exact li.grown_new G1.out (gp.set2 _ _ _ _) (Nat.le_succ _))
       have b0 : wz.cell? ⟨w.heap.size + 1, 0, none⟩ = some (.int .i64 v1) := (by rw [hz]; simp [go_sem, a0, a1]); have b1 : wz.cell? ⟨w.heap.size + 1, 1, none⟩ = some (.int .i64 v2) := (by rw [hz]; simp [go_sem, a0, a1]); rw [← hz]; clear hz
       go_wp2
       go_ret2
       exact ⟨rfl, GZ.out⟩
      )
    | (obtain ⟨wz, hz⟩ : ∃ wz, wz = w1.alloc (.cells #[.int .i64 v1, .int .i64 v2] 57) := ⟨_, rfl⟩
       have GZ := Lib.hid (show w.grownBy wz none by rw [hz]; exact G1.out.trans (grown_alloc _ _))
       have b0 : wz.cell? ⟨w1.heap.size, 0, none⟩ = some (.int .i64 v1) := (by rw [hz]; simp [go_sem]); have b1 : wz.cell? ⟨w1.heap.size, 1, none⟩ = some (.int .i64 v2) := (by rw [hz]; simp [go_sem]); rw [← hz]; clear hz
       go_wp2
       go_ret2
       exact ⟨rfl, GZ.out⟩
      )
theorem fields_y (h : PwI w K g σ R tc A nc vs bs) {t : Nat} (ht : t < σ.N) (k t' f j c n : Int) (i : Nat) (hi : i < (σ.hd t).length) {y : Nat} (hv : (σ.hd t).getD i (0, 0) = (2, (y : Int))) (hy : y < σ.M) : Calls Tryd.prog 69 #[.pointer (some ⟨g, 0, none⟩), .pointer (some ⟨R, t * 34, none⟩), .agg #[.int .i64 k, .int .i64 t', .int .i64 (i : Int), .int .i64 f, .int .i64 j, .int .i64 c, .int .i64 n]] w
    fun e w' => ∃ b c', e = .returned (.tuple #[.slice (some ⟨b, 0, none⟩) (σ.nd y).length c', .int .i64 0]) ∧ (σ.nd y).length ≤ c' ∧ c' ≤ maxLen ∧ (0 < (σ.nd y).length → b = bs y) ∧ w.grownBy w' none := by
  have G0 := Lib.hid (grown_alloc w (.cells #[.int .i64 k, .int .i64 t', .int .i64 (i : Int), .int .i64 f, .int .i64 j, .int .i64 c, .int .i64 n] 39))
  have B0 := Lib.hid (By.start w k t' i f j c n)
  have ZA := Lib.hid (show Z2 ((w.alloc (.cells #[.int .i64 k, .int .i64 t', .int .i64 (i : Int), .int .i64 f, .int .i64 j, .int .i64 c, .int .i64 n] 39)).alloc (.cells #[.int .i64 0, .int .i64 0] 57)) (w.heap.size + 1) from (Bx.start w k t' i f j c n).zz)
  obtain ⟨s0, s1, s2, s3, s4, s5, s6⟩ := B0.out.sv
  have TW := h.tw ht
  have l16 := h.ok.hl t
  have GE := Lib.hid (fun W (hg : w.grownBy W none) => get_yes (TW.new hg) hi l16 hv)
  have H := Lib.hid h
  obtain ⟨a, b, c', rfl, y1, y2, y3, y4⟩ := h.nv hy
  have Y1 := Lib.hid y1
  obtain ⟨l, hl⟩ : ∃ l, (σ.nd y).length = l := ⟨_, rfl⟩
  rw [hl] at Y1 y2 y4 ⊢
  have l1 : (0 : Int) ≤ (y : Int) := by omega
  have l2 : (y : Int) < (σ.M : Int) := by omega
  have Y2 := Lib.hid (And.intro y2 (And.intro y3 y4))
  clear hv y1 hl y2 y3 y4
  clear h TW
  go_enter Tryd.func69, Tryd.ntmps69
  go_wp2
  go_region_held3 (fun W => W.cell? ⟨w.heap.size, 2, none⟩ = some (.int .i64 (i : Int))) (first | go_keep | with_reducible exact q2) (first
    | (go_at_call 66; (with_reducible refine (GE.out _ (by first | exact G0.out.trans (gr.grown_drew _ _) | exact G0.out.trans ((grown_alloc _ _).trans (gr.grown_drew _ _)) | exact (G0.out.trans (gr.grown_drew _ _)).trans (grown_alloc _ _))).mono ?_); rintro e w1 ⟨rfl, hg⟩; (first | (have hh := Lib.hid ((gr.grown_drew _ none).trans hg); have q2 := hh.out.cell s2 (by simp)) | (have hh := Lib.hid (((grown_alloc _ _).trans (gr.grown_drew _ none)).trans hg); have q2 := hh.out.cell s2 (by simp); obtain ⟨a0, a1, f0, f1⟩ := (Z2.new (ZA.out.new (gr.grown_drew _ none) (by simp)) hg (by simp)).at_)); have G1 := Lib.hid (G0.out.trans hh.out); clear hg))
  all_goals first
    | (obtain ⟨wz, hz⟩ : ∃ wz, wz = (w1.setCell ⟨w.heap.size + 1, 0, none⟩ (.int .i64 2)).setCell ⟨w.heap.size + 1, 1, none⟩ (.int .i64 (y : Int)) := ⟨_, rfl⟩
       have GZ := Lib.hid (show w.grownBy wz none by rw [hz]; exact li.grown_new G1.out (gp.set2 _ _ _ _) (Nat.le_succ _))
       have b0 : wz.cell? ⟨w.heap.size + 1, 0, none⟩ = some (.int .i64 2) := (by rw [hz]; simp [go_sem, a0, a1]); have b1 : wz.cell? ⟨w.heap.size + 1, 1, none⟩ = some (.int .i64 (y : Int)) := (by rw [hz]; simp [go_sem, a0, a1]); rw [← hz]; clear hz
       have hq := H.out.new GZ.out
       have x2 := hq.c2
       have x3 := GZ.out.cell Y1.out (by simp)
       clear hq
       go_wp2
       go_quiet (fail)
       go_wp2
       go_ret2
       exact ⟨b, c', rfl, Y2.out.1, Y2.out.2.1, Y2.out.2.2, GZ.out.trans (by first | exact li.grown_drewN _ _ _ | exact drew2 _ _ _ | exact drew3 _ _ _ _)⟩
      )
    | (obtain ⟨wz, hz⟩ : ∃ wz, wz = w1.alloc (.cells #[.int .i64 2, .int .i64 (y : Int)] 57) := ⟨_, rfl⟩
       have GZ := Lib.hid (show w.grownBy wz none by rw [hz]; exact G1.out.trans (grown_alloc _ _))
       have b0 : wz.cell? ⟨w1.heap.size, 0, none⟩ = some (.int .i64 2) := (by rw [hz]; simp [go_sem]); have b1 : wz.cell? ⟨w1.heap.size, 1, none⟩ = some (.int .i64 (y : Int)) := (by rw [hz]; simp [go_sem]); rw [← hz]; clear hz
       have hq := H.out.new GZ.out
       have x2 := hq.c2
       have x3 := GZ.out.cell Y1.out (by simp)
       clear hq
       go_wp2
       go_quiet (fail)
       go_wp2
       go_ret2
       exact ⟨b, c', rfl, Y2.out.1, Y2.out.2.1, Y2.out.2.2, GZ.out.trans (by first | exact li.grown_drewN _ _ _ | exact drew2 _ _ _ | exact drew3 _ _ _ _)⟩
      )
end
end Go.Proofs.YtfhebjkoojodiaaDoor.gq
