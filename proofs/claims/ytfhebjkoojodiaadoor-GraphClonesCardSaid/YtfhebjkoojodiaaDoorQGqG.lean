/- Texts that this claim stands on. -/
import Derived.Test.YtfhebjkoojodiaaDoorQGqF
namespace Go.Proofs.YtfhebjkoojodiaaDoor.gq
open Go.ChangeShapes Go.WideShapes Go.ChangeAt Go.RowKit gen va cd gp
set_option linter.unusedVariables false
set_option linter.unusedSimpArgs false
set_option maxHeartbeats 1000000
set_option maxRecDepth 100000
section
variable {w : World} {K : List Nat} {g : Nat} {σ : Gs} {R tc : Nat} {A : Option Addr} {nc : Nat} {vs : Nat → Value} {bs : Nat → Nat}
theorem wCheck_z (n : Int) (w : World) {z : Int} (hz : (if nk n = true then 0 else 4) = z) : Calls Tryd.prog 70 #[.agg #[.int .i64 1, .int .i64 n]] w fun e w' => e = .returned (.int .i64 z) ∧ w.grownBy w' none := by
  subst hz
  exact wCheck_any n w rfl
theorem value_4 (o : Nat) (t' i f j c n : Int) {z : Int} (hb : (if nk n = true then 0 else 4) = z) : Calls Tryd.prog 65 #[.pointer (some ⟨g, 0, none⟩), .pointer (some ⟨R, o, none⟩), .agg #[.int .i64 4, .int .i64 t', .int .i64 i, .int .i64 f, .int .i64 j, .int .i64 c, .int .i64 n]] w fun e w' => e = .returned (.tuple #[.agg #[.int .i64 1, .int .i64 n], .int .i64 z]) ∧ w.grownBy w' none := by
  obtain ⟨w0, hw0⟩ : ∃ w0, w0 = ((w.alloc (.cells #[.int .i64 4, .int .i64 t', .int .i64 i, .int .i64 f, .int .i64 j, .int .i64 c, .int .i64 n] 39)).alloc (.cells #[.int .i64 0, .int .i64 0] 57)).alloc (.cells #[.int .i64 1, .int .i64 n] 57) := ⟨_, rfl⟩
  have B0 := Lib.hid (show Bx w 4 t' i f j c n w0 by rw [hw0]; exact (Bx.start _ _ _ _ _ _ _ _).new (grown_alloc _ _))
  have u0 : w0.cell? ⟨w.heap.size + 1 + 1, 0, none⟩ = some (.int .i64 1) := by rw [hw0]; simp [go_sem]
  have u1 : w0.cell? ⟨w.heap.size + 1 + 1, 1, none⟩ = some (.int .i64 n) := by rw [hw0]; simp [go_sem]
  have CH := Lib.hid (fun W => wCheck_z n W hb)
  have HW := Lib.hid hw0
  clear hw0 hb
  obtain ⟨⟨a0, a1, f0, f1⟩, s0, s1, s2, s3, s4, s5, s6⟩ := B0.out.at_
  clear s0 s1 s2 s3 s4 s5 s6
  go_enter Tryd.func65, Tryd.ntmps65
  go_wp2
  rw [← HW.out]
  go_region_held3 (fun W => W.cell? ⟨w.heap.size + 1 + 1, 0, none⟩ = some (.int .i64 1) ∧ W.cell? ⟨w.heap.size + 1 + 1, 1, none⟩ = some (.int .i64 n)) (first | go_keep | with_reducible exact ⟨q1, q2⟩) (first
    | (go_at_call 70; (with_reducible refine (CH.out _).mono ?_); rintro e w1 ⟨rfl, hg⟩; (first
      | (have hh := Lib.hid ((gr.grown_drew _ none).trans hg); have q1 := hh.out.cell u0 (by simp); have q2 := hh.out.cell u1 (by simp); have B1 := Lib.hid (B0.out.new hh.out); clear a0 a1 f0 f1; obtain ⟨⟨a0, a1, f0, f1⟩, -⟩ := B1.out.at_; clear hg)
      | (have hh := Lib.hid ((li.grown_new B0.out.grow ((gp.set2 _ _ _ _).trans (gr.grown_drew _ _)) (Nat.le_succ _)).trans hg); have q1 := hg.cell (a := ⟨w.heap.size + 1 + 1, 0, none⟩) (v := .int .i64 1) (by simp [go_sem, u0]) (by simp); have q2 := hg.cell (a := ⟨w.heap.size + 1 + 1, 1, none⟩) (v := .int .i64 n) (by simp [go_sem, u1]) (by simp); have r0 := hg.cell (a := ⟨w.heap.size + 1, 0, none⟩) (v := .int .i64 1) (by simp [go_sem, a0, a1]) (by simp); have r1 := hg.cell (a := ⟨w.heap.size + 1, 1, none⟩) (v := .int .i64 n) (by simp [go_sem, a0, a1]) (by simp); clear hg))))
  all_goals go_wp2
  all_goals first
    | (refine bodyPost_ret (v := .tuple #[.agg #[.int .i64 1, .int .i64 n], .int .i64 z]) (by simp [results, Tryd.results65, go_sem, a0, a1]) rfl ⟨rfl, B1.out.fin _ _⟩)
    | (refine bodyPost_ret (v := .tuple #[.agg #[.int .i64 1, .int .i64 n], .int .i64 z]) (by simp [results, Tryd.results65, go_sem, r0, r1]) rfl ⟨rfl, hh.out⟩)
theorem value_7 (o : Nat) (t' i f j c n : Int) {x1 x2 z : Int} (GX : ∀ W, w.grownBy W none → Calls Tryd.prog 66 #[.pointer (some ⟨R, o, none⟩), .int .i64 i] W fun e w' => e = .returned (.tuple #[.agg #[.int .i64 x1, .int .i64 x2], .int .i64 z]) ∧ W.grownBy w' none) :
    Calls Tryd.prog 65 #[.pointer (some ⟨g, 0, none⟩), .pointer (some ⟨R, o, none⟩), .agg #[.int .i64 7, .int .i64 t', .int .i64 i, .int .i64 f, .int .i64 j, .int .i64 c, .int .i64 n]] w fun e w' => e = .returned (.tuple #[.agg #[.int .i64 x1, .int .i64 x2], .int .i64 z]) ∧ w.grownBy w' none := by
  obtain ⟨w0, hw0⟩ : ∃ w0, w0 = (w.alloc (.cells #[.int .i64 7, .int .i64 t', .int .i64 i, .int .i64 f, .int .i64 j, .int .i64 c, .int .i64 n] 39)).alloc (.cells #[.int .i64 0, .int .i64 0] 57) := ⟨_, rfl⟩
  have B0 := Lib.hid (show Bx w 7 t' i f j c n w0 by rw [hw0]; exact Bx.start _ _ _ _ _ _ _ _)
  have HW := Lib.hid hw0
  clear hw0
  have GE := Lib.hid GX
  obtain ⟨⟨a0, a1, f0, f1⟩, s0, s1, s2, s3, s4, s5, s6⟩ := B0.out.at_
  clear GX s0 s1 s3 s4 s5 s6
  go_enter Tryd.func65, Tryd.ntmps65
  go_wp2
  rw [← HW.out]
  go_region_held3 (fun W => W.cell? ⟨w.heap.size, 2, none⟩ = some (.int .i64 i)) (first | go_keep | with_reducible exact q1) (first
    | (go_at_call 66; (with_reducible refine (GE.out _ (B0.out.grow.trans (gr.grown_drew _ _))).mono ?_); rintro e w1 ⟨rfl, hg⟩; have hh := Lib.hid ((gr.grown_drew _ none).trans hg); have q1 := hh.out.cell s2 (by simp); have B1 := Lib.hid (B0.out.new hh.out); clear a0 a1 f0 f1; obtain ⟨⟨a0, a1, f0, f1⟩, -⟩ := B1.out.at_; clear hg))
  go_wp2
  refine bodyPost_ret (v := .tuple #[.agg #[.int .i64 x1, .int .i64 x2], .int .i64 z]) (by simp [results, Tryd.results65, go_sem, a0, a1]) rfl ⟨rfl, B1.out.fin _ _⟩
theorem write_e (o : Nat) (k t' i f j c n : Int) {z : Int} (h0 : (z != 0) = true) (FE : ∀ W, w.grownBy W none → Calls Tryd.prog 67 #[.pointer (some ⟨g, 0, none⟩), .pointer (some ⟨R, o, none⟩), .agg #[.int .i64 k, .int .i64 t', .int .i64 i, .int .i64 f, .int .i64 j, .int .i64 c, .int .i64 n]] W fun e w' => e = .returned (.tuple #[.pointer none, .int .i64 z]) ∧ W.grownBy w' none) :
    Calls Tryd.prog 56 #[.pointer (some ⟨g, 0, none⟩), .pointer (some ⟨R, o, none⟩), .agg #[.int .i64 k, .int .i64 t', .int .i64 i, .int .i64 f, .int .i64 j, .int .i64 c, .int .i64 n]] w fun e w' => e = .returned (.int .i64 z) ∧ w.grownBy w' none := by
  have B0 := Lib.hid (By.start w k t' i f j c n)
  have FX := Lib.hid FE
  clear FE
  go_enter Tryd.func56, Tryd.ntmps56
  go_wp2_with (first
    | (go_at_call 67; (with_reducible refine (FX.out _ B0.out.grow).mono ?_); rintro e w1 ⟨rfl, hg⟩; have B1 := Lib.hid (B0.out.new hg); clear hg))
  go_ret
  exact ⟨rfl, B1.out.grow⟩
theorem write_j (h : PwI w K g σ R tc A nc vs bs) {t : Nat} (ht : t < σ.N) (k t' c n : Int) (i f j : Nat) (hi : i < (σ.hd t).length) {y : Nat} (hv : (σ.hd t).getD i (0, 0) = (2, (y : Int))) (hy : y < σ.M) (hf : f < (σ.nd y).length) (hj : (σ.hd t).length ≤ j) :
    Calls Tryd.prog 56 #[.pointer (some ⟨g, 0, none⟩), .pointer (some ⟨R, t * 34, none⟩), .agg #[.int .i64 k, .int .i64 t', .int .i64 (i : Int), .int .i64 (f : Int), .int .i64 (j : Int), .int .i64 c, .int .i64 n]] w fun e w' => e = .returned (.int .i64 4) ∧ w.grownBy w' none := by
  have B0 := Lib.hid (By.start w k t' i f j c n)
  have FX := Lib.hid (fun W (hg : w.grownBy W none) => field_y (h.new hg) ht k t' j c n i f hi hv hy hf)
  have TW := h.tw ht
  have l16 := h.ok.hl t
  have GE := Lib.hid (fun W (hg : w.grownBy W none) => get_no (TW.new hg) (i := (j : Int)) (.inr (by omega)))
  have H := Lib.hid h
  clear h TW hv
  go_enter Tryd.func56, Tryd.ntmps56
  go_wp2_with (first
    | (go_at_call 67; (with_reducible refine (FX.out _ B0.out.grow).mono ?_); rintro e wn ⟨rfl, hg⟩; have B1 := Lib.hid (B0.out.new hg); obtain ⟨s0, s1, s2, s3, s4, s5, s6⟩ := B1.out.sv; have ne1 : w.heap.size ≠ wn.heap.size := (by have := B1.out.sz; omega); have ne2 := ne1.symm; clear hg))
  go_region_held3 (fun W => W.cell? ⟨w.heap.size, 4, none⟩ = some (.int .i64 (j : Int))) (first | go_keep | with_reducible exact q2) (first
    | (go_at_call 66; (with_reducible refine (GE.out _ (by first | exact B1.out.grow.trans (gr.grown_drew _ _) | exact B1.out.grow.trans ((grown_alloc _ _).trans (gr.grown_drew _ _)) | exact (B1.out.grow.trans (gr.grown_drew _ _)).trans (grown_alloc _ _))).mono ?_); rintro e wf ⟨rfl, hg⟩; (first | (have hh := Lib.hid ((gr.grown_drew _ none).trans hg); have q2 := hh.out.cell s4 (by simp)) | (have hh := Lib.hid (((grown_alloc _ _).trans (gr.grown_drew _ none)).trans hg); have q2 := hh.out.cell s4 (by simp); obtain ⟨a0, a1, f0, f1⟩ := (Z2.new (Z2.new (zero2 wn) (gr.grown_drew _ none) (by simp)) hg (by simp)).at_)); clear hg))
  all_goals first
    | (obtain ⟨wz, hz⟩ : ∃ wz, wz = (wf.setCell ⟨wn.heap.size, 0, none⟩ (.int .i64 0)).setCell ⟨wn.heap.size, 1, none⟩ (.int .i64 0) := ⟨_, rfl⟩
       have GZ := Lib.hid (show w.grownBy wz none by rw [hz]; exact li.grown_new (B1.out.grow.trans hh.out) (gp.set2 _ _ _ _) B1.out.grow.size)
       have b0 : wz.cell? ⟨wn.heap.size, 0, none⟩ = some (.int .i64 0) := (by rw [hz]; simp [go_sem, a0, a1]); have b1 : wz.cell? ⟨wn.heap.size, 1, none⟩ = some (.int .i64 0) := (by rw [hz]; simp [go_sem, a0, a1]); rw [← hz]; clear hz
       go_wp2
       go_ret
       exact ⟨rfl, GZ.out⟩
      )
    | (obtain ⟨wz, hz⟩ : ∃ wz, wz = wf.alloc (.cells #[.int .i64 0, .int .i64 0] 57) := ⟨_, rfl⟩
       have GZ := Lib.hid (show w.grownBy wz none by rw [hz]; exact (B1.out.grow.trans hh.out).trans (grown_alloc _ _))
       have b0 : wz.cell? ⟨wf.heap.size, 0, none⟩ = some (.int .i64 0) := (by rw [hz]; simp [go_sem]); have b1 : wz.cell? ⟨wf.heap.size, 1, none⟩ = some (.int .i64 0) := (by rw [hz]; simp [go_sem]); rw [← hz]; clear hz
       go_wp2
       go_ret
       exact ⟨rfl, GZ.out⟩
      )
theorem write_y (h : PwI w K g σ R tc A nc vs bs) {t : Nat} (ht : t < σ.N) (k t' c n : Int) (i f j : Nat) (hi : i < (σ.hd t).length) {y : Nat} (hv : (σ.hd t).getD i (0, 0) = (2, (y : Int))) (hy : y < σ.M) (hf : f < (σ.nd y).length) (hj : j < (σ.hd t).length) {x1 x2 : Int} (hx : (σ.hd t).getD j (0, 0) = (x1, x2)) :
    Calls Tryd.prog 56 #[.pointer (some ⟨g, 0, none⟩), .pointer (some ⟨R, t * 34, none⟩), .agg #[.int .i64 k, .int .i64 t', .int .i64 (i : Int), .int .i64 (f : Int), .int .i64 (j : Int), .int .i64 c, .int .i64 n]] w fun e w' => e = .returned (.int .i64 0) ∧ ∃ wz, w.grownBy wz none ∧ w' = (wz.setCell ⟨bs y, f * 2, none⟩ (.int .i64 x1)).setCell ⟨bs y, f * 2 + 1, none⟩ (.int .i64 x2) := by
  have B0 := Lib.hid (By.start w k t' i f j c n)
  have FX := Lib.hid (fun W (hg : w.grownBy W none) => field_y (h.new hg) ht k t' j c n i f hi hv hy hf)
  have TW := h.tw ht
  have l16 := h.ok.hl t
  have GE := Lib.hid (fun W (hg : w.grownBy W none) => get_yes (TW.new hg) hj l16 hx)
  have H := Lib.hid h
  have Y := Lib.hid (fun W (hg : w.grownBy W none) => And.intro ((h.new hg).fv hy hf) (And.intro ((h.new hg).freeN hy hf (f * 2)) ((h.new hg).freeN hy hf (f * 2 + 1))))
  clear hx
  clear h TW hv
  go_enter Tryd.func56, Tryd.ntmps56
  go_wp2_with (first
    | (go_at_call 67; (with_reducible refine (FX.out _ B0.out.grow).mono ?_); rintro e wn ⟨rfl, hg⟩; have B1 := Lib.hid (B0.out.new hg); obtain ⟨s0, s1, s2, s3, s4, s5, s6⟩ := B1.out.sv; have ne1 : w.heap.size ≠ wn.heap.size := (by have := B1.out.sz; omega); have ne2 := ne1.symm; clear hg))
  go_region_held3 (fun W => W.cell? ⟨w.heap.size, 4, none⟩ = some (.int .i64 (j : Int))) (first | go_keep | with_reducible exact q2) (first
    | (go_at_call 66; (with_reducible refine (GE.out _ (by first | exact B1.out.grow.trans (gr.grown_drew _ _) | exact B1.out.grow.trans ((grown_alloc _ _).trans (gr.grown_drew _ _)) | exact (B1.out.grow.trans (gr.grown_drew _ _)).trans (grown_alloc _ _))).mono ?_); rintro e wf ⟨rfl, hg⟩; (first | (have hh := Lib.hid ((gr.grown_drew _ none).trans hg); have q2 := hh.out.cell s4 (by simp)) | (have hh := Lib.hid (((grown_alloc _ _).trans (gr.grown_drew _ none)).trans hg); have q2 := hh.out.cell s4 (by simp); obtain ⟨a0, a1, f0, f1⟩ := (Z2.new (Z2.new (zero2 wn) (gr.grown_drew _ none) (by simp)) hg (by simp)).at_)); clear hg))
  all_goals first
    | (obtain ⟨wz, hz⟩ : ∃ wz, wz = (wf.setCell ⟨wn.heap.size, 0, none⟩ (.int .i64 x1)).setCell ⟨wn.heap.size, 1, none⟩ (.int .i64 x2) := ⟨_, rfl⟩
       have GZ := Lib.hid (show w.grownBy wz none by rw [hz]; exact li.grown_new (B1.out.grow.trans hh.out) (gp.set2 _ _ _ _) B1.out.grow.size)
       have b0 : wz.cell? ⟨wn.heap.size, 0, none⟩ = some (.int .i64 x1) := (by rw [hz]; simp [go_sem, a0, a1]); have b1 : wz.cell? ⟨wn.heap.size, 1, none⟩ = some (.int .i64 x2) := (by rw [hz]; simp [go_sem, a0, a1]); rw [← hz]; clear hz
       obtain ⟨⟨y0, y1⟩, y2, y3⟩ := Y.out _ GZ.out
       go_wp2
       go_ret
       exact ⟨rfl, _, GZ.out, rfl⟩
      )
    | (obtain ⟨wz, hz⟩ : ∃ wz, wz = wf.alloc (.cells #[.int .i64 x1, .int .i64 x2] 57) := ⟨_, rfl⟩
       have GZ := Lib.hid (show w.grownBy wz none by rw [hz]; exact (B1.out.grow.trans hh.out).trans (grown_alloc _ _))
       have b0 : wz.cell? ⟨wf.heap.size, 0, none⟩ = some (.int .i64 x1) := (by rw [hz]; simp [go_sem]); have b1 : wz.cell? ⟨wf.heap.size, 1, none⟩ = some (.int .i64 x2) := (by rw [hz]; simp [go_sem]); rw [← hz]; clear hz
       obtain ⟨⟨y0, y1⟩, y2, y3⟩ := Y.out _ GZ.out
       go_wp2
       go_ret
       exact ⟨rfl, _, GZ.out, rfl⟩
      )
end
end Go.Proofs.YtfhebjkoojodiaaDoor.gq
