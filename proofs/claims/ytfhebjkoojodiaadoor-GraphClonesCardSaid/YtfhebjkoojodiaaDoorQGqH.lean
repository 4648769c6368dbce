/- Texts that this claim stands on. -/
import Derived.Test.YtfhebjkoojodiaaDoorQGqG
namespace Go.Proofs.YtfhebjkoojodiaaDoor.gq
open Go.ChangeShapes Go.WideShapes Go.ChangeAt Go.RowKit gen va cd gp
set_option linter.unusedVariables false
set_option linter.unusedSimpArgs false
set_option maxHeartbeats 1000000
set_option maxRecDepth 100000
section
variable {w : World} {K : List Nat} {g : Nat} {σ : Gs} {R tc : Nat} {A : Option Addr} {nc : Nat} {vs : Nat → Value} {bs : Nat → Nat}
theorem push_no {o : Nat} {m : List Va} {b : Bool} (h : Tw w R o m b) (h16 : m.length = 16) (v1 v2 : Int) : Calls Tryd.prog 64 #[.pointer (some ⟨R, o, none⟩), .agg #[.int .i64 v1, .int .i64 v2]] w
    fun e w' => e = .returned (.int .i64 3) ∧ w.grownBy w' none := by
  have G0 := Lib.hid (grown_alloc w (.cells #[.int .i64 v1, .int .i64 v2] 57))
  have FU := Lib.hid (fun W (hg : w.grownBy W none) => full_any (h.new hg) (d := true) (by simp; omega))
  clear h
  go_enter Tryd.func64, Tryd.ntmps64
  go_wp2_with (first | (go_at_call 63; (with_reducible refine (FU.out _ G0.out).mono ?_); rintro e w1 ⟨rfl, hw⟩; subst hw))
  go_ret
  exact ⟨rfl, G0.out⟩
theorem Tset.from_ {o : Nat} {m : List Va} {b : Bool} {w1 w' : World} (h : Tset w1 R o m b w') (hg : w.grownBy w1 none) (hR : R < w.heap.size) : Tset w R o m b w' := by
  refine ⟨(gr.Gr.new hg).trans h.1, fun cs e => ?_⟩
  obtain ⟨cs', h1, h2⟩ := h.2 cs (gr.Gr.heap (L := []) (.new hg) e (by simp))
  exact ⟨cs', h1, h2⟩
theorem Tset.z2 {o B : Nat} {m : List Va} {b : Bool} {w1 w' : World} (h : Tset w1 R o m b w') (hz : Z2 w1 B) (hB : B < w1.heap.size) (hR : B ≠ R) : Z2 w' B := hz.gr h.1 hB (by simpa using hR)
theorem Tset.cell {o : Nat} {m : List Va} {b : Bool} {w1 w' : World} {p : Addr} {v : Value} (h : Tset w1 R o m b w') (hz : w1.cell? p = some v) (hR : p.block ≠ R) : w'.cell? p = some v := h.1.cell hz (by simpa using hR)
theorem lay_y {o : Nat} {m : List Va} {b : Bool} (h : Tw w R o m b) (h16 : m.length < 16) (k t' i f j c n : Int) {x1 x2 : Int} (VE : ∀ W, w.grownBy W none → Calls Tryd.prog 65 #[.pointer (some ⟨g, 0, none⟩), .pointer (some ⟨R, o, none⟩), .agg #[.int .i64 k, .int .i64 t', .int .i64 i, .int .i64 f, .int .i64 j, .int .i64 c, .int .i64 n]] W fun e w' => e = .returned (.tuple #[.agg #[.int .i64 x1, .int .i64 x2], .int .i64 0]) ∧ W.grownBy w' none) :
    Calls Tryd.prog 54 #[.pointer (some ⟨g, 0, none⟩), .pointer (some ⟨R, o, none⟩), .agg #[.int .i64 k, .int .i64 t', .int .i64 i, .int .i64 f, .int .i64 j, .int .i64 c, .int .i64 n]] w fun e w' => e = .returned (.tuple #[.agg #[.int .i64 x1, .int .i64 x2], .int .i64 0]) ∧ Tset w R o (m ++ [(x1, x2)]) b w' := by
  obtain ⟨w0, hw0⟩ : ∃ w0, w0 = (w.alloc (.cells #[.int .i64 k, .int .i64 t', .int .i64 i, .int .i64 f, .int .i64 j, .int .i64 c, .int .i64 n] 39)).alloc (.cells #[.int .i64 0, .int .i64 0] 57) := ⟨_, rfl⟩
  have B0 := Lib.hid (show Bx w k t' i f j c n w0 by rw [hw0]; exact Bx.start _ _ _ _ _ _ _ _)
  have HW := Lib.hid hw0
  clear hw0
  have VX := Lib.hid VE
  have LT := Lib.hid h.lt
  have PX := Lib.hid (fun W (hg : w.grownBy W none) => push_yes (h.new hg) h16 x1 x2)
  have ne0 : R ≠ w.heap.size + 1 := by have := LT.out; omega
  have ne0' := ne0.symm
  clear VE h
  go_enter Tryd.func54, Tryd.ntmps54
  go_wp2_with (first
    | (rw [← HW.out]; go_at_call 65; (with_reducible refine (VX.out _ B0.out.grow).mono ?_); rintro e w1 ⟨rfl, hg⟩; have N1 := Lib.hid (B0.out.new hg); clear hg))
  obtain ⟨wv, hwv⟩ : ∃ wv, wv = w1.alloc (.cells #[.int .i64 x1, .int .i64 x2] 57) := ⟨_, rfl⟩
  have B1 := Lib.hid (show Bx w k t' i f j c n wv by rw [hwv]; exact N1.out.new (grown_alloc _ _))
  have u0 : wv.cell? ⟨w1.heap.size, 0, none⟩ = some (.int .i64 x1) := by rw [hwv]; simp [go_sem]
  have u1 : wv.cell? ⟨w1.heap.size, 1, none⟩ = some (.int .i64 x2) := by rw [hwv]; simp [go_sem]
  have sz : w.heap.size + 2 ≤ w1.heap.size := N1.out.sz
  have ne1 : w1.heap.size ≠ w.heap.size + 1 := by omega
  have ne1' := ne1.symm
  have ne2 : R ≠ w1.heap.size := by have := LT.out; omega
  have ne2' := ne2.symm
  rw [← hwv]
  clear hwv
  obtain ⟨⟨a0, a1, f0, f1⟩, -⟩ := B1.out.at_
  go_region_held3 (fun W => W.cell? ⟨w1.heap.size, 0, none⟩ = some (.int .i64 x1) ∧ W.cell? ⟨w1.heap.size, 1, none⟩ = some (.int .i64 x2)) (first | go_keep | with_reducible exact ⟨q1, q2⟩) (first
    | (go_at_call 64; (with_reducible refine (PX.out _ (by first | exact B1.out.grow.trans (gr.grown_drew _ _) | exact (B1.out.fin _ _).trans (gr.grown_drew _ _))).mono ?_); rintro e wf ⟨rfl, hg⟩; (first
      | (have hh := Lib.hid (Tset.from_ hg (gr.grown_drew wv none) (by have := LT.out; have := B1.out.grow.size; omega)); have q1 := hh.out.cell u0 ne2'; have q2 := hh.out.cell u1 ne2'; have ZF := Lib.hid (hh.out.z2 B1.out.zz (by have := B1.out.sz; omega) ne0'); clear a0 a1 f0 f1; obtain ⟨a0, a1, f0, f1⟩ := ZF.out.at_; clear hg)
      | (have hh := Lib.hid (Tset.from_ hg ((B1.out.fin _ _).trans (gr.grown_drew _ none)) LT.out); have q1 := hg.cell (p := ⟨w1.heap.size, 0, none⟩) (v := .int .i64 x1) (by simp [go_sem, u0, *]) ne2'; have q2 := hg.cell (p := ⟨w1.heap.size, 1, none⟩) (v := .int .i64 x2) (by simp [go_sem, u1, *]) ne2'; have r0 := hg.cell (p := ⟨w.heap.size + 1, 0, none⟩) (v := .int .i64 x1) (by simp [go_sem, a0, a1]) ne0'; have r1 := hg.cell (p := ⟨w.heap.size + 1, 1, none⟩) (v := .int .i64 x2) (by simp [go_sem, a0, a1]) ne0'; clear hg))))
  all_goals go_wp2
  all_goals first
    | (refine bodyPost_ret (v := .tuple #[.agg #[.int .i64 x1, .int .i64 x2], .int .i64 0]) (by simp [results, Tryd.results54, go_sem, a0, a1]) rfl ⟨rfl, (hh.out.from_ B1.out.grow LT.out).after (World.grownBy.refl _ none) (Nat.le_succ _) LT.out (.one (gp.set2 _ _ _ _) (by simp))⟩)
    | (refine bodyPost_ret (v := .tuple #[.agg #[.int .i64 x1, .int .i64 x2], .int .i64 0]) (by simp [results, Tryd.results54, go_sem, r0, r1]) rfl ⟨rfl, hh.out⟩)
theorem lay_full {o : Nat} {m : List Va} {b : Bool} (h : Tw w R o m b) (h16 : m.length = 16) (k t' i f j c n : Int) {x1 x2 : Int} (VE : ∀ W, w.grownBy W none → Calls Tryd.prog 65 #[.pointer (some ⟨g, 0, none⟩), .pointer (some ⟨R, o, none⟩), .agg #[.int .i64 k, .int .i64 t', .int .i64 i, .int .i64 f, .int .i64 j, .int .i64 c, .int .i64 n]] W fun e w' => e = .returned (.tuple #[.agg #[.int .i64 x1, .int .i64 x2], .int .i64 0]) ∧ W.grownBy w' none) :
    Calls Tryd.prog 54 #[.pointer (some ⟨g, 0, none⟩), .pointer (some ⟨R, o, none⟩), .agg #[.int .i64 k, .int .i64 t', .int .i64 i, .int .i64 f, .int .i64 j, .int .i64 c, .int .i64 n]] w fun e w' => e = .returned (.tuple #[.agg #[.int .i64 x1, .int .i64 x2], .int .i64 3]) ∧ w.grownBy w' none := by
  obtain ⟨w0, hw0⟩ : ∃ w0, w0 = (w.alloc (.cells #[.int .i64 k, .int .i64 t', .int .i64 i, .int .i64 f, .int .i64 j, .int .i64 c, .int .i64 n] 39)).alloc (.cells #[.int .i64 0, .int .i64 0] 57) := ⟨_, rfl⟩
  have B0 := Lib.hid (show Bx w k t' i f j c n w0 by rw [hw0]; exact Bx.start _ _ _ _ _ _ _ _)
  have HW := Lib.hid hw0
  clear hw0
  have VX := Lib.hid VE
  have LT := Lib.hid h.lt
  have PX := Lib.hid (fun W (hg : w.grownBy W none) => push_no (h.new hg) h16 x1 x2)
  have ne0 : R ≠ w.heap.size + 1 := by have := LT.out; omega
  have ne0' := ne0.symm
  clear VE h
  go_enter Tryd.func54, Tryd.ntmps54
  go_wp2_with (first
    | (rw [← HW.out]; go_at_call 65; (with_reducible refine (VX.out _ B0.out.grow).mono ?_); rintro e w1 ⟨rfl, hg⟩; have N1 := Lib.hid (B0.out.new hg); clear hg))
  obtain ⟨wv, hwv⟩ : ∃ wv, wv = w1.alloc (.cells #[.int .i64 x1, .int .i64 x2] 57) := ⟨_, rfl⟩
  have B1 := Lib.hid (show Bx w k t' i f j c n wv by rw [hwv]; exact N1.out.new (grown_alloc _ _))
  have u0 : wv.cell? ⟨w1.heap.size, 0, none⟩ = some (.int .i64 x1) := by rw [hwv]; simp [go_sem]
  have u1 : wv.cell? ⟨w1.heap.size, 1, none⟩ = some (.int .i64 x2) := by rw [hwv]; simp [go_sem]
  have sz : w.heap.size + 2 ≤ w1.heap.size := N1.out.sz
  have ne1 : w1.heap.size ≠ w.heap.size + 1 := by omega
  have ne1' := ne1.symm
  have ne2 : R ≠ w1.heap.size := by have := LT.out; omega
  have ne2' := ne2.symm
  rw [← hwv]
  clear hwv
  obtain ⟨⟨a0, a1, f0, f1⟩, -⟩ := B1.out.at_
  go_region_held3 (fun W => W.cell? ⟨w1.heap.size, 0, none⟩ = some (.int .i64 x1) ∧ W.cell? ⟨w1.heap.size, 1, none⟩ = some (.int .i64 x2)) (first | go_keep | with_reducible exact ⟨q1, q2⟩) (first
    | (go_at_call 64; (with_reducible refine (PX.out _ (by first | exact B1.out.grow.trans (gr.grown_drew _ _) | exact (B1.out.fin _ _).trans (gr.grown_drew _ _))).mono ?_); rintro e wf ⟨rfl, hg⟩; (first
      | (have hh := Lib.hid ((gr.grown_drew wv none).trans hg); have q1 := hh.out.cell u0 (by simp); have q2 := hh.out.cell u1 (by simp); have B2 := Lib.hid (B1.out.new hh.out); clear a0 a1 f0 f1; obtain ⟨⟨a0, a1, f0, f1⟩, -⟩ := B2.out.at_; clear hg)
      | (have hh := Lib.hid (((B1.out.fin _ _).trans (gr.grown_drew _ none)).trans hg); have q1 := hg.cell (a := ⟨w1.heap.size, 0, none⟩) (v := .int .i64 x1) (by simp [go_sem, u0, *]) (by simp); have q2 := hg.cell (a := ⟨w1.heap.size, 1, none⟩) (v := .int .i64 x2) (by simp [go_sem, u1, *]) (by simp); have r0 := hg.cell (a := ⟨w.heap.size + 1, 0, none⟩) (v := .int .i64 x1) (by simp [go_sem, a0, a1]) (by simp); have r1 := hg.cell (a := ⟨w.heap.size + 1, 1, none⟩) (v := .int .i64 x2) (by simp [go_sem, a0, a1]) (by simp); clear hg))))
  all_goals go_wp2
  all_goals first
    | (refine bodyPost_ret (v := .tuple #[.agg #[.int .i64 x1, .int .i64 x2], .int .i64 3]) (by simp [results, Tryd.results54, go_sem, a0, a1]) rfl ⟨rfl, B2.out.fin _ _⟩)
    | (refine bodyPost_ret (v := .tuple #[.agg #[.int .i64 x1, .int .i64 x2], .int .i64 3]) (by simp [results, Tryd.results54, go_sem, r0, r1]) rfl ⟨rfl, hh.out⟩)
theorem lay_e (o : Nat) (k t' i f j c n : Int) {x1 x2 z : Int} (h0 : (z != 0) = true) (VE : ∀ W, w.grownBy W none → Calls Tryd.prog 65 #[.pointer (some ⟨g, 0, none⟩), .pointer (some ⟨R, o, none⟩), .agg #[.int .i64 k, .int .i64 t', .int .i64 i, .int .i64 f, .int .i64 j, .int .i64 c, .int .i64 n]] W fun e w' => e = .returned (.tuple #[.agg #[.int .i64 x1, .int .i64 x2], .int .i64 z]) ∧ W.grownBy w' none) :
    Calls Tryd.prog 54 #[.pointer (some ⟨g, 0, none⟩), .pointer (some ⟨R, o, none⟩), .agg #[.int .i64 k, .int .i64 t', .int .i64 i, .int .i64 f, .int .i64 j, .int .i64 c, .int .i64 n]] w fun e w' => e = .returned (.tuple #[.agg #[.int .i64 0, .int .i64 0], .int .i64 z]) ∧ w.grownBy w' none := by
  obtain ⟨w0, hw0⟩ : ∃ w0, w0 = (w.alloc (.cells #[.int .i64 k, .int .i64 t', .int .i64 i, .int .i64 f, .int .i64 j, .int .i64 c, .int .i64 n] 39)).alloc (.cells #[.int .i64 0, .int .i64 0] 57) := ⟨_, rfl⟩
  have B0 := Lib.hid (show Bx w k t' i f j c n w0 by rw [hw0]; exact Bx.start _ _ _ _ _ _ _ _)
  have HW := Lib.hid hw0
  clear hw0
  have VX := Lib.hid VE
  clear VE
  go_enter Tryd.func54, Tryd.ntmps54
  go_wp2_with (first
    | (rw [← HW.out]; go_at_call 65; (with_reducible refine (VX.out _ B0.out.grow).mono ?_); rintro e w1 ⟨rfl, hg⟩; have B1 := Lib.hid (B0.out.new hg); have B2 := Lib.hid (B1.out.new (grown_alloc w1 (.cells #[.int .i64 x1, .int .i64 x2] 57))); obtain ⟨⟨a0, a1, f0, f1⟩, s0, s1, s2, s3, s4, s5, s6⟩ := B2.out.at_; clear hg))
  refine bodyPost_ret (v := .tuple #[.agg #[.int .i64 0, .int .i64 0], .int .i64 z]) (by simp [results, Tryd.results54, go_sem, *]) rfl ⟨rfl, B2.out.fin _ _⟩
end
end Go.Proofs.YtfhebjkoojodiaaDoor.gq
