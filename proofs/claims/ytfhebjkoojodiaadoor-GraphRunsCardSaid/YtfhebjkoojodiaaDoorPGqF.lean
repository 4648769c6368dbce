/- Texts that this claim stands on. -/
import Derived.Test.YtfhebjkoojodiaaDoorPGqE
namespace Go.Proofs.YtfhebjkoojodiaaDoor.gq
open Go.ChangeShapes Go.WideShapes Go.ChangeAt Go.RowKit gen va cd gp
set_option linter.unusedVariables false
set_option linter.unusedSimpArgs false
set_option maxHeartbeats 1000000
set_option maxRecDepth 100000
section
variable {w : World} {K : List Nat} {g : Nat} {σ : Gs} {R tc : Nat} {A : Option Addr} {nc : Nat} {vs : Nat → Value} {bs : Nat → Nat}
theorem field_e (o : Nat) (k t' i f j c n : Int) {z : Int} (h0 : (z != 0) = true) (FE : ∀ W, w.grownBy W none → Calls Tryd.prog 69 #[.pointer (some ⟨g, 0, none⟩), .pointer (some ⟨R, o, none⟩), .agg #[.int .i64 k, .int .i64 t', .int .i64 i, .int .i64 f, .int .i64 j, .int .i64 c, .int .i64 n]] W fun e w' => e = .returned (.tuple #[.slice none 0 0, .int .i64 z]) ∧ W.grownBy w' none) :
    Calls Tryd.prog 67 #[.pointer (some ⟨g, 0, none⟩), .pointer (some ⟨R, o, none⟩), .agg #[.int .i64 k, .int .i64 t', .int .i64 i, .int .i64 f, .int .i64 j, .int .i64 c, .int .i64 n]] w fun e w' => e = .returned (.tuple #[.pointer none, .int .i64 z]) ∧ w.grownBy w' none := by
  have B0 := Lib.hid (By.start w k t' i f j c n)
  have FX := Lib.hid FE
  clear FE
  go_enter Tryd.func67, Tryd.ntmps67
  go_wp2_with (first
    | (go_at_call 69; (with_reducible refine (FX.out _ B0.out.grow).mono ?_); rintro e w1 ⟨rfl, hg⟩; have B1 := Lib.hid (B0.out.new hg); clear hg))
  go_ret2
  exact ⟨rfl, B1.out.grow⟩
theorem field_f (h : PwI w K g σ R tc A nc vs bs) {t : Nat} (ht : t < σ.N) (k t' j c n : Int) (i f : Nat) (hi : i < (σ.hd t).length) {y : Nat} (hv : (σ.hd t).getD i (0, 0) = (2, (y : Int))) (hy : y < σ.M) (hf : (σ.nd y).length ≤ f) :
    Calls Tryd.prog 67 #[.pointer (some ⟨g, 0, none⟩), .pointer (some ⟨R, t * 34, none⟩), .agg #[.int .i64 k, .int .i64 t', .int .i64 (i : Int), .int .i64 (f : Int), .int .i64 j, .int .i64 c, .int .i64 n]] w fun e w' => e = .returned (.tuple #[.pointer none, .int .i64 4]) ∧ w.grownBy w' none := by
  have B0 := Lib.hid (By.start w k t' i f j c n)
  have FX := Lib.hid (fun W (hg : w.grownBy W none) => fields_y (h.new hg) ht k t' f j c n i hi hv hy)
  obtain ⟨l, hl⟩ : ∃ l, (σ.nd y).length = l := ⟨_, rfl⟩
  rw [hl] at hf FX
  clear h hv hl
  have d1 : decide ((l : Int) ≤ (f : Int)) = true := decide_eq_true (by omega)
  go_enter Tryd.func67, Tryd.ntmps67
  go_wp2_with (first
    | (go_at_call 69; (with_reducible refine (FX.out _ B0.out.grow).mono ?_); rintro e w1 ⟨b, c', rfl, -, -, -, hg⟩; have B1 := Lib.hid (B0.out.new hg); obtain ⟨s0, s1, s2, s3, s4, s5, s6⟩ := B1.out.sv; clear hg))
  go_ret2
  exact ⟨rfl, B1.out.grow⟩
theorem field_y (h : PwI w K g σ R tc A nc vs bs) {t : Nat} (ht : t < σ.N) (k t' j c n : Int) (i f : Nat) (hi : i < (σ.hd t).length) {y : Nat} (hv : (σ.hd t).getD i (0, 0) = (2, (y : Int))) (hy : y < σ.M) (hf : f < (σ.nd y).length) :
    Calls Tryd.prog 67 #[.pointer (some ⟨g, 0, none⟩), .pointer (some ⟨R, t * 34, none⟩), .agg #[.int .i64 k, .int .i64 t', .int .i64 (i : Int), .int .i64 (f : Int), .int .i64 j, .int .i64 c, .int .i64 n]] w fun e w' => e = .returned (.tuple #[.pointer (some ⟨bs y, f * 2, none⟩), .int .i64 0]) ∧ w.grownBy w' none := by
  have B0 := Lib.hid (By.start w k t' i f j c n)
  have FX := Lib.hid (fun W (hg : w.grownBy W none) => fields_y (h.new hg) ht k t' f j c n i hi hv hy)
  obtain ⟨l, hl⟩ : ∃ l, (σ.nd y).length = l := ⟨_, rfl⟩
  rw [hl] at hf FX
  clear h hv hl
  have d1 : decide ((l : Int) ≤ (f : Int)) = false := decide_eq_false (by omega)
  have l1 : (0 : Int) ≤ (f : Int) := by omega
  have l2 : (f : Int) < (l : Int) := by omega
  have l0 := Lib.hid (show 0 < l by omega)
  go_enter Tryd.func67, Tryd.ntmps67
  go_wp2_with (first
    | (go_at_call 69; (with_reducible refine (FX.out _ B0.out.grow).mono ?_); rintro e w1 ⟨b, c', rfl, -, -, hb, hg⟩; have B1 := Lib.hid (B0.out.new hg); obtain ⟨s0, s1, s2, s3, s4, s5, s6⟩ := B1.out.sv; obtain rfl := hb l0.out; clear hg))
  go_ret2
  exact ⟨rfl, B1.out.grow⟩
theorem size_e (o : Nat) (k t' i f j c n : Int) {z : Int} (h0 : (z != 0) = true) (FE : ∀ W, w.grownBy W none → Calls Tryd.prog 69 #[.pointer (some ⟨g, 0, none⟩), .pointer (some ⟨R, o, none⟩), .agg #[.int .i64 k, .int .i64 t', .int .i64 i, .int .i64 f, .int .i64 j, .int .i64 c, .int .i64 n]] W fun e w' => e = .returned (.tuple #[.slice none 0 0, .int .i64 z]) ∧ W.grownBy w' none) :
    Calls Tryd.prog 58 #[.pointer (some ⟨g, 0, none⟩), .pointer (some ⟨R, o, none⟩), .agg #[.int .i64 k, .int .i64 t', .int .i64 i, .int .i64 f, .int .i64 j, .int .i64 c, .int .i64 n]] w fun e w' => e = .returned (.tuple #[.agg #[.int .i64 0, .int .i64 0], .int .i64 z]) ∧ w.grownBy w' none := by
  obtain ⟨w0, hw0⟩ : ∃ w0, w0 = (w.alloc (.cells #[.int .i64 k, .int .i64 t', .int .i64 i, .int .i64 f, .int .i64 j, .int .i64 c, .int .i64 n] 39)).alloc (.cells #[.int .i64 0, .int .i64 0] 57) := ⟨_, rfl⟩
  have B0 := Lib.hid (show Bx w k t' i f j c n w0 by rw [hw0]; exact Bx.start _ _ _ _ _ _ _ _)
  have HW := Lib.hid hw0
  clear hw0
  have FX := Lib.hid FE
  clear FE
  go_enter Tryd.func58, Tryd.ntmps58
  go_wp2_with (first
    | (rw [← HW.out]; go_at_call 69; (with_reducible refine (FX.out _ B0.out.grow).mono ?_); rintro e w1 ⟨rfl, hg⟩; have B1 := Lib.hid (B0.out.new hg); obtain ⟨⟨a0, a1, f0, f1⟩, s0, s1, s2, s3, s4, s5, s6⟩ := B1.out.at_; clear hg))
  refine bodyPost_ret (v := .tuple #[.agg #[.int .i64 0, .int .i64 0], .int .i64 z]) (by simp [results, Tryd.results58, go_sem, *]) rfl ⟨rfl, B1.out.fin _ _⟩
theorem size_y (h : PwI w K g σ R tc A nc vs bs) {t : Nat} (ht : t < σ.N) (k t' f j c n : Int) (i : Nat) (hi : i < (σ.hd t).length) {y : Nat} (hv : (σ.hd t).getD i (0, 0) = (2, (y : Int))) (hy : y < σ.M) {l : Nat} (hl : (σ.nd y).length = l) :
    Calls Tryd.prog 58 #[.pointer (some ⟨g, 0, none⟩), .pointer (some ⟨R, t * 34, none⟩), .agg #[.int .i64 k, .int .i64 t', .int .i64 (i : Int), .int .i64 f, .int .i64 j, .int .i64 c, .int .i64 n]] w fun e w' => e = .returned (.tuple #[.agg #[.int .i64 1, .int .i64 (l : Int)], .int .i64 0]) ∧ w.grownBy w' none := by
  obtain ⟨w0, hw0⟩ : ∃ w0, w0 = (w.alloc (.cells #[.int .i64 k, .int .i64 t', .int .i64 (i : Int), .int .i64 f, .int .i64 j, .int .i64 c, .int .i64 n] 39)).alloc (.cells #[.int .i64 0, .int .i64 0] 57) := ⟨_, rfl⟩
  have B0 := Lib.hid (show Bx w k t' i f j c n w0 by rw [hw0]; exact Bx.start _ _ _ _ _ _ _ _)
  have HW := Lib.hid hw0
  clear hw0
  have FX := Lib.hid (fun W (hg : w.grownBy W none) => fields_y (h.new hg) ht k t' f j c n i hi hv hy)
  have l127 := h.ok.nl y
  rw [hl] at FX l127
  have NU := Lib.hid (fun W => Number_any (l : Int) W (by unfold nk; simp; omega))
  clear h hv hl
  go_enter Tryd.func58, Tryd.ntmps58
  go_wp2_with (first
    | (rw [← HW.out]; go_at_call 69; (with_reducible refine (FX.out _ B0.out.grow).mono ?_); rintro e w1 ⟨b, c', rfl, -, -, -, hg⟩; have B1 := Lib.hid (B0.out.new hg); obtain ⟨⟨a0, a1, f0, f1⟩, s0, s1, s2, s3, s4, s5, s6⟩ := B1.out.at_; clear hg)
    | (go_at_call 68; (with_reducible refine (NU.out _).mono ?_); rintro e w2 ⟨rfl, hg⟩; have B2 := Lib.hid (B1.out.new hg); clear a0 a1 f0 f1 s0 s1 s2 s3 s4 s5 s6; obtain ⟨⟨a0, a1, f0, f1⟩, s0, s1, s2, s3, s4, s5, s6⟩ := B2.out.at_; clear hg))
  refine bodyPost_ret (v := .tuple #[.agg #[.int .i64 1, .int .i64 (l : Int)], .int .i64 0]) (by simp [results, Tryd.results58, go_sem, *]) rfl ⟨rfl, B2.out.fin _ _⟩
theorem value_5 (o : Nat) (t' i f j c n : Int) : Calls Tryd.prog 65 #[.pointer (some ⟨g, 0, none⟩), .pointer (some ⟨R, o, none⟩), .agg #[.int .i64 5, .int .i64 t', .int .i64 i, .int .i64 f, .int .i64 j, .int .i64 c, .int .i64 n]] w fun e w' => e = .returned (.tuple #[.agg #[.int .i64 0, .int .i64 0], .int .i64 0]) ∧ w.grownBy w' none := by
  go_enter Tryd.func65, Tryd.ntmps65
  go_wp2
  refine bodyPost_ret (v := .tuple #[.agg #[.int .i64 0, .int .i64 0], .int .i64 0]) (by simp [results, Tryd.results65, go_sem, *]) rfl ⟨rfl, ?_⟩
  exact (grown_alloc _ _).trans (grown_alloc _ _)
theorem value_6 (o : Nat) (t' i f j c n : Int) : Calls Tryd.prog 65 #[.pointer (some ⟨g, 0, none⟩), .pointer (some ⟨R, o, none⟩), .agg #[.int .i64 6, .int .i64 t', .int .i64 i, .int .i64 f, .int .i64 j, .int .i64 c, .int .i64 n]] w fun e w' => e = .returned (.tuple #[.agg #[.int .i64 2, .int .i64 0], .int .i64 0]) ∧ w.grownBy w' none := by
  obtain ⟨w0, hw0⟩ : ∃ w0, w0 = (w.alloc (.cells #[.int .i64 6, .int .i64 t', .int .i64 i, .int .i64 f, .int .i64 j, .int .i64 c, .int .i64 n] 39)).alloc (.cells #[.int .i64 0, .int .i64 0] 57) := ⟨_, rfl⟩
  have B0 := Lib.hid (show Bx w 6 t' i f j c n w0 by rw [hw0]; exact Bx.start _ _ _ _ _ _ _ _)
  have HW := Lib.hid hw0
  clear hw0
  go_enter Tryd.func65, Tryd.ntmps65
  go_wp2_with (first
    | (rw [← HW.out]; go_at_call 34; (with_reducible refine (reference_any 0 _).mono ?_); rintro e w1 ⟨rfl, hg⟩; have B1 := Lib.hid (B0.out.new hg); obtain ⟨⟨a0, a1, f0, f1⟩, s0, s1, s2, s3, s4, s5, s6⟩ := B1.out.at_; clear hg))
  refine bodyPost_ret (v := .tuple #[.agg #[.int .i64 2, .int .i64 0], .int .i64 0]) (by simp [results, Tryd.results65, go_sem, *]) rfl ⟨rfl, B1.out.fin _ _⟩
theorem value_9e (o : Nat) (t' i f j c n : Int) {z : Int} (h0 : (z != 0) = true) (FE : ∀ W, w.grownBy W none → Calls Tryd.prog 67 #[.pointer (some ⟨g, 0, none⟩), .pointer (some ⟨R, o, none⟩), .agg #[.int .i64 9, .int .i64 t', .int .i64 i, .int .i64 f, .int .i64 j, .int .i64 c, .int .i64 n]] W fun e w' => e = .returned (.tuple #[.pointer none, .int .i64 z]) ∧ W.grownBy w' none) :
    Calls Tryd.prog 65 #[.pointer (some ⟨g, 0, none⟩), .pointer (some ⟨R, o, none⟩), .agg #[.int .i64 9, .int .i64 t', .int .i64 i, .int .i64 f, .int .i64 j, .int .i64 c, .int .i64 n]] w fun e w' => e = .returned (.tuple #[.agg #[.int .i64 0, .int .i64 0], .int .i64 z]) ∧ w.grownBy w' none := by
  obtain ⟨w0, hw0⟩ : ∃ w0, w0 = (w.alloc (.cells #[.int .i64 9, .int .i64 t', .int .i64 i, .int .i64 f, .int .i64 j, .int .i64 c, .int .i64 n] 39)).alloc (.cells #[.int .i64 0, .int .i64 0] 57) := ⟨_, rfl⟩
  have B0 := Lib.hid (show Bx w 9 t' i f j c n w0 by rw [hw0]; exact Bx.start _ _ _ _ _ _ _ _)
  have HW := Lib.hid hw0
  clear hw0
  have FX := Lib.hid FE
  clear FE
  go_enter Tryd.func65, Tryd.ntmps65
  go_wp2_with (first
    | (rw [← HW.out]; go_at_call 67; (with_reducible refine (FX.out _ B0.out.grow).mono ?_); rintro e w1 ⟨rfl, hg⟩; have B1 := Lib.hid (B0.out.new hg); obtain ⟨⟨a0, a1, f0, f1⟩, s0, s1, s2, s3, s4, s5, s6⟩ := B1.out.at_; clear hg))
  refine bodyPost_ret (v := .tuple #[.agg #[.int .i64 0, .int .i64 0], .int .i64 z]) (by simp [results, Tryd.results65, go_sem, *]) rfl ⟨rfl, B1.out.fin _ _⟩
theorem value_9y (h : PwI w K g σ R tc A nc vs bs) {t : Nat} (ht : t < σ.N) (t' j c n : Int) (i f : Nat) (hi : i < (σ.hd t).length) {y : Nat} (hv : (σ.hd t).getD i (0, 0) = (2, (y : Int))) (hy : y < σ.M) (hf : f < (σ.nd y).length) {v1 v2 : Int} (hw : (σ.nd y).getD f (0, 0) = (v1, v2)) :
    Calls Tryd.prog 65 #[.pointer (some ⟨g, 0, none⟩), .pointer (some ⟨R, t * 34, none⟩), .agg #[.int .i64 9, .int .i64 t', .int .i64 (i : Int), .int .i64 (f : Int), .int .i64 j, .int .i64 c, .int .i64 n]] w fun e w' => e = .returned (.tuple #[.agg #[.int .i64 v1, .int .i64 v2], .int .i64 0]) ∧ w.grownBy w' none := by
  obtain ⟨w0, hw0⟩ : ∃ w0, w0 = (w.alloc (.cells #[.int .i64 9, .int .i64 t', .int .i64 (i : Int), .int .i64 (f : Int), .int .i64 j, .int .i64 c, .int .i64 n] 39)).alloc (.cells #[.int .i64 0, .int .i64 0] 57) := ⟨_, rfl⟩
  have B0 := Lib.hid (show Bx w 9 t' i f j c n w0 by rw [hw0]; exact Bx.start _ _ _ _ _ _ _ _)
  have HW := Lib.hid hw0
  clear hw0
  have FX := Lib.hid (fun W (hg : w.grownBy W none) => field_y (h.new hg) ht 9 t' j c n i f hi hv hy hf)
  have V := h.fv hy hf
  rw [hw] at V
  have YY := Lib.hid V
  clear h hv hw V
  go_enter Tryd.func65, Tryd.ntmps65
  go_wp2_with (first
    | (rw [← HW.out]; go_at_call 67; (with_reducible refine (FX.out _ B0.out.grow).mono ?_); rintro e w1 ⟨rfl, hg⟩; have B1 := Lib.hid (B0.out.new hg); obtain ⟨⟨a0, a1, f0, f1⟩, s0, s1, s2, s3, s4, s5, s6⟩ := B1.out.at_; have y0 := B1.out.grow.cell YY.out.1 (by simp); have y1 := B1.out.grow.cell YY.out.2 (by simp); clear hg))
  refine bodyPost_ret (v := .tuple #[.agg #[.int .i64 v1, .int .i64 v2], .int .i64 0]) (by simp [results, Tryd.results65, go_sem, *]) rfl ⟨rfl, B1.out.fin _ _⟩
end
end Go.Proofs.YtfhebjkoojodiaaDoor.gq
