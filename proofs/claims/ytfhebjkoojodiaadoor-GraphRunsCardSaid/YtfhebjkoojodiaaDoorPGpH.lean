/- Texts that this claim stands on. -/
import Derived.BigRegion
import Derived.Test.YtfhebjkoojodiaaDoorPGpF
namespace Go.Proofs.YtfhebjkoojodiaaDoor.gp
open Go.ChangeShapes Go.WideShapes Go.ChangeAt Go.RowKit gen va cd
set_option linter.unusedVariables false
set_option maxHeartbeats 1000000
set_option maxRecDepth 100000
def pu (σ : Gs) (k : Int) (t i f : Nat) (n : Int) : Va :=
  if k = 4 then (1, n) else if k = 6 then (2, 0) else if k = 7 then (σ.hd t).getD i (0, 0) else if k = 9 then (σ.nd ((σ.hd t).getD i (0, 0)).2.toNat).getD f (0, 0) else (0, 0)
theorem set2 (w : World) (B : Nat) (v0 v1 : Value) : w.grownBy ((w.setCell ⟨B, 0, none⟩ v0).setCell ⟨B, 1, none⟩ v1) (some B) := (gr.grown_set _ _ _ _).trans (gr.grown_set _ _ _ _)
section
variable {w : World} {K : List Nat} {g : Nat} {cf : Nat → Int} {σ : Gs}
theorem pushed_4 (h : Gw w K g cf σ) (t i f : Nat) (j c n : Int) (ht : t < σ.N)  : Calls Tryd.prog 46 #[.pointer (some ⟨g, 0, none⟩), .agg #[.int .i64 4, .int .i64 (t : Int), .int .i64 (i : Int), .int .i64 (f : Int), .int .i64 j, .int .i64 c, .int .i64 n]] w
    fun e w' => e = .returned (.agg #[.int .i64 1, .int .i64 n]) ∧ w.grownBy w' none := by
  obtain ⟨R, A, nc, vs, bs, h⟩ := h
  have G0 := Lib.hid ((grown_alloc w (.cells #[.int .i64 4, .int .i64 (t : Int), .int .i64 (i : Int), .int .i64 (f : Int), .int .i64 j, .int .i64 c, .int .i64 n] 39)).trans (grown_alloc _ (.cells #[.int .i64 0, .int .i64 0] 57)))
  have h1 := h.new G0.out
  obtain ⟨s0, s1, s2, s3, s4, s5, s6⟩ := (Sv.new w 39 4 t i f j c n).made (grown_alloc _ (.cells #[.int .i64 0, .int .i64 0] 57))
  have x10 := h1.c10
  have x11 := h1.c11
  obtain ⟨B, m, kk, hm, hm16, t1, hr, hB⟩ := h1.hv ht
  have hN := h.ok.n
  have i1 : (0 : Int) ≤ (t : Int) := by omega
  have i2 : (t : Int) < (σ.N : Int) := by omega
  have H := Lib.hid h1
  have HR := Lib.hid hr
  have OK := Lib.hid h.ok
  have LT := Lib.hid h.lt
  have KB := Lib.hid h.kb
  clear h h1 hr hB
  go_enter Tryd.func46, Tryd.ntmps46
  go_wp2
  go_quiet (fail)
  go_wp2
  exact bodyPost_ret (v := .agg #[.int .i64 1, .int .i64 n]) (by simp [results, Tryd.results46, go_sem]) rfl ⟨rfl, li.grown_new (G0.out.trans (li.grown_drewN _ _ _)) (set2 _ _ _ _) (by simp)⟩
theorem pushed_5 (h : Gw w K g cf σ) (t i f : Nat) (j c n : Int) (ht : t < σ.N)  : Calls Tryd.prog 46 #[.pointer (some ⟨g, 0, none⟩), .agg #[.int .i64 5, .int .i64 (t : Int), .int .i64 (i : Int), .int .i64 (f : Int), .int .i64 j, .int .i64 c, .int .i64 n]] w
    fun e w' => e = .returned (.agg #[.int .i64 0, .int .i64 0]) ∧ w.grownBy w' none := by
  obtain ⟨R, A, nc, vs, bs, h⟩ := h
  have G0 := Lib.hid ((grown_alloc w (.cells #[.int .i64 5, .int .i64 (t : Int), .int .i64 (i : Int), .int .i64 (f : Int), .int .i64 j, .int .i64 c, .int .i64 n] 39)).trans (grown_alloc _ (.cells #[.int .i64 0, .int .i64 0] 57)))
  have h1 := h.new G0.out
  obtain ⟨s0, s1, s2, s3, s4, s5, s6⟩ := (Sv.new w 39 5 t i f j c n).made (grown_alloc _ (.cells #[.int .i64 0, .int .i64 0] 57))
  have x10 := h1.c10
  have x11 := h1.c11
  obtain ⟨B, m, kk, hm, hm16, t1, hr, hB⟩ := h1.hv ht
  have hN := h.ok.n
  have i1 : (0 : Int) ≤ (t : Int) := by omega
  have i2 : (t : Int) < (σ.N : Int) := by omega
  have H := Lib.hid h1
  have HR := Lib.hid hr
  have OK := Lib.hid h.ok
  have LT := Lib.hid h.lt
  have KB := Lib.hid h.kb
  clear h h1 hr hB
  go_enter Tryd.func46, Tryd.ntmps46
  go_wp2
  go_quiet (fail)
  go_wp2
  exact bodyPost_ret (v := .agg #[.int .i64 0, .int .i64 0]) (by simp [results, Tryd.results46, go_sem]) rfl ⟨rfl, li.grown_new (G0.out.trans (li.grown_drewN _ _ _)) (set2 _ _ _ _) (by simp)⟩
theorem pushed_6 (h : Gw w K g cf σ) (t i f : Nat) (j c n : Int) (ht : t < σ.N)  : Calls Tryd.prog 46 #[.pointer (some ⟨g, 0, none⟩), .agg #[.int .i64 6, .int .i64 (t : Int), .int .i64 (i : Int), .int .i64 (f : Int), .int .i64 j, .int .i64 c, .int .i64 n]] w
    fun e w' => e = .returned (.agg #[.int .i64 2, .int .i64 0]) ∧ w.grownBy w' none := by
  obtain ⟨R, A, nc, vs, bs, h⟩ := h
  have G0 := Lib.hid ((grown_alloc w (.cells #[.int .i64 6, .int .i64 (t : Int), .int .i64 (i : Int), .int .i64 (f : Int), .int .i64 j, .int .i64 c, .int .i64 n] 39)).trans (grown_alloc _ (.cells #[.int .i64 0, .int .i64 0] 57)))
  have h1 := h.new G0.out
  obtain ⟨s0, s1, s2, s3, s4, s5, s6⟩ := (Sv.new w 39 6 t i f j c n).made (grown_alloc _ (.cells #[.int .i64 0, .int .i64 0] 57))
  have x10 := h1.c10
  have x11 := h1.c11
  obtain ⟨B, m, kk, hm, hm16, t1, hr, hB⟩ := h1.hv ht
  have hN := h.ok.n
  have i1 : (0 : Int) ≤ (t : Int) := by omega
  have i2 : (t : Int) < (σ.N : Int) := by omega
  have H := Lib.hid h1
  have HR := Lib.hid hr
  have OK := Lib.hid h.ok
  have LT := Lib.hid h.lt
  have KB := Lib.hid h.kb
  clear h h1 hr hB
  go_enter Tryd.func46, Tryd.ntmps46
  go_wp2
  go_quiet (fail)
  go_wp2
  exact bodyPost_ret (v := .agg #[.int .i64 2, .int .i64 0]) (by simp [results, Tryd.results46, go_sem]) rfl ⟨rfl, li.grown_new (G0.out.trans (li.grown_drewN _ _ _)) (set2 _ _ _ _) (by simp)⟩
theorem pushed_7 (h : Gw w K g cf σ) (t i f : Nat) (j c n : Int) (ht : t < σ.N) (hi : i < (σ.hd t).length) {v1 v2 : Int} (hv : (σ.hd t).getD i (0, 0) = (v1, v2)) : Calls Tryd.prog 46 #[.pointer (some ⟨g, 0, none⟩), .agg #[.int .i64 7, .int .i64 (t : Int), .int .i64 (i : Int), .int .i64 (f : Int), .int .i64 j, .int .i64 c, .int .i64 n]] w
    fun e w' => e = .returned (.agg #[.int .i64 v1, .int .i64 v2]) ∧ w.grownBy w' none := by
  obtain ⟨R, A, nc, vs, bs, h⟩ := h
  have G0 := Lib.hid ((grown_alloc w (.cells #[.int .i64 7, .int .i64 (t : Int), .int .i64 (i : Int), .int .i64 (f : Int), .int .i64 j, .int .i64 c, .int .i64 n] 39)).trans (grown_alloc _ (.cells #[.int .i64 0, .int .i64 0] 57)))
  have h1 := h.new G0.out
  obtain ⟨s0, s1, s2, s3, s4, s5, s6⟩ := (Sv.new w 39 7 t i f j c n).made (grown_alloc _ (.cells #[.int .i64 0, .int .i64 0] 57))
  have x10 := h1.c10
  have x11 := h1.c11
  obtain ⟨B, m, kk, hm, hm16, t1, hr, hB⟩ := h1.hv ht
  have hN := h.ok.n
  have i1 : (0 : Int) ≤ (t : Int) := by omega
  have i2 : (t : Int) < (σ.N : Int) := by omega
  have H := Lib.hid h1
  have HR := Lib.hid hr
  have OK := Lib.hid h.ok
  have LT := Lib.hid h.lt
  have KB := Lib.hid h.kb
  obtain ⟨bb, oo, rfl, d0, d1⟩ := HR.out.at_ (i := i) (by omega)
  rw [hv] at d0 d1
  have i3 : (0 : Int) ≤ (i : Int) := by omega
  have i4 : (i : Int) < (m : Int) := by omega
  clear h h1 hr hB
  go_enter Tryd.func46, Tryd.ntmps46
  go_wp2
  go_quiet (fail)
  go_wp2
  exact bodyPost_ret (v := .agg #[.int .i64 v1, .int .i64 v2]) (by simp [results, Tryd.results46, go_sem]) rfl ⟨rfl, li.grown_new (G0.out.trans (li.grown_drewN _ _ _)) (set2 _ _ _ _) (by simp)⟩
theorem pushed_9 (h : Gw w K g cf σ) (t i f : Nat) (j c n : Int) (ht : t < σ.N) (hi : i < (σ.hd t).length) {y : Nat} (hv : (σ.hd t).getD i (0, 0) = (2, (y : Int))) (hy : y < σ.M) (hf : f < (σ.nd y).length) {v1 v2 : Int} (hw : (σ.nd y).getD f (0, 0) = (v1, v2)) : Calls Tryd.prog 46 #[.pointer (some ⟨g, 0, none⟩), .agg #[.int .i64 9, .int .i64 (t : Int), .int .i64 (i : Int), .int .i64 (f : Int), .int .i64 j, .int .i64 c, .int .i64 n]] w
    fun e w' => e = .returned (.agg #[.int .i64 v1, .int .i64 v2]) ∧ w.grownBy w' none := by
  obtain ⟨R, A, nc, vs, bs, h⟩ := h
  have G0 := Lib.hid ((grown_alloc w (.cells #[.int .i64 9, .int .i64 (t : Int), .int .i64 (i : Int), .int .i64 (f : Int), .int .i64 j, .int .i64 c, .int .i64 n] 39)).trans (grown_alloc _ (.cells #[.int .i64 0, .int .i64 0] 57)))
  have h1 := h.new G0.out
  obtain ⟨s0, s1, s2, s3, s4, s5, s6⟩ := (Sv.new w 39 9 t i f j c n).made (grown_alloc _ (.cells #[.int .i64 0, .int .i64 0] 57))
  have x10 := h1.c10
  have x11 := h1.c11
  obtain ⟨B, m, kk, hm, hm16, t1, hr, hB⟩ := h1.hv ht
  have hN := h.ok.n
  have i1 : (0 : Int) ≤ (t : Int) := by omega
  have i2 : (t : Int) < (σ.N : Int) := by omega
  have H := Lib.hid h1
  have HR := Lib.hid hr
  have OK := Lib.hid h.ok
  have LT := Lib.hid h.lt
  have KB := Lib.hid h.kb
  obtain ⟨bb, oo, rfl, d0, d1⟩ := HR.out.at_ (i := i) (by omega)
  rw [hv] at d0 d1
  have i3 : (0 : Int) ≤ (i : Int) := by omega
  have i4 : (i : Int) < (m : Int) := by omega
  obtain ⟨a, rfl, d2⟩ := h1.nv hy
  obtain ⟨e0, e1⟩ := h1.fv hy hf
  rw [hw] at e0 e1
  obtain ⟨l, hl⟩ : ∃ l, (σ.nd y).length = l := ⟨_, rfl⟩
  rw [hl] at d2 hf
  have i5 : (0 : Int) ≤ (y : Int) := by omega
  have i6 : (y : Int) < (σ.M : Int) := by omega
  have i7 : (0 : Int) ≤ (f : Int) := by omega
  have i8 : (f : Int) < (l : Int) := by omega
  clear hl
  clear h h1 hr hB
  go_enter Tryd.func46, Tryd.ntmps46
  go_wp2
  go_quiet (fail)
  go_wp2
  go_region
  go_wp2
  exact bodyPost_ret (v := .agg #[.int .i64 v1, .int .i64 v2]) (by simp [results, Tryd.results46, go_sem]) rfl ⟨rfl, li.grown_new (G0.out.trans (li.grown_drewN _ _ _)) (set2 _ _ _ _) (by simp)⟩
end
end Go.Proofs.YtfhebjkoojodiaaDoor.gp
