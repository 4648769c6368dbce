/- Texts that this claim stands on. -/
import Derived.Test.YtfhebjkoojodiaaDoorPGpB
namespace Go.Proofs.YtfhebjkoojodiaaDoor.gp
open Go.ChangeShapes Go.WideShapes Go.ChangeAt Go.RowKit gen va cd
set_option linter.unusedVariables false
set_option maxHeartbeats 1000000
set_option maxRecDepth 100000
def nbc (σ : Gs) (k c n : Int) : Int := if nb σ k c n = true then 4 else 0
section
variable {w : World} {K : List Nat} {g : Nat} {cf : Nat → Int} {σ : Gs}
theorem nums_oa (h : Gw w K g cf σ) (k t i f j c n : Int) (k3 : (k == 3) = false) (k4 : (k == 4) = false) (k13 : (k == 13) = false) (k15 : (k == 15) = false) (k16 : (k == 16) = false) (e3 : decide (c < 1) = true) : Calls Tryd.prog 43 #[.pointer (some ⟨g, 0, none⟩), .agg #[.int .i64 k, .int .i64 t, .int .i64 i, .int .i64 f, .int .i64 j, .int .i64 c, .int .i64 n]] w
    fun e w' => e = .returned (.int .i64 (nbc σ k c n)) ∧ w.grownBy w' none := by
  obtain ⟨R, A, nc, vs, bs, h⟩ := h
  have G0 := Lib.hid (grown_alloc w (.cells #[.int .i64 k, .int .i64 t, .int .i64 i, .int .i64 f, .int .i64 j, .int .i64 c, .int .i64 n] 39))
  have h1 := h.new G0.out
  obtain ⟨s0, s1, s2, s3, s4, s5, s6⟩ := Sv.new w 39 k t i f j c n
  have x3 := h1.c_ (i := 3) (by omega)
  rw [h.cq] at x3
  clear h h1 s1 s2 s3 s4
  have W := Lib.hid (show nbc σ k c n = 0 by simp [nbc, nb, k3, k4, k13, k15, k16])
  go_enter Tryd.func43, Tryd.ntmps43
  go_wp2
  go_quiet (fail)
  go_wp2
  go_ret
  exact ⟨by rw [W.out]; rfl, G0.out.trans (li.grown_drewN _ _ _)⟩
theorem nums_3a (h : Gw w K g cf σ) (t i f j c n : Int) (e3 : decide (c < 1) = true) : Calls Tryd.prog 43 #[.pointer (some ⟨g, 0, none⟩), .agg #[.int .i64 3, .int .i64 t, .int .i64 i, .int .i64 f, .int .i64 j, .int .i64 c, .int .i64 n]] w
    fun e w' => e = .returned (.int .i64 (nbc σ 3 c n)) ∧ w.grownBy w' none := by
  obtain ⟨R, A, nc, vs, bs, h⟩ := h
  have G0 := Lib.hid (grown_alloc w (.cells #[.int .i64 3, .int .i64 t, .int .i64 i, .int .i64 f, .int .i64 j, .int .i64 c, .int .i64 n] 39))
  have h1 := h.new G0.out
  obtain ⟨s0, s1, s2, s3, s4, s5, s6⟩ := Sv.new w 39 3 t i f j c n
  have x3 := h1.c_ (i := 3) (by omega)
  rw [h.cq] at x3
  clear h h1 s1 s2 s3 s4
  cases e1 : decide (n < 0)
  case' false => cases e2 : decide (127 < n)
  case true =>
    have W := Lib.hid (show nbc σ 3 c n = 4 by simp only [nbc, nb, e1, e3]; rfl)
    go_enter Tryd.func43, Tryd.ntmps43
    go_wp2
    go_quiet (fail)
    go_wp2
    go_ret
    exact ⟨by rw [W.out]; rfl, G0.out.trans (li.grown_drewN _ _ _)⟩
  case false.true =>
    have W := Lib.hid (show nbc σ 3 c n = 4 by simp only [nbc, nb, e1, e2, e3]; rfl)
    go_enter Tryd.func43, Tryd.ntmps43
    go_wp2
    go_quiet (fail)
    go_wp2
    go_ret
    exact ⟨by rw [W.out]; rfl, G0.out.trans (li.grown_drewN _ _ _)⟩
  case false.false =>
    have W := Lib.hid (show nbc σ 3 c n = 4 by simp only [nbc, nb, e1, e2, e3]; rfl)
    go_enter Tryd.func43, Tryd.ntmps43
    go_wp2
    go_quiet (fail)
    go_wp2
    go_ret
    exact ⟨by rw [W.out]; rfl, G0.out.trans (li.grown_drewN _ _ _)⟩
theorem nums_4a (h : Gw w K g cf σ) (t i f j c n : Int) (e3 : decide (c < 1) = true) : Calls Tryd.prog 43 #[.pointer (some ⟨g, 0, none⟩), .agg #[.int .i64 4, .int .i64 t, .int .i64 i, .int .i64 f, .int .i64 j, .int .i64 c, .int .i64 n]] w
    fun e w' => e = .returned (.int .i64 (nbc σ 4 c n)) ∧ w.grownBy w' none := by
  obtain ⟨R, A, nc, vs, bs, h⟩ := h
  have G0 := Lib.hid (grown_alloc w (.cells #[.int .i64 4, .int .i64 t, .int .i64 i, .int .i64 f, .int .i64 j, .int .i64 c, .int .i64 n] 39))
  have h1 := h.new G0.out
  obtain ⟨s0, s1, s2, s3, s4, s5, s6⟩ := Sv.new w 39 4 t i f j c n
  have x3 := h1.c_ (i := 3) (by omega)
  rw [h.cq] at x3
  clear h h1 s1 s2 s3 s4
  cases e1 : decide (n < -1099511627776)
  case' false => cases e2 : decide (1099511627775 < n)
  case true =>
    have W := Lib.hid (show nbc σ 4 c n = 4 by simp only [nbc, nb, e1, e3]; rfl)
    go_enter Tryd.func43, Tryd.ntmps43
    go_wp2
    go_quiet (fail)
    go_wp2
    go_ret
    exact ⟨by rw [W.out]; rfl, G0.out.trans (li.grown_drewN _ _ _)⟩
  case false.true =>
    have W := Lib.hid (show nbc σ 4 c n = 4 by simp only [nbc, nb, e1, e2, e3]; rfl)
    go_enter Tryd.func43, Tryd.ntmps43
    go_wp2
    go_quiet (fail)
    go_wp2
    go_ret
    exact ⟨by rw [W.out]; rfl, G0.out.trans (li.grown_drewN _ _ _)⟩
  case false.false =>
    have W := Lib.hid (show nbc σ 4 c n = 0 by simp only [nbc, nb, e1, e2, e3]; rfl)
    go_enter Tryd.func43, Tryd.ntmps43
    go_wp2
    go_quiet (fail)
    go_wp2
    go_ret
    exact ⟨by rw [W.out]; rfl, G0.out.trans (li.grown_drewN _ _ _)⟩
theorem nums_13a (h : Gw w K g cf σ) (t i f j c n : Int) (e3 : decide (c < 1) = true) : Calls Tryd.prog 43 #[.pointer (some ⟨g, 0, none⟩), .agg #[.int .i64 13, .int .i64 t, .int .i64 i, .int .i64 f, .int .i64 j, .int .i64 c, .int .i64 n]] w
    fun e w' => e = .returned (.int .i64 (nbc σ 13 c n)) ∧ w.grownBy w' none := by
  obtain ⟨R, A, nc, vs, bs, h⟩ := h
  have G0 := Lib.hid (grown_alloc w (.cells #[.int .i64 13, .int .i64 t, .int .i64 i, .int .i64 f, .int .i64 j, .int .i64 c, .int .i64 n] 39))
  have h1 := h.new G0.out
  obtain ⟨s0, s1, s2, s3, s4, s5, s6⟩ := Sv.new w 39 13 t i f j c n
  have x3 := h1.c_ (i := 3) (by omega)
  rw [h.cq] at x3
  clear h h1 s1 s2 s3 s4
  cases e1 : decide (n < 1)
  case' false => cases e2 : decide (64 < n)
  case true =>
    have W := Lib.hid (show nbc σ 13 c n = 4 by simp only [nbc, nb, e1, e3]; rfl)
    go_enter Tryd.func43, Tryd.ntmps43
    go_wp2
    go_quiet (fail)
    go_wp2
    go_ret
    exact ⟨by rw [W.out]; rfl, G0.out.trans (li.grown_drewN _ _ _)⟩
  case false.true =>
    have W := Lib.hid (show nbc σ 13 c n = 4 by simp only [nbc, nb, e1, e2, e3]; rfl)
    go_enter Tryd.func43, Tryd.ntmps43
    go_wp2
    go_quiet (fail)
    go_wp2
    go_ret
    exact ⟨by rw [W.out]; rfl, G0.out.trans (li.grown_drewN _ _ _)⟩
  case false.false =>
    have W := Lib.hid (show nbc σ 13 c n = 0 by simp only [nbc, nb, e1, e2, e3]; rfl)
    go_enter Tryd.func43, Tryd.ntmps43
    go_wp2
    go_quiet (fail)
    go_wp2
    go_ret
    exact ⟨by rw [W.out]; rfl, G0.out.trans (li.grown_drewN _ _ _)⟩
theorem nums_15a (h : Gw w K g cf σ) (t i f j c n : Int) (e3 : decide (c < 1) = true) : Calls Tryd.prog 43 #[.pointer (some ⟨g, 0, none⟩), .agg #[.int .i64 15, .int .i64 t, .int .i64 i, .int .i64 f, .int .i64 j, .int .i64 c, .int .i64 n]] w
    fun e w' => e = .returned (.int .i64 (nbc σ 15 c n)) ∧ w.grownBy w' none := by
  obtain ⟨R, A, nc, vs, bs, h⟩ := h
  have G0 := Lib.hid (grown_alloc w (.cells #[.int .i64 15, .int .i64 t, .int .i64 i, .int .i64 f, .int .i64 j, .int .i64 c, .int .i64 n] 39))
  have h1 := h.new G0.out
  obtain ⟨s0, s1, s2, s3, s4, s5, s6⟩ := Sv.new w 39 15 t i f j c n
  have x3 := h1.c_ (i := 3) (by omega)
  rw [h.cq] at x3
  clear h h1 s1 s2 s3 s4
  cases e1 : decide (n < 1)
  case' false => cases e2 : decide (64 < n)
  case true =>
    have W := Lib.hid (show nbc σ 15 c n = 4 by simp only [nbc, nb, e1, e3]; rfl)
    go_enter Tryd.func43, Tryd.ntmps43
    go_wp2
    go_quiet (fail)
    go_wp2
    go_ret
    exact ⟨by rw [W.out]; rfl, G0.out.trans (li.grown_drewN _ _ _)⟩
  case false.true =>
    have W := Lib.hid (show nbc σ 15 c n = 4 by simp only [nbc, nb, e1, e2, e3]; rfl)
    go_enter Tryd.func43, Tryd.ntmps43
    go_wp2
    go_quiet (fail)
    go_wp2
    go_ret
    exact ⟨by rw [W.out]; rfl, G0.out.trans (li.grown_drewN _ _ _)⟩
  case false.false =>
    have W := Lib.hid (show nbc σ 15 c n = 4 by simp only [nbc, nb, e1, e2, e3]; rfl)
    go_enter Tryd.func43, Tryd.ntmps43
    go_wp2
    go_quiet (fail)
    go_wp2
    go_ret
    exact ⟨by rw [W.out]; rfl, G0.out.trans (li.grown_drewN _ _ _)⟩
theorem nums_16a (h : Gw w K g cf σ) (t i f j c n : Int) (e3 : decide (c < 1) = true) : Calls Tryd.prog 43 #[.pointer (some ⟨g, 0, none⟩), .agg #[.int .i64 16, .int .i64 t, .int .i64 i, .int .i64 f, .int .i64 j, .int .i64 c, .int .i64 n]] w
    fun e w' => e = .returned (.int .i64 (nbc σ 16 c n)) ∧ w.grownBy w' none := by
  obtain ⟨R, A, nc, vs, bs, h⟩ := h
  have G0 := Lib.hid (grown_alloc w (.cells #[.int .i64 16, .int .i64 t, .int .i64 i, .int .i64 f, .int .i64 j, .int .i64 c, .int .i64 n] 39))
  have h1 := h.new G0.out
  obtain ⟨s0, s1, s2, s3, s4, s5, s6⟩ := Sv.new w 39 16 t i f j c n
  have x3 := h1.c_ (i := 3) (by omega)
  rw [h.cq] at x3
  clear h h1 s1 s2 s3 s4
  cases e1 : decide (n < 1)
  case' false => cases e2 : decide (64 < n)
  case true =>
    have W := Lib.hid (show nbc σ 16 c n = 4 by simp only [nbc, nb, e1, e3]; rfl)
    go_enter Tryd.func43, Tryd.ntmps43
    go_wp2
    go_quiet (fail)
    go_wp2
    go_ret
    exact ⟨by rw [W.out]; rfl, G0.out.trans (li.grown_drewN _ _ _)⟩
  case false.true =>
    have W := Lib.hid (show nbc σ 16 c n = 4 by simp only [nbc, nb, e1, e2, e3]; rfl)
    go_enter Tryd.func43, Tryd.ntmps43
    go_wp2
    go_quiet (fail)
    go_wp2
    go_ret
    exact ⟨by rw [W.out]; rfl, G0.out.trans (li.grown_drewN _ _ _)⟩
  case false.false =>
    have W := Lib.hid (show nbc σ 16 c n = 0 by simp only [nbc, nb, e1, e2, e3]; rfl)
    go_enter Tryd.func43, Tryd.ntmps43
    go_wp2
    go_quiet (fail)
    go_wp2
    go_ret
    exact ⟨by rw [W.out]; rfl, G0.out.trans (li.grown_drewN _ _ _)⟩
theorem nums_ob (h : Gw w K g cf σ) (k t i f j c n : Int) (k3 : (k == 3) = false) (k4 : (k == 4) = false) (k13 : (k == 13) = false) (k15 : (k == 15) = false) (k16 : (k == 16) = false) (e3 : decide (c < 1) = false) (e4 : decide (σ.q < c) = true) : Calls Tryd.prog 43 #[.pointer (some ⟨g, 0, none⟩), .agg #[.int .i64 k, .int .i64 t, .int .i64 i, .int .i64 f, .int .i64 j, .int .i64 c, .int .i64 n]] w
    fun e w' => e = .returned (.int .i64 (nbc σ k c n)) ∧ w.grownBy w' none := by
  obtain ⟨R, A, nc, vs, bs, h⟩ := h
  have G0 := Lib.hid (grown_alloc w (.cells #[.int .i64 k, .int .i64 t, .int .i64 i, .int .i64 f, .int .i64 j, .int .i64 c, .int .i64 n] 39))
  have h1 := h.new G0.out
  obtain ⟨s0, s1, s2, s3, s4, s5, s6⟩ := Sv.new w 39 k t i f j c n
  have x3 := h1.c_ (i := 3) (by omega)
  rw [h.cq] at x3
  clear h h1 s1 s2 s3 s4
  have W := Lib.hid (show nbc σ k c n = 0 by simp [nbc, nb, k3, k4, k13, k15, k16])
  go_enter Tryd.func43, Tryd.ntmps43
  go_wp2
  go_quiet (fail)
  go_wp2
  go_ret
  exact ⟨by rw [W.out]; rfl, G0.out.trans (li.grown_drewN _ _ _)⟩
theorem nums_3b (h : Gw w K g cf σ) (t i f j c n : Int) (e3 : decide (c < 1) = false) (e4 : decide (σ.q < c) = true) : Calls Tryd.prog 43 #[.pointer (some ⟨g, 0, none⟩), .agg #[.int .i64 3, .int .i64 t, .int .i64 i, .int .i64 f, .int .i64 j, .int .i64 c, .int .i64 n]] w
    fun e w' => e = .returned (.int .i64 (nbc σ 3 c n)) ∧ w.grownBy w' none := by
  obtain ⟨R, A, nc, vs, bs, h⟩ := h
  have G0 := Lib.hid (grown_alloc w (.cells #[.int .i64 3, .int .i64 t, .int .i64 i, .int .i64 f, .int .i64 j, .int .i64 c, .int .i64 n] 39))
  have h1 := h.new G0.out
  obtain ⟨s0, s1, s2, s3, s4, s5, s6⟩ := Sv.new w 39 3 t i f j c n
  have x3 := h1.c_ (i := 3) (by omega)
  rw [h.cq] at x3
  clear h h1 s1 s2 s3 s4
  cases e1 : decide (n < 0)
  case' false => cases e2 : decide (127 < n)
  case true =>
    have W := Lib.hid (show nbc σ 3 c n = 4 by simp only [nbc, nb, e1, e3, e4]; rfl)
    go_enter Tryd.func43, Tryd.ntmps43
    go_wp2
    go_quiet (fail)
    go_wp2
    go_ret
    exact ⟨by rw [W.out]; rfl, G0.out.trans (li.grown_drewN _ _ _)⟩
  case false.true =>
    have W := Lib.hid (show nbc σ 3 c n = 4 by simp only [nbc, nb, e1, e2, e3, e4]; rfl)
    go_enter Tryd.func43, Tryd.ntmps43
    go_wp2
    go_quiet (fail)
    go_wp2
    go_ret
    exact ⟨by rw [W.out]; rfl, G0.out.trans (li.grown_drewN _ _ _)⟩
  case false.false =>
    have W := Lib.hid (show nbc σ 3 c n = 4 by simp only [nbc, nb, e1, e2, e3, e4]; rfl)
    go_enter Tryd.func43, Tryd.ntmps43
    go_wp2
    go_quiet (fail)
    go_wp2
    go_ret
    exact ⟨by rw [W.out]; rfl, G0.out.trans (li.grown_drewN _ _ _)⟩
theorem nums_4b (h : Gw w K g cf σ) (t i f j c n : Int) (e3 : decide (c < 1) = false) (e4 : decide (σ.q < c) = true) : Calls Tryd.prog 43 #[.pointer (some ⟨g, 0, none⟩), .agg #[.int .i64 4, .int .i64 t, .int .i64 i, .int .i64 f, .int .i64 j, .int .i64 c, .int .i64 n]] w
    fun e w' => e = .returned (.int .i64 (nbc σ 4 c n)) ∧ w.grownBy w' none := by
  obtain ⟨R, A, nc, vs, bs, h⟩ := h
  have G0 := Lib.hid (grown_alloc w (.cells #[.int .i64 4, .int .i64 t, .int .i64 i, .int .i64 f, .int .i64 j, .int .i64 c, .int .i64 n] 39))
  have h1 := h.new G0.out
  obtain ⟨s0, s1, s2, s3, s4, s5, s6⟩ := Sv.new w 39 4 t i f j c n
  have x3 := h1.c_ (i := 3) (by omega)
  rw [h.cq] at x3
  clear h h1 s1 s2 s3 s4
  cases e1 : decide (n < -1099511627776)
  case' false => cases e2 : decide (1099511627775 < n)
  case true =>
    have W := Lib.hid (show nbc σ 4 c n = 4 by simp only [nbc, nb, e1, e3, e4]; rfl)
    go_enter Tryd.func43, Tryd.ntmps43
    go_wp2
    go_quiet (fail)
    go_wp2
    go_ret
    exact ⟨by rw [W.out]; rfl, G0.out.trans (li.grown_drewN _ _ _)⟩
  case false.true =>
    have W := Lib.hid (show nbc σ 4 c n = 4 by simp only [nbc, nb, e1, e2, e3, e4]; rfl)
    go_enter Tryd.func43, Tryd.ntmps43
    go_wp2
    go_quiet (fail)
    go_wp2
    go_ret
    exact ⟨by rw [W.out]; rfl, G0.out.trans (li.grown_drewN _ _ _)⟩
  case false.false =>
    have W := Lib.hid (show nbc σ 4 c n = 0 by simp only [nbc, nb, e1, e2, e3, e4]; rfl)
    go_enter Tryd.func43, Tryd.ntmps43
    go_wp2
    go_quiet (fail)
    go_wp2
    go_ret
    exact ⟨by rw [W.out]; rfl, G0.out.trans (li.grown_drewN _ _ _)⟩
theorem nums_13b (h : Gw w K g cf σ) (t i f j c n : Int) (e3 : decide (c < 1) = false) (e4 : decide (σ.q < c) = true) : Calls Tryd.prog 43 #[.pointer (some ⟨g, 0, none⟩), .agg #[.int .i64 13, .int .i64 t, .int .i64 i, .int .i64 f, .int .i64 j, .int .i64 c, .int .i64 n]] w
    fun e w' => e = .returned (.int .i64 (nbc σ 13 c n)) ∧ w.grownBy w' none := by
  obtain ⟨R, A, nc, vs, bs, h⟩ := h
  have G0 := Lib.hid (grown_alloc w (.cells #[.int .i64 13, .int .i64 t, .int .i64 i, .int .i64 f, .int .i64 j, .int .i64 c, .int .i64 n] 39))
  have h1 := h.new G0.out
  obtain ⟨s0, s1, s2, s3, s4, s5, s6⟩ := Sv.new w 39 13 t i f j c n
  have x3 := h1.c_ (i := 3) (by omega)
  rw [h.cq] at x3
  clear h h1 s1 s2 s3 s4
  cases e1 : decide (n < 1)
  case' false => cases e2 : decide (64 < n)
  case true =>
    have W := Lib.hid (show nbc σ 13 c n = 4 by simp only [nbc, nb, e1, e3, e4]; rfl)
    go_enter Tryd.func43, Tryd.ntmps43
    go_wp2
    go_quiet (fail)
    go_wp2
    go_ret
    exact ⟨by rw [W.out]; rfl, G0.out.trans (li.grown_drewN _ _ _)⟩
  case false.true =>
    have W := Lib.hid (show nbc σ 13 c n = 4 by simp only [nbc, nb, e1, e2, e3, e4]; rfl)
    go_enter Tryd.func43, Tryd.ntmps43
    go_wp2
    go_quiet (fail)
    go_wp2
    go_ret
    exact ⟨by rw [W.out]; rfl, G0.out.trans (li.grown_drewN _ _ _)⟩
  case false.false =>
    have W := Lib.hid (show nbc σ 13 c n = 0 by simp only [nbc, nb, e1, e2, e3, e4]; rfl)
    go_enter Tryd.func43, Tryd.ntmps43
    go_wp2
    go_quiet (fail)
    go_wp2
    go_ret
    exact ⟨by rw [W.out]; rfl, G0.out.trans (li.grown_drewN _ _ _)⟩
theorem nums_15b (h : Gw w K g cf σ) (t i f j c n : Int) (e3 : decide (c < 1) = false) (e4 : decide (σ.q < c) = true) : Calls Tryd.prog 43 #[.pointer (some ⟨g, 0, none⟩), .agg #[.int .i64 15, .int .i64 t, .int .i64 i, .int .i64 f, .int .i64 j, .int .i64 c, .int .i64 n]] w
    fun e w' => e = .returned (.int .i64 (nbc σ 15 c n)) ∧ w.grownBy w' none := by
  obtain ⟨R, A, nc, vs, bs, h⟩ := h
  have G0 := Lib.hid (grown_alloc w (.cells #[.int .i64 15, .int .i64 t, .int .i64 i, .int .i64 f, .int .i64 j, .int .i64 c, .int .i64 n] 39))
  have h1 := h.new G0.out
  obtain ⟨s0, s1, s2, s3, s4, s5, s6⟩ := Sv.new w 39 15 t i f j c n
  have x3 := h1.c_ (i := 3) (by omega)
  rw [h.cq] at x3
  clear h h1 s1 s2 s3 s4
  cases e1 : decide (n < 1)
  case' false => cases e2 : decide (64 < n)
  case true =>
    have W := Lib.hid (show nbc σ 15 c n = 4 by simp only [nbc, nb, e1, e3, e4]; rfl)
    go_enter Tryd.func43, Tryd.ntmps43
    go_wp2
    go_quiet (fail)
    go_wp2
    go_ret
    exact ⟨by rw [W.out]; rfl, G0.out.trans (li.grown_drewN _ _ _)⟩
  case false.true =>
    have W := Lib.hid (show nbc σ 15 c n = 4 by simp only [nbc, nb, e1, e2, e3, e4]; rfl)
    go_enter Tryd.func43, Tryd.ntmps43
    go_wp2
    go_quiet (fail)
    go_wp2
    go_ret
    exact ⟨by rw [W.out]; rfl, G0.out.trans (li.grown_drewN _ _ _)⟩
  case false.false =>
    have W := Lib.hid (show nbc σ 15 c n = 4 by simp only [nbc, nb, e1, e2, e3, e4]; rfl)
    go_enter Tryd.func43, Tryd.ntmps43
    go_wp2
    go_quiet (fail)
    go_wp2
    go_ret
    exact ⟨by rw [W.out]; rfl, G0.out.trans (li.grown_drewN _ _ _)⟩
theorem nums_16b (h : Gw w K g cf σ) (t i f j c n : Int) (e3 : decide (c < 1) = false) (e4 : decide (σ.q < c) = true) : Calls Tryd.prog 43 #[.pointer (some ⟨g, 0, none⟩), .agg #[.int .i64 16, .int .i64 t, .int .i64 i, .int .i64 f, .int .i64 j, .int .i64 c, .int .i64 n]] w
    fun e w' => e = .returned (.int .i64 (nbc σ 16 c n)) ∧ w.grownBy w' none := by
  obtain ⟨R, A, nc, vs, bs, h⟩ := h
  have G0 := Lib.hid (grown_alloc w (.cells #[.int .i64 16, .int .i64 t, .int .i64 i, .int .i64 f, .int .i64 j, .int .i64 c, .int .i64 n] 39))
  have h1 := h.new G0.out
  obtain ⟨s0, s1, s2, s3, s4, s5, s6⟩ := Sv.new w 39 16 t i f j c n
  have x3 := h1.c_ (i := 3) (by omega)
  rw [h.cq] at x3
  clear h h1 s1 s2 s3 s4
  cases e1 : decide (n < 1)
  case' false => cases e2 : decide (64 < n)
  case true =>
    have W := Lib.hid (show nbc σ 16 c n = 4 by simp only [nbc, nb, e1, e3, e4]; rfl)
    go_enter Tryd.func43, Tryd.ntmps43
    go_wp2
    go_quiet (fail)
    go_wp2
    go_ret
    exact ⟨by rw [W.out]; rfl, G0.out.trans (li.grown_drewN _ _ _)⟩
  case false.true =>
    have W := Lib.hid (show nbc σ 16 c n = 4 by simp only [nbc, nb, e1, e2, e3, e4]; rfl)
    go_enter Tryd.func43, Tryd.ntmps43
    go_wp2
    go_quiet (fail)
    go_wp2
    go_ret
    exact ⟨by rw [W.out]; rfl, G0.out.trans (li.grown_drewN _ _ _)⟩
  case false.false =>
    have W := Lib.hid (show nbc σ 16 c n = 0 by simp only [nbc, nb, e1, e2, e3, e4]; rfl)
    go_enter Tryd.func43, Tryd.ntmps43
    go_wp2
    go_quiet (fail)
    go_wp2
    go_ret
    exact ⟨by rw [W.out]; rfl, G0.out.trans (li.grown_drewN _ _ _)⟩
theorem nums_oc (h : Gw w K g cf σ) (k t i f j c n : Int) (k3 : (k == 3) = false) (k4 : (k == 4) = false) (k13 : (k == 13) = false) (k15 : (k == 15) = false) (k16 : (k == 16) = false) (e3 : decide (c < 1) = false) (e4 : decide (σ.q < c) = false) : Calls Tryd.prog 43 #[.pointer (some ⟨g, 0, none⟩), .agg #[.int .i64 k, .int .i64 t, .int .i64 i, .int .i64 f, .int .i64 j, .int .i64 c, .int .i64 n]] w
    fun e w' => e = .returned (.int .i64 (nbc σ k c n)) ∧ w.grownBy w' none := by
  obtain ⟨R, A, nc, vs, bs, h⟩ := h
  have G0 := Lib.hid (grown_alloc w (.cells #[.int .i64 k, .int .i64 t, .int .i64 i, .int .i64 f, .int .i64 j, .int .i64 c, .int .i64 n] 39))
  have h1 := h.new G0.out
  obtain ⟨s0, s1, s2, s3, s4, s5, s6⟩ := Sv.new w 39 k t i f j c n
  have x3 := h1.c_ (i := 3) (by omega)
  rw [h.cq] at x3
  clear h h1 s1 s2 s3 s4
  have W := Lib.hid (show nbc σ k c n = 0 by simp [nbc, nb, k3, k4, k13, k15, k16])
  go_enter Tryd.func43, Tryd.ntmps43
  go_wp2
  go_quiet (fail)
  go_wp2
  go_ret
  exact ⟨by rw [W.out]; rfl, G0.out.trans (li.grown_drewN _ _ _)⟩
theorem nums_3c (h : Gw w K g cf σ) (t i f j c n : Int) (e3 : decide (c < 1) = false) (e4 : decide (σ.q < c) = false) : Calls Tryd.prog 43 #[.pointer (some ⟨g, 0, none⟩), .agg #[.int .i64 3, .int .i64 t, .int .i64 i, .int .i64 f, .int .i64 j, .int .i64 c, .int .i64 n]] w
    fun e w' => e = .returned (.int .i64 (nbc σ 3 c n)) ∧ w.grownBy w' none := by
  obtain ⟨R, A, nc, vs, bs, h⟩ := h
  have G0 := Lib.hid (grown_alloc w (.cells #[.int .i64 3, .int .i64 t, .int .i64 i, .int .i64 f, .int .i64 j, .int .i64 c, .int .i64 n] 39))
  have h1 := h.new G0.out
  obtain ⟨s0, s1, s2, s3, s4, s5, s6⟩ := Sv.new w 39 3 t i f j c n
  have x3 := h1.c_ (i := 3) (by omega)
  rw [h.cq] at x3
  clear h h1 s1 s2 s3 s4
  cases e1 : decide (n < 0)
  case' false => cases e2 : decide (127 < n)
  case true =>
    have W := Lib.hid (show nbc σ 3 c n = 4 by simp only [nbc, nb, e1, e3, e4]; rfl)
    go_enter Tryd.func43, Tryd.ntmps43
    go_wp2
    go_quiet (fail)
    go_wp2
    go_ret
    exact ⟨by rw [W.out]; rfl, G0.out.trans (li.grown_drewN _ _ _)⟩
  case false.true =>
    have W := Lib.hid (show nbc σ 3 c n = 4 by simp only [nbc, nb, e1, e2, e3, e4]; rfl)
    go_enter Tryd.func43, Tryd.ntmps43
    go_wp2
    go_quiet (fail)
    go_wp2
    go_ret
    exact ⟨by rw [W.out]; rfl, G0.out.trans (li.grown_drewN _ _ _)⟩
  case false.false =>
    have W := Lib.hid (show nbc σ 3 c n = 0 by simp only [nbc, nb, e1, e2, e3, e4]; rfl)
    go_enter Tryd.func43, Tryd.ntmps43
    go_wp2
    go_quiet (fail)
    go_wp2
    go_ret
    exact ⟨by rw [W.out]; rfl, G0.out.trans (li.grown_drewN _ _ _)⟩
theorem nums_4c (h : Gw w K g cf σ) (t i f j c n : Int) (e3 : decide (c < 1) = false) (e4 : decide (σ.q < c) = false) : Calls Tryd.prog 43 #[.pointer (some ⟨g, 0, none⟩), .agg #[.int .i64 4, .int .i64 t, .int .i64 i, .int .i64 f, .int .i64 j, .int .i64 c, .int .i64 n]] w
    fun e w' => e = .returned (.int .i64 (nbc σ 4 c n)) ∧ w.grownBy w' none := by
  obtain ⟨R, A, nc, vs, bs, h⟩ := h
  have G0 := Lib.hid (grown_alloc w (.cells #[.int .i64 4, .int .i64 t, .int .i64 i, .int .i64 f, .int .i64 j, .int .i64 c, .int .i64 n] 39))
  have h1 := h.new G0.out
  obtain ⟨s0, s1, s2, s3, s4, s5, s6⟩ := Sv.new w 39 4 t i f j c n
  have x3 := h1.c_ (i := 3) (by omega)
  rw [h.cq] at x3
  clear h h1 s1 s2 s3 s4
  cases e1 : decide (n < -1099511627776)
  case' false => cases e2 : decide (1099511627775 < n)
  case true =>
    have W := Lib.hid (show nbc σ 4 c n = 4 by simp only [nbc, nb, e1, e3, e4]; rfl)
    go_enter Tryd.func43, Tryd.ntmps43
    go_wp2
    go_quiet (fail)
    go_wp2
    go_ret
    exact ⟨by rw [W.out]; rfl, G0.out.trans (li.grown_drewN _ _ _)⟩
  case false.true =>
    have W := Lib.hid (show nbc σ 4 c n = 4 by simp only [nbc, nb, e1, e2, e3, e4]; rfl)
    go_enter Tryd.func43, Tryd.ntmps43
    go_wp2
    go_quiet (fail)
    go_wp2
    go_ret
    exact ⟨by rw [W.out]; rfl, G0.out.trans (li.grown_drewN _ _ _)⟩
  case false.false =>
    have W := Lib.hid (show nbc σ 4 c n = 0 by simp only [nbc, nb, e1, e2, e3, e4]; rfl)
    go_enter Tryd.func43, Tryd.ntmps43
    go_wp2
    go_quiet (fail)
    go_wp2
    go_ret
    exact ⟨by rw [W.out]; rfl, G0.out.trans (li.grown_drewN _ _ _)⟩
theorem nums_13c (h : Gw w K g cf σ) (t i f j c n : Int) (e3 : decide (c < 1) = false) (e4 : decide (σ.q < c) = false) : Calls Tryd.prog 43 #[.pointer (some ⟨g, 0, none⟩), .agg #[.int .i64 13, .int .i64 t, .int .i64 i, .int .i64 f, .int .i64 j, .int .i64 c, .int .i64 n]] w
    fun e w' => e = .returned (.int .i64 (nbc σ 13 c n)) ∧ w.grownBy w' none := by
  obtain ⟨R, A, nc, vs, bs, h⟩ := h
  have G0 := Lib.hid (grown_alloc w (.cells #[.int .i64 13, .int .i64 t, .int .i64 i, .int .i64 f, .int .i64 j, .int .i64 c, .int .i64 n] 39))
  have h1 := h.new G0.out
  obtain ⟨s0, s1, s2, s3, s4, s5, s6⟩ := Sv.new w 39 13 t i f j c n
  have x3 := h1.c_ (i := 3) (by omega)
  rw [h.cq] at x3
  clear h h1 s1 s2 s3 s4
  cases e1 : decide (n < 1)
  case' false => cases e2 : decide (64 < n)
  case true =>
    have W := Lib.hid (show nbc σ 13 c n = 4 by simp only [nbc, nb, e1, e3, e4]; rfl)
    go_enter Tryd.func43, Tryd.ntmps43
    go_wp2
    go_quiet (fail)
    go_wp2
    go_ret
    exact ⟨by rw [W.out]; rfl, G0.out.trans (li.grown_drewN _ _ _)⟩
  case false.true =>
    have W := Lib.hid (show nbc σ 13 c n = 4 by simp only [nbc, nb, e1, e2, e3, e4]; rfl)
    go_enter Tryd.func43, Tryd.ntmps43
    go_wp2
    go_quiet (fail)
    go_wp2
    go_ret
    exact ⟨by rw [W.out]; rfl, G0.out.trans (li.grown_drewN _ _ _)⟩
  case false.false =>
    have W := Lib.hid (show nbc σ 13 c n = 0 by simp only [nbc, nb, e1, e2, e3, e4]; rfl)
    go_enter Tryd.func43, Tryd.ntmps43
    go_wp2
    go_quiet (fail)
    go_wp2
    go_ret
    exact ⟨by rw [W.out]; rfl, G0.out.trans (li.grown_drewN _ _ _)⟩
theorem nums_15c (h : Gw w K g cf σ) (t i f j c n : Int) (e3 : decide (c < 1) = false) (e4 : decide (σ.q < c) = false) : Calls Tryd.prog 43 #[.pointer (some ⟨g, 0, none⟩), .agg #[.int .i64 15, .int .i64 t, .int .i64 i, .int .i64 f, .int .i64 j, .int .i64 c, .int .i64 n]] w
    fun e w' => e = .returned (.int .i64 (nbc σ 15 c n)) ∧ w.grownBy w' none := by
  obtain ⟨R, A, nc, vs, bs, h⟩ := h
  have G0 := Lib.hid (grown_alloc w (.cells #[.int .i64 15, .int .i64 t, .int .i64 i, .int .i64 f, .int .i64 j, .int .i64 c, .int .i64 n] 39))
  have h1 := h.new G0.out
  obtain ⟨s0, s1, s2, s3, s4, s5, s6⟩ := Sv.new w 39 15 t i f j c n
  have x3 := h1.c_ (i := 3) (by omega)
  rw [h.cq] at x3
  clear h h1 s1 s2 s3 s4
  cases e1 : decide (n < 1)
  case' false => cases e2 : decide (64 < n)
  case true =>
    have W := Lib.hid (show nbc σ 15 c n = 4 by simp only [nbc, nb, e1, e3, e4]; rfl)
    go_enter Tryd.func43, Tryd.ntmps43
    go_wp2
    go_quiet (fail)
    go_wp2
    go_ret
    exact ⟨by rw [W.out]; rfl, G0.out.trans (li.grown_drewN _ _ _)⟩
  case false.true =>
    have W := Lib.hid (show nbc σ 15 c n = 4 by simp only [nbc, nb, e1, e2, e3, e4]; rfl)
    go_enter Tryd.func43, Tryd.ntmps43
    go_wp2
    go_quiet (fail)
    go_wp2
    go_ret
    exact ⟨by rw [W.out]; rfl, G0.out.trans (li.grown_drewN _ _ _)⟩
  case false.false =>
    have W := Lib.hid (show nbc σ 15 c n = 0 by simp only [nbc, nb, e1, e2, e3, e4]; rfl)
    go_enter Tryd.func43, Tryd.ntmps43
    go_wp2
    go_quiet (fail)
    go_wp2
    go_ret
    exact ⟨by rw [W.out]; rfl, G0.out.trans (li.grown_drewN _ _ _)⟩
theorem nums_16c (h : Gw w K g cf σ) (t i f j c n : Int) (e3 : decide (c < 1) = false) (e4 : decide (σ.q < c) = false) : Calls Tryd.prog 43 #[.pointer (some ⟨g, 0, none⟩), .agg #[.int .i64 16, .int .i64 t, .int .i64 i, .int .i64 f, .int .i64 j, .int .i64 c, .int .i64 n]] w
    fun e w' => e = .returned (.int .i64 (nbc σ 16 c n)) ∧ w.grownBy w' none := by
  obtain ⟨R, A, nc, vs, bs, h⟩ := h
  have G0 := Lib.hid (grown_alloc w (.cells #[.int .i64 16, .int .i64 t, .int .i64 i, .int .i64 f, .int .i64 j, .int .i64 c, .int .i64 n] 39))
  have h1 := h.new G0.out
  obtain ⟨s0, s1, s2, s3, s4, s5, s6⟩ := Sv.new w 39 16 t i f j c n
  have x3 := h1.c_ (i := 3) (by omega)
  rw [h.cq] at x3
  clear h h1 s1 s2 s3 s4
  cases e1 : decide (n < 1)
  case' false => cases e2 : decide (64 < n)
  case true =>
    have W := Lib.hid (show nbc σ 16 c n = 4 by simp only [nbc, nb, e1, e3, e4]; rfl)
    go_enter Tryd.func43, Tryd.ntmps43
    go_wp2
    go_quiet (fail)
    go_wp2
    go_ret
    exact ⟨by rw [W.out]; rfl, G0.out.trans (li.grown_drewN _ _ _)⟩
  case false.true =>
    have W := Lib.hid (show nbc σ 16 c n = 4 by simp only [nbc, nb, e1, e2, e3, e4]; rfl)
    go_enter Tryd.func43, Tryd.ntmps43
    go_wp2
    go_quiet (fail)
    go_wp2
    go_ret
    exact ⟨by rw [W.out]; rfl, G0.out.trans (li.grown_drewN _ _ _)⟩
  case false.false =>
    have W := Lib.hid (show nbc σ 16 c n = 0 by simp only [nbc, nb, e1, e2, e3, e4]; rfl)
    go_enter Tryd.func43, Tryd.ntmps43
    go_wp2
    go_quiet (fail)
    go_wp2
    go_ret
    exact ⟨by rw [W.out]; rfl, G0.out.trans (li.grown_drewN _ _ _)⟩
theorem numbers_any (h : Gw w K g cf σ) (k t i f j c n : Int) : Calls Tryd.prog 43 #[.pointer (some ⟨g, 0, none⟩), .agg #[.int .i64 k, .int .i64 t, .int .i64 i, .int .i64 f, .int .i64 j, .int .i64 c, .int .i64 n]] w
    fun e w' => e = .returned (.int .i64 (nbc σ k c n)) ∧ w.grownBy w' none := by
  cases e3 : decide (c < 1) with
  | true =>
    by_cases k3 : k = 3
    · subst k3; exact nums_3a h t i f j c n e3
    by_cases k4 : k = 4
    · subst k4; exact nums_4a h t i f j c n e3
    by_cases k13 : k = 13
    · subst k13; exact nums_13a h t i f j c n e3
    by_cases k15 : k = 15
    · subst k15; exact nums_15a h t i f j c n e3
    by_cases k16 : k = 16
    · subst k16; exact nums_16a h t i f j c n e3
    exact nums_oa h k t i f j c n (by simpa using k3) (by simpa using k4) (by simpa using k13) (by simpa using k15) (by simpa using k16) e3
  | false =>
    cases e4 : decide (σ.q < c) with
    | true =>
      by_cases k3 : k = 3
      · subst k3; exact nums_3b h t i f j c n e3 e4
      by_cases k4 : k = 4
      · subst k4; exact nums_4b h t i f j c n e3 e4
      by_cases k13 : k = 13
      · subst k13; exact nums_13b h t i f j c n e3 e4
      by_cases k15 : k = 15
      · subst k15; exact nums_15b h t i f j c n e3 e4
      by_cases k16 : k = 16
      · subst k16; exact nums_16b h t i f j c n e3 e4
      exact nums_ob h k t i f j c n (by simpa using k3) (by simpa using k4) (by simpa using k13) (by simpa using k15) (by simpa using k16) e3 e4
    | false =>
      by_cases k3 : k = 3
      · subst k3; exact nums_3c h t i f j c n e3 e4
      by_cases k4 : k = 4
      · subst k4; exact nums_4c h t i f j c n e3 e4
      by_cases k13 : k = 13
      · subst k13; exact nums_13c h t i f j c n e3 e4
      by_cases k15 : k = 15
      · subst k15; exact nums_15c h t i f j c n e3 e4
      by_cases k16 : k = 16
      · subst k16; exact nums_16c h t i f j c n e3 e4
      exact nums_oc h k t i f j c n (by simpa using k3) (by simpa using k4) (by simpa using k13) (by simpa using k15) (by simpa using k16) e3 e4
end
end Go.Proofs.YtfhebjkoojodiaaDoor.gp
