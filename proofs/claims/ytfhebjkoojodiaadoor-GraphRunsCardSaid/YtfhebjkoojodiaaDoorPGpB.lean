/- Texts that this claim stands on. -/
import Derived.BigQuiet
import Derived.Test.YtfhebjkoojodiaaDoorPGpA
import Derived.Test.YtfhebjkoojodiaaDoorPCdD
namespace Go.Proofs.YtfhebjkoojodiaaDoor.gp
open Go.ChangeShapes Go.WideShapes Go.ChangeAt Go.RowKit gen va cd
set_option linter.unusedVariables false
set_option maxHeartbeats 1000000
set_option maxRecDepth 100000
def wh (σ : Gs) (k : Int) (t : Nat) : Int :=
  if 16 ≤ k then 0 else if σ.N ≤ t then 4 else if k = 1 then (if σ.lv t = true then 9 else 0) else (if σ.lv t = true then 0 else 14)
def nb (σ : Gs) (k c n : Int) : Bool :=
  (k == 3 && (decide (n < 0) || decide (127 < n) || decide (c < 1) || decide (σ.q < c))) || (k == 4 && (decide (n < -1099511627776) || decide (1099511627775 < n))) ||
  ((k == 13 || k == 16) && (decide (n < 1) || decide (64 < n))) || (k == 15 && (decide (n < 1) || decide (64 < n) || decide (c < 1) || decide (σ.q < c)))
def ob (σ : Gs) (t i f : Nat) (b : Bool) : Int :=
  if (σ.hd t).length ≤ i then 4 else if ((σ.hd t).getD i (0, 0)).1 ≠ 2 then 12 else if b = true ∧ (σ.nd ((σ.hd t).getD i (0, 0)).2.toNat).length ≤ f then 4 else 0
theorem drew2 (w : World) (a b : Nat) : w.grownBy ((w.drewN a).drewN b) none := (li.grown_drewN _ _ _).trans (li.grown_drewN _ _ _)
theorem drew3 (w : World) (a b c : Nat) : w.grownBy (((w.drewN a).drewN b).drewN c) none := (drew2 w a b).trans (li.grown_drewN _ _ _)
section
variable {w : World} {K : List Nat} {g : Nat} {cf : Nat → Int} {σ : Gs}
theorem who_any (h : Gw w K g cf σ) (k : Int) (t : Nat) (i f j c n : Int) (ht : t ≤ 255) : Calls Tryd.prog 42 #[.pointer (some ⟨g, 0, none⟩), .agg #[.int .i64 k, .int .i64 (t : Int), .int .i64 i, .int .i64 f, .int .i64 j, .int .i64 c, .int .i64 n]] w
    fun e w' => e = .returned (.int .i64 (wh σ k t)) ∧ w.grownBy w' none := by
  obtain ⟨R, A, nc, vs, bs, h⟩ := h
  have G0 := Lib.hid (grown_alloc w (.cells #[.int .i64 k, .int .i64 (t : Int), .int .i64 i, .int .i64 f, .int .i64 j, .int .i64 c, .int .i64 n] 39))
  have h1 := h.new G0.out
  obtain ⟨s0, s1, s2, s3, s4, s5, s6⟩ := Sv.new w 39 k t i f j c n
  have x10 := h1.c10
  have hN := h.ok.n
  have H := Lib.hid h1
  clear h h1 s2 s3 s4 s5 s6
  by_cases k16 : 16 ≤ k
  · have W := Lib.hid (show wh σ k t = 0 by unfold wh; rw [if_pos k16])
    go_enter Tryd.func42, Tryd.ntmps42
    go_wp2
    go_ret
    exact ⟨by rw [W.out]; rfl, G0.out⟩
  · by_cases tn : σ.N ≤ t
    · have W := Lib.hid (show wh σ k t = 4 by unfold wh; rw [if_neg k16, if_pos tn])
      go_enter Tryd.func42, Tryd.ntmps42
      go_wp2
      go_quiet (fail)
      go_wp2
      go_ret
      exact ⟨by rw [W.out]; rfl, G0.out.trans (by first | exact li.grown_drewN _ _ _ | exact drew2 _ _ _ | exact drew3 _ _ _ _)⟩
    · have t0 := H.out.t0 (t := t) (by omega)
      have i1 : (0 : Int) ≤ (t : Int) := by omega
      have i2 : (t : Int) < (σ.N : Int) := by omega
      by_cases k1 : k = 1
      · cases hl : σ.lv t with
        | true =>
          have W := Lib.hid (show wh σ k t = 9 by unfold wh; rw [if_neg k16, if_neg tn, if_pos k1, if_pos hl])
          rw [hl] at t0
          subst k1
          clear hl k16
          go_enter Tryd.func42, Tryd.ntmps42
          go_wp2
          go_quiet (fail)
          go_wp2
          go_quiet (fail)
          go_wp2
          go_ret
          exact ⟨by rw [W.out]; rfl, G0.out.trans (by first | exact li.grown_drewN _ _ _ | exact drew2 _ _ _ | exact drew3 _ _ _ _)⟩
        | false =>
          have W := Lib.hid (show wh σ k t = 0 by unfold wh; rw [if_neg k16, if_neg tn, if_pos k1, hl]; rfl)
          rw [hl] at t0
          subst k1
          clear hl k16
          go_enter Tryd.func42, Tryd.ntmps42
          go_wp2
          go_quiet (fail)
          go_wp2
          go_quiet (fail)
          go_wp2
          go_quiet (fail)
          go_wp2
          go_ret
          exact ⟨by rw [W.out]; rfl, G0.out.trans (by first | exact li.grown_drewN _ _ _ | exact drew2 _ _ _ | exact drew3 _ _ _ _)⟩
      · have e1 : (k == 1) = false := by simpa using k1
        have e2 : (k != 1) = true := by simpa using k1
        cases hl : σ.lv t with
        | true =>
          have W := Lib.hid (show wh σ k t = 0 by unfold wh; rw [if_neg k16, if_neg tn, if_neg k1, if_pos hl])
          rw [hl] at t0
          clear hl
          go_enter Tryd.func42, Tryd.ntmps42
          go_wp2
          go_quiet (fail)
          go_wp2
          go_quiet (fail)
          go_wp2
          go_quiet (fail)
          go_wp2
          go_ret
          exact ⟨by rw [W.out]; rfl, G0.out.trans (by first | exact li.grown_drewN _ _ _ | exact drew2 _ _ _ | exact drew3 _ _ _ _)⟩
        | false =>
          have W := Lib.hid (show wh σ k t = 14 by unfold wh; rw [if_neg k16, if_neg tn, if_neg k1, hl]; rfl)
          rw [hl] at t0
          clear hl
          go_enter Tryd.func42, Tryd.ntmps42
          go_wp2
          go_quiet (fail)
          go_wp2
          go_quiet (fail)
          go_wp2
          go_quiet (fail)
          go_wp2
          go_ret
          exact ⟨by rw [W.out]; rfl, G0.out.trans (by first | exact li.grown_drewN _ _ _ | exact drew2 _ _ _ | exact drew3 _ _ _ _)⟩
theorem object_any (h : Gw w K g cf σ) (k : Int) (t i f : Nat) (j c n : Int) (b : Bool) (ht : t < σ.N) (hi : i ≤ 255) (hf : f ≤ 255) : Calls Tryd.prog 44 #[.pointer (some ⟨g, 0, none⟩), .agg #[.int .i64 k, .int .i64 (t : Int), .int .i64 (i : Int), .int .i64 (f : Int), .int .i64 j, .int .i64 c, .int .i64 n], .bool b] w
    fun e w' => e = .returned (.int .i64 (ob σ t i f b)) ∧ w.grownBy w' none := by
  obtain ⟨R, A, nc, vs, bs, h⟩ := h
  have G0 := Lib.hid (grown_alloc w (.cells #[.int .i64 k, .int .i64 (t : Int), .int .i64 (i : Int), .int .i64 (f : Int), .int .i64 j, .int .i64 c, .int .i64 n] 39))
  have h1 := h.new G0.out
  obtain ⟨s0, s1, s2, s3, s4, s5, s6⟩ := Sv.new w 39 k t i f j c n
  have x10 := h1.c10
  have x11 := h1.c11
  obtain ⟨B, m, kk, hm, hm16, t1, hr, hB⟩ := h1.hv ht
  have hN := h.ok.n
  have i1 : (0 : Int) ≤ (t : Int) := by omega
  have i2 : (t : Int) < (σ.N : Int) := by omega
  have H := Lib.hid h1
  have HR := Lib.hid hr
  have OK := Lib.hid h.ok
  clear h h1 hr hB s4 s5 s6
  by_cases im : m ≤ i
  · have W := Lib.hid (show ob σ t i f b = 4 by unfold ob; rw [if_pos (by omega)])
    go_enter Tryd.func44, Tryd.ntmps44
    go_wp2
    go_quiet (fail)
    go_wp2
    go_ret
    exact ⟨by rw [W.out]; rfl, G0.out.trans (by first | exact li.grown_drewN _ _ _ | exact drew2 _ _ _ | exact drew3 _ _ _ _)⟩
  · obtain ⟨bb, oo, rfl, d0, d1⟩ := HR.out.at_ (i := i) (by omega)
    have i3 : (0 : Int) ≤ (i : Int) := by omega
    have i4 : (i : Int) < (m : Int) := by omega
    have hmem := va.getD_mem (m := σ.hd t) (i := i) (by omega)
    have HRR := Lib.hid (OK.out.hr t _ hmem)
    obtain ⟨x, hx⟩ : ∃ x, (σ.hd t).getD i (0, 0) = x := ⟨_, rfl⟩
    have HX := Lib.hid hx
    rw [hx] at d0 d1 HRR
    obtain ⟨x1, x2⟩ := x
    dsimp only at d0 d1 HRR
    clear hmem hx
    by_cases h2 : x1 = 2
    · subst h2
      have hx2 := HRR.out rfl
      obtain ⟨y, rfl⟩ := Int.eq_ofNat_of_zero_le hx2.1
      have hy : y < σ.M := by omega
      obtain ⟨a, rfl, d2⟩ := H.out.nv hy
      have hl := OK.out.nl y
      obtain ⟨l, hl2⟩ : ∃ l, (σ.nd y).length = l := ⟨_, rfl⟩
      rw [hl2] at d2 hl
      have HL := Lib.hid hl2
      clear hl2
      have i5 : (0 : Int) ≤ (y : Int) := by omega
      have i6 : (y : Int) < (σ.M : Int) := by omega
      cases b with
      | false =>
        have W := Lib.hid (show ob σ t i f false = 0 by unfold ob; rw [if_neg (by omega), HX.out]; simp)
        go_enter Tryd.func44, Tryd.ntmps44
        go_wp2
        go_quiet (fail)
        go_wp2
        go_quiet (fail)
        go_wp2
        go_ret
        exact ⟨by rw [W.out]; rfl, G0.out.trans (by first | exact li.grown_drewN _ _ _ | exact drew2 _ _ _ | exact drew3 _ _ _ _)⟩
      | true =>
        by_cases fl : l ≤ f
        · have W := Lib.hid (show ob σ t i f true = 4 by unfold ob; rw [if_neg (by omega), HX.out]; simp; rw [HL.out]; omega)
          go_enter Tryd.func44, Tryd.ntmps44
          go_wp2
          go_quiet (fail)
          go_wp2
          go_quiet (fail)
          go_wp2
          go_ret
          exact ⟨by rw [W.out]; rfl, G0.out.trans (by first | exact li.grown_drewN _ _ _ | exact drew2 _ _ _ | exact drew3 _ _ _ _)⟩
        · have W := Lib.hid (show ob σ t i f true = 0 by unfold ob; rw [if_neg (by omega), HX.out]; simp; rw [HL.out]; omega)
          go_enter Tryd.func44, Tryd.ntmps44
          go_wp2
          go_quiet (fail)
          go_wp2
          go_quiet (fail)
          go_wp2
          go_ret
          exact ⟨by rw [W.out]; rfl, G0.out.trans (by first | exact li.grown_drewN _ _ _ | exact drew2 _ _ _ | exact drew3 _ _ _ _)⟩
    · have e1 : (x1 == 2) = false := by simpa using h2
      have e2 : (x1 != 2) = true := by simpa using h2
      have W := Lib.hid (show ob σ t i f b = 12 by unfold ob; rw [if_neg (by omega), HX.out, if_pos h2])
      clear h2
      go_enter Tryd.func44, Tryd.ntmps44
      go_wp2
      go_quiet (fail)
      go_wp2
      go_ret
      exact ⟨by rw [W.out]; rfl, G0.out.trans (by first | exact li.grown_drewN _ _ _ | exact drew2 _ _ _ | exact drew3 _ _ _ _)⟩
end
end Go.Proofs.YtfhebjkoojodiaaDoor.gp
