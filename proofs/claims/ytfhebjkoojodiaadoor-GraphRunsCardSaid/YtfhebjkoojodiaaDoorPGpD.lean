/- Texts that this claim stands on. -/
import Derived.Test.YtfhebjkoojodiaaDoorPGpC
namespace Go.Proofs.YtfhebjkoojodiaaDoor.gp
open Go.ChangeShapes Go.WideShapes Go.ChangeAt Go.RowKit gen va cd
set_option linter.unusedVariables false
set_option maxHeartbeats 1000000
set_option maxRecDepth 100000
def cod (σ : Gs) (k : Int) (t i f j : Nat) (c n : Int) : Int :=
  if wh σ k t ≠ 0 then wh σ k t else if nbc σ k c n ≠ 0 then nbc σ k c n else if k < 3 ∨ 12 < k then 0 else
  if k = 9 ∨ k = 10 ∨ k = 12 then
    (if ob σ t i f (k != 12) ≠ 0 then ob σ t i f (k != 12) else if k = 10 ∧ (σ.hd t).length ≤ j then 4 else if k = 9 ∧ 16 ≤ (σ.hd t).length then 3 else 0)
  else if k = 11 then (if (σ.hd t).length ≤ i ∨ (σ.hd t).length ≤ j then 4 else 0)
  else if k = 8 then (if (σ.hd t).length = 0 then 4 else 0)
  else if k = 7 ∧ (σ.hd t).length ≤ i then 4 else if 16 ≤ (σ.hd t).length then 3 else 0
def codz (σ : Gs) (k t i f j c n : Int) : Int := if chk k [k, t, i, f, j, c] n ≠ 0 then chk k [k, t, i, f, j, c] n else cod σ k t.toNat i.toNat f.toNat j.toNat c n
section
variable {w : World} {K : List Nat} {g : Nat} {cf : Nat → Int} {σ : Gs}
theorem who_as (h : Gw w K g cf σ) (k : Int) (t : Nat) (i f j c n : Int) (ht : t ≤ 255) {z : Int} (hz : wh σ k t = z) : Calls Tryd.prog 42 #[.pointer (some ⟨g, 0, none⟩), .agg #[.int .i64 k, .int .i64 (t : Int), .int .i64 i, .int .i64 f, .int .i64 j, .int .i64 c, .int .i64 n]] w
    fun e w' => e = .returned (.int .i64 z) ∧ w.grownBy w' none := hz ▸ who_any h k t i f j c n ht
theorem nums_as (h : Gw w K g cf σ) (k t i f j c n : Int) {z : Int} (hz : nbc σ k c n = z) : Calls Tryd.prog 43 #[.pointer (some ⟨g, 0, none⟩), .agg #[.int .i64 k, .int .i64 t, .int .i64 i, .int .i64 f, .int .i64 j, .int .i64 c, .int .i64 n]] w
    fun e w' => e = .returned (.int .i64 z) ∧ w.grownBy w' none := hz ▸ numbers_any h k t i f j c n
theorem object_as (h : Gw w K g cf σ) (k : Int) (t i f : Nat) (j c n : Int) (b : Bool) (ht : t < σ.N) (hi : i ≤ 255) (hf : f ≤ 255) {z : Int} (hz : ob σ t i f b = z) : Calls Tryd.prog 44 #[.pointer (some ⟨g, 0, none⟩), .agg #[.int .i64 k, .int .i64 (t : Int), .int .i64 (i : Int), .int .i64 (f : Int), .int .i64 j, .int .i64 c, .int .i64 n], .bool b] w
    fun e w' => e = .returned (.int .i64 z) ∧ w.grownBy w' none := hz ▸ object_any h k t i f j c n b ht hi hf
theorem wh_lt {k : Int} {t : Nat} (h : wh σ k t = 0) (hk : k < 16) : t < σ.N := by
  unfold wh at h
  rw [if_neg (by omega)] at h
  by_cases e : σ.N ≤ t
  · rw [if_pos e] at h; omega
  · omega
theorem code_z (h : Gw w K g cf σ) (k : Int) (t i f j : Nat) (c n : Int) (ht : t ≤ 255) (hi : i ≤ 255) (hf : f ≤ 255) (hj : j ≤ 255) {z : Int} (hz : chk k [k, (t : Int), (i : Int), (f : Int), (j : Int), c] n = z) (h0 : (z != 0) = true) : Calls Tryd.prog 25 #[.pointer (some ⟨g, 0, none⟩), .agg #[.int .i64 k, .int .i64 (t : Int), .int .i64 (i : Int), .int .i64 (f : Int), .int .i64 (j : Int), .int .i64 c, .int .i64 n]] w fun e w' => e = .returned (.int .i64 z) ∧ w.grownBy w' none := by
  have G0 := Lib.hid (grown_alloc w (.cells #[.int .i64 k, .int .i64 (t : Int), .int .i64 (i : Int), .int .i64 (f : Int), .int .i64 (j : Int), .int .i64 c, .int .i64 n] 39))
  have S0 := Lib.hid (Sv.new w 39 k t i f j c n)
  have H := Lib.hid h
  clear h
  go_enter Tryd.func25, Tryd.ntmps25
  go_wp2_with (first
    | (go_at_call 41; (with_reducible refine (rCheck_as _ hz).mono ?_); rintro e w1 ⟨rfl, hg⟩; have G1 := Lib.hid (G0.out.trans hg); have S1 := Lib.hid (S0.out.made hg); obtain ⟨c0, c1, c2, c3, c4, c5, c6⟩ := S1.out; clear hg))
  go_ret
  exact ⟨rfl, G1.out⟩
theorem code_w (h : Gw w K g cf σ) (k : Int) (t i f j : Nat) (c n : Int) (ht : t ≤ 255) (hi : i ≤ 255) (hf : f ≤ 255) (hj : j ≤ 255) (hz : chk k [k, (t : Int), (i : Int), (f : Int), (j : Int), c] n = 0) {z : Int} (hw : wh σ k t = z) (h0 : (z != 0) = true) : Calls Tryd.prog 25 #[.pointer (some ⟨g, 0, none⟩), .agg #[.int .i64 k, .int .i64 (t : Int), .int .i64 (i : Int), .int .i64 (f : Int), .int .i64 (j : Int), .int .i64 c, .int .i64 n]] w fun e w' => e = .returned (.int .i64 z) ∧ w.grownBy w' none := by
  have G0 := Lib.hid (grown_alloc w (.cells #[.int .i64 k, .int .i64 (t : Int), .int .i64 (i : Int), .int .i64 (f : Int), .int .i64 (j : Int), .int .i64 c, .int .i64 n] 39))
  have S0 := Lib.hid (Sv.new w 39 k t i f j c n)
  have H := Lib.hid h
  clear h
  go_enter Tryd.func25, Tryd.ntmps25
  go_wp2_with (first
    | (go_at_call 41; (with_reducible refine (rCheck_as _ hz).mono ?_); rintro e w1 ⟨rfl, hg⟩; have G1 := Lib.hid (G0.out.trans hg); have S1 := Lib.hid (S0.out.made hg); obtain ⟨c0, c1, c2, c3, c4, c5, c6⟩ := S1.out; clear hg)
    | (go_at_call 42; (with_reducible refine (who_as (H.out.new G1.out) _ _ _ _ _ _ _ ht hw).mono ?_); rintro e w2 ⟨rfl, hg⟩; have G2 := Lib.hid (G1.out.trans hg); have S2 := Lib.hid (S1.out.made hg); clear c0 c1 c2 c3 c4 c5 c6; obtain ⟨c0, c1, c2, c3, c4, c5, c6⟩ := S2.out; clear hg))
  go_ret
  exact ⟨rfl, G2.out⟩
theorem code_n (h : Gw w K g cf σ) (k : Int) (t i f j : Nat) (c n : Int) (ht : t ≤ 255) (hi : i ≤ 255) (hf : f ≤ 255) (hj : j ≤ 255) (hz : chk k [k, (t : Int), (i : Int), (f : Int), (j : Int), c] n = 0) (hw : wh σ k t = 0) {z : Int} (hb : nbc σ k c n = z) (h0 : (z != 0) = true) : Calls Tryd.prog 25 #[.pointer (some ⟨g, 0, none⟩), .agg #[.int .i64 k, .int .i64 (t : Int), .int .i64 (i : Int), .int .i64 (f : Int), .int .i64 (j : Int), .int .i64 c, .int .i64 n]] w fun e w' => e = .returned (.int .i64 z) ∧ w.grownBy w' none := by
  have G0 := Lib.hid (grown_alloc w (.cells #[.int .i64 k, .int .i64 (t : Int), .int .i64 (i : Int), .int .i64 (f : Int), .int .i64 (j : Int), .int .i64 c, .int .i64 n] 39))
  have S0 := Lib.hid (Sv.new w 39 k t i f j c n)
  have H := Lib.hid h
  clear h
  go_enter Tryd.func25, Tryd.ntmps25
  go_wp2_with (first
    | (go_at_call 41; (with_reducible refine (rCheck_as _ hz).mono ?_); rintro e w1 ⟨rfl, hg⟩; have G1 := Lib.hid (G0.out.trans hg); have S1 := Lib.hid (S0.out.made hg); obtain ⟨c0, c1, c2, c3, c4, c5, c6⟩ := S1.out; clear hg)
    | (go_at_call 42; (with_reducible refine (who_as (H.out.new G1.out) _ _ _ _ _ _ _ ht hw).mono ?_); rintro e w2 ⟨rfl, hg⟩; have G2 := Lib.hid (G1.out.trans hg); have S2 := Lib.hid (S1.out.made hg); clear c0 c1 c2 c3 c4 c5 c6; obtain ⟨c0, c1, c2, c3, c4, c5, c6⟩ := S2.out; clear hg)
    | (go_at_call 43; (with_reducible refine (nums_as (H.out.new G2.out) _ _ _ _ _ _ _ hb).mono ?_); rintro e w3 ⟨rfl, hg⟩; have G3 := Lib.hid (G2.out.trans hg); have S3 := Lib.hid (S2.out.made hg); clear c0 c1 c2 c3 c4 c5 c6; obtain ⟨c0, c1, c2, c3, c4, c5, c6⟩ := S3.out; clear hg))
  go_ret
  exact ⟨rfl, G3.out⟩
theorem code_e (h : Gw w K g cf σ) (k : Int) (t i f j : Nat) (c n : Int) (ht : t ≤ 255) (hi : i ≤ 255) (hf : f ≤ 255) (hj : j ≤ 255) (hz : chk k [k, (t : Int), (i : Int), (f : Int), (j : Int), c] n = 0) (hw : wh σ k t = 0) (hb : nbc σ k c n = 0) (hk : k < 3 ∨ 12 < k) : Calls Tryd.prog 25 #[.pointer (some ⟨g, 0, none⟩), .agg #[.int .i64 k, .int .i64 (t : Int), .int .i64 (i : Int), .int .i64 (f : Int), .int .i64 (j : Int), .int .i64 c, .int .i64 n]] w fun e w' => e = .returned (.int .i64 0) ∧ w.grownBy w' none := by
  have G0 := Lib.hid (grown_alloc w (.cells #[.int .i64 k, .int .i64 (t : Int), .int .i64 (i : Int), .int .i64 (f : Int), .int .i64 (j : Int), .int .i64 c, .int .i64 n] 39))
  have S0 := Lib.hid (Sv.new w 39 k t i f j c n)
  have H := Lib.hid h
  clear h
  have d1 : decide (k < 3) = true ∨ (decide (k < 3) = false ∧ decide (12 < k) = true) := by
    by_cases e : k < 3
    · exact .inl (decide_eq_true e)
    · exact .inr ⟨decide_eq_false e, decide_eq_true (by omega)⟩
  clear hk
  rcases d1 with d1 | ⟨d1, d2⟩
  · go_enter Tryd.func25, Tryd.ntmps25
    go_wp2_with (first
      | (go_at_call 41; (with_reducible refine (rCheck_as _ hz).mono ?_); rintro e w1 ⟨rfl, hg⟩; have G1 := Lib.hid (G0.out.trans hg); have S1 := Lib.hid (S0.out.made hg); obtain ⟨c0, c1, c2, c3, c4, c5, c6⟩ := S1.out; clear hg)
      | (go_at_call 42; (with_reducible refine (who_as (H.out.new G1.out) _ _ _ _ _ _ _ ht hw).mono ?_); rintro e w2 ⟨rfl, hg⟩; have G2 := Lib.hid (G1.out.trans hg); have S2 := Lib.hid (S1.out.made hg); clear c0 c1 c2 c3 c4 c5 c6; obtain ⟨c0, c1, c2, c3, c4, c5, c6⟩ := S2.out; clear hg)
      | (go_at_call 43; (with_reducible refine (nums_as (H.out.new G2.out) _ _ _ _ _ _ _ hb).mono ?_); rintro e w3 ⟨rfl, hg⟩; have G3 := Lib.hid (G2.out.trans hg); have S3 := Lib.hid (S2.out.made hg); clear c0 c1 c2 c3 c4 c5 c6; obtain ⟨c0, c1, c2, c3, c4, c5, c6⟩ := S3.out; clear hg))
    go_ret
    exact ⟨rfl, G3.out⟩
  · go_enter Tryd.func25, Tryd.ntmps25
    go_wp2_with (first
      | (go_at_call 41; (with_reducible refine (rCheck_as _ hz).mono ?_); rintro e w1 ⟨rfl, hg⟩; have G1 := Lib.hid (G0.out.trans hg); have S1 := Lib.hid (S0.out.made hg); obtain ⟨c0, c1, c2, c3, c4, c5, c6⟩ := S1.out; clear hg)
      | (go_at_call 42; (with_reducible refine (who_as (H.out.new G1.out) _ _ _ _ _ _ _ ht hw).mono ?_); rintro e w2 ⟨rfl, hg⟩; have G2 := Lib.hid (G1.out.trans hg); have S2 := Lib.hid (S1.out.made hg); clear c0 c1 c2 c3 c4 c5 c6; obtain ⟨c0, c1, c2, c3, c4, c5, c6⟩ := S2.out; clear hg)
      | (go_at_call 43; (with_reducible refine (nums_as (H.out.new G2.out) _ _ _ _ _ _ _ hb).mono ?_); rintro e w3 ⟨rfl, hg⟩; have G3 := Lib.hid (G2.out.trans hg); have S3 := Lib.hid (S2.out.made hg); clear c0 c1 c2 c3 c4 c5 c6; obtain ⟨c0, c1, c2, c3, c4, c5, c6⟩ := S3.out; clear hg))
    go_ret
    exact ⟨rfl, G3.out⟩
theorem code_3a (h : Gw w K g cf σ) (t i f j : Nat) (c n : Int) (ht : t ≤ 255) (hi : i ≤ 255) (hf : f ≤ 255) (hj : j ≤ 255) (hz : chk 3 [3, (t : Int), (i : Int), (f : Int), (j : Int), c] n = 0) (hw : wh σ 3 t = 0) (hb : nbc σ 3 c n = 0) {m : Nat} (hm' : (σ.hd t).length = m) (hq : 16 ≤ m) : Calls Tryd.prog 25 #[.pointer (some ⟨g, 0, none⟩), .agg #[.int .i64 3, .int .i64 (t : Int), .int .i64 (i : Int), .int .i64 (f : Int), .int .i64 (j : Int), .int .i64 c, .int .i64 n]] w fun e w' => e = .returned (.int .i64 3) ∧ w.grownBy w' none := by
  have G0 := Lib.hid (grown_alloc w (.cells #[.int .i64 3, .int .i64 (t : Int), .int .i64 (i : Int), .int .i64 (f : Int), .int .i64 (j : Int), .int .i64 c, .int .i64 n] 39))
  have S0 := Lib.hid (Sv.new w 39 3 t i f j c n)
  have H := Lib.hid h
  clear h
  have htn := wh_lt hw (by omega)
  have hm := Lib.hid hm'
  have hN := H.out.ok.n
  have hm16 : m ≤ 16 := by have := H.out.ok.hl t; omega
  clear hm'
  have i1 : (0 : Int) ≤ (t : Int) := by omega
  have i2 : (t : Int) < (σ.N : Int) := by omega
  go_enter Tryd.func25, Tryd.ntmps25
  go_wp2_with (first
    | (go_at_call 41; (with_reducible refine (rCheck_as _ hz).mono ?_); rintro e w1 ⟨rfl, hg⟩; have G1 := Lib.hid (G0.out.trans hg); have S1 := Lib.hid (S0.out.made hg); obtain ⟨c0, c1, c2, c3, c4, c5, c6⟩ := S1.out; clear hg)
    | (go_at_call 42; (with_reducible refine (who_as (H.out.new G1.out) _ _ _ _ _ _ _ ht hw).mono ?_); rintro e w2 ⟨rfl, hg⟩; have G2 := Lib.hid (G1.out.trans hg); have S2 := Lib.hid (S1.out.made hg); clear c0 c1 c2 c3 c4 c5 c6; obtain ⟨c0, c1, c2, c3, c4, c5, c6⟩ := S2.out; clear hg)
    | (go_at_call 43; (with_reducible refine (nums_as (H.out.new G2.out) _ _ _ _ _ _ _ hb).mono ?_); rintro e w3 ⟨rfl, hg⟩; have G3 := Lib.hid (G2.out.trans hg); have S3 := Lib.hid (S2.out.made hg); clear c0 c1 c2 c3 c4 c5 c6; obtain ⟨c0, c1, c2, c3, c4, c5, c6⟩ := S3.out; clear hg; obtain ⟨R, A, nc, vs, bs, h3⟩ := H.out.new G3.out; have x10 := h3.c10; obtain ⟨B, m', kk, hm', hm16', t1, -, -⟩ := h3.hv htn; obtain rfl : m' = m := hm'.trans hm.out; clear hm' hm16' h3))
  go_quiet (fail)
  go_wp2
  go_ret
  exact ⟨rfl, G3.out.trans (li.grown_drewN _ _ _)⟩
theorem code_3b (h : Gw w K g cf σ) (t i f j : Nat) (c n : Int) (ht : t ≤ 255) (hi : i ≤ 255) (hf : f ≤ 255) (hj : j ≤ 255) (hz : chk 3 [3, (t : Int), (i : Int), (f : Int), (j : Int), c] n = 0) (hw : wh σ 3 t = 0) (hb : nbc σ 3 c n = 0) {m : Nat} (hm' : (σ.hd t).length = m) (hq : ¬ 16 ≤ m) : Calls Tryd.prog 25 #[.pointer (some ⟨g, 0, none⟩), .agg #[.int .i64 3, .int .i64 (t : Int), .int .i64 (i : Int), .int .i64 (f : Int), .int .i64 (j : Int), .int .i64 c, .int .i64 n]] w fun e w' => e = .returned (.int .i64 0) ∧ w.grownBy w' none := by
  have G0 := Lib.hid (grown_alloc w (.cells #[.int .i64 3, .int .i64 (t : Int), .int .i64 (i : Int), .int .i64 (f : Int), .int .i64 (j : Int), .int .i64 c, .int .i64 n] 39))
  have S0 := Lib.hid (Sv.new w 39 3 t i f j c n)
  have H := Lib.hid h
  clear h
  have htn := wh_lt hw (by omega)
  have hm := Lib.hid hm'
  have hN := H.out.ok.n
  have hm16 : m ≤ 16 := by have := H.out.ok.hl t; omega
  clear hm'
  have i1 : (0 : Int) ≤ (t : Int) := by omega
  have i2 : (t : Int) < (σ.N : Int) := by omega
  go_enter Tryd.func25, Tryd.ntmps25
  go_wp2_with (first
    | (go_at_call 41; (with_reducible refine (rCheck_as _ hz).mono ?_); rintro e w1 ⟨rfl, hg⟩; have G1 := Lib.hid (G0.out.trans hg); have S1 := Lib.hid (S0.out.made hg); obtain ⟨c0, c1, c2, c3, c4, c5, c6⟩ := S1.out; clear hg)
    | (go_at_call 42; (with_reducible refine (who_as (H.out.new G1.out) _ _ _ _ _ _ _ ht hw).mono ?_); rintro e w2 ⟨rfl, hg⟩; have G2 := Lib.hid (G1.out.trans hg); have S2 := Lib.hid (S1.out.made hg); clear c0 c1 c2 c3 c4 c5 c6; obtain ⟨c0, c1, c2, c3, c4, c5, c6⟩ := S2.out; clear hg)
    | (go_at_call 43; (with_reducible refine (nums_as (H.out.new G2.out) _ _ _ _ _ _ _ hb).mono ?_); rintro e w3 ⟨rfl, hg⟩; have G3 := Lib.hid (G2.out.trans hg); have S3 := Lib.hid (S2.out.made hg); clear c0 c1 c2 c3 c4 c5 c6; obtain ⟨c0, c1, c2, c3, c4, c5, c6⟩ := S3.out; clear hg; obtain ⟨R, A, nc, vs, bs, h3⟩ := H.out.new G3.out; have x10 := h3.c10; obtain ⟨B, m', kk, hm', hm16', t1, -, -⟩ := h3.hv htn; obtain rfl : m' = m := hm'.trans hm.out; clear hm' hm16' h3))
  go_quiet (fail)
  go_wp2
  go_ret
  exact ⟨rfl, G3.out.trans (li.grown_drewN _ _ _)⟩
theorem code_4a (h : Gw w K g cf σ) (t i f j : Nat) (c n : Int) (ht : t ≤ 255) (hi : i ≤ 255) (hf : f ≤ 255) (hj : j ≤ 255) (hz : chk 4 [4, (t : Int), (i : Int), (f : Int), (j : Int), c] n = 0) (hw : wh σ 4 t = 0) (hb : nbc σ 4 c n = 0) {m : Nat} (hm' : (σ.hd t).length = m) (hq : 16 ≤ m) : Calls Tryd.prog 25 #[.pointer (some ⟨g, 0, none⟩), .agg #[.int .i64 4, .int .i64 (t : Int), .int .i64 (i : Int), .int .i64 (f : Int), .int .i64 (j : Int), .int .i64 c, .int .i64 n]] w fun e w' => e = .returned (.int .i64 3) ∧ w.grownBy w' none := by
  have G0 := Lib.hid (grown_alloc w (.cells #[.int .i64 4, .int .i64 (t : Int), .int .i64 (i : Int), .int .i64 (f : Int), .int .i64 (j : Int), .int .i64 c, .int .i64 n] 39))
  have S0 := Lib.hid (Sv.new w 39 4 t i f j c n)
  have H := Lib.hid h
  clear h
  have htn := wh_lt hw (by omega)
  have hm := Lib.hid hm'
  have hN := H.out.ok.n
  have hm16 : m ≤ 16 := by have := H.out.ok.hl t; omega
  clear hm'
  have i1 : (0 : Int) ≤ (t : Int) := by omega
  have i2 : (t : Int) < (σ.N : Int) := by omega
  go_enter Tryd.func25, Tryd.ntmps25
  go_wp2_with (first
    | (go_at_call 41; (with_reducible refine (rCheck_as _ hz).mono ?_); rintro e w1 ⟨rfl, hg⟩; have G1 := Lib.hid (G0.out.trans hg); have S1 := Lib.hid (S0.out.made hg); obtain ⟨c0, c1, c2, c3, c4, c5, c6⟩ := S1.out; clear hg)
    | (go_at_call 42; (with_reducible refine (who_as (H.out.new G1.out) _ _ _ _ _ _ _ ht hw).mono ?_); rintro e w2 ⟨rfl, hg⟩; have G2 := Lib.hid (G1.out.trans hg); have S2 := Lib.hid (S1.out.made hg); clear c0 c1 c2 c3 c4 c5 c6; obtain ⟨c0, c1, c2, c3, c4, c5, c6⟩ := S2.out; clear hg)
    | (go_at_call 43; (with_reducible refine (nums_as (H.out.new G2.out) _ _ _ _ _ _ _ hb).mono ?_); rintro e w3 ⟨rfl, hg⟩; have G3 := Lib.hid (G2.out.trans hg); have S3 := Lib.hid (S2.out.made hg); clear c0 c1 c2 c3 c4 c5 c6; obtain ⟨c0, c1, c2, c3, c4, c5, c6⟩ := S3.out; clear hg; obtain ⟨R, A, nc, vs, bs, h3⟩ := H.out.new G3.out; have x10 := h3.c10; obtain ⟨B, m', kk, hm', hm16', t1, -, -⟩ := h3.hv htn; obtain rfl : m' = m := hm'.trans hm.out; clear hm' hm16' h3))
  go_quiet (fail)
  go_wp2
  go_ret
  exact ⟨rfl, G3.out.trans (li.grown_drewN _ _ _)⟩
theorem code_4b (h : Gw w K g cf σ) (t i f j : Nat) (c n : Int) (ht : t ≤ 255) (hi : i ≤ 255) (hf : f ≤ 255) (hj : j ≤ 255) (hz : chk 4 [4, (t : Int), (i : Int), (f : Int), (j : Int), c] n = 0) (hw : wh σ 4 t = 0) (hb : nbc σ 4 c n = 0) {m : Nat} (hm' : (σ.hd t).length = m) (hq : ¬ 16 ≤ m) : Calls Tryd.prog 25 #[.pointer (some ⟨g, 0, none⟩), .agg #[.int .i64 4, .int .i64 (t : Int), .int .i64 (i : Int), .int .i64 (f : Int), .int .i64 (j : Int), .int .i64 c, .int .i64 n]] w fun e w' => e = .returned (.int .i64 0) ∧ w.grownBy w' none := by
  have G0 := Lib.hid (grown_alloc w (.cells #[.int .i64 4, .int .i64 (t : Int), .int .i64 (i : Int), .int .i64 (f : Int), .int .i64 (j : Int), .int .i64 c, .int .i64 n] 39))
  have S0 := Lib.hid (Sv.new w 39 4 t i f j c n)
  have H := Lib.hid h
  clear h
  have htn := wh_lt hw (by omega)
  have hm := Lib.hid hm'
  have hN := H.out.ok.n
  have hm16 : m ≤ 16 := by have := H.out.ok.hl t; omega
  clear hm'
  have i1 : (0 : Int) ≤ (t : Int) := by omega
  have i2 : (t : Int) < (σ.N : Int) := by omega
  go_enter Tryd.func25, Tryd.ntmps25
  go_wp2_with (first
    | (go_at_call 41; (with_reducible refine (rCheck_as _ hz).mono ?_); rintro e w1 ⟨rfl, hg⟩; have G1 := Lib.hid (G0.out.trans hg); have S1 := Lib.hid (S0.out.made hg); obtain ⟨c0, c1, c2, c3, c4, c5, c6⟩ := S1.out; clear hg)
    | (go_at_call 42; (with_reducible refine (who_as (H.out.new G1.out) _ _ _ _ _ _ _ ht hw).mono ?_); rintro e w2 ⟨rfl, hg⟩; have G2 := Lib.hid (G1.out.trans hg); have S2 := Lib.hid (S1.out.made hg); clear c0 c1 c2 c3 c4 c5 c6; obtain ⟨c0, c1, c2, c3, c4, c5, c6⟩ := S2.out; clear hg)
    | (go_at_call 43; (with_reducible refine (nums_as (H.out.new G2.out) _ _ _ _ _ _ _ hb).mono ?_); rintro e w3 ⟨rfl, hg⟩; have G3 := Lib.hid (G2.out.trans hg); have S3 := Lib.hid (S2.out.made hg); clear c0 c1 c2 c3 c4 c5 c6; obtain ⟨c0, c1, c2, c3, c4, c5, c6⟩ := S3.out; clear hg; obtain ⟨R, A, nc, vs, bs, h3⟩ := H.out.new G3.out; have x10 := h3.c10; obtain ⟨B, m', kk, hm', hm16', t1, -, -⟩ := h3.hv htn; obtain rfl : m' = m := hm'.trans hm.out; clear hm' hm16' h3))
  go_quiet (fail)
  go_wp2
  go_ret
  exact ⟨rfl, G3.out.trans (li.grown_drewN _ _ _)⟩
theorem code_5a (h : Gw w K g cf σ) (t i f j : Nat) (c n : Int) (ht : t ≤ 255) (hi : i ≤ 255) (hf : f ≤ 255) (hj : j ≤ 255) (hz : chk 5 [5, (t : Int), (i : Int), (f : Int), (j : Int), c] n = 0) (hw : wh σ 5 t = 0) (hb : nbc σ 5 c n = 0) {m : Nat} (hm' : (σ.hd t).length = m) (hq : 16 ≤ m) : Calls Tryd.prog 25 #[.pointer (some ⟨g, 0, none⟩), .agg #[.int .i64 5, .int .i64 (t : Int), .int .i64 (i : Int), .int .i64 (f : Int), .int .i64 (j : Int), .int .i64 c, .int .i64 n]] w fun e w' => e = .returned (.int .i64 3) ∧ w.grownBy w' none := by
  have G0 := Lib.hid (grown_alloc w (.cells #[.int .i64 5, .int .i64 (t : Int), .int .i64 (i : Int), .int .i64 (f : Int), .int .i64 (j : Int), .int .i64 c, .int .i64 n] 39))
  have S0 := Lib.hid (Sv.new w 39 5 t i f j c n)
  have H := Lib.hid h
  clear h
  have htn := wh_lt hw (by omega)
  have hm := Lib.hid hm'
  have hN := H.out.ok.n
  have hm16 : m ≤ 16 := by have := H.out.ok.hl t; omega
  clear hm'
  have i1 : (0 : Int) ≤ (t : Int) := by omega
  have i2 : (t : Int) < (σ.N : Int) := by omega
  go_enter Tryd.func25, Tryd.ntmps25
  go_wp2_with (first
    | (go_at_call 41; (with_reducible refine (rCheck_as _ hz).mono ?_); rintro e w1 ⟨rfl, hg⟩; have G1 := Lib.hid (G0.out.trans hg); have S1 := Lib.hid (S0.out.made hg); obtain ⟨c0, c1, c2, c3, c4, c5, c6⟩ := S1.out; clear hg)
    | (go_at_call 42; (with_reducible refine (who_as (H.out.new G1.out) _ _ _ _ _ _ _ ht hw).mono ?_); rintro e w2 ⟨rfl, hg⟩; have G2 := Lib.hid (G1.out.trans hg); have S2 := Lib.hid (S1.out.made hg); clear c0 c1 c2 c3 c4 c5 c6; obtain ⟨c0, c1, c2, c3, c4, c5, c6⟩ := S2.out; clear hg)
    | (go_at_call 43; (with_reducible refine (nums_as (H.out.new G2.out) _ _ _ _ _ _ _ hb).mono ?_); rintro e w3 ⟨rfl, hg⟩; have G3 := Lib.hid (G2.out.trans hg); have S3 := Lib.hid (S2.out.made hg); clear c0 c1 c2 c3 c4 c5 c6; obtain ⟨c0, c1, c2, c3, c4, c5, c6⟩ := S3.out; clear hg; obtain ⟨R, A, nc, vs, bs, h3⟩ := H.out.new G3.out; have x10 := h3.c10; obtain ⟨B, m', kk, hm', hm16', t1, -, -⟩ := h3.hv htn; obtain rfl : m' = m := hm'.trans hm.out; clear hm' hm16' h3))
  go_quiet (fail)
  go_wp2
  go_ret
  exact ⟨rfl, G3.out.trans (li.grown_drewN _ _ _)⟩
theorem code_5b (h : Gw w K g cf σ) (t i f j : Nat) (c n : Int) (ht : t ≤ 255) (hi : i ≤ 255) (hf : f ≤ 255) (hj : j ≤ 255) (hz : chk 5 [5, (t : Int), (i : Int), (f : Int), (j : Int), c] n = 0) (hw : wh σ 5 t = 0) (hb : nbc σ 5 c n = 0) {m : Nat} (hm' : (σ.hd t).length = m) (hq : ¬ 16 ≤ m) : Calls Tryd.prog 25 #[.pointer (some ⟨g, 0, none⟩), .agg #[.int .i64 5, .int .i64 (t : Int), .int .i64 (i : Int), .int .i64 (f : Int), .int .i64 (j : Int), .int .i64 c, .int .i64 n]] w fun e w' => e = .returned (.int .i64 0) ∧ w.grownBy w' none := by
  have G0 := Lib.hid (grown_alloc w (.cells #[.int .i64 5, .int .i64 (t : Int), .int .i64 (i : Int), .int .i64 (f : Int), .int .i64 (j : Int), .int .i64 c, .int .i64 n] 39))
  have S0 := Lib.hid (Sv.new w 39 5 t i f j c n)
  have H := Lib.hid h
  clear h
  have htn := wh_lt hw (by omega)
  have hm := Lib.hid hm'
  have hN := H.out.ok.n
  have hm16 : m ≤ 16 := by have := H.out.ok.hl t; omega
  clear hm'
  have i1 : (0 : Int) ≤ (t : Int) := by omega
  have i2 : (t : Int) < (σ.N : Int) := by omega
  go_enter Tryd.func25, Tryd.ntmps25
  go_wp2_with (first
    | (go_at_call 41; (with_reducible refine (rCheck_as _ hz).mono ?_); rintro e w1 ⟨rfl, hg⟩; have G1 := Lib.hid (G0.out.trans hg); have S1 := Lib.hid (S0.out.made hg); obtain ⟨c0, c1, c2, c3, c4, c5, c6⟩ := S1.out; clear hg)
    | (go_at_call 42; (with_reducible refine (who_as (H.out.new G1.out) _ _ _ _ _ _ _ ht hw).mono ?_); rintro e w2 ⟨rfl, hg⟩; have G2 := Lib.hid (G1.out.trans hg); have S2 := Lib.hid (S1.out.made hg); clear c0 c1 c2 c3 c4 c5 c6; obtain ⟨c0, c1, c2, c3, c4, c5, c6⟩ := S2.out; clear hg)
    | (go_at_call 43; (with_reducible refine (nums_as (H.out.new G2.out) _ _ _ _ _ _ _ hb).mono ?_); rintro e w3 ⟨rfl, hg⟩; have G3 := Lib.hid (G2.out.trans hg); have S3 := Lib.hid (S2.out.made hg); clear c0 c1 c2 c3 c4 c5 c6; obtain ⟨c0, c1, c2, c3, c4, c5, c6⟩ := S3.out; clear hg; obtain ⟨R, A, nc, vs, bs, h3⟩ := H.out.new G3.out; have x10 := h3.c10; obtain ⟨B, m', kk, hm', hm16', t1, -, -⟩ := h3.hv htn; obtain rfl : m' = m := hm'.trans hm.out; clear hm' hm16' h3))
  go_quiet (fail)
  go_wp2
  go_ret
  exact ⟨rfl, G3.out.trans (li.grown_drewN _ _ _)⟩
theorem code_6a (h : Gw w K g cf σ) (t i f j : Nat) (c n : Int) (ht : t ≤ 255) (hi : i ≤ 255) (hf : f ≤ 255) (hj : j ≤ 255) (hz : chk 6 [6, (t : Int), (i : Int), (f : Int), (j : Int), c] n = 0) (hw : wh σ 6 t = 0) (hb : nbc σ 6 c n = 0) {m : Nat} (hm' : (σ.hd t).length = m) (hq : 16 ≤ m) : Calls Tryd.prog 25 #[.pointer (some ⟨g, 0, none⟩), .agg #[.int .i64 6, .int .i64 (t : Int), .int .i64 (i : Int), .int .i64 (f : Int), .int .i64 (j : Int), .int .i64 c, .int .i64 n]] w fun e w' => e = .returned (.int .i64 3) ∧ w.grownBy w' none := by
  have G0 := Lib.hid (grown_alloc w (.cells #[.int .i64 6, .int .i64 (t : Int), .int .i64 (i : Int), .int .i64 (f : Int), .int .i64 (j : Int), .int .i64 c, .int .i64 n] 39))
  have S0 := Lib.hid (Sv.new w 39 6 t i f j c n)
  have H := Lib.hid h
  clear h
  have htn := wh_lt hw (by omega)
  have hm := Lib.hid hm'
  have hN := H.out.ok.n
  have hm16 : m ≤ 16 := by have := H.out.ok.hl t; omega
  clear hm'
  have i1 : (0 : Int) ≤ (t : Int) := by omega
  have i2 : (t : Int) < (σ.N : Int) := by omega
  go_enter Tryd.func25, Tryd.ntmps25
  go_wp2_with (first
    | (go_at_call 41; (with_reducible refine (rCheck_as _ hz).mono ?_); rintro e w1 ⟨rfl, hg⟩; have G1 := Lib.hid (G0.out.trans hg); have S1 := Lib.hid (S0.out.made hg); obtain ⟨c0, c1, c2, c3, c4, c5, c6⟩ := S1.out; clear hg)
    | (go_at_call 42; (with_reducible refine (who_as (H.out.new G1.out) _ _ _ _ _ _ _ ht hw).mono ?_); rintro e w2 ⟨rfl, hg⟩; have G2 := Lib.hid (G1.out.trans hg); have S2 := Lib.hid (S1.out.made hg); clear c0 c1 c2 c3 c4 c5 c6; obtain ⟨c0, c1, c2, c3, c4, c5, c6⟩ := S2.out; clear hg)
    | (go_at_call 43; (with_reducible refine (nums_as (H.out.new G2.out) _ _ _ _ _ _ _ hb).mono ?_); rintro e w3 ⟨rfl, hg⟩; have G3 := Lib.hid (G2.out.trans hg); have S3 := Lib.hid (S2.out.made hg); clear c0 c1 c2 c3 c4 c5 c6; obtain ⟨c0, c1, c2, c3, c4, c5, c6⟩ := S3.out; clear hg; obtain ⟨R, A, nc, vs, bs, h3⟩ := H.out.new G3.out; have x10 := h3.c10; obtain ⟨B, m', kk, hm', hm16', t1, -, -⟩ := h3.hv htn; obtain rfl : m' = m := hm'.trans hm.out; clear hm' hm16' h3))
  go_quiet (fail)
  go_wp2
  go_ret
  exact ⟨rfl, G3.out.trans (li.grown_drewN _ _ _)⟩
theorem code_6b (h : Gw w K g cf σ) (t i f j : Nat) (c n : Int) (ht : t ≤ 255) (hi : i ≤ 255) (hf : f ≤ 255) (hj : j ≤ 255) (hz : chk 6 [6, (t : Int), (i : Int), (f : Int), (j : Int), c] n = 0) (hw : wh σ 6 t = 0) (hb : nbc σ 6 c n = 0) {m : Nat} (hm' : (σ.hd t).length = m) (hq : ¬ 16 ≤ m) : Calls Tryd.prog 25 #[.pointer (some ⟨g, 0, none⟩), .agg #[.int .i64 6, .int .i64 (t : Int), .int .i64 (i : Int), .int .i64 (f : Int), .int .i64 (j : Int), .int .i64 c, .int .i64 n]] w fun e w' => e = .returned (.int .i64 0) ∧ w.grownBy w' none := by
  have G0 := Lib.hid (grown_alloc w (.cells #[.int .i64 6, .int .i64 (t : Int), .int .i64 (i : Int), .int .i64 (f : Int), .int .i64 (j : Int), .int .i64 c, .int .i64 n] 39))
  have S0 := Lib.hid (Sv.new w 39 6 t i f j c n)
  have H := Lib.hid h
  clear h
  have htn := wh_lt hw (by omega)
  have hm := Lib.hid hm'
  have hN := H.out.ok.n
  have hm16 : m ≤ 16 := by have := H.out.ok.hl t; omega
  clear hm'
  have i1 : (0 : Int) ≤ (t : Int) := by omega
  have i2 : (t : Int) < (σ.N : Int) := by omega
  go_enter Tryd.func25, Tryd.ntmps25
  go_wp2_with (first
    | (go_at_call 41; (with_reducible refine (rCheck_as _ hz).mono ?_); rintro e w1 ⟨rfl, hg⟩; have G1 := Lib.hid (G0.out.trans hg); have S1 := Lib.hid (S0.out.made hg); obtain ⟨c0, c1, c2, c3, c4, c5, c6⟩ := S1.out; clear hg)
    | (go_at_call 42; (with_reducible refine (who_as (H.out.new G1.out) _ _ _ _ _ _ _ ht hw).mono ?_); rintro e w2 ⟨rfl, hg⟩; have G2 := Lib.hid (G1.out.trans hg); have S2 := Lib.hid (S1.out.made hg); clear c0 c1 c2 c3 c4 c5 c6; obtain ⟨c0, c1, c2, c3, c4, c5, c6⟩ := S2.out; clear hg)
    | (go_at_call 43; (with_reducible refine (nums_as (H.out.new G2.out) _ _ _ _ _ _ _ hb).mono ?_); rintro e w3 ⟨rfl, hg⟩; have G3 := Lib.hid (G2.out.trans hg); have S3 := Lib.hid (S2.out.made hg); clear c0 c1 c2 c3 c4 c5 c6; obtain ⟨c0, c1, c2, c3, c4, c5, c6⟩ := S3.out; clear hg; obtain ⟨R, A, nc, vs, bs, h3⟩ := H.out.new G3.out; have x10 := h3.c10; obtain ⟨B, m', kk, hm', hm16', t1, -, -⟩ := h3.hv htn; obtain rfl : m' = m := hm'.trans hm.out; clear hm' hm16' h3))
  go_quiet (fail)
  go_wp2
  go_ret
  exact ⟨rfl, G3.out.trans (li.grown_drewN _ _ _)⟩
theorem code_7a (h : Gw w K g cf σ) (t i f j : Nat) (c n : Int) (ht : t ≤ 255) (hi : i ≤ 255) (hf : f ≤ 255) (hj : j ≤ 255) (hz : chk 7 [7, (t : Int), (i : Int), (f : Int), (j : Int), c] n = 0) (hw : wh σ 7 t = 0) (hb : nbc σ 7 c n = 0) {m : Nat} (hm' : (σ.hd t).length = m) (hq : m ≤ i) : Calls Tryd.prog 25 #[.pointer (some ⟨g, 0, none⟩), .agg #[.int .i64 7, .int .i64 (t : Int), .int .i64 (i : Int), .int .i64 (f : Int), .int .i64 (j : Int), .int .i64 c, .int .i64 n]] w fun e w' => e = .returned (.int .i64 4) ∧ w.grownBy w' none := by
  have G0 := Lib.hid (grown_alloc w (.cells #[.int .i64 7, .int .i64 (t : Int), .int .i64 (i : Int), .int .i64 (f : Int), .int .i64 (j : Int), .int .i64 c, .int .i64 n] 39))
  have S0 := Lib.hid (Sv.new w 39 7 t i f j c n)
  have H := Lib.hid h
  clear h
  have htn := wh_lt hw (by omega)
  have hm := Lib.hid hm'
  have hN := H.out.ok.n
  have hm16 : m ≤ 16 := by have := H.out.ok.hl t; omega
  clear hm'
  have i1 : (0 : Int) ≤ (t : Int) := by omega
  have i2 : (t : Int) < (σ.N : Int) := by omega
  go_enter Tryd.func25, Tryd.ntmps25
  go_wp2_with (first
    | (go_at_call 41; (with_reducible refine (rCheck_as _ hz).mono ?_); rintro e w1 ⟨rfl, hg⟩; have G1 := Lib.hid (G0.out.trans hg); have S1 := Lib.hid (S0.out.made hg); obtain ⟨c0, c1, c2, c3, c4, c5, c6⟩ := S1.out; clear hg)
    | (go_at_call 42; (with_reducible refine (who_as (H.out.new G1.out) _ _ _ _ _ _ _ ht hw).mono ?_); rintro e w2 ⟨rfl, hg⟩; have G2 := Lib.hid (G1.out.trans hg); have S2 := Lib.hid (S1.out.made hg); clear c0 c1 c2 c3 c4 c5 c6; obtain ⟨c0, c1, c2, c3, c4, c5, c6⟩ := S2.out; clear hg)
    | (go_at_call 43; (with_reducible refine (nums_as (H.out.new G2.out) _ _ _ _ _ _ _ hb).mono ?_); rintro e w3 ⟨rfl, hg⟩; have G3 := Lib.hid (G2.out.trans hg); have S3 := Lib.hid (S2.out.made hg); clear c0 c1 c2 c3 c4 c5 c6; obtain ⟨c0, c1, c2, c3, c4, c5, c6⟩ := S3.out; clear hg; obtain ⟨R, A, nc, vs, bs, h3⟩ := H.out.new G3.out; have x10 := h3.c10; obtain ⟨B, m', kk, hm', hm16', t1, -, -⟩ := h3.hv htn; obtain rfl : m' = m := hm'.trans hm.out; clear hm' hm16' h3))
  go_quiet (fail)
  go_wp2
  go_ret
  exact ⟨rfl, G3.out.trans (li.grown_drewN _ _ _)⟩
theorem code_7b (h : Gw w K g cf σ) (t i f j : Nat) (c n : Int) (ht : t ≤ 255) (hi : i ≤ 255) (hf : f ≤ 255) (hj : j ≤ 255) (hz : chk 7 [7, (t : Int), (i : Int), (f : Int), (j : Int), c] n = 0) (hw : wh σ 7 t = 0) (hb : nbc σ 7 c n = 0) {m : Nat} (hm' : (σ.hd t).length = m) (hq : ¬ m ≤ i) (hq2 : 16 ≤ m) : Calls Tryd.prog 25 #[.pointer (some ⟨g, 0, none⟩), .agg #[.int .i64 7, .int .i64 (t : Int), .int .i64 (i : Int), .int .i64 (f : Int), .int .i64 (j : Int), .int .i64 c, .int .i64 n]] w fun e w' => e = .returned (.int .i64 3) ∧ w.grownBy w' none := by
  have G0 := Lib.hid (grown_alloc w (.cells #[.int .i64 7, .int .i64 (t : Int), .int .i64 (i : Int), .int .i64 (f : Int), .int .i64 (j : Int), .int .i64 c, .int .i64 n] 39))
  have S0 := Lib.hid (Sv.new w 39 7 t i f j c n)
  have H := Lib.hid h
  clear h
  have htn := wh_lt hw (by omega)
  have hm := Lib.hid hm'
  have hN := H.out.ok.n
  have hm16 : m ≤ 16 := by have := H.out.ok.hl t; omega
  clear hm'
  have i1 : (0 : Int) ≤ (t : Int) := by omega
  have i2 : (t : Int) < (σ.N : Int) := by omega
  go_enter Tryd.func25, Tryd.ntmps25
  go_wp2_with (first
    | (go_at_call 41; (with_reducible refine (rCheck_as _ hz).mono ?_); rintro e w1 ⟨rfl, hg⟩; have G1 := Lib.hid (G0.out.trans hg); have S1 := Lib.hid (S0.out.made hg); obtain ⟨c0, c1, c2, c3, c4, c5, c6⟩ := S1.out; clear hg)
    | (go_at_call 42; (with_reducible refine (who_as (H.out.new G1.out) _ _ _ _ _ _ _ ht hw).mono ?_); rintro e w2 ⟨rfl, hg⟩; have G2 := Lib.hid (G1.out.trans hg); have S2 := Lib.hid (S1.out.made hg); clear c0 c1 c2 c3 c4 c5 c6; obtain ⟨c0, c1, c2, c3, c4, c5, c6⟩ := S2.out; clear hg)
    | (go_at_call 43; (with_reducible refine (nums_as (H.out.new G2.out) _ _ _ _ _ _ _ hb).mono ?_); rintro e w3 ⟨rfl, hg⟩; have G3 := Lib.hid (G2.out.trans hg); have S3 := Lib.hid (S2.out.made hg); clear c0 c1 c2 c3 c4 c5 c6; obtain ⟨c0, c1, c2, c3, c4, c5, c6⟩ := S3.out; clear hg; obtain ⟨R, A, nc, vs, bs, h3⟩ := H.out.new G3.out; have x10 := h3.c10; obtain ⟨B, m', kk, hm', hm16', t1, -, -⟩ := h3.hv htn; obtain rfl : m' = m := hm'.trans hm.out; clear hm' hm16' h3))
  go_quiet (fail)
  go_wp2
  go_ret
  exact ⟨rfl, G3.out.trans (li.grown_drewN _ _ _)⟩
theorem code_7c (h : Gw w K g cf σ) (t i f j : Nat) (c n : Int) (ht : t ≤ 255) (hi : i ≤ 255) (hf : f ≤ 255) (hj : j ≤ 255) (hz : chk 7 [7, (t : Int), (i : Int), (f : Int), (j : Int), c] n = 0) (hw : wh σ 7 t = 0) (hb : nbc σ 7 c n = 0) {m : Nat} (hm' : (σ.hd t).length = m) (hq : ¬ m ≤ i) (hq2 : ¬ 16 ≤ m) : Calls Tryd.prog 25 #[.pointer (some ⟨g, 0, none⟩), .agg #[.int .i64 7, .int .i64 (t : Int), .int .i64 (i : Int), .int .i64 (f : Int), .int .i64 (j : Int), .int .i64 c, .int .i64 n]] w fun e w' => e = .returned (.int .i64 0) ∧ w.grownBy w' none := by
  have G0 := Lib.hid (grown_alloc w (.cells #[.int .i64 7, .int .i64 (t : Int), .int .i64 (i : Int), .int .i64 (f : Int), .int .i64 (j : Int), .int .i64 c, .int .i64 n] 39))
  have S0 := Lib.hid (Sv.new w 39 7 t i f j c n)
  have H := Lib.hid h
  clear h
  have htn := wh_lt hw (by omega)
  have hm := Lib.hid hm'
  have hN := H.out.ok.n
  have hm16 : m ≤ 16 := by have := H.out.ok.hl t; omega
  clear hm'
  have i1 : (0 : Int) ≤ (t : Int) := by omega
  have i2 : (t : Int) < (σ.N : Int) := by omega
  go_enter Tryd.func25, Tryd.ntmps25
  go_wp2_with (first
    | (go_at_call 41; (with_reducible refine (rCheck_as _ hz).mono ?_); rintro e w1 ⟨rfl, hg⟩; have G1 := Lib.hid (G0.out.trans hg); have S1 := Lib.hid (S0.out.made hg); obtain ⟨c0, c1, c2, c3, c4, c5, c6⟩ := S1.out; clear hg)
    | (go_at_call 42; (with_reducible refine (who_as (H.out.new G1.out) _ _ _ _ _ _ _ ht hw).mono ?_); rintro e w2 ⟨rfl, hg⟩; have G2 := Lib.hid (G1.out.trans hg); have S2 := Lib.hid (S1.out.made hg); clear c0 c1 c2 c3 c4 c5 c6; obtain ⟨c0, c1, c2, c3, c4, c5, c6⟩ := S2.out; clear hg)
    | (go_at_call 43; (with_reducible refine (nums_as (H.out.new G2.out) _ _ _ _ _ _ _ hb).mono ?_); rintro e w3 ⟨rfl, hg⟩; have G3 := Lib.hid (G2.out.trans hg); have S3 := Lib.hid (S2.out.made hg); clear c0 c1 c2 c3 c4 c5 c6; obtain ⟨c0, c1, c2, c3, c4, c5, c6⟩ := S3.out; clear hg; obtain ⟨R, A, nc, vs, bs, h3⟩ := H.out.new G3.out; have x10 := h3.c10; obtain ⟨B, m', kk, hm', hm16', t1, -, -⟩ := h3.hv htn; obtain rfl : m' = m := hm'.trans hm.out; clear hm' hm16' h3))
  go_quiet (fail)
  go_wp2
  go_ret
  exact ⟨rfl, G3.out.trans (li.grown_drewN _ _ _)⟩
theorem code_8a (h : Gw w K g cf σ) (t i f j : Nat) (c n : Int) (ht : t ≤ 255) (hi : i ≤ 255) (hf : f ≤ 255) (hj : j ≤ 255) (hz : chk 8 [8, (t : Int), (i : Int), (f : Int), (j : Int), c] n = 0) (hw : wh σ 8 t = 0) (hb : nbc σ 8 c n = 0) {m : Nat} (hm' : (σ.hd t).length = m) (hq : m = 0) : Calls Tryd.prog 25 #[.pointer (some ⟨g, 0, none⟩), .agg #[.int .i64 8, .int .i64 (t : Int), .int .i64 (i : Int), .int .i64 (f : Int), .int .i64 (j : Int), .int .i64 c, .int .i64 n]] w fun e w' => e = .returned (.int .i64 4) ∧ w.grownBy w' none := by
  have G0 := Lib.hid (grown_alloc w (.cells #[.int .i64 8, .int .i64 (t : Int), .int .i64 (i : Int), .int .i64 (f : Int), .int .i64 (j : Int), .int .i64 c, .int .i64 n] 39))
  have S0 := Lib.hid (Sv.new w 39 8 t i f j c n)
  have H := Lib.hid h
  clear h
  have htn := wh_lt hw (by omega)
  have hm := Lib.hid hm'
  have hN := H.out.ok.n
  have hm16 : m ≤ 16 := by have := H.out.ok.hl t; omega
  clear hm'
  have i1 : (0 : Int) ≤ (t : Int) := by omega
  have i2 : (t : Int) < (σ.N : Int) := by omega
  go_enter Tryd.func25, Tryd.ntmps25
  go_wp2_with (first
    | (go_at_call 41; (with_reducible refine (rCheck_as _ hz).mono ?_); rintro e w1 ⟨rfl, hg⟩; have G1 := Lib.hid (G0.out.trans hg); have S1 := Lib.hid (S0.out.made hg); obtain ⟨c0, c1, c2, c3, c4, c5, c6⟩ := S1.out; clear hg)
    | (go_at_call 42; (with_reducible refine (who_as (H.out.new G1.out) _ _ _ _ _ _ _ ht hw).mono ?_); rintro e w2 ⟨rfl, hg⟩; have G2 := Lib.hid (G1.out.trans hg); have S2 := Lib.hid (S1.out.made hg); clear c0 c1 c2 c3 c4 c5 c6; obtain ⟨c0, c1, c2, c3, c4, c5, c6⟩ := S2.out; clear hg)
    | (go_at_call 43; (with_reducible refine (nums_as (H.out.new G2.out) _ _ _ _ _ _ _ hb).mono ?_); rintro e w3 ⟨rfl, hg⟩; have G3 := Lib.hid (G2.out.trans hg); have S3 := Lib.hid (S2.out.made hg); clear c0 c1 c2 c3 c4 c5 c6; obtain ⟨c0, c1, c2, c3, c4, c5, c6⟩ := S3.out; clear hg; obtain ⟨R, A, nc, vs, bs, h3⟩ := H.out.new G3.out; have x10 := h3.c10; obtain ⟨B, m', kk, hm', hm16', t1, -, -⟩ := h3.hv htn; obtain rfl : m' = m := hm'.trans hm.out; clear hm' hm16' h3))
  go_quiet (fail)
  go_wp2
  go_ret
  exact ⟨rfl, G3.out.trans (li.grown_drewN _ _ _)⟩
theorem code_8b (h : Gw w K g cf σ) (t i f j : Nat) (c n : Int) (ht : t ≤ 255) (hi : i ≤ 255) (hf : f ≤ 255) (hj : j ≤ 255) (hz : chk 8 [8, (t : Int), (i : Int), (f : Int), (j : Int), c] n = 0) (hw : wh σ 8 t = 0) (hb : nbc σ 8 c n = 0) {m : Nat} (hm' : (σ.hd t).length = m) (hq : ¬ m = 0) : Calls Tryd.prog 25 #[.pointer (some ⟨g, 0, none⟩), .agg #[.int .i64 8, .int .i64 (t : Int), .int .i64 (i : Int), .int .i64 (f : Int), .int .i64 (j : Int), .int .i64 c, .int .i64 n]] w fun e w' => e = .returned (.int .i64 0) ∧ w.grownBy w' none := by
  have G0 := Lib.hid (grown_alloc w (.cells #[.int .i64 8, .int .i64 (t : Int), .int .i64 (i : Int), .int .i64 (f : Int), .int .i64 (j : Int), .int .i64 c, .int .i64 n] 39))
  have S0 := Lib.hid (Sv.new w 39 8 t i f j c n)
  have H := Lib.hid h
  clear h
  have htn := wh_lt hw (by omega)
  have hm := Lib.hid hm'
  have hN := H.out.ok.n
  have hm16 : m ≤ 16 := by have := H.out.ok.hl t; omega
  clear hm'
  have i1 : (0 : Int) ≤ (t : Int) := by omega
  have i2 : (t : Int) < (σ.N : Int) := by omega
  go_enter Tryd.func25, Tryd.ntmps25
  go_wp2_with (first
    | (go_at_call 41; (with_reducible refine (rCheck_as _ hz).mono ?_); rintro e w1 ⟨rfl, hg⟩; have G1 := Lib.hid (G0.out.trans hg); have S1 := Lib.hid (S0.out.made hg); obtain ⟨c0, c1, c2, c3, c4, c5, c6⟩ := S1.out; clear hg)
    | (go_at_call 42; (with_reducible refine (who_as (H.out.new G1.out) _ _ _ _ _ _ _ ht hw).mono ?_); rintro e w2 ⟨rfl, hg⟩; have G2 := Lib.hid (G1.out.trans hg); have S2 := Lib.hid (S1.out.made hg); clear c0 c1 c2 c3 c4 c5 c6; obtain ⟨c0, c1, c2, c3, c4, c5, c6⟩ := S2.out; clear hg)
    | (go_at_call 43; (with_reducible refine (nums_as (H.out.new G2.out) _ _ _ _ _ _ _ hb).mono ?_); rintro e w3 ⟨rfl, hg⟩; have G3 := Lib.hid (G2.out.trans hg); have S3 := Lib.hid (S2.out.made hg); clear c0 c1 c2 c3 c4 c5 c6; obtain ⟨c0, c1, c2, c3, c4, c5, c6⟩ := S3.out; clear hg; obtain ⟨R, A, nc, vs, bs, h3⟩ := H.out.new G3.out; have x10 := h3.c10; obtain ⟨B, m', kk, hm', hm16', t1, -, -⟩ := h3.hv htn; obtain rfl : m' = m := hm'.trans hm.out; clear hm' hm16' h3))
  go_quiet (fail)
  go_wp2
  go_ret
  exact ⟨rfl, G3.out.trans (li.grown_drewN _ _ _)⟩
theorem code_11a (h : Gw w K g cf σ) (t i f j : Nat) (c n : Int) (ht : t ≤ 255) (hi : i ≤ 255) (hf : f ≤ 255) (hj : j ≤ 255) (hz : chk 11 [11, (t : Int), (i : Int), (f : Int), (j : Int), c] n = 0) (hw : wh σ 11 t = 0) (hb : nbc σ 11 c n = 0) {m : Nat} (hm' : (σ.hd t).length = m) (hq : m ≤ i) : Calls Tryd.prog 25 #[.pointer (some ⟨g, 0, none⟩), .agg #[.int .i64 11, .int .i64 (t : Int), .int .i64 (i : Int), .int .i64 (f : Int), .int .i64 (j : Int), .int .i64 c, .int .i64 n]] w fun e w' => e = .returned (.int .i64 4) ∧ w.grownBy w' none := by
  have G0 := Lib.hid (grown_alloc w (.cells #[.int .i64 11, .int .i64 (t : Int), .int .i64 (i : Int), .int .i64 (f : Int), .int .i64 (j : Int), .int .i64 c, .int .i64 n] 39))
  have S0 := Lib.hid (Sv.new w 39 11 t i f j c n)
  have H := Lib.hid h
  clear h
  have htn := wh_lt hw (by omega)
  have hm := Lib.hid hm'
  have hN := H.out.ok.n
  have hm16 : m ≤ 16 := by have := H.out.ok.hl t; omega
  clear hm'
  have i1 : (0 : Int) ≤ (t : Int) := by omega
  have i2 : (t : Int) < (σ.N : Int) := by omega
  go_enter Tryd.func25, Tryd.ntmps25
  go_wp2_with (first
    | (go_at_call 41; (with_reducible refine (rCheck_as _ hz).mono ?_); rintro e w1 ⟨rfl, hg⟩; have G1 := Lib.hid (G0.out.trans hg); have S1 := Lib.hid (S0.out.made hg); obtain ⟨c0, c1, c2, c3, c4, c5, c6⟩ := S1.out; clear hg)
    | (go_at_call 42; (with_reducible refine (who_as (H.out.new G1.out) _ _ _ _ _ _ _ ht hw).mono ?_); rintro e w2 ⟨rfl, hg⟩; have G2 := Lib.hid (G1.out.trans hg); have S2 := Lib.hid (S1.out.made hg); clear c0 c1 c2 c3 c4 c5 c6; obtain ⟨c0, c1, c2, c3, c4, c5, c6⟩ := S2.out; clear hg)
    | (go_at_call 43; (with_reducible refine (nums_as (H.out.new G2.out) _ _ _ _ _ _ _ hb).mono ?_); rintro e w3 ⟨rfl, hg⟩; have G3 := Lib.hid (G2.out.trans hg); have S3 := Lib.hid (S2.out.made hg); clear c0 c1 c2 c3 c4 c5 c6; obtain ⟨c0, c1, c2, c3, c4, c5, c6⟩ := S3.out; clear hg; obtain ⟨R, A, nc, vs, bs, h3⟩ := H.out.new G3.out; have x10 := h3.c10; obtain ⟨B, m', kk, hm', hm16', t1, -, -⟩ := h3.hv htn; obtain rfl : m' = m := hm'.trans hm.out; clear hm' hm16' h3))
  go_quiet (fail)
  go_wp2
  go_ret
  exact ⟨rfl, G3.out.trans (li.grown_drewN _ _ _)⟩
theorem code_11b (h : Gw w K g cf σ) (t i f j : Nat) (c n : Int) (ht : t ≤ 255) (hi : i ≤ 255) (hf : f ≤ 255) (hj : j ≤ 255) (hz : chk 11 [11, (t : Int), (i : Int), (f : Int), (j : Int), c] n = 0) (hw : wh σ 11 t = 0) (hb : nbc σ 11 c n = 0) {m : Nat} (hm' : (σ.hd t).length = m) (hq : ¬ m ≤ i) (hq2 : m ≤ j) : Calls Tryd.prog 25 #[.pointer (some ⟨g, 0, none⟩), .agg #[.int .i64 11, .int .i64 (t : Int), .int .i64 (i : Int), .int .i64 (f : Int), .int .i64 (j : Int), .int .i64 c, .int .i64 n]] w fun e w' => e = .returned (.int .i64 4) ∧ w.grownBy w' none := by
  have G0 := Lib.hid (grown_alloc w (.cells #[.int .i64 11, .int .i64 (t : Int), .int .i64 (i : Int), .int .i64 (f : Int), .int .i64 (j : Int), .int .i64 c, .int .i64 n] 39))
  have S0 := Lib.hid (Sv.new w 39 11 t i f j c n)
  have H := Lib.hid h
  clear h
  have htn := wh_lt hw (by omega)
  have hm := Lib.hid hm'
  have hN := H.out.ok.n
  have hm16 : m ≤ 16 := by have := H.out.ok.hl t; omega
  clear hm'
  have i1 : (0 : Int) ≤ (t : Int) := by omega
  have i2 : (t : Int) < (σ.N : Int) := by omega
  go_enter Tryd.func25, Tryd.ntmps25
  go_wp2_with (first
    | (go_at_call 41; (with_reducible refine (rCheck_as _ hz).mono ?_); rintro e w1 ⟨rfl, hg⟩; have G1 := Lib.hid (G0.out.trans hg); have S1 := Lib.hid (S0.out.made hg); obtain ⟨c0, c1, c2, c3, c4, c5, c6⟩ := S1.out; clear hg)
    | (go_at_call 42; (with_reducible refine (who_as (H.out.new G1.out) _ _ _ _ _ _ _ ht hw).mono ?_); rintro e w2 ⟨rfl, hg⟩; have G2 := Lib.hid (G1.out.trans hg); have S2 := Lib.hid (S1.out.made hg); clear c0 c1 c2 c3 c4 c5 c6; obtain ⟨c0, c1, c2, c3, c4, c5, c6⟩ := S2.out; clear hg)
    | (go_at_call 43; (with_reducible refine (nums_as (H.out.new G2.out) _ _ _ _ _ _ _ hb).mono ?_); rintro e w3 ⟨rfl, hg⟩; have G3 := Lib.hid (G2.out.trans hg); have S3 := Lib.hid (S2.out.made hg); clear c0 c1 c2 c3 c4 c5 c6; obtain ⟨c0, c1, c2, c3, c4, c5, c6⟩ := S3.out; clear hg; obtain ⟨R, A, nc, vs, bs, h3⟩ := H.out.new G3.out; have x10 := h3.c10; obtain ⟨B, m', kk, hm', hm16', t1, -, -⟩ := h3.hv htn; obtain rfl : m' = m := hm'.trans hm.out; clear hm' hm16' h3))
  go_quiet (fail)
  go_wp2
  go_ret
  exact ⟨rfl, G3.out.trans (li.grown_drewN _ _ _)⟩
theorem code_11c (h : Gw w K g cf σ) (t i f j : Nat) (c n : Int) (ht : t ≤ 255) (hi : i ≤ 255) (hf : f ≤ 255) (hj : j ≤ 255) (hz : chk 11 [11, (t : Int), (i : Int), (f : Int), (j : Int), c] n = 0) (hw : wh σ 11 t = 0) (hb : nbc σ 11 c n = 0) {m : Nat} (hm' : (σ.hd t).length = m) (hq : ¬ m ≤ i) (hq2 : ¬ m ≤ j) : Calls Tryd.prog 25 #[.pointer (some ⟨g, 0, none⟩), .agg #[.int .i64 11, .int .i64 (t : Int), .int .i64 (i : Int), .int .i64 (f : Int), .int .i64 (j : Int), .int .i64 c, .int .i64 n]] w fun e w' => e = .returned (.int .i64 0) ∧ w.grownBy w' none := by
  have G0 := Lib.hid (grown_alloc w (.cells #[.int .i64 11, .int .i64 (t : Int), .int .i64 (i : Int), .int .i64 (f : Int), .int .i64 (j : Int), .int .i64 c, .int .i64 n] 39))
  have S0 := Lib.hid (Sv.new w 39 11 t i f j c n)
  have H := Lib.hid h
  clear h
  have htn := wh_lt hw (by omega)
  have hm := Lib.hid hm'
  have hN := H.out.ok.n
  have hm16 : m ≤ 16 := by have := H.out.ok.hl t; omega
  clear hm'
  have i1 : (0 : Int) ≤ (t : Int) := by omega
  have i2 : (t : Int) < (σ.N : Int) := by omega
  go_enter Tryd.func25, Tryd.ntmps25
  go_wp2_with (first
    | (go_at_call 41; (with_reducible refine (rCheck_as _ hz).mono ?_); rintro e w1 ⟨rfl, hg⟩; have G1 := Lib.hid (G0.out.trans hg); have S1 := Lib.hid (S0.out.made hg); obtain ⟨c0, c1, c2, c3, c4, c5, c6⟩ := S1.out; clear hg)
    | (go_at_call 42; (with_reducible refine (who_as (H.out.new G1.out) _ _ _ _ _ _ _ ht hw).mono ?_); rintro e w2 ⟨rfl, hg⟩; have G2 := Lib.hid (G1.out.trans hg); have S2 := Lib.hid (S1.out.made hg); clear c0 c1 c2 c3 c4 c5 c6; obtain ⟨c0, c1, c2, c3, c4, c5, c6⟩ := S2.out; clear hg)
    | (go_at_call 43; (with_reducible refine (nums_as (H.out.new G2.out) _ _ _ _ _ _ _ hb).mono ?_); rintro e w3 ⟨rfl, hg⟩; have G3 := Lib.hid (G2.out.trans hg); have S3 := Lib.hid (S2.out.made hg); clear c0 c1 c2 c3 c4 c5 c6; obtain ⟨c0, c1, c2, c3, c4, c5, c6⟩ := S3.out; clear hg; obtain ⟨R, A, nc, vs, bs, h3⟩ := H.out.new G3.out; have x10 := h3.c10; obtain ⟨B, m', kk, hm', hm16', t1, -, -⟩ := h3.hv htn; obtain rfl : m' = m := hm'.trans hm.out; clear hm' hm16' h3))
  go_quiet (fail)
  go_wp2
  go_ret
  exact ⟨rfl, G3.out.trans (li.grown_drewN _ _ _)⟩
theorem code_9a (h : Gw w K g cf σ) (t i f j : Nat) (c n : Int) (ht : t ≤ 255) (hi : i ≤ 255) (hf : f ≤ 255) (hj : j ≤ 255) (hz : chk 9 [9, (t : Int), (i : Int), (f : Int), (j : Int), c] n = 0) (hw : wh σ 9 t = 0) (hb : nbc σ 9 c n = 0) {m : Nat} (hm' : (σ.hd t).length = m) {z : Int} (ho : ob σ t i f true = z) (h0 : (z != 0) = true) : Calls Tryd.prog 25 #[.pointer (some ⟨g, 0, none⟩), .agg #[.int .i64 9, .int .i64 (t : Int), .int .i64 (i : Int), .int .i64 (f : Int), .int .i64 (j : Int), .int .i64 c, .int .i64 n]] w fun e w' => e = .returned (.int .i64 z) ∧ w.grownBy w' none := by
  have G0 := Lib.hid (grown_alloc w (.cells #[.int .i64 9, .int .i64 (t : Int), .int .i64 (i : Int), .int .i64 (f : Int), .int .i64 (j : Int), .int .i64 c, .int .i64 n] 39))
  have S0 := Lib.hid (Sv.new w 39 9 t i f j c n)
  have H := Lib.hid h
  clear h
  have htn := wh_lt hw (by omega)
  have hm := Lib.hid hm'
  have hN := H.out.ok.n
  have hm16 : m ≤ 16 := by have := H.out.ok.hl t; omega
  clear hm'
  have i1 : (0 : Int) ≤ (t : Int) := by omega
  have i2 : (t : Int) < (σ.N : Int) := by omega
  go_enter Tryd.func25, Tryd.ntmps25
  go_wp2_with (first
    | (go_at_call 41; (with_reducible refine (rCheck_as _ hz).mono ?_); rintro e w1 ⟨rfl, hg⟩; have G1 := Lib.hid (G0.out.trans hg); have S1 := Lib.hid (S0.out.made hg); obtain ⟨c0, c1, c2, c3, c4, c5, c6⟩ := S1.out; clear hg)
    | (go_at_call 42; (with_reducible refine (who_as (H.out.new G1.out) _ _ _ _ _ _ _ ht hw).mono ?_); rintro e w2 ⟨rfl, hg⟩; have G2 := Lib.hid (G1.out.trans hg); have S2 := Lib.hid (S1.out.made hg); clear c0 c1 c2 c3 c4 c5 c6; obtain ⟨c0, c1, c2, c3, c4, c5, c6⟩ := S2.out; clear hg)
    | (go_at_call 43; (with_reducible refine (nums_as (H.out.new G2.out) _ _ _ _ _ _ _ hb).mono ?_); rintro e w3 ⟨rfl, hg⟩; have G3 := Lib.hid (G2.out.trans hg); have S3 := Lib.hid (S2.out.made hg); clear c0 c1 c2 c3 c4 c5 c6; obtain ⟨c0, c1, c2, c3, c4, c5, c6⟩ := S3.out; clear hg; obtain ⟨R, A, nc, vs, bs, h3⟩ := H.out.new G3.out; have x10 := h3.c10; obtain ⟨B, m', kk, hm', hm16', t1, -, -⟩ := h3.hv htn; obtain rfl : m' = m := hm'.trans hm.out; clear hm' hm16' h3))
  go_quiet (fail)
  go_wp2_with (first
    | (go_at_call 44; (with_reducible refine (object_as (H.out.new (G3.out.trans (li.grown_drewN _ _ _))) _ _ _ _ _ _ _ _ htn hi hf ho).mono ?_); rintro e w4 ⟨rfl, hg⟩; have G4 := Lib.hid (G3.out.trans ((li.grown_drewN _ _ _).trans hg)); have S4 := Lib.hid (S3.out.made ((li.grown_drewN _ _ _).trans hg)); clear c0 c1 c2 c3 c4 c5 c6; obtain ⟨c0, c1, c2, c3, c4, c5, c6⟩ := S4.out; clear hg))
  go_ret
  exact ⟨rfl, G4.out⟩
theorem code_9b (h : Gw w K g cf σ) (t i f j : Nat) (c n : Int) (ht : t ≤ 255) (hi : i ≤ 255) (hf : f ≤ 255) (hj : j ≤ 255) (hz : chk 9 [9, (t : Int), (i : Int), (f : Int), (j : Int), c] n = 0) (hw : wh σ 9 t = 0) (hb : nbc σ 9 c n = 0) {m : Nat} (hm' : (σ.hd t).length = m) (ho : ob σ t i f true = 0) (hq : 16 ≤ m) : Calls Tryd.prog 25 #[.pointer (some ⟨g, 0, none⟩), .agg #[.int .i64 9, .int .i64 (t : Int), .int .i64 (i : Int), .int .i64 (f : Int), .int .i64 (j : Int), .int .i64 c, .int .i64 n]] w fun e w' => e = .returned (.int .i64 3) ∧ w.grownBy w' none := by
  have G0 := Lib.hid (grown_alloc w (.cells #[.int .i64 9, .int .i64 (t : Int), .int .i64 (i : Int), .int .i64 (f : Int), .int .i64 (j : Int), .int .i64 c, .int .i64 n] 39))
  have S0 := Lib.hid (Sv.new w 39 9 t i f j c n)
  have H := Lib.hid h
  clear h
  have htn := wh_lt hw (by omega)
  have hm := Lib.hid hm'
  have hN := H.out.ok.n
  have hm16 : m ≤ 16 := by have := H.out.ok.hl t; omega
  clear hm'
  have i1 : (0 : Int) ≤ (t : Int) := by omega
  have i2 : (t : Int) < (σ.N : Int) := by omega
  go_enter Tryd.func25, Tryd.ntmps25
  go_wp2_with (first
    | (go_at_call 41; (with_reducible refine (rCheck_as _ hz).mono ?_); rintro e w1 ⟨rfl, hg⟩; have G1 := Lib.hid (G0.out.trans hg); have S1 := Lib.hid (S0.out.made hg); obtain ⟨c0, c1, c2, c3, c4, c5, c6⟩ := S1.out; clear hg)
    | (go_at_call 42; (with_reducible refine (who_as (H.out.new G1.out) _ _ _ _ _ _ _ ht hw).mono ?_); rintro e w2 ⟨rfl, hg⟩; have G2 := Lib.hid (G1.out.trans hg); have S2 := Lib.hid (S1.out.made hg); clear c0 c1 c2 c3 c4 c5 c6; obtain ⟨c0, c1, c2, c3, c4, c5, c6⟩ := S2.out; clear hg)
    | (go_at_call 43; (with_reducible refine (nums_as (H.out.new G2.out) _ _ _ _ _ _ _ hb).mono ?_); rintro e w3 ⟨rfl, hg⟩; have G3 := Lib.hid (G2.out.trans hg); have S3 := Lib.hid (S2.out.made hg); clear c0 c1 c2 c3 c4 c5 c6; obtain ⟨c0, c1, c2, c3, c4, c5, c6⟩ := S3.out; clear hg; obtain ⟨R, A, nc, vs, bs, h3⟩ := H.out.new G3.out; have x10 := h3.c10; obtain ⟨B, m', kk, hm', hm16', t1, -, -⟩ := h3.hv htn; obtain rfl : m' = m := hm'.trans hm.out; clear hm' hm16' h3))
  go_quiet (fail)
  go_wp2_with (first
    | (go_at_call 44; (with_reducible refine (object_as (H.out.new (G3.out.trans (li.grown_drewN _ _ _))) _ _ _ _ _ _ _ _ htn hi hf ho).mono ?_); rintro e w4 ⟨rfl, hg⟩; have G4 := Lib.hid (G3.out.trans ((li.grown_drewN _ _ _).trans hg)); have S4 := Lib.hid (S3.out.made ((li.grown_drewN _ _ _).trans hg)); clear c0 c1 c2 c3 c4 c5 c6; obtain ⟨c0, c1, c2, c3, c4, c5, c6⟩ := S4.out; clear hg))
  go_ret
  exact ⟨rfl, G4.out⟩
theorem code_9c (h : Gw w K g cf σ) (t i f j : Nat) (c n : Int) (ht : t ≤ 255) (hi : i ≤ 255) (hf : f ≤ 255) (hj : j ≤ 255) (hz : chk 9 [9, (t : Int), (i : Int), (f : Int), (j : Int), c] n = 0) (hw : wh σ 9 t = 0) (hb : nbc σ 9 c n = 0) {m : Nat} (hm' : (σ.hd t).length = m) (ho : ob σ t i f true = 0) (hq : ¬ 16 ≤ m) : Calls Tryd.prog 25 #[.pointer (some ⟨g, 0, none⟩), .agg #[.int .i64 9, .int .i64 (t : Int), .int .i64 (i : Int), .int .i64 (f : Int), .int .i64 (j : Int), .int .i64 c, .int .i64 n]] w fun e w' => e = .returned (.int .i64 0) ∧ w.grownBy w' none := by
  have G0 := Lib.hid (grown_alloc w (.cells #[.int .i64 9, .int .i64 (t : Int), .int .i64 (i : Int), .int .i64 (f : Int), .int .i64 (j : Int), .int .i64 c, .int .i64 n] 39))
  have S0 := Lib.hid (Sv.new w 39 9 t i f j c n)
  have H := Lib.hid h
  clear h
  have htn := wh_lt hw (by omega)
  have hm := Lib.hid hm'
  have hN := H.out.ok.n
  have hm16 : m ≤ 16 := by have := H.out.ok.hl t; omega
  clear hm'
  have i1 : (0 : Int) ≤ (t : Int) := by omega
  have i2 : (t : Int) < (σ.N : Int) := by omega
  go_enter Tryd.func25, Tryd.ntmps25
  go_wp2_with (first
    | (go_at_call 41; (with_reducible refine (rCheck_as _ hz).mono ?_); rintro e w1 ⟨rfl, hg⟩; have G1 := Lib.hid (G0.out.trans hg); have S1 := Lib.hid (S0.out.made hg); obtain ⟨c0, c1, c2, c3, c4, c5, c6⟩ := S1.out; clear hg)
    | (go_at_call 42; (with_reducible refine (who_as (H.out.new G1.out) _ _ _ _ _ _ _ ht hw).mono ?_); rintro e w2 ⟨rfl, hg⟩; have G2 := Lib.hid (G1.out.trans hg); have S2 := Lib.hid (S1.out.made hg); clear c0 c1 c2 c3 c4 c5 c6; obtain ⟨c0, c1, c2, c3, c4, c5, c6⟩ := S2.out; clear hg)
    | (go_at_call 43; (with_reducible refine (nums_as (H.out.new G2.out) _ _ _ _ _ _ _ hb).mono ?_); rintro e w3 ⟨rfl, hg⟩; have G3 := Lib.hid (G2.out.trans hg); have S3 := Lib.hid (S2.out.made hg); clear c0 c1 c2 c3 c4 c5 c6; obtain ⟨c0, c1, c2, c3, c4, c5, c6⟩ := S3.out; clear hg; obtain ⟨R, A, nc, vs, bs, h3⟩ := H.out.new G3.out; have x10 := h3.c10; obtain ⟨B, m', kk, hm', hm16', t1, -, -⟩ := h3.hv htn; obtain rfl : m' = m := hm'.trans hm.out; clear hm' hm16' h3))
  go_quiet (fail)
  go_wp2_with (first
    | (go_at_call 44; (with_reducible refine (object_as (H.out.new (G3.out.trans (li.grown_drewN _ _ _))) _ _ _ _ _ _ _ _ htn hi hf ho).mono ?_); rintro e w4 ⟨rfl, hg⟩; have G4 := Lib.hid (G3.out.trans ((li.grown_drewN _ _ _).trans hg)); have S4 := Lib.hid (S3.out.made ((li.grown_drewN _ _ _).trans hg)); clear c0 c1 c2 c3 c4 c5 c6; obtain ⟨c0, c1, c2, c3, c4, c5, c6⟩ := S4.out; clear hg))
  go_ret
  exact ⟨rfl, G4.out⟩
theorem code_10a (h : Gw w K g cf σ) (t i f j : Nat) (c n : Int) (ht : t ≤ 255) (hi : i ≤ 255) (hf : f ≤ 255) (hj : j ≤ 255) (hz : chk 10 [10, (t : Int), (i : Int), (f : Int), (j : Int), c] n = 0) (hw : wh σ 10 t = 0) (hb : nbc σ 10 c n = 0) {m : Nat} (hm' : (σ.hd t).length = m) {z : Int} (ho : ob σ t i f true = z) (h0 : (z != 0) = true) : Calls Tryd.prog 25 #[.pointer (some ⟨g, 0, none⟩), .agg #[.int .i64 10, .int .i64 (t : Int), .int .i64 (i : Int), .int .i64 (f : Int), .int .i64 (j : Int), .int .i64 c, .int .i64 n]] w fun e w' => e = .returned (.int .i64 z) ∧ w.grownBy w' none := by
  have G0 := Lib.hid (grown_alloc w (.cells #[.int .i64 10, .int .i64 (t : Int), .int .i64 (i : Int), .int .i64 (f : Int), .int .i64 (j : Int), .int .i64 c, .int .i64 n] 39))
  have S0 := Lib.hid (Sv.new w 39 10 t i f j c n)
  have H := Lib.hid h
  clear h
  have htn := wh_lt hw (by omega)
  have hm := Lib.hid hm'
  have hN := H.out.ok.n
  have hm16 : m ≤ 16 := by have := H.out.ok.hl t; omega
  clear hm'
  have i1 : (0 : Int) ≤ (t : Int) := by omega
  have i2 : (t : Int) < (σ.N : Int) := by omega
  go_enter Tryd.func25, Tryd.ntmps25
  go_wp2_with (first
    | (go_at_call 41; (with_reducible refine (rCheck_as _ hz).mono ?_); rintro e w1 ⟨rfl, hg⟩; have G1 := Lib.hid (G0.out.trans hg); have S1 := Lib.hid (S0.out.made hg); obtain ⟨c0, c1, c2, c3, c4, c5, c6⟩ := S1.out; clear hg)
    | (go_at_call 42; (with_reducible refine (who_as (H.out.new G1.out) _ _ _ _ _ _ _ ht hw).mono ?_); rintro e w2 ⟨rfl, hg⟩; have G2 := Lib.hid (G1.out.trans hg); have S2 := Lib.hid (S1.out.made hg); clear c0 c1 c2 c3 c4 c5 c6; obtain ⟨c0, c1, c2, c3, c4, c5, c6⟩ := S2.out; clear hg)
    | (go_at_call 43; (with_reducible refine (nums_as (H.out.new G2.out) _ _ _ _ _ _ _ hb).mono ?_); rintro e w3 ⟨rfl, hg⟩; have G3 := Lib.hid (G2.out.trans hg); have S3 := Lib.hid (S2.out.made hg); clear c0 c1 c2 c3 c4 c5 c6; obtain ⟨c0, c1, c2, c3, c4, c5, c6⟩ := S3.out; clear hg; obtain ⟨R, A, nc, vs, bs, h3⟩ := H.out.new G3.out; have x10 := h3.c10; obtain ⟨B, m', kk, hm', hm16', t1, -, -⟩ := h3.hv htn; obtain rfl : m' = m := hm'.trans hm.out; clear hm' hm16' h3))
  go_quiet (fail)
  go_wp2_with (first
    | (go_at_call 44; (with_reducible refine (object_as (H.out.new (G3.out.trans (li.grown_drewN _ _ _))) _ _ _ _ _ _ _ _ htn hi hf ho).mono ?_); rintro e w4 ⟨rfl, hg⟩; have G4 := Lib.hid (G3.out.trans ((li.grown_drewN _ _ _).trans hg)); have S4 := Lib.hid (S3.out.made ((li.grown_drewN _ _ _).trans hg)); clear c0 c1 c2 c3 c4 c5 c6; obtain ⟨c0, c1, c2, c3, c4, c5, c6⟩ := S4.out; clear hg))
  go_ret
  exact ⟨rfl, G4.out⟩
theorem code_10b (h : Gw w K g cf σ) (t i f j : Nat) (c n : Int) (ht : t ≤ 255) (hi : i ≤ 255) (hf : f ≤ 255) (hj : j ≤ 255) (hz : chk 10 [10, (t : Int), (i : Int), (f : Int), (j : Int), c] n = 0) (hw : wh σ 10 t = 0) (hb : nbc σ 10 c n = 0) {m : Nat} (hm' : (σ.hd t).length = m) (ho : ob σ t i f true = 0) (hq : m ≤ j) : Calls Tryd.prog 25 #[.pointer (some ⟨g, 0, none⟩), .agg #[.int .i64 10, .int .i64 (t : Int), .int .i64 (i : Int), .int .i64 (f : Int), .int .i64 (j : Int), .int .i64 c, .int .i64 n]] w fun e w' => e = .returned (.int .i64 4) ∧ w.grownBy w' none := by
  have G0 := Lib.hid (grown_alloc w (.cells #[.int .i64 10, .int .i64 (t : Int), .int .i64 (i : Int), .int .i64 (f : Int), .int .i64 (j : Int), .int .i64 c, .int .i64 n] 39))
  have S0 := Lib.hid (Sv.new w 39 10 t i f j c n)
  have H := Lib.hid h
  clear h
  have htn := wh_lt hw (by omega)
  have hm := Lib.hid hm'
  have hN := H.out.ok.n
  have hm16 : m ≤ 16 := by have := H.out.ok.hl t; omega
  clear hm'
  have i1 : (0 : Int) ≤ (t : Int) := by omega
  have i2 : (t : Int) < (σ.N : Int) := by omega
  go_enter Tryd.func25, Tryd.ntmps25
  go_wp2_with (first
    | (go_at_call 41; (with_reducible refine (rCheck_as _ hz).mono ?_); rintro e w1 ⟨rfl, hg⟩; have G1 := Lib.hid (G0.out.trans hg); have S1 := Lib.hid (S0.out.made hg); obtain ⟨c0, c1, c2, c3, c4, c5, c6⟩ := S1.out; clear hg)
    | (go_at_call 42; (with_reducible refine (who_as (H.out.new G1.out) _ _ _ _ _ _ _ ht hw).mono ?_); rintro e w2 ⟨rfl, hg⟩; have G2 := Lib.hid (G1.out.trans hg); have S2 := Lib.hid (S1.out.made hg); clear c0 c1 c2 c3 c4 c5 c6; obtain ⟨c0, c1, c2, c3, c4, c5, c6⟩ := S2.out; clear hg)
    | (go_at_call 43; (with_reducible refine (nums_as (H.out.new G2.out) _ _ _ _ _ _ _ hb).mono ?_); rintro e w3 ⟨rfl, hg⟩; have G3 := Lib.hid (G2.out.trans hg); have S3 := Lib.hid (S2.out.made hg); clear c0 c1 c2 c3 c4 c5 c6; obtain ⟨c0, c1, c2, c3, c4, c5, c6⟩ := S3.out; clear hg; obtain ⟨R, A, nc, vs, bs, h3⟩ := H.out.new G3.out; have x10 := h3.c10; obtain ⟨B, m', kk, hm', hm16', t1, -, -⟩ := h3.hv htn; obtain rfl : m' = m := hm'.trans hm.out; clear hm' hm16' h3))
  go_quiet (fail)
  go_wp2_with (first
    | (go_at_call 44; (with_reducible refine (object_as (H.out.new (G3.out.trans (li.grown_drewN _ _ _))) _ _ _ _ _ _ _ _ htn hi hf ho).mono ?_); rintro e w4 ⟨rfl, hg⟩; have G4 := Lib.hid (G3.out.trans ((li.grown_drewN _ _ _).trans hg)); have S4 := Lib.hid (S3.out.made ((li.grown_drewN _ _ _).trans hg)); clear c0 c1 c2 c3 c4 c5 c6; obtain ⟨c0, c1, c2, c3, c4, c5, c6⟩ := S4.out; clear hg))
  go_ret
  exact ⟨rfl, G4.out⟩
theorem code_10c (h : Gw w K g cf σ) (t i f j : Nat) (c n : Int) (ht : t ≤ 255) (hi : i ≤ 255) (hf : f ≤ 255) (hj : j ≤ 255) (hz : chk 10 [10, (t : Int), (i : Int), (f : Int), (j : Int), c] n = 0) (hw : wh σ 10 t = 0) (hb : nbc σ 10 c n = 0) {m : Nat} (hm' : (σ.hd t).length = m) (ho : ob σ t i f true = 0) (hq : ¬ m ≤ j) : Calls Tryd.prog 25 #[.pointer (some ⟨g, 0, none⟩), .agg #[.int .i64 10, .int .i64 (t : Int), .int .i64 (i : Int), .int .i64 (f : Int), .int .i64 (j : Int), .int .i64 c, .int .i64 n]] w fun e w' => e = .returned (.int .i64 0) ∧ w.grownBy w' none := by
  have G0 := Lib.hid (grown_alloc w (.cells #[.int .i64 10, .int .i64 (t : Int), .int .i64 (i : Int), .int .i64 (f : Int), .int .i64 (j : Int), .int .i64 c, .int .i64 n] 39))
  have S0 := Lib.hid (Sv.new w 39 10 t i f j c n)
  have H := Lib.hid h
  clear h
  have htn := wh_lt hw (by omega)
  have hm := Lib.hid hm'
  have hN := H.out.ok.n
  have hm16 : m ≤ 16 := by have := H.out.ok.hl t; omega
  clear hm'
  have i1 : (0 : Int) ≤ (t : Int) := by omega
  have i2 : (t : Int) < (σ.N : Int) := by omega
  go_enter Tryd.func25, Tryd.ntmps25
  go_wp2_with (first
    | (go_at_call 41; (with_reducible refine (rCheck_as _ hz).mono ?_); rintro e w1 ⟨rfl, hg⟩; have G1 := Lib.hid (G0.out.trans hg); have S1 := Lib.hid (S0.out.made hg); obtain ⟨c0, c1, c2, c3, c4, c5, c6⟩ := S1.out; clear hg)
    | (go_at_call 42; (with_reducible refine (who_as (H.out.new G1.out) _ _ _ _ _ _ _ ht hw).mono ?_); rintro e w2 ⟨rfl, hg⟩; have G2 := Lib.hid (G1.out.trans hg); have S2 := Lib.hid (S1.out.made hg); clear c0 c1 c2 c3 c4 c5 c6; obtain ⟨c0, c1, c2, c3, c4, c5, c6⟩ := S2.out; clear hg)
    | (go_at_call 43; (with_reducible refine (nums_as (H.out.new G2.out) _ _ _ _ _ _ _ hb).mono ?_); rintro e w3 ⟨rfl, hg⟩; have G3 := Lib.hid (G2.out.trans hg); have S3 := Lib.hid (S2.out.made hg); clear c0 c1 c2 c3 c4 c5 c6; obtain ⟨c0, c1, c2, c3, c4, c5, c6⟩ := S3.out; clear hg; obtain ⟨R, A, nc, vs, bs, h3⟩ := H.out.new G3.out; have x10 := h3.c10; obtain ⟨B, m', kk, hm', hm16', t1, -, -⟩ := h3.hv htn; obtain rfl : m' = m := hm'.trans hm.out; clear hm' hm16' h3))
  go_quiet (fail)
  go_wp2_with (first
    | (go_at_call 44; (with_reducible refine (object_as (H.out.new (G3.out.trans (li.grown_drewN _ _ _))) _ _ _ _ _ _ _ _ htn hi hf ho).mono ?_); rintro e w4 ⟨rfl, hg⟩; have G4 := Lib.hid (G3.out.trans ((li.grown_drewN _ _ _).trans hg)); have S4 := Lib.hid (S3.out.made ((li.grown_drewN _ _ _).trans hg)); clear c0 c1 c2 c3 c4 c5 c6; obtain ⟨c0, c1, c2, c3, c4, c5, c6⟩ := S4.out; clear hg))
  go_ret
  exact ⟨rfl, G4.out⟩
theorem code_12a (h : Gw w K g cf σ) (t i f j : Nat) (c n : Int) (ht : t ≤ 255) (hi : i ≤ 255) (hf : f ≤ 255) (hj : j ≤ 255) (hz : chk 12 [12, (t : Int), (i : Int), (f : Int), (j : Int), c] n = 0) (hw : wh σ 12 t = 0) (hb : nbc σ 12 c n = 0) {m : Nat} (hm' : (σ.hd t).length = m) {z : Int} (ho : ob σ t i f false = z) (h0 : (z != 0) = true) : Calls Tryd.prog 25 #[.pointer (some ⟨g, 0, none⟩), .agg #[.int .i64 12, .int .i64 (t : Int), .int .i64 (i : Int), .int .i64 (f : Int), .int .i64 (j : Int), .int .i64 c, .int .i64 n]] w fun e w' => e = .returned (.int .i64 z) ∧ w.grownBy w' none := by
  have G0 := Lib.hid (grown_alloc w (.cells #[.int .i64 12, .int .i64 (t : Int), .int .i64 (i : Int), .int .i64 (f : Int), .int .i64 (j : Int), .int .i64 c, .int .i64 n] 39))
  have S0 := Lib.hid (Sv.new w 39 12 t i f j c n)
  have H := Lib.hid h
  clear h
  have htn := wh_lt hw (by omega)
  have hm := Lib.hid hm'
  have hN := H.out.ok.n
  have hm16 : m ≤ 16 := by have := H.out.ok.hl t; omega
  clear hm'
  have i1 : (0 : Int) ≤ (t : Int) := by omega
  have i2 : (t : Int) < (σ.N : Int) := by omega
  go_enter Tryd.func25, Tryd.ntmps25
  go_wp2_with (first
    | (go_at_call 41; (with_reducible refine (rCheck_as _ hz).mono ?_); rintro e w1 ⟨rfl, hg⟩; have G1 := Lib.hid (G0.out.trans hg); have S1 := Lib.hid (S0.out.made hg); obtain ⟨c0, c1, c2, c3, c4, c5, c6⟩ := S1.out; clear hg)
    | (go_at_call 42; (with_reducible refine (who_as (H.out.new G1.out) _ _ _ _ _ _ _ ht hw).mono ?_); rintro e w2 ⟨rfl, hg⟩; have G2 := Lib.hid (G1.out.trans hg); have S2 := Lib.hid (S1.out.made hg); clear c0 c1 c2 c3 c4 c5 c6; obtain ⟨c0, c1, c2, c3, c4, c5, c6⟩ := S2.out; clear hg)
    | (go_at_call 43; (with_reducible refine (nums_as (H.out.new G2.out) _ _ _ _ _ _ _ hb).mono ?_); rintro e w3 ⟨rfl, hg⟩; have G3 := Lib.hid (G2.out.trans hg); have S3 := Lib.hid (S2.out.made hg); clear c0 c1 c2 c3 c4 c5 c6; obtain ⟨c0, c1, c2, c3, c4, c5, c6⟩ := S3.out; clear hg; obtain ⟨R, A, nc, vs, bs, h3⟩ := H.out.new G3.out; have x10 := h3.c10; obtain ⟨B, m', kk, hm', hm16', t1, -, -⟩ := h3.hv htn; obtain rfl : m' = m := hm'.trans hm.out; clear hm' hm16' h3))
  go_quiet (fail)
  go_wp2_with (first
    | (go_at_call 44; (with_reducible refine (object_as (H.out.new (G3.out.trans (li.grown_drewN _ _ _))) _ _ _ _ _ _ _ _ htn hi hf ho).mono ?_); rintro e w4 ⟨rfl, hg⟩; have G4 := Lib.hid (G3.out.trans ((li.grown_drewN _ _ _).trans hg)); have S4 := Lib.hid (S3.out.made ((li.grown_drewN _ _ _).trans hg)); clear c0 c1 c2 c3 c4 c5 c6; obtain ⟨c0, c1, c2, c3, c4, c5, c6⟩ := S4.out; clear hg))
  go_ret
  exact ⟨rfl, G4.out⟩
theorem code_12b (h : Gw w K g cf σ) (t i f j : Nat) (c n : Int) (ht : t ≤ 255) (hi : i ≤ 255) (hf : f ≤ 255) (hj : j ≤ 255) (hz : chk 12 [12, (t : Int), (i : Int), (f : Int), (j : Int), c] n = 0) (hw : wh σ 12 t = 0) (hb : nbc σ 12 c n = 0) {m : Nat} (hm' : (σ.hd t).length = m) (ho : ob σ t i f false = 0) : Calls Tryd.prog 25 #[.pointer (some ⟨g, 0, none⟩), .agg #[.int .i64 12, .int .i64 (t : Int), .int .i64 (i : Int), .int .i64 (f : Int), .int .i64 (j : Int), .int .i64 c, .int .i64 n]] w fun e w' => e = .returned (.int .i64 0) ∧ w.grownBy w' none := by
  have G0 := Lib.hid (grown_alloc w (.cells #[.int .i64 12, .int .i64 (t : Int), .int .i64 (i : Int), .int .i64 (f : Int), .int .i64 (j : Int), .int .i64 c, .int .i64 n] 39))
  have S0 := Lib.hid (Sv.new w 39 12 t i f j c n)
  have H := Lib.hid h
  clear h
  have htn := wh_lt hw (by omega)
  have hm := Lib.hid hm'
  have hN := H.out.ok.n
  have hm16 : m ≤ 16 := by have := H.out.ok.hl t; omega
  clear hm'
  have i1 : (0 : Int) ≤ (t : Int) := by omega
  have i2 : (t : Int) < (σ.N : Int) := by omega
  go_enter Tryd.func25, Tryd.ntmps25
  go_wp2_with (first
    | (go_at_call 41; (with_reducible refine (rCheck_as _ hz).mono ?_); rintro e w1 ⟨rfl, hg⟩; have G1 := Lib.hid (G0.out.trans hg); have S1 := Lib.hid (S0.out.made hg); obtain ⟨c0, c1, c2, c3, c4, c5, c6⟩ := S1.out; clear hg)
    | (go_at_call 42; (with_reducible refine (who_as (H.out.new G1.out) _ _ _ _ _ _ _ ht hw).mono ?_); rintro e w2 ⟨rfl, hg⟩; have G2 := Lib.hid (G1.out.trans hg); have S2 := Lib.hid (S1.out.made hg); clear c0 c1 c2 c3 c4 c5 c6; obtain ⟨c0, c1, c2, c3, c4, c5, c6⟩ := S2.out; clear hg)
    | (go_at_call 43; (with_reducible refine (nums_as (H.out.new G2.out) _ _ _ _ _ _ _ hb).mono ?_); rintro e w3 ⟨rfl, hg⟩; have G3 := Lib.hid (G2.out.trans hg); have S3 := Lib.hid (S2.out.made hg); clear c0 c1 c2 c3 c4 c5 c6; obtain ⟨c0, c1, c2, c3, c4, c5, c6⟩ := S3.out; clear hg; obtain ⟨R, A, nc, vs, bs, h3⟩ := H.out.new G3.out; have x10 := h3.c10; obtain ⟨B, m', kk, hm', hm16', t1, -, -⟩ := h3.hv htn; obtain rfl : m' = m := hm'.trans hm.out; clear hm' hm16' h3))
  go_quiet (fail)
  go_wp2_with (first
    | (go_at_call 44; (with_reducible refine (object_as (H.out.new (G3.out.trans (li.grown_drewN _ _ _))) _ _ _ _ _ _ _ _ htn hi hf ho).mono ?_); rintro e w4 ⟨rfl, hg⟩; have G4 := Lib.hid (G3.out.trans ((li.grown_drewN _ _ _).trans hg)); have S4 := Lib.hid (S3.out.made ((li.grown_drewN _ _ _).trans hg)); clear c0 c1 c2 c3 c4 c5 c6; obtain ⟨c0, c1, c2, c3, c4, c5, c6⟩ := S4.out; clear hg))
  go_ret
  exact ⟨rfl, G4.out⟩
end
end Go.Proofs.YtfhebjkoojodiaaDoor.gp
