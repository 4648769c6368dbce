/- Layer 24: the walk of the statement on answers: one that may not be told. -/
import Derived.Test.YtnehhplflgcoiaaCdM
namespace Go.Proofs.Ytnehhplflgcoiaa.cd
open Go.ChangeShapes Go.WideShapes Go.ChangeAt Go.RowKit gen yb
set_option linter.unusedVariables false
set_option maxHeartbeats 1000000
set_option maxRecDepth 100000

theorem ways {c k d r : Int} (h : (inr c 255 && inr k 255 && inr d 65535 && inr r 65535) = false) :
    (decide (c < 0) = true) ∨ (decide (c < 0) = false ∧ decide (255 < c) = true) ∨ (decide (c < 0) = false ∧ decide (255 < c) = false ∧ decide (k < 0) = true) ∨ (decide (c < 0) = false ∧ decide (255 < c) = false ∧ decide (k < 0) = false ∧ decide (255 < k) = true) ∨ (decide (c < 0) = false ∧ decide (255 < c) = false ∧ decide (k < 0) = false ∧ decide (255 < k) = false ∧ decide (d < 0) = true) ∨ (decide (c < 0) = false ∧ decide (255 < c) = false ∧ decide (k < 0) = false ∧ decide (255 < k) = false ∧ decide (d < 0) = false ∧ decide (65535 < d) = true) ∨ (decide (c < 0) = false ∧ decide (255 < c) = false ∧ decide (k < 0) = false ∧ decide (255 < k) = false ∧ decide (d < 0) = false ∧ decide (65535 < d) = false ∧ decide (r < 0) = true) ∨ (decide (c < 0) = false ∧ decide (255 < c) = false ∧ decide (k < 0) = false ∧ decide (255 < k) = false ∧ decide (d < 0) = false ∧ decide (65535 < d) = false ∧ decide (r < 0) = false ∧ decide (65535 < r) = true) := by
  have e : ¬ ((0 ≤ c ∧ c ≤ 255) ∧ (0 ≤ k ∧ k ≤ 255) ∧ (0 ≤ d ∧ d ≤ 65535) ∧ (0 ≤ r ∧ r ≤ 65535)) := fun ⟨p1, p2, p3, p4⟩ => by
    rw [inr_of p1.1 p1.2, inr_of p2.1 p2.2, inr_of p3.1 p3.2, inr_of p4.1 p4.2] at h
    cases h
  simp only [decide_eq_true_eq, decide_eq_false_iff_not]
  omega
theorem out_len {c k n d r : Int} (w : World) {A : Option Addr} {q e : Nat} (hn : ¬ q = 14) (hb : (inr c 255 && inr k 255 && inr d 65535 && inr r 65535) = false) : Calls Try.prog 5 #[.agg #[.int .i64 c, .int .i64 k, .int .i64 n, .int .i64 d, .int .i64 r], .slice A q e] w fun e w' => e = .returned (.bool true) ∧ w.grownBy w' none := by
  have G0 := Lib.hid (grown_alloc w (.cells #[.int .i64 c, .int .i64 k, .int .i64 n, .int .i64 d, .int .i64 r] 38))
  have S0 := Lib.hid (Av.new w 38 c k n d r)
  have ZW := Lib.hid (fun w : World => Av.new w 38 0 0 0 0 0)
  have h1 : ((q : Int) == 14) = false := by simp; omega
  have h2 : ((q : Int) != 14) = true := by simp; omega
  have TE := Lib.hid (fun w => Tell_no (n := n) w rfl rfl rfl rfl hb)
  rcases ways hb with t0 | ⟨t0, t1⟩ | ⟨t0, t1, t2⟩ | ⟨t0, t1, t2, t3⟩ | ⟨t0, t1, t2, t3, t4⟩ | ⟨t0, t1, t2, t3, t4, t5⟩ | ⟨t0, t1, t2, t3, t4, t5, t6⟩ | ⟨t0, t1, t2, t3, t4, t5, t6, t7⟩
  all_goals
    clear hb
    go_enter Try.func5, Try.ntmps5
    go_wp2_with (first
      | (go_at_call 6; (with_reducible refine (alive_any _).mono ?_); rintro e w1 ⟨rfl, hg⟩; have G1 := Lib.hid (G0.out.trans hg); have S1 := Lib.hid (S0.out.made hg); obtain ⟨c0, c1, c2, c3, c4⟩ := S1.out; clear hg)
      | (go_at_call 13; (with_reducible refine (TE.out _).mono ?_); rintro e w2 ⟨rfl, hg⟩; have G2 := Lib.hid (G1.out.trans hg); have S2 := Lib.hid (S1.out.made hg); clear c0 c1 c2 c3 c4; obtain ⟨c0, c1, c2, c3, c4⟩ := S2.out; clear hg)
      | (go_at_call 14; (with_reducible refine (Told_len hn).mono ?_); rintro e w8 ⟨rfl, hg⟩; have G8 := Lib.hid ((G2.out.trans hg).trans (grown_alloc w8 (.cells #[.int .i64 0, .int .i64 0, .int .i64 0, .int .i64 0, .int .i64 0] 38))); clear c0 c1 c2 c3 c4; obtain ⟨c0, c1, c2, c3, c4⟩ := ZW.out w8; clear hg))
    go_ret
    exact ⟨rfl, G8.out⟩
theorem out_yes {c k n d r : Int} (w : World) {b off e : Nat} {m : List UInt8} (h : Ry w (some ⟨b, off, none⟩) 14 e m) (hb : (inr c 255 && inr k 255 && inr d 65535 && inr r 65535) = false) : Calls Try.prog 5 #[.agg #[.int .i64 c, .int .i64 k, .int .i64 n, .int .i64 d, .int .i64 r], .slice (some ⟨b, off, none⟩) 14 e] w fun e w' => e = .returned (.bool true) ∧ w.grownBy w' none := by
  have G0 := Lib.hid (grown_alloc w (.cells #[.int .i64 c, .int .i64 k, .int .i64 n, .int .i64 d, .int .i64 r] 38))
  have S0 := Lib.hid (Av.new w 38 c k n d r)
  have ZW := Lib.hid (fun w : World => Av.new w 38 0 0 0 0 0)
  have TY := Lib.hid (fun W (hg : w.grownBy W none) => Told_yes (h.made hg))
  have TN := Lib.hid (fun W => Tell_yes (c := nv m 0 1) (k := nv m 1 1) (n := nv m 2 8) (d := nv m 10 2) (r := nv m 12 2) W (nv_in1 m 0) (nv_in1 m 1) (nv_in2 m 10) (nv_in2 m 12) (wrap_bd _))
  have NW := Lib.hid (fun w : World => Av.new w 38 (nv m 0 1) (nv m 1 1) (nv m 2 8) (nv m 10 2) (nv m 12 2))
  have AE := Lib.hid (anss_nv h.1)
  have HL := Lib.hid h.1
  have HH := Lib.hid h
  obtain ⟨sx, hsx⟩ : ∃ sx : ByteArray, ByteArray.mk m.toArray = sx := ⟨_, rfl⟩
  have SX := Lib.hid hsx
  clear h hsx
  have TE := Lib.hid (fun w => Tell_no (n := n) w rfl rfl rfl rfl hb)
  rcases ways hb with t0 | ⟨t0, t1⟩ | ⟨t0, t1, t2⟩ | ⟨t0, t1, t2, t3⟩ | ⟨t0, t1, t2, t3, t4⟩ | ⟨t0, t1, t2, t3, t4, t5⟩ | ⟨t0, t1, t2, t3, t4, t5, t6⟩ | ⟨t0, t1, t2, t3, t4, t5, t6, t7⟩
  all_goals
    clear hb
    go_enter Try.func5, Try.ntmps5
    go_wp2_with (first
      | (go_at_call 6; (with_reducible refine (alive_any _).mono ?_); rintro e w1 ⟨rfl, hg⟩; have G1 := Lib.hid (G0.out.trans hg); have S1 := Lib.hid (S0.out.made hg); obtain ⟨c0, c1, c2, c3, c4⟩ := S1.out; clear hg)
      | (go_at_call 13; (with_reducible refine (TE.out _).mono ?_); rintro e w2 ⟨rfl, hg⟩; have G2 := Lib.hid (G1.out.trans hg); have S2 := Lib.hid (S1.out.made hg); clear c0 c1 c2 c3 c4; obtain ⟨c0, c1, c2, c3, c4⟩ := S2.out; clear hg)
      | (go_at_call 14; (with_reducible refine (TY.out _ G2.out).mono ?_); rintro e w8 ⟨rfl, hg⟩; have G8 := Lib.hid ((G2.out.trans hg).trans (grown_alloc w8 (.cells #[.int .i64 (nv m 0 1), .int .i64 (nv m 1 1), .int .i64 (nv m 2 8), .int .i64 (nv m 10 2), .int .i64 (nv m 12 2)] 38))); clear c0 c1 c2 c3 c4; obtain ⟨c0, c1, c2, c3, c4⟩ := NW.out w8; clear hg)
      | (go_at_call 13; (with_reducible refine (TN.out _).mono ?_); rintro e w9 ⟨g9, rfl, hgb, hh, hg⟩; rw [AE.out] at hh; have G9 := Lib.hid (G8.out.trans hg); have e1 := hw_str2 hh HL.out; have e2 := (HH.out.made G9.out).str (by omega); rw [SX.out] at e1 e2; clear hg hh hgb))
    go_ret
    exact ⟨rfl, G9.out⟩
end Go.Proofs.Ytnehhplflgcoiaa.cd
