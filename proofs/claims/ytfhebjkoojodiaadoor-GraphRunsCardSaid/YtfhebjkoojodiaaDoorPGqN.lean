/- Texts that this claim stands on. -/
import Derived.Test.YtfhebjkoojodiaaDoorPGqM
namespace Go.Proofs.YtfhebjkoojodiaaDoor.gq
open Go.ChangeShapes Go.WideShapes Go.ChangeAt Go.RowKit gen va cd gp
set_option linter.unusedVariables false
set_option linter.unusedSimpArgs false
set_option maxHeartbeats 1000000
set_option maxRecDepth 100000
section
variable {w w' : World} {K : List Nat} {g : Nat} {σ : Gs} {R tc : Nat} {A : Option Addr} {nc : Nat} {vs : Nat → Value} {bs : Nat → Nat} {k : Int}
theorem act_any (h : PwI w K g σ R tc A nc vs bs) {t i f j : Nat} {c n no z : Int} (h1 : 1 ≤ k) (hk : k < 16) (hw : wh σ k t = 0) (hM : σ.M < 1000) (hz : az σ k t i f j c n no = z) : Calls Tryd.prog 40 #[.pointer (some ⟨g, 0, none⟩), .pointer (some ⟨R, t * 34, none⟩), .agg #[.int .i64 k, .int .i64 (t : Int), .int .i64 (i : Int), .int .i64 (f : Int), .int .i64 (j : Int), .int .i64 c, .int .i64 n], .int .i64 no] w (Aok w K g σ R tc k t i f j n z) := by
  have hk' : k = 1 ∨ k = 2 ∨ k = 3 ∨ k = 4 ∨ k = 5 ∨ k = 6 ∨ k = 7 ∨ k = 8 ∨ k = 9 ∨ k = 10 ∨ k = 11 ∨ k = 12 ∨ k = 13 ∨ k = 14 ∨ k = 15 := by omega
  rcases hk' with rfl | rfl | rfl | rfl | rfl | rfl | rfl | rfl | rfl | rfl | rfl | rfl | rfl | rfl | rfl
  · exact kind_1 h hw hz
  · exact kind_2 h hw hz
  · exact kind_3 h hw hM hz
  · exact kind_4 h hw hz
  · exact kind_5 h hw hz
  · exact kind_6 h hw hz
  · exact kind_7 h hw hz
  · exact kind_8 h hw hz
  · exact kind_9 h hw hz
  · exact kind_10 h hw hz
  · exact kind_11 h hw hz
  · exact kind_12 h hw hz
  · exact kind_13 h hw hz
  · exact kind_14 h hw hz
  · exact kind_15 h hw hz
theorem do_chk (h : PwI w K g σ R tc A nc vs bs) {t i f j c n no : Int} {z : Int} (hz : chk k [k, t, i, f, j, c] n = z) (h0 : (z != 0) = true) : Calls Tryd.prog 24 #[.pointer (some ⟨g, 0, none⟩), .agg #[.int .i64 k, .int .i64 t, .int .i64 i, .int .i64 f, .int .i64 j, .int .i64 c, .int .i64 n], .int .i64 no] w fun e w' => e = .returned (.tuple #[.agg #[.int .i64 0, .int .i64 0], .int .i64 z]) ∧ w.grownBy w' none := by
  obtain ⟨w0, hw0⟩ : ∃ w0, w0 = (w.alloc (.cells #[.int .i64 k, .int .i64 t, .int .i64 i, .int .i64 f, .int .i64 j, .int .i64 c, .int .i64 n] 39)).alloc (.cells #[.int .i64 0, .int .i64 0] 57) := ⟨_, rfl⟩
  have B0 := Lib.hid (show Bx w k t i f j c n w0 by rw [hw0]; exact Bx.start _ _ _ _ _ _ _ _)
  have HW := Lib.hid hw0
  clear hw0
  have MA := Lib.hid (fun W (hg : w.grownBy W none) => made_yes (h.new hg))
  have HZ := Lib.hid hz
  clear hz
  clear h
  go_enter Tryd.func24, Tryd.ntmps24
  go_wp2_with (first
    | (rw [← HW.out]; go_at_call 28; (with_reducible refine (MA.out _ B0.out.grow).mono ?_); rintro e w1 ⟨rfl, hw⟩; subst hw; obtain ⟨⟨a0, a1, f0, f1⟩, s0, s1, s2, s3, s4, s5, s6⟩ := B0.out.at_)
    | (go_at_call 37; (with_reducible refine (Check_as _ HZ.out).mono ?_); rintro e w1 ⟨rfl, hg⟩; have B1 := Lib.hid (B0.out.new hg); clear a0 a1 f0 f1 s0 s1 s2 s3 s4 s5 s6; obtain ⟨⟨a0, a1, f0, f1⟩, s0, s1, s2, s3, s4, s5, s6⟩ := B1.out.at_; clear hg))
  refine bodyPost_ret (v := .tuple #[.agg #[.int .i64 0, .int .i64 0], .int .i64 z]) (by simp [results, Tryd.results24, go_sem, *]) rfl ⟨rfl, B1.out.fin _ _⟩
theorem do_16 (h : PwI w K g σ R tc A nc vs bs) {t i f j c n no : Int} {z : Int} (hz : chk 16 [16, t, i, f, j, c] n = 0) (ht : (if tk n = true then 0 else 4) = z) : Calls Tryd.prog 24 #[.pointer (some ⟨g, 0, none⟩), .agg #[.int .i64 16, .int .i64 t, .int .i64 i, .int .i64 f, .int .i64 j, .int .i64 c, .int .i64 n], .int .i64 no] w fun e w' => e = .returned (.tuple #[.agg #[.int .i64 0, .int .i64 0], .int .i64 z]) ∧ w.grownBy w' none := by
  obtain ⟨w0, hw0⟩ : ∃ w0, w0 = (w.alloc (.cells #[.int .i64 16, .int .i64 t, .int .i64 i, .int .i64 f, .int .i64 j, .int .i64 c, .int .i64 n] 39)).alloc (.cells #[.int .i64 0, .int .i64 0] 57) := ⟨_, rfl⟩
  have B0 := Lib.hid (show Bx w 16 t i f j c n w0 by rw [hw0]; exact Bx.start _ _ _ _ _ _ _ _)
  have HW := Lib.hid hw0
  clear hw0
  have MA := Lib.hid (fun W (hg : w.grownBy W none) => made_yes (h.new hg))
  have HZ := Lib.hid hz
  have TI := Lib.hid (fun W => ticks_z (k := 16) (t := t) (i := i) (f := f) (j := j) (c := c) W ht)
  clear hz ht
  clear h
  go_enter Tryd.func24, Tryd.ntmps24
  go_wp2_with (first
    | (rw [← HW.out]; go_at_call 28; (with_reducible refine (MA.out _ B0.out.grow).mono ?_); rintro e w1 ⟨rfl, hw⟩; subst hw; obtain ⟨⟨a0, a1, f0, f1⟩, s0, s1, s2, s3, s4, s5, s6⟩ := B0.out.at_)
    | (go_at_call 37; (with_reducible refine (Check_as _ HZ.out).mono ?_); rintro e w1 ⟨rfl, hg⟩; have B1 := Lib.hid (B0.out.new hg); clear a0 a1 f0 f1 s0 s1 s2 s3 s4 s5 s6; obtain ⟨⟨a0, a1, f0, f1⟩, s0, s1, s2, s3, s4, s5, s6⟩ := B1.out.at_; clear hg)
    | (go_at_call 38; (with_reducible refine (TI.out _).mono ?_); rintro e w2 ⟨rfl, hg⟩; have B2 := Lib.hid (B1.out.new hg); clear a0 a1 f0 f1 s0 s1 s2 s3 s4 s5 s6; obtain ⟨⟨a0, a1, f0, f1⟩, s0, s1, s2, s3, s4, s5, s6⟩ := B2.out.at_; clear hg))
  refine bodyPost_ret (v := .tuple #[.agg #[.int .i64 0, .int .i64 0], .int .i64 z]) (by simp [results, Tryd.results24, go_sem, *]) rfl ⟨rfl, B2.out.fin _ _⟩
theorem do_17 (h : PwI w K g σ R tc A nc vs bs) {t i f j c n no : Int} (hz : chk 17 [17, t, i, f, j, c] n = 0) : Calls Tryd.prog 24 #[.pointer (some ⟨g, 0, none⟩), .agg #[.int .i64 17, .int .i64 t, .int .i64 i, .int .i64 f, .int .i64 j, .int .i64 c, .int .i64 n], .int .i64 no] w fun e w' => e = .returned (.tuple #[.agg #[.int .i64 0, .int .i64 0], .int .i64 no]) ∧ w.grownBy w' none := by
  obtain ⟨w0, hw0⟩ : ∃ w0, w0 = (w.alloc (.cells #[.int .i64 17, .int .i64 t, .int .i64 i, .int .i64 f, .int .i64 j, .int .i64 c, .int .i64 n] 39)).alloc (.cells #[.int .i64 0, .int .i64 0] 57) := ⟨_, rfl⟩
  have B0 := Lib.hid (show Bx w 17 t i f j c n w0 by rw [hw0]; exact Bx.start _ _ _ _ _ _ _ _)
  have HW := Lib.hid hw0
  clear hw0
  have MA := Lib.hid (fun W (hg : w.grownBy W none) => made_yes (h.new hg))
  have HZ := Lib.hid hz
  clear hz
  clear h
  go_enter Tryd.func24, Tryd.ntmps24
  go_wp2_with (first
    | (rw [← HW.out]; go_at_call 28; (with_reducible refine (MA.out _ B0.out.grow).mono ?_); rintro e w1 ⟨rfl, hw⟩; subst hw; obtain ⟨⟨a0, a1, f0, f1⟩, s0, s1, s2, s3, s4, s5, s6⟩ := B0.out.at_)
    | (go_at_call 37; (with_reducible refine (Check_as _ HZ.out).mono ?_); rintro e w1 ⟨rfl, hg⟩; have B1 := Lib.hid (B0.out.new hg); clear a0 a1 f0 f1 s0 s1 s2 s3 s4 s5 s6; obtain ⟨⟨a0, a1, f0, f1⟩, s0, s1, s2, s3, s4, s5, s6⟩ := B1.out.at_; clear hg))
  refine bodyPost_ret (v := .tuple #[.agg #[.int .i64 0, .int .i64 0], .int .i64 no]) (by simp [results, Tryd.results24, go_sem, *]) rfl ⟨rfl, B1.out.fin _ _⟩
theorem do_turn (h : PwI w K g σ R tc A nc vs bs) {t i f j c n no : Int} {T : Nat} (eT : t = (T : Int)) (hT : T ≤ 255) (hk : k < 16) {z : Int} (hz : chk k [k, t, i, f, j, c] n = 0) (hw : wh σ k T = z) (h0 : (z != 0) = true) : Calls Tryd.prog 24 #[.pointer (some ⟨g, 0, none⟩), .agg #[.int .i64 k, .int .i64 t, .int .i64 i, .int .i64 f, .int .i64 j, .int .i64 c, .int .i64 n], .int .i64 no] w fun e w' => e = .returned (.tuple #[.agg #[.int .i64 0, .int .i64 0], .int .i64 z]) ∧ w.grownBy w' none := by
  subst eT
  obtain ⟨w0, hw0⟩ : ∃ w0, w0 = (w.alloc (.cells #[.int .i64 k, .int .i64 (T : Int), .int .i64 i, .int .i64 f, .int .i64 j, .int .i64 c, .int .i64 n] 39)).alloc (.cells #[.int .i64 0, .int .i64 0] 57) := ⟨_, rfl⟩
  have B0 := Lib.hid (show Bx w k T i f j c n w0 by rw [hw0]; exact Bx.start _ _ _ _ _ _ _ _)
  have HW := Lib.hid hw0
  clear hw0
  have MA := Lib.hid (fun W (hg : w.grownBy W none) => made_yes (h.new hg))
  have HZ := Lib.hid hz
  have TU := Lib.hid (fun W (hg : w.grownBy W none) => turn_any (h.new hg) k T i f j c n hT hk hw)
  have k16 : (k == 16) = false := by simp; omega
  have k17 : (k == 17) = false := by simp; omega
  clear hz hw hk
  clear h
  go_enter Tryd.func24, Tryd.ntmps24
  go_wp2_with (first
    | (rw [← HW.out]; go_at_call 28; (with_reducible refine (MA.out _ B0.out.grow).mono ?_); rintro e w1 ⟨rfl, hw⟩; subst hw; obtain ⟨⟨a0, a1, f0, f1⟩, s0, s1, s2, s3, s4, s5, s6⟩ := B0.out.at_)
    | (go_at_call 37; (with_reducible refine (Check_as _ HZ.out).mono ?_); rintro e w1 ⟨rfl, hg⟩; have B1 := Lib.hid (B0.out.new hg); clear a0 a1 f0 f1 s0 s1 s2 s3 s4 s5 s6; obtain ⟨⟨a0, a1, f0, f1⟩, s0, s1, s2, s3, s4, s5, s6⟩ := B1.out.at_; clear hg)
    | (go_at_call 39; (with_reducible refine (TU.out _ B1.out.grow).mono ?_); rintro e w2 ⟨rfl, hg⟩; have B2 := Lib.hid (B1.out.new hg); clear a0 a1 f0 f1 s0 s1 s2 s3 s4 s5 s6; obtain ⟨⟨a0, a1, f0, f1⟩, s0, s1, s2, s3, s4, s5, s6⟩ := B2.out.at_; clear hg))
  refine bodyPost_ret (v := .tuple #[.agg #[.int .i64 0, .int .i64 0], .int .i64 z]) (by simp [results, Tryd.results24, go_sem, *]) rfl ⟨rfl, B2.out.fin _ _⟩
theorem ef_N (k : Int) (t i f j : Nat) (n : Int) : (ef σ k t i f j n).N = σ.N := by
  unfold ef
  (repeat' split) <;> rfl
theorem Pn.c1 {W w1 : World} {z : Int} {t i f j : Nat} {n : Int} (h : Pn W K g (if z = 0 then ef σ k t i f j n else σ) R tc w1) : w1.cell? ⟨g, 1, none⟩ = some (.slice (some ⟨R, 0, none⟩) σ.N tc) := by
  obtain ⟨K', A, nc, vs, bs, p, q, r⟩ := h
  have e : (if z = 0 then ef σ k t i f j n else σ).N = σ.N := by
    by_cases e : z = 0
    · rw [if_pos e]; exact ef_N _ _ _ _ _ _
    · rw [if_neg e]
  have := p.c1
  rwa [e] at this
theorem do_act (h : PwI w K g σ R tc A nc vs bs) {t i f j : Nat} {c n no z : Int} (ht : t ≤ 255) (h1 : 1 ≤ k) (hk : k < 16) (hz : chk k [k, (t : Int), (i : Int), (f : Int), (j : Int), c] n = 0) (hw : wh σ k t = 0) (hM : σ.M < 1000) (ha : az σ k t i f j c n no = z) : Calls Tryd.prog 24 #[.pointer (some ⟨g, 0, none⟩), .agg #[.int .i64 k, .int .i64 (t : Int), .int .i64 (i : Int), .int .i64 (f : Int), .int .i64 (j : Int), .int .i64 c, .int .i64 n], .int .i64 no] w (Aok w K g σ R tc k t i f j n z) := by
  obtain ⟨w0, hw0⟩ : ∃ w0, w0 = (w.alloc (.cells #[.int .i64 k, .int .i64 (t : Int), .int .i64 (i : Int), .int .i64 (f : Int), .int .i64 (j : Int), .int .i64 c, .int .i64 n] 39)).alloc (.cells #[.int .i64 0, .int .i64 0] 57) := ⟨_, rfl⟩
  have B0 := Lib.hid (show Bx w k t i f j c n w0 by rw [hw0]; exact Bx.start _ _ _ _ _ _ _ _)
  have HW := Lib.hid hw0
  clear hw0
  have MA := Lib.hid (fun W (hg : w.grownBy W none) => made_yes (h.new hg))
  have HZ := Lib.hid hz
  have TU := Lib.hid (fun W (hg : w.grownBy W none) => turn_any (h.new hg) k t i f j c n ht hk hw)
  have k16 : (k == 16) = false := by simp; omega
  have k17 : (k == 17) = false := by simp; omega
  have htN := wh_lt hw hk
  have AX := Lib.hid (fun W (hg : w.grownBy W none) => act_any (i := i) (f := f) (j := j) (c := c) (n := n) (no := no) (h.new hg) h1 hk hw hM ha)
  have H := Lib.hid h
  have l1 : (0 : Int) ≤ (t : Int) := by omega
  have l2 : (t : Int) < (σ.N : Int) := by omega
  have HK := Lib.hid h.lt
  have nK : w.heap.size + 1 ∉ K := fun e => by have := HK.out _ e; omega
  have nK0 : w.heap.size ∉ K := fun e => by have := HK.out _ e; omega
  have ng : g ≠ w.heap.size + 1 := by have := HK.out _ h.kg; omega
  have ng' := ng.symm
  clear hz hw h h1 hk
  go_enter Tryd.func24, Tryd.ntmps24
  go_wp2_with (first
    | (rw [← HW.out]; go_at_call 28; (with_reducible refine (MA.out _ B0.out.grow).mono ?_); rintro e w1 ⟨rfl, hw⟩; subst hw; obtain ⟨⟨a0, a1, f0, f1⟩, s0, s1, s2, s3, s4, s5, s6⟩ := B0.out.at_)
    | (go_at_call 37; (with_reducible refine (Check_as _ HZ.out).mono ?_); rintro e w1 ⟨rfl, hg⟩; have B1 := Lib.hid (B0.out.new hg); clear a0 a1 f0 f1 s0 s1 s2 s3 s4 s5 s6; obtain ⟨⟨a0, a1, f0, f1⟩, s0, s1, s2, s3, s4, s5, s6⟩ := B1.out.at_; clear hg)
    | (go_at_call 39; (with_reducible refine (TU.out _ B1.out.grow).mono ?_); rintro e w2 ⟨rfl, hg⟩; have B2 := Lib.hid (B1.out.new hg); clear a0 a1 f0 f1 s0 s1 s2 s3 s4 s5 s6; obtain ⟨⟨a0, a1, f0, f1⟩, s0, s1, s2, s3, s4, s5, s6⟩ := B2.out.at_; clear hg))
  have sz2 := B2.out.sz
  have hq := H.out.new B2.out.grow
  have x1 := hq.c1
  clear hq
  go_region_held3 (fun W => W.cell? ⟨g, 1, none⟩ = some (.slice (some ⟨R, 0, none⟩) σ.N tc) ∧ W.cell? ⟨w.heap.size, 0, none⟩ = some (.int .i64 k) ∧ W.cell? ⟨w.heap.size, 1, none⟩ = some (.int .i64 (t : Int)) ∧ W.cell? ⟨w.heap.size, 2, none⟩ = some (.int .i64 (i : Int)) ∧ W.cell? ⟨w.heap.size, 3, none⟩ = some (.int .i64 (f : Int)) ∧ W.cell? ⟨w.heap.size, 4, none⟩ = some (.int .i64 (j : Int)) ∧ W.cell? ⟨w.heap.size, 5, none⟩ = some (.int .i64 c) ∧ W.cell? ⟨w.heap.size, 6, none⟩ = some (.int .i64 n)) (first | go_keep | with_reducible exact ⟨y1, q0, q1, q2, q3, q4, q5, q6⟩) (first
    | (go_at_call 40; (with_reducible refine (AX.out _ (B2.out.grow.trans (gr.grown_drew _ _))).mono ?_); rintro e w3 ⟨v1, v2, rfl, hv, hP⟩; have HV := Lib.hid hv; have P3 := Lib.hid (hP.from_ (gr.grown_drew _ _)); have y1 := P3.out.c1; have q0 := P3.out.cell s0 nK0; have q1 := P3.out.cell s1 nK0; have q2 := P3.out.cell s2 nK0; have q3 := P3.out.cell s3 nK0; have q4 := P3.out.cell s4 nK0; have q5 := P3.out.cell s5 nK0; have q6 := P3.out.cell s6 nK0; clear a0 a1 f0 f1; obtain ⟨a0, a1, f0, f1⟩ := (P3.out.z2 B2.out.zz (by omega) nK).at_; clear hP hv))
  go_wp2
  refine bodyPost_ret (v := .tuple #[.agg #[.int .i64 v1, .int .i64 v2], .int .i64 z]) (by simp [results, Tryd.results24, go_sem, a0, a1]) rfl ⟨v1, v2, rfl, HV.out, P3.out.fin B2.out.grow (Nat.le_succ _) (by omega) HK.out (.one (gp.set2 _ _ _ _) (by simp))⟩
end
end Go.Proofs.YtfhebjkoojodiaaDoor.gq
