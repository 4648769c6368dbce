/- Texts that this claim stands on. -/
import Derived.Test.YtfhebjkoojodiaaDoorPGqI
namespace Go.Proofs.YtfhebjkoojodiaaDoor.gq
open Go.ChangeShapes Go.WideShapes Go.ChangeAt Go.RowKit gen va cd gp
set_option linter.unusedVariables false
set_option linter.unusedSimpArgs false
set_option maxHeartbeats 1000000
set_option maxRecDepth 100000
section
variable {w : World} {K : List Nat} {g : Nat} {σ : Gs} {R tc : Nat} {A : Option Addr} {nc : Nat} {vs : Nat → Value} {bs : Nat → Nat}
theorem within_al {n : Int} {b : Bool} (w : World) (hb : (decide (0 ≤ n) && decide (n ≤ 127)) = b) : Calls Tryd.prog 52 #[.int .i64 n, .int .i64 0, .int .i64 127] w fun e w' => e = .returned (.bool b) ∧ w.grownBy w' none := by
  subst hb
  exact within_any n 0 127 w
theorem cost_z {w : World} {g : Nat} {q k t i f j c n : Int} (hq : w.cell? ⟨g, 0, none⟩ = some (.int .i64 q)) {z : Int} (hz : (if ck q c = true then 0 else 4) = z) : Calls Tryd.prog 62 #[.pointer (some ⟨g, 0, none⟩), .agg #[.int .i64 k, .int .i64 t, .int .i64 i, .int .i64 f, .int .i64 j, .int .i64 c, .int .i64 n]] w fun e w' => e = .returned (.int .i64 z) ∧ w.grownBy w' none := by
  subst hz
  exact cost_any hq rfl
theorem alloc_n (h : PwI w K g σ R tc A nc vs bs) {t : Nat} (ht : t < σ.N) (k t' i f j c no : Int) {n : Int} (hn : (decide (0 ≤ n) && decide (n ≤ 127)) = false) :
    Calls Tryd.prog 53 #[.pointer (some ⟨g, 0, none⟩), .pointer (some ⟨R, t * 34, none⟩), .agg #[.int .i64 k, .int .i64 t', .int .i64 i, .int .i64 f, .int .i64 j, .int .i64 c, .int .i64 n], .int .i64 no] w fun e w' => e = .returned (.tuple #[.agg #[.int .i64 0, .int .i64 0], .int .i64 4]) ∧ w.grownBy w' none := by
  obtain ⟨w0, hw0⟩ : ∃ w0, w0 = (w.alloc (.cells #[.int .i64 k, .int .i64 t', .int .i64 i, .int .i64 f, .int .i64 j, .int .i64 c, .int .i64 n] 39)).alloc (.cells #[.int .i64 0, .int .i64 0] 57) := ⟨_, rfl⟩
  have B0 := Lib.hid (show Bx w k t' i f j c n w0 by rw [hw0]; exact Bx.start _ _ _ _ _ _ _ _)
  have HW := Lib.hid hw0
  clear hw0
  have WI := Lib.hid (fun W => within_al W hn)
  clear h hn
  go_enter Tryd.func53, Tryd.ntmps53
  go_wp2_with (first
    | (rw [← HW.out]; go_at_call 52; (with_reducible refine (WI.out _).mono ?_); rintro e w1 ⟨rfl, hg⟩; have B1 := Lib.hid (B0.out.new hg); obtain ⟨⟨a0, a1, f0, f1⟩, s0, s1, s2, s3, s4, s5, s6⟩ := B1.out.at_; clear hg))
  refine bodyPost_ret (v := .tuple #[.agg #[.int .i64 0, .int .i64 0], .int .i64 4]) (by simp [results, Tryd.results53, go_sem, *]) rfl ⟨rfl, B1.out.fin _ _⟩
theorem alloc_c (h : PwI w K g σ R tc A nc vs bs) {t : Nat} (ht : t < σ.N) (k t' i f j c no : Int) {l : Nat} (hl : l ≤ 127) (hc : ck σ.q c = false) :
    Calls Tryd.prog 53 #[.pointer (some ⟨g, 0, none⟩), .pointer (some ⟨R, t * 34, none⟩), .agg #[.int .i64 k, .int .i64 t', .int .i64 i, .int .i64 f, .int .i64 j, .int .i64 c, .int .i64 (l : Int)], .int .i64 no] w fun e w' => e = .returned (.tuple #[.agg #[.int .i64 0, .int .i64 0], .int .i64 4]) ∧ w.grownBy w' none := by
  obtain ⟨w0, hw0⟩ : ∃ w0, w0 = (w.alloc (.cells #[.int .i64 k, .int .i64 t', .int .i64 i, .int .i64 f, .int .i64 j, .int .i64 c, .int .i64 (l : Int)] 39)).alloc (.cells #[.int .i64 0, .int .i64 0] 57) := ⟨_, rfl⟩
  have B0 := Lib.hid (show Bx w k t' i f j c (l : Int) w0 by rw [hw0]; exact Bx.start _ _ _ _ _ _ _ _)
  have HW := Lib.hid hw0
  clear hw0
  have WI := Lib.hid (fun W => within_al (n := (l : Int)) W (b := true) (by simp; omega))
  have CO := Lib.hid (fun W (hg : w.grownBy W none) => cost_z (k := k) (t := t') (i := i) (f := f) (j := j) (n := (l : Int)) (h.new hg).c0 (z := 4) (by rw [hc]; rfl))
  clear h hc
  go_enter Tryd.func53, Tryd.ntmps53
  go_wp2_with (first
    | (rw [← HW.out]; go_at_call 52; (with_reducible refine (WI.out _).mono ?_); rintro e w1 ⟨rfl, hg⟩; have B1 := Lib.hid (B0.out.new hg); obtain ⟨⟨a0, a1, f0, f1⟩, s0, s1, s2, s3, s4, s5, s6⟩ := B1.out.at_; clear hg)
    | (go_at_call 62; (with_reducible refine (CO.out _ B1.out.grow).mono ?_); rintro e w2 ⟨rfl, hg⟩; have B2 := Lib.hid (B1.out.new hg); clear a0 a1 f0 f1 s0 s1 s2 s3 s4 s5 s6; obtain ⟨⟨a0, a1, f0, f1⟩, s0, s1, s2, s3, s4, s5, s6⟩ := B2.out.at_; clear hg))
  refine bodyPost_ret (v := .tuple #[.agg #[.int .i64 0, .int .i64 0], .int .i64 4]) (by simp [results, Tryd.results53, go_sem, *]) rfl ⟨rfl, B2.out.fin _ _⟩
theorem alloc_f (h : PwI w K g σ R tc A nc vs bs) {t : Nat} (ht : t < σ.N) (k t' i f j c no : Int) {l : Nat} (hl : l ≤ 127) (hc : ck σ.q c = true) (h16 : (σ.hd t).length = 16) :
    Calls Tryd.prog 53 #[.pointer (some ⟨g, 0, none⟩), .pointer (some ⟨R, t * 34, none⟩), .agg #[.int .i64 k, .int .i64 t', .int .i64 i, .int .i64 f, .int .i64 j, .int .i64 c, .int .i64 (l : Int)], .int .i64 no] w fun e w' => e = .returned (.tuple #[.agg #[.int .i64 0, .int .i64 0], .int .i64 3]) ∧ w.grownBy w' none := by
  obtain ⟨w0, hw0⟩ : ∃ w0, w0 = (w.alloc (.cells #[.int .i64 k, .int .i64 t', .int .i64 i, .int .i64 f, .int .i64 j, .int .i64 c, .int .i64 (l : Int)] 39)).alloc (.cells #[.int .i64 0, .int .i64 0] 57) := ⟨_, rfl⟩
  have B0 := Lib.hid (show Bx w k t' i f j c (l : Int) w0 by rw [hw0]; exact Bx.start _ _ _ _ _ _ _ _)
  have HW := Lib.hid hw0
  clear hw0
  have WI := Lib.hid (fun W => within_al (n := (l : Int)) W (b := true) (by simp; omega))
  have CO := Lib.hid (fun W (hg : w.grownBy W none) => cost_z (k := k) (t := t') (i := i) (f := f) (j := j) (n := (l : Int)) (h.new hg).c0 (z := 0) (by rw [hc]; rfl))
  have FU := Lib.hid (fun W (hg : w.grownBy W none) => full_any ((h.new hg).tw ht) (d := true) (by simp; omega))
  clear h hc
  go_enter Tryd.func53, Tryd.ntmps53
  go_wp2_with (first
    | (rw [← HW.out]; go_at_call 52; (with_reducible refine (WI.out _).mono ?_); rintro e w1 ⟨rfl, hg⟩; have B1 := Lib.hid (B0.out.new hg); obtain ⟨⟨a0, a1, f0, f1⟩, s0, s1, s2, s3, s4, s5, s6⟩ := B1.out.at_; clear hg)
    | (go_at_call 62; (with_reducible refine (CO.out _ B1.out.grow).mono ?_); rintro e w2 ⟨rfl, hg⟩; have B2 := Lib.hid (B1.out.new hg); clear a0 a1 f0 f1 s0 s1 s2 s3 s4 s5 s6; obtain ⟨⟨a0, a1, f0, f1⟩, s0, s1, s2, s3, s4, s5, s6⟩ := B2.out.at_; clear hg)
    | (go_at_call 63; (with_reducible refine (FU.out _ B2.out.grow).mono ?_); rintro e w3 ⟨rfl, hw⟩; subst hw))
  refine bodyPost_ret (v := .tuple #[.agg #[.int .i64 0, .int .i64 0], .int .i64 3]) (by simp [results, Tryd.results53, go_sem, *]) rfl ⟨rfl, B2.out.fin _ _⟩
theorem alloc_no (h : PwI w K g σ R tc A nc vs bs) {t : Nat} (ht : t < σ.N) (k t' i f j c no : Int) {l : Nat} (hl : l ≤ 127) (hc : ck σ.q c = true) (h16 : (σ.hd t).length < 16) (hno : (no != 0) = true) :
    Calls Tryd.prog 53 #[.pointer (some ⟨g, 0, none⟩), .pointer (some ⟨R, t * 34, none⟩), .agg #[.int .i64 k, .int .i64 t', .int .i64 i, .int .i64 f, .int .i64 j, .int .i64 c, .int .i64 (l : Int)], .int .i64 no] w fun e w' => e = .returned (.tuple #[.agg #[.int .i64 0, .int .i64 0], .int .i64 no]) ∧ w.grownBy w' none := by
  obtain ⟨w0, hw0⟩ : ∃ w0, w0 = (w.alloc (.cells #[.int .i64 k, .int .i64 t', .int .i64 i, .int .i64 f, .int .i64 j, .int .i64 c, .int .i64 (l : Int)] 39)).alloc (.cells #[.int .i64 0, .int .i64 0] 57) := ⟨_, rfl⟩
  have B0 := Lib.hid (show Bx w k t' i f j c (l : Int) w0 by rw [hw0]; exact Bx.start _ _ _ _ _ _ _ _)
  have HW := Lib.hid hw0
  clear hw0
  have WI := Lib.hid (fun W => within_al (n := (l : Int)) W (b := true) (by simp; omega))
  have CO := Lib.hid (fun W (hg : w.grownBy W none) => cost_z (k := k) (t := t') (i := i) (f := f) (j := j) (n := (l : Int)) (h.new hg).c0 (z := 0) (by rw [hc]; rfl))
  have FU := Lib.hid (fun W (hg : w.grownBy W none) => full_any ((h.new hg).tw ht) (d := false) (by simp; omega))
  clear h hc
  go_enter Tryd.func53, Tryd.ntmps53
  go_wp2_with (first
    | (rw [← HW.out]; go_at_call 52; (with_reducible refine (WI.out _).mono ?_); rintro e w1 ⟨rfl, hg⟩; have B1 := Lib.hid (B0.out.new hg); obtain ⟨⟨a0, a1, f0, f1⟩, s0, s1, s2, s3, s4, s5, s6⟩ := B1.out.at_; clear hg)
    | (go_at_call 62; (with_reducible refine (CO.out _ B1.out.grow).mono ?_); rintro e w2 ⟨rfl, hg⟩; have B2 := Lib.hid (B1.out.new hg); clear a0 a1 f0 f1 s0 s1 s2 s3 s4 s5 s6; obtain ⟨⟨a0, a1, f0, f1⟩, s0, s1, s2, s3, s4, s5, s6⟩ := B2.out.at_; clear hg)
    | (go_at_call 63; (with_reducible refine (FU.out _ B2.out.grow).mono ?_); rintro e w3 ⟨rfl, hw⟩; subst hw))
  refine bodyPost_ret (v := .tuple #[.agg #[.int .i64 0, .int .i64 0], .int .i64 no]) (by simp [results, Tryd.results53, go_sem, *]) rfl ⟨rfl, B2.out.fin _ _⟩
theorem alloc_y (h : PwI w K g σ R tc A nc vs bs) {t : Nat} (ht : t < σ.N) (k t' i f j c no : Int) {l : Nat} (hl : l ≤ 127) (hc : ck σ.q c = true) (h16 : (σ.hd t).length < 16) (hno : (no != 0) = false) (hM : σ.M < 1000) (live : σ.lv t = true) :
    Calls Tryd.prog 53 #[.pointer (some ⟨g, 0, none⟩), .pointer (some ⟨R, t * 34, none⟩), .agg #[.int .i64 k, .int .i64 t', .int .i64 i, .int .i64 f, .int .i64 j, .int .i64 c, .int .i64 (l : Int)], .int .i64 no] w fun e w' => e = .returned (.tuple #[.agg #[.int .i64 2, .int .i64 (σ.M : Int)], .int .i64 0]) ∧ Pn w K g { σ with M := σ.M + 1, nd := upd σ.nd σ.M (List.replicate l (0, 0)), hd := upd σ.hd t (σ.hd t ++ [(2, (σ.M : Int))]) } R tc w' := by
  obtain ⟨w0, hw0⟩ : ∃ w0, w0 = (w.alloc (.cells #[.int .i64 k, .int .i64 t', .int .i64 i, .int .i64 f, .int .i64 j, .int .i64 c, .int .i64 (l : Int)] 39)).alloc (.cells #[.int .i64 0, .int .i64 0] 57) := ⟨_, rfl⟩
  have B0 := Lib.hid (show Bx w k t' i f j c (l : Int) w0 by rw [hw0]; exact Bx.start _ _ _ _ _ _ _ _)
  have HW := Lib.hid hw0
  clear hw0
  have WI := Lib.hid (fun W => within_al (n := (l : Int)) W (b := true) (by simp; omega))
  have CO := Lib.hid (fun W (hg : w.grownBy W none) => cost_z (k := k) (t := t') (i := i) (f := f) (j := j) (n := (l : Int)) (h.new hg).c0 (z := 0) (by rw [hc]; rfl))
  have FU := Lib.hid (fun W (hg : w.grownBy W none) => full_any ((h.new hg).tw ht) (d := false) (by simp; omega))
  have AD := Lib.hid (fun W (hg : w.grownBy W none) => add_any (h.new hg) hM l hl)
  have HR := Lib.hid (h.lt R h.kR)
  have HK := Lib.hid h.lt
  have OKH := Lib.hid h.ok
  have KR := Lib.hid h.kR
  have LV := Lib.hid live
  clear h hc
  go_enter Tryd.func53, Tryd.ntmps53
  go_wp2_with (first
    | (rw [← HW.out]; go_at_call 52; (with_reducible refine (WI.out _).mono ?_); rintro e w1 ⟨rfl, hg⟩; have B1 := Lib.hid (B0.out.new hg); obtain ⟨⟨a0, a1, f0, f1⟩, s0, s1, s2, s3, s4, s5, s6⟩ := B1.out.at_; clear hg)
    | (go_at_call 62; (with_reducible refine (CO.out _ B1.out.grow).mono ?_); rintro e w2 ⟨rfl, hg⟩; have B2 := Lib.hid (B1.out.new hg); clear a0 a1 f0 f1 s0 s1 s2 s3 s4 s5 s6; obtain ⟨⟨a0, a1, f0, f1⟩, s0, s1, s2, s3, s4, s5, s6⟩ := B2.out.at_; clear hg)
    | (go_at_call 63; (with_reducible refine (FU.out _ B2.out.grow).mono ?_); rintro e w3 ⟨rfl, hw⟩; subst hw)
    | (go_at_call 22; (with_reducible refine (AD.out _ B2.out.grow).mono ?_); rintro e w4 ⟨rfl, hP⟩; have P4 := Lib.hid hP; clear hP))
  obtain ⟨wv, hwv⟩ : ∃ wv, wv = w4.alloc (.cells #[.int .i64 2, .int .i64 (σ.M : Int)] 57) := ⟨_, rfl⟩
  obtain ⟨K4, A4, nc4, vs4, bs4, p4, g4, k4⟩ := P4.out
  have GV : gr.Gr K w2 wv := by rw [hwv]; exact g4.made (grown_alloc _ _)
  have p5 : PwI wv K4 g { σ with M := σ.M + 1, nd := upd σ.nd σ.M (List.replicate l (0, 0)) } R tc A4 nc4 vs4 bs4 := by rw [hwv]; exact p4.new (grown_alloc _ _)
  have u0 : wv.cell? ⟨w4.heap.size, 0, none⟩ = some (.int .i64 2) := by rw [hwv]; simp [go_sem]
  have u1 : wv.cell? ⟨w4.heap.size, 1, none⟩ = some (.int .i64 (σ.M : Int)) := by rw [hwv]; simp [go_sem]
  have sz2 : w.heap.size + 2 ≤ w2.heap.size := B2.out.sz
  have sz4 : w2.heap.size ≤ w4.heap.size := g4.size
  have LT := HR.out
  have ne0 : R ≠ w.heap.size + 1 := by omega
  have ne0' := ne0.symm
  have ne1 : w4.heap.size ≠ w.heap.size + 1 := by omega
  have ne1' := ne1.symm
  have ne2 : R ≠ w4.heap.size := by omega
  have ne2' := ne2.symm
  have Z5 := Lib.hid (B2.out.zz.gr GV (by omega) (fun hm => by have := HK.out _ hm; omega))
  have P5 := Lib.hid p5
  have G5 := Lib.hid GV
  have PX := Lib.hid (fun W (hg : wv.grownBy W none) => push_yes ((P5.out.new hg).tw ht) h16 2 (σ.M : Int))
  have N4 := Lib.hid (show ∀ k, k ∈ K4 → k ∉ [w.heap.size + 1] from fun q hq hm => by
    rw [List.mem_singleton] at hm
    rcases k4 q hq with e | e
    · have := HK.out _ e; omega
    · omega)
  have K5 := Lib.hid (show ∀ k, k ∈ K4 → k ∈ K ∨ w.heap.size ≤ k from fun q hq => (k4 q hq).imp id (fun e => by omega))
  have G6 := Lib.hid (show gr.Gr K w wv from (gr.Gr.new B2.out.grow).trans (G5.out))
  have TWB := Lib.hid (fun W (hg : ((wv.setCell ⟨w.heap.size + 1, 0, none⟩ (.int .i64 2)).setCell ⟨w.heap.size + 1, 1, none⟩ (.int .i64 (σ.M : Int))).grownBy W none) => (((P5.out.gr (L := [w.heap.size + 1]) (.one (gp.set2 _ _ _ _) (by simp)) N4.out)).tw ht).new hg)
  rw [← hwv]
  clear hwv p4 p5 g4 GV k4
  obtain ⟨a0, a1, f0, f1⟩ := Z5.out.at_
  have svz : wv.heap.size = wv.heap.size := rfl
  go_region_held3 (fun W => W.cell? ⟨w4.heap.size, 0, none⟩ = some (.int .i64 2) ∧ W.cell? ⟨w4.heap.size, 1, none⟩ = some (.int .i64 (σ.M : Int))) (first | go_keep | with_reducible exact ⟨q1, q2⟩) (first
    | (go_at_call 64; (first
      | (with_reducible refine (PX.out _ (gr.grown_drew _ _)).mono ?_)
      | (with_reducible refine (push_yes (TWB.out _ (gr.grown_drew _ _)) h16 2 (σ.M : Int)).mono ?_)); rintro e wf ⟨rfl, hg⟩; (first
      | (have hh := Lib.hid (Tset.from_ hg (gr.grown_drew wv none) (by have := G5.out.size; omega)); have q1 := hh.out.cell u0 ne2'; have q2 := hh.out.cell u1 ne2'; have ZF := Lib.hid (hh.out.z2 Z5.out (by have := G5.out.size; omega) ne0'); clear a0 a1 f0 f1; obtain ⟨a0, a1, f0, f1⟩ := ZF.out.at_; clear hg)
      | (have hh := Lib.hid (Tset.from_ hg (gr.grown_drew _ none) (by have := G6.out.size; simp; omega)); have q1 := hg.cell (p := ⟨w4.heap.size, 0, none⟩) (v := .int .i64 2) (by simp [go_sem, u0, *]) ne2'; have q2 := hg.cell (p := ⟨w4.heap.size, 1, none⟩) (v := .int .i64 (σ.M : Int)) (by simp [go_sem, u1, *]) ne2'; have r0 := hg.cell (p := ⟨w.heap.size + 1, 0, none⟩) (v := .int .i64 2) (by simp [go_sem, a0, a1]) ne0'; have r1 := hg.cell (p := ⟨w.heap.size + 1, 1, none⟩) (v := .int .i64 (σ.M : Int)) (by simp [go_sem, a0, a1]) ne0'; clear hg))))
  all_goals go_wp2
  all_goals first
    | (refine bodyPost_ret (v := .tuple #[.agg #[.int .i64 2, .int .i64 (σ.M : Int)], .int .i64 0]) (by simp [results, Tryd.results53, go_sem, a0, a1]) rfl ⟨rfl, ?_⟩
       have T := P5.out.tset ht hh.out (by simp; omega) (fun v hv e => by
         rcases List.mem_append.1 hv with hv | hv
         · have := OKH.out.hr t v hv e
           exact ⟨this.1, by show v.2 < ((σ.M + 1 : Nat) : Int); omega⟩
         · obtain rfl := List.mem_singleton.1 hv
           exact ⟨by show (0 : Int) ≤ (σ.M : Int); omega, by show (σ.M : Int) < ((σ.M + 1 : Nat) : Int); omega⟩) (fun e => by rw [LV.out] at e; cases e)
       rw [upd_self rfl] at T
       have GF := gp.set2 wf (w.heap.size + 1) (.int .i64 2) (.int .i64 (σ.M : Int))
       exact ⟨K4, _, _, _, _, T.gr (L := [w.heap.size + 1]) (.one GF (by simp)) N4.out, ((G6.out.trans (hh.out.1.mono (fun k hk => by rw [List.mem_singleton] at hk; rw [hk]; exact KR.out))).own (M := [w.heap.size + 1]) (.one GF (by simp)) (fun q hq => .inr (by simp at hq; omega))), K5.out⟩)
    | (refine bodyPost_ret (v := .tuple #[.agg #[.int .i64 2, .int .i64 (σ.M : Int)], .int .i64 0]) (by simp [results, Tryd.results53, go_sem, r0, r1]) rfl ⟨rfl, ?_⟩
       have T := (P5.out.gr (L := [w.heap.size + 1]) (.one (gp.set2 _ _ _ _) (by simp)) N4.out).tset ht hh.out (by simp; omega) (fun v hv e => by
         rcases List.mem_append.1 hv with hv | hv
         · have := OKH.out.hr t v hv e
           exact ⟨this.1, by show v.2 < ((σ.M + 1 : Nat) : Int); omega⟩
         · obtain rfl := List.mem_singleton.1 hv
           exact ⟨by show (0 : Int) ≤ (σ.M : Int); omega, by show (σ.M : Int) < ((σ.M + 1 : Nat) : Int); omega⟩) (fun e => by rw [LV.out] at e; cases e)
       rw [upd_self rfl] at T
       have GF := gp.set2 wv (w.heap.size + 1) (.int .i64 2) (.int .i64 (σ.M : Int))
       exact ⟨K4, _, _, _, _, T, ((G6.out.own (M := [w.heap.size + 1]) (.one GF (by simp)) (fun q hq => .inr (by simp at hq; omega))).trans (hh.out.1.mono (fun k hk => by rw [List.mem_singleton] at hk; rw [hk]; exact KR.out))), K5.out⟩)
end
end Go.Proofs.YtfhebjkoojodiaaDoor.gq
