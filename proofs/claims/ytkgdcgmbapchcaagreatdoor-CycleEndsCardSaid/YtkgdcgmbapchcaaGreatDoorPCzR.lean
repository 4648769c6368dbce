/- Texts that this claim stands on. -/
import Derived.Test.YtkgdcgmbapchcaaGreatDoorPCzP
namespace Go.Proofs.YtkgdcgmbapchcaaGreatDoor.cy
open Go.ChangeShapes Go.WideShapes Go.ChangeAt Go.RowKit gen calls cls geos ce st sh
set_option linter.unusedVariables false
set_option maxHeartbeats 8000000
set_option maxRecDepth 100000
section
variable {w0 W w w1 w' : World} {k : Kn} {c : Cb} {L0 K0 L K M : List Nat} {σ τ : Cy} {kd t n i j v1 v2 : Int}
theorem roots_do (A : Al k σ) (t : Int) : ∃ l : List Va, l.length ≤ 16 ∧ (∀ v ∈ l, ∀ j : Nat, t = j → v ∈ σ.rt.getD j []) ∧ ∀ W, Cx w0 k c L0 K0 σ W → Calls Tryz.prog 39 #[.pointer (some ⟨c.B, 0, none⟩), .int .i64 t] W (va.VasAns l W) := by
  cases hl : σ.lv t with
  | false => exact ⟨[], by simp, fun v h => (by cases h), fun W X => by
      obtain ⟨L, K, h1, h2, h3, h4⟩ := X
      exact Roots_dead h3 hl⟩
  | true =>
    obtain ⟨j, rfl, hj⟩ := lv_nat hl A.hi
    have hk := A.hk.n
    exact ⟨σ.rt.getD j [], (A.hi.rtr j).1, fun v h u e => (by
      obtain rfl : j = u := by omega
      exact h), fun W X => by
      obtain ⟨L, K, h1, h2, h3, h4⟩ := X
      exact Roots_any h3 (by omega) hl⟩
theorem bsl (i : Int) (l : Nat) (h : 0 ≤ i) : decide (i < (l : Int)) = decide (0 ≤ i ∧ i < (l : Int)) := by
  by_cases h2 : i < (l : Int)
  · rw [decide_eq_true h2, decide_eq_true ⟨h, h2⟩]
  · rw [decide_eq_false h2, decide_eq_false (fun e => h2 e.2)]
theorem bsf (i : Int) (l : Nat) (h : ¬ 0 ≤ i) : false = decide (0 ≤ i ∧ i < (l : Int)) := by rw [decide_eq_false (fun e => h e.1)]
theorem op7 {W : World} {B : Nat} {a0 a1 a2 a3 a4 a5 a6 : Value} {T : TypeId} {z : Nat × Nat} (e : W.heap[B]? = some (.cells #[a0, a1, a2, a3, a4, a5, a6] T z)) : W.cell? ⟨B, 0, none⟩ = some a0 ∧ W.cell? ⟨B, 1, none⟩ = some a1 ∧ W.cell? ⟨B, 2, none⟩ = some a2 ∧ W.cell? ⟨B, 3, none⟩ = some a3 ∧ W.cell? ⟨B, 4, none⟩ = some a4 ∧ W.cell? ⟨B, 5, none⟩ = some a5 ∧ W.cell? ⟨B, 6, none⟩ = some a6 := by
  have k := fun i => cell_of_row W B i _ _ _ e
  exact ⟨by rw [k]; rfl, by rw [k]; rfl, by rw [k]; rfl, by rw [k]; rfl, by rw [k]; rfl, by rw [k]; rfl, by rw [k]; rfl⟩
theorem zv2 {X W : World} {h : Nat} (hX : X.heap.size = h) (hg : (X.alloc (.cells #[.int .i64 0, .int .i64 0] 36)).grownBy W none) : W.heap[h]? = some (.cells #[.int .i64 0, .int .i64 0] 36 (0, 0)) := by
  subst hX
  exact (Gr.new (L := []) hg).heap (heap_alloc_new X (.cells #[.int .i64 0, .int .i64 0] 36)) (by simp)
theorem two_at {W : World} {h : Nat} {p0 p1 : Value} {T : TypeId} (e : W.heap[h]? = some (.cells #[p0, p1] T (0, 0))) : W.cell? ⟨h, 0, none⟩ = some p0 ∧ W.cell? ⟨h, 1, none⟩ = some p1 ∧ W.frozen? ⟨h, 0, none⟩ = false ∧ W.frozen? ⟨h, 1, none⟩ = false := by
  have k := fun i => cell_of_row W h i _ _ _ e
  have f := fun i => frozen_of_row W h i _ _ e
  exact ⟨by rw [k]; rfl, by rw [k]; rfl, f 0, f 1⟩
theorem do_any (H : Cw w k c L K σ) (hT : Tb w c L K) (A : Al k σ) : Calls Tryz.prog 18 #[.pointer (some ⟨c.B, 0, none⟩), .agg #[.int .i64 kd, .int .i64 t, .int .i64 n, .int .i64 i, .int .i64 j, .int .i64 v1, .int .i64 v2]] w fun e w' => e = .returned (.tuple #[]) ∧ Dx w k c L K σ kd w' := by
  obtain ⟨l, hl16, hlm, RT⟩ := roots_do (w0 := w) (k := k) (c := c) (L0 := L) (K0 := K) A t
  have X := Cx.start H
  have H0 := Lib.hid H
  have SZ := Lib.hid (sza w (.cells #[.int .i64 kd, .int .i64 t, .int .i64 n, .int .i64 i, .int .i64 j, .int .i64 v1, .int .i64 v2] 38))
  have RT := Lib.hid RT
  have HM := Lib.hid hlm
  have HT := Lib.hid hT
  have HA := Lib.hid A
  have X0 := Lib.hid X
  have cB := (X.new (World.grownBy_alloc w (.cells #[.int .i64 kd, .int .i64 t, .int .i64 n, .int .i64 i, .int .i64 j, .int .i64 v1, .int .i64 v2] 38) none))
  have X1 := Lib.hid cB
  have KB := Lib.hid (fun W (hg : (w.alloc (.cells #[.int .i64 kd, .int .i64 t, .int .i64 n, .int .i64 i, .int .i64 j, .int .i64 v1, .int .i64 v2] 38)).grownBy W none) => op7 ((Gr.new (L := []) hg).heap (heap_alloc_new w (.cells #[.int .i64 kd, .int .i64 t, .int .i64 n, .int .i64 i, .int .i64 j, .int .i64 v1, .int .i64 v2] 38)) (by simp)))
  obtain ⟨m0, m1, m2, m3, m4, m5, m6⟩ := KB.out _ (World.grownBy.refl _ _)
  have R1 := Lib.hid (RT.out _ X1.out)
  clear cB X hT A hlm H
  go_enter Tryz.func18, Tryz.ntmps18
  go_upto_region 2 with (first
    | (go_at_call 39; (with_reducible refine R1.out.mono ?_); rintro e w2 ⟨ad, cc, rfl, hl, hg⟩; have X2 := Lib.hid (X1.out.new hg); have A2 := Lib.hid hg; have RV := Lib.hid (And.intro (hl.rv rfl) hl.from_); obtain ⟨d0, d1, d2, d3, d4, d5, d6⟩ := KB.out _ hg; clear hl hg))
  go_cut [5, 6] from 7 (fun h1 h2 wx => h1 = .bool (decide (0 ≤ i ∧ i < (l.length : Int))) ∧ h2 = .bool (decide (0 ≤ j ∧ j < (l.length : Int))) ∧ w2.grownBy wx none)
  case first =>
    by_cases hi : 0 ≤ i
    · have t1 : decide (0 ≤ i) = true := decide_eq_true hi
      by_cases hj : 0 ≤ j
      · have t2 : decide (0 ≤ j) = true := decide_eq_true hj
        have e1 := Lib.hid (bsl i l.length hi)
        have e2 := Lib.hid (bsl j l.length hj)
        clear hi hj RT
        go_quiet (first | fail)
        go_wp2_with fail
        go_meet
        exact ⟨by rw [e1.out], by rw [e2.out], li.grown_drewN _ _ _⟩
      · have t2 : decide (0 ≤ j) = false := decide_eq_false hj
        have e1 := Lib.hid (bsl i l.length hi)
        have e2 := Lib.hid (bsf j l.length hj)
        clear hi hj RT
        go_quiet (first | fail)
        go_wp2_with fail
        go_meet
        exact ⟨by rw [e1.out], by rw [← e2.out], li.grown_drewN _ _ _⟩
    · have t1 : decide (0 ≤ i) = false := decide_eq_false hi
      by_cases hj : 0 ≤ j
      · have t2 : decide (0 ≤ j) = true := decide_eq_true hj
        have e1 := Lib.hid (bsf i l.length hi)
        have e2 := Lib.hid (bsl j l.length hj)
        clear hi hj RT
        go_quiet (first | fail)
        go_wp2_with fail
        go_meet
        exact ⟨by rw [← e1.out], by rw [e2.out], li.grown_drewN _ _ _⟩
      · have t2 : decide (0 ≤ j) = false := decide_eq_false hj
        have e1 := Lib.hid (bsf i l.length hi)
        have e2 := Lib.hid (bsf j l.length hj)
        clear hi hj RT
        go_quiet (first | fail)
        go_wp2_with fail
        go_meet
        exact ⟨by rw [← e1.out], by rw [← e2.out], li.grown_drewN _ _ _⟩
  case rest =>
    obtain ⟨rfl, rfl, hg⟩ := hcut
    have A3 := Lib.hid (A2.out.trans hg)
    have G3 := Lib.hid ((World.grownBy_alloc w _ none).trans A3.out)
    have XW := Lib.hid (fun W (hg : wc.grownBy W none) => Cx.start (H0.out.new (G3.out.trans hg)))
    have CW := Lib.hid (fun W (hg : wc.grownBy W none) => H0.out.new (G3.out.trans hg))
    have TW := Lib.hid (fun W (hg : wc.grownBy W none) => HT.out.new (G3.out.trans hg))
    have RV3 := Lib.hid (RV.out.1.made hg)
    have RB := Lib.hid (fun q (hq : (Value.slice ad l.length cc).ownBlock = some q) => Nat.le_trans SZ.out (RV.out.2 q hq))
    have SM := Lib.hid (show Dx w k c L K σ kd wc from ⟨σ, .same, (Cx.start H0.out).new G3.out⟩)
    clear d0 d1 d2 d3 d4 d5 d6 m0 m1 m2 m3 m4 m5 m6
    obtain ⟨d0, d1, d2, d3, d4, d5, d6⟩ := KB.out _ A3.out
    have KC := Lib.hid (fun W W' (hg : wc.grownBy W none) (G : Gr (al c L K) W W') => by
      have e := (Gr.new (L := []) (A3.out.trans hg)).heap (heap_alloc_new w (.cells #[.int .i64 kd, .int .i64 t, .int .i64 n, .int .i64 i, .int .i64 j, .int .i64 v1, .int .i64 v2] 38)) (by simp)
      exact op7 (G.heap e (fun hq => absurd (H0.out.lt _ hq) (Nat.lt_irrefl _))))
    clear hg X1 X2 R1 RT RV A2
    by_cases k1 : kd = 1
    · subst k1
      clear HM RV3
      go_wp2_with (go_at_call 33; (with_reducible refine (begin_do (XW.out _ (by first | exact World.grownBy.refl _ _ | exact li.grown_drewN _ _ _ | exact gr.grown_drew _ _)) HA.out).mono ?_); rintro e w4 ⟨⟨v, rfl⟩, hd⟩; have D := Lib.hid (Dx.base (G3.out.trans (by first | exact World.grownBy.refl _ _ | exact li.grown_drewN _ _ _ | exact gr.grown_drew _ _)) hd); clear hd)
      go_end0
      exact ⟨rfl, D.out⟩
    by_cases k2 : kd = 2
    · subst k2
      clear HM RV3
      go_wp2_with (go_at_call 34; (with_reducible refine (attach_do (XW.out _ (by first | exact World.grownBy.refl _ _ | exact li.grown_drewN _ _ _ | exact gr.grown_drew _ _)) HA.out _).mono ?_); rintro e w4 ⟨⟨v, rfl⟩, hd⟩; have D := Lib.hid (Dx.base (G3.out.trans (by first | exact World.grownBy.refl _ _ | exact li.grown_drewN _ _ _ | exact gr.grown_drew _ _)) hd); clear hd)
      go_end0
      exact ⟨rfl, D.out⟩
    by_cases k3 : kd = 3
    · subst k3
      clear HM RV3
      go_wp2_with (go_at_call 35; (with_reducible refine (detach_do (XW.out _ (by first | exact World.grownBy.refl _ _ | exact li.grown_drewN _ _ _ | exact gr.grown_drew _ _)) HA.out _).mono ?_); rintro e w4 ⟨⟨v, rfl⟩, hd⟩; have D := Lib.hid (Dx.base (G3.out.trans (by first | exact World.grownBy.refl _ _ | exact li.grown_drewN _ _ _ | exact gr.grown_drew _ _)) hd); clear hd)
      go_end0
      exact ⟨rfl, D.out⟩
    by_cases k4 : kd = 4
    · subst k4
      clear HM RV3
      go_wp2_with (go_at_call 27; (with_reducible refine (poll_do (XW.out _ (by first | exact World.grownBy.refl _ _ | exact li.grown_drewN _ _ _ | exact gr.grown_drew _ _)) HA.out _).mono ?_); rintro e w4 ⟨⟨v, rfl⟩, hd⟩; have D := Lib.hid (Dx.base (G3.out.trans (by first | exact World.grownBy.refl _ _ | exact li.grown_drewN _ _ _ | exact gr.grown_drew _ _)) hd); clear hd)
      go_end0
      exact ⟨rfl, D.out⟩
    by_cases k6 : kd = 6
    · subst k6
      clear HM RV3
      rcases slow_do HA.out t n with ⟨z, hz, SL⟩ | ⟨J, m, a, y, rfl, hJ, hl, N, SL⟩
      · have SL := Lib.hid SL
        have tz : (z == 0) = false := by simpa using hz
        clear hz
        go_wp2_with (go_at_call 31; (with_reducible refine (SL.out _ _ _ _ _ (XW.out _ (by first | exact World.grownBy.refl _ _ | exact li.grown_drewN _ _ _ | exact gr.grown_drew _ _))).mono ?_); rintro e w4 ⟨rfl, hd⟩; have D := Lib.hid (show Dx w k c L K σ 6 w4 from ⟨σ, .same, Cx.base (G3.out.trans (by first | exact World.grownBy.refl _ _ | exact li.grown_drewN _ _ _ | exact gr.grown_drew _ _)) hd⟩); clear hd)
        go_end0
        exact ⟨rfl, D.out⟩
      · have SL := Lib.hid SL
        have PM := Lib.hid (fun W w0 (X : Cx w0 k c L K (σ.made k y a) W) => pushm_do (kd := 6) HA.out (by omega) hJ hl N X)
        clear hJ hl N
        go_wp2_with (first
          | (go_at_call 31; (with_reducible refine (SL.out _ _ _ _ _ (XW.out _ (by first | exact World.grownBy.refl _ _ | exact li.grown_drewN _ _ _ | exact gr.grown_drew _ _))).mono ?_); rintro e w4 ⟨rfl, hd⟩; have X4 := Lib.hid (Cx.base (G3.out.trans (by first | exact World.grownBy.refl _ _ | exact li.grown_drewN _ _ _ | exact gr.grown_drew _ _)) hd); obtain ⟨d0, d1, d2, d3, d4, d5, d6⟩ := KC.out _ _ (by first | exact World.grownBy.refl _ _ | exact li.grown_drewN _ _ _ | exact gr.grown_drew _ _) hd.gro; clear hd)
          | (go_at_call 36; (with_reducible refine (PM.out _ _ X4.out).mono ?_); rintro e w5 ⟨⟨v, rfl⟩, hd⟩; have D := Lib.hid hd; clear hd))
        go_end0
        exact ⟨rfl, D.out⟩
    by_cases k7 : kd = 7
    · subst k7
      clear HM RV3
      rcases slow_do HA.out t n with ⟨z, hz, SL⟩ | ⟨J, m, a, y, rfl, hJ, hl, N, SL⟩
      · have SL := Lib.hid SL
        have tz : (z == 0) = false := by simpa using hz
        clear hz
        go_wp2_with (go_at_call 31; (with_reducible refine (SL.out _ _ _ _ _ (XW.out _ (by first | exact World.grownBy.refl _ _ | exact li.grown_drewN _ _ _ | exact gr.grown_drew _ _))).mono ?_); rintro e w4 ⟨rfl, hd⟩; have D := Lib.hid (show Dx w k c L K σ 7 w4 from ⟨σ, .same, Cx.base (G3.out.trans (by first | exact World.grownBy.refl _ _ | exact li.grown_drewN _ _ _ | exact gr.grown_drew _ _)) hd⟩); clear hd)
        go_end0
        exact ⟨rfl, D.out⟩
      · have SL := Lib.hid SL
        have PM := Lib.hid (fun W w0 (X : Cx w0 k c L K (σ.made k y a) W) => pushm_do (kd := 7) HA.out (by omega) hJ hl N X)
        clear hJ hl N
        go_wp2_with (first
          | (go_at_call 31; (with_reducible refine (SL.out _ _ _ _ _ (XW.out _ (by first | exact World.grownBy.refl _ _ | exact li.grown_drewN _ _ _ | exact gr.grown_drew _ _))).mono ?_); rintro e w4 ⟨rfl, hd⟩; have X4 := Lib.hid (Cx.base (G3.out.trans (by first | exact World.grownBy.refl _ _ | exact li.grown_drewN _ _ _ | exact gr.grown_drew _ _)) hd); obtain ⟨d0, d1, d2, d3, d4, d5, d6⟩ := KC.out _ _ (by first | exact World.grownBy.refl _ _ | exact li.grown_drewN _ _ _ | exact gr.grown_drew _ _) hd.gro; clear hd)
          | (go_at_call 36; (with_reducible refine (PM.out _ _ X4.out).mono ?_); rintro e w5 ⟨⟨v, rfl⟩, hd⟩; have D := Lib.hid hd; clear hd))
        go_end0
        exact ⟨rfl, D.out⟩
    by_cases k10 : kd = 10
    · subst k10
      clear HM RV3
      go_wp2_with (go_at_call 29; (with_reducible refine (pop_do (XW.out _ (by first | exact World.grownBy.refl _ _ | exact li.grown_drewN _ _ _ | exact gr.grown_drew _ _)) HA.out _).mono ?_); rintro e w4 ⟨⟨v, rfl⟩, hd⟩; have D := Lib.hid (Dx.base (G3.out.trans (by first | exact World.grownBy.refl _ _ | exact li.grown_drewN _ _ _ | exact gr.grown_drew _ _)) hd); clear hd)
      go_end0
      exact ⟨rfl, D.out⟩
    by_cases k5 : kd = 5
    · subst k5
      clear HM RV3
      go_wp2_with (go_at_call 28; (with_reducible refine (unit_do (XW.out _ (by first | exact World.grownBy.refl _ _ | exact li.grown_drewN _ _ _ | exact gr.grown_drew _ _)) (TW.out _ (by first | exact World.grownBy.refl _ _ | exact li.grown_drewN _ _ _ | exact gr.grown_drew _ _)) HA.out (.inl rfl)).mono ?_); rintro e w4 ⟨⟨v, rfl⟩, hd⟩; have D := Lib.hid (Dx.base (G3.out.trans (by first | exact World.grownBy.refl _ _ | exact li.grown_drewN _ _ _ | exact gr.grown_drew _ _)) hd); clear hd)
      go_end0
      exact ⟨rfl, D.out⟩
    by_cases k11 : kd = 11
    · subst k11
      clear HM RV3
      go_wp2
      go_region_held3 (fun W => W.cell? ⟨w.heap.size, 1, none⟩ = some (.int .i64 t)) (first | with_reducible exact d1 | with_reducible exact H4.out | go_keep) (first
        | (go_at_call 42; (with_reducible refine (Global_any (CW.out _ (by first | exact World.grownBy.refl _ _ | exact li.grown_drewN _ _ _ | exact gr.grown_drew _ _))).mono ?_); rintro e w4 ⟨rfl, rfl⟩)
        | (go_at_call 36; (with_reducible refine (push_do (XW.out _ (by first | exact World.grownBy.refl _ _ | exact li.grown_drewN _ _ _ | exact gr.grown_drew _ _)) HA.out (.inr (.inl rfl)) _ (fun j _ _ _ => HA.out.hi.my_gl j)).mono ?_); rintro e w4 ⟨⟨v, rfl⟩, hd⟩; have H4 := Lib.hid (KC.out _ _ (by first | exact World.grownBy.refl _ _ | exact li.grown_drewN _ _ _ | exact gr.grown_drew _ _) hd.gro).2.1; have D := Lib.hid (Dx.base (G3.out.trans (by first | exact World.grownBy.refl _ _ | exact li.grown_drewN _ _ _ | exact gr.grown_drew _ _)) hd); clear hd))
      go_wp2
      go_end0
      exact ⟨rfl, D.out.new (by first | exact World.grownBy.refl _ _ | exact li.grown_drewN _ _ _ | exact gr.grown_drew _ _)⟩
    by_cases k13 : kd = 13
    · subst k13
      by_cases hI : 0 ≤ i ∧ i < (l.length : Int)
      · obtain ⟨I, rfl⟩ : ∃ I : Nat, i = I := ⟨i.toNat, by omega⟩
        have hI2 : I < l.length := by omega
        have tI : decide (0 ≤ (I : Int) ∧ (I : Int) < (l.length : Int)) = true := decide_eq_true hI
        have l1 : (0 : Int) ≤ I := hI.1
        have l2 : (I : Int) < (l.length : Int) := hI.2
        obtain ⟨b, off, rfl, q0, q1⟩ := RV3.out.at_ hI2
        have hm := HM.out _ (va.getD_mem hI2)
        have hb := RB.out b rfl
        generalize l.getD I (0, 0) = u at *
        obtain ⟨u1, u2⟩ := u
        have MY := Lib.hid (fun (j : Nat) (e : t = j) (_ : σ.lv j = true) (e2 : u1 = 2) => HA.out.hi.my_root (t := j) (a := u2) (by rw [← e2]; exact hm j e))
        have KQ := Lib.hid (fun W W' (hg : wc.grownBy W none) (G : Gr (al c L K) W W') => show W'.cell? ⟨b, off + I * 2, none⟩ = some (.int .i64 u1) ∧ W'.cell? ⟨b, off + I * 2 + 1, none⟩ = some (.int .i64 u2) from ⟨G.cell (hg.cell q0 (fun h => by cases h)) (fun hq => absurd (H0.out.lt _ hq) (by show ¬ b < w.heap.size; omega)), G.cell (hg.cell q1 (fun h => by cases h)) (fun hq => absurd (H0.out.lt _ hq) (by show ¬ b < w.heap.size; omega))⟩)
        clear hI hI2 hm hb HM RV3 RB
        go_wp2
        go_region_held3 (fun W => W.cell? ⟨w.heap.size, 1, none⟩ = some (.int .i64 t) ∧ W.cell? ⟨w.heap.size, 3, none⟩ = some (.int .i64 (I : Int)) ∧ W.cell? ⟨b, off + I * 2, none⟩ = some (.int .i64 u1) ∧ W.cell? ⟨b, off + I * 2 + 1, none⟩ = some (.int .i64 u2)) (first | with_reducible exact ⟨d1, d3, q0, q1⟩ | with_reducible exact H4.out | go_keep) (first
          | (go_at_call 36; (with_reducible refine (push_do (XW.out _ (by first | exact World.grownBy.refl _ _ | exact li.grown_drewN _ _ _ | exact gr.grown_drew _ _)) HA.out (.inr (.inr rfl)) _ MY.out).mono ?_); rintro e w4 ⟨⟨v, rfl⟩, hd⟩; have H4 := Lib.hid (And.intro (KC.out _ _ (by first | exact World.grownBy.refl _ _ | exact li.grown_drewN _ _ _ | exact gr.grown_drew _ _) hd.gro).2.1 (And.intro (KC.out _ _ (by first | exact World.grownBy.refl _ _ | exact li.grown_drewN _ _ _ | exact gr.grown_drew _ _) hd.gro).2.2.2.1 (KQ.out _ _ (by first | exact World.grownBy.refl _ _ | exact li.grown_drewN _ _ _ | exact gr.grown_drew _ _) hd.gro))); have D := Lib.hid (Dx.base (G3.out.trans (by first | exact World.grownBy.refl _ _ | exact li.grown_drewN _ _ _ | exact gr.grown_drew _ _)) hd); clear hd))
        go_wp2
        go_end0
        exact ⟨rfl, D.out.new (by first | exact World.grownBy.refl _ _ | exact li.grown_drewN _ _ _ | exact gr.grown_drew _ _)⟩
      · have tI : decide (0 ≤ i ∧ i < (l.length : Int)) = false := decide_eq_false hI
        clear hI HM RV3 RB
        go_wp2
        go_end0
        exact ⟨rfl, SM.out.new (by first | exact World.grownBy.refl _ _ | exact li.grown_drewN _ _ _ | exact gr.grown_drew _ _)⟩
    by_cases k9 : kd = 9
    · subst k9
      by_cases hI : 0 ≤ i ∧ i < (l.length : Int)
      · obtain ⟨I, rfl⟩ : ∃ I : Nat, i = I := ⟨i.toNat, by omega⟩
        have hI2 : I < l.length := by omega
        have tI : decide (0 ≤ (I : Int) ∧ (I : Int) < (l.length : Int)) = true := decide_eq_true hI
        have l1 : (0 : Int) ≤ I := hI.1
        have l2 : (I : Int) < (l.length : Int) := hI.2
        by_cases hJ : 0 ≤ j ∧ j < (l.length : Int)
        · obtain ⟨J, rfl⟩ : ∃ J : Nat, j = J := ⟨j.toNat, by omega⟩
          have hJ2 : J < l.length := by omega
          have tJ : decide (0 ≤ (J : Int) ∧ (J : Int) < (l.length : Int)) = true := decide_eq_true hJ
          have l3 : (0 : Int) ≤ J := hJ.1
          have l4 : (J : Int) < (l.length : Int) := hJ.2
          obtain ⟨b, off, rfl, q0, q1⟩ := RV3.out.at_ hI2
          obtain ⟨b', off', eb, x0, x1⟩ := RV3.out.at_ hJ2
          obtain ⟨rfl, rfl⟩ : b' = b ∧ off' = off := by injection eb with eb; injection eb with e1 e2; exact ⟨e1.symm, e2.symm⟩
          have hm := HM.out _ (va.getD_mem hI2)
          have hmJ := HM.out _ (va.getD_mem hJ2)
          have hb := RB.out b' rfl
          generalize l.getD I (0, 0) = u at *
          generalize l.getD J (0, 0) = x at *
          obtain ⟨u1, u2⟩ := u
          obtain ⟨p1, p2⟩ := x
          by_cases h2 : u1 = 2
          · subst h2
            have MY := Lib.hid (fun (j : Nat) (e : t = j) (_ : σ.lv j = true) => And.intro (hm j e) (hmJ j e))
            have KQ := Lib.hid (fun W W' (hg : wc.grownBy W none) (G : Gr (al c L K) W W') => show W'.cell? ⟨b', off' + I * 2 + 1, none⟩ = some (.int .i64 u2) ∧ W'.cell? ⟨b', off' + J * 2, none⟩ = some (.int .i64 p1) ∧ W'.cell? ⟨b', off' + J * 2 + 1, none⟩ = some (.int .i64 p2) from ⟨G.cell (hg.cell q1 (fun h => by cases h)) (fun hq => absurd (H0.out.lt _ hq) (by show ¬ b' < w.heap.size; omega)), G.cell (hg.cell x0 (fun h => by cases h)) (fun hq => absurd (H0.out.lt _ hq) (by show ¬ b' < w.heap.size; omega)), G.cell (hg.cell x1 (fun h => by cases h)) (fun hq => absurd (H0.out.lt _ hq) (by show ¬ b' < w.heap.size; omega))⟩)
            clear hI hI2 hJ hJ2 hm hmJ hb HM RV3 RB eb
            go_wp2
            go_region_held3 (fun W => W.cell? ⟨w.heap.size, 1, none⟩ = some (.int .i64 t) ∧ W.cell? ⟨w.heap.size, 2, none⟩ = some (.int .i64 n) ∧ W.cell? ⟨w.heap.size, 3, none⟩ = some (.int .i64 (I : Int)) ∧ W.cell? ⟨w.heap.size, 4, none⟩ = some (.int .i64 (J : Int)) ∧ W.cell? ⟨b', off' + I * 2 + 1, none⟩ = some (.int .i64 u2) ∧ W.cell? ⟨b', off' + J * 2, none⟩ = some (.int .i64 p1) ∧ W.cell? ⟨b', off' + J * 2 + 1, none⟩ = some (.int .i64 p2)) (first | with_reducible exact ⟨d1, d2, d3, d4, q1, x0, x1⟩ | with_reducible exact H4.out | go_keep) (first
              | (go_at_call 37; (with_reducible refine (write_do (XW.out _ (by first | exact World.grownBy.refl _ _ | exact li.grown_drewN _ _ _ | exact gr.grown_drew _ _)) HA.out _ MY.out).mono ?_); rintro e w4 ⟨⟨v, rfl⟩, hd⟩; have H4 := Lib.hid (And.intro (KC.out _ _ (by first | exact World.grownBy.refl _ _ | exact li.grown_drewN _ _ _ | exact gr.grown_drew _ _) hd.gro).2.1 (And.intro (KC.out _ _ (by first | exact World.grownBy.refl _ _ | exact li.grown_drewN _ _ _ | exact gr.grown_drew _ _) hd.gro).2.2.1 (And.intro (KC.out _ _ (by first | exact World.grownBy.refl _ _ | exact li.grown_drewN _ _ _ | exact gr.grown_drew _ _) hd.gro).2.2.2.1 (And.intro (KC.out _ _ (by first | exact World.grownBy.refl _ _ | exact li.grown_drewN _ _ _ | exact gr.grown_drew _ _) hd.gro).2.2.2.2.1 (KQ.out _ _ (by first | exact World.grownBy.refl _ _ | exact li.grown_drewN _ _ _ | exact gr.grown_drew _ _) hd.gro))))); have D := Lib.hid (Dx.base (G3.out.trans (by first | exact World.grownBy.refl _ _ | exact li.grown_drewN _ _ _ | exact gr.grown_drew _ _)) hd); clear hd))
            go_wp2
            go_end0
            exact ⟨rfl, D.out.new (by first | exact World.grownBy.refl _ _ | exact li.grown_drewN _ _ _ | exact gr.grown_drew _ _)⟩
          · have t2 : (u1 == 2) = false := by simpa using h2
            clear hI hI2 hJ hJ2 hm hmJ hb HM RV3 RB eb h2
            go_wp2
            go_end0
            exact ⟨rfl, SM.out.new (by first | exact World.grownBy.refl _ _ | exact li.grown_drewN _ _ _ | exact gr.grown_drew _ _)⟩
        · have tJ : decide (0 ≤ j ∧ j < (l.length : Int)) = false := decide_eq_false hJ
          clear hI hI2 hJ HM RV3 RB
          go_wp2
          go_end0
          exact ⟨rfl, SM.out.new (by first | exact World.grownBy.refl _ _ | exact li.grown_drewN _ _ _ | exact gr.grown_drew _ _)⟩
      · have tI : decide (0 ≤ i ∧ i < (l.length : Int)) = false := decide_eq_false hI
        clear hI HM RV3 RB
        go_wp2
        go_end0
        exact ⟨rfl, SM.out.new (by first | exact World.grownBy.refl _ _ | exact li.grown_drewN _ _ _ | exact gr.grown_drew _ _)⟩
    by_cases k8 : kd = 8
    · subst k8
      by_cases hI : 0 ≤ i ∧ i < (l.length : Int)
      · obtain ⟨I, rfl⟩ : ∃ I : Nat, i = I := ⟨i.toNat, by omega⟩
        have hI2 : I < l.length := by omega
        have tI : decide (0 ≤ (I : Int) ∧ (I : Int) < (l.length : Int)) = true := decide_eq_true hI
        have l1 : (0 : Int) ≤ I := hI.1
        have l2 : (I : Int) < (l.length : Int) := hI.2
        obtain ⟨b, off, rfl, q0, q1⟩ := RV3.out.at_ hI2
        have hm := HM.out _ (va.getD_mem hI2)
        have hb := RB.out b rfl
        generalize l.getD I (0, 0) = u at *
        obtain ⟨u1, u2⟩ := u
        by_cases h2 : u1 = 2
        · subst h2
          have KS := Lib.hid (fun W (hg : wc.grownBy W none) => show W.cell? ⟨w.heap.size, 1, none⟩ = some (.int .i64 t) ∧ W.cell? ⟨w.heap.size, 2, none⟩ = some (.int .i64 n) ∧ W.cell? ⟨w.heap.size, 3, none⟩ = some (.int .i64 (I : Int)) ∧ W.cell? ⟨b, off + I * 2 + 1, none⟩ = some (.int .i64 u2) from ⟨hg.cell d1 (fun h => by cases h), hg.cell d2 (fun h => by cases h), hg.cell d3 (fun h => by cases h), hg.cell q1 (fun h => by cases h)⟩)
          cases hf : fget σ.x u2 n with
          | none =>
            have RD := Lib.hid (fun W (hg : wc.grownBy W none) => Read_any (CW.out W hg) HA.out.hi.wk u2 n)
            rw [hf] at RD
            clear hI hI2 hm hb HM RV3 RB hf
            go_wp2
            go_region_held3 (fun W => W.cell? ⟨w.heap.size, 1, none⟩ = some (.int .i64 t) ∧ W.cell? ⟨w.heap.size, 2, none⟩ = some (.int .i64 n) ∧ W.cell? ⟨w.heap.size, 3, none⟩ = some (.int .i64 (I : Int)) ∧ W.cell? ⟨b, off + I * 2 + 1, none⟩ = some (.int .i64 u2)) (first | with_reducible exact ⟨d1, d2, d3, q1⟩ | with_reducible exact H4.out | with_reducible exact KS.out _ (G4.out.trans (World.grownBy_alloc _ _ _)) | with_reducible exact KS.out _ (li.grown_new G4.out ((ro.grown_set _ _ _ _).trans (ro.grown_set _ _ _ _)) (Nat.le_refl _)) | go_keep) (first
              | (go_at_call 32; (with_reducible refine (RD.out _ (by first | exact World.grownBy.refl _ _ | exact gr.grown_drew _ _ | exact World.grownBy_alloc _ _ _ | exact (gr.grown_drew _ _).trans (World.grownBy_alloc _ _ _))).mono ?_); rintro e w4 ⟨rfl, hg⟩; have G4 := Lib.hid (show wc.grownBy w4 none from World.grownBy.trans (by first | exact World.grownBy.refl _ _ | exact gr.grown_drew _ _ | exact World.grownBy_alloc _ _ _ | exact (gr.grown_drew _ _).trans (World.grownBy_alloc _ _ _)) hg); (first | (have Q4 := Lib.hid (zv2 (X := wc) (h := wc.heap.size) rfl (World.grownBy.trans (gr.grown_drew _ _) hg)); obtain ⟨z0, z1, y0, y1⟩ := two_at Q4.out) | (have Q4 := Lib.hid (zv2 (h := wc.heap.size) rfl hg); obtain ⟨z0, z1, y0, y1⟩ := two_at Q4.out) | skip); have H4 := Lib.hid (KS.out _ G4.out); clear hg))
            all_goals
              go_wp2
              go_end0
              exact ⟨rfl, SM.out.new (by first | exact G4.out.trans (World.grownBy_alloc _ _ _) | exact (li.grown_new G4.out ((ro.grown_set _ _ _ _).trans (ro.grown_set _ _ _ _)) (Nat.le_refl _)) | exact (G4.out.trans (World.grownBy_alloc _ _ _)).trans (li.grown_drewN _ _ _) | exact World.grownBy.trans (li.grown_new G4.out ((ro.grown_set _ _ _ _).trans (ro.grown_set _ _ _ _)) (Nat.le_refl _)) (li.grown_drewN _ _ _))⟩
          | some g =>
            have RD := Lib.hid (fun W (hg : wc.grownBy W none) => Read_any (CW.out W hg) HA.out.hi.wk u2 n)
            rw [hf] at RD
            obtain ⟨g1, g2⟩ := g
            rw [show va0 (some (g1, g2)) = (g1, g2) from rfl, show (some (g1, g2)).isSome = true from rfl] at RD
            have MY := Lib.hid (show ∀ j : Nat, t = j → σ.lv j = true → g1 = 2 → σ.my k j g2 from fun j e _ e2 => by
              obtain ⟨jj, _, _, e4⟩ := fget_some hf
              subst e2
              exact HA.out.hi.my_read (t := j) (HA.out.hi.my_root (t := j) (a := u2) (hm j e)) e4)
            clear hI hI2 hm hb HM RV3 RB hf
            go_wp2
            go_region_held3 (fun W => W.cell? ⟨w.heap.size, 1, none⟩ = some (.int .i64 t) ∧ W.cell? ⟨w.heap.size, 2, none⟩ = some (.int .i64 n) ∧ W.cell? ⟨w.heap.size, 3, none⟩ = some (.int .i64 (I : Int)) ∧ W.cell? ⟨b, off + I * 2 + 1, none⟩ = some (.int .i64 u2)) (first | with_reducible exact ⟨d1, d2, d3, q1⟩ | with_reducible exact H4.out | with_reducible exact KS.out _ (G4.out.trans (World.grownBy_alloc _ _ _)) | with_reducible exact KS.out _ (li.grown_new G4.out ((ro.grown_set _ _ _ _).trans (ro.grown_set _ _ _ _)) (Nat.le_refl _)) | go_keep) (first
              | (go_at_call 32; (with_reducible refine (RD.out _ (by first | exact World.grownBy.refl _ _ | exact gr.grown_drew _ _ | exact World.grownBy_alloc _ _ _ | exact (gr.grown_drew _ _).trans (World.grownBy_alloc _ _ _))).mono ?_); rintro e w4 ⟨rfl, hg⟩; have G4 := Lib.hid (show wc.grownBy w4 none from World.grownBy.trans (by first | exact World.grownBy.refl _ _ | exact gr.grown_drew _ _ | exact World.grownBy_alloc _ _ _ | exact (gr.grown_drew _ _).trans (World.grownBy_alloc _ _ _)) hg); (first | (have Q4 := Lib.hid (zv2 (X := wc) (h := wc.heap.size) rfl (World.grownBy.trans (gr.grown_drew _ _) hg)); obtain ⟨z0, z1, y0, y1⟩ := two_at Q4.out) | (have Q4 := Lib.hid (zv2 (h := wc.heap.size) rfl hg); obtain ⟨z0, z1, y0, y1⟩ := two_at Q4.out) | skip); have H4 := Lib.hid (KS.out _ G4.out); clear hg))
            all_goals
              go_wp2_with (go_at_call 36; (with_reducible refine (push_do (XW.out _ (by first | exact G4.out.trans (World.grownBy_alloc _ _ _) | exact (li.grown_new G4.out ((ro.grown_set _ _ _ _).trans (ro.grown_set _ _ _ _)) (Nat.le_refl _)) | exact (G4.out.trans (World.grownBy_alloc _ _ _)).trans (li.grown_drewN _ _ _) | exact World.grownBy.trans (li.grown_new G4.out ((ro.grown_set _ _ _ _).trans (ro.grown_set _ _ _ _)) (Nat.le_refl _)) (li.grown_drewN _ _ _))) HA.out (.inl rfl) _ MY.out).mono ?_); rintro e w6 ⟨⟨v, rfl⟩, hd⟩; have D := Lib.hid (Dx.base (G3.out.trans (by first | exact G4.out.trans (World.grownBy_alloc _ _ _) | exact (li.grown_new G4.out ((ro.grown_set _ _ _ _).trans (ro.grown_set _ _ _ _)) (Nat.le_refl _)) | exact (G4.out.trans (World.grownBy_alloc _ _ _)).trans (li.grown_drewN _ _ _) | exact World.grownBy.trans (li.grown_new G4.out ((ro.grown_set _ _ _ _).trans (ro.grown_set _ _ _ _)) (Nat.le_refl _)) (li.grown_drewN _ _ _))) hd); clear hd)
              go_end0
              exact ⟨rfl, D.out⟩
        · have t2 : (u1 == 2) = false := by simpa using h2
          clear hI hI2 hm hb HM RV3 RB h2
          go_wp2
          go_end0
          exact ⟨rfl, SM.out.new (by first | exact World.grownBy.refl _ _ | exact li.grown_drewN _ _ _ | exact gr.grown_drew _ _)⟩
      · have tI : decide (0 ≤ i ∧ i < (l.length : Int)) = false := decide_eq_false hI
        clear hI HM RV3 RB
        go_wp2
        go_end0
        exact ⟨rfl, SM.out.new (by first | exact World.grownBy.refl _ _ | exact li.grown_drewN _ _ _ | exact gr.grown_drew _ _)⟩
    have t1 : (kd == 1) = false := by simpa using k1
    have t2 : (kd == 2) = false := by simpa using k2
    have t3 : (kd == 3) = false := by simpa using k3
    have t4 : (kd == 4) = false := by simpa using k4
    have t5 : (kd == 5) = false := by simpa using k5
    have t6 : (kd == 6) = false := by simpa using k6
    have t7 : (kd == 7) = false := by simpa using k7
    have t8 : (kd == 8) = false := by simpa using k8
    have t9 : (kd == 9) = false := by simpa using k9
    have t10 : (kd == 10) = false := by simpa using k10
    have t11 : (kd == 11) = false := by simpa using k11
    have t13 : (kd == 13) = false := by simpa using k13
    clear k1 k2 k3 k4 k5 k6 k7 k8 k9 k10 k11 k13 HM RV3 RB
    by_cases k14 : 13 < kd
    · have t14 : decide (13 < kd) = true := decide_eq_true k14
      have K14 := Lib.hid k14
      clear k14
      go_wp2_with (go_at_call 28; (with_reducible refine (unit_do (XW.out _ (by first | exact World.grownBy.refl _ _ | exact li.grown_drewN _ _ _ | exact gr.grown_drew _ _)) (TW.out _ (by first | exact World.grownBy.refl _ _ | exact li.grown_drewN _ _ _ | exact gr.grown_drew _ _)) HA.out (.inr K14.out)).mono ?_); rintro e w4 ⟨⟨v, rfl⟩, hd⟩; have D := Lib.hid (Dx.base (G3.out.trans (by first | exact World.grownBy.refl _ _ | exact li.grown_drewN _ _ _ | exact gr.grown_drew _ _)) hd); clear hd)
      go_end0
      exact ⟨rfl, D.out⟩
    · have t14 : decide (13 < kd) = false := decide_eq_false k14
      clear k14
      go_wp2
      go_end0
      exact ⟨rfl, SM.out.new (by first | exact World.grownBy.refl _ _ | exact li.grown_drewN _ _ _ | exact gr.grown_drew _ _)⟩
end
end Go.Proofs.YtkgdcgmbapchcaaGreatDoor.cy
