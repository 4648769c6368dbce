/- Texts that this claim stands on. -/
import Derived.Test.YtkgdcgmbapchcaaGreatDoorPCzW
import Derived.Test.YtkgdcgmbapchcaaGreatDoorPGnQ
import Derived.Test.YtkgdcgmbapchcaaGreatDoorPCfX
namespace Go.Proofs.YtkgdcgmbapchcaaGreatDoor.cy
open Go.ChangeShapes Go.WideShapes Go.ChangeAt Go.RowKit gen calls cls geos ce st sh
set_option linter.unusedVariables false
set_option maxHeartbeats 16000000
set_option maxRecDepth 100000
section
variable {w0 W W' w w1 w' : World} {k : Kn} {c : Cb} {L0 K0 L K M : List Nat} {σ τ : Cy} {kd t n i j v1 v2 : Int}
def Cs (w : World) (k : Kn) (c : Cb) (σ : Cy) (W : World) : Prop := ∃ L K, Cw W k c L K σ ∧ Tb W c L K ∧ w.grownBy W none ∧ ∀ q, q ∈ al c L K → w.heap.size ≤ q
theorem Cs.step (T : Tb W c L K) (g : w.grownBy W none) (f : ∀ q, q ∈ al c L K → w.heap.size ≤ q) (hx : Cx W k c L K τ W') : Cs w k c τ W' := by
  obtain ⟨L', K', b1, b2, H', g', T'⟩ := hx.tb T
  exact ⟨L', K', H', T', grz g g' f, fun q hq => (al_old b1 b2 q hq).elim (f q) fun h => Nat.le_trans g.size h⟩
theorem Cs.new (h : Cs w k c σ W) (hg : W.grownBy W' none) : Cs w k c σ W' := by
  obtain ⟨L, K, H, T, g, f⟩ := h
  exact ⟨L, K, H.new hg, T.new hg, g.trans hg, f⟩
theorem Cs.gr (h : Cs w k c σ W) : w.grownBy W none := by
  obtain ⟨_, _, _, _, g, _⟩ := h
  exact g
theorem Cs.do_ (h : Cs w k c σ W) (A : Al k σ) (kd t n i j v1 v2 : Int) : Calls Tryz.prog 18 #[.pointer (some ⟨c.B, 0, none⟩), .agg #[.int .i64 kd, .int .i64 t, .int .i64 n, .int .i64 i, .int .i64 j, .int .i64 v1, .int .i64 v2]] W fun e w' => e = .returned (.tuple #[]) ∧ ∃ τ, Did k σ kd τ ∧ Cs w k c τ w' := by
  obtain ⟨L, K, H, T, g, f⟩ := h
  exact (do_any H T A).mono fun e w' ⟨e1, τ, d, x⟩ => ⟨e1, τ, d, .step T g f x⟩
theorem Cs.objects (h : Cs w k c σ W) {m : Nat} (hm : σ.x.tk.length = m) : Calls Tryz.prog 20 #[.pointer (some ⟨c.B, 0, none⟩)] W fun e w' => ∃ A d, e = .returned (.slice A m d) ∧ w'.ownsRow W.heap.size 3 1 (.slice A m d) m (σ.x.tk.map (Value.int .i64)) ∧ W.grownBy w' none := by
  obtain ⟨L, K, H, T, g, f⟩ := h
  subst hm
  exact Objects_any H T.t T.s
theorem Cs.reached (h : Cs w k c σ W) (hi : Inv k σ) {xs : List Int} (hx : xs.Pairwise (· < ·)) (hm : ∀ a, a ∈ xs ↔ Rea k σ a) {m : Nat} (hn : xs.length = m) :
    Calls Tryz.prog 16 #[.pointer (some ⟨c.B, 0, none⟩)] W fun e w' => ∃ A d, e = .returned (.tuple #[.slice A m d, .bool true]) ∧ w'.ownsRow W.heap.size 3 1 (.slice A m d) m (xs.map (Value.int .i64)) ∧ W.grownBy w' none := by
  obtain ⟨L, K, H, T, g, f⟩ := h
  exact reached_any H hi hx hm hn
theorem Cs.serials (h : Cs w k c σ W) {A : Option Addr} {m d : Nat} {xs ys : List Int} (hr : Rd W W.heap.size A m d xs) (hm : m ≤ 2048) (hs : ∀ a ∈ xs, a ∈ σ.x.tk) (hy : bm.rising (xs.map (ser σ.x)) = ys) {n : Nat} (hn : ys.length = n) :
    Calls Tryz.prog 17 #[.pointer (some ⟨c.B, 0, none⟩), .slice A m d] W fun e w' => ∃ A' d', e = .returned (.slice A' n d') ∧ w'.ownsRow W.heap.size 3 1 (.slice A' n d') n (ys.map (Value.int .i64)) ∧ W.grownBy w' none := by
  obtain ⟨L, K, H, T, g, f⟩ := h
  exact serials_any H hr hm hs hy hn
theorem Cs.phase (h : Cs w k c σ W) : Calls Tryz.prog 21 #[.pointer (some ⟨c.B, 0, none⟩)] W fun e w' => e = .returned (.int .i64 σ.ph) ∧ W = w' := by
  obtain ⟨L, K, H, T, g, f⟩ := h
  exact Phase_any H
theorem Cs.cycles (h : Cs w k c σ W) : Calls Tryz.prog 24 #[.pointer (some ⟨c.B, 0, none⟩)] W fun e w' => e = .returned (.int .i64 σ.cy) ∧ W = w' := by
  obtain ⟨L, K, H, T, g, f⟩ := h
  exact Cycles_any H
theorem Cs.at_ (h : Cs w k c σ W) : Calls Tryz.prog 23 #[.pointer (some ⟨c.B, 0, none⟩)] W fun e w' => e = .returned (.int .i64 σ.q) ∧ W = w' := by
  obtain ⟨L, K, H, T, g, f⟩ := h
  exact At_any H
theorem Cs.marked (h : Cs w k c σ W) (a : Int) : Calls Tryz.prog 22 #[.pointer (some ⟨c.B, 0, none⟩), .int .i64 a] W fun e w' => e = .returned (.bool (decide (a ∈ σ.x.tk) && isb σ.s.ws a)) ∧ W.grownBy w' none := by
  obtain ⟨L, K, H, T, g, f⟩ := h
  exact Marked_any H a
theorem new_cs {a0 a1 a2 a3 a4 a5 a6 a7 a8 a9 : Int} (h : cf.wrongN [a0, a1, a2, a3, a4, a5, a6, a7, a8, a9] = 0) : ∃ (k : Kn) (σ : Cy), Ru k 0 σ ∧ a0 = k.N ∧ a1 = k.n ∧ σ.ph = 0 ∧ ∀ (w W : World), cf.Table W → bm.Tab w → w.grownBy W none → Calls Tryz.prog 10 #[.agg #[.int .i64 a0, .int .i64 a1, .int .i64 a2, .int .i64 a3, .int .i64 a4, .int .i64 a5, .int .i64 a6, .int .i64 a7, .int .i64 a8, .int .i64 a9]] W fun e w' => ∃ c, e = .returned (.tuple #[.pointer (some ⟨c.B, 0, none⟩), .int .i64 0]) ∧ Cs w k c σ w' := by
  obtain ⟨k, y, hk, e0, e1, e7, e8, S, R⟩ := cfg_of h
  refine ⟨k, s0 k y, R, e0, e1, rfl, fun w W hC hB hg => (New_yes hC h hk e0 e1 e7 e8 S).mono fun e w' ⟨c, L, K, k1, k2, k3, k4⟩ => ⟨c, k1, L, K, k2, ⟨(hB.kept hg (by simp)).kept k3 (by simp), fun hm => ?_⟩, hg.trans k3, fun q hq => Nat.le_trans hg.size (k4 q hq)⟩⟩
  have h1 := k4 _ hm
  have h2 := hB.1
  have h3 := hg.size
  omega
theorem ten_at (w : World) (a0 a1 a2 a3 a4 a5 a6 a7 a8 a9 : Int) : ∀ W, (w.alloc (.cells #[.int .i64 a0, .int .i64 a1, .int .i64 a2, .int .i64 a3, .int .i64 a4, .int .i64 a5, .int .i64 a6, .int .i64 a7, .int .i64 a8, .int .i64 a9] 23)).grownBy W none → cf.Ten W w.heap.size a0 a1 a2 a3 a4 a5 a6 a7 a8 a9 := fun W hg => (cf.Ten.new w 23 a0 a1 a2 a3 a4 a5 a6 a7 a8 a9).below (li.grown_below hg)
end
theorem CycleMarks_any (a0 a1 a2 a3 a4 a5 a6 a7 a8 a9 : Int) (D : Option Addr) (l c2 : Nat) (fo : Nat → Nat → Int) (w : World) (hc : l ≤ c2) (hc2 : c2 ≤ maxLen) (ho : Rws w w.heap.size D l 7 fo) (hB : bm.Tab w) (hC : cf.Table w) :
    Calls Tryz.prog 5 #[.agg #[.int .i64 a0, .int .i64 a1, .int .i64 a2, .int .i64 a3, .int .i64 a4, .int .i64 a5, .int .i64 a6, .int .i64 a7, .int .i64 a8, .int .i64 a9], .slice D l c2] w fun e w' => e = .returned (.bool true) ∧ w.grownBy w' none := by
  have TEN := Lib.hid (ten_at w a0 a1 a2 a3 a4 a5 a6 a7 a8 a9)
  have BX := Lib.hid (World.grownBy_alloc w (.cells #[.int .i64 a0, .int .i64 a1, .int .i64 a2, .int .i64 a3, .int .i64 a4, .int .i64 a5, .int .i64 a6, .int .i64 a7, .int .i64 a8, .int .i64 a9] 23) none)
  have AL := Lib.hid (fun W (hg : w.grownBy W none) => alive_any (hC.below (li.grown_below hg)) (hB.kept hg (by simp)))
  have FW := Lib.hid (fun w => few_any D l c2 w hc hc2 ho.some)
  have HO := Lib.hid ho
  by_cases hw : cf.wrongN [a0, a1, a2, a3, a4, a5, a6, a7, a8, a9] = 0
  · obtain ⟨k, σ, R0, -, -, -, NW⟩ := new_cs hw
    have CK := Lib.hid (fun W (hg : w.grownBy W none) => cf.Check_yes _ _ _ _ _ _ _ _ _ _ _ (hC.below (li.grown_below hg)) hw)
    have NW := Lib.hid (fun W (hg : w.grownBy W none) => NW w W (hC.below (li.grown_below hg)) hB hg)
    have R0 := Lib.hid R0
    clear ho hc hc2 hB hC hw
    go_enter Tryz.func5, Tryz.ntmps5
    go_wp2_with (first
      | (go_at_call 9; (with_reducible refine (AL.out _ BX.out).mono ?_); rintro e w1 ⟨rfl, hg⟩; have G1 := Lib.hid hg; obtain ⟨z0, z1, z2, z3, z4, z5, z6, z7, z8, z9⟩ := TEN.out _ hg; clear hg)
      | (go_at_call 11; (with_reducible refine (CK.out _ (BX.out.trans G1.out)).mono ?_); rintro e w2 ⟨rfl, hb⟩; have G2 := Lib.hid (G1.out.trans (ro.grown_of hb)); clear z0 z1 z2 z3 z4 z5 z6 z7 z8 z9; obtain ⟨z0, z1, z2, z3, z4, z5, z6, z7, z8, z9⟩ := TEN.out _ G2.out; clear hb)
      | (go_at_call 10; (with_reducible refine (NW.out _ (BX.out.trans G2.out)).mono ?_); rintro e w3 ⟨c, rfl, hs⟩; have S3 := Lib.hid hs; clear z0 z1 z2 z3 z4 z5 z6 z7 z8 z9 hs)
      | (go_at_call 13; (with_reducible refine (FW.out _).mono ?_); rintro e w4 ⟨⟨l2, c4, l60, hl2, rfl⟩, hw⟩; subst hw))
    go_loopw [7] (fun i wr => ∃ (j : Nat) (σ : Cy), j ≤ l2 ∧ i = .int .i64 j ∧ Ru k j σ ∧ Cs w k c σ wr) (fun i _ => l2 - (intOf i).toNat)
    case atStart => exact ⟨0, σ, Nat.zero_le _, rfl, R0.out, S3.out⟩
    case round =>
      clear S3 R0
      obtain ⟨j, σ, hj, rfl, hR, hS⟩ := hrel
      have R1 := Lib.hid hR
      have O1 := Lib.hid ((HO.out.less hl2).kept hS.gr (by simp))
      have S1 := Lib.hid hS
      clear hR hS
      by_cases hlt : j < l2
      · obtain ⟨q, off, rfl, hq, hcc, hw⟩ := O1.out j hlt
        have p0 := hcc 0 (by omega)
        rw [Nat.add_zero] at p0
        have p1 := hcc 1 (by omega)
        have p2 := hcc 2 (by omega)
        have p3 := hcc 3 (by omega)
        have p4 := hcc 4 (by omega)
        have p5 := hcc 5 (by omega)
        have p6 := hcc 6 (by omega)
        have DO := Lib.hid (S1.out.do_ (R1.out.al (by omega)) (fo j 0) (fo j 1) (fo j 2) (fo j 3) (fo j 4) (fo j 5) (fo j 6))
        generalize fo j 0 = x0 at p0 DO
        generalize fo j 1 = x1 at p1 DO
        generalize fo j 2 = x2 at p2 DO
        generalize fo j 3 = x3 at p3 DO
        generalize fo j 4 = x4 at p4 DO
        generalize fo j 5 = x5 at p5 DO
        generalize fo j 6 = x6 at p6 DO
        have l1 : (0 : Int) ≤ (j : Int) := by omega
        have l3 : (j : Int) < l2 := by omega
        clear hcc hw O1 hq
        go_wp2_with (go_at_call 18; (with_reducible refine DO.out.mono ?_); rintro e w5 ⟨rfl, τ, hd, hs⟩; have R5 := Lib.hid (R1.out.did (by omega) hd); have S5 := Lib.hid hs; clear hd hs DO p0 p1 p2 p3 p4 p5 p6)
        obtain ⟨m, hm⟩ : ∃ m, τ.x.tk.length = m := ⟨_, rfl⟩
        have m8 : m ≤ 2048 := by rw [← hm]; exact R5.out.hi.few
        have OB := Lib.hid (S5.out.objects hm)
        have HM := Lib.hid hm
        obtain ⟨xs, hx1, hx2⟩ := rea_ex R5.out.hi
        obtain ⟨mr, hmr⟩ : ∃ m, xs.length = m := ⟨_, rfl⟩
        have RE := Lib.hid (fun W (hg : w5.grownBy W none) => (S5.out.new hg).reached R5.out.hi hx1 hx2 hmr)
        have mr8 : mr ≤ 2048 := by rw [← hmr]; exact bf.room 2048 _ (hx1.imp (fun h => by omega)) fun a ha => by have := R5.out.hi.rg (((hx2 a).1 ha).good R5.out.hi).1; omega
        have XM := Lib.hid (And.intro hmr hx2)
        clear hm hx1 hx2 hmr
        go_wp2_with (go_at_call 20; (with_reducible refine OB.out.mono ?_); rintro e w6 ⟨A6, d6, rfl, ho6, hg⟩; have D6 := Lib.hid (bm.rd_own ho6); have G6 := Lib.hid hg; clear ho6 hg)
        go_loopw [9] (fun i wr => ∃ (b : Nat), b ≤ m ∧ i = .int .i64 b ∧ w6.grownBy wr none) (fun i _ => m - (intOf i).toNat)
        case atStart => exact ⟨0, Nat.zero_le _, rfl, World.grownBy.refl _ _⟩
        case round =>
          obtain ⟨b, hb, rfl, hg⟩ := hrel
          have G7 := Lib.hid hg
          have S7 := Lib.hid (S5.out.new (G6.out.trans hg))
          have D7 := Lib.hid (rd_new D6.out hg)
          have PH := Lib.hid S7.out.phase
          clear hg
          by_cases hbm : b < m
          · have BM := Lib.hid hbm
            obtain ⟨g7, o7, rfl, q0⟩ := D7.out.at_ hbm
            have l4 : (b : Int) < m := by omega
            have l5 : (0 : Int) ≤ b := by omega
            clear hbm
            generalize τ.x.tk.getD b 0 = z at q0
            by_cases hp : τ.ph < 2
            · have MK := Lib.hid (fun W (hg : w6.grownBy W none) => (show Calls Tryz.prog 22 #[.pointer (some ⟨c.B, 0, none⟩), .int .i64 z] W fun e w' => e = .returned (.bool false) ∧ W.grownBy w' none from by
                have := (S5.out.new (G6.out.trans hg)).marked z
                rw [R5.out.hi.lo (by omega) z, Bool.and_false] at this
                exact this))
              have t1 : decide ((τ.ph : Int) < 2) = true := decide_eq_true (by omega)
              go_wp2_with (first
                | (go_at_call 21; (with_reducible refine PH.out.mono ?_); rintro e w8 ⟨rfl, hw⟩; subst hw)
                | (go_at_call 22; (with_reducible refine (MK.out _ G7.out).mono ?_); rintro e w9 ⟨rfl, hg⟩; have G9 := Lib.hid (G7.out.trans hg); clear hg))
              go_roundw
              case rel => exact ⟨b + 1, BM.out, by go_num, G9.out⟩
              case measure => have := BM.out; first | (simp [intOf]; done) | (simp [intOf]; omega)
            · have t1 : decide ((τ.ph : Int) < 2) = false := decide_eq_false (by omega)
              go_wp2_with (go_at_call 21; (with_reducible refine PH.out.mono ?_); rintro e w8 ⟨rfl, hw⟩; subst hw)
              go_roundw
              case rel => exact ⟨b + 1, BM.out, by go_num, G7.out⟩
              case measure => have := BM.out; first | (simp [intOf]; done) | (simp [intOf]; omega)
          · obtain rfl : b = m := by omega
            have RC := Lib.hid (RE.out _ (G6.out.trans G7.out))
            clear PH D7
            go_wp2_with (go_at_call 16; (with_reducible refine RC.out.mono ?_); rintro e w8 ⟨A8, d8, rfl, ho8, hg⟩; have D8 := Lib.hid (bm.rd_own ho8); have G8 := Lib.hid ((G6.out.trans G7.out).trans hg); clear ho8 hg)
            go_loopw [12] (fun i wr => ∃ (b : Nat), b ≤ mr ∧ i = .int .i64 b ∧ w8.grownBy wr none) (fun i _ => mr - (intOf i).toNat)
            case atStart => exact ⟨0, Nat.zero_le _, rfl, World.grownBy.refl _ _⟩
            case round =>
              obtain ⟨v, hv, rfl, hg⟩ := hrel
              have G9 := Lib.hid hg
              have S9 := Lib.hid (S5.out.new (G8.out.trans hg))
              have D9 := Lib.hid (rd_new D8.out hg)
              clear hg
              by_cases hvm : v < mr
              · have VM := Lib.hid hvm
                obtain ⟨g9, o9, rfl, q0⟩ := D9.out.at_ hvm
                have hme := bm.getD_mem (xs := xs) (k := v) (by rw [XM.out.1]; exact hvm) 0
                have l4 : (v : Int) < mr := by omega
                have l5 : (0 : Int) ≤ v := by omega
                clear hvm
                generalize xs.getD v 0 = z at q0 hme
                have hr := (XM.out.2 z).1 hme
                have hz := R5.out.hi.rg (hr.good R5.out.hi).1
                have z0 : 0 ≤ z := hz.1
                have z1 : z < 2048 := hz.2.1
                have zw : IntKind.i64.wrap (z.tdiv 32) = z / 32 := by rw [IntKind.wrap_i64, Int.tdiv_eq_ediv_of_nonneg z0]; omega
                have PHQ := Lib.hid (fun W (hg : w8.grownBy W none) => same_symm (S5.out.new (G8.out.trans hg)).phase)
                have ATQ := Lib.hid (fun W (hg : w8.grownBy W none) => same_symm (S5.out.new (G8.out.trans hg)).at_)
                have MKQ := Lib.hid (fun W (hg : w8.grownBy W none) => (S5.out.new (G8.out.trans hg)).marked z)
                by_cases h5 : τ.ph = 5
                · have t1 : ((τ.ph : Int) == 5) = true := by simp; omega
                  by_cases hq : (τ.q : Int) ≤ z / 32
                  · have t2 : decide ((τ.q : Int) ≤ z / 32) = true := decide_eq_true hq
                    have MKT := Lib.hid (fun W (hg : w8.grownBy W none) => (show Calls Tryz.prog 22 #[.pointer (some ⟨c.B, 0, none⟩), .int .i64 z] W fun e w' => e = .returned (.bool true) ∧ W.grownBy w' none from by
                      have := MKQ.out W hg
                      rw [decide_eq_true (hr.good R5.out.hi).1, hr.mark R5.out.hi h5 hq] at this
                      exact this))
                    have KQ := Lib.hid (fun W (hg : wr.grownBy W none) => show W.cell? ⟨g9, o9 + v, none⟩ = some (.int .i64 z) from hg.cell q0 (fun h => by cases h))
                    clear hr hz hme h5 hq MKQ
                    go_wp2
                    go_region_held3 (fun W => W.cell? ⟨g9, o9 + v, none⟩ = some (.int .i64 z)) (first | with_reducible exact q0 | with_reducible exact H10.out | go_keep) (first
                      | (go_at_call 21; (with_reducible refine (PHQ.out _ (G9.out.trans (by first | exact World.grownBy.refl _ _ | exact li.grown_drewN _ _ _ | exact gr.grown_drew _ _))).mono ?_); rintro e w10 ⟨rfl, rfl⟩)
                      | (go_at_call 23; (with_reducible refine (ATQ.out _ (G9.out.trans (by first | exact World.grownBy.refl _ _ | exact li.grown_drewN _ _ _ | exact gr.grown_drew _ _))).mono ?_); rintro e w10 ⟨rfl, rfl⟩)
                      | (go_at_call 22; (with_reducible refine (MKT.out _ (G9.out.trans (by first | exact World.grownBy.refl _ _ | exact li.grown_drewN _ _ _ | exact gr.grown_drew _ _))).mono ?_); rintro e w10 ⟨rfl, hg⟩; have G10 := Lib.hid (World.grownBy.trans (G9.out.trans (by first | exact World.grownBy.refl _ _ | exact li.grown_drewN _ _ _ | exact gr.grown_drew _ _)) hg); have H10 := Lib.hid (KQ.out _ (World.grownBy.trans (by first | exact World.grownBy.refl _ _ | exact li.grown_drewN _ _ _ | exact gr.grown_drew _ _) hg)); clear hg))
                    go_wp2
                    go_roundw
                    case rel => exact ⟨v + 1, VM.out, by go_num, G10.out.trans (by first | exact World.grownBy.refl _ _ | exact li.grown_drewN _ _ _ | exact gr.grown_drew _ _)⟩
                    case measure => have := VM.out; first | (simp [intOf]; done) | (simp [intOf]; omega)
                  · have t2 : decide ((τ.q : Int) ≤ z / 32) = false := decide_eq_false hq
                    clear MKQ
                    clear hr hz hme h5 hq
                    go_wp2
                    go_quiet (first | (go_at_call 21; refine Calls.quiet_of_same (PHQ.out _ (G9.out.trans (by first | exact World.grownBy.refl _ _ | exact li.grown_drewN _ _ _ | exact gr.grown_drew _ _)))) | (go_at_call 23; refine Calls.quiet_of_same (ATQ.out _ (G9.out.trans (by first | exact World.grownBy.refl _ _ | exact li.grown_drewN _ _ _ | exact gr.grown_drew _ _)))))
                    go_wp2
                    go_roundw
                    case rel => exact ⟨v + 1, VM.out, by go_num, G9.out.trans (by first | exact World.grownBy.refl _ _ | exact li.grown_drewN _ _ _ | exact gr.grown_drew _ _)⟩
                    case measure => have := VM.out; first | (simp [intOf]; done) | (simp [intOf]; omega)
                · have t1 : ((τ.ph : Int) == 5) = false := by simp; omega
                  clear MKQ ATQ
                  clear hr hz hme h5
                  go_wp2
                  go_quiet (first | (go_at_call 21; refine Calls.quiet_of_same (PHQ.out _ (G9.out.trans (by first | exact World.grownBy.refl _ _ | exact li.grown_drewN _ _ _ | exact gr.grown_drew _ _)))))
                  go_wp2
                  go_roundw
                  case rel => exact ⟨v + 1, VM.out, by go_num, G9.out.trans (by first | exact World.grownBy.refl _ _ | exact li.grown_drewN _ _ _ | exact gr.grown_drew _ _)⟩
                  case measure => have := VM.out; first | (simp [intOf]; done) | (simp [intOf]; omega)
              · obtain rfl : v = mr := by omega
                go_wp2
                go_roundw
                case rel => exact ⟨j + 1, τ, by omega, by go_num, R5.out, S9.out⟩
                case measure => first | (simp [intOf]; done) | (simp [intOf]; omega)
      · obtain rfl : j = l2 := by omega
        go_wp2
        go_ret
        exact ⟨rfl, S1.out.gr⟩
  · have CK := Lib.hid (fun W (hg : w.grownBy W none) => cf.Check_no (n := cf.wrongN [a0, a1, a2, a3, a4, a5, a6, a7, a8, a9]) _ _ _ _ _ _ _ _ _ _ _ (by simpa using hw) (hC.below (li.grown_below hg)) rfl)
    clear ho hc hc2 hB hC hw
    go_enter Tryz.func5, Tryz.ntmps5
    go_wp2_with (first
      | (go_at_call 9; (with_reducible refine (AL.out _ BX.out).mono ?_); rintro e w1 ⟨rfl, hg⟩; have G1 := Lib.hid hg; obtain ⟨z0, z1, z2, z3, z4, z5, z6, z7, z8, z9⟩ := TEN.out _ hg; clear hg)
      | (go_at_call 11; (with_reducible refine (CK.out _ (BX.out.trans G1.out)).mono ?_); rintro e w2 ⟨rfl, hb⟩; have G2 := Lib.hid (G1.out.trans (ro.grown_of hb)); clear hb))
    go_ret
    exact ⟨rfl, BX.out.trans G2.out⟩
end Go.Proofs.YtkgdcgmbapchcaaGreatDoor.cy
