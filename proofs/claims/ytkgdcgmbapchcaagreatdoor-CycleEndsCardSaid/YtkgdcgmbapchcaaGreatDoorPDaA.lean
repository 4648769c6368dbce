/- Texts that this claim stands on. -/
import Derived.Test.YtkgdcgmbapchcaaGreatDoorPCzY
import Derived.Test.YtkgdcgmbapchcaaGreatDoorPCzV
namespace Go.Proofs.YtkgdcgmbapchcaaGreatDoor.cy
open Go.ChangeShapes Go.WideShapes Go.ChangeAt Go.RowKit gen calls cls geos ce st sh
set_option linter.unusedVariables false
set_option maxHeartbeats 16000000
set_option maxRecDepth 100000
section
variable {w0 W W' w w1 w' : World} {k : Kn} {c : Cb} {L0 K0 L K M : List Nat} {σ τ : Cy} {kd t n i j v1 v2 : Int}
theorem poll_at {t : Nat} (X : Cx w0 k c L0 K0 σ W) (hi : Inv k σ) (st : Stl σ) (hk : Kok k) (bd : Bd σ) : Calls Tryz.prog 27 #[.pointer (some ⟨c.B, 0, none⟩), .int .i64 t] W fun e w' => (∃ b, e = .returned (.bool b)) ∧ Cx w0 k c L0 K0 (σ.pl k t) w' := by
  unfold Cy.pl
  by_cases hn : ep.of σ.th t < 0 ∨ ep.of σ.th t = (σ.e : Int)
  · rw [if_neg (fun e => hn.elim (fun h => by have := of_decide_eq_true (show decide (0 ≤ ep.of σ.th t) = true from e.1); omega) e.2)]
    exact (X.tell fun L K h => Poll_no h hn).mono fun e w' ⟨h1, h2⟩ => ⟨⟨_, h1⟩, h2⟩
  · have hl : σ.lv t = true := by unfold Cy.lv ep.lv; exact decide_eq_true (by omega)
    have hb : ep.of σ.th t ≠ σ.e := by omega
    rw [if_pos ⟨hl, hb⟩]
    have ht := lv_lt hi hl
    have := of_le hi.thr t
    exact (X.call fun L K h => Poll_yes h hi hk ht (by omega) (by omega) bd.e).mono fun e w' ⟨h1, h2⟩ => ⟨⟨_, h1⟩, h2⟩
theorem Cs.poll (h : Cs w k c σ W) (t : Nat) (hi : Inv k σ) (st : Stl σ) (hk : Kok k) (bd : Bd σ) : Calls Tryz.prog 27 #[.pointer (some ⟨c.B, 0, none⟩), .int .i64 t] W fun e w' => (∃ b, e = .returned (.bool b)) ∧ Cs w k c (σ.pl k t) w' := by
  obtain ⟨L, K, H, T, g, f⟩ := h
  exact (poll_at (Cx.start H) hi st hk bd).mono fun e w' ⟨h1, h2⟩ => ⟨h1, .step T g f h2⟩
theorem Cs.unit (h : Cs w k c σ W) (hi : Inv k σ) (hk : Kok k) (bd : Bd σ) : Calls Tryz.prog 28 #[.pointer (some ⟨c.B, 0, none⟩)] W fun e w' => e = .returned (.bool σ.unb) ∧ Cs w k c (σ.unit k) w' := by
  obtain ⟨L, K, H, T, g, f⟩ := h
  exact (Unit_any H T hi hk bd).mono fun e w' ⟨h1, h2⟩ => ⟨h1, .step T g f h2⟩
theorem Ns.bd {i t u : Nat} (h : Ns i t u σ) (hi : i ≤ 6) (ht : t ≤ 8) (hu : u ≤ 2000) : Bd σ := ⟨by have := h.e; omega, by have := h.un; omega, by have := h.cy; omega⟩
theorem Ru.ns {j : Nat} (h : Ru k j σ) (hj : j ≤ 60) : Ns 0 0 0 σ := ⟨by have := h.bn.e; omega, by have := h.bn.un; omega, by have := h.bn.cy; omega, by have := h.bn.cnt; omega⟩
theorem ten_set {a0 a1 a2 a3 a4 a5 a6 a7 a8 a9 : Int} (hg : (w.alloc (.cells #[.int .i64 a0, .int .i64 a1, .int .i64 a2, .int .i64 a3, .int .i64 a4, .int .i64 a5, .int .i64 a6, .int .i64 a7, .int .i64 a8, .int .i64 a9] 23)).grownBy w1 none) (z : Int) : ∀ W, (w1.setCell ⟨w.heap.size, 0, none⟩ (.int .i64 z)).grownBy W none → cf.Ten W w.heap.size z a1 a2 a3 a4 a5 a6 a7 a8 a9 := fun W hW => by
  have e1 := (Gr.new (L := []) hg).heap (heap_alloc_new w (.cells #[.int .i64 a0, .int .i64 a1, .int .i64 a2, .int .i64 a3, .int .i64 a4, .int .i64 a5, .int .i64 a6, .int .i64 a7, .int .i64 a8, .int .i64 a9] 23)) (by simp)
  have e2 := heap_setCell_same w1 w.heap.size 0 _ _ (.int .i64 z) e1
  have e3 := (Gr.new (L := []) hW).heap e2 (by simp)
  have k := fun i => cell_of_row W w.heap.size i _ _ _ e3
  exact ⟨by rw [k]; rfl, by rw [k]; rfl, by rw [k]; rfl, by rw [k]; rfl, by rw [k]; rfl, by rw [k]; rfl, by rw [k]; rfl, by rw [k]; rfl, by rw [k]; rfl, by rw [k]; rfl⟩
theorem ten_free {a0 a1 a2 a3 a4 a5 a6 a7 a8 a9 : Int} (hg : (w.alloc (.cells #[.int .i64 a0, .int .i64 a1, .int .i64 a2, .int .i64 a3, .int .i64 a4, .int .i64 a5, .int .i64 a6, .int .i64 a7, .int .i64 a8, .int .i64 a9] 23)).grownBy w1 none) : w1.frozen? ⟨w.heap.size, 0, none⟩ = false :=
  frozen_of_row w1 w.heap.size 0 _ _ ((Gr.new (L := []) hg).heap (heap_alloc_new w (.cells #[.int .i64 a0, .int .i64 a1, .int .i64 a2, .int .i64 a3, .int .i64 a4, .int .i64 a5, .int .i64 a6, .int .i64 a7, .int .i64 a8, .int .i64 a9] 23)) (by simp))
theorem near26 (n : Int) : ∃ N : Nat, bm.near n 2 6 = N ∧ 2 ≤ N ∧ N ≤ 6 := by
  refine ⟨(bm.near n 2 6).toNat, ?_, ?_, ?_⟩ <;> (unfold bm.near; repeat' split) <;> omega
theorem sq26 {N : Nat} (h : 2 ≤ N ∧ N ≤ 6) : ∃ Q : Nat, IntKind.i64.wrap (17 * (N : Int) * (N : Int)) = (Q : Int) ∧ Q ≤ 612 ∧ 32 * N + 16 * (N * N) + N ≤ 32 * N + Q := by
  have : N = 2 ∨ N = 3 ∨ N = 4 ∨ N = 5 ∨ N = 6 := by omega
  rcases this with rfl | rfl | rfl | rfl | rfl
  · exact ⟨68, by decide, by decide, by decide⟩
  · exact ⟨153, by decide, by decide, by decide⟩
  · exact ⟨272, by decide, by decide, by decide⟩
  · exact ⟨425, by decide, by decide, by decide⟩
  · exact ⟨612, by decide, by decide, by decide⟩
end
theorem CycleEnds_any (a0 a1 a2 a3 a4 a5 a6 a7 a8 a9 : Int) (D : Option Addr) (l c2 : Nat) (fo : Nat → Nat → Int) (w : World) (hc : l ≤ c2) (hc2 : c2 ≤ maxLen) (ho : Rws w w.heap.size D l 7 fo) (hB : bm.Tab w) (hC : cf.Table w) :
    Calls Tryz.prog 7 #[.agg #[.int .i64 a0, .int .i64 a1, .int .i64 a2, .int .i64 a3, .int .i64 a4, .int .i64 a5, .int .i64 a6, .int .i64 a7, .int .i64 a8, .int .i64 a9], .slice D l c2] w fun e w' => e = .returned (.bool true) ∧ w.grownBy w' none := by
  obtain ⟨N, hN, hN1⟩ := near26 a0
  have TEN := Lib.hid (ten_at w a0 a1 a2 a3 a4 a5 a6 a7 a8 a9)
  have BX := Lib.hid (World.grownBy_alloc w (.cells #[.int .i64 a0, .int .i64 a1, .int .i64 a2, .int .i64 a3, .int .i64 a4, .int .i64 a5, .int .i64 a6, .int .i64 a7, .int .i64 a8, .int .i64 a9] 23) none)
  have AL := Lib.hid (fun W (hg : w.grownBy W none) => alive_any (hC.below (li.grown_below hg)) (hB.kept hg (by simp)))
  have FW := Lib.hid (fun w => few_any D l c2 w hc hc2 ho.some)
  have HO := Lib.hid ho
  have NR := Lib.hid (fun W => bm.Near_any a0 2 6 W)
  rw [hN] at NR
  have T2 := Lib.hid (And.intro hB hC)
  have N1 := Lib.hid hN1
  clear ho hc hc2 hB hC hN hN1
  go_enter Tryz.func7, Tryz.ntmps7
  go_upto_region 4 with (first
    | (go_at_call 9; (with_reducible refine (AL.out _ BX.out).mono ?_); rintro e w1 ⟨rfl, hg⟩; have G1 := Lib.hid hg; obtain ⟨z0, z1, z2, z3, z4, z5, z6, z7, z8, z9⟩ := TEN.out _ hg; have zf := ten_free hg; clear hg)
    | (go_at_call 26; (with_reducible refine (NR.out _).mono ?_); rintro e w2 ⟨rfl, hw⟩; subst hw))
  have TS := Lib.hid (ten_set G1.out (N : Int))
  have GS := Lib.hid (show w.grownBy (w1.setCell ⟨w.heap.size, 0, none⟩ (.int .i64 (N : Int))) none from li.grown_new (BX.out.trans G1.out) (ro.grown_set _ _ _ _) (Nat.le_refl _))
  clear z0 z1 z2 z3 z4 z5 z6 z7 z8 z9 zf TEN
  obtain ⟨w2, hw2⟩ : ∃ w2, w1.setCell ⟨w.heap.size, 0, none⟩ (.int .i64 (N : Int)) = w2 := ⟨_, rfl⟩
  have TS := Lib.hid (show ∀ W, w2.grownBy W none → cf.Ten W w.heap.size (N : Int) a1 a2 a3 a4 a5 a6 a7 a8 a9 from by rw [← hw2]; exact TS.out)
  have GS := Lib.hid (show w.grownBy w2 none from by rw [← hw2]; exact GS.out)
  rw [hw2]
  clear hw2
  obtain ⟨z0, z1, z2, z3, z4, z5, z6, z7, z8, z9⟩ := TS.out _ (World.grownBy.refl _ _)
  by_cases hw : cf.wrongN [(N : Int), a1, a2, a3, a4, a5, a6, a7, a8, a9] = 0
  · obtain ⟨k, σ, R0, hk0, -, PH0, NW⟩ := new_cs hw
    have hNk : N = k.N := by omega
    have CK := Lib.hid (cf.Check_yes _ _ _ _ _ _ _ _ _ _ _ (T2.out.2.below (li.grown_below GS.out)) hw)
    have NW := Lib.hid (fun W (hg : w2.grownBy W none) => NW W W (T2.out.2.below (li.grown_below (GS.out.trans hg))) (T2.out.1.kept (GS.out.trans hg) (by simp)) (World.grownBy.refl _ _))
    have R0 := Lib.hid R0
    have NK := Lib.hid hNk
    obtain ⟨Q, hQ, hQ1, hQ2⟩ := sq26 N1.out
    have HQ2 := Lib.hid hQ2
    clear hw hk0 hNk PH0 hQ2
    go_wp2_with (first
      | (go_at_call 11; (with_reducible refine CK.out.mono ?_); rintro e w3 ⟨rfl, hb⟩; have G3 := Lib.hid (ro.grown_of hb); clear z0 z1 z2 z3 z4 z5 z6 z7 z8 z9; obtain ⟨z0, z1, z2, z3, z4, z5, z6, z7, z8, z9⟩ := TS.out _ G3.out; clear hb)
      | (go_at_call 10; (with_reducible refine (NW.out _ G3.out).mono ?_); rintro e w4 ⟨c, rfl, hs⟩; have S4 := Lib.hid hs; clear z0 z1 z2 z3 z4 z5 z6 z7 z8 z9 hs)
      | (go_at_call 13; (with_reducible refine (FW.out _).mono ?_); rintro e w5 ⟨⟨l2, c4, l60, hl2, rfl⟩, hw⟩; subst hw))
    have G3' := Lib.hid (GS.out.trans G3.out)
    go_loopw [7] (fun i wr => ∃ (j : Nat) (σ : Cy), j ≤ l2 ∧ i = .int .i64 j ∧ Ru k j σ ∧ Cs w3 k c σ wr) (fun i _ => l2 - (intOf i).toNat)
    case atStart => exact ⟨0, σ, Nat.zero_le _, rfl, R0.out, S4.out⟩
    case round =>
      clear S4 R0
      obtain ⟨j, σ, hj, rfl, hR, hS⟩ := hrel
      have R1 := Lib.hid hR
      have S1 := Lib.hid hS
      clear hR hS
      by_cases hlt : j < l2
      · obtain ⟨q, off, rfl, ROW⟩ := row_at (HO.out.less hl2) hlt
        obtain ⟨p0, p1, p2, p3, p4, p5, p6⟩ := ROW _ (G3'.out.trans S1.out.gr)
        have DO := Lib.hid (S1.out.do_ (R1.out.al (by omega)) (fo j 0) (fo j 1) (fo j 2) (fo j 3) (fo j 4) (fo j 5) (fo j 6))
        clear ROW
        generalize fo j 0 = x0 at *
        generalize fo j 1 = x1 at *
        generalize fo j 2 = x2 at *
        generalize fo j 3 = x3 at *
        generalize fo j 4 = x4 at *
        generalize fo j 5 = x5 at *
        generalize fo j 6 = x6 at *
        have l1 : (0 : Int) ≤ (j : Int) := by omega
        have l3 : (j : Int) < l2 := by omega
        go_wp2_with (go_at_call 18; (with_reducible refine DO.out.mono ?_); rintro e w5 ⟨rfl, τ, hd, hs⟩; have R5 := Lib.hid (R1.out.did (by omega) hd); have S5 := Lib.hid hs; clear hd hs)
        go_roundw
        case rel => exact ⟨j + 1, τ, by omega, by go_num, R5.out, S5.out⟩
        case measure => first | (simp [intOf]; done) | (simp [intOf]; omega)
      · obtain rfl : j = l2 := by omega
        go_wp2
        have ST := Lib.hid (show Inv k σ ∧ Stl σ ∧ Kok k ∧ Ns 0 0 0 σ ∧ σ.pot k ≤ 32 * N + Q from ⟨R1.out.hi, R1.out.st, R1.out.hk, R1.out.ns l60, by have h1 := R1.out.hi.pot_le R1.out.hk; have h2 := HQ2.out; have h3 := NK.out; subst h3; omega⟩)
        have KK := Lib.hid R1.out.hk
        have TSW := Lib.hid (fun W σ (h : Cs w3 k c σ W) => (TS.out _ (G3.out.trans h.gr)).1)
        have N2 := N1.out
        go_loopw [8, 9] (fun vu vr wr => ∃ (i u : Nat) (σ : Cy), i ≤ 6 ∧ vr = .int .i64 i ∧ vu = .int .i64 u ∧ Inv k σ ∧ Stl σ ∧ Qr σ (6 - i) ∧ u + σ.pot k ≤ 32 * N + Q ∧ Ns i 0 u σ ∧ Cs w3 k c σ wr) (fun _ vr _ => 6 - (intOf vr).toNat)
        case atStart => exact ⟨0, 0, σ, Nat.zero_le _, rfl, rfl, ST.out.1, ST.out.2.1, (show Qr σ 6 from True.intro), by rw [Nat.zero_add]; exact ST.out.2.2.2.2, ST.out.2.2.2.1, S1.out⟩
        case round =>
          clear ST S1 R1 FW AL NW CK NR
          obtain ⟨i, u, σ, hi, rfl, rfl, hI, hSt, hQr, hP, hN, hS⟩ := hrel
          have S2 := Lib.hid hS
          have I2 := Lib.hid hI
          have T2 := Lib.hid hSt
          have Q2 := Lib.hid hQr
          have P2 := Lib.hid hP
          have M2 := Lib.hid hN
          have PHC := Lib.hid hS.phase
          clear hS hI hSt hQr hP hN
          by_cases hz : σ.ph = 0
          · have t1 : ((σ.ph : Int) != 0) = false := by simp; omega
            have t2 : ((σ.ph : Int) == 0) = true := by simp; omega
            by_cases h6 : i < 6
            · have l4 : (i : Int) < 6 := by omega
              go_wp2_with (go_at_call 21; (with_reducible refine PHC.out.mono ?_); rintro e w6 ⟨rfl, hw⟩; subst hw)
              go_ret
              exact ⟨rfl, G3'.out.trans S2.out.gr⟩
            · obtain rfl : i = 6 := by omega
              go_wp2_with (go_at_call 21; (with_reducible refine PHC.out.mono ?_); rintro e w6 ⟨rfl, hw⟩; subst hw)
              go_ret
              exact ⟨rfl, G3'.out.trans S2.out.gr⟩
          · have h6 : i < 6 := by
              refine Nat.lt_of_not_le fun h => hz ?_
              obtain rfl : i = 6 := by omega
              exact Q2.out
            have t1 : ((σ.ph : Int) != 0) = true := by simp; omega
            have l4 : (i : Int) < 6 := by omega
            obtain ⟨r, hr⟩ : ∃ r, 6 - i = r + 1 := ⟨5 - i, by omega⟩
            have Q3 := Lib.hid (show Mq σ r 0 from Qr.start I2.out r (by have := Q2.out; rwa [hr] at this))
            have HR := Lib.hid hr
            clear hz hr
            go_wp2_with (go_at_call 21; (with_reducible refine PHC.out.mono ?_); rintro e w6 ⟨rfl, hw⟩; subst hw)
            go_loopw [10] (fun vt wr => ∃ (t : Nat) (σ : Cy), t ≤ 8 ∧ vt = .int .i64 t ∧ Inv k σ ∧ Stl σ ∧ Mq σ r t ∧ u + σ.pot k ≤ 32 * N + Q ∧ Ns i t u σ ∧ Cs w3 k c σ wr) (fun vt _ => 8 - (intOf vt).toNat)
            case atStart => exact ⟨0, σ, Nat.zero_le _, rfl, I2.out, T2.out, Q3.out, P2.out, M2.out, S2.out⟩
            case round =>
              clear S2 I2 T2 Q2 P2 M2 PHC Q3
              obtain ⟨t, σ, ht, rfl, hI, hSt, hM, hP, hN, hS⟩ := hrel
              have u8 : u ≤ 1000 := by omega
              have S2 := Lib.hid hS
              have I2 := Lib.hid hI
              have T2 := Lib.hid hSt
              have Q2 := Lib.hid hM
              have P2 := Lib.hid hP
              have M2 := Lib.hid hN
              clear hS hI hSt hM hP hN
              by_cases h8 : t < 8
              · have l5 : (t : Int) < 8 := by omega
                have PC := Lib.hid (S2.out.poll t I2.out T2.out KK.out (M2.out.bd (by omega) (by omega) (by omega)))
                have IP := Lib.hid (pl_inv I2.out T2.out KK.out t)
                have QP := Lib.hid (Mq.pl I2.out T2.out KK.out Q2.out)
                have PP := Lib.hid (pl_pot I2.out KK.out t)
                have MP := Lib.hid (M2.out.pl (k := k) t)
                go_wp2_with (go_at_call 27; (with_reducible refine PC.out.mono ?_); rintro e w7 ⟨⟨b, rfl⟩, hs⟩; have S7 := Lib.hid hs; clear hs)
                go_roundw
                case rel => exact ⟨t + 1, σ.pl k t, h8, by go_num, IP.out.1, IP.out.2, QP.out, by have := PP.out; have := P2.out; omega, MP.out, S7.out⟩
                case measure => first | (simp [intOf]; done) | (simp [intOf]; omega)
              · have e8 : t = 8 := by omega
                have l9 : ¬ (t : Int) < 8 := by omega
                have QF := Lib.hid (Mq.fin I2.out T2.out KK.out (by have := Q2.out; rwa [e8] at this))
                have M8 := Lib.hid (show Ns i 8 u σ from by have := M2.out; rwa [e8] at this)
                clear e8 h8 ht
                go_wp2
                go_loopw [8] (fun vu wr => ∃ (u : Nat) (σ : Cy), vu = .int .i64 u ∧ Inv k σ ∧ Stl σ ∧ Pq σ r ∧ u + σ.pot k ≤ 32 * N + Q ∧ Ns i 8 u σ ∧ Cs w3 k c σ wr) (fun vu _ => 32 * N + Q - (intOf vu).toNat)
                case atStart => exact ⟨u, σ, rfl, I2.out, T2.out, QF.out, P2.out, M8.out, S2.out⟩
                case round =>
                  clear S2 I2 T2 Q2 P2 M2 QF
                  obtain ⟨u, σ, rfl, hI, hSt, hM, hP, hN, hS⟩ := hrel
                  have u8 : u ≤ 1000 := by omega
                  have z0 := TSW.out _ _ hS
                  have UC := Lib.hid (hS.unit hI KK.out (hN.bd (by omega) (by omega) (by omega)))
                  have IU := Lib.hid (hI.unit KK.out hSt)
                  cases hu : σ.unb with
                  | true =>
                    rw [hu] at UC
                    have hp := unit_pot hI KK.out hu
                    have PU := Lib.hid (show u + 1 + (σ.unit k).pot k ≤ 32 * N + Q by omega)
                    have QU := Lib.hid (Pq.unit (k := k) hu r hM)
                    have MU := Lib.hid (hN.unit hI hu)
                    have l6 : ¬ (32 * (N : Int) + (Q : Int) < (u : Int) + 1) := by omega
                    have l7 : u + 1 ≤ 32 * N + Q := by omega
                    have L7 := Lib.hid l7
                    clear hS hI hSt hM hP hN hu hp
                    go_wp2_with (go_at_call 28; (with_reducible refine UC.out.mono ?_); rintro e w8 ⟨rfl, hs⟩; have S8 := Lib.hid hs; clear z0; have z0 := TSW.out _ _ hs; clear hs)
                    go_roundw
                    case rel => exact ⟨u + 1, σ.unit k, by go_num, IU.out.1, IU.out.2, QU.out, PU.out, MU.out, S8.out⟩
                    case measure => have := L7.out; first | (simp [intOf]; done) | (simp [intOf]; omega)
                  | false =>
                    rw [hu] at UC
                    have hp := unit_pot' hI KK.out hu
                    have PU := Lib.hid (show u + (σ.unit k).pot k ≤ 32 * N + Q by omega)
                    have QU := Lib.hid (show Qr (σ.unit k) (6 - (i + 1)) from by rw [show 6 - (i + 1) = r by have := HR.out; omega]; exact Pq.over hI hSt hu r hM)
                    have MU := Lib.hid (hN.over (k := k) hu)
                    clear hS hI hSt hM hP hN hu hp
                    go_wp2_with (go_at_call 28; (with_reducible refine UC.out.mono ?_); rintro e w8 ⟨rfl, hs⟩; have S8 := Lib.hid hs; clear hs)
                    go_roundw
                    case rel => exact ⟨i + 1, u, σ.unit k, h6, by go_num, rfl, IU.out.1, IU.out.2, QU.out, PU.out, MU.out, S8.out⟩
                    case measure => first | (simp [intOf]; done) | (simp [intOf]; omega)
  · have CK := Lib.hid (cf.Check_no (n := cf.wrongN [(N : Int), a1, a2, a3, a4, a5, a6, a7, a8, a9]) _ _ _ _ _ _ _ _ _ _ _ (by simpa using hw) (T2.out.2.below (li.grown_below GS.out)) rfl)
    clear hw
    go_wp2_with (go_at_call 11; (with_reducible refine CK.out.mono ?_); rintro e w3 ⟨rfl, hb⟩; have G3 := Lib.hid (ro.grown_of hb); clear hb)
    go_ret
    exact ⟨rfl, GS.out.trans G3.out⟩
end Go.Proofs.YtkgdcgmbapchcaaGreatDoor.cy
