/- Texts that this claim stands on. -/
import Derived.Test.YtkgdcgmbapchcaaGreatDoorPCzX
namespace Go.Proofs.YtkgdcgmbapchcaaGreatDoor.cy
open Go.ChangeShapes Go.WideShapes Go.ChangeAt Go.RowKit gen calls cls geos ce st sh
set_option linter.unusedVariables false
set_option maxHeartbeats 16000000
set_option maxRecDepth 100000
section
variable {w0 W W' w w1 w' : World} {k : Kn} {c : Cb} {L0 K0 L K M : List Nat} {σ τ : Cy} {kd t n i j v1 v2 : Int}
theorem Cs.do_keep (h : Cs w k c σ W) (A : Al k σ) (kd t n i j v1 v2 : Int) {W4 : World} (hg : W.grownBy W4 none) : Calls Tryz.prog 18 #[.pointer (some ⟨c.B, 0, none⟩), .agg #[.int .i64 kd, .int .i64 t, .int .i64 n, .int .i64 i, .int .i64 j, .int .i64 v1, .int .i64 v2]] W4 fun e w' => e = .returned (.tuple #[]) ∧ ∃ τ, Did k σ kd τ ∧ Cs w k c τ w' ∧ ∀ {t : TypeId} {s m : Nat} {v : Value} {xs : List Value}, W4.ownsRow W.heap.size t s v m xs → w'.ownsRow W.heap.size t s v m xs := by
  obtain ⟨L, K, H, T, g, f⟩ := h
  exact (do_any (H.new hg) (T.new hg) A).mono fun e w' ⟨e1, τ, d, x⟩ => ⟨e1, τ, d, .step (T.new hg) (g.trans hg) f x, fun ho => gr.own_gr_any ho x.gro fun q hq hm => by
    have h1 := own_base ho q hq
    have h2 := H.lt q hm
    omega⟩
theorem row_at {D : Option Addr} {l j : Nat} {fo : Nat → Nat → Int} (ho : Rws w w.heap.size D l 7 fo) (hj : j < l) : ∃ q off, D = some ⟨q, off, none⟩ ∧ ∀ W, w.grownBy W none → W.cell? ⟨q, off + j * 7, none⟩ = some (.int .i64 (fo j 0)) ∧ W.cell? ⟨q, off + j * 7 + 1, none⟩ = some (.int .i64 (fo j 1)) ∧ W.cell? ⟨q, off + j * 7 + 2, none⟩ = some (.int .i64 (fo j 2)) ∧ W.cell? ⟨q, off + j * 7 + 3, none⟩ = some (.int .i64 (fo j 3)) ∧ W.cell? ⟨q, off + j * 7 + 4, none⟩ = some (.int .i64 (fo j 4)) ∧ W.cell? ⟨q, off + j * 7 + 5, none⟩ = some (.int .i64 (fo j 5)) ∧ W.cell? ⟨q, off + j * 7 + 6, none⟩ = some (.int .i64 (fo j 6)) := by
  obtain ⟨q, off, e, _, hc, _⟩ := ho j hj
  refine ⟨q, off, e, fun W hg => ?_⟩
  have k := fun i hi => hg.cell (hc i hi) (fun h => by cases h)
  exact ⟨k 0 (by omega), k 1 (by omega), k 2 (by omega), k 3 (by omega), k 4 (by omega), k 5 (by omega), k 6 (by omega)⟩
theorem drew_gr (h : bm.Drew w w') : w.grownBy w' none := sh.drew_grown h none
def Qt (x : Int) : Prop := x = 1 ∨ x = 2 ∨ x = 4 ∨ x = 5 ∨ 13 < x
theorem ways6 (x : Int) : ((x == 1) = true ∧ Qt x) ∨ ((x == 1) = false ∧ (x == 2) = true ∧ Qt x) ∨ ((x == 1) = false ∧ (x == 2) = false ∧ (x == 4) = true ∧ Qt x) ∨ ((x == 1) = false ∧ (x == 2) = false ∧ (x == 4) = false ∧ (x == 5) = true ∧ Qt x) ∨ ((x == 1) = false ∧ (x == 2) = false ∧ (x == 4) = false ∧ (x == 5) = false ∧ decide (13 < x) = true ∧ Qt x) ∨ ((x == 1) = false ∧ (x == 2) = false ∧ (x == 4) = false ∧ (x == 5) = false ∧ decide (13 < x) = false) := by
  unfold Qt
  simp only [beq_iff_eq, beq_eq_false_iff_ne, decide_eq_true_eq, decide_eq_false_iff_not]
  omega
end
theorem CycleSafe_any (a0 a1 a2 a3 a4 a5 a6 a7 a8 a9 : Int) (D : Option Addr) (l c2 : Nat) (fo : Nat → Nat → Int) (w : World) (hc : l ≤ c2) (hc2 : c2 ≤ maxLen) (ho : Rws w w.heap.size D l 7 fo) (hB : bm.Tab w) (hC : cf.Table w) :
    Calls Tryz.prog 4 #[.agg #[.int .i64 a0, .int .i64 a1, .int .i64 a2, .int .i64 a3, .int .i64 a4, .int .i64 a5, .int .i64 a6, .int .i64 a7, .int .i64 a8, .int .i64 a9], .slice D l c2] w fun e w' => e = .returned (.bool true) ∧ w.grownBy w' none := by
  have TEN := Lib.hid (ten_at w a0 a1 a2 a3 a4 a5 a6 a7 a8 a9)
  have BX := Lib.hid (World.grownBy_alloc w (.cells #[.int .i64 a0, .int .i64 a1, .int .i64 a2, .int .i64 a3, .int .i64 a4, .int .i64 a5, .int .i64 a6, .int .i64 a7, .int .i64 a8, .int .i64 a9] 23) none)
  have AL := Lib.hid (fun W (hg : w.grownBy W none) => alive_any (hC.below (li.grown_below hg)) (hB.kept hg (by simp)))
  have FW := Lib.hid (fun w => few_any D l c2 w hc hc2 ho.some)
  have HO := Lib.hid ho
  by_cases hw : cf.wrongN [a0, a1, a2, a3, a4, a5, a6, a7, a8, a9] = 0
  · obtain ⟨k, σ, R0, -, -, PH0, NW⟩ := new_cs hw
    have CK := Lib.hid (fun W (hg : w.grownBy W none) => cf.Check_yes _ _ _ _ _ _ _ _ _ _ _ (hC.below (li.grown_below hg)) hw)
    have NW := Lib.hid (fun W (hg : w.grownBy W none) => NW w W (hC.below (li.grown_below hg)) hB hg)
    have R0 := Lib.hid R0
    have PH0 := Lib.hid PH0
    clear ho hc hc2 hB hC hw
    go_enter Tryz.func4, Tryz.ntmps4
    go_wp2_with (first
      | (go_at_call 9; (with_reducible refine (AL.out _ BX.out).mono ?_); rintro e w1 ⟨rfl, hg⟩; have G1 := Lib.hid hg; obtain ⟨z0, z1, z2, z3, z4, z5, z6, z7, z8, z9⟩ := TEN.out _ hg; clear hg)
      | (go_at_call 11; (with_reducible refine (CK.out _ (BX.out.trans G1.out)).mono ?_); rintro e w2 ⟨rfl, hb⟩; have G2 := Lib.hid (G1.out.trans (ro.grown_of hb)); clear z0 z1 z2 z3 z4 z5 z6 z7 z8 z9; obtain ⟨z0, z1, z2, z3, z4, z5, z6, z7, z8, z9⟩ := TEN.out _ G2.out; clear hb)
      | (go_at_call 10; (with_reducible refine (NW.out _ (BX.out.trans G2.out)).mono ?_); rintro e w3 ⟨c, rfl, hs⟩; have S3 := Lib.hid hs; clear z0 z1 z2 z3 z4 z5 z6 z7 z8 z9 hs)
      | (go_at_call 13; (with_reducible refine (FW.out _).mono ?_); rintro e w4 ⟨⟨l2, c4, l60, hl2, rfl⟩, hw⟩; subst hw))
    go_loopw [7] (fun i wr => ∃ (j : Nat) (σ : Cy), j ≤ l2 ∧ i = .int .i64 j ∧ Ru k j σ ∧ Cs w k c σ wr) (fun i _ => l2 - (intOf i).toNat)
    case atStart => exact ⟨0, σ, Nat.zero_le _, rfl, R0.out, S3.out⟩
    case round =>
      clear S3 R0
      obtain ⟨j, σ, hj, rfl, hR, hS⟩ := hrel
      have R1 := Lib.hid hR
      have S1 := Lib.hid hS
      clear hR hS
      by_cases hlt : j < l2
      · obtain ⟨q, off, rfl, ROW⟩ := row_at (HO.out.less hl2) hlt
        have ROW := Lib.hid ROW
        have DO := Lib.hid (fun W (hg : wr.grownBy W none) => S1.out.do_keep (R1.out.al (by omega)) (fo j 0) (fo j 1) (fo j 2) (fo j 3) (fo j 4) (fo j 5) (fo j 6) hg)
        obtain ⟨xs, hx1, hx2⟩ := rea_ex R1.out.hi
        obtain ⟨mr, hmr⟩ : ∃ m, xs.length = m := ⟨_, rfl⟩
        obtain ⟨ys, hys⟩ : ∃ ys, bm.rising (xs.map (ser σ.x)) = ys := ⟨_, rfl⟩
        obtain ⟨ny, hny⟩ : ∃ m, ys.length = m := ⟨_, rfl⟩
        have XT := Lib.hid (show ∀ a ∈ xs, a ∈ σ.x.tk from fun a ha => (((hx2 a).1 ha).good R1.out.hi).1)
        have mr8 : mr ≤ 2048 := by rw [← hmr]; exact bf.room 2048 _ (hx1.imp (fun h => by omega)) fun a ha => by have := R1.out.hi.rg (XT.out a ha); omega
        have ny8 : ny ≤ 2048 := by have := bm.rising_length (xs.map (ser σ.x)); rw [hys, hny, List.length_map, hmr] at this; omega
        have RE1 := Lib.hid (S1.out.reached R1.out.hi hx1 hx2 hmr)
        have SE1 := Lib.hid (fun W (hg : wr.grownBy W none) A d (hr : Rd W W.heap.size A mr d xs) => (S1.out.new hg).serials hr mr8 XT.out hys hny)
        have HX := Lib.hid (And.intro hx1 (And.intro hx2 (And.intro hmr (And.intro hys hny))))
        clear hx1 hx2 hmr hys hny
        generalize fo j 0 = x0 at *
        generalize fo j 1 = x1 at *
        generalize fo j 2 = x2 at *
        generalize fo j 3 = x3 at *
        generalize fo j 4 = x4 at *
        generalize fo j 5 = x5 at *
        generalize fo j 6 = x6 at *
        have l1 : (0 : Int) ≤ (j : Int) := by omega
        have l3 : (j : Int) < l2 := by omega
        rcases ways6 x0 with ⟨t1, hq⟩ | ⟨t1, t2, hq⟩ | ⟨t1, t2, t4, hq⟩ | ⟨t1, t2, t4, t5, hq⟩ | ⟨t1, t2, t4, t5, t14, hq⟩ | ⟨t1, t2, t4, t5, t14⟩
        · have HQ := Lib.hid hq
          clear hq
          go_wp2_with (first
            | (have mark := S8; go_at_call 19; (with_reducible refine (bm.Ints_true ys _ _ ny ny _ _ _ _ _ (by omega) rfl (bm.rd_own Q8.out) (bm.rd_own O8.out)).mono ?_); rintro e w9 ⟨rfl, hg⟩; have S9 := Lib.hid (S8.out.new (drew_gr hg)); clear hg)
            | (go_at_call 19; (with_reducible refine (bm.Ints_true xs _ _ mr mr _ _ _ _ _ (by omega) rfl (bm.rd_own Q6.out) (bm.rd_own O6.out)).mono ?_); rintro e w7 ⟨rfl, hg⟩; have S7 := Lib.hid (S6.out.new (drew_gr hg)); have P7 := Lib.hid (own_new P6.out (drew_gr hg)); have O7 := Lib.hid (own_new O6.out (drew_gr hg)); clear hg)
            | (have mark := S7; go_at_call 17; (with_reducible refine (SE2.out _ S7.out _ _ (bm.rd_own O7.out)).mono ?_); rintro e w8 ⟨A8, d8, rfl, ho8, hg8⟩; have O8 := Lib.hid ho8; have Q8 := Lib.hid (own_new P7.out hg8); have S8 := Lib.hid (S7.out.new hg8); clear ho8 hg8)
            | (have mark := S5; go_at_call 16; (with_reducible refine (RE2.out).mono ?_); rintro e w6 ⟨A6, d6, rfl, ho6, hg6⟩; have O6 := Lib.hid ho6; have Q6 := Lib.hid (own_new Q5.out hg6); have P6 := Lib.hid (own_new P5.out hg6); have S6 := Lib.hid (S5.out.new hg6); obtain ⟨p0, p1, p2, p3, p4, p5, p6⟩ := ROW.out _ S6.out.gr; clear ho6 hg6)
            | (go_at_call 16; (with_reducible refine RE1.out.mono ?_); rintro e w3 ⟨A3, d3, rfl, ho3, hg3⟩; have O3 := Lib.hid ho3; have G3 := Lib.hid hg3; clear ho3 hg3)
            | (go_at_call 17; (with_reducible refine (SE1.out _ G3.out _ _ (bm.rd_own O3.out)).mono ?_); rintro e w4 ⟨A4, d4, rfl, ho4, hg4⟩; have O4 := Lib.hid (bm.own_mono ho4 G3.out.size); have P4 := Lib.hid (own_new O3.out hg4); have G4 := Lib.hid (G3.out.trans hg4); obtain ⟨p0, p1, p2, p3, p4, p5, p6⟩ := ROW.out _ (S1.out.gr.trans G4.out); clear ho4 hg4)
            | (go_at_call 18; (with_reducible refine (DO.out _ G4.out).mono ?_); rintro e w5 ⟨rfl, τ, hd, hs, hk⟩; have R5 := Lib.hid (R1.out.did (by omega) hd); have S5 := Lib.hid hs; have SF := Lib.hid (hd.safe R1.out.hi R1.out.hk HQ.out); have RE2 := Lib.hid (S5.out.reached R5.out.hi HX.out.1 (fun a => (HX.out.2.1 a).trans (SF.out.1 a)) HX.out.2.2.1); have SE2 := Lib.hid (fun W (hS : Cs w k c τ W) A d (hr : Rd W W.heap.size A mr d xs) => hS.serials hr mr8 (fun a ha => (((SF.out.1 a).1 ((HX.out.2.1 a).1 ha)).good R5.out.hi).1) (show bm.rising (xs.map (ser τ.x)) = ys from by rw [List.map_congr_left (fun a ha => SF.out.2 a ((HX.out.2.1 a).1 ha))]; exact HX.out.2.2.2.1) HX.out.2.2.2.2); have Q5 := Lib.hid (hk P4.out); have P5 := Lib.hid (hk O4.out); clear hd hs hk p0 p1 p2 p3 p4 p5 p6))
          go_roundw
          case rel => exact ⟨j + 1, τ, by omega, by go_num, R5.out, S9.out⟩
          case measure => first | (simp [intOf]; done) | (simp [intOf]; omega)
        · have HQ := Lib.hid hq
          clear hq
          go_wp2_with (first
            | (have mark := S8; go_at_call 19; (with_reducible refine (bm.Ints_true ys _ _ ny ny _ _ _ _ _ (by omega) rfl (bm.rd_own Q8.out) (bm.rd_own O8.out)).mono ?_); rintro e w9 ⟨rfl, hg⟩; have S9 := Lib.hid (S8.out.new (drew_gr hg)); clear hg)
            | (go_at_call 19; (with_reducible refine (bm.Ints_true xs _ _ mr mr _ _ _ _ _ (by omega) rfl (bm.rd_own Q6.out) (bm.rd_own O6.out)).mono ?_); rintro e w7 ⟨rfl, hg⟩; have S7 := Lib.hid (S6.out.new (drew_gr hg)); have P7 := Lib.hid (own_new P6.out (drew_gr hg)); have O7 := Lib.hid (own_new O6.out (drew_gr hg)); clear hg)
            | (have mark := S7; go_at_call 17; (with_reducible refine (SE2.out _ S7.out _ _ (bm.rd_own O7.out)).mono ?_); rintro e w8 ⟨A8, d8, rfl, ho8, hg8⟩; have O8 := Lib.hid ho8; have Q8 := Lib.hid (own_new P7.out hg8); have S8 := Lib.hid (S7.out.new hg8); clear ho8 hg8)
            | (have mark := S5; go_at_call 16; (with_reducible refine (RE2.out).mono ?_); rintro e w6 ⟨A6, d6, rfl, ho6, hg6⟩; have O6 := Lib.hid ho6; have Q6 := Lib.hid (own_new Q5.out hg6); have P6 := Lib.hid (own_new P5.out hg6); have S6 := Lib.hid (S5.out.new hg6); obtain ⟨p0, p1, p2, p3, p4, p5, p6⟩ := ROW.out _ S6.out.gr; clear ho6 hg6)
            | (go_at_call 16; (with_reducible refine RE1.out.mono ?_); rintro e w3 ⟨A3, d3, rfl, ho3, hg3⟩; have O3 := Lib.hid ho3; have G3 := Lib.hid hg3; clear ho3 hg3)
            | (go_at_call 17; (with_reducible refine (SE1.out _ G3.out _ _ (bm.rd_own O3.out)).mono ?_); rintro e w4 ⟨A4, d4, rfl, ho4, hg4⟩; have O4 := Lib.hid (bm.own_mono ho4 G3.out.size); have P4 := Lib.hid (own_new O3.out hg4); have G4 := Lib.hid (G3.out.trans hg4); obtain ⟨p0, p1, p2, p3, p4, p5, p6⟩ := ROW.out _ (S1.out.gr.trans G4.out); clear ho4 hg4)
            | (go_at_call 18; (with_reducible refine (DO.out _ G4.out).mono ?_); rintro e w5 ⟨rfl, τ, hd, hs, hk⟩; have R5 := Lib.hid (R1.out.did (by omega) hd); have S5 := Lib.hid hs; have SF := Lib.hid (hd.safe R1.out.hi R1.out.hk HQ.out); have RE2 := Lib.hid (S5.out.reached R5.out.hi HX.out.1 (fun a => (HX.out.2.1 a).trans (SF.out.1 a)) HX.out.2.2.1); have SE2 := Lib.hid (fun W (hS : Cs w k c τ W) A d (hr : Rd W W.heap.size A mr d xs) => hS.serials hr mr8 (fun a ha => (((SF.out.1 a).1 ((HX.out.2.1 a).1 ha)).good R5.out.hi).1) (show bm.rising (xs.map (ser τ.x)) = ys from by rw [List.map_congr_left (fun a ha => SF.out.2 a ((HX.out.2.1 a).1 ha))]; exact HX.out.2.2.2.1) HX.out.2.2.2.2); have Q5 := Lib.hid (hk P4.out); have P5 := Lib.hid (hk O4.out); clear hd hs hk p0 p1 p2 p3 p4 p5 p6))
          go_roundw
          case rel => exact ⟨j + 1, τ, by omega, by go_num, R5.out, S9.out⟩
          case measure => first | (simp [intOf]; done) | (simp [intOf]; omega)
        · have HQ := Lib.hid hq
          clear hq
          go_wp2_with (first
            | (have mark := S8; go_at_call 19; (with_reducible refine (bm.Ints_true ys _ _ ny ny _ _ _ _ _ (by omega) rfl (bm.rd_own Q8.out) (bm.rd_own O8.out)).mono ?_); rintro e w9 ⟨rfl, hg⟩; have S9 := Lib.hid (S8.out.new (drew_gr hg)); clear hg)
            | (go_at_call 19; (with_reducible refine (bm.Ints_true xs _ _ mr mr _ _ _ _ _ (by omega) rfl (bm.rd_own Q6.out) (bm.rd_own O6.out)).mono ?_); rintro e w7 ⟨rfl, hg⟩; have S7 := Lib.hid (S6.out.new (drew_gr hg)); have P7 := Lib.hid (own_new P6.out (drew_gr hg)); have O7 := Lib.hid (own_new O6.out (drew_gr hg)); clear hg)
            | (have mark := S7; go_at_call 17; (with_reducible refine (SE2.out _ S7.out _ _ (bm.rd_own O7.out)).mono ?_); rintro e w8 ⟨A8, d8, rfl, ho8, hg8⟩; have O8 := Lib.hid ho8; have Q8 := Lib.hid (own_new P7.out hg8); have S8 := Lib.hid (S7.out.new hg8); clear ho8 hg8)
            | (have mark := S5; go_at_call 16; (with_reducible refine (RE2.out).mono ?_); rintro e w6 ⟨A6, d6, rfl, ho6, hg6⟩; have O6 := Lib.hid ho6; have Q6 := Lib.hid (own_new Q5.out hg6); have P6 := Lib.hid (own_new P5.out hg6); have S6 := Lib.hid (S5.out.new hg6); obtain ⟨p0, p1, p2, p3, p4, p5, p6⟩ := ROW.out _ S6.out.gr; clear ho6 hg6)
            | (go_at_call 16; (with_reducible refine RE1.out.mono ?_); rintro e w3 ⟨A3, d3, rfl, ho3, hg3⟩; have O3 := Lib.hid ho3; have G3 := Lib.hid hg3; clear ho3 hg3)
            | (go_at_call 17; (with_reducible refine (SE1.out _ G3.out _ _ (bm.rd_own O3.out)).mono ?_); rintro e w4 ⟨A4, d4, rfl, ho4, hg4⟩; have O4 := Lib.hid (bm.own_mono ho4 G3.out.size); have P4 := Lib.hid (own_new O3.out hg4); have G4 := Lib.hid (G3.out.trans hg4); obtain ⟨p0, p1, p2, p3, p4, p5, p6⟩ := ROW.out _ (S1.out.gr.trans G4.out); clear ho4 hg4)
            | (go_at_call 18; (with_reducible refine (DO.out _ G4.out).mono ?_); rintro e w5 ⟨rfl, τ, hd, hs, hk⟩; have R5 := Lib.hid (R1.out.did (by omega) hd); have S5 := Lib.hid hs; have SF := Lib.hid (hd.safe R1.out.hi R1.out.hk HQ.out); have RE2 := Lib.hid (S5.out.reached R5.out.hi HX.out.1 (fun a => (HX.out.2.1 a).trans (SF.out.1 a)) HX.out.2.2.1); have SE2 := Lib.hid (fun W (hS : Cs w k c τ W) A d (hr : Rd W W.heap.size A mr d xs) => hS.serials hr mr8 (fun a ha => (((SF.out.1 a).1 ((HX.out.2.1 a).1 ha)).good R5.out.hi).1) (show bm.rising (xs.map (ser τ.x)) = ys from by rw [List.map_congr_left (fun a ha => SF.out.2 a ((HX.out.2.1 a).1 ha))]; exact HX.out.2.2.2.1) HX.out.2.2.2.2); have Q5 := Lib.hid (hk P4.out); have P5 := Lib.hid (hk O4.out); clear hd hs hk p0 p1 p2 p3 p4 p5 p6))
          go_roundw
          case rel => exact ⟨j + 1, τ, by omega, by go_num, R5.out, S9.out⟩
          case measure => first | (simp [intOf]; done) | (simp [intOf]; omega)
        · have HQ := Lib.hid hq
          clear hq
          go_wp2_with (first
            | (have mark := S8; go_at_call 19; (with_reducible refine (bm.Ints_true ys _ _ ny ny _ _ _ _ _ (by omega) rfl (bm.rd_own Q8.out) (bm.rd_own O8.out)).mono ?_); rintro e w9 ⟨rfl, hg⟩; have S9 := Lib.hid (S8.out.new (drew_gr hg)); clear hg)
            | (go_at_call 19; (with_reducible refine (bm.Ints_true xs _ _ mr mr _ _ _ _ _ (by omega) rfl (bm.rd_own Q6.out) (bm.rd_own O6.out)).mono ?_); rintro e w7 ⟨rfl, hg⟩; have S7 := Lib.hid (S6.out.new (drew_gr hg)); have P7 := Lib.hid (own_new P6.out (drew_gr hg)); have O7 := Lib.hid (own_new O6.out (drew_gr hg)); clear hg)
            | (have mark := S7; go_at_call 17; (with_reducible refine (SE2.out _ S7.out _ _ (bm.rd_own O7.out)).mono ?_); rintro e w8 ⟨A8, d8, rfl, ho8, hg8⟩; have O8 := Lib.hid ho8; have Q8 := Lib.hid (own_new P7.out hg8); have S8 := Lib.hid (S7.out.new hg8); clear ho8 hg8)
            | (have mark := S5; go_at_call 16; (with_reducible refine (RE2.out).mono ?_); rintro e w6 ⟨A6, d6, rfl, ho6, hg6⟩; have O6 := Lib.hid ho6; have Q6 := Lib.hid (own_new Q5.out hg6); have P6 := Lib.hid (own_new P5.out hg6); have S6 := Lib.hid (S5.out.new hg6); obtain ⟨p0, p1, p2, p3, p4, p5, p6⟩ := ROW.out _ S6.out.gr; clear ho6 hg6)
            | (go_at_call 16; (with_reducible refine RE1.out.mono ?_); rintro e w3 ⟨A3, d3, rfl, ho3, hg3⟩; have O3 := Lib.hid ho3; have G3 := Lib.hid hg3; clear ho3 hg3)
            | (go_at_call 17; (with_reducible refine (SE1.out _ G3.out _ _ (bm.rd_own O3.out)).mono ?_); rintro e w4 ⟨A4, d4, rfl, ho4, hg4⟩; have O4 := Lib.hid (bm.own_mono ho4 G3.out.size); have P4 := Lib.hid (own_new O3.out hg4); have G4 := Lib.hid (G3.out.trans hg4); obtain ⟨p0, p1, p2, p3, p4, p5, p6⟩ := ROW.out _ (S1.out.gr.trans G4.out); clear ho4 hg4)
            | (go_at_call 18; (with_reducible refine (DO.out _ G4.out).mono ?_); rintro e w5 ⟨rfl, τ, hd, hs, hk⟩; have R5 := Lib.hid (R1.out.did (by omega) hd); have S5 := Lib.hid hs; have SF := Lib.hid (hd.safe R1.out.hi R1.out.hk HQ.out); have RE2 := Lib.hid (S5.out.reached R5.out.hi HX.out.1 (fun a => (HX.out.2.1 a).trans (SF.out.1 a)) HX.out.2.2.1); have SE2 := Lib.hid (fun W (hS : Cs w k c τ W) A d (hr : Rd W W.heap.size A mr d xs) => hS.serials hr mr8 (fun a ha => (((SF.out.1 a).1 ((HX.out.2.1 a).1 ha)).good R5.out.hi).1) (show bm.rising (xs.map (ser τ.x)) = ys from by rw [List.map_congr_left (fun a ha => SF.out.2 a ((HX.out.2.1 a).1 ha))]; exact HX.out.2.2.2.1) HX.out.2.2.2.2); have Q5 := Lib.hid (hk P4.out); have P5 := Lib.hid (hk O4.out); clear hd hs hk p0 p1 p2 p3 p4 p5 p6))
          go_roundw
          case rel => exact ⟨j + 1, τ, by omega, by go_num, R5.out, S9.out⟩
          case measure => first | (simp [intOf]; done) | (simp [intOf]; omega)
        · have HQ := Lib.hid hq
          clear hq
          go_wp2_with (first
            | (have mark := S8; go_at_call 19; (with_reducible refine (bm.Ints_true ys _ _ ny ny _ _ _ _ _ (by omega) rfl (bm.rd_own Q8.out) (bm.rd_own O8.out)).mono ?_); rintro e w9 ⟨rfl, hg⟩; have S9 := Lib.hid (S8.out.new (drew_gr hg)); clear hg)
            | (go_at_call 19; (with_reducible refine (bm.Ints_true xs _ _ mr mr _ _ _ _ _ (by omega) rfl (bm.rd_own Q6.out) (bm.rd_own O6.out)).mono ?_); rintro e w7 ⟨rfl, hg⟩; have S7 := Lib.hid (S6.out.new (drew_gr hg)); have P7 := Lib.hid (own_new P6.out (drew_gr hg)); have O7 := Lib.hid (own_new O6.out (drew_gr hg)); clear hg)
            | (have mark := S7; go_at_call 17; (with_reducible refine (SE2.out _ S7.out _ _ (bm.rd_own O7.out)).mono ?_); rintro e w8 ⟨A8, d8, rfl, ho8, hg8⟩; have O8 := Lib.hid ho8; have Q8 := Lib.hid (own_new P7.out hg8); have S8 := Lib.hid (S7.out.new hg8); clear ho8 hg8)
            | (have mark := S5; go_at_call 16; (with_reducible refine (RE2.out).mono ?_); rintro e w6 ⟨A6, d6, rfl, ho6, hg6⟩; have O6 := Lib.hid ho6; have Q6 := Lib.hid (own_new Q5.out hg6); have P6 := Lib.hid (own_new P5.out hg6); have S6 := Lib.hid (S5.out.new hg6); obtain ⟨p0, p1, p2, p3, p4, p5, p6⟩ := ROW.out _ S6.out.gr; clear ho6 hg6)
            | (go_at_call 16; (with_reducible refine RE1.out.mono ?_); rintro e w3 ⟨A3, d3, rfl, ho3, hg3⟩; have O3 := Lib.hid ho3; have G3 := Lib.hid hg3; clear ho3 hg3)
            | (go_at_call 17; (with_reducible refine (SE1.out _ G3.out _ _ (bm.rd_own O3.out)).mono ?_); rintro e w4 ⟨A4, d4, rfl, ho4, hg4⟩; have O4 := Lib.hid (bm.own_mono ho4 G3.out.size); have P4 := Lib.hid (own_new O3.out hg4); have G4 := Lib.hid (G3.out.trans hg4); obtain ⟨p0, p1, p2, p3, p4, p5, p6⟩ := ROW.out _ (S1.out.gr.trans G4.out); clear ho4 hg4)
            | (go_at_call 18; (with_reducible refine (DO.out _ G4.out).mono ?_); rintro e w5 ⟨rfl, τ, hd, hs, hk⟩; have R5 := Lib.hid (R1.out.did (by omega) hd); have S5 := Lib.hid hs; have SF := Lib.hid (hd.safe R1.out.hi R1.out.hk HQ.out); have RE2 := Lib.hid (S5.out.reached R5.out.hi HX.out.1 (fun a => (HX.out.2.1 a).trans (SF.out.1 a)) HX.out.2.2.1); have SE2 := Lib.hid (fun W (hS : Cs w k c τ W) A d (hr : Rd W W.heap.size A mr d xs) => hS.serials hr mr8 (fun a ha => (((SF.out.1 a).1 ((HX.out.2.1 a).1 ha)).good R5.out.hi).1) (show bm.rising (xs.map (ser τ.x)) = ys from by rw [List.map_congr_left (fun a ha => SF.out.2 a ((HX.out.2.1 a).1 ha))]; exact HX.out.2.2.2.1) HX.out.2.2.2.2); have Q5 := Lib.hid (hk P4.out); have P5 := Lib.hid (hk O4.out); clear hd hs hk p0 p1 p2 p3 p4 p5 p6))
          go_roundw
          case rel => exact ⟨j + 1, τ, by omega, by go_num, R5.out, S9.out⟩
          case measure => first | (simp [intOf]; done) | (simp [intOf]; omega)
        · go_wp2_with (first
            | (have mark := S5; go_at_call 16; (with_reducible refine (RE2.out).mono ?_); rintro e w6 ⟨A6, d6, rfl, ho6, hg6⟩; have O6 := Lib.hid ho6; have S6 := Lib.hid (S5.out.new hg6); obtain ⟨p0, p1, p2, p3, p4, p5, p6⟩ := ROW.out _ S6.out.gr; clear ho6 hg6)
            | (go_at_call 16; (with_reducible refine RE1.out.mono ?_); rintro e w3 ⟨A3, d3, rfl, ho3, hg3⟩; have O3 := Lib.hid ho3; have G3 := Lib.hid hg3; clear ho3 hg3)
            | (go_at_call 17; (with_reducible refine (SE1.out _ G3.out _ _ (bm.rd_own O3.out)).mono ?_); rintro e w4 ⟨A4, d4, rfl, ho4, hg4⟩; have G4 := Lib.hid (G3.out.trans hg4); obtain ⟨p0, p1, p2, p3, p4, p5, p6⟩ := ROW.out _ (S1.out.gr.trans G4.out); clear ho4 hg4)
            | (go_at_call 18; (with_reducible refine (DO.out _ G4.out).mono ?_); rintro e w5 ⟨rfl, τ, hd, hs, hk⟩; have R5 := Lib.hid (R1.out.did (by omega) hd); have S5 := Lib.hid hs; obtain ⟨xs2, hz1, hz2⟩ := rea_ex R5.out.hi; obtain ⟨m2, hm2⟩ : ∃ m, xs2.length = m := ⟨_, rfl⟩; have RE2 := Lib.hid (S5.out.reached R5.out.hi hz1 hz2 hm2); clear hd hs hk hz1 hz2 hm2 p0 p1 p2 p3 p4 p5 p6))
          go_roundw
          case rel => exact ⟨j + 1, τ, by omega, by go_num, R5.out, S6.out⟩
          case measure => first | (simp [intOf]; done) | (simp [intOf]; omega)
      · obtain rfl : j = l2 := by omega
        go_wp2
        go_ret
        exact ⟨rfl, S1.out.gr⟩
  · have CK := Lib.hid (fun W (hg : w.grownBy W none) => cf.Check_no (n := cf.wrongN [a0, a1, a2, a3, a4, a5, a6, a7, a8, a9]) _ _ _ _ _ _ _ _ _ _ _ (by simpa using hw) (hC.below (li.grown_below hg)) rfl)
    clear ho hc hc2 hB hC hw
    go_enter Tryz.func4, Tryz.ntmps4
    go_wp2_with (first
      | (go_at_call 9; (with_reducible refine (AL.out _ BX.out).mono ?_); rintro e w1 ⟨rfl, hg⟩; have G1 := Lib.hid hg; obtain ⟨z0, z1, z2, z3, z4, z5, z6, z7, z8, z9⟩ := TEN.out _ hg; clear hg)
      | (go_at_call 11; (with_reducible refine (CK.out _ (BX.out.trans G1.out)).mono ?_); rintro e w2 ⟨rfl, hb⟩; have G2 := Lib.hid (G1.out.trans (ro.grown_of hb)); clear hb))
    go_ret
    exact ⟨rfl, BX.out.trans G2.out⟩
end Go.Proofs.YtkgdcgmbapchcaaGreatDoor.cy
