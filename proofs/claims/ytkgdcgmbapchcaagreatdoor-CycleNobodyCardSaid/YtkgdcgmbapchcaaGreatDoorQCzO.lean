/- Texts that this claim stands on. -/
import Derived.Deep.AppendLies
import Derived.BigQuiet
import Derived.Test.YtkgdcgmbapchcaaGreatDoorQCzM
import Derived.Test.YtkgdcgmbapchcaaGreatDoorQBmQ
import Derived.Test.YtkgdcgmbapchcaaGreatDoorQGnQ
import Derived.Test.YtkgdcgmbapchcaaGreatDoorQCfX
namespace Go.Proofs.YtkgdcgmbapchcaaGreatDoor.cy
open Go.ChangeShapes Go.WideShapes Go.ChangeAt Go.RowKit gen calls cls geos ce st sh
set_option linter.unusedVariables false
set_option maxHeartbeats 8000000
set_option maxRecDepth 100000
def y1 : Hs := ((((x0 4 3).carved 0 3 8 4).owned 2 3 0).took 0 0 [1, 2, 3] 0 8).begun 0 4
def k1 : Kn := ⟨4, 1, 1, 2, 0⟩
theorem k1_ok : Kok k1 := ⟨by decide, by decide, by decide, by decide⟩
theorem y1_fit : ∀ q : Nat, q < 64 → fit (x0 4 3) 3 q = false := by decide +kernel
theorem y1_slo : Slo (x0 4 3) 2 4 y1 0 := .inr (.inr (.inr ⟨by decide, by intro h; exact absurd h (by decide +kernel), y1_fit, 0, 8, 8, 4, 0, [1, 2, 3], by decide +kernel, rfl, rfl, ⟨by decide +kernel, by decide, rfl, by decide, rfl⟩, rfl⟩))
def it : Nat → Cy
  | 0 => (s0 k1 y1).beg.lead k1
  | n + 1 => (it n).unit k1
section
variable {w0 W w w1 w' : World} {k : Kn} {c : Cb} {L0 K0 L K M : List Nat} {σ τ : Cy}
structure Bd (σ : Cy) : Prop where
  e : σ.e ≤ 800000
  un : σ.un ≤ 1000000
  cy : σ.cy ≤ 1000000
theorem nums_none {ws : List Nat} (hf : bm.Fine 2048 ws) (h : ∀ a, isb ws a = false) : bm.nums ws = [] := List.eq_nil_iff_forall_not_mem.2 fun a ha => by
  have h1 := h a
  obtain ⟨h2, h4⟩ := (bm.mem_nums hf a).1 ha
  have h3 := hf.2.2.1 _ h4
  unfold isb at h1
  rw [decide_eq_true h2, decide_eq_true (by omega), h4] at h1
  cases h1
theorem Inv.pr (hi : Inv k σ) (hp : 2 ≤ σ.ph ∧ σ.ph ≤ 4) : -1 ≤ σ.p ∧ σ.p < k.N := (hi.i3 hp).2
theorem Unit_any (h : Cw w k c L K σ) (hT : Tb w c L K) (hi : Inv k σ) (hk : Kok k) (bd : Bd σ) : Calls Tryz.prog 28 #[.pointer (some ⟨c.B, 0, none⟩)] w fun e w' => e = .returned (.bool σ.unb) ∧ Cx w k c L K (σ.unit k) w' := by
  by_cases h3 : σ.ph = 3
  · have hr := hi.pr (by omega)
    cases hd : σ.idle with
    | true =>
      have e1 : σ.unb = false := by unfold Cy.unb; rw [hd, h3]; rfl
      have e2 : σ.unit k = σ.to4.lead k := by unfold Cy.unit; rw [if_pos h3, if_pos hd]
      rw [e1, e2]
      exact Unit_4 h hT h3 hr hd bd.e
    | false =>
      have e1 : σ.unb = true := by unfold Cy.unb; rw [hd, h3]; rfl
      have e2 : σ.unit k = σ.u3 k := by unfold Cy.unit; rw [if_pos h3, if_neg (by rw [hd]; decide)]
      rw [e1, e2]
      exact Unit_3 h hT h3 hr hd bd.un
  · by_cases h5 : σ.ph = 5
    · have e1 : σ.unb = true := by unfold Cy.unb; rw [h5]; simp
      have e2 : σ.unit k = σ.u5 k := by unfold Cy.unit; rw [if_neg h3, if_pos h5]
      rw [e1, e2]
      have hq := hi.q5 h5
      have hN := hk.N
      exact Unit_5 h hT h5 hq.1 (by omega) bd.un bd.cy fun e => nums_none (hi.u5 hk h5).1.fi ((hi.u5 hk h5).2.1 (by show (if σ.q + 1 = k.N then 0 else 5) = 0; rw [if_pos e]))
    · have e1 : σ.unb = false := by unfold Cy.unb; rw [decide_eq_false h3, decide_eq_false h5]; rfl
      have e2 : σ.unit k = σ := by unfold Cy.unit; rw [if_neg h3, if_neg h5]
      rw [e1, e2]
      exact (Unit_0 h ⟨h3, h5⟩).mono fun e w' ⟨k1, k2⟩ => ⟨k1, k2 ▸ Cx.start h⟩
theorem Cx.unit (h : Cx w k c L K σ W) (hT : Tb w c L K) (hi : Inv k σ) (hk : Kok k) (bd : Bd σ) : Calls Tryz.prog 28 #[.pointer (some ⟨c.B, 0, none⟩)] W fun e w' => e = .returned (.bool σ.unb) ∧ Cx w k c L K (σ.unit k) w' := by
  obtain ⟨L', K', h1, h2, h3, h4, h5⟩ := Cx.tb hT h
  exact (Unit_any h3 h5 hi hk bd).mono fun e w' ⟨k1, L2, K2, k2, k3, k4, k5⟩ => ⟨k1, Cx.step h1 h2 h4 k2 k3 k4 k5 fun q hq => hq⟩
theorem it_facts : (∀ j, j < 4 → (it j).unb = true) ∧ (it 4).unb = false ∧ (it 5).ph = 5 ∧ (∀ j, j < 4 → (it (5 + j)).unb = true) ∧ (it 9).unb = false ∧ (it 10).ph = 0 ∧ (it 10).cy = 1 ∧ (∀ j, j < 11 → (it j).e ≤ 800000 ∧ (it j).un ≤ 1000000 ∧ (it j).cy ≤ 1000000) ∧ flen (it 10).x 0 = 4 ∧ ep.of (it 10).th 0 = -1 ∧ (it 10).th.length = 2 ∧ (((it 10).att 0).lead k1).lv 0 = true := by decide +kernel
theorem it_inv : ∀ j, Inv k1 (it j) ∧ Stl (it j)
  | 0 => (s0_inv k1_ok (Slo_nw (x0_iv (by decide)) (by decide) ⟨by decide, by decide⟩ y1_slo)).1.begun k1_ok rfl
  | j + 1 => (it_inv j).1.unit k1_ok (it_inv j).2
theorem usual_any (w : World) : Calls Tryz.prog 45 #[] w fun e w' => e = .returned (.agg #[.int .i64 4, .int .i64 2, .int .i64 10, .int .i64 1, .int .i64 500, .int .i64 9, .int .i64 0, .int .i64 1, .int .i64 1, .int .i64 0]) ∧ w.grownBy w' none := by
  go_enter Tryz.func45, Tryz.ntmps45
  go_wp2
  refine bodyPost_ret (v := .agg #[.int .i64 4, .int .i64 2, .int .i64 10, .int .i64 1, .int .i64 500, .int .i64 9, .int .i64 0, .int .i64 1, .int .i64 1, .int .i64 0]) ?_ rfl ?_
  · simp [results, Tryz.results45, go_sem, *]
  · exact ⟨rfl, World.grownBy_alloc _ _ _⟩
theorem alive_any (hT : cf.Table w) (hB : bm.Tab w) : Calls Tryz.prog 9 #[] w fun e w' => e = .returned (.bool true) ∧ w.grownBy w' none := by
  have F := Lib.hid it_facts
  have TT := Lib.hid (And.intro hT hB)
  have US := Lib.hid (usual_any w)
  have NY := Lib.hid (fun W (hg : w.grownBy W none) => New_yes (w := W) (k := k1) (y := y1) (a0 := 4) (a1 := 2) (a2 := 10) (a3 := 1) (a4 := 500) (a5 := 9) (a6 := 0) (a7 := 1) (a8 := 1) (a9 := 0) (hT.below (li.grown_below hg)) (by decide) k1_ok rfl rfl rfl rfl y1_slo)
  have NN := Lib.hid (fun W (hg : w.grownBy W none) => New_no (w := W) (n := 1) (a0 := 0) (a1 := 0) (a2 := 0) (a3 := 0) (a4 := 0) (a5 := 0) (a6 := 0) (a7 := 0) (a8 := 0) (a9 := 0) (by decide) (hT.below (li.grown_below hg)) (by decide))
  clear hT hB
  go_enter Tryz.func9, Tryz.ntmps9
  go_wp2_with (first
    | (go_at_call 45; (with_reducible refine US.out.mono ?_); rintro e w1 ⟨rfl, hg⟩; have G1 := Lib.hid hg; clear hg)
    | (go_at_call 10; (with_reducible refine (NY.out _ G1.out).mono ?_); rintro e w2 ⟨c, L, K, rfl, hc, hg, hf⟩; have G2 := Lib.hid (G1.out.trans hg); have C2 := Lib.hid hc; have F2 := Lib.hid (show ∀ q, q ∈ al c L K → w.heap.size ≤ q from fun q hq => Nat.le_trans G1.out.size (hf q hq)); clear hc hg hf)
    | (go_at_call 10; (with_reducible refine (NN.out _ G2.out).mono ?_); rintro e w3 ⟨rfl, hg⟩; have X3 := Lib.hid ((Cx.start C2.out).new hg); clear hg)
    | (go_at_call 33; (with_reducible refine (X3.out.call fun L K h => Begin_yes h rfl (by decide)).mono ?_); rintro e w4 ⟨rfl, hx⟩; have X4 := Lib.hid (show Cx w2 k1 c L K (it 0) w4 from hx); clear hx))
  clear NY NN US
  have S3 := Lib.hid (show Tb w2 c L K from ⟨TT.out.2.kept G2.out (by simp), fun hm => by have := F2.out _ hm; have := TT.out.2.1; omega⟩)
  have UN := Lib.hid (fun j (hj : j < 11) W (hx : Cx w2 k1 c L K (it j) W) => show Calls Tryz.prog 28 #[.pointer (some ⟨c.B, 0, none⟩)] W fun e w' => e = .returned (.bool (it j).unb) ∧ Cx w2 k1 c L K (it (j + 1)) w' from hx.unit S3.out (it_inv j).1 k1_ok ⟨(F.out.2.2.2.2.2.2.2.1 j hj).1, (F.out.2.2.2.2.2.2.2.1 j hj).2.1, (F.out.2.2.2.2.2.2.2.1 j hj).2.2⟩)
  have P5 := Lib.hid (fun W (hx : Cx w2 k1 c L K (it 5) W) => show Calls Tryz.prog 21 #[.pointer (some ⟨c.B, 0, none⟩)] W fun e w' => e = .returned (.int .i64 5) ∧ Cx w2 k1 c L K (it 5) w' from hx.same fun L K h => by have := Phase_any h; rwa [F.out.2.2.1] at this)
  have P0 := Lib.hid (fun W (hx : Cx w2 k1 c L K (it 10) W) => show Calls Tryz.prog 21 #[.pointer (some ⟨c.B, 0, none⟩)] W fun e w' => e = .returned (.int .i64 0) ∧ Cx w2 k1 c L K (it 10) w' from hx.same fun L K h => by have := Phase_any h; rwa [F.out.2.2.2.2.2.1] at this)
  have PC := Lib.hid (fun W (hx : Cx w2 k1 c L K (it 10) W) => show Calls Tryz.prog 24 #[.pointer (some ⟨c.B, 0, none⟩)] W fun e w' => e = .returned (.int .i64 1) ∧ Cx w2 k1 c L K (it 10) w' from hx.same fun L K h => by have := Cycles_any h; rwa [F.out.2.2.2.2.2.2.1] at this)
  have PG := Lib.hid (fun W (hx : Cx w2 k1 c L K (it 10) W) => show Calls Tryz.prog 42 #[.pointer (some ⟨c.B, 0, none⟩)] W fun e w' => e = .returned (.int .i64 0) ∧ Cx w2 k1 c L K (it 10) w' from hx.same fun L K h => Global_any h)
  have PF := Lib.hid (fun W (hx : Cx w2 k1 c L K (it 10) W) => show Calls Tryz.prog 40 #[.pointer (some ⟨c.B, 0, none⟩), .int .i64 0] W fun e w' => e = .returned (.int .i64 4) ∧ Cx w2 k1 c L K (it 10) w' from hx.tell fun L K h => by have := Fields_any h 0; rwa [F.out.2.2.2.2.2.2.2.2.1] at this)
  have PA := Lib.hid (fun W (hx : Cx w2 k1 c L K (it 10) W) => show Calls Tryz.prog 34 #[.pointer (some ⟨c.B, 0, none⟩), .int .i64 0] W fun e w' => e = .returned (.bool true) ∧ Cx w2 k1 c L K (((it 10).att 0).lead k1) w' from hx.call fun L K h => Attach_yes h 0 (by rw [F.out.2.2.2.2.2.2.2.2.2.2.1]; decide) F.out.2.2.2.2.2.2.2.2.2.1 (fun e => by have := F.out.2.2.2.2.2.1; omega) (F.out.2.2.2.2.2.2.2.1 10 (by omega)).1 (it_inv 10).1.p5)
  have PL := Lib.hid (fun W (hx : Cx w2 k1 c L K (((it 10).att 0).lead k1) W) => show Calls Tryz.prog 38 #[.pointer (some ⟨c.B, 0, none⟩), .int .i64 0] W fun e w' => e = .returned (.bool true) ∧ Cx w2 k1 c L K (((it 10).att 0).lead k1) w' from hx.same fun L K h => by have := Live_any h 0; rwa [F.out.2.2.2.2.2.2.2.2.2.2.2] at this)
  have ED := Lib.hid (fun W (hx : Cx w2 k1 c L K (((it 10).att 0).lead k1) W) => show w.grownBy W none from grz G2.out hx.gro F2.out)
  go_loopw [6] (fun n wr => ∃ j : Nat, j ≤ 4 ∧ n = .int .i64 j ∧ Cx w2 k1 c L K (it j) wr) (fun n _ => 5 - (intOf n).toNat)
  case atStart => exact ⟨0, by omega, rfl, X4.out⟩
  case round =>
    obtain ⟨j, hj, rfl, hx⟩ := hrel
    have U := Lib.hid (UN.out j (by omega) _ hx)
    have l1 : decide ((j : Int) < 20) = true := decide_eq_true (by omega)
    by_cases h4 : j < 4
    · have E := F.out.1 j h4
      rw [E] at U
      have HJ := Lib.hid h4
      have l2 : (j : Int) ≤ 4 := by omega
      clear hx hj E h4
      go_wp2_with (go_at_call 28; (with_reducible refine U.out.mono ?_); rintro e w5 ⟨rfl, hx⟩; have X5 := Lib.hid hx; clear hx)
      go_roundw
      case rel => exact ⟨j + 1, HJ.out, by go_num, X5.out⟩
      case measure => simp [intOf]; have := HJ.out; omega
    · obtain rfl : j = 4 := by omega
      rw [F.out.2.1] at U
      clear hx hj h4 l1
      go_wp2_with (first
        | (go_at_call 28; (with_reducible refine U.out.mono ?_); rintro e w5 ⟨rfl, hx⟩; have X5 := Lib.hid (show Cx w2 k1 c L K (it 5) w5 from hx); clear hx)
        | (go_at_call 21; (with_reducible refine (P5.out _ X5.out).mono ?_); rintro e w6 ⟨rfl, hx⟩; have X6 := Lib.hid hx; clear hx))
      go_loopw [6] (fun n wr => ∃ j : Nat, j ≤ 4 ∧ n = .int .i64 (4 + j : Int) ∧ Cx w2 k1 c L K (it (5 + j)) wr) (fun n _ => 9 - (intOf n).toNat)
      case atStart => exact ⟨0, by omega, rfl, X6.out⟩
      case round =>
        obtain ⟨j, hj, rfl, hx⟩ := hrel
        have U := Lib.hid (UN.out (5 + j) (by omega) _ hx)
        have l1 : decide ((4 + j : Int) < 40) = true := decide_eq_true (by omega)
        by_cases h4 : j < 4
        · have E := F.out.2.2.2.1 j h4
          rw [E] at U
          have HJ := Lib.hid h4
          have l2 : (j : Int) ≤ 4 := by omega
          have l3 : IntKind.i64.wrap (4 + (j : Int) + 1) = 4 + (j : Int) + 1 := IntWalk.i64_in _ (by omega)
          clear hx hj E h4
          go_wp2_with (go_at_call 28; (with_reducible refine U.out.mono ?_); rintro e w5 ⟨rfl, hx⟩; have X5 := Lib.hid hx; clear hx)
          go_roundw
          case rel => exact ⟨j + 1, HJ.out, by go_num, X5.out⟩
          case measure => simp [intOf]; have := HJ.out; omega
        · obtain rfl : j = 4 := by omega
          rw [F.out.2.2.2.2.1] at U
          clear hx hj h4 l1
          go_wp2_with (first
            | (go_at_call 28; (with_reducible refine U.out.mono ?_); rintro e w7 ⟨rfl, hx⟩; have X7 := Lib.hid (show Cx w2 k1 c L K (it 10) w7 from hx); clear hx)
            | (go_at_call 21; (with_reducible refine (P0.out _ X7.out).mono ?_); rintro e w8 ⟨rfl, hx⟩; have X8 := Lib.hid hx; clear hx)
            | (go_at_call 24; (with_reducible refine (PC.out _ X8.out).mono ?_); rintro e w9 ⟨rfl, hx⟩; have X9 := Lib.hid hx; clear hx)
            | (go_at_call 42; (with_reducible refine (PG.out _ X9.out).mono ?_); rintro e w10 ⟨rfl, hx⟩; have X10 := Lib.hid hx; clear hx)
            | (go_at_call 40; (with_reducible refine (PF.out _ X10.out).mono ?_); rintro e w11 ⟨rfl, hx⟩; have X11 := Lib.hid hx; clear hx)
            | (go_at_call 34; (with_reducible refine (PA.out _ X11.out).mono ?_); rintro e w12 ⟨rfl, hx⟩; have X12 := Lib.hid hx; clear hx)
            | (go_at_call 38; (with_reducible refine (PL.out _ X12.out).mono ?_); rintro e w13 ⟨rfl, hx⟩; have X13 := Lib.hid hx; clear hx))
          go_ret
          exact ⟨rfl, ED.out _ X13.out⟩
end
end Go.Proofs.YtkgdcgmbapchcaaGreatDoor.cy
namespace Go.Proofs.YtkgdcgmbapchcaaGreatDoor.cy
end Go.Proofs.YtkgdcgmbapchcaaGreatDoor.cy
namespace Go.Proofs.YtkgdcgmbapchcaaGreatDoor.cy
end Go.Proofs.YtkgdcgmbapchcaaGreatDoor.cy
namespace Go.Proofs.YtkgdcgmbapchcaaGreatDoor.cy
end Go.Proofs.YtkgdcgmbapchcaaGreatDoor.cy
namespace Go.Proofs.YtkgdcgmbapchcaaGreatDoor.cy
end Go.Proofs.YtkgdcgmbapchcaaGreatDoor.cy
namespace Go.Proofs.YtkgdcgmbapchcaaGreatDoor.cy
end Go.Proofs.YtkgdcgmbapchcaaGreatDoor.cy
namespace Go.Proofs.YtkgdcgmbapchcaaGreatDoor.cy
end Go.Proofs.YtkgdcgmbapchcaaGreatDoor.cy
namespace Go.Proofs.YtkgdcgmbapchcaaGreatDoor.cy
end Go.Proofs.YtkgdcgmbapchcaaGreatDoor.cy
