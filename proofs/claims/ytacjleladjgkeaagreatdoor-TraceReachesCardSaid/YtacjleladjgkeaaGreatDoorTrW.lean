/- Behind all units just what can be reached is marked: the walk. -/
import Derived.Test.YtacjleladjgkeaaGreatDoorTrV
import Derived.Deep.AppendLies
import Derived.BigQuiet
import Derived.IntWalk
namespace Go.Proofs.YtacjleladjgkeaaGreatDoor.tr
open Go.ChangeShapes Go.WideShapes Go.ChangeAt Go.RowKit gen calls cls geos ce st sh
set_option linter.unusedVariables false
set_option maxHeartbeats 16000000
set_option maxRecDepth 100000
/-- The law's bound on units. -/
theorem wrap_b {N K : Nat} (h1 : N ≤ 12) (h2 : N * K ≤ 24576) : wrap64 (32 * (N : Int) + wrap64 (((K : Int) + 1) * N)) = ((32 * N + N * K + N : Nat) : Int) := by
  have e : ((K : Int) + 1) * N = ((N * K + N : Nat) : Int) := by
    rw [Int.add_mul, Int.one_mul, Int.mul_comm, Int.natCast_add, Int.natCast_mul]
  rw [e]
  generalize N * K = q at h2
  clear e
  have e2 : wrap64 ((q + N : Nat) : Int) = ((q + N : Nat) : Int) := Go.IntWalk.wrap64_in _ (by omega)
  rw [e2, Go.IntWalk.wrap64_in _ (by omega)]
  omega
theorem TraceReaches_any (n1 n2 n3 : Int) (D : Option Addr) (l c2 : Nat) (f : Nat → Nat → Int) (A4 : Option Addr) (n4 c4 : Nat) (xs4 : List Int) (w : World) (hc : l ≤ c2) (hc2 : c2 ≤ maxLen) (ho : Rws w w.heap.size D l 4 f) (hc4 : n4 ≤ c4) (hc5 : c4 ≤ maxLen) (hr4 : Rd w w.heap.size A4 n4 c4 xs4) (hT : bm.Tab w) :
    Calls Tryz.prog 4 #[.int .i64 n1, .int .i64 n2, .int .i64 n3, .slice D l c2, .slice A4 n4 c4] w fun e w' => e = .returned (.bool true) ∧ w.grownBy w' none := by
  obtain ⟨i0, hi, hz0, hz1, hz2⟩ := info_parts li.info_int
  have E : Hid (i0.zero = some (.int .i64 0) ∧ i0.size = 1 ∧ i0.bytes = 8 ∧ Tryz.prog.info? 3 = some i0) := ⟨hz0, hz1, hz2, hi⟩
  obtain ⟨r, hk, h1, h8⟩ := sk.near_nat n2
  obtain ⟨N, hN, N1, N2⟩ := near_nat n1 (b := 12) (by decide)
  obtain ⟨c, hC, C1, C2⟩ := near_nat n3 (b := 16) (by decide)
  have AL := Lib.hid (alive_any w hT)
  have NE := Lib.hid (fun w => near_any n1 1 12 w)
  rw [show bm.near n1 1 12 = N from hN] at NE
  have BG := Lib.hid (fun W (hg : w.grownBy W none) => begin_any hg N n2 n3 (N := N) (c := c) (near_id (b := 64) ⟨N1, by omega⟩) ⟨N1, by omega⟩ hC ⟨C1, C2⟩ hk ⟨h1, h8⟩)
  have FW := Lib.hid (fun w => few_any D l c2 w hc hc2 ho.some)
  have HO := Lib.hid ho
  have HT := Lib.hid hT
  have HR := Lib.hid hr4
  have ID0 := Lib.hid (show tc.Ts.idle ⟨none0, -1⟩ = true by decide)
  have RK0 := Lib.hid (show Rk N (ph.x0 N) from ⟨by simp [ph.x0], fun o ho => by cases ho⟩)
  have n4l : n4 ≤ maxLen := by omega
  unfold maxLen at n4l
  clear ho hc hc2 hk hT hN hC hi hz0 hz1 hz2 hr4 hc4 hc5
  go_enter Tryz.func4, Tryz.ntmps4
  go_wp2_with (first
    | (go_at_call 8; (with_reducible refine (FW.out _).mono ?_); rintro e w' ⟨⟨l2, c4', hl1, hl2, rfl⟩, hw⟩; subst hw)
    | (go_at_call 11; (with_reducible refine (NE.out _).mono ?_); rintro e w' ⟨rfl, hw⟩; subst hw)
    | (go_at_call 7; (with_reducible refine (BG.out _ G1.out).mono ?_); rintro e w2 ⟨B, I, g, t, H, M, rfl, hs⟩; have A3 := Lib.hid hs; clear hs)
    | (go_at_call 6; (with_reducible refine AL.out.mono ?_); rintro e w1 ⟨rfl, hg⟩; have G1 := Lib.hid hg; clear hg))
  go_loopw [12] (fun i wr => ∃ (j : Nat) (x : Hs), j ≤ l2 ∧ i = .int .i64 j ∧ x.cnt ≤ j ∧ Rk N x ∧ Ru w B I g r t N c H M x none0 (-1) wr) (fun i _ => l2 - (intOf i).toNat)
  case atStart => exact ⟨0, _, Nat.zero_le _, rfl, Nat.le_refl _, RK0.out, A3.out⟩
  case round =>
    obtain ⟨j, x, hj, rfl, hx, hrk, hR⟩ := hrel
    have R1 := Lib.hid hR
    have RK := Lib.hid hrk
    have O1 := Lib.hid ((HO.out.less hl2).kept hR.grown (by simp))
    clear hR A3 hrk
    by_cases hlt : j < l2
    · obtain ⟨q, off, rfl, hq, hcc, hw⟩ := O1.out j hlt
      have p0 := hcc 0 (by omega)
      rw [Nat.add_zero] at p0
      have p1 := hcc 1 (by omega)
      have p2 := hcc 2 (by omega)
      have p3 := hcc 3 (by omega)
      generalize f j 0 = x0 at p0
      generalize f j 1 = x1 at p1
      generalize f j 2 = x2 at p2
      generalize f j 3 = x3 at p3
      have l1 : (0 : Int) ≤ (j : Int) := by omega
      have l3 : (j : Int) < l2 := by omega
      clear hcc hw O1 hq
      by_cases h2 : x0 ≤ 2
      · have ST := Lib.hid (R1.out.step (by omega) HT.out x0 x1 x2 x3)
        have H2 := Lib.hid h2
        have t1 : decide (x0 ≤ 2) = true := decide_eq_true h2
        clear h2
        go_wp2_with (go_at_call 9; (with_reducible refine ST.out.mono ?_); rintro e w4 ⟨rfl, x', s', p', hs, hx', hrk', hq'⟩; have Q4 := Lib.hid (hq' H2.out ID0.out); have K4 := Lib.hid (hrk' _ RK.out); have R4 := Lib.hid hs; clear hs hq' hrk')
        go_roundw
        case rel =>
          have := R4.out
          rw [Q4.out.1, Q4.out.2] at this
          exact ⟨j + 1, x', by omega, by go_num, by omega, K4.out, this⟩
        case measure => first | (simp [intOf]; done) | (simp [intOf]; omega)
      · have t1 : decide (x0 ≤ 2) = false := decide_eq_false h2
        clear h2
        go_wp2
        go_roundw
        case rel => exact ⟨j + 1, x, by omega, by go_num, by omega, RK.out, R1.out⟩
        case measure => first | (simp [intOf]; done) | (simp [intOf]; omega)
    · obtain ⟨V, hl⟩ := (Ru.fr R1.out).rz.iv
      have G := Lib.hid (rc.gd_of V RK.out)
      have W0 := Lib.hid (rc.w0_le V RK.out)
      have F1 := Lib.hid (Ru.fr R1.out)
      have k20 : x.tk.length ≤ 2048 := hl
      clear V hl
      go_wp2
      go_loopw [13, 14, 15] (fun va vi vx wr2 => ∃ (k m : Nat) (sh : List Int) (A : Option Addr) (c5 : Nat) (s : Ps), k ≤ 20 ∧ k ≤ n4 ∧ vi = .int .i64 k ∧ va = .slice A m c5 ∧ m = sh.length ∧ m ≤ k ∧ wr2.ownsRow w.heap.size 3 1 (.slice A m c5) m (sh.map (Value.int .i64)) ∧ Fr w B I g r t N c H M x s (-1) (Value.slice A m c5).ownBlock wr2 ∧ rc.Un x sh r N s (-1) ∧ rc.W x.tk (tc.fls x) N s ≤ 32 * N + N * x.tk.length ∧ (∀ a ∈ sh, a ∈ x.tk) ∧ ((A = none ∧ m = 0 ∧ c5 = 0) ∨ ∃ ad, A = some ad ∧ 0 < m)) (fun _ i _ _ => 20 - (intOf i).toNat)
      case atStart => exact ⟨0, 0, [], none, 0, none0, by omega, by omega, rfl, rfl, rfl, by omega, World.ownsRow_nil _ _ _ _, F1.out, rc.Un.start, W0.out, fun a ha => (by cases ha), .inl ⟨rfl, rfl, rfl⟩⟩
      case round =>
        obtain ⟨k, m, sh, A, c5, s, hk1, hk2, rfl, rfl, hm, hmk, ho5, hF, hU, hW, hS, hA⟩ := hrel
        have HM := Lib.hid hm
        have UU := Lib.hid hU
        have WW := Lib.hid hW
        have SS := Lib.hid hS
        have AA := Lib.hid hA
        have FF := Lib.hid (fun W (hg : wr.grownBy W none) => hF.new hg)
        have OW := Lib.hid (fun W (hg : wr.grownBy W none) => World.ownsRow.kept ho5 hg (by cases (Value.slice A m c5).ownBlock <;> simp))
        have PK := Lib.hid (fun W z (hg : wr.grownBy W none) => ((FF.out W hg).rz.pick z).mono (fun e w' h => (show (∃ a, e = .returned (.int .i64 a) ∧ (a = -1 ∨ a ∈ x.tk)) ∧ wr.grownBy w' none from ⟨h.1, hg.trans h.2⟩)))
        have SH := Lib.hid (fun W z (hg : wr.grownBy W none) => (FF.out W hg).shade (OW.out W hg) z)
        clear hm hU hW hS hA ho5 hF F1
        by_cases hlt : k < n4 ∧ k < 20
        · obtain ⟨q1, q2⟩ := hlt
          obtain ⟨b1, o1, rfl, g1⟩ := (rc.rd_new HR.out (FF.out _ (World.grownBy.refl _ _)).rz.grown).at_ q1
          generalize xs4.getD k 0 = z at g1
          have CF := Lib.hid (fun W (hg : wr.grownBy W none) => (show (W.cell? ⟨B, 3, none⟩ = some (.pointer (some ⟨H, 0, none⟩)) ∧ W.cell? ⟨B, 1, none⟩ = some (.pointer (some ⟨g, 0, none⟩))) ∧ W.cell? ⟨b1, o1 + k, none⟩ = some (.int .i64 z) from ⟨⟨(FF.out W hg).rz.cells.2.2.2.1, (FF.out W hg).rz.cells.2.1⟩, hg.cell g1 (by simp)⟩))
          have l1 : (0 : Int) ≤ (k : Int) := by omega
          have l3 : (k : Int) < n4 := by omega
          have l4 : (k : Int) < 20 := by omega
          obtain ⟨⟨c3, c1⟩, g0⟩ := CF.out _ (World.grownBy.refl _ _)
          clear g1
          go_wp2
          go_region_held3 (fun W2 => W2.cell? ⟨B, 3, none⟩ = some (.pointer (some ⟨H, 0, none⟩)) ∧ W2.cell? ⟨b1, o1 + k, none⟩ = some (.int .i64 z)) (first | exact ⟨c3, g0⟩ | exact ⟨d3, g2⟩ | go_keep) (first
            | (go_at_call 12; (with_reducible refine (PK.out _ _ (by first | exact World.grownBy.refl _ _ | exact gr.grown_drew _ _ | exact li.grown_drewN _ _ _)).mono ?_); rintro e w5 ⟨⟨a, rfl, ha⟩, hg⟩; have G5 := Lib.hid hg; obtain ⟨⟨d3, d1⟩, g2⟩ := CF.out _ hg; clear hg))
          all_goals
            by_cases ha0 : 0 ≤ a
            · have hat := Lib.hid (show a ∈ x.tk from ha.elim (fun e => absurd e (by omega)) id)
              have UN := Lib.hid (UU.out.shade G.out hat.out)
              clear ha c3 c1 g0
              go_wp2_with (first
                | (go_at_call 13; (with_reducible refine (SH.out _ a (by first | exact G5.out | exact G5.out.trans (gr.grown_drew _ _) | exact G5.out.trans (li.grown_drewN _ _ _))).mono ?_); rintro e w6 ⟨⟨b6, rfl⟩, hf, hw⟩; have F6 := Lib.hid hf; have O6 := Lib.hid hw; clear hf hw)
                | (refine wpList_append_lies _ rfl (.tmp 75) (.tmp 77) 31 rfl w.heap.size 3 i0 (.int .i64 0) 1 8 Tryz.underlying31 E.out.2.2.2 E.out.1 E.out.2.1 E.out.2.2.1 rfl (by decide) (.slice A m c5) m (sh.map (Value.int .i64)) rfl (O6.out.alloc _) ⟨_, 0, none⟩ 1 1 [.int .i64 a] rfl rfl (World.news_of_block (heap_alloc_new _ _)) (by intro u hu; rw [List.mem_singleton.1 hu]; rfl) (by omega) (by unfold maxLen; omega) (by omega) (by have := F6.out.rz.grown.size; simp; omega) _ rfl ?_; intro g7 cap7 w7 own7 gr7 at7 lt7; have F7 := Lib.hid (show Fr w B I g r t N c H M x (s.shade r a) (-1) (some g7) w7 from Fr.app (v := .slice A m c5) (k := m) (xs := sh.map (Value.int .i64)) (ty := 3) F6.out O6.out gr7 at7 lt7); have O7 := Lib.hid (show w7.ownsRow w.heap.size 3 1 (.slice (some ⟨g7, 0, none⟩) (m + 1) cap7) (m + 1) ((sh ++ [a]).map (Value.int .i64)) from by rw [List.map_append]; exact own7); clear own7 gr7 at7 lt7))
              go_roundw
              case rel => exact ⟨k + 1, m + 1, sh ++ [a], _, cap7, s.shade r a, by omega, by omega, by go_num, rfl, by rw [List.length_append, ← HM.out]; rfl, by omega, O7.out, F7.out, UN.out.1, Nat.le_trans UN.out.2 WW.out, fun b hb => by
                rcases List.mem_append.1 hb with hb | hb
                · exact SS.out b hb
                · rw [List.mem_singleton.1 hb]; exact hat.out, .inr ⟨_, rfl, by omega⟩⟩
              case measure => first | (simp [intOf]; done) | (simp [intOf]; omega)
            · have t1 : decide (0 ≤ a) = false := decide_eq_false ha0
              clear ha0 ha c3 c1 g0
              go_wp2
              go_roundw
              case rel => exact ⟨k + 1, m, sh, A, c5, s, by omega, by omega, by go_num, rfl, HM.out, by omega, OW.out _ (by first | exact G5.out | exact G5.out.trans (gr.grown_drew _ _) | exact G5.out.trans (li.grown_drewN _ _ _)), FF.out _ (by first | exact G5.out | exact G5.out.trans (gr.grown_drew _ _) | exact G5.out.trans (li.grown_drewN _ _ _)), UU.out, WW.out, SS.out, AA.out⟩
              case measure => first | (simp [intOf]; done) | (simp [intOf]; omega)
        · obtain ⟨Q, hQ⟩ : ∃ Q, N * x.tk.length = Q := ⟨_, rfl⟩
          have QB : Q ≤ 24576 := by rw [← hQ]; exact Nat.le_trans (Nat.mul_le_mul N2 k20) (by omega)
          have EB := Lib.hid (wrap_b (N := N) (K := x.tk.length) N2 (by rw [hQ]; exact QB))
          rw [hQ] at WW EB
          clear hQ
          rcases (show ¬ k < n4 ∨ (k < n4 ∧ ¬ k < 20) by omega) with q1 | ⟨q1, q2⟩
          all_goals
            go_wp2
            go_loopw [16] (fun vi wr2 => ∃ (n : Nat) (s' : Ps) (p : Int), vi = .int .i64 n ∧ Fr w B I g r t N c H M x s' p (Value.slice A m c5).ownBlock wr2 ∧ wr2.ownsRow w.heap.size 3 1 (.slice A m c5) m (sh.map (Value.int .i64)) ∧ rc.Un x sh r N s' p ∧ n + rc.W x.tk (tc.fls x) N s' + tc.left N p ≤ 32 * N + Q) (fun i _ => 32 * N + Q - (intOf i).toNat)
            case atStart => exact ⟨0, s, -1, rfl, FF.out _ (World.grownBy.refl _ _), OW.out _ (World.grownBy.refl _ _), UU.out, by have h1 := WW.out; have h2 : tc.left N (-1) = 0 := rfl; omega⟩
            case round =>
              obtain ⟨n, s', p, rfl, hF, ho5, hU, hW⟩ := hrel
              cases hi : tc.Ts.idle ⟨s', p⟩ with
              | true =>
                have UT := hF.unit ho5 HT.out (unit_idle (r := r) (N := N) (c := c) (F := tc.flo x) (G := tc.inp x) hi).symm
                rw [hi] at UT
                have UT := Lib.hid UT
                have EN := Lib.hid (fun W (hf : Fr w B I g r t N c H M x s' p (Value.slice A m c5).ownBlock W) (hw : W.ownsRow w.heap.size 3 1 (.slice A m c5) m (sh.map (Value.int .i64))) => hf.ends hU hi HT.out RK.out N2 (bm.rd_own hw) SS.out HM.out (by omega) AA.out)
                have c2 := hF.rz.cells.2.2.1
                clear hi hU hF ho5 hW
                go_wp2_with (go_at_call 14; (with_reducible refine UT.out.mono ?_); rintro e w8 ⟨rfl, hf, hw⟩; have F8 := Lib.hid hf; have O8 := Lib.hid hw; clear hf hw)
                obtain ⟨xs, k8, hk8, hk9, aAll, aClo, aInt, aIdl, aWai⟩ := EN.out _ F8.out O8.out
                have AL := Lib.hid aAll
                have CO := Lib.hid aClo
                have IN := Lib.hid aInt
                have IL := Lib.hid aIdl
                have WA := Lib.hid aWai
                have HF := Lib.hid (fun W2 (hg : w8.grownBy W2 none) => (show W2.cell? ⟨B, 1, none⟩ = some (.pointer (some ⟨g, 0, none⟩)) ∧ W2.cell? ⟨B, 2, none⟩ = some (.pointer (some ⟨t, 0, none⟩)) ∧ W2.cell? ⟨B, 3, none⟩ = some (.pointer (some ⟨H, 0, none⟩)) from ⟨(F8.out.new hg).rz.cells.2.1, (F8.out.new hg).rz.cells.2.2.1, (F8.out.new hg).rz.cells.2.2.2.1⟩))
                have f := HF.out _ (World.grownBy.refl _ _)
                clear aAll aClo aInt aIdl aWai EN UT hk8 c2
                go_region_held3 (fun W2 => W2.cell? ⟨B, 1, none⟩ = some (.pointer (some ⟨g, 0, none⟩)) ∧ W2.cell? ⟨B, 2, none⟩ = some (.pointer (some ⟨t, 0, none⟩)) ∧ W2.cell? ⟨B, 3, none⟩ = some (.pointer (some ⟨H, 0, none⟩))) (first | exact f | exact ff | go_keep) (first
                  | (go_at_call 16; (with_reducible refine (AL.out _ (by first | exact World.grownBy.refl _ _ | exact gr.grown_drew _ _ | exact li.grown_drewN _ _ _)).mono ?_); rintro e w9 ⟨A2, c9, rfl, hr, hg⟩; have R2 := Lib.hid hr; have G2 := Lib.hid hg; have ff := HF.out _ hg; clear hr hg)
                  | (go_at_call 17; (with_reducible refine (CO.out _ (by first | exact G2.out | exact G2.out.trans (gr.grown_drew _ _) | exact G2.out.trans (li.grown_drewN _ _ _)) _ _ _ (by first | exact R2.out | exact rd_new R2.out (gr.grown_drew _ none) | exact rd_new R2.out (li.grown_drewN _ _ none))).mono ?_); rintro e w10 ⟨A3, c10, rfl, hr, hg⟩; have R3 := Lib.hid hr; have G3 := Lib.hid hg; have ff := HF.out _ hg; clear hr hg)
                  | (go_at_call 15; (with_reducible refine (IN.out _ (by first | exact G3.out | exact G3.out.trans (gr.grown_drew _ _) | exact G3.out.trans (li.grown_drewN _ _ _)) _ _ _ _ _ _ (by first | exact R3.out.2 | exact rd_new R3.out.2 (gr.grown_drew _ none) | exact rd_new R3.out.2 (li.grown_drewN _ _ none)) (by first | exact R3.out.1 | exact rd_new R3.out.1 (gr.grown_drew _ none) | exact rd_new R3.out.1 (li.grown_drewN _ _ none))).mono ?_); rintro e w11 ⟨rfl, hg⟩; have G4 := Lib.hid hg; have ff := HF.out _ hg; clear hg)
                  | (go_at_call 18; (with_reducible refine (IL.out _ (by first | exact G4.out | exact G4.out.trans (gr.grown_drew _ _) | exact G4.out.trans (li.grown_drewN _ _ _))).mono ?_); rintro e w12 ⟨rfl, hg⟩; have G5 := Lib.hid hg; have ff := HF.out _ hg; clear hg)
                  | (go_at_call 19; (with_reducible refine (WA.out _ (by first | exact G5.out | exact G5.out.trans (gr.grown_drew _ _) | exact G5.out.trans (li.grown_drewN _ _ _))).mono ?_); rintro e w13 ⟨rfl, hg⟩; have G6 := Lib.hid hg; have ff := HF.out _ hg; clear hg))
                go_wp2
                go_ret
                first | exact ⟨by simp, F8.out.rz.grown.trans G6.out⟩ | exact ⟨by simp, F8.out.rz.grown.trans (G6.out.trans (gr.grown_drew _ _))⟩ | exact ⟨by simp, F8.out.rz.grown.trans (G6.out.trans (li.grown_drewN _ _ _))⟩
              | false =>
                obtain ⟨u, hu⟩ : ∃ u, u = tc.Ts.unit r N c (tc.flo x) (tc.inp x) ⟨s', p⟩ := ⟨_, rfl⟩
                have UT := hF.unit ho5 HT.out hu
                rw [hi] at UT
                have UT := Lib.hid UT
                have NX := Lib.hid (hU.unit G.out C1 N1 hF.2 hi hu)
                have c2 := hF.rz.cells.2.2.1
                have nl : (n : Int) + 1 ≤ ((32 * N + Q + N : Nat) : Int) := by have := NX.out.2; omega
                have nb : n ≤ 24960 := by omega
                have FIN := Lib.hid (show n + 1 + rc.W x.tk (tc.fls x) N u.s + tc.left N u.p ≤ 32 * N + Q by have h1 := NX.out.2; omega)
                have ME := Lib.hid (show 32 * N + Q - (n + 1) < 32 * N + Q - n by have := FIN.out; omega)
                have NL := Lib.hid nl
                clear nl hF hU hW ho5 hu hi QB
                go_wp2_with (go_at_call 14; (with_reducible refine UT.out.mono ?_); rintro e w8 ⟨rfl, hf, hw⟩; have F8 := Lib.hid hf; have O8 := Lib.hid hw; have d3 := hf.rz.cells.2.2.2.1; obtain ⟨A9, c9, d9⟩ := hf.rz.objs; clear hf hw)
                all_goals first
                  | (exfalso; rename_i hq; rw [EB.out] at hq; exact absurd hq (Int.not_lt.2 NL.out))
                  | (go_roundw
                     case rel => exact ⟨n + 1, u.s, u.p, by go_num, F8.out, O8.out, NX.out.1, FIN.out⟩
                     case measure =>
                       rw [show intOf (Value.int .i64 (n : Int)) = n from rfl, show intOf (Value.int .i64 ((n : Int) + 1)) = (n : Int) + 1 from rfl]
                       have h1 := ME.out
                       omega)
end Go.Proofs.YtacjleladjgkeaaGreatDoor.tr
