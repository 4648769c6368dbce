/- The walk of LedgerMeets. -/
import Derived.Test.YtgfgchmpdocihaaLgG
namespace Go.Proofs.Ytgfgchmpdocihaa.lg
open Go.ChangeShapes Go.WideShapes Go.ChangeAt Go.RowKit gen lb
set_option linter.unusedVariables false
set_option maxHeartbeats 8000000
set_option maxRecDepth 100000
theorem LedgerMeets_any (a0 a1 : Int) (D : Option Addr) (l c2 : Nat) (f : Nat → Nat → Int) (w : World) (hc : l ≤ c2) (hc2 : c2 ≤ maxLen) (ho : Rws w w.heap.size D l 3 f) :
    Calls Try.prog 3 #[.int .i64 a0, .int .i64 a1, .slice D l c2] w fun e w' => e = .returned (.bool true) ∧ w.grownBy w' none := by
  obtain ⟨win, hw, w1, w64⟩ := near_nat a0 1 64 (by omega)
  obtain ⟨most, hm, _, ms⟩ := near_nat a1 0 win (by omega)
  have AL := Lib.hid (alive_any w)
  have NA := Lib.hid (fun w => (show Calls Try.prog 5 #[.int .i64 a0, .int .i64 1, .int .i64 64] w (fun e w' => e = .returned (.int .i64 (win : Int)) ∧ w = w') from by have := Near_any a0 1 64 w; rwa [show near a0 1 64 = (win : Int) from hw] at this))
  have NB := Lib.hid (fun w => (show Calls Try.prog 5 #[.int .i64 a1, .int .i64 0, .int .i64 (win : Int)] w (fun e w' => e = .returned (.int .i64 (most : Int)) ∧ w = w') from by have := Near_any a1 0 win w; rwa [show near a1 0 win = (most : Int) from hm] at this))
  have NW := Lib.hid (fun W (hW : w.grownBy W none) => (show Calls Try.prog 6 #[.int .i64 8, .int .i64 (win : Int), .int .i64 (most : Int)] W (fun r w' => ∃ g R, r = .returned (.pointer (some ⟨g, 0, none⟩)) ∧ Lg w' g R 8 win most (List.replicate 8 []) ∧ w.heap.size ≤ R ∧ w.grownBy w' none) from
    (New_any 8 win most (by omega) w1 w64 ms W).mono (fun r w' ⟨g, R, e, h1, _, h3, h4⟩ => ⟨g, R, e, h1, Nat.le_trans hW.size h3, hW.trans h4⟩)))
  have FW := Lib.hid (fun w => few_any D l c2 w hc hc2 ho.some)
  have HO := Lib.hid ho
  have mk := make_lists
  have BG := Lib.hid (fun W g R (h : Lg W g R 8 win most (List.replicate 8 [])) (hg : w.grownBy W none) (hR : w.heap.size ≤ R) c (hc : W.heap.size = c) => Md.begin h hg hR hc)
  clear ho hc hc2 hw hm
  generalize (List.replicate 8 nl).toArray = cs at mk BG
  go_enter Try.func3, Try.ntmps3
  go_wp2_with (first
    | (go_at_call 4; (with_reducible refine AL.out.mono ?_); rintro r wa ⟨rfl, hg⟩; have GA := Lib.hid hg; clear hg)
    | (go_at_call 5; (with_reducible refine (NA.out _).mono ?_); rintro r w' ⟨rfl, hw⟩; subst hw)
    | (go_at_call 5; (with_reducible refine (NB.out _).mono ?_); rintro r w' ⟨rfl, hw⟩; subst hw)
    | (go_at_call 6; (with_reducible refine (NW.out _ GA.out).mono ?_); rintro r wn ⟨g, R, rfl, hl, hR, hg⟩; have LN := Lib.hid hl; have GN := Lib.hid hg; have RN := Lib.hid hR; have M0 := Lib.hid (BG.out _ _ _ hl hg hR _ rfl); clear hl hg hR)
    | (go_at_call 7; (with_reducible refine (FW.out _).mono ?_); rintro r w' ⟨⟨l2, c4, hl1, hl2, rfl⟩, hw⟩; subst hw; have L2 := Lib.hid (⟨hl1, hl2⟩ : l2 ≤ 60 ∧ l2 ≤ l)))
  clear LN GN RN BG mk NW NA NB AL FW hl1 hl2
  generalize wn.heap.size = T at M0 ⊢
  generalize wn.alloc (.cells cs 32) = W0 at M0 ⊢
  go_loopw [9] (fun i wr => ∃ (k : Nat) (ws ls : List (List Bool)), k ≤ l2 ∧ i = .int .i64 k ∧ Md w wr g R T win most k ws ls) (fun i _ => l2 - (intOf i).toNat)
  case atStart => exact ⟨0, _, _, Nat.zero_le _, rfl, M0.out⟩
  case round =>
    obtain ⟨k, ws, ls, hk, rfl, hM⟩ := hrel
    have M1 := Lib.hid hM
    by_cases hlt : k < l2
    · obtain ⟨b, off, rfl, _, hc, _⟩ := (HO.out.kept hM.grown (by simp)) k (by have := L2.out.2; omega)
      have p0 := hc 0 (by omega)
      rw [Nat.add_zero] at p0
      have p1 := hc 1 (by omega)
      have p2 := hc 2 (by omega)
      clear hM hc
      generalize f k 0 = x0 at p0
      generalize f k 1 = x1 at p1
      generalize f k 2 = x2 at p2
      obtain ⟨t, ht, _, ht7⟩ := near_nat x1 0 7 (by omega)
      have NT := Lib.hid (fun w => (show Calls Try.prog 5 #[.int .i64 x1, .int .i64 0, .int .i64 7] w (fun e w' => e = .returned (.int .i64 (t : Int)) ∧ w = w') from by have := Near_any x1 0 7 w; rwa [show near x1 0 7 = (t : Int) from ht] at this))
      clear ht
      have l60 := L2.out.1
      have l1 : (0 : Int) ≤ (k : Int) := by omega
      have l2' : (k : Int) < l2 := by omega
      have tl : t < 8 := by omega
      by_cases hx : x0 = 1
      · subst hx
        by_cases hn : x2 < 0 ∨ 64 < x2
        · have M2 := Lib.hid (M1.out.new (World.grownBy_alloc wr (.cells #[.int .i64 1, .int .i64 (t : Int), .int .i64 x2] 30) none))
          have RN := Lib.hid (Run_no M2.out.lg t tl x2 hn)
          clear hn
          go_wp2_with (first
            | (go_at_call 5; (with_reducible refine (NT.out _).mono ?_); rintro r w' ⟨rfl, hw⟩; subst hw)
            | (go_at_call 8; (with_reducible refine RN.out.mono ?_); rintro r w' ⟨rfl, hw⟩; subst hw))
          go_roundw
          case rel => exact ⟨k + 1, _, _, by omega, by go_num, M2.out.more⟩
          case measure => simp [intOf]; omega
        · obtain ⟨n, rfl⟩ : ∃ n : Nat, x2 = n := ⟨x2.toNat, by omega⟩
          have M2 := Lib.hid (M1.out.new (World.grownBy_alloc wr (.cells #[.int .i64 1, .int .i64 (t : Int), .int .i64 (n : Int)] 30) none))
          have RL := Lib.hid M1.out.lg.R_lt
          have GD := Lib.hid ((M2.out.good t).run n)
          have RY := Lib.hid (Run_yes M2.out.lg t tl n (by omega))
          go_wp2_with (first
            | (go_at_call 5; (with_reducible refine (NT.out _).mono ?_); rintro r w' ⟨rfl, hw⟩; subst hw)
            | (go_at_call 8; (with_reducible refine RY.out.mono ?_); rintro r w2 hs; obtain ⟨rfl, hl2, hg2⟩ := hs; have S2 := Lib.hid (⟨hl2, hg2⟩ : _ ∧ _); have TB := Lib.hid (M2.out.offR hg2); have e1 : w2.cell? ⟨wr.heap.size, 1, none⟩ = some (.int .i64 (t : Int)) := hg2.cell (by go_simp) (by have := RL.out; simp; omega); have e2 : w2.cell? ⟨wr.heap.size, 2, none⟩ = some (.int .i64 (n : Int)) := hg2.cell (by go_simp) (by have := RL.out; simp; omega); obtain ⟨At, nt, ct, et, hnt, hbt⟩ := TB.out.at_ tl; have SM := Lib.hid (M2.out.small t); have PU := Lib.hid (fun W (hW : w2.grownBy W none) => put_any ((hbt.new hW).rb hnt) (by have := SM.out; have := L2.out.1; omega) n (by omega) false); clear hl2 hg2 hnt hbt))
          have tf := TB.out.free t
          have t0 : (0 : Int) ≤ (t : Int) := by omega
          have t8 : (t : Int) < 8 := by omega
          go_region_with (first
            | (go_at_call 9; (with_reducible refine (PU.out _ (by first | exact World.grownBy.refl _ _ | exact gr.grown_drew _ _ | exact li.grown_drewN _ _ _)).mono ?_); rintro r w3 ⟨A3, N3, c3, rfl, hn3, ho3, hg3⟩; have O3 := Lib.hid (ho3.mono (Nat.zero_le _)); have G3 := Lib.hid (show w2.grownBy w3 none from by first | exact hg3 | exact (gr.grown_drew _ _).trans hg3 | exact (li.grown_drewN _ _ _).trans hg3); have g1 := G3.out.cell e1 (by simp); have g2 := G3.out.cell e2 (by simp); have gf := (TB.out.new G3.out).free t; have gt := G3.out.cell et (by simp); clear hn3 ho3 hg3))
          all_goals
            go_wp2
            go_roundw
            case rel => exact ⟨k + 1, _, _, by omega, by go_num, M2.out.fin tl S2.out.1 S2.out.2 G3.out O3.out (by omega) (GD.out)⟩
            case measure => simp [intOf]; omega
      · have hx1 : decide (x0 = 1) = false := decide_eq_false hx
        have M2 := Lib.hid (M1.out.new (World.grownBy_alloc wr (.cells #[.int .i64 x0, .int .i64 (t : Int), .int .i64 x2] 30) none))
        by_cases hn : 0 ≤ x2 ∧ x2 ≤ (most : Int) ∧ cnt (beh win x2.toNat (ls.getD t []) true) ≤ most
        · obtain ⟨n, rfl⟩ : ∃ n : Nat, x2 = n := ⟨x2.toNat, by omega⟩
          rw [Int.toNat_natCast] at hn
          have RL := Lib.hid M1.out.lg.R_lt
          have WY := Lib.hid (Work_yes M2.out.lg t tl n (by omega) hn.2.2)
          have GD := Lib.hid ((M2.out.good t).work w1 n (by have := hn.2.2; rw [M2.out.like, beh_last] at this; exact this))
          have hn64 : n ≤ 64 := by omega
          clear hn
          go_wp2_with (first
            | (go_at_call 5; (with_reducible refine (NT.out _).mono ?_); rintro r w' ⟨rfl, hw⟩; subst hw)
            | (go_at_call 10; (with_reducible refine WY.out.mono ?_); rintro r w2 hs; obtain ⟨rfl, hl2, hg2⟩ := hs; have S2 := Lib.hid (⟨hl2, hg2⟩ : _ ∧ _); have TB := Lib.hid (M2.out.offR hg2); have e1 : w2.cell? ⟨wr.heap.size, 1, none⟩ = some (.int .i64 (t : Int)) := hg2.cell (by go_simp) (by have := RL.out; simp; omega); have e2 : w2.cell? ⟨wr.heap.size, 2, none⟩ = some (.int .i64 (n : Int)) := hg2.cell (by go_simp) (by have := RL.out; simp; omega); obtain ⟨At, nt, ct, et, hnt, hbt⟩ := TB.out.at_ tl; have SM := Lib.hid (M2.out.small t); have PU := Lib.hid (fun W (hW : w2.grownBy W none) => put_any ((hbt.new hW).rb hnt) (by have := SM.out; have := L2.out.1; omega) n (by omega) true); clear hl2 hg2 hnt hbt))
          have tf := TB.out.free t
          have t0 : (0 : Int) ≤ (t : Int) := by omega
          have t8 : (t : Int) < 8 := by omega
          go_region_with (first
            | (go_at_call 9; (with_reducible refine (PU.out _ (by first | exact World.grownBy.refl _ _ | exact gr.grown_drew _ _ | exact li.grown_drewN _ _ _)).mono ?_); rintro r w3 ⟨A3, N3, c3, rfl, hn3, ho3, hg3⟩; have O3 := Lib.hid (ho3.mono (Nat.zero_le _)); have G3 := Lib.hid (show w2.grownBy w3 none from by first | exact hg3 | exact (gr.grown_drew _ _).trans hg3 | exact (li.grown_drewN _ _ _).trans hg3); have g1 := G3.out.cell e1 (by simp); have g2 := G3.out.cell e2 (by simp); have gf := (TB.out.new G3.out).free t; have gt := G3.out.cell et (by simp); clear hn3 ho3 hg3))
          all_goals
            go_wp2
            go_roundw
            case rel => exact ⟨k + 1, _, _, by omega, by go_num, M2.out.fin tl S2.out.1 S2.out.2 G3.out O3.out (by omega) (GD.out)⟩
            case measure => simp [intOf]; omega
        · have WN := Lib.hid (show Calls Try.prog 10 #[.pointer (some ⟨g, 0, none⟩), .int .i64 (t : Int), .int .i64 x2] (wr.alloc (.cells #[.int .i64 x0, .int .i64 (t : Int), .int .i64 x2] 30)) (fun e w' => e = .returned (.bool false) ∧ (wr.alloc (.cells #[.int .i64 x0, .int .i64 (t : Int), .int .i64 x2] 30)).grownBy w' none) from by
            by_cases h1 : 0 ≤ x2 ∧ x2 ≤ (most : Int)
            · obtain ⟨n, rfl⟩ : ∃ n : Nat, x2 = n := ⟨x2.toNat, by omega⟩
              have A := Admit_in M2.out.lg t tl n (by omega)
              rw [decide_eq_false (fun h => hn ⟨h1.1, h1.2, by rw [Int.toNat_natCast]; exact h⟩)] at A
              exact Work_no A
            · exact Work_no (Admit_no M2.out.lg t tl x2 (by omega)))
          clear hn
          go_wp2_with (first
            | (go_at_call 5; (with_reducible refine (NT.out _).mono ?_); rintro r w' ⟨rfl, hw⟩; subst hw)
            | (go_at_call 10; (with_reducible refine WN.out.mono ?_); rintro r w2 ⟨rfl, hg⟩; have M3 := Lib.hid (M2.out.new hg); clear hg))
          go_roundw
          case rel => exact ⟨k + 1, _, _, by omega, by go_num, M3.out.more⟩
          case measure => simp [intOf]; omega
    · obtain rfl : k = l2 := by omega
      have l60 := L2.out.1
      clear hM
      go_wp2
      go_loopw [11] (fun i wx => ∃ t : Nat, t ≤ 8 ∧ i = .int .i64 t ∧ wx = wr) (fun i _ => 8 - (intOf i).toNat)
      case atStart => exact ⟨0, by omega, rfl, rfl⟩
      case round =>
        obtain ⟨t, ht, rfl, rfl⟩ := hrel
        by_cases hlt2 : t < 8
        · obtain ⟨A, n, c, et, hn, hb⟩ := M1.out.tb.at_ hlt2
          have HB := Lib.hid (hb.rb hn)
          have hnl : n ≤ 65536 := by have := M1.out.small t; omega
          have hnc := HB.out.2.1
          have hcm := HB.out.2.2.1
          have GO := Lib.hid (M1.out.good t)
          have HN := Lib.hid hn
          clear hn hb
          generalize ws.getD t [] = m at HB GO HN
          have t0 : (0 : Int) ≤ (t : Int) := by omega
          have t8 : (t : Int) < 8 := by omega
          go_wp2
          go_loopw [12] (fun i wx => ∃ j : Nat, 1 ≤ j ∧ j ≤ n + 1 ∧ i = .int .i64 j ∧ wx = wr) (fun i _ => n + 1 - (intOf i).toNat)
          case atStart => exact ⟨1, by omega, by omega, rfl, rfl⟩
          case round =>
            obtain ⟨j, hj1, hj2, rfl, rfl⟩ := hrel
            by_cases hjn : j ≤ n
            · obtain ⟨ab, ao, rfl, _⟩ := HB.out.at_ (i := 0) (by omega)
              have LC := Lib.hid (lcount_any (HB.out.less (k := j) (c' := c) hjn (by omega) hcm (fun e => by cases e)) (by omega) win w64)
              have gj := GO.out j (by rw [← HN.out]; exact hjn)
              generalize cnt (lastn win (m.take j)) = s at LC gj
              have e1 : decide ((j : Int) ≤ (n : Int)) = true := decide_eq_true (by omega)
              have e2 : decide ((most : Int) < (s : Int)) = false := decide_eq_false (by omega)
              have e3 : (j : Int) ≤ (c : Int) := by omega
              have e4 : (0 : Int) ≤ (j : Int) := by omega
              unfold maxLen at hcm
              go_wp2_with (go_at_call 11; (with_reducible refine LC.out.mono ?_); rintro r w' ⟨rfl, hw⟩; subst hw)
              go_roundw
              case rel => exact ⟨j + 1, by omega, by omega, by go_num, trivial⟩
              case measure => simp [intOf]; omega
            · have e1 : decide ((j : Int) ≤ (n : Int)) = false := decide_eq_false (by omega)
              go_wp2
              go_roundw
              case rel => exact ⟨t + 1, by omega, by go_num, trivial⟩
              case measure => simp [intOf]; omega
        · obtain rfl : t = 8 := by omega
          go_wp2
          go_ret
          exact ⟨rfl, M1.out.grown⟩
end Go.Proofs.Ytgfgchmpdocihaa.lg
