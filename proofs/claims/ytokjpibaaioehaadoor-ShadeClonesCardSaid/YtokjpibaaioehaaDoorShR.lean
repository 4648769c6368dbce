/- The walk of ShadeClones. (Printed by wip/tools/genShQ.py.) -/
import Derived.Test.YtokjpibaaioehaaDoorShQ
namespace Go.Proofs.YtokjpibaaioehaaDoor.sh
open Go.ChangeShapes Go.WideShapes Go.ChangeAt Go.RowKit gen li en gr
set_option linter.unusedVariables false
set_option maxHeartbeats 16000000
set_option maxRecDepth 100000
/-- What stands behind the three lists: the pairs, two boxed entries, a zero grey. -/
structure Fz (w : World) (g M h N r : Nat) (s t : Ps) (a b c : Nat) (W : World) : Prop where
  tw : Tw w g M h N r s t W
  ea : sk.En W a 0 0
  eb : sk.En W b 0 0
  od : Od W c
theorem Fz.new {w W W2 : World} {g M h N r a b c : Nat} {s t : Ps} (H : Fz w g M h N r s t a b c W) (hg : W.grownBy W2 none) : Fz w g M h N r s t a b c W2 := ⟨H.tw.new hg, H.ea.new hg, H.eb.new hg, H.od.new hg⟩
theorem Fz.f {w W : World} {g M h N r a b c : Nat} {s t : Ps} (H : Fz w g M h N r s t a b c W) : (W.cell? ⟨a, 0, none⟩ = some (.int .i64 0) ∧ W.cell? ⟨a, 1, none⟩ = some (.int .i64 0)) ∧ W.cell? ⟨b, 0, none⟩ = some (.int .i64 0) ∧ W.cell? ⟨b, 1, none⟩ = some (.int .i64 0) :=
  ⟨⟨H.ea.f.1, H.ea.f.2.1⟩, H.eb.f.1, H.eb.f.2.1⟩
theorem no_nil (w : World) : No w (.pointer none) := .inl rfl
theorem no_od {w : World} {B : Nat} (h : Od w B) : No w (.pointer (some ⟨B, 0, none⟩)) := .inr ⟨_, rfl, h⟩
theorem ShadeClones_any (n : Int) (D1 : Option Addr) (l1 d1 : Nat) (f1 : Nat → Nat → Int) (D2 : Option Addr) (l2 d2 : Nat) (f2 : Nat → Nat → Int) (D3 : Option Addr) (l3 d3 : Nat) (f3 : Nat → Nat → Int) (w : World)
    (ha1 : l1 ≤ d1) (hb1 : d1 ≤ maxLen) (ho1 : Rws w w.heap.size D1 l1 3 f1) (ha2 : l2 ≤ d2) (hb2 : d2 ≤ maxLen) (ho2 : Rws w w.heap.size D2 l2 3 f2) (ha3 : l3 ≤ d3) (hb3 : d3 ≤ maxLen) (ho3 : Rws w w.heap.size D3 l3 3 f3) (hT : bm.Tab w) :
    Calls Tryd.prog 4 #[.int .i64 n, .slice D1 l1 d1, .slice D2 l2 d2, .slice D3 l3 d3] w fun e w' => e = .returned (.bool true) ∧ w.grownBy w' none := by
  obtain ⟨r, hk, h1, h8⟩ := sk.near_nat n
  have NW := Lib.hid (fun W (hg : w.grownBy W none) => (New_any n r hk h1 h8 W).mono (fun e w' h => Al.of hg h))
  have RN := Lib.hid (fun W g (h : Al w g r none0 W) => (rNew_any n r hk h8 W).mono (fun e w' k => Ru.start h k))
  have RN2 := Lib.hid (fun W g M (h : Ru w g M r none0 W) => (rNew_any n r hk h8 W).mono (fun e w' k => Pr.start h k))
  have HT := Lib.hid hT
  have O1 := Lib.hid ho1
  have O2 := Lib.hid ho2
  have O3 := Lib.hid ho3
  have FW1 := Lib.hid (fun w => few_any D1 l1 d1 w ha1 hb1 ho1.some)
  have FW2 := Lib.hid (fun w => few_any D2 l2 d2 w ha2 hb2 ho2.some)
  have FW3 := Lib.hid (fun w => few_any D3 l3 d3 w ha3 hb3 ho3.some)
  clear ho1 ho2 ho3 ha1 ha2 ha3 hb1 hb2 hb3 hk h1 h8 hT
  go_enter Tryd.func4, Tryd.ntmps4
  go_upto_region 5 with (first
    | (have mark := hm2; go_at_call 8; (with_reducible refine (FW3.out _).mono ?_); rintro e w' ⟨⟨n3, c3, hl3, hm3, rfl⟩, hw⟩; subst hw; clear FW3)
    | (have mark := hm1; go_at_call 8; (with_reducible refine (FW2.out _).mono ?_); rintro e w' ⟨⟨n2, c2, hl2, hm2, rfl⟩, hw⟩; subst hw; clear FW2)
    | (go_at_call 8; (with_reducible refine (FW1.out _).mono ?_); rintro e w' ⟨⟨n1, c1, hl1, hm1, rfl⟩, hw⟩; subst hw; clear FW1)
    | (have mark := A3; go_at_call 7; (with_reducible refine (RN2.out _ _ _ A3.out).mono ?_); rintro e w4 ⟨N, rfl, hs⟩; have A4 := Lib.hid hs; clear hs)
    | (go_at_call 7; (with_reducible refine (RN.out _ _ A2.out).mono ?_); rintro e w3 ⟨M, rfl, hs⟩; have A3 := Lib.hid hs; clear hs)
    | (go_at_call 6; (with_reducible refine (NW.out _ G1.out).mono ?_); rintro e w2 ⟨g, rfl, hs⟩; have A2 := Lib.hid hs; clear hs)
    | (go_at_call 5; (with_reducible refine (alive_any _).mono ?_); rintro e w1 ⟨rfl, hg⟩; have G1 := Lib.hid hg; clear hg))
  clear A2 A3 G1 NW RN RN2
  go_wp2
  go_loopw [12] (fun i wr => ∃ (j : Nat) (s : Ps), j ≤ n1 ∧ i = .int .i64 j ∧ Pr w g M N r s s wr) (fun i _ => n1 - (intOf i).toNat)
  case atStart => exact ⟨0, _, Nat.zero_le _, rfl, A4.out⟩
  case round =>
    obtain ⟨j, s, hj, rfl, hR⟩ := hrel
    have R1 := Lib.hid hR
    have OO := Lib.hid O1.out
    have O1 := Lib.hid ((O1.out.less hm1).kept hR.grown (by simp))
    clear hR A4
    by_cases hlt : j < n1
    · obtain ⟨q, off, rfl, hq, hcc, hw⟩ := O1.out j hlt
      have RC := Lib.hid (fun W (hR : Pr w g M N r (nx r (f1 j 0) (f1 j 1) (f1 j 2) s) s W) => (by
        obtain ⟨q', off', e, hq', hcc', hw'⟩ := ((OO.out.less hm1).kept hR.grown (by simp) : Rws W _ _ _ _ _) j hlt
        injection e with e
        injection e with e1 e2 _
        subst e1 e2
        exact ⟨hcc' 0 (by omega), hcc' 1 (by omega), hcc' 2 (by omega)⟩ : W.cell? ⟨q, off + j * 3, none⟩ = some (.int .i64 (f1 j 0)) ∧ W.cell? ⟨q, off + j * 3 + 1, none⟩ = some (.int .i64 (f1 j 1)) ∧ W.cell? ⟨q, off + j * 3 + 2, none⟩ = some (.int .i64 (f1 j 2))))
      have RP := Lib.hid (fun k W (hR : Pr w g M N r k s W) => hR.replay (f1 j 0) (f1 j 1) (f1 j 2))
      have ST := Lib.hid (R1.out.step (f1 j 0) (f1 j 1) (f1 j 2))
      have p0 := hcc 0 (by omega)
      have p1 := hcc 1 (by omega)
      have p2 := hcc 2 (by omega)
      rw [Nat.add_zero] at p0
      generalize f1 j 0 = x0 at p0 ST RP RC
      generalize f1 j 1 = x1 at p1 ST RP RC
      generalize f1 j 2 = x2 at p2 ST RP RC
      have l1 : (0 : Int) ≤ (j : Int) := by omega
      have l3 : (j : Int) < n1 := by omega
      clear hcc hw O1 hq
      go_wp2_with (first
        | (go_at_call 9; (with_reducible refine (ST.out).mono ?_); rintro e w4 ⟨rfl, hs⟩; have R4 := Lib.hid hs; have p := RC.out _ hs; obtain ⟨p0, p1, p2⟩ := p; clear hs)
        | (go_at_call 11; (with_reducible refine (RP.out _ _ R4.out).mono ?_); rintro e w5 ⟨rfl, hs⟩; have R5 := Lib.hid hs; clear hs))
      go_roundw
      case rel => exact ⟨j + 1, _, by omega, by go_num, R5.out⟩
      case measure => first | (simp [intOf]; done) | (simp [intOf]; omega)
    · clear hj O1
      have CL := Lib.hid R1.out.clone
      go_wp2_with (go_at_call 12; (with_reducible refine (CL.out).mono ?_); rintro e w4 ⟨h, rfl, hs⟩; have R4 := Lib.hid hs; clear hs)
      clear CL R1
      go_loopw [14] (fun i wr => ∃ (j : Nat) (s2 : Ps), j ≤ n2 ∧ i = .int .i64 j ∧ Tw w g M h N r s2 s wr) (fun i _ => n2 - (intOf i).toNat)
      case atStart => exact ⟨0, _, Nat.zero_le _, rfl, R4.out⟩
      case round =>
        obtain ⟨j2, s2, hj, rfl, hR⟩ := hrel
        have R1 := Lib.hid hR
        have O1 := Lib.hid ((O2.out.less hm2).kept hR.grown (by simp))
        clear hR R4
        by_cases hlt : j2 < n2
        · obtain ⟨q, off, rfl, hq, hcc, hw⟩ := O1.out j2 hlt
          have ST := Lib.hid (R1.out.step1 (f2 j2 0) (f2 j2 1) (f2 j2 2))
          have p0 := hcc 0 (by omega)
          have p1 := hcc 1 (by omega)
          have p2 := hcc 2 (by omega)
          rw [Nat.add_zero] at p0
          generalize f2 j2 0 = x0 at p0 ST
          generalize f2 j2 1 = x1 at p1 ST
          generalize f2 j2 2 = x2 at p2 ST
          have l1 : (0 : Int) ≤ (j2 : Int) := by omega
          have l3 : (j2 : Int) < n2 := by omega
          clear hcc hw O1 hq
          go_wp2_with (go_at_call 9; (with_reducible refine (ST.out).mono ?_); rintro e w5 ⟨rfl, hs⟩; have R5 := Lib.hid hs; clear hs)
          go_roundw
          case rel => exact ⟨j2 + 1, _, by omega, by go_num, R5.out⟩
          case measure => first | (simp [intOf]; done) | (simp [intOf]; omega)
        · clear hj O1
          go_wp2
          go_loopw [15] (fun i wr => ∃ (j : Nat) (s3 : Ps), j ≤ n3 ∧ i = .int .i64 j ∧ Tw w g M h N r s2 s3 wr) (fun i _ => n3 - (intOf i).toNat)
          case atStart => exact ⟨0, _, Nat.zero_le _, rfl, R1.out⟩
          case round =>
            obtain ⟨j3, s3, hj, rfl, hR⟩ := hrel
            have R2 := Lib.hid hR
            have O1 := Lib.hid ((O3.out.less hm3).kept hR.grown (by simp))
            clear hR R1
            by_cases hlt : j3 < n3
            · obtain ⟨q, off, rfl, hq, hcc, hw⟩ := O1.out j3 hlt
              have ST := Lib.hid (R2.out.step2 (f3 j3 0) (f3 j3 1) (f3 j3 2))
              have p0 := hcc 0 (by omega)
              have p1 := hcc 1 (by omega)
              have p2 := hcc 2 (by omega)
              rw [Nat.add_zero] at p0
              generalize f3 j3 0 = x0 at p0 ST
              generalize f3 j3 1 = x1 at p1 ST
              generalize f3 j3 2 = x2 at p2 ST
              have l1 : (0 : Int) ≤ (j3 : Int) := by omega
              have l3 : (j3 : Int) < n3 := by omega
              clear hcc hw O1 hq
              go_wp2_with (go_at_call 9; (with_reducible refine (ST.out).mono ?_); rintro e w5 ⟨rfl, hs⟩; have R5 := Lib.hid hs; clear hs)
              go_roundw
              case rel => exact ⟨j3 + 1, _, by omega, by go_num, R5.out⟩
              case measure => first | (simp [intOf]; done) | (simp [intOf]; omega)
            · clear hj O1
              have T5 := Lib.hid (R2.out.new (World.grownBy_alloc wr (.cells #[.pointer none, .pointer none] 41) none))
              have O5 := Lib.hid (show Od (wr.alloc (.cells #[.pointer none, .pointer none] 41)) wr.heap.size from heap_alloc_new _ _)
              go_upto_region 26 with (first
                | (have mark := E6; go_at_call 13; (with_reducible refine (Next_no (no_od OD.out)).mono ?_); rintro e w7 ⟨rfl, hg⟩; have F := Lib.hid (MK.out w7 hg); clear hg)
                | (go_at_call 13; (with_reducible refine (Next_no (no_nil _)).mono ?_); rintro e w6 ⟨rfl, hg⟩; have T6 := Lib.hid (T5.out.new hg); have OD := Lib.hid ((O5.out.new hg).new (World.grownBy_alloc w6 (.cells #[.int .i64 0, .int .i64 0] 43) none)); have E6 := Lib.hid (sk.En.made w6 0 0); have MK := Lib.hid (fun w7 (hg7 : (w6.alloc (.cells #[.int .i64 0, .int .i64 0] 43)).grownBy w7 none) => (show Fz w g M h N r s2 s3 w6.heap.size w7.heap.size wr.heap.size (w7.alloc (.cells #[.int .i64 0, .int .i64 0] 43)) from ⟨((T6.out.new (World.grownBy_alloc _ _ _)).new hg7).new (World.grownBy_alloc _ _ _), (E6.out.new hg7).new (World.grownBy_alloc _ _ _), sk.En.made w7 0 0, (OD.out.new hg7).new (World.grownBy_alloc _ _ _)⟩)); clear hg))
              obtain ⟨W8, hW8⟩ : ∃ W8, W8 = w7.alloc (.cells #[.int .i64 0, .int .i64 0] 43) := ⟨_, rfl⟩
              obtain ⟨Ba, hBa⟩ : ∃ B, B = w6.heap.size := ⟨_, rfl⟩
              obtain ⟨Bb, hBb⟩ : ∃ B, B = w7.heap.size := ⟨_, rfl⟩
              obtain ⟨Bo, hBo⟩ : ∃ B, B = wr.heap.size := ⟨_, rfl⟩
              rw [← hW8, ← hBa, ← hBb, ← hBo] at F
              rw [← hW8, ← hBa, ← hBb, ← hBo]
              clear hW8 hBa hBb hBo T5 O5 T6 OD E6 MK R2 O2 O3
              dsimp only [List.append]
              obtain ⟨⟨f0, f1⟩, f2, f3⟩ := F.out.f
              go_wp2_with (first
                | (go_at_call 10; (with_reducible refine ((F.out.new (by first | exact World.grownBy.refl _ _ | exact grown_drew _ _ | exact li.grown_drewN _ _ _)).tw.told1 (HT.out.kept (F.out.new (by first | exact World.grownBy.refl _ _ | exact grown_drew _ _ | exact li.grown_drewN _ _ _)).tw.grown (by simp))).mono ?_); rintro e w9 ⟨rfl, hg9⟩; replace F := Lib.hid (F.out.new (World.grownBy.trans (by first | exact World.grownBy.refl _ _ | exact grown_drew _ _ | exact li.grown_drewN _ _ _) hg9)); obtain ⟨⟨f0, f1⟩, f2, f3⟩ := F.out.f; clear hg9)
                | (go_at_call 10; (with_reducible refine ((F.out.new (by first | exact World.grownBy.refl _ _ | exact grown_drew _ _ | exact li.grown_drewN _ _ _)).tw.told2 (HT.out.kept (F.out.new (by first | exact World.grownBy.refl _ _ | exact grown_drew _ _ | exact li.grown_drewN _ _ _)).tw.grown (by simp))).mono ?_); rintro e w9 ⟨rfl, hg9⟩; replace F := Lib.hid (F.out.new (World.grownBy.trans (by first | exact World.grownBy.refl _ _ | exact grown_drew _ _ | exact li.grown_drewN _ _ _) hg9)); obtain ⟨⟨f0, f1⟩, f2, f3⟩ := F.out.f; clear hg9)
                | (go_at_call 14; (with_reducible refine (Shade_no (no_nil _) 1).mono ?_); rintro e w9 ⟨rfl, hg9⟩; replace F := Lib.hid (F.out.new (World.grownBy.trans (by first | exact World.grownBy.refl _ _ | exact grown_drew _ _ | exact li.grown_drewN _ _ _) hg9)); obtain ⟨⟨f0, f1⟩, f2, f3⟩ := F.out.f; clear hg9)
                | (go_at_call 14; (with_reducible refine (Shade_no (no_od (F.out.new (by first | exact World.grownBy.refl _ _ | exact grown_drew _ _ | exact li.grown_drewN _ _ _)).od) 1).mono ?_); rintro e w9 ⟨rfl, hg9⟩; replace F := Lib.hid (F.out.new (World.grownBy.trans (by first | exact World.grownBy.refl _ _ | exact grown_drew _ _ | exact li.grown_drewN _ _ _) hg9)); obtain ⟨⟨f0, f1⟩, f2, f3⟩ := F.out.f; clear hg9)
                | (go_at_call 15; (with_reducible refine (Is_no (no_nil _) 1).mono ?_); rintro e w9 ⟨rfl, hg9⟩; replace F := Lib.hid (F.out.new (World.grownBy.trans (by first | exact World.grownBy.refl _ _ | exact grown_drew _ _ | exact li.grown_drewN _ _ _) hg9)); obtain ⟨⟨f0, f1⟩, f2, f3⟩ := F.out.f; clear hg9)
                | (go_at_call 16; (with_reducible refine (Black_no (no_od (F.out.new (by first | exact World.grownBy.refl _ _ | exact grown_drew _ _ | exact li.grown_drewN _ _ _)).od) 1).mono ?_); rintro e w9 ⟨rfl, hg9⟩; replace F := Lib.hid (F.out.new (World.grownBy.trans (by first | exact World.grownBy.refl _ _ | exact grown_drew _ _ | exact li.grown_drewN _ _ _) hg9)); obtain ⟨⟨f0, f1⟩, f2, f3⟩ := F.out.f; clear hg9)
                | (go_at_call 17; (with_reducible refine (Clear_no (no_nil _) 1).mono ?_); rintro e w9 ⟨rfl, hg9⟩; replace F := Lib.hid (F.out.new (World.grownBy.trans (by first | exact World.grownBy.refl _ _ | exact grown_drew _ _ | exact li.grown_drewN _ _ _) hg9)); obtain ⟨⟨f0, f1⟩, f2, f3⟩ := F.out.f; clear hg9)
                | (go_at_call 18; (with_reducible refine (Count_no (no_nil _)).mono ?_); rintro e w9 ⟨rfl, hg9⟩; replace F := Lib.hid (F.out.new (World.grownBy.trans (by first | exact World.grownBy.refl _ _ | exact grown_drew _ _ | exact li.grown_drewN _ _ _) hg9)); obtain ⟨⟨f0, f1⟩, f2, f3⟩ := F.out.f; clear hg9)
                | (go_at_call 18; (with_reducible refine (Count_no (no_od (F.out.new (by first | exact World.grownBy.refl _ _ | exact grown_drew _ _ | exact li.grown_drewN _ _ _)).od)).mono ?_); rintro e w9 ⟨rfl, hg9⟩; replace F := Lib.hid (F.out.new (World.grownBy.trans (by first | exact World.grownBy.refl _ _ | exact grown_drew _ _ | exact li.grown_drewN _ _ _) hg9)); obtain ⟨⟨f0, f1⟩, f2, f3⟩ := F.out.f; clear hg9)
                | (go_at_call 19; (with_reducible refine (Rest_no (no_nil _) 0 0).mono ?_); rintro e w9 ⟨rfl, hg9⟩; replace F := Lib.hid (F.out.new (World.grownBy.trans (by first | exact World.grownBy.refl _ _ | exact grown_drew _ _ | exact li.grown_drewN _ _ _) hg9)); obtain ⟨⟨f0, f1⟩, f2, f3⟩ := F.out.f; clear hg9)
                | (go_at_call 19; (with_reducible refine (Rest_no (no_od (F.out.new (by first | exact World.grownBy.refl _ _ | exact grown_drew _ _ | exact li.grown_drewN _ _ _)).od) 0 0).mono ?_); rintro e w9 ⟨rfl, hg9⟩; replace F := Lib.hid (F.out.new (World.grownBy.trans (by first | exact World.grownBy.refl _ _ | exact grown_drew _ _ | exact li.grown_drewN _ _ _) hg9)); obtain ⟨⟨f0, f1⟩, f2, f3⟩ := F.out.f; clear hg9)
                | (go_at_call 20; (with_reducible refine (Waiting_no (no_nil _)).mono ?_); rintro e w9 ⟨rfl, hg9⟩; replace F := Lib.hid (F.out.new (World.grownBy.trans (by first | exact World.grownBy.refl _ _ | exact grown_drew _ _ | exact li.grown_drewN _ _ _) hg9)); obtain ⟨⟨f0, f1⟩, f2, f3⟩ := F.out.f; clear hg9)
                | (go_at_call 21; (with_reducible refine (Over_no (no_od (F.out.new (by first | exact World.grownBy.refl _ _ | exact grown_drew _ _ | exact li.grown_drewN _ _ _)).od)).mono ?_); rintro e w9 ⟨rfl, hg9⟩; replace F := Lib.hid (F.out.new (World.grownBy.trans (by first | exact World.grownBy.refl _ _ | exact grown_drew _ _ | exact li.grown_drewN _ _ _) hg9)); obtain ⟨⟨f0, f1⟩, f2, f3⟩ := F.out.f; clear hg9)
                | (go_at_call 22; (with_reducible refine (Settle_no (no_nil _)).mono ?_); rintro e w9 ⟨rfl, hg9⟩; replace F := Lib.hid (F.out.new (World.grownBy.trans (by first | exact World.grownBy.refl _ _ | exact grown_drew _ _ | exact li.grown_drewN _ _ _) hg9)); obtain ⟨⟨f0, f1⟩, f2, f3⟩ := F.out.f; clear hg9)
                | (go_at_call 23; (with_reducible refine (All_no (no_nil _)).mono ?_); rintro e w9 ⟨rfl, hg9⟩; replace F := Lib.hid (F.out.new (World.grownBy.trans (by first | exact World.grownBy.refl _ _ | exact grown_drew _ _ | exact li.grown_drewN _ _ _) hg9)); obtain ⟨⟨f0, f1⟩, f2, f3⟩ := F.out.f; clear hg9)
                | (go_at_call 12; (with_reducible refine (Clone_no (no_nil _)).mono ?_); rintro e w9 ⟨rfl, hg9⟩; replace F := Lib.hid (F.out.new (World.grownBy.trans (by first | exact World.grownBy.refl _ _ | exact grown_drew _ _ | exact li.grown_drewN _ _ _) hg9)); obtain ⟨⟨f0, f1⟩, f2, f3⟩ := F.out.f; clear hg9)
                | (go_at_call 12; (with_reducible refine (Clone_no (no_od (F.out.new (by first | exact World.grownBy.refl _ _ | exact grown_drew _ _ | exact li.grown_drewN _ _ _)).od)).mono ?_); rintro e w9 ⟨rfl, hg9⟩; replace F := Lib.hid (F.out.new (World.grownBy.trans (by first | exact World.grownBy.refl _ _ | exact grown_drew _ _ | exact li.grown_drewN _ _ _) hg9)); obtain ⟨⟨f0, f1⟩, f2, f3⟩ := F.out.f; clear hg9))
              go_ret
              exact ⟨rfl, F.out.tw.grown⟩
end Go.Proofs.YtokjpibaaioehaaDoor.sh
