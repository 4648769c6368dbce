/- Texts that this claim stands on. -/
import Derived.Test.YtkgdcgmbapchcaaGreatDoorPCzY
import Derived.Test.YtkgdcgmbapchcaaGreatDoorPCzS
namespace Go.Proofs.YtkgdcgmbapchcaaGreatDoor.cy
open Go.ChangeShapes Go.WideShapes Go.ChangeAt Go.RowKit gen calls cls geos ce st sh
set_option linter.unusedVariables false
set_option maxHeartbeats 16000000
set_option maxRecDepth 100000
section
variable {w0 W W' w w1 w' : World} {k : Kn} {c : Cb} {L0 K0 L K M : List Nat} {σ τ : Cy} {v : Value} {m : Nat} {xs : List Value}
def Cv (w : World) (k : Kn) (c : Cb) (σ : Cy) (v : Value) (m : Nat) (xs : List Value) (W : World) : Prop := ∃ L K, Cw W k c L K σ ∧ Tb W c L K ∧ w.grownBy W none ∧ (∀ q, q ∈ al c L K → w.heap.size ≤ q) ∧ W.ownsRow w.heap.size 3 1 v m xs ∧ ∀ q, v.ownBlock = some q → q ∉ al c L K
theorem Cv.cs (h : Cv w k c σ v m xs W) : Cs w k c σ W := by
  obtain ⟨L, K, H, T, g, f, _⟩ := h
  exact ⟨L, K, H, T, g, f⟩
theorem Cv.own (h : Cv w k c σ v m xs W) : W.ownsRow w.heap.size 3 1 v m xs := by
  obtain ⟨_, _, _, _, _, _, h, _⟩ := h
  exact h
theorem Cv.new (h : Cv w k c σ v m xs W) (hg : W.grownBy W' none) : Cv w k c σ v m xs W' := by
  obtain ⟨L, K, H, T, g, f, o, a⟩ := h
  exact ⟨L, K, H.new hg, T.new hg, g.trans hg, f, own_new o hg, a⟩
theorem Cv.nil (h : Cs w k c σ W) : Cv w k c σ (.slice none 0 0) 0 [] W := by
  obtain ⟨L, K, H, T, g, f⟩ := h
  exact ⟨L, K, H, T, g, f, World.ownsRow_nil _ _ _ _, fun q hq => by cases hq⟩
theorem Cs.cv (h : Cs w k c σ W) (hg : W.grownBy W' none) (ho : W'.ownsRow W.heap.size 3 1 v m xs) : Cv w k c σ v m xs W' := by
  obtain ⟨L, K, H, T, g, f⟩ := h
  exact ⟨L, K, H.new hg, T.new hg, g.trans hg, f, bm.own_mono ho g.size, fun q hq hm => by
    have h1 := own_base ho q hq
    have h2 := H.lt q hm
    omega⟩
theorem own_in {base n s : Nat} {t : TypeId} {v : Value} {xs : List Value} (h : w.ownsRow base t s v n xs) : ∀ q, v.ownBlock = some q → q < w.heap.size := fun q e => by
  rcases h.2 with ⟨rfl, _⟩ | ⟨g, cap, cur, rfl, _, hg, _⟩
  · cases e
  · injection e with e
    subst e
    exact (Array.getElem?_eq_some_iff.1 hg).1
theorem Cv.do_ (h : Cv w k c σ v m xs W) (A : Al k σ) (kd t n i j v1 v2 : Int) : Calls Tryz.prog 18 #[.pointer (some ⟨c.B, 0, none⟩), .agg #[.int .i64 kd, .int .i64 t, .int .i64 n, .int .i64 i, .int .i64 j, .int .i64 v1, .int .i64 v2]] W fun e w' => e = .returned (.tuple #[]) ∧ ∃ τ, Did k σ kd τ ∧ Cv w k c τ v m xs w' := by
  obtain ⟨L, K, H, T, g, f, o, a⟩ := h
  refine (do_any H T A).mono fun e w' ⟨e1, τ, d, x⟩ => ⟨e1, τ, d, ?_⟩
  obtain ⟨L', K', b1, b2, H', g', T'⟩ := x.tb T
  exact ⟨L', K', H', T', grz g g' f, fun q hq => (al_old b1 b2 q hq).elim (f q) fun h => Nat.le_trans g.size h, gr.own_gr_any o g' a, fun q hq hm => (al_old b1 b2 q hm).elim (a q hq) fun h => by have := own_in o q hq; omega⟩
theorem rsub {l : List Int} {p : Int → Bool} {b n : Nat} (hn : l.length = n) (hb : b ≤ n) : ((l.take b).filter p).length ≤ n := by
  have h1 := List.length_filter_le p (l.take b)
  have h2 : (l.take b).length ≤ n := by rw [List.length_take]; omega
  omega
end
theorem CycleFrees_any (a0 a1 a2 a3 a4 a5 a6 a7 a8 a9 : Int) (D : Option Addr) (l c2 : Nat) (fo : Nat → Nat → Int) (w : World) (hc : l ≤ c2) (hc2 : c2 ≤ maxLen) (ho : Rws w w.heap.size D l 7 fo) (hB : bm.Tab w) (hC : cf.Table w) :
    Calls Tryz.prog 6 #[.agg #[.int .i64 a0, .int .i64 a1, .int .i64 a2, .int .i64 a3, .int .i64 a4, .int .i64 a5, .int .i64 a6, .int .i64 a7, .int .i64 a8, .int .i64 a9], .slice D l c2] w fun e w' => e = .returned (.bool true) ∧ w.grownBy w' none := by
  obtain ⟨i0, hi0, hz0, hz1, hz2⟩ := info_parts li.info_int
  have E : Hid (i0.zero = some (.int .i64 0) ∧ i0.size = 1 ∧ i0.bytes = 8 ∧ Tryz.prog.info? 3 = some i0) := ⟨hz0, hz1, hz2, hi0⟩
  have ML : 4096 ≤ maxLen := by unfold maxLen; omega
  clear hi0 hz0 hz1 hz2
  have TEN := Lib.hid (ten_at w a0 a1 a2 a3 a4 a5 a6 a7 a8 a9)
  have BX := Lib.hid (World.grownBy_alloc w (.cells #[.int .i64 a0, .int .i64 a1, .int .i64 a2, .int .i64 a3, .int .i64 a4, .int .i64 a5, .int .i64 a6, .int .i64 a7, .int .i64 a8, .int .i64 a9] 23) none)
  have AL := Lib.hid (fun W (hg : w.grownBy W none) => alive_any (hC.below (li.grown_below hg)) (hB.kept hg (by simp)))
  have FW := Lib.hid (fun w => few_any D l c2 w hc hc2 ho.some)
  have HO := Lib.hid ho
  by_cases hw : cf.wrongN [a0, a1, a2, a3, a4, a5, a6, a7, a8, a9] = 0
  · obtain ⟨k, σ, R0, -, -, PH0, NW⟩ := new_cs hw
    have CK := Lib.hid (fun W (hg : w.grownBy W none) => cf.Check_yes _ _ _ _ _ _ _ _ _ _ _ (hC.below (li.grown_below hg)) hw)
    have NW := Lib.hid (fun W (hg : w.grownBy W none) => NW w W (hC.below (li.grown_below hg)) hB hg)
    have R0 := Lib.hid R0
    have PH0 := Lib.hid PH0
    clear ho hc hc2 hB hC hw
    go_enter Tryz.func6, Tryz.ntmps6
    go_wp2_with (first
      | (go_at_call 9; (with_reducible refine (AL.out _ BX.out).mono ?_); rintro e w1 ⟨rfl, hg⟩; have G1 := Lib.hid hg; obtain ⟨z0, z1, z2, z3, z4, z5, z6, z7, z8, z9⟩ := TEN.out _ hg; clear hg)
      | (go_at_call 11; (with_reducible refine (CK.out _ (BX.out.trans G1.out)).mono ?_); rintro e w2 ⟨rfl, hb⟩; have G2 := Lib.hid (G1.out.trans (ro.grown_of hb)); clear z0 z1 z2 z3 z4 z5 z6 z7 z8 z9; obtain ⟨z0, z1, z2, z3, z4, z5, z6, z7, z8, z9⟩ := TEN.out _ G2.out; clear hb)
      | (go_at_call 10; (with_reducible refine (NW.out _ (BX.out.trans G2.out)).mono ?_); rintro e w3 ⟨c, rfl, hs⟩; have S3 := Lib.hid hs; clear z0 z1 z2 z3 z4 z5 z6 z7 z8 z9 hs)
      | (go_at_call 13; (with_reducible refine (FW.out _).mono ?_); rintro e w4 ⟨⟨l2, c4, l60, hl2, rfl⟩, hw⟩; subst hw))
    go_loopw [7, 8] (fun vd i wr => ∃ (j : Nat) (σ : Cy) (S : List Int) (n : Nat) (Ad : Option Addr) (cd : Nat), j ≤ l2 ∧ i = .int .i64 j ∧ vd = .slice Ad n cd ∧ S.length = n ∧ n ≤ 2048 ∧ Ru k j σ ∧ Fz k S σ ∧ Cv w k c σ (.slice Ad n cd) n (S.map (Value.int .i64)) wr) (fun _ i _ => l2 - (intOf i).toNat)
    case atStart => exact ⟨0, σ, [], 0, none, 0, Nat.zero_le _, rfl, rfl, rfl, Nat.zero_le _, R0.out, .none (by rw [PH0.out]; omega), .nil S3.out⟩
    case round =>
      clear S3 R0
      obtain ⟨j, σ, S, n, Ad, cd, hj, rfl, rfl, hSn, n8, hR, hF, hS⟩ := hrel
      have R1 := Lib.hid hR
      have S1 := Lib.hid hS
      have F1 := Lib.hid hF
      have SN := Lib.hid hSn
      clear hR hS hF hSn
      by_cases hlt : j < l2
      · obtain ⟨q, off, rfl, ROW⟩ := row_at (HO.out.less hl2) hlt
        obtain ⟨p0, p1, p2, p3, p4, p5, p6⟩ := ROW _ S1.out.cs.gr
        have DO := Lib.hid (S1.out.do_ (R1.out.al (by omega)) (fo j 0) (fo j 1) (fo j 2) (fo j 3) (fo j 4) (fo j 5) (fo j 6))
        have PH := Lib.hid S1.out.cs.phase
        have CC := Lib.hid S1.out.cs.cycles
        clear ROW
        generalize fo j 0 = x0 at *
        generalize fo j 1 = x1 at *
        generalize fo j 2 = x2 at *
        generalize fo j 3 = x3 at *
        generalize fo j 4 = x4 at *
        generalize fo j 5 = x5 at *
        generalize fo j 6 = x6 at *
        have l1 : (0 : Int) ≤ (j : Int) := by omega
        have l3 : (j : Int) < l2 := by omega
        go_upto_region 13 with (first
          | (go_at_call 21; (with_reducible refine PH.out.mono ?_); rintro e w3 ⟨rfl, hw⟩; subst hw)
          | (go_at_call 24; (with_reducible refine CC.out.mono ?_); rintro e w3 ⟨rfl, hw⟩; subst hw)
          | (go_at_call 18; (with_reducible refine DO.out.mono ?_); rintro e w5 ⟨rfl, τ, hd, hs⟩; have R5 := Lib.hid (R1.out.did (by omega) hd); have S5 := Lib.hid hs; have HD := Lib.hid hd; clear hd hs p0 p1 p2 p3 p4 p5 p6))
        clear DO PH CC
        have PH5 := Lib.hid (fun W (hg : w5.grownBy W none) => (S5.out.new hg).cs.phase)
        have CC5 := Lib.hid (fun W (h : Cs w k c τ W) => h.cycles)
        obtain ⟨m, hm⟩ : ∃ m, τ.x.tk.length = m := ⟨_, rfl⟩
        have m8 : m ≤ 2048 := by rw [← hm]; exact R5.out.hi.few
        have OB := Lib.hid (fun W (h : Cs w k c τ W) => h.objects hm)
        obtain ⟨als, hals⟩ : ∃ ys, bm.rising (τ.x.tk.map (ser τ.x)) = ys := ⟨_, rfl⟩
        obtain ⟨na, hna⟩ : ∃ m, als.length = m := ⟨_, rfl⟩
        have na8 : na ≤ 2048 := by have := bm.rising_length (τ.x.tk.map (ser τ.x)); rw [hals, hna, List.length_map, hm] at this; omega
        have SO := Lib.hid (fun W (h : Cs w k c τ W) A d (hr : Rd W W.heap.size A m d τ.x.tk) => h.serials hr m8 (fun a ha => ha) hals hna)
        have AM := Lib.hid (show als.length = na ∧ ∀ s, s ∈ als ↔ ∃ a ∈ τ.x.tk, ser τ.x a = s from ⟨hna, fun s => by rw [← hals, bm.mem_rising, List.mem_map]⟩)
        have s8 := (R1.out.al (by omega)).s8
        have s85 := (R5.out.al (by omega)).s8
        clear hm hals hna
        by_cases hA : σ.ph ≤ 1 ∧ 2 ≤ τ.ph
        · have A2 := Lib.hid (HD.out.at2 R1.out.hi hA.1 hA.2)
          have t1 : decide ((σ.ph : Int) < 2) = true := decide_eq_true (by omega)
          have t2 : decide ((2 : Int) ≤ (τ.ph : Int)) = true := decide_eq_true (by omega)
          have t3 : ¬ σ.cy < τ.cy := fun e => by have := HD.out.ended e; omega
          obtain ⟨xs, hx1, hx2⟩ := rea_ex R5.out.hi
          obtain ⟨mr, hmr⟩ : ∃ m, xs.length = m := ⟨_, rfl⟩
          obtain ⟨ys, hys⟩ : ∃ ys, bm.rising (xs.map (ser τ.x)) = ys := ⟨_, rfl⟩
          obtain ⟨ny, hny⟩ : ∃ m, ys.length = m := ⟨_, rfl⟩
          have XT := Lib.hid (show ∀ a ∈ xs, a ∈ τ.x.tk from fun a ha => (((hx2 a).1 ha).good R5.out.hi).1)
          have mr8 : mr ≤ 2048 := by rw [← hmr]; exact bf.room 2048 _ (hx1.imp (fun h => by omega)) fun a ha => by have := R5.out.hi.rg (XT.out a ha); omega
          have ny8 : ny ≤ 2048 := by have := bm.rising_length (xs.map (ser τ.x)); rw [hys, hny, List.length_map, hmr] at this; omega
          have RE := Lib.hid (S5.out.cs.reached R5.out.hi hx1 hx2 hmr)
          have SE := Lib.hid (fun W (h : Cs w k c τ W) A d (hr : Rd W W.heap.size A mr d xs) => h.serials hr mr8 XT.out hys hny)
          have YM := Lib.hid (show ∀ a, Rea k τ a → ser τ.x a ∈ ys from fun a r => by rw [← hys, bm.mem_rising]; exact List.mem_map_of_mem ((hx2 a).2 r))
          have P2 := Lib.hid hA.2
          clear hx1 hx2 hmr hys hny hA XT
          go_wp2_with (first
            | (go_at_call 21; (with_reducible refine (PH5.out _ (World.grownBy.refl _ _)).mono ?_); rintro e w6 ⟨rfl, hw⟩; subst hw)
            | (go_at_call 16; (with_reducible refine RE.out.mono ?_); rintro e w6 ⟨A6, d6, rfl, ho6, hg6⟩; have O6 := Lib.hid ho6; have G6 := Lib.hid hg6; clear ho6 hg6)
            | (have mark := G8; go_at_call 17; (with_reducible refine (SO.out _ (S5.out.cs.new G8.out) _ _ (bm.rd_own O8.out)).mono ?_); rintro e w9 ⟨A9, d9, rfl, ho9, hg9⟩; have D9 := Lib.hid (bm.rd_own ho9); have D7' := Lib.hid (rd_new (rd_new D7.out G78.out) hg9); have G9 := Lib.hid (G8.out.trans hg9); clear ho9 hg9)
            | (go_at_call 17; (with_reducible refine (SE.out _ (S5.out.cs.new G6.out) _ _ (bm.rd_own O6.out)).mono ?_); rintro e w7 ⟨A7, d7, rfl, ho7, hg7⟩; have D7 := Lib.hid (bm.rd_own ho7); have G7 := Lib.hid (G6.out.trans hg7); clear ho7 hg7)
            | (go_at_call 20; (with_reducible refine (OB.out _ (S5.out.cs.new G7.out)).mono ?_); rintro e w8 ⟨A8, d8, rfl, ho8, hg8⟩; have O8 := Lib.hid ho8; have G78 := Lib.hid hg8; have G8 := Lib.hid (G7.out.trans hg8); clear ho8 hg8))
          go_loopw [7, 15] (fun vd i wr => ∃ (b nd : Nat) (Ad : Option Addr) (cd : Nat), b ≤ na ∧ i = .int .i64 b ∧ vd = .slice Ad nd cd ∧ ((als.take b).filter fun s => !decide (s ∈ ys)).length = nd ∧ wr.ownsRow w9.heap.size 3 1 (.slice Ad nd cd) nd (((als.take b).filter fun s => !decide (s ∈ ys)).map (Value.int .i64)) ∧ w9.grownBy wr none) (fun _ i _ => na - (intOf i).toNat)
          case atStart => exact ⟨0, 0, none, 0, Nat.zero_le _, rfl, rfl, rfl, World.ownsRow_nil _ _ _ _, World.grownBy.refl _ _⟩
          case round =>
            obtain ⟨b, nd, Ad, cd, hb, rfl, rfl, hnd, ho, hg⟩ := hrel
            have nd8 : nd ≤ 2048 := by rw [← hnd]; exact Nat.le_trans (rsub AM.out.1 hb) na8
            have ND := Lib.hid hnd
            have O10 := Lib.hid ho
            have G10 := Lib.hid hg
            have DA := Lib.hid (rd_new D9.out hg)
            have DY := Lib.hid (rd_new D7'.out hg)
            clear hnd ho hg
            by_cases hbn : b < na
            · have BN := Lib.hid hbn
              obtain ⟨b9, o9, rfl, q0⟩ := DA.out.at_ hbn
              have FM := Lib.hid (bm.filter_more (xs := als) (k := b) (by rw [AM.out.1]; exact hbn) (fun s => !decide (s ∈ ys)))
              have l4 : (b : Int) < na := by omega
              have l5 : (0 : Int) ≤ b := by omega
              clear hbn
              generalize als.getD b 0 = z at q0 FM
              by_cases hz : z ∈ ys
              · have e1 := Lib.hid (decide_eq_true hz)
                have FM := Lib.hid (show (als.take (b + 1)).filter (fun s => !decide (s ∈ ys)) = (als.take b).filter (fun s => !decide (s ∈ ys)) from by rw [FM.out, e1.out]; simp)
                clear hz
                go_wp2_with (go_at_call 25; (with_reducible refine (bm.In_any (by omega) DY.out _).mono ?_); rintro e w' ⟨rfl, hw⟩; subst hw; rw [e1.out])
                go_roundw
                case rel => exact ⟨b + 1, nd, _, cd, BN.out, by go_num, rfl, by rw [FM.out]; exact ND.out, by rw [FM.out]; exact O10.out, G10.out⟩
                case measure => have := BN.out; first | (simp [intOf]; done) | (simp [intOf]; omega)
              · have e1 := Lib.hid (decide_eq_false hz)
                have FM := Lib.hid (show (als.take (b + 1)).filter (fun s => !decide (s ∈ ys)) = (als.take b).filter (fun s => !decide (s ∈ ys)) ++ [z] from by rw [FM.out, e1.out]; simp)
                clear hz
                go_wp2_with (first
                  | (go_at_call 25; (with_reducible refine (bm.In_any (by omega) DY.out _).mono ?_); rintro e w' ⟨rfl, hw⟩; subst hw; rw [e1.out])
                  | (refine wpList_append_lies _ rfl (.tmp 78) (.tmp 83) 41 rfl w9.heap.size 3 i0 (.int .i64 0) 1 8 Tryz.underlying41 E.out.2.2.2 E.out.1 E.out.2.1 E.out.2.2.1 rfl (by decide) _ nd (((als.take b).filter fun s => !decide (s ∈ ys)).map (Value.int .i64)) rfl (O10.out.alloc _) ⟨_, 0, none⟩ 1 1 [.int .i64 z] rfl rfl (World.news_of_block (heap_alloc_new _ _)) (by intro u hu; rw [List.mem_singleton.1 hu]; rfl) (by omega) (by omega) (by omega) (by have := G10.out.size; simp; omega) _ rfl ?_; intro g cap w11 own11 gr11 at11 lt11; have O11 := Lib.hid (show w11.ownsRow w9.heap.size 3 1 (.slice (some ⟨g, 0, none⟩) (nd + 1) cap) (nd + 1) (((als.take (b + 1)).filter fun s => !decide (s ∈ ys)).map (Value.int .i64)) from by rw [FM.out, List.map_append]; exact own11); have G11 := Lib.hid (bm.grown_one G10.out O10.out (Nat.le_refl _) gr11); clear own11 gr11 at11 lt11))
                go_roundw
                case rel => exact ⟨b + 1, nd + 1, _, cap, BN.out, by go_num, rfl, by rw [FM.out, List.length_append, ND.out]; rfl, O11.out, G11.out⟩
                case measure => have := BN.out; first | (simp [intOf]; done) | (simp [intOf]; omega)
            · obtain rfl : b = na := by omega
              have TA := Lib.hid (List.take_of_length_le (Nat.le_of_eq AM.out.1))
              have C10 := Lib.hid (CC5.out _ (S5.out.cs.new (G9.out.trans G10.out)))
              go_wp2_with (go_at_call 24; (with_reducible refine C10.out.mono ?_); rintro e w12 ⟨rfl, hw⟩; subst hw)
              go_roundw
              case rel =>
                refine ⟨j + 1, τ, als.filter fun s => !decide (s ∈ ys), nd, Ad, cd, by omega, by go_num, rfl, ?_, nd8, R5.out, .new R5.out.hi P2.out (by omega) A2.out (fun s hs => ?_) (fun a r hs => ?_), ?_⟩
                · have := ND.out; rw [TA.out] at this; exact this
                · exact (AM.out.2 s).1 (List.mem_filter.1 hs).1
                · have := (List.mem_filter.1 hs).2
                  rw [decide_eq_true (YM.out a r)] at this
                  cases this
                · have := O10.out
                  rw [TA.out] at this
                  exact (S5.out.cs.new G9.out).cv G10.out this
              case measure => first | (simp [intOf]; done) | (simp [intOf]; omega)
        · have F5 := Lib.hid (HD.out.fz R1.out.hi R1.out.hk s8 F1.out hA)
          by_cases hcy : σ.cy < τ.cy
          · have t3 : decide ((σ.cy : Int) < (τ.cy : Int)) = true := decide_eq_true (by omega)
            have LO := Lib.hid (fun s (hs : s ∈ S) (h2 : s ∈ als) => by
              obtain ⟨a, ha, e⟩ := (AM.out.2 s).1 h2
              exact F5.out.lo (HD.out.ended hcy) a ha (by rw [e]; exact hs))
            by_cases hs1 : σ.ph ≤ 1
            · have t1 : decide ((σ.ph : Int) < 2) = true := decide_eq_true (by omega)
              have t2 : decide ((2 : Int) ≤ (τ.ph : Int)) = false := decide_eq_false (by omega)
              go_wp2_with (first
                | (go_at_call 21; (with_reducible refine (PH5.out _ (World.grownBy.refl _ _)).mono ?_); rintro e w6 ⟨rfl, hw⟩; subst hw)
                | (go_at_call 24; (with_reducible refine (CC5.out _ S5.out.cs).mono ?_); rintro e w6 ⟨rfl, hw⟩; subst hw)
                | (go_at_call 17; (with_reducible refine (SO.out _ (S5.out.cs.new G8.out) _ _ (bm.rd_own O8.out)).mono ?_); rintro e w9 ⟨A9, d9, rfl, ho9, hg9⟩; have D9 := Lib.hid (bm.rd_own ho9); have G9 := Lib.hid (G8.out.trans hg9); clear ho9 hg9)
                | (go_at_call 20; (with_reducible refine (OB.out _ S5.out.cs).mono ?_); rintro e w8 ⟨A8, d8, rfl, ho8, hg8⟩; have O8 := Lib.hid ho8; have G8 := Lib.hid hg8; clear ho8 hg8))
              go_loopw [17] (fun i wr => ∃ b : Nat, b ≤ n ∧ i = .int .i64 b ∧ w9.grownBy wr none) (fun i _ => n - (intOf i).toNat)
              case atStart => exact ⟨0, Nat.zero_le _, rfl, World.grownBy.refl _ _⟩
              case round =>
                obtain ⟨b, hb, rfl, hg⟩ := hrel
                have G10 := Lib.hid hg
                have DA := Lib.hid (rd_new D9.out hg)
                have DS := Lib.hid (bm.rd_own (S5.out.new (G9.out.trans hg)).own)
                clear hg
                by_cases hbn : b < n
                · have BN := Lib.hid hbn
                  obtain ⟨b9, o9, rfl, q0⟩ := DS.out.at_ hbn
                  have ZS := Lib.hid (bm.getD_mem (xs := S) (k := b) (by rw [SN.out]; exact hbn) 0)
                  have l4 : (b : Int) < n := by omega
                  have l5 : (0 : Int) ≤ b := by omega
                  clear hbn
                  generalize S.getD b 0 = z at q0 ZS
                  have e1 := Lib.hid (decide_eq_false (LO.out z ZS.out))
                  go_wp2_with (go_at_call 25; (with_reducible refine (bm.In_any (by omega) DA.out _).mono ?_); rintro e w' ⟨rfl, hw⟩; subst hw; rw [e1.out])
                  go_roundw
                  case rel => exact ⟨b + 1, BN.out, by go_num, G10.out⟩
                  case measure => have := BN.out; first | (simp [intOf]; done) | (simp [intOf]; omega)
                · obtain rfl : b = n := by omega
                  go_wp2
                  go_roundw
                  case rel => exact ⟨j + 1, τ, S, b, Ad, cd, by omega, by go_num, rfl, SN.out, n8, R5.out, F5.out, S5.out.new (G9.out.trans G10.out)⟩
                  case measure => first | (simp [intOf]; done) | (simp [intOf]; omega)
            · have t1 : decide ((σ.ph : Int) < 2) = false := decide_eq_false (by omega)
              go_wp2_with (first
                | (go_at_call 21; (with_reducible refine (PH5.out _ (World.grownBy.refl _ _)).mono ?_); rintro e w6 ⟨rfl, hw⟩; subst hw)
                | (go_at_call 24; (with_reducible refine (CC5.out _ S5.out.cs).mono ?_); rintro e w6 ⟨rfl, hw⟩; subst hw)
                | (go_at_call 17; (with_reducible refine (SO.out _ (S5.out.cs.new G8.out) _ _ (bm.rd_own O8.out)).mono ?_); rintro e w9 ⟨A9, d9, rfl, ho9, hg9⟩; have D9 := Lib.hid (bm.rd_own ho9); have G9 := Lib.hid (G8.out.trans hg9); clear ho9 hg9)
                | (go_at_call 20; (with_reducible refine (OB.out _ S5.out.cs).mono ?_); rintro e w8 ⟨A8, d8, rfl, ho8, hg8⟩; have O8 := Lib.hid ho8; have G8 := Lib.hid hg8; clear ho8 hg8))
              go_loopw [17] (fun i wr => ∃ b : Nat, b ≤ n ∧ i = .int .i64 b ∧ w9.grownBy wr none) (fun i _ => n - (intOf i).toNat)
              case atStart => exact ⟨0, Nat.zero_le _, rfl, World.grownBy.refl _ _⟩
              case round =>
                obtain ⟨b, hb, rfl, hg⟩ := hrel
                have G10 := Lib.hid hg
                have DA := Lib.hid (rd_new D9.out hg)
                have DS := Lib.hid (bm.rd_own (S5.out.new (G9.out.trans hg)).own)
                clear hg
                by_cases hbn : b < n
                · have BN := Lib.hid hbn
                  obtain ⟨b9, o9, rfl, q0⟩ := DS.out.at_ hbn
                  have ZS := Lib.hid (bm.getD_mem (xs := S) (k := b) (by rw [SN.out]; exact hbn) 0)
                  have l4 : (b : Int) < n := by omega
                  have l5 : (0 : Int) ≤ b := by omega
                  clear hbn
                  generalize S.getD b 0 = z at q0 ZS
                  have e1 := Lib.hid (decide_eq_false (LO.out z ZS.out))
                  go_wp2_with (go_at_call 25; (with_reducible refine (bm.In_any (by omega) DA.out _).mono ?_); rintro e w' ⟨rfl, hw⟩; subst hw; rw [e1.out])
                  go_roundw
                  case rel => exact ⟨b + 1, BN.out, by go_num, G10.out⟩
                  case measure => have := BN.out; first | (simp [intOf]; done) | (simp [intOf]; omega)
                · obtain rfl : b = n := by omega
                  go_wp2
                  go_roundw
                  case rel => exact ⟨j + 1, τ, S, b, Ad, cd, by omega, by go_num, rfl, SN.out, n8, R5.out, F5.out, S5.out.new (G9.out.trans G10.out)⟩
                  case measure => first | (simp [intOf]; done) | (simp [intOf]; omega)
          · have t3 : decide ((σ.cy : Int) < (τ.cy : Int)) = false := decide_eq_false (by omega)
            by_cases hs1 : σ.ph ≤ 1
            · have t1 : decide ((σ.ph : Int) < 2) = true := decide_eq_true (by omega)
              have t2 : decide ((2 : Int) ≤ (τ.ph : Int)) = false := decide_eq_false (by omega)
              go_wp2_with (first
                | (go_at_call 21; (with_reducible refine (PH5.out _ (World.grownBy.refl _ _)).mono ?_); rintro e w6 ⟨rfl, hw⟩; subst hw)
                | (go_at_call 24; (with_reducible refine (CC5.out _ S5.out.cs).mono ?_); rintro e w6 ⟨rfl, hw⟩; subst hw))
              go_roundw
              case rel => exact ⟨j + 1, τ, S, n, Ad, cd, by omega, by go_num, rfl, SN.out, n8, R5.out, F5.out, S5.out⟩
              case measure => first | (simp [intOf]; done) | (simp [intOf]; omega)
            · have t1 : decide ((σ.ph : Int) < 2) = false := decide_eq_false (by omega)
              go_wp2_with (first
                | (go_at_call 21; (with_reducible refine (PH5.out _ (World.grownBy.refl _ _)).mono ?_); rintro e w6 ⟨rfl, hw⟩; subst hw)
                | (go_at_call 24; (with_reducible refine (CC5.out _ S5.out.cs).mono ?_); rintro e w6 ⟨rfl, hw⟩; subst hw))
              go_roundw
              case rel => exact ⟨j + 1, τ, S, n, Ad, cd, by omega, by go_num, rfl, SN.out, n8, R5.out, F5.out, S5.out⟩
              case measure => first | (simp [intOf]; done) | (simp [intOf]; omega)
      · obtain rfl : j = l2 := by omega
        go_wp2
        go_ret
        exact ⟨rfl, S1.out.cs.gr⟩
  · have CK := Lib.hid (fun W (hg : w.grownBy W none) => cf.Check_no (n := cf.wrongN [a0, a1, a2, a3, a4, a5, a6, a7, a8, a9]) _ _ _ _ _ _ _ _ _ _ _ (by simpa using hw) (hC.below (li.grown_below hg)) rfl)
    clear ho hc hc2 hB hC hw
    go_enter Tryz.func6, Tryz.ntmps6
    go_wp2_with (first
      | (go_at_call 9; (with_reducible refine (AL.out _ BX.out).mono ?_); rintro e w1 ⟨rfl, hg⟩; have G1 := Lib.hid hg; obtain ⟨z0, z1, z2, z3, z4, z5, z6, z7, z8, z9⟩ := TEN.out _ hg; clear hg)
      | (go_at_call 11; (with_reducible refine (CK.out _ (BX.out.trans G1.out)).mono ?_); rintro e w2 ⟨rfl, hb⟩; have G2 := Lib.hid (G1.out.trans (ro.grown_of hb)); clear hb))
    go_ret
    exact ⟨rfl, BX.out.trans G2.out⟩
end Go.Proofs.YtkgdcgmbapchcaaGreatDoor.cy
