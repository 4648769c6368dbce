/- The walk of the statement on what is apart. -/
import Derived.Test.YtkkoiglfimibjaaDoorCeR
namespace Go.Proofs.YtkkoiglfimibjaaDoor.ce
open Go.ChangeShapes Go.WideShapes Go.ChangeAt Go.RowKit gen calls cls geos
set_option linter.unusedVariables false
set_option maxHeartbeats 8000000
set_option maxRecDepth 100000
theorem few_any (A : Option Addr) (n c : Nat) (w : World) (hn : n ≤ c) (hc : c ≤ maxLen) (hA : 0 < n → ∃ ad, A = some ad) :
    Calls Tryd.prog 10 #[.slice A n c] w fun e w' => (∃ m c', m ≤ 40 ∧ m ≤ n ∧ e = .returned (.slice A m c')) ∧ w = w' := by
  unfold maxLen at hc
  by_cases h : 40 < n
  · obtain ⟨ad, rfl⟩ := hA (by omega)
    clear hA
    have l1 : (40 : Int) ≤ c := by omega
    go_enter Tryd.func10, Tryd.ntmps10
    go_wp2
    all_goals
      go_ret
      exact ⟨⟨40, _, by omega, by omega, rfl⟩, rfl⟩
  · clear hA
    go_enter Tryd.func10, Tryd.ntmps10
    go_wp2
    go_ret
    exact ⟨⟨n, _, by omega, by omega, rfl⟩, rfl⟩
/-- What is taken at a place of the list. -/
theorem apart_round {ks xs cs tk : List Int} {fr : Nat → List Int} (O : Ok ks xs cs tk fr) {k : Nat} (hk : k < tk.length) :
    ∃ A P n : Nat, tk.getD k 0 = A ∧ (A : Int) / 32 = P ∧ A < 2048 ∧ P < 64 ∧ bs ks tk A = A ∧ bs ks tk ((A : Int) + n - 1) = A ∧ (k + 1 < tk.length → ¬ tk.getD (k + 1) 0 < (A : Int) + n) ∧ n ≤ 2048 ∧
      ((pg.kind ks P = 5 ∧ (A : Int) % 32 = 0 ∧ A = 32 * P ∧ ∃ j : Nat, n = 32 * j ∧ 1 ≤ j ∧ P + j ≤ 64 ∧ (∀ i : Nat, 1 ≤ i → i < j → pg.kind ks ((P : Int) + i) = 6) ∧ pg.kind ks ((P : Int) + j) ≠ 6) ∨
       ((1 ≤ pg.kind ks P ∧ pg.kind ks P ≤ 4) ∧ sz (pg.kind ks P) = n ∧ 0 < n ∧ (A : Int) % n = 0)) := by
  have hf := O.few
  have hl := O.len
  have ha : tk.getD k 0 ∈ tk := by rw [List.getD_eq_getElem?_getD, List.getElem?_eq_getElem hk]; exact List.getElem_mem hk
  generalize hga : tk.getD k 0 = a at ha
  have hin := bz_in O ha
  have hp := bz_pos O ha
  have nx : k + 1 < tk.length → ¬ tk.getD (k + 1) 0 < a + bz ks a := fun h hlt => by
    have hb : tk.getD (k + 1) 0 ∈ tk := by rw [List.getD_eq_getElem?_getD, List.getElem?_eq_getElem h]; exact List.getElem_mem h
    have : a < tk.getD (k + 1) 0 := by
      rw [← hga, List.getD_eq_getElem?_getD, List.getD_eq_getElem?_getD, List.getElem?_eq_getElem h, List.getElem?_eq_getElem hk]
      exact List.pairwise_iff_getElem.1 O.up k (k + 1) hk h (by omega)
    have := apart_tk O ha hb this
    omega
  have b1 := base_in O ha (x := a) (by omega) (by omega)
  have b2 := base_in O ha (x := a + bz ks a - 1) (by omega) (by omega)
  obtain ⟨A, rfl⟩ : ∃ A : Nat, a = A := ⟨a.toNat, by omega⟩
  obtain ⟨P, hP⟩ : ∃ P : Nat, (A : Int) / 32 = P := ⟨A / 32, by omega⟩
  obtain ⟨n, hn⟩ : ∃ n : Nat, bz ks A = n := ⟨(bz ks A).toNat, by omega⟩
  rw [hn] at b2 nx hin hp
  refine ⟨A, P, n, rfl, hP, by omega, by omega, b1, b2, nx, by omega, ?_⟩
  unfold bz at hn
  rw [hP] at hn
  rcases (O.tkn A).1 ha with ⟨k5, m0⟩ | ⟨kk, m0, _⟩
  · rw [hP] at k5
    rw [if_pos k5] at hn
    have lp := large_pages k5
    have s5 := pg.siz_large k5
    refine .inl ⟨k5, m0, by omega, (pg.siz ks P).toNat, by omega, by omega, by omega, fun i h1 h2 => ?_, ?_⟩
    · have := (lp i (by omega)).1 (by omega)
      rwa [show ((P + i : Nat) : Int) = (P : Int) + i by omega] at this
    · have := (pg.lead_is (k := 6) (by decide) (xs := ks) (p := P + 1)).2
      rwa [show ((P + 1 + pg.lead 6 (ks.drop (P + 1)) : Nat) : Int) = (P : Int) + ((pg.siz ks P).toNat : Nat) by omega] at this
  · rw [hP] at kk m0
    rw [if_neg (by omega)] at hn
    exact .inr ⟨kk, hn, by omega, by rw [← hn]; exact m0⟩
/-- What stands through the check. -/
def Chk (w4 : World) (n : Nat) (c h g r m q s : Nat) (ks xs cs : List Int) (ws : List Nat) (i : Value) (wr : World) : Prop := ∃ k : Nat, k ≤ n ∧ i = .int .i64 k ∧ Hp wr c h g r m q s ks xs cs ws ∧ w4.grownBy wr none
/-- What stands through the script. -/
def Scr (w : World) (n : Nat) (c h g r m q s : Nat) (i : Value) (wr : World) : Prop := ∃ k : Nat, k ≤ n ∧ i = .int .i64 k ∧ Cs c h g r m q s wr ∧ w.grownBy wr none
theorem CellsApart_any (n0 : Int) (D : Option Addr) (l c2 : Nat) (f : Nat → Nat → Int) (w : World) (hT : bm.Tab w) (hc : l ≤ c2) (hc2 : c2 ≤ maxLen) (ho : Rws w w.heap.size D l 3 f) :
    Calls Tryd.prog 4 #[.int .i64 n0, .slice D l c2] w fun e w' => e = .returned (.bool true) ∧ w.grownBy w' none := by
  obtain ⟨K, hk, hk2⟩ := pg.near_nat n0 64
  have HT := Lib.hid hT
  have HO := Lib.hid ho
  have HD := Lib.hid (show 0 < l → ∃ ad, D = some ad from ho.some)
  have HL1 := Lib.hid hc
  have HL2 := Lib.hid hc2
  have HK := Lib.hid hk2
  have NW := Lib.hid (fun w => New_any n0 K hk w)
  clear hk ho hc hc2 hT hk2
  go_enter Tryd.func4, Tryd.ntmps4
  go_wp2_with (first
    | (go_at_call 6; (with_reducible refine (alive_any _).mono ?_); rintro e w1 ⟨rfl, hg⟩; have G1 := Lib.hid hg; clear hg)
    | (go_at_call 8; (with_reducible refine (NW.out _).mono ?_); rintro e w2 ⟨c, h, g, r, m, q, s, rfl, hm, hl, hw⟩; have C2 := Lib.hid (show Cs c h g r m q s w2 from ⟨_, _, _, _, _, hm, by rw [bm.nums_zeros]; exact Ok.new K HK.out⟩); have G2 := Lib.hid (G1.out.trans hw); have HW := Lib.hid (own4 (w := w) (h := h) (r := r) (q := q) (s := s) (by have := G1.out.size; omega)); clear hm hw hl)
    | (go_at_call 10; (with_reducible refine (few_any _ _ _ _ HL1.out HL2.out HD.out).mono ?_); rintro e w' ⟨⟨l2, c3, hl1, hl2, rfl⟩, rfl⟩))
  have O2 := Lib.hid (HO.out.less hl2)
  clear HO HD NW HL1 HL2
  go_loopw [6] (fun i wr => Scr w l2 c h g r m q s i wr) (fun i _ => l2 - (intOf i).toNat)
  case atStart => exact ⟨0, Nat.zero_le _, rfl, C2.out, G2.out⟩
  case round =>
    obtain ⟨k, hk, rfl, hcs, hg⟩ := hrel
    have CR := Lib.hid hcs
    have GR := Lib.hid hg
    clear hcs hg C2 G2
    by_cases hlt : k < l2
    · obtain ⟨b, off, rfl, hb, hc, hw⟩ := (O2.out.kept GR.out (by simp)) k hlt
      have d0 := hc 0 (by omega)
      rw [Nat.add_zero] at d0
      have d1 := hc 1 (by omega)
      have W1 := Lib.hid (fits_iff.mpr (hw 1 (by omega)))
      generalize f k 0 = x0 at d0
      generalize f k 1 = x1 at d1 W1
      clear hc hw
      go_wp2_with (first
        | (go_at_call 13; (with_reducible refine (Carve_cs CR.out _ W1.out).mono ?_); rintro e w3 ⟨v, rfl, hcs, hg⟩; have C3 := Lib.hid hcs; have G3 := Lib.hid (Gr.grown GR.out hg HW.out); clear hcs hg)
        | (go_at_call 14; (with_reducible refine (Take_cs CR.out _ W1.out).mono ?_); rintro e w3 ⟨v, rfl, hcs, hg⟩; have C3 := Lib.hid hcs; have G3 := Lib.hid (Gr.grown GR.out hg HW.out); clear hcs hg)
        | (go_at_call 15; (with_reducible refine (Large_cs CR.out _).mono ?_); rintro e w3 ⟨v, rfl, hcs, hg⟩; have C3 := Lib.hid hcs; have G3 := Lib.hid (Gr.grown GR.out hg HW.out); clear hcs hg)
        | (go_at_call 16; (with_reducible refine (Give_cs CR.out _).mono ?_); rintro e w3 ⟨v, rfl, hcs, hg⟩; have C3 := Lib.hid hcs; have G3 := Lib.hid (Gr.grown GR.out hg HW.out); clear hcs hg)
        | (go_at_call 17; (with_reducible refine (Drop_cs CR.out _).mono ?_); rintro e w3 ⟨v, rfl, hcs, hg⟩; have C3 := Lib.hid hcs; have G3 := Lib.hid (Gr.grown GR.out hg HW.out); clear hcs hg))
      all_goals
        go_roundw
        case rel => exact ⟨k + 1, by omega, by go_num, C3.out, G3.out⟩
        case measure => simp [intOf]; omega
    · obtain ⟨ks, xs, cs, ws, fr, hh, hok⟩ := CR.out
      have H := Lib.hid hh
      have O := Lib.hid hok
      have TB := Lib.hid (HT.out.kept GR.out (by simp))
      have SN := Lib.hid (show s ≠ 0 by have := HW.out s (by simp); have := HT.out.1; omega)
      clear hh hok CR O2 HT
      go_wp2_with (first
        | (go_at_call 18; (with_reducible refine (All_any H.out TB.out SN.out).mono ?_); rintro e w4 ⟨A, d, rfl, ho, hg⟩; have R4 := Lib.hid (bm.rd_own ho); have G4 := Lib.hid (GR.out.trans hg); have H4 := Lib.hid (H.out.new hg); clear ho hg))
      have l48 := Lib.hid (bm.nums_length ws)
      have KS := Lib.hid O.out.kds
      have RND := Lib.hid (fun k (hk : k < (bm.nums ws).length) => apart_round O.out hk)
      have B4 := Lib.hid (fun W (hW : Hp W c h g r m q s ks xs cs ws) a => Base_any hW O.out.kds a)
      generalize htk : bm.nums ws = tk at R4 l48 RND B4 ⊢
      generalize hnt : tk.length = nt at R4 l48 ⊢
      have HNT := Lib.hid hnt
      clear htk hnt O
      have l49 := l48.out
      go_loopw [8] (fun i wr => Chk w4 nt c h g r m q s ks xs cs ws i wr) (fun i _ => nt - (intOf i).toNat)
      case atStart => exact ⟨0, Nat.zero_le _, rfl, H4.out, World.grownBy.refl _ _⟩
      case round =>
        obtain ⟨k2, hk2, rfl, hh, hg⟩ := hrel
        have H5 := Lib.hid hh
        have G5 := Lib.hid hg
        clear hh hg
        by_cases hlt2 : k2 < nt
        · obtain ⟨a, P, n, eA, eP, a2, p64, b1, b2, nx, n2, way⟩ := RND.out k2 (by rw [HNT.out]; exact hlt2)
          obtain ⟨b, off, rfl, hw⟩ := (R4.out.below (li.grown_below G5.out)).at_ hlt2
          have d0 := hw
          rw [eA] at d0
          have NX := Lib.hid (fun W (hW : w4.grownBy W none) (h1 : k2 + 1 < nt) => (show ∃ y : Int, ¬ y < (a : Int) + n ∧ W.cell? ⟨b, off + (k2 + 1), none⟩ = some (.int .i64 y) by
            obtain ⟨b', off', e, hw'⟩ := (R4.out.below (li.grown_below hW)).at_ h1
            injection e with e
            injection e with e1 e2
            subst e1; subst e2
            exact ⟨_, nx (by rw [HNT.out]; exact h1), hw'⟩))
          have EA := Lib.hid eA
          have EP := Lib.hid eP
          have B1 := Lib.hid b1
          have B2 := Lib.hid b2
          clear hw eA nx b1 b2
          rcases way with ⟨k5, m0, ea, j, rfl, j1, j2, k6, kn⟩ | ⟨kk, hz, n0', m0⟩
          · have K5 := Lib.hid k5
            have K6 := Lib.hid k6
            have KN := Lib.hid kn
            have M0 := Lib.hid m0
            clear eP k5 k6 kn m0 ea
            have S5 := Lib.hid (show sz 5 = 0 from rfl)
            have m1 : ((a : Int) % 32 != 0) = false := by simp [M0.out]
            go_wp2_with (first
              | (have mark := H6; go_at_call 20; (with_reducible refine (Kind_any H6.out _).mono ?_); rintro e w' ⟨rfl, rfl⟩; rw [EP.out, K5.out])
              | (go_at_call 20; (with_reducible refine (Kind_any H5.out _).mono ?_); rintro e w' ⟨rfl, rfl⟩; rw [EP.out, K5.out])
              | (go_at_call 19; (with_reducible refine (rSize_any 5 _ rfl).mono ?_); rintro e w6 ⟨rfl, hb⟩; rw [S5.out]; have g6 := pg.below_grown hb; have H6 := Lib.hid (H5.out.new g6); have G6 := Lib.hid (G5.out.trans g6); clear hb g6))
            go_loopw [11] (fun t wr => ∃ i T : Nat, 1 ≤ i ∧ i ≤ j ∧ T = a + 32 * i ∧ t = .int .i64 T ∧ wr = w6) (fun t _ => (a + 32 * j) - (intOf t).toNat)
            case atStart => exact ⟨1, a + 32, by omega, by omega, by omega, by go_num, rfl⟩
            case round =>
              obtain ⟨i, T, i1, i2, hT, rfl, hw6⟩ := hrel
              subst hw6
              have ET := Lib.hid (show (T : Int) / 32 = (P : Int) + i by have := EP.out; omega)
              have T2 : T ≤ 4096 := by omega
              by_cases hij : i < j
              · have KT := Lib.hid (K6.out i i1 hij)
                have HT6 := Lib.hid (show T + 32 = a + 32 * (i + 1) by omega)
                clear hT
                go_wp2_with (first
                  | (go_at_call 20; (with_reducible refine (Kind_any H6.out _).mono ?_); rintro e w' ⟨rfl, rfl⟩; rw [ET.out, KT.out]))
                go_roundw
                case rel => exact ⟨i + 1, T + 32, by omega, by omega, HT6.out, by go_num, by first | rfl | trivial⟩
                case measure => have := HT6.out; simp [intOf]; omega
              · obtain rfl : i = j := by omega
                obtain ⟨kx, hkx⟩ : ∃ kx, pg.kind ks ((P : Int) + i) = kx := ⟨_, rfl⟩
                have KT := Lib.hid hkx
                have k6 : (kx == 6) = false := by have := KN.out; rw [hkx] at this; simpa using this
                have BT := Lib.hid (show bs ks tk ((T : Int) - 1) = a by have := B2.out; rwa [show (a : Int) + ((32 * i : Nat) : Int) - 1 = (T : Int) - 1 by omega] at this)
                have T32 := Lib.hid hT
                by_cases h1 : k2 + 1 < nt
                · obtain ⟨y, hy, d1⟩ := NX.out _ G6.out h1
                  have hy2 : ¬ y < (T : Int) := by omega
                  clear hT hkx hy
                  go_wp2_with (first
                    | (go_at_call 20; (with_reducible refine (Kind_any H6.out _).mono ?_); rintro e w' ⟨rfl, rfl⟩; rw [ET.out, KT.out])
                    | (have mark := H7; go_at_call 21; (with_reducible refine (B4.out _ H7.out _).mono ?_); rintro e w8 ⟨rfl, k8, rfl⟩; rw [BT.out])
                    | (go_at_call 21; (with_reducible refine (B4.out _ H6.out _).mono ?_); rintro e w7 ⟨rfl, k7, rfl⟩; rw [B1.out]; have H7 := Lib.hid (H6.out.drewN k7)))
                  go_roundw
                  case rel => exact ⟨k2 + 1, by omega, by go_num, H6.out.drewN _, G6.out.trans (bm.grown_drewN _ _ none)⟩
                  case measure => simp [intOf]; omega
                · clear hT hkx
                  go_wp2_with (first
                    | (go_at_call 20; (with_reducible refine (Kind_any H6.out _).mono ?_); rintro e w' ⟨rfl, rfl⟩; rw [ET.out, KT.out])
                    | (have mark := H7; go_at_call 21; (with_reducible refine (B4.out _ H7.out _).mono ?_); rintro e w8 ⟨rfl, k8, rfl⟩; rw [BT.out])
                    | (go_at_call 21; (with_reducible refine (B4.out _ H6.out _).mono ?_); rintro e w7 ⟨rfl, k7, rfl⟩; rw [B1.out]; have H7 := Lib.hid (H6.out.drewN k7)))
                  go_roundw
                  case rel => exact ⟨k2 + 1, by omega, by go_num, H6.out.drewN _, G6.out.trans (bm.grown_drewN _ _ none)⟩
                  case measure => simp [intOf]; omega
          · have KK := Lib.hid (show fits (pg.kind ks P) = true by simp [fits]; omega)
            have HZ := Lib.hid hz
            have t1 : ((n : Int) == 0) = false := by simp; omega
            have t2 : decide (0 < (n : Int)) = true := by simp; omega
            have t3 : ¬ (n : Int) = 0 := by omega
            have M0 := Lib.hid m0
            clear eP hz kk
            have t4 : ((a : Int) % (n : Int) != 0) = false := by simp [M0.out]
            by_cases h1 : k2 + 1 < nt
            · go_wp2_with (first
                | (go_at_call 20; (with_reducible refine (Kind_any H5.out _).mono ?_); rintro e w' ⟨rfl, rfl⟩; rw [EP.out])
                | (go_at_call 19; (with_reducible refine (rSize_any _ _ KK.out).mono ?_); rintro e w6 ⟨rfl, hb⟩; rw [HZ.out]; have g6 := pg.below_grown hb; have H6 := Lib.hid (H5.out.new g6); have G6 := Lib.hid (G5.out.trans g6); obtain ⟨y, hy, d1⟩ := NX.out _ G6.out h1; clear hb g6)
                | (have mark := H7; go_at_call 21; (with_reducible refine (B4.out _ H7.out _).mono ?_); rintro e w8 ⟨rfl, k8, rfl⟩; rw [B2.out]; have H8 := Lib.hid (H7.out.drewN k8); have G8 := Lib.hid (G7.out.trans (bm.grown_drewN _ k8 none)))
                | (go_at_call 21; (with_reducible refine (B4.out _ H6.out _).mono ?_); rintro e w7 ⟨rfl, k7, rfl⟩; rw [B1.out]; have H7 := Lib.hid (H6.out.drewN k7); have G7 := Lib.hid (G6.out.trans (bm.grown_drewN _ k7 none))))
              go_roundw
              case rel => exact ⟨k2 + 1, by omega, by go_num, H6.out.drewN _, G6.out.trans (bm.grown_drewN _ _ none)⟩
              case measure => simp [intOf]; omega
            · go_wp2_with (first
                | (go_at_call 20; (with_reducible refine (Kind_any H5.out _).mono ?_); rintro e w' ⟨rfl, rfl⟩; rw [EP.out])
                | (go_at_call 19; (with_reducible refine (rSize_any _ _ KK.out).mono ?_); rintro e w6 ⟨rfl, hb⟩; rw [HZ.out]; have g6 := pg.below_grown hb; have H6 := Lib.hid (H5.out.new g6); have G6 := Lib.hid (G5.out.trans g6); clear hb g6)
                | (have mark := H7; go_at_call 21; (with_reducible refine (B4.out _ H7.out _).mono ?_); rintro e w8 ⟨rfl, k8, rfl⟩; rw [B2.out]; have H8 := Lib.hid (H7.out.drewN k8); have G8 := Lib.hid (G7.out.trans (bm.grown_drewN _ k8 none)))
                | (go_at_call 21; (with_reducible refine (B4.out _ H6.out _).mono ?_); rintro e w7 ⟨rfl, k7, rfl⟩; rw [B1.out]; have H7 := Lib.hid (H6.out.drewN k7); have G7 := Lib.hid (G6.out.trans (bm.grown_drewN _ k7 none))))
              go_roundw
              case rel => exact ⟨k2 + 1, by omega, by go_num, H6.out.drewN _, G6.out.trans (bm.grown_drewN _ _ none)⟩
              case measure => simp [intOf]; omega
        · go_wp2
          go_ret
          exact ⟨rfl, G4.out.trans G5.out⟩
end Go.Proofs.YtkkoiglfimibjaaDoor.ce
