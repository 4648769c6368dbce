/- The walk of the law ChainTells. -/
import Derived.Test.YtdaopeafologeaaChK
import Derived.Deep.DeepCutAuto
import Derived.Deep.RegionHeld3
namespace Go.Proofs.Ytdaopeafologeaa.ch
open Go.ChangeShapes Go.WideShapes Go.ChangeAt Go.RowKit gen calls cls geos mm
set_option linter.unusedVariables false

theorem rd_row {w w' : World} {B n c : Nat} {A : Option Addr} {xs : List Int} {row : Option Nat} (h : Rd w B A n c xs) (hg : w.grownBy w' row) (hr : ∀ q, row = some q → B ≤ q) : Rd w' B A n c xs := by
  refine ⟨h.1, h.2.1, fun ad e i hi => ?_⟩
  have h1 := h.2.2 ad e i hi
  refine ⟨h1.1, hg.cell h1.2 ?_⟩
  rw [block_of_add]
  intro e2
  have := hr _ e2.symm
  omega
theorem rd_wide {w : World} {B n c : Nat} {A : Option Addr} {xs : List Int} (h : Rd w B A n c xs) (hB : B ≤ w.heap.size) : Rd w w.heap.size A n c xs :=
  ⟨h.1, h.2.1, fun ad e i hi => ⟨Nat.lt_of_lt_of_le (h.2.2 ad e i hi).1 hB, (h.2.2 ad e i hi).2⟩⟩
theorem gv_not {m : Nat} {p k f n i : Int} (h : thk m p k = false) : gv m p k f n i = false := by rw [← Bool.not_eq_true, gv_iff]; exact fun e => by rw [h] at e; cases e.1
/-- What stands through the law's calls. -/
structure Ts (w : World) (B g r : Nat) (A : Option Addr) (m c : Nat) (ys zs : List Int) (f n : Int) (w' : World) : Prop where
  rd : Rd w' B A m c ys
  mem : MemAt w' g r zs
  grown : w.grownBy w' none
  box : Box w' w.heap.size f n
  size : B ≤ w'.heap.size
theorem Ts.kept {w w' w'' : World} {B g r m c : Nat} {A : Option Addr} {ys zs : List Int} {f n : Int} (h : Ts w B g r A m c ys zs f n w') (hg : w'.grownBy w'' none) : Ts w B g r A m c ys zs f n w'' :=
  ⟨rd_row h.rd hg (fun _ e => by cases e), h.mem.kept hg (by simp) (by simp), h.grown.trans hg, h.box.kept hg (by simp), Nat.le_trans h.size hg.size⟩
theorem Ts.drew {w w' : World} {B g r m c : Nat} {A : Option Addr} {ys zs : List Int} {f n : Int} (h : Ts w B g r A m c ys zs f n w') : Ts w B g r A m c ys zs f n w'.drew := h.kept (grown_drew _ _)
theorem Ts.drewN {w w' : World} {B g r m c : Nat} {A : Option Addr} {ys zs : List Int} {f n : Int} (h : Ts w B g r A m c ys zs f n w') (q : Nat) : Ts w B g r A m c ys zs f n (w'.drewN q) := h.kept (grown_drewN _ _ _)
theorem Ts.write {w w' w'' : World} {B g r m c : Nat} {A : Option Addr} {ys zs zs' : List Int} {f n : Int} (h : Ts w B g r A m c ys zs f n w') (hm : MemAt w'' g r zs') (hg : w'.grownBy w'' (some r)) (h1 : B ≤ r) (h2 : w.heap.size < r) : Ts w B g r A m c ys zs' f n w'' :=
  ⟨rd_row h.rd hg (fun _ e => by cases e; exact h1), hm, grown_new h.grown hg (by omega), h.box.kept hg (by simp; omega), Nat.le_trans h.size hg.size⟩
theorem Ts.wide {w w' : World} {B g r m c : Nat} {A : Option Addr} {ys zs : List Int} {f n : Int} (h : Ts w B g r A m c ys zs f n w') : Rd w' w'.heap.size A m c ys := rd_wide h.rd h.size
set_option maxHeartbeats 16000000
set_option maxRecDepth 100000
theorem Tells_any (xs : List Int) (A : Option Addr) (n0 c0 : Nat) (k f n i : Int) (w : World) (hl0 : n0 ≤ c0) (hm0 : c0 ≤ maxLen) (rd : Rd w w.heap.size A n0 c0 xs) (hb : Bd xs) (hk : fits k = true) (hf : fits f = true) (hn : fits n = true) :
    Calls Try.prog 5 #[.slice A n0 c0, .int .i64 k, .agg #[.int .i64 f, .int .i64 n], .int .i64 i] w fun e w' => e = .returned (.bool true) ∧ w.grownBy w' none := by
  have R := Lib.hid rd
  have HB := Lib.hid hb
  have HK := Lib.hid hk
  have HF := Lib.hid hf
  have HN := Lib.hid hn
  have nb := fits_iff.mp hn
  have fb := fits_iff.mp hf
  have CW := cl_wide k
  have SW := sz_wide k
  have G0 := Lib.hid (World.grownBy_alloc w (.cells #[.int .i64 f, .int .i64 n] 28) none)
  have X0 := Lib.hid (Box.new w f n rfl)
  unfold maxLen at hm0
  clear rd hb hk hf hn
  go_enter Try.func5, Try.ntmps5
  go_upto_if 36 with (first
    | (go_at_call 6; (with_reducible refine (alive_any _).mono ?_); rintro e w1 ⟨rfl, hg⟩; have G1 := Lib.hid (G0.out.trans hg); have X1 := Lib.hid (X0.out.kept hg (by simp)); clear hg)
    | (go_at_call 11; (with_reducible refine (rCells_g _ _ HK.out).mono ?_); rintro e w2 ⟨rfl, hg⟩; have G2 := Lib.hid (G1.out.trans hg); have X2 := Lib.hid (X1.out.kept hg (by simp)); clear hg)
    | (go_at_call 13; (with_reducible refine (rSize_g _ _ HK.out).mono ?_); rintro e w3 ⟨rfl, hg⟩; have G3 := Lib.hid (G2.out.trans hg); have X3 := Lib.hid (X2.out.kept hg (by simp)); have R3 := Lib.hid (Rd.grown R.out G3.out); clear hg))
  go_cut [0] (fun v wx => Told w f n v wx)
  case first =>
    as_aux_lemma =>
      by_cases hlt : 64 < n0
      · cases A with
        | none => exact absurd (R.out.2.1 rfl).1 (by omega)
        | some ad =>
          have l1 : (64 : Int) ≤ c0 := by omega
          go_wp2
          all_goals
            go_meet
            exact ⟨_, _, _, _, rfl, by omega, rd_head R3.out (by omega), HB.out.take _, G3.out, X3.out⟩
      · go_wp2
        all_goals
          go_meet
          exact ⟨_, _, _, _, rfl, by omega, R3.out, HB.out, G3.out, X3.out⟩
  case rest =>
    obtain ⟨A1, m, c1, ys, rfl, hm, hr, hby, hg, hx⟩ := hcut
    have R4 := Lib.hid hr
    have G4 := Lib.hid hg
    have BY := Lib.hid hby
    have X4 := Lib.hid hx
    have HY := Lib.hid hr.1
    have NK := Lib.hid (near_id m (by omega))
    clear R hm0 hl0 hr hg hby hx G0 X0 HB G1 X1 G2 X2 G3 X3 R3
    clear w1 w2 w3
    go_wp2_with (first
      | (go_at_call 8; (with_reducible refine (New_any _ _ NK.out _).mono ?_); rintro e w5 ⟨g, r, rfl, hmm, hg, hr, hw⟩; have M5 := Lib.hid hmm; have G5 := Lib.hid (G4.out.trans hw); have X5 := Lib.hid (X4.out.kept hw (by simp)); have R5 := Lib.hid (Rd.grown R4.out hw); have W5 := Lib.hid hw; have HR := Lib.hid (show w.heap.size + 1 ≤ g ∧ w.heap.size + 1 ≤ r from ⟨Nat.le_trans (lt_of_heap X4.out) hg, Nat.le_trans (lt_of_heap X4.out) hr⟩); have HR2 := Lib.hid hr; clear hmm hw hr hg))
    have RB := Lib.hid (show Rd w5 wc.heap.size A1 m c1 ys from rd_row R4.out W5.out (fun _ e => by cases e))
    have SB := Lib.hid W5.out.size
    obtain ⟨B0, hB0⟩ : ∃ B0, B0 = wc.heap.size := ⟨_, rfl⟩
    rw [← hB0] at RB SB HR2
    clear R4 R5 W5 hB0
    go_loopw [12] (fun t wr => ∃ q : Nat, q ≤ m ∧ t = .int .i64 q ∧ Ts w B0 g r A1 m c1 ys (moveN (List.replicate m 0) ys 0 0 q) f n wr) (fun t _ => m - (intOf t).toNat)
    case atStart => exact ⟨0, Nat.zero_le _, rfl, ⟨RB.out, M5.out, G5.out, X5.out, SB.out⟩⟩
    case round =>
      obtain ⟨q, hq, rfl, hts⟩ := hrel
      have TS := Lib.hid hts
      clear hts RB SB M5 X5
      by_cases hlt : q < m
      · obtain ⟨b1, o1, rfl, g1⟩ := TS.out.rd.at_ hlt
        have e2 := Lib.hid (show (moveN (List.replicate m 0) ys 0 0 q).set q (ys.getD q 0) = moveN (List.replicate m 0) ys 0 0 (q + 1) by simp [moveN])
        generalize ys.getD q 0 = y at g1 e2
        go_wp2_with (first
          | (go_at_call 18; (with_reducible refine (Store_yes TS.out.mem q y (by rw [moveN_length]; simpa using hlt)).mono ?_); rintro e w6 ⟨rfl, hmm, hg⟩; have T6 := Lib.hid (TS.out.write (e2.out ▸ hmm) hg HR2.out (by have := HR.out.2; omega)); clear hmm hg))
        go_roundw
        case rel => exact ⟨q + 1, by omega, by go_num, T6.out⟩
        case measure => simp [intOf]; omega
      · obtain rfl : q = m := by omega
        have e3 : moveN (List.replicate q 0) ys 0 0 q = ys := by
          have := move_all ys
          rw [HY.out] at this
          exact this
        rw [e3] at TS
        obtain ⟨y0, y1, y2, y3⟩ := TS.out.box.two
        clear e3 hlt
        by_cases h32 : q < 32
        · have hP : (q : Int) / 32 - 1 = -1 := by omega
          have hP0 : (q : Int) / 32 = 0 := by omega
          have HP := Lib.hid (by simp [fits] : fits (-1) = true)
          have T := Lib.hid (thk_no (by omega) : thk ys.length (-1) k = false)
          have GV := Lib.hid (gv_not T.out : gv ys.length (-1) k f n i = false)
          as_aux_lemma =>
            go_wp2_with (first
              | (go_at_call 14; (with_reducible refine (All_not _ _ _ _ TS.out.mem HP.out HK.out (.inl T.out)).mono ?_); rintro e w6 ⟨rfl, hg⟩; have T6 := Lib.hid (TS.out.kept hg); obtain ⟨y0, y1, y2, y3⟩ := T6.out.box.two; clear hg)
              | (go_at_call 16; (with_reducible refine (Take_not _ _ _ _ T6.out.mem HP.out HK.out T.out).mono ?_); rintro e w7 ⟨rfl, hg⟩; have T7 := Lib.hid (T6.out.kept (hg.trans (World.grownBy_alloc w7 (.cells #[.int .i64 0, .int .i64 0] 28) none))); obtain ⟨y0, y1, y2, y3⟩ := T7.out.box.two; clear hg)
              | (go_at_call 20; (with_reducible refine (Give_no _ _ _ _ _ T7.out.mem HP.out HK.out GV.out).mono ?_); rintro e w8 ⟨rfl, hg⟩; have T8 := Lib.hid (T7.out.kept (hg.trans (World.grownBy_alloc w8 (.cells #[.int .i64 0, .int .i64 0] 28) none))); clear hg)
              | (go_at_call 12; (with_reducible refine (All_yes T8.out.mem).mono ?_); rintro e w9 ⟨A9, e9, rfl, ho, hg⟩; rw [HY.out] at ho ⊢; have T9 := Lib.hid (T8.out.kept hg); have R9 := Lib.hid (rd_any ho); clear ho hg)
              | (go_at_call 22; (with_reducible refine (words_true ys _ _ _ _ _ _ _ _ _ (by omega) rfl R9.out T9.out.wide).mono ?_); rintro e w10 ⟨rfl, dq, rfl⟩))
            go_ret
            exact ⟨rfl, (T9.out.drewN dq).grown⟩
        · obtain ⟨P, hP⟩ : ∃ P : Nat, (q : Int) / 32 - 1 = P := ⟨((q : Int) / 32 - 1).toNat, by omega⟩
          have HP := Lib.hid (fits_iff.mpr (by omega) : fits (P : Int) = true)
          by_cases hc : 0 < cl k
          · have T := Lib.hid (thk_iff.mpr (by have := small_of hc; have := HY.out; omega) : thk ys.length P k = true)
            have hc1 : (cl k == 0) = false := by simp; omega
            have P32 := Lib.hid (show P * 32 + 32 ≤ q by omega)
            obtain ⟨B, l, l16, hA, hW⟩ := tell_all P k f n BY.out HK.out HN.out HF.out (by rw [HY.out]; exact hm) T.out
            have HA := Lib.hid hA
            have HW := Lib.hid hW
            clear hA hW
            obtain ⟨a1, b1, d1, hT, hT1⟩ := take_uni P k f n BY.out HP.out HK.out HN.out
            obtain ⟨b, hbt⟩ : ∃ b, b = tk ys P k f n := ⟨_, rfl⟩
            rw [← hbt] at hT hT1
            have HT := Lib.hid hT
            have HT1 := Lib.hid hT1
            have HBT := Lib.hid hbt
            clear hT hT1 hbt
            go_upto_region 20 with (first
              | (go_at_call 14; (with_reducible refine (HA.out _ _ _ TS.out.mem).mono ?_); rintro e w6 ⟨⟨A6, e6, rfl, h6⟩, hg⟩; have T6 := Lib.hid (TS.out.kept hg); have R6 := Lib.hid h6; obtain ⟨y0, y1, y2, y3⟩ := T6.out.box.two; clear h6 hg)
              | (go_at_call 16; (with_reducible refine (HT.out _ _ _ T6.out.mem).mono ?_); rintro e w7 ⟨rfl, hg⟩; have gg := hg.trans (World.grownBy_alloc w7 (.cells #[.int .i64 a1, .int .i64 b1] 28) none); have gg := hg.trans (World.grownBy_alloc w7 (.cells #[.int .i64 b1, .int .i64 d1] 28) none); have T7 := Lib.hid (T6.out.kept gg); have R7 := Lib.hid (Rd.grown R6.out gg); have D7 := Lib.hid (Box.new w7 b1 d1 rfl); obtain ⟨y0, y1, y2, y3⟩ := T7.out.box.two; clear hg gg)
              | (go_at_call 23; (with_reducible refine (HW.out _ _ _ _ T7.out.wide).mono ?_); rintro e w8 ⟨⟨A8, e8, rfl, h8⟩, hg⟩; have T8 := Lib.hid (T7.out.kept hg); have R8 := Lib.hid (Rd.grown R7.out hg); have W8 := Lib.hid h8; have D8 := Lib.hid (D7.out.kept hg (by simp)); obtain ⟨y0, y1, y2, y3⟩ := T8.out.box.two; clear h8 hg)
              | (go_at_call 21; (with_reducible refine (li.Ints_true l _ _ _ _ _ _ _ _ _ (by omega) rfl R8.out W8.out).mono ?_); rintro e w9 ⟨rfl, dq, rfl⟩))
            have T9 := Lib.hid (T8.out.drewN dq)
            have D9 := Lib.hid (show Box (w8.drewN dq) w7.heap.size b1 d1 from D8.out)
            go_cut [23] (fun v wx => v = .bool b ∧ Ts w B0 g r A1 q c1 ys ys f n wx ∧ Box wx w7.heap.size b1 d1)
            case first =>
              obtain ⟨y0, y1, y2, y3⟩ := T9.out.box.two
              have TN := Lib.hid (fun h : ¬ (1 ≤ n ∧ 0 ≤ lk ys P k f) => HBT.out.trans (tk_no fun e => h e.2))
              have TY := Lib.hid (fun (h1 : 1 ≤ n) (h2 : 0 ≤ lk ys P k f) => HBT.out.trans (tk_iff.mpr ⟨T.out, h1, h2⟩))
              have LN := Lib.hid (fun h : ¬ (0 ≤ f ∧ f < cl k) => (lk_no (xs := ys) (p := P) (fun e => h ⟨e.1, e.2.1⟩)))
              by_cases n1 : 0 < n
              · by_cases f0 : 0 ≤ f
                · by_cases f1 : f < cl k
                  · have LL := Lib.hid (fun w hw => link_z (w := w) (A := A1) (c := c1) P k f hw BY.out hm P32.out f0 f1)
                    by_cases l0 : 0 ≤ lk ys P k f
                    · have hb := TY.out (by omega) l0
                      generalize lk ys P k f = t at LL l0
                      subst hb
                      as_aux_lemma =>
                        go_wp2_with (first
                          | (go_at_call 24; (with_reducible refine (LL.out _ T9.out.wide).mono ?_); rintro e w10 ⟨rfl, hg⟩; have TA := Lib.hid (T9.out.kept hg); have DA := Lib.hid (D9.out.kept hg (by simp)); clear hg))
                        go_meet
                        exact ⟨rfl, TA.out, DA.out⟩
                    · have hb := TN.out (fun h => l0 h.2)
                      generalize lk ys P k f = t at LL l0
                      have l1 : t < 0 := by omega
                      subst hb
                      as_aux_lemma =>
                        go_wp2_with (first
                          | (go_at_call 24; (with_reducible refine (LL.out _ T9.out.wide).mono ?_); rintro e w10 ⟨rfl, hg⟩; have TA := Lib.hid (T9.out.kept hg); have DA := Lib.hid (D9.out.kept hg (by simp)); clear hg))
                        go_meet
                        exact ⟨congrArg Value.bool (decide_eq_false (by omega)), TA.out, DA.out⟩
                  · have hb := TN.out (fun h => by have := LN.out (by omega); omega)
                    have f2 : cl k ≤ f := by omega
                    subst hb
                    as_aux_lemma =>
                      go_wp2
                      go_meet
                      exact ⟨rfl, T9.out, D9.out⟩
                · have hb := TN.out (fun h => by have := LN.out (by omega); omega)
                  have f2 : f < 0 := by omega
                  subst hb
                  as_aux_lemma =>
                    go_wp2
                    go_meet
                    exact ⟨rfl, T9.out, D9.out⟩
              · have hb := TN.out (by omega)
                have n2 : n ≤ 0 := by omega
                subst hb
                as_aux_lemma =>
                  go_wp2
                  go_meet
                  exact ⟨rfl, T9.out, D9.out⟩
            case rest =>
              obtain ⟨rfl, hts, hbx⟩ := hcut
              have TA := Lib.hid hts
              have DA := Lib.hid hbx
              clear hts hbx T9 D9
              go_upto_region 21 with (fail)
              go_cut [177] (fun v wx => v = .bool false ∧ Ts w B0 g r A1 q c1 ys ys f n wx)
              case first =>
                cases b with
                | false =>
                  obtain ⟨y0, y1, y2, y3⟩ := TA.out.box.two
                  obtain ⟨z0, z1, z2, z3⟩ := DA.out.two
                  as_aux_lemma =>
                    go_quiet (fail)
                    go_wp2
                    go_meet
                    exact ⟨rfl, TA.out.drewN _⟩
                | true =>
                  obtain ⟨t1, t2, t3⟩ := tk_iff.mp HBT.out.symm
                  obtain ⟨e1, e2, e3⟩ := HT1.out rfl
                  have e1' := e1.symm
                  subst e1'
                  subst e3
                  have lw := lk_yes t3
                  obtain ⟨f0, f1, _, _, _⟩ := lw
                  have HB1 := Lib.hid e2
                  have TD := Lib.hid TA.out.drew
                  have DD := Lib.hid (DA.out.kept (grown_drew _ none) (by simp))
                  obtain ⟨y0, y1, y2, y3⟩ := TD.out.box.two
                  obtain ⟨z0, z1, z2, z3⟩ := DD.out.two
                  have q1 : (f != f) = false := by simp
                  have q2 : (n - 1 != n - 1) = false := by simp
                  have LK := Lib.hid (fun (W : World) (hW : Rd W W.heap.size A1 q c1 ys) => HB1.out ▸ link_z P k f hW BY.out hm P32.out f0 f1)
                  have n2 := nb.2
                  clear e1 e2 t1 t3 HK HF HN nb fb CW SW G4 X4 HY NK G5 HR HR2 h32 hP HP hc hc1 T P32 TS HA HW HT HT1 HBT T6 R6 T7 R7 D7 T8 R8 W8 D8 TA DA f0 f1 BY HB1
                  have q3 : (b1 != b1) = false := by simp
                  have wn : IntKind.i64.wrap (n - 1) = n - 1 := IntWalk.i64_in (n - 1) (by omega)
                  have qn : (n - 1 != IntKind.i64.wrap (n - 1)) = false := by rw [wn]; simp
                  have F0 := Lib.hid (show wc.drew.cell? ⟨w.heap.size, 0, none⟩ = some (.int .i64 f) ∧ wc.drew.cell? ⟨w.heap.size, 1, none⟩ = some (.int .i64 n) ∧ wc.drew.cell? ⟨w7.heap.size, 0, none⟩ = some (.int .i64 b1) ∧ wc.drew.cell? ⟨w7.heap.size, 1, none⟩ = some (.int .i64 (n - 1)) from ⟨y0, y1, z0, z1⟩)
                  as_aux_lemma =>
                    go_region_held3 (fun W => W.cell? ⟨w.heap.size, 0, none⟩ = some (.int .i64 f) ∧ W.cell? ⟨w.heap.size, 1, none⟩ = some (.int .i64 n) ∧ W.cell? ⟨w7.heap.size, 0, none⟩ = some (.int .i64 b1) ∧ W.cell? ⟨w7.heap.size, 1, none⟩ = some (.int .i64 (n - 1))) (first | exact F0.out | exact F1.out | go_keep) (first
                      | (go_at_call 24; (with_reducible refine (LK.out _ TD.out.wide).mono ?_); rintro e w10 ⟨rfl, hg⟩; have T10 := Lib.hid (TD.out.kept hg); have F1 := Lib.hid (show w10.cell? ⟨w.heap.size, 0, none⟩ = some (.int .i64 f) ∧ w10.cell? ⟨w.heap.size, 1, none⟩ = some (.int .i64 n) ∧ w10.cell? ⟨w7.heap.size, 0, none⟩ = some (.int .i64 b1) ∧ w10.cell? ⟨w7.heap.size, 1, none⟩ = some (.int .i64 (n - 1)) from ⟨hg.cell F0.out.1 (by simp), hg.cell F0.out.2.1 (by simp), hg.cell F0.out.2.2.1 (by simp), hg.cell F0.out.2.2.2 (by simp)⟩); clear hg))
                    all_goals
                      go_wp2
                      go_meet
                      exact ⟨rfl, T10.out⟩
              case rest =>
                obtain ⟨rfl, hts⟩ := hcut
                have TB := Lib.hid hts
                obtain ⟨y0, y1, y2, y3⟩ := hts.box.two
                clear hts TA DA HA HW HT HT1 HBT
                by_cases hgv : gv ys.length P k f n i = true
                · have GV := Lib.hid hgv
                  obtain ⟨g1, g2, g3, g4, g5, g6, g7⟩ := gv_iff.mp hgv
                  obtain ⟨at1, a, at2, at3, at4, at5, at6⟩ := at_nat (p := P) (k := k) (i := i) (by omega) (by omega) g2 g3
                  have A3 := Lib.hid at3
                  have a64 : a < 64 := by have := HY.out; omega
                  have AL := Lib.hid (show a < ys.length by have := HY.out; omega)
                  have W1 : wrap64 (i * sz k) = i * sz k := IntWalk.wrap64_in _ (by omega)
                  have W2 : 32 * (P : Int) + i * sz k = a := by omega
                  have GL := Lib.hid (show (ys.set a (-1 - f)).getD a 0 = -1 - f by rw [set_getD _ _ _ _ AL.out, if_pos rfl])
                  clear g1 hgv at1 at2 at3 at4 at5 at6
                  as_aux_lemma =>
                    go_wp2_with (first
                      | (go_at_call 20; (with_reducible refine (Give_yes _ _ _ _ _ TB.out.mem HP.out HK.out GV.out).mono ?_); rintro e w11 ⟨rfl, hmm, hg⟩; rw [A3.out] at hmm; have TC := Lib.hid ((TB.out.write hmm hg HR2.out (by have := HR.out.2; omega)).kept (World.grownBy_alloc w11 (.cells #[.int .i64 i, .int .i64 (n + 1)] 28) none)); have DC := Lib.hid (Box.new w11 i (n + 1) rfl); obtain ⟨y0, y1, y2, y3⟩ := TC.out.box.two; clear hmm hg)
                      | (go_at_call 25; (with_reducible refine (Load_yes TC.out.mem a (by rw [List.length_set]; exact AL.out)).mono ?_); rintro e w' ⟨rfl, rfl⟩; rw [GL.out]))
                    go_ret
                    exact ⟨rfl, TC.out.grown⟩
                · have hgf : gv ys.length P k f n i = false := by rw [← Bool.not_eq_true]; exact hgv
                  have GV := Lib.hid hgf
                  have hno : ¬ (0 ≤ i ∧ i < cl k ∧ 0 ≤ n ∧ n < cl k ∧ 0 ≤ f ∧ f ≤ cl k) := fun e => hgv (gv_iff.mpr ⟨T.out, e⟩)
                  clear hgv hgf
                  go_upto_region 24 with (first
                    | (go_at_call 20; (with_reducible refine (Give_no _ _ _ _ _ TB.out.mem HP.out HK.out GV.out).mono ?_); rintro e w11 ⟨rfl, hg⟩; have gg := hg.trans (World.grownBy_alloc w11 (.cells #[.int .i64 0, .int .i64 0] 28) none); have TC := Lib.hid (TB.out.kept gg); have DC := Lib.hid (Box.new w11 0 0 rfl); obtain ⟨y0, y1, y2, y3⟩ := TC.out.box.two; clear hg gg))
                  go_cut [215] (fun v wx => v = .bool true ∧ Ts w B0 g r A1 q c1 ys ys f n wx ∧ Box wx w11.heap.size 0 0)
                  case first =>
                    by_cases i0 : i < 0
                    · as_aux_lemma =>
                        as_aux_lemma =>
                          go_wp2
                          go_meet
                          exact ⟨rfl, TC.out, DC.out⟩
                    · by_cases i1 : cl k ≤ i
                      · as_aux_lemma =>
                          go_wp2
                          go_meet
                          exact ⟨rfl, TC.out, DC.out⟩
                      · by_cases n0' : n < 0
                        · as_aux_lemma =>
                            go_wp2
                            go_meet
                            exact ⟨rfl, TC.out, DC.out⟩
                        · by_cases n1' : cl k ≤ n
                          · as_aux_lemma =>
                              go_wp2
                              go_meet
                              exact ⟨rfl, TC.out, DC.out⟩
                          · by_cases f0' : f < 0
                            · as_aux_lemma =>
                                go_wp2
                                go_meet
                                exact ⟨rfl, TC.out, DC.out⟩
                            · have f1' : cl k < f := by omega
                              as_aux_lemma =>
                                go_wp2
                                go_meet
                                exact ⟨rfl, TC.out, DC.out⟩
                  case rest =>
                    obtain ⟨rfl, hts, hbx⟩ := hcut
                    have TD := Lib.hid hts
                    have DD := Lib.hid hbx
                    obtain ⟨z0, z1, z2, z3⟩ := hbx.two
                    clear hts hbx TC DC
                    as_aux_lemma =>
                      go_wp2_with (first
                        | (go_at_call 12; (with_reducible refine (All_yes TD.out.mem).mono ?_); rintro e w12 ⟨A9, e9, rfl, ho, hg⟩; rw [HY.out] at ho ⊢; have T9 := Lib.hid (TD.out.kept hg); have R9 := Lib.hid (rd_any ho); clear ho hg)
                        | (go_at_call 22; (with_reducible refine (words_true ys _ _ _ _ _ _ _ _ _ (by omega) rfl R9.out T9.out.wide).mono ?_); rintro e w13 ⟨rfl, dq, rfl⟩))
                      go_ret
                      exact ⟨rfl, (T9.out.drewN dq).grown⟩
          · have c0 : cl k = 0 := by omega
            have hc1 : (cl k == 0) = true := by simp [c0]
            have T := Lib.hid (thk_no (by rintro ⟨-, -, h1, h2, -⟩; obtain ⟨_, _, _, h3, _, h4, _⟩ := sz_cl h1 h2; omega) : thk ys.length P k = false)
            have GV := Lib.hid (gv_not T.out : gv ys.length P k f n i = false)
            clear hc c0
            as_aux_lemma =>
              go_wp2_with (first
                | (go_at_call 14; (with_reducible refine (All_not _ _ _ _ TS.out.mem HP.out HK.out (.inl T.out)).mono ?_); rintro e w6 ⟨rfl, hg⟩; have T6 := Lib.hid (TS.out.kept hg); obtain ⟨y0, y1, y2, y3⟩ := T6.out.box.two; clear hg)
                | (go_at_call 16; (with_reducible refine (Take_not _ _ _ _ T6.out.mem HP.out HK.out T.out).mono ?_); rintro e w7 ⟨rfl, hg⟩; have T7 := Lib.hid (T6.out.kept (hg.trans (World.grownBy_alloc w7 (.cells #[.int .i64 0, .int .i64 0] 28) none))); obtain ⟨y0, y1, y2, y3⟩ := T7.out.box.two; clear hg)
                | (go_at_call 20; (with_reducible refine (Give_no _ _ _ _ _ T7.out.mem HP.out HK.out GV.out).mono ?_); rintro e w8 ⟨rfl, hg⟩; have T8 := Lib.hid (T7.out.kept (hg.trans (World.grownBy_alloc w8 (.cells #[.int .i64 0, .int .i64 0] 28) none))); clear hg)
                | (go_at_call 12; (with_reducible refine (All_yes T8.out.mem).mono ?_); rintro e w9 ⟨A9, e9, rfl, ho, hg⟩; rw [HY.out] at ho ⊢; have T9 := Lib.hid (T8.out.kept hg); have R9 := Lib.hid (rd_any ho); clear ho hg)
                | (go_at_call 22; (with_reducible refine (words_true ys _ _ _ _ _ _ _ _ _ (by omega) rfl R9.out T9.out.wide).mono ?_); rintro e w10 ⟨rfl, dq, rfl⟩))
              go_ret
              exact ⟨rfl, (T9.out.drewN dq).grown⟩
end Go.Proofs.Ytdaopeafologeaa.ch
