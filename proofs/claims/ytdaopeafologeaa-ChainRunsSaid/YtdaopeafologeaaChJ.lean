/- The walk of the law ChainRuns. -/
import Derived.Test.YtdaopeafologeaaChI
namespace Go.Proofs.Ytdaopeafologeaa.ch
open Go.ChangeShapes Go.WideShapes Go.ChangeAt Go.RowKit gen calls cls geos mm
set_option linter.unusedVariables false

theorem gv_no {m : Nat} {p k f n i : Int} (h : ¬ (i < cl k)) : gv m p k f n i = false := by rw [← Bool.not_eq_true, gv_iff]; exact fun e => h e.2.2.1
theorem gv_no' {m : Nat} {p k f n i : Int} (h : ¬ (0 ≤ i)) : gv m p k f n i = false := by rw [← Bool.not_eq_true, gv_iff]; exact fun e => h e.2.1
theorem heap_size_alloc (w : World) (o : Obj) : (w.alloc o).heap.size = w.heap.size + 1 := by simp
theorem All_chz {g r : Nat} {xs : List Int} {w : World} (h : MemAt w g r xs) (hb : Bd xs) (p k f z : Int) (n : Nat) (hp : fits p = true) (hk : fits k = true) (hy : thk xs.length p k = true) (l : List Int) (hl : Ch xs p k f l) (hn : l.length = n) (hz : z = n) :
    Calls Try.prog 14 #[.pointer (some ⟨g, 0, none⟩), .int .i64 p, .int .i64 k, .agg #[.int .i64 f, .int .i64 z]] w fun e w' => (∃ A c, e = .returned (.tuple #[.slice A n c, .bool true]) ∧ Rd w' w'.heap.size A n c l) ∧ w.grownBy w' none := by
  subst hz
  exact All_ch h hb p k f n hp hk hy l hl hn
set_option maxRecDepth 100000
theorem Runs_none (p k : Int) (A : Option Addr) (n c : Nat) (w : World) (hk : fits k = true) (hc : cl k = 0) :
    Calls Try.prog 4 #[.int .i64 p, .int .i64 k, .slice A n c] w fun e w' => e = .returned (.bool true) ∧ w.grownBy w' none := by
  have HK := Lib.hid hk
  have HC := Lib.hid hc
  clear hk hc
  go_enter Try.func4, Try.ntmps4
  go_wp2_with (first
    | (go_at_call 6; (with_reducible refine (alive_any _).mono ?_); rintro e w1 ⟨rfl, hg⟩; have G1 := Lib.hid hg; clear hg)
    | (go_at_call 7; (with_reducible refine (Near_any _ _ _ _).mono ?_); rintro e w' ⟨rfl, rfl⟩)
    | (go_at_call 11; (with_reducible refine (rCells_g _ _ HK.out).mono ?_); rintro e w5 ⟨rfl, hw⟩; rw [HC.out]; have G5 := Lib.hid (G1.out.trans hw); clear hw))
  go_ret
  exact ⟨rfl, G5.out⟩
set_option maxHeartbeats 16000000
set_option maxRecDepth 100000
theorem Runs_yes (p k : Int) (D : Option Addr) (n0 c0 : Nat) (ops : Nat → Nat → Int) (w : World) (hk : fits k = true) (hc : 0 < cl k) (hn : n0 ≤ c0) (hm : c0 ≤ maxLen) (hro : Rws w w.heap.size D n0 2 ops) :
    Calls Try.prog 4 #[.int .i64 p, .int .i64 k, .slice D n0 c0] w fun e w' => e = .returned (.bool true) ∧ w.grownBy w' none := by
  obtain ⟨P, hP', P3⟩ := near_nat p 3
  have hP : near p 0 3 = P := hP'
  clear hP'
  obtain ⟨k0, k1⟩ := small_of hc
  obtain ⟨s, C, s1, c1, m1, m2, m3, m4, m5⟩ := sz_cl k0 k1
  have HP0 := Lib.hid hP
  have HK := Lib.hid hk
  have HP := Lib.hid (fits_iff.mpr (by omega) : fits (P : Int) = true)
  have S1 := Lib.hid s1
  have C1 := Lib.hid c1
  have SZ := Lib.hid (sz_wide k)
  have CW := cl_wide k
  have T0 := Lib.hid (thk_iff.mpr (by simp; omega) : thk (List.replicate 128 (0 : Int)).length P k = true)
  have TH := Lib.hid (fun (xs : List Int) (h : xs.length = 128) => (thk_iff.mpr (by omega) : thk xs.length P k = true))
  have BD := Lib.hid (Bd.built (Bd.zeros 128) m4 (by simp; omega : P * 32 + 32 ≤ (List.replicate 128 (0 : Int)).length) C (by rw [Nat.mul_comm, m1]; omega))
  have CH := Lib.hid (show Ch (builtN (List.replicate 128 0) P s C) P k 0 (from_ 0 C) from built_ch k0 k1 s1 c1 (by simp; omega : P * 32 + 32 ≤ (List.replicate 128 (0 : Int)).length) C 0 (by omega))
  have LN := Lib.hid (show (builtN (List.replicate 128 0) P s C).length = 128 by rw [builtN_length]; simp)
  have NW := Lib.hid (fun w => New_any 128 128 (by decide) w)
  have hro0 := hro
  have HRO := Lib.hid hro0
  have HD := Lib.hid (fun h : 0 < n0 => hro.some h)
  have HF := Lib.hid (fun w => few_any D n0 c0 w hn hm HD.out)
  obtain ⟨i0, hi, hz0, hz1, hz2⟩ := info_parts li.info_int
  have E : Hid (i0.zero = some (.int .i64 0) ∧ i0.size = 1 ∧ i0.bytes = 8 ∧ Try.prog.info? 3 = some i0) := ⟨hz0, hz1, hz2, hi⟩
  have cpos : 0 < C := by omega
  have cb : ((C : Int) == 0) = false := by simp; omega
  clear hi hz0 hz1 hz2 hP hk hc hn hm hro hro0 s1 c1 m1 k0 k1
  obtain ⟨ys, hys⟩ : ∃ ys, ys = builtN (List.replicate 128 0) P s C := ⟨_, rfl⟩
  have HYS := Lib.hid hys
  rw [← hys] at BD CH LN
  clear hys
  go_enter Try.func4, Try.ntmps4
  go_wp2_with (first
    | (go_at_call 6; (with_reducible refine (alive_any _).mono ?_); rintro e w1 ⟨rfl, hg⟩; have G1 := Lib.hid hg; clear hg)
    | (go_at_call 7; (with_reducible refine (Near_any _ _ _ _).mono ?_); rintro e w' ⟨rfl, rfl⟩; rw [HP0.out])
    | (go_at_call 11; (with_reducible refine (rCells_g _ _ HK.out).mono ?_); rintro e w2 ⟨rfl, hw⟩; rw [C1.out]; have G2 := Lib.hid (G1.out.trans hw); clear hw)
    | (go_at_call 8; (with_reducible refine (NW.out _).mono ?_); rintro e w3 ⟨g, r, rfl, hm, hg3, hr3, hw⟩; have M3 := Lib.hid hm; have G3 := Lib.hid (G2.out.trans hw); have R3 := Lib.hid (show w.heap.size ≤ g ∧ w.heap.size ≤ r by have := G2.out.size; omega); clear hm hw hg3 hr3)
    | (go_at_call 10; (with_reducible refine (Build_yes M3.out P s C k S1.out C1.out T0.out).mono ?_); rintro e w4 ⟨rfl, hm, hw⟩; rw [← HYS.out] at hm; have R4 := Lib.hid hm.lt; have GA := World.grownBy_alloc w4 (.cells #[.int .i64 0, .int .i64 C] 28) none; have M4 := Lib.hid (hm.kept GA (by simp) (by simp)); have G4 := Lib.hid ((grown_new G3.out hw R3.out.2).trans GA); have B4 := Lib.hid (Box.new w4 0 C rfl); have Z4 := Lib.hid (show (w4.alloc (.cells #[.int .i64 0, .int .i64 C] 28)).heap.size = w4.heap.size + 1 by simp); clear hm hw GA))
  go_loopw [11, 12] (fun v i wr => ∃ (j : Nat) (A : Option Addr) (c : Nat), j ≤ C ∧ i = .int .i64 j ∧ v = .slice A j c ∧ wr.ownsRow (w4.heap.size + 1) 3 1 (.slice A j c) j ((from_ 0 j).map (Value.int .i64)) ∧ MemAt wr g r ys ∧ w.grownBy wr none ∧ Box wr w4.heap.size 0 C ∧ w4.heap.size + 1 ≤ wr.heap.size) (fun _ i _ => C - (intOf i).toNat)
  case atStart => exact ⟨0, none, 0, Nat.zero_le _, rfl, rfl, World.ownsRow_nil _ _ _ _, M4.out, G4.out, B4.out, by rw [Z4.out]; omega⟩
  case round =>
    obtain ⟨j, A, c, hj, rfl, rfl, ho, hm, hg, hb, hz⟩ := hrel
    have HO := Lib.hid ho
    have HM := Lib.hid hm
    have HG := Lib.hid hg
    have HB := Lib.hid hb
    clear ho hm hg hb
    by_cases hlt : j < C
    · have FM := Lib.hid (from_more j 0)
      go_wp2_with (first
        | (at_builtin; refine wpList_append_rd rfl (.tmp 51) (.tmp 53) 34 rfl (w4.heap.size + 1) 3 i0 (.int .i64 0) 8 Try.underlying34 E.out.2.2.2 E.out.1 E.out.2.1 E.out.2.2.1 rfl _ j (from_ 0 j) rfl (HO.out.alloc _) (some ⟨_, 0, none⟩) 1 1 _ [(j : Int)] rfl (li.Rd.one_at _ _ _ (by simp)) (by unfold maxLen; omega) (by omega) (by simp; omega) ?_; intro A4 c4 w5 own4 rd4 gr4; have X5 := Lib.hid ((HB.out.kept (World.grownBy_alloc _ _ none) (by simp)).kept gr4 (fun e => by have := own_base HO.out _ e.symm; omega)); have M5 := Lib.hid ((HM.out.kept (World.grownBy_alloc _ _ none) (by simp) (by simp)).kept gr4 (fun e => by have := own_base HO.out _ e.symm; have := R4.out.1; omega) (fun e => by have := own_base HO.out _ e.symm; have := R4.out.2; omega)); have G5 := Lib.hid (li.grown_one HG.out HO.out (by have := G4.out.size; rw [Z4.out] at this; omega) gr4); have S5 := gr4.size; have OWN5 := Lib.hid own4; clear own4 rd4 gr4))
      go_roundw
      case rel => exact ⟨j + 1, A4, c4, by omega, by go_num, rfl, by rw [FM.out, Nat.zero_add]; exact OWN5.out, M5.out, G5.out, X5.out, by simp at S5; omega⟩
      case measure => simp [intOf]; omega
    · obtain rfl : j = C := by omega
      have LI := Lib.hid (show Lies w g r (w4.heap.size + 1) w4.heap.size w.heap.size from ⟨R4.out.1, R4.out.2, by omega, R3.out.1, R3.out.2, Nat.le_refl _⟩)
      have ST := Lib.hid (show St w g r (w4.heap.size + 1) w4.heap.size P n0 w.heap.size k D ops A j c ys 0 (from_ 0 j) wr from ⟨Fr.own HO.out (Nat.le_refl _), HM.out, LN.out, BD.out, CH.out, from_length _ _, HG.out, HB.out, HRO.out.kept HG.out (fun _ e => by cases e)⟩)
      clear HO HM HG HB hlt B4 M4 G4
      go_wp2_with (first
        | (go_at_call 15; (with_reducible refine (HF.out _).mono ?_); rintro e w' ⟨⟨L, cL, L50, Ln, rfl⟩, rfl⟩))
      go_loopw [10, 11, 13] (fun o v i wr => ∃ (q : Nat) (A : Option Addr) (n c : Nat) (xs l : List Int) (f : Int), q ≤ L ∧ i = .int .i64 q ∧ o = .bool true ∧ v = .slice A n c ∧ St w g r (w4.heap.size + 1) w4.heap.size P n0 w.heap.size k D ops A n c xs f l wr) (fun _ _ i _ => L - (intOf i).toNat)
      case atStart => exact ⟨0, A, j, c, ys, from_ 0 j, 0, Nat.zero_le _, rfl, rfl, rfl, ST.out⟩
      case round =>
        obtain ⟨q, A, n, c, xs, l, f, hq, rfl, rfl, rfl, hst⟩ := hrel
        have S0 := Lib.hid hst
        clear ST
        by_cases hlt : q < L
        · obtain ⟨b, off, rfl, hb, hcell, hbd⟩ := S0.out.rws q (by omega)
          have d0 := hcell 0 (by omega)
          rw [Nat.add_zero] at d0
          have d1 := hcell 1 (by omega)
          generalize ops q 0 = x0 at d0
          generalize ops q 1 = x1 at d1
          clear hcell hbd hst HRO
          have n16 : n ≤ 16 := by have := S0.out.ch.few; have := S0.out.num; omega
          by_cases hk1 : x0 = 1
          · subst hk1
            have S1' := Lib.hid (S0.out.kept (World.grownBy_alloc _ (.cells #[.int .i64 1, .int .i64 x1] 41) none))
            cases l with
            | nil =>
              have HN0 := Lib.hid (show n = 0 by have := S0.out.num; simp at this; omega)
              have dn : decide (0 < n) = false := decide_eq_false (by have := HN0.out; omega)
              have dn2 : decide (0 < (n : Int)) = false := decide_eq_false (by have := HN0.out; omega)
              obtain ⟨y0, y1, y2, y3⟩ := S1'.out.box.two
              have TN := Lib.hid (show (n : Int) < 1 by have := HN0.out; omega)
              go_wp2_with (first
                  | (go_at_call 16; (with_reducible refine (Take_few _ _ _ _ S1'.out.mem HP.out HK.out (TH.out _ S1'.out.len) TN.out).mono ?_); rintro e w5 ⟨rfl, hw⟩; have SF := Lib.hid (S1'.out.kept (hw.trans (World.grownBy_alloc w5 (.cells #[.int .i64 0, .int .i64 0] 28) none))); obtain ⟨z0, z1, z2, z3⟩ := SF.out.box.two; clear hw)
                  | (have mark := SF; go_at_call 14; (with_reducible refine (All_chz SF.out.mem SF.out.bd P k _ _ _ HP.out HK.out (TH.out _ SF.out.len) _ SF.out.ch SF.out.num (by omega)).mono ?_); rintro e w8 ⟨⟨A8, e8, rfl, h8⟩, hw⟩; have S8 := Lib.hid (SF.out.kept hw); have R8 := Lib.hid h8; obtain ⟨z0, z1, z2, z3⟩ := S8.out.box.two; clear h8 hw)
                  | (have mark := S8; go_at_call 21; (with_reducible refine (li.Ints_true _ _ _ _ _ _ _ _ _ _ (by omega) rfl R8.out S8.out.fr.rd).mono ?_); rintro e w9 ⟨rfl, dq, rfl⟩))
              go_roundw
              case rel => exact ⟨q + 1, _, n, _, _, [], f, by omega, by go_num, rfl, rfl, S8.out.drewN dq⟩
              case measure => simp [intOf]; omega
            | cons x l =>
              obtain ⟨m, rfl⟩ : ∃ m, n = m + 1 := ⟨n - 1, by have := S0.out.num; simp at this; omega⟩
              obtain ⟨rfl, hx, hxl, hch⟩ := S0.out.ch
              have HCH := Lib.hid hch
              have FN := Lib.hid (fits_iff.mpr (by omega) : fits ((m : Int) + 1) = true)
              have TK := Lib.hid (tk_iff.mpr ⟨TH.out _ S0.out.len, by omega, hch.wide.1⟩ : tk xs P k f ((m : Int) + 1) = true)
              obtain ⟨t, ht⟩ : ∃ t, t = lk xs P k f := ⟨_, rfl⟩
              have HT := Lib.hid ht
              rw [← ht] at HCH
              obtain ⟨y0, y1, y2, y3⟩ := S1'.out.box.two
              rw [show ((m + 1 : Nat) : Int) = (m : Int) + 1 by omega] at y1
              have HX := Lib.hid hx
              have HXL := Lib.hid hxl
              clear hx hxl hch ht
              obtain ⟨b2, o2, rfl, g2⟩ := S1'.out.fr.1.at_ (show 0 < m + 1 by omega)
              rw [Nat.add_zero] at g2
              have hcc := S0.out.fr.2.2
              unfold maxLen at hcc
              obtain ⟨at1, a, at2, at3, at4, at5, at6⟩ := at_nat (p := P) (k := k) (i := f) (by omega) (by omega) HX.out.1 HX.out.2
              have AL := Lib.hid (show a < 128 by omega)
              have A3 := Lib.hid at3
              clear at3 at4 at5 at6
              have HNL := Lib.hid (show l.length = m by have := S0.out.num; simpa using this)
              by_cases hc1 : c = 1
              · have HM0 := Lib.hid (show m = 0 by omega)
                subst hc1
                clear hcc n16
                have m16 : m ≤ 16 := by have := HM0.out; omega
                go_wp2_with (first
                  | (go_at_call 16; (with_reducible refine (Take_yes S1'.out.mem S1'.out.bd _ _ _ _ HP.out HK.out FN.out TK.out).mono ?_); rintro e w5 ⟨rfl, hw⟩; rw [← HT.out, show (m : Int) + 1 - 1 = m by omega]; have S5 := Lib.hid (S1'.out.kept (hw.trans (World.grownBy_alloc w5 (.cells #[.int .i64 t, .int .i64 m] 28) none))); obtain ⟨y0, y1, y2, y3⟩ := S5.out.box.two; have g2 := (hw.trans (World.grownBy_alloc w5 (.cells #[.int .i64 t, .int .i64 m] 28) none)).cell g2 (by simp); clear hw)
                  | (go_at_call 17; (with_reducible refine (at_any _ _ _ _ HP.out HK.out).mono ?_); rintro e w' ⟨rfl, rfl⟩; rw [at1, at2])
                  | (go_at_call 18; have S6 := Lib.hid (St.put LI.out S5.out (Fr.rest (A := some ⟨b2, o2, none⟩) (c' := 0) S5.out.fr (fun h => absurd h (by have := HM0.out; omega)) (fun e => by cases e) (by have := HM0.out; omega) (by unfold maxLen; omega)) HCH.out HNL.out m rfl); (with_reducible refine (Store_yes S6.out.mem a 5 (by rw [S6.out.len]; exact AL.out)).mono ?_); rintro e w6 ⟨rfl, hm, hw⟩; have SF := Lib.hid (St.write LI.out S6.out hm hw (by rw [List.length_set]; exact S6.out.len) (S6.out.bd.set a (by omega) (by omega)) (A3.out ▸ Ch.set HX.out 5 HCH.out HXL.out)); obtain ⟨z0, z1, z2, z3⟩ := SF.out.box.two; clear hm hw)
                  | (have mark := SF; go_at_call 14; (with_reducible refine (All_chz SF.out.mem SF.out.bd P k _ _ _ HP.out HK.out (TH.out _ SF.out.len) _ SF.out.ch SF.out.num (by omega)).mono ?_); rintro e w8 ⟨⟨A8, e8, rfl, h8⟩, hw⟩; have S8 := Lib.hid (SF.out.kept hw); have R8 := Lib.hid h8; obtain ⟨z0, z1, z2, z3⟩ := S8.out.box.two; clear h8 hw)
                  | (have mark := S8; go_at_call 21; (with_reducible refine (li.Ints_true _ _ _ _ _ _ _ _ _ _ (by omega) rfl R8.out S8.out.fr.rd).mono ?_); rintro e w9 ⟨rfl, dq, rfl⟩))
                go_roundw
                case rel => exact ⟨q + 1, _, m, _, _, l, t, by omega, by go_num, rfl, rfl, S8.out.drewN dq⟩
                case measure => simp [intOf]; omega
              · go_wp2_with (first
                  | (go_at_call 16; (with_reducible refine (Take_yes S1'.out.mem S1'.out.bd _ _ _ _ HP.out HK.out FN.out TK.out).mono ?_); rintro e w5 ⟨rfl, hw⟩; rw [← HT.out, show (m : Int) + 1 - 1 = m by omega]; have S5 := Lib.hid (S1'.out.kept (hw.trans (World.grownBy_alloc w5 (.cells #[.int .i64 t, .int .i64 m] 28) none))); obtain ⟨y0, y1, y2, y3⟩ := S5.out.box.two; have g2 := (hw.trans (World.grownBy_alloc w5 (.cells #[.int .i64 t, .int .i64 m] 28) none)).cell g2 (by simp); clear hw)
                  | (go_at_call 17; (with_reducible refine (at_any _ _ _ _ HP.out HK.out).mono ?_); rintro e w' ⟨rfl, rfl⟩; rw [at1, at2])
                  | (go_at_call 18; have S6 := Lib.hid (St.put LI.out S5.out (Fr.rest (A := some ⟨b2, o2 + 1, none⟩) (c' := c - 1) S5.out.fr (fun _ => rfl) (fun e => by cases e) (by omega) (by unfold maxLen; omega)) HCH.out HNL.out m rfl); (with_reducible refine (Store_yes S6.out.mem a 5 (by rw [S6.out.len]; exact AL.out)).mono ?_); rintro e w6 ⟨rfl, hm, hw⟩; have SF := Lib.hid (St.write LI.out S6.out hm hw (by rw [List.length_set]; exact S6.out.len) (S6.out.bd.set a (by omega) (by omega)) (A3.out ▸ Ch.set HX.out 5 HCH.out HXL.out)); obtain ⟨z0, z1, z2, z3⟩ := SF.out.box.two; clear hm hw)
                  | (have mark := SF; go_at_call 14; (with_reducible refine (All_chz SF.out.mem SF.out.bd P k _ _ _ HP.out HK.out (TH.out _ SF.out.len) _ SF.out.ch SF.out.num (by omega)).mono ?_); rintro e w8 ⟨⟨A8, e8, rfl, h8⟩, hw⟩; have S8 := Lib.hid (SF.out.kept hw); have R8 := Lib.hid h8; obtain ⟨z0, z1, z2, z3⟩ := S8.out.box.two; clear h8 hw)
                  | (have mark := S8; go_at_call 21; (with_reducible refine (li.Ints_true _ _ _ _ _ _ _ _ _ _ (by omega) rfl R8.out S8.out.fr.rd).mono ?_); rintro e w9 ⟨rfl, dq, rfl⟩))
                go_roundw
                case rel => exact ⟨q + 1, _, m, _, _, l, t, by omega, by go_num, rfl, rfl, S8.out.drewN dq⟩
                case measure => simp [intOf]; omega
          · have hk2 : (x0 == 1) = false := by simpa using hk1
            have S1' := Lib.hid (S0.out.kept (World.grownBy_alloc _ (.cells #[.int .i64 x0, .int .i64 x1] 41) none))
            obtain ⟨y0, y1, y2, y3⟩ := S1'.out.box.two
            have CJ := C1.out
            clear hk1
            by_cases hr1 : 0 ≤ x1
            · by_cases hr2 : x1 < j
              · by_cases hin : x1 ∈ l
                · have DIN := Lib.hid (decide_eq_true hin)
                  have SF := S1'
                  clear hin CJ
                  go_wp2_with (first
                  | (go_at_call 19; (with_reducible refine (li.In_any (by omega) S1'.out.fr.rd x1).mono ?_); rintro e w5 ⟨rfl, hw⟩; subst hw; rw [DIN.out])
                  | (have mark := SF; go_at_call 14; (with_reducible refine (All_chz SF.out.mem SF.out.bd P k _ _ _ HP.out HK.out (TH.out _ SF.out.len) _ SF.out.ch SF.out.num (by omega)).mono ?_); rintro e w8 ⟨⟨A8, e8, rfl, h8⟩, hw⟩; have S8 := Lib.hid (SF.out.kept hw); have R8 := Lib.hid h8; obtain ⟨z0, z1, z2, z3⟩ := S8.out.box.two; clear h8 hw)
                  | (have mark := S8; go_at_call 21; (with_reducible refine (li.Ints_true _ _ _ _ _ _ _ _ _ _ (by omega) rfl R8.out S8.out.fr.rd).mono ?_); rintro e w9 ⟨rfl, dq, rfl⟩))
                  go_roundw
                  case rel => exact ⟨q + 1, _, n, _, _, l, f, by omega, by go_num, rfl, rfl, S8.out.drewN dq⟩
                  case measure => simp [intOf]; omega
                · have DIN := Lib.hid (decide_eq_false hin)
                  have hx1 : 0 ≤ x1 ∧ x1 < cl k := by omega
                  obtain ⟨at1, a, at2, at3, at4, at5, at6⟩ := at_nat (p := P) (k := k) (i := x1) (by omega) (by omega) hx1.1 hx1.2
                  have HC5 := Lib.hid (Ch.give S0.out.ch hx1 hin (by have := S0.out.len; omega))
                  have CW5 := Lib.hid (Ch.set (p := P) hx1 (-1 - f) S0.out.ch hin)
                  have FW := S0.out.ch.wide
                  have HNL := Lib.hid (show (x1 :: l).length = 1 + n by have := S0.out.num; simp; omega)
                  have GV := Lib.hid (gv_iff.mpr ⟨TH.out _ S0.out.len, hr1, hx1.2, by omega, by have := HC5.out.few; have := HNL.out; omega, FW.1, FW.2⟩ : gv xs.length P k f n x1 = true)
                  have BD5 := Lib.hid (S0.out.bd.set ((P : Int) * 32 + x1 * sz k).toNat (v := -1 - f) (by omega) (by omega))
                  have RL := Lib.hid (show r < wr.heap.size ∧ w4.heap.size + 1 ≤ wr.heap.size from ⟨S0.out.mem.lt.2, lt_of_heap S0.out.box⟩)
                  have O1 := Lib.hid (show (wr.alloc (.cells #[.int .i64 x0, .int .i64 x1] 41)).cell? ⟨wr.heap.size, 1, none⟩ = some (.int .i64 x1) by simp [go_sem])
                  clear hin CJ at1 at2 at3 at4 at5 at6 FW hx1
                  go_wp2_with (first
                  | (go_at_call 19; (with_reducible refine (li.In_any (by omega) S1'.out.fr.rd x1).mono ?_); rintro e w5 ⟨rfl, hw⟩; subst hw; rw [DIN.out])
                  | (go_at_call 20; (with_reducible refine (Give_yes _ _ _ _ _ S1'.out.mem HP.out HK.out GV.out).mono ?_); rintro e w6 ⟨rfl, hm, hw⟩; have GA := World.grownBy_alloc w6 (.cells #[.int .i64 x1, .int .i64 ((n : Int) + 1)] 28) none; have S5 := Lib.hid ((St.write LI.out S1'.out hm hw (by rw [List.length_set]; exact S1'.out.len) BD5.out CW5.out).kept GA); have Z6 := hw.size; rw [heap_size_alloc] at Z6; have o1 := GA.cell (hw.cell O1.out (by have := RL.out.1; simp; omega)) (by simp); have D5 := Lib.hid (Box.new w6 x1 ((n : Int) + 1) rfl); clear hm hw GA)
                  | (at_builtin; refine wpList_append_rd rfl (.tmp 149) (.tmp 152) 34 rfl (w6.heap.size + 1) 3 i0 (.int .i64 0) 8 Try.underlying34 E.out.2.2.2 E.out.1 E.out.2.1 E.out.2.2.1 rfl _ 0 [] rfl (World.ownsRow_nil _ _ _ _) (some ⟨_, 0, none⟩) 1 1 _ [x1] rfl (li.Rd.one_at _ _ _ (by simp)) (by unfold maxLen; omega) (by omega) (by simp) ?_; intro A6 c6 w7 own6 rd6 gr6; simp only [Nat.zero_add, List.nil_append] at own6; have gr := (World.grownBy_alloc _ _ none).trans (show World.grownBy _ w7 none from gr6); have S6 := Lib.hid (S5.out.kept gr); have D6 := Lib.hid (D5.out.kept gr (by simp)); have OWN6 := Lib.hid own6; have Z7 := gr.size; rw [heap_size_alloc] at Z7; clear own6 rd6 gr6 gr)
                  | (at_builtin; refine wpList_append_rd rfl (.tmp 154) (.tmp 155) 34 rfl (w6.heap.size + 1) 3 i0 (.int .i64 0) 8 Try.underlying34 E.out.2.2.2 E.out.1 E.out.2.1 E.out.2.2.1 rfl _ 1 [x1] rfl OWN6.out A n c w7.heap.size l rfl S6.out.fr.rd (by unfold maxLen; omega) (by omega) (by omega) ?_; intro A7 c7 w8 own7 rd7 gr7; have S7 := Lib.hid (St.own LI.out S0.out S6.out gr7 (fun q e => by have := own_base OWN6.out _ e; omega)); have D7 := D6.out.kept gr7 (fun e => by have := own_base OWN6.out _ e.symm; omega); obtain ⟨x0', x1', x2', x3'⟩ := D7.two; obtain ⟨y0, y1, y2, y3⟩ := S7.out.box.two; have SF := Lib.hid (St.put LI.out S7.out (Fr.own own7 (by have := RL.out.2; omega)) HC5.out HNL.out ((n : Int) + 1) (by omega)); obtain ⟨z0, z1, z2, z3⟩ := SF.out.box.two; clear own7 rd7 gr7 D7)
                  | (have mark := SF; go_at_call 14; (with_reducible refine (All_chz SF.out.mem SF.out.bd P k _ _ _ HP.out HK.out (TH.out _ SF.out.len) _ SF.out.ch SF.out.num (by omega)).mono ?_); rintro e w8 ⟨⟨A8, e8, rfl, h8⟩, hw⟩; have S8 := Lib.hid (SF.out.kept hw); have R8 := Lib.hid h8; obtain ⟨z0, z1, z2, z3⟩ := S8.out.box.two; clear h8 hw)
                  | (have mark := S8; go_at_call 21; (with_reducible refine (li.Ints_true _ _ _ _ _ _ _ _ _ _ (by omega) rfl R8.out S8.out.fr.rd).mono ?_); rintro e w9 ⟨rfl, dq, rfl⟩))
                  go_roundw
                  case rel => exact ⟨q + 1, _, (1 + n), _, _, (x1 :: l), x1, by omega, by go_num, rfl, rfl, S8.out.drewN dq⟩
                  case measure => simp [intOf]; omega
              · have hr3 : (j : Int) ≤ x1 := by omega
                have GV := Lib.hid (gv_no (by omega : ¬ (x1 < cl k)) : gv xs.length P k f n x1 = false)
                clear hr2 CJ
                go_wp2_with (first
                  | (go_at_call 20; (with_reducible refine (Give_no _ _ _ _ _ S1'.out.mem HP.out HK.out GV.out).mono ?_); rintro e w5 ⟨rfl, hw⟩; have SF := Lib.hid (S1'.out.kept (hw.trans (World.grownBy_alloc w5 (.cells #[.int .i64 0, .int .i64 0] 28) none))); obtain ⟨z0, z1, z2, z3⟩ := SF.out.box.two; clear hw)
                  | (have mark := SF; go_at_call 14; (with_reducible refine (All_chz SF.out.mem SF.out.bd P k _ _ _ HP.out HK.out (TH.out _ SF.out.len) _ SF.out.ch SF.out.num (by omega)).mono ?_); rintro e w8 ⟨⟨A8, e8, rfl, h8⟩, hw⟩; have S8 := Lib.hid (SF.out.kept hw); have R8 := Lib.hid h8; obtain ⟨z0, z1, z2, z3⟩ := S8.out.box.two; clear h8 hw)
                  | (have mark := S8; go_at_call 21; (with_reducible refine (li.Ints_true _ _ _ _ _ _ _ _ _ _ (by omega) rfl R8.out S8.out.fr.rd).mono ?_); rintro e w9 ⟨rfl, dq, rfl⟩))
                go_roundw
                case rel => exact ⟨q + 1, _, n, _, _, l, f, by omega, by go_num, rfl, rfl, S8.out.drewN dq⟩
                case measure => simp [intOf]; omega
            · have hr3 : x1 < 0 := by omega
              have GV := Lib.hid (gv_no' (by omega : ¬ (0 ≤ x1)) : gv xs.length P k f n x1 = false)
              clear hr1 CJ
              go_wp2_with (first
                  | (go_at_call 20; (with_reducible refine (Give_no _ _ _ _ _ S1'.out.mem HP.out HK.out GV.out).mono ?_); rintro e w5 ⟨rfl, hw⟩; have SF := Lib.hid (S1'.out.kept (hw.trans (World.grownBy_alloc w5 (.cells #[.int .i64 0, .int .i64 0] 28) none))); obtain ⟨z0, z1, z2, z3⟩ := SF.out.box.two; clear hw)
                  | (have mark := SF; go_at_call 14; (with_reducible refine (All_chz SF.out.mem SF.out.bd P k _ _ _ HP.out HK.out (TH.out _ SF.out.len) _ SF.out.ch SF.out.num (by omega)).mono ?_); rintro e w8 ⟨⟨A8, e8, rfl, h8⟩, hw⟩; have S8 := Lib.hid (SF.out.kept hw); have R8 := Lib.hid h8; obtain ⟨z0, z1, z2, z3⟩ := S8.out.box.two; clear h8 hw)
                  | (have mark := S8; go_at_call 21; (with_reducible refine (li.Ints_true _ _ _ _ _ _ _ _ _ _ (by omega) rfl R8.out S8.out.fr.rd).mono ?_); rintro e w9 ⟨rfl, dq, rfl⟩))
              go_roundw
              case rel => exact ⟨q + 1, _, n, _, _, l, f, by omega, by go_num, rfl, rfl, S8.out.drewN dq⟩
              case measure => simp [intOf]; omega
        · clear hst
          go_wp2
          go_ret
          exact ⟨rfl, S0.out.grown⟩
theorem Runs_any (p k : Int) (D : Option Addr) (n0 c0 : Nat) (ops : Nat → Nat → Int) (w : World) (hk : fits k = true) (hn : n0 ≤ c0) (hm : c0 ≤ maxLen) (hro : Rws w w.heap.size D n0 2 ops) :
    Calls Try.prog 4 #[.int .i64 p, .int .i64 k, .slice D n0 c0] w fun e w' => e = .returned (.bool true) ∧ Below w.heap.size w w' := by
  refine Calls.mono (R := fun e w' => e = .returned (.bool true) ∧ w.grownBy w' none) ?_ fun e w' h => ⟨h.1, grown_below h.2⟩
  by_cases hc : 0 < cl k
  · exact Runs_yes p k D n0 c0 ops w hk hc hn hm hro
  · exact Runs_none p k D n0 c0 w hk (by have := cl_wide k; omega)
end Go.Proofs.Ytdaopeafologeaa.ch
