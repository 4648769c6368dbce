/- What a step of the law's own script on words does: a move, and a look. -/
import Derived.Test.YtdlclkmaiaeleaaMmG
import Derived.StillTailTactics
namespace Go.Proofs.Ytdlclkmaiaeleaa.mm
open Go.ChangeShapes Go.WideShapes Go.ChangeAt Go.RowKit gen
set_option linter.unusedVariables false
theorem grown_drew {a w : World} {row : Option Nat} (h : a.grownBy w row) : a.grownBy w.drew row := ⟨h.os, h.tape, h.output, h.size, h.block⟩
section
variable {g r : Nat} {xs : List Int} {w : World} {A : Option Addr} {c : Nat} (k a b n v : Int)
set_option maxHeartbeats 8000000
set_option maxRecDepth 100000
theorem step_3n1 {m : Nat} (h : MemAt w g r xs) (hm : xs.length = m) (hl : Lst w r (.slice A m c) xs) (hbd : n ≤ 9223372036854775807) (ha : ¬ (0 ≤ a ∧ 0 ≤ n ∧ a + n ≤ m)) (hb : 0 ≤ b ∧ 0 ≤ n ∧ b + n ≤ m) :
    Calls Try.prog 24 #[.pointer (some ⟨g, 0, none⟩), .slice A m c, .agg #[.int .i64 3, .int .i64 a, .int .i64 b, .int .i64 n, .int .i64 v]] w (StepAns g r m (.slice A m c) w) := by
  obtain ⟨i0, hi, hz0, hz1, hz2⟩ := info_parts info2'
  have E : Hid (i0.zero = some (.int .i64 0) ∧ i0.size = 1 ∧ i0.bytes = 8 ∧ Try.prog.info? 2 = some i0) := ⟨hz0, hz1, hz2, hi⟩
  have hn := h.2.2
  have R := Lib.hid (hl.rd' hm)
  have HL := Lib.hid hl
  have H := Lib.hid h
  obtain ⟨b, rfl⟩ : ∃ q : Nat, b = q := ⟨b.toNat, by omega⟩
  obtain ⟨n, rfl⟩ : ∃ q : Nat, n = q := ⟨n.toNat, by omega⟩
  have hb2 : b + n ≤ m := by omega
  clear hb
  have hs : m ≤ 2048 := by omega
  have HM := Lib.hid hm
  have N := Lib.hid (Five.new w 50 3 a b n v)
  have G0 := Lib.hid (World.grownBy_alloc w (.cells #[.int .i64 3, .int .i64 a, .int .i64 b, .int .i64 n, .int .i64 v] 50) none)
  clear hl h hi hz0 hz1 hz2 hm hn
  go_enter Try.func24, Try.ntmps24
  go_wp2_with (first
    | (refine wpList_append_rd rfl (.tmp 16) (.tmp 17) 26 rfl (w.heap.size + 1) 2 i0 (.int .i64 0) 8 Try.underlying26 E.out.2.2.2 E.out.1 E.out.2.1 E.out.2.2.1 rfl _ 0 [] rfl (World.ownsRow_nil _ _ _ _) A m c w.heap.size xs rfl (R.out.below (grown_below G0.out)) (by unfold maxLen; omega) (by omega) (by simp) ?_; intro A3 c3 w2 own1 rd1 gr1; simp only [Nat.zero_add, List.nil_append] at own1; have gr2 := show (w.alloc _).grownBy w2 none from gr1; have G1 := Lib.hid (G0.out.trans gr2); have F1 := Lib.hid (N.out.kept gr2 (by simp)); obtain ⟨k0, k1, k2, k3, k4⟩ := F1.out; have OWN1 := Lib.hid own1; have H1 := Lib.hid (H.out.kept G1.out (by simp) (by simp)); clear own1 gr1 rd1 gr2)
    | (go_at_call 16; (with_reducible refine (there_no _ _ _ _ _ _ (by omega) (by omega)).mono ?_); rintro e w' ⟨rfl, rfl⟩))
  go_loopw [13] (fun i wr => i = .int .i64 0 ∧ wr = w2) (fun _ _ => 0)
  case atStart => exact ⟨rfl, rfl⟩
  case round =>
    obtain ⟨rfl, rfl⟩ := hrel
    go_wp2_with (first
      | (go_at_call 17; (with_reducible refine (Move_not H1.out a b n (by rw [HM.out]; omega) (by rw [HM.out]; exact hb2)).mono ?_); rintro e w' ⟨rfl, rfl⟩))
    go_ret2
    exact ⟨_, _, _, rfl, HM.out, H1.out, own_lst OWN1.out HM.out (by have := H.out.lt.2; omega), grown_then G1.out (grown_refl _ _), From.own OWN1.out (by omega)⟩
theorem step_3n2 {m : Nat} (h : MemAt w g r xs) (hm : xs.length = m) (hl : Lst w r (.slice A m c) xs) (hbd : n ≤ 9223372036854775807) (ha : ¬ (0 ≤ a ∧ 0 ≤ n ∧ a + n ≤ m)) (hb : ¬ (0 ≤ b ∧ 0 ≤ n ∧ b + n ≤ m)) :
    Calls Try.prog 24 #[.pointer (some ⟨g, 0, none⟩), .slice A m c, .agg #[.int .i64 3, .int .i64 a, .int .i64 b, .int .i64 n, .int .i64 v]] w (StepAns g r m (.slice A m c) w) := by
  obtain ⟨i0, hi, hz0, hz1, hz2⟩ := info_parts info2'
  have E : Hid (i0.zero = some (.int .i64 0) ∧ i0.size = 1 ∧ i0.bytes = 8 ∧ Try.prog.info? 2 = some i0) := ⟨hz0, hz1, hz2, hi⟩
  have hn := h.2.2
  have R := Lib.hid (hl.rd' hm)
  have HL := Lib.hid hl
  have H := Lib.hid h
  have hs : m ≤ 2048 := by omega
  have HM := Lib.hid hm
  have N := Lib.hid (Five.new w 50 3 a b n v)
  have G0 := Lib.hid (World.grownBy_alloc w (.cells #[.int .i64 3, .int .i64 a, .int .i64 b, .int .i64 n, .int .i64 v] 50) none)
  clear hl h hi hz0 hz1 hz2 hm hn
  go_enter Try.func24, Try.ntmps24
  go_wp2_with (first
    | (refine wpList_append_rd rfl (.tmp 16) (.tmp 17) 26 rfl (w.heap.size + 1) 2 i0 (.int .i64 0) 8 Try.underlying26 E.out.2.2.2 E.out.1 E.out.2.1 E.out.2.2.1 rfl _ 0 [] rfl (World.ownsRow_nil _ _ _ _) A m c w.heap.size xs rfl (R.out.below (grown_below G0.out)) (by unfold maxLen; omega) (by omega) (by simp) ?_; intro A3 c3 w2 own1 rd1 gr1; simp only [Nat.zero_add, List.nil_append] at own1; have gr2 := show (w.alloc _).grownBy w2 none from gr1; have G1 := Lib.hid (G0.out.trans gr2); have F1 := Lib.hid (N.out.kept gr2 (by simp)); obtain ⟨k0, k1, k2, k3, k4⟩ := F1.out; have OWN1 := Lib.hid own1; have H1 := Lib.hid (H.out.kept G1.out (by simp) (by simp)); clear own1 gr1 rd1 gr2)
    | (go_at_call 16; (with_reducible refine (there_no _ _ _ _ _ _ (by omega) (by omega)).mono ?_); rintro e w' ⟨rfl, rfl⟩))
  go_loopw [13] (fun i wr => i = .int .i64 0 ∧ wr = w2) (fun _ _ => 0)
  case atStart => exact ⟨rfl, rfl⟩
  case round =>
    obtain ⟨rfl, rfl⟩ := hrel
    go_wp2_with (first
      | (go_at_call 17; (with_reducible refine (Move_nof _ _ _ _ _ (part_no H1.out b n hbd (by rw [HM.out]; exact hb))).mono ?_); rintro e w' ⟨rfl, rfl⟩))
    go_ret2
    exact ⟨_, _, _, rfl, HM.out, H1.out, own_lst OWN1.out HM.out (by have := H.out.lt.2; omega), grown_then G1.out (grown_refl _ _), From.own OWN1.out (by omega)⟩
theorem step_3n3 {m : Nat} (h : MemAt w g r xs) (hm : xs.length = m) (hl : Lst w r (.slice A m c) xs) (hbd : n ≤ 9223372036854775807) (ha : 0 ≤ a ∧ 0 ≤ n ∧ a + n ≤ m) (hb : ¬ (0 ≤ b ∧ 0 ≤ n ∧ b + n ≤ m)) :
    Calls Try.prog 24 #[.pointer (some ⟨g, 0, none⟩), .slice A m c, .agg #[.int .i64 3, .int .i64 a, .int .i64 b, .int .i64 n, .int .i64 v]] w (StepAns g r m (.slice A m c) w) := by
  obtain ⟨i0, hi, hz0, hz1, hz2⟩ := info_parts info2'
  have E : Hid (i0.zero = some (.int .i64 0) ∧ i0.size = 1 ∧ i0.bytes = 8 ∧ Try.prog.info? 2 = some i0) := ⟨hz0, hz1, hz2, hi⟩
  have hn := h.2.2
  have R := Lib.hid (hl.rd' hm)
  have HL := Lib.hid hl
  have H := Lib.hid h
  have HA := Lib.hid ha
  have HB := Lib.hid hb
  clear ha hb
  have hs : m ≤ 4194304 := by omega
  have HM := Lib.hid hm
  have N := Lib.hid (Five.new w 50 3 a b n v)
  have G0 := Lib.hid (World.grownBy_alloc w (.cells #[.int .i64 3, .int .i64 a, .int .i64 b, .int .i64 n, .int .i64 v] 50) none)
  clear hl h hi hz0 hz1 hz2 hm hn
  go_enter Try.func24, Try.ntmps24
  go_wp2_with (first
    | (refine wpList_append_rd rfl (.tmp 16) (.tmp 17) 26 rfl (w.heap.size + 1) 2 i0 (.int .i64 0) 8 Try.underlying26 E.out.2.2.2 E.out.1 E.out.2.1 E.out.2.2.1 rfl _ 0 [] rfl (World.ownsRow_nil _ _ _ _) A m c w.heap.size xs rfl (R.out.below (grown_below G0.out)) (by unfold maxLen; omega) (by omega) (by simp) ?_; intro A3 c3 w2 own1 rd1 gr1; simp only [Nat.zero_add, List.nil_append] at own1; have gr2 := show (w.alloc _).grownBy w2 none from gr1; have G1 := Lib.hid (G0.out.trans gr2); have F1 := Lib.hid (N.out.kept gr2 (by simp)); obtain ⟨k0, k1, k2, k3, k4⟩ := F1.out; have OWN1 := Lib.hid own1; have H1 := Lib.hid (H.out.kept G1.out (by simp) (by simp)); clear own1 gr1 rd1 gr2)
    | (go_at_call 16; (with_reducible refine (there_yes _ _ _ _ _ _ hs HA.out).mono ?_); rintro e w' ⟨rfl, rfl⟩)
    | (go_at_call 16; (with_reducible refine (there_no _ _ _ _ _ _ hs HB.out).mono ?_); rintro e w' ⟨rfl, rfl⟩))
  go_loopw [13] (fun i wr => i = .int .i64 0 ∧ wr = w2) (fun _ _ => 0)
  case atStart => exact ⟨rfl, rfl⟩
  case round =>
    obtain ⟨rfl, rfl⟩ := hrel
    go_wp2_with (first
      | (go_at_call 17; (with_reducible refine (Move_nof _ _ _ _ _ (part_no H1.out b n hbd (by rw [HM.out]; exact HB.out))).mono ?_); rintro e w' ⟨rfl, rfl⟩))
    go_ret2
    exact ⟨_, _, _, rfl, HM.out, H1.out, own_lst OWN1.out HM.out (by have := H.out.lt.2; omega), grown_then G1.out (grown_refl _ _), From.own OWN1.out (by omega)⟩
theorem step_3 {m : Nat} (h : MemAt w g r xs) (hm : xs.length = m) (hl : Lst w r (.slice A m c) xs) (ha : 0 ≤ a ∧ 0 ≤ n ∧ a + n ≤ m) (hb : 0 ≤ b ∧ 0 ≤ n ∧ b + n ≤ m) :
    Calls Try.prog 24 #[.pointer (some ⟨g, 0, none⟩), .slice A m c, .agg #[.int .i64 3, .int .i64 a, .int .i64 b, .int .i64 n, .int .i64 v]] w (StepAns g r m (.slice A m c) w) := by
  obtain ⟨i0, hi, hz0, hz1, hz2⟩ := info_parts info2'
  have E : Hid (i0.zero = some (.int .i64 0) ∧ i0.size = 1 ∧ i0.bytes = 8 ∧ Try.prog.info? 2 = some i0) := ⟨hz0, hz1, hz2, hi⟩
  have hn := h.2.2
  have R := Lib.hid (hl.rd' hm)
  have HL := Lib.hid hl
  have H := Lib.hid h
  obtain ⟨a, rfl⟩ : ∃ q : Nat, a = q := ⟨a.toNat, by omega⟩
  obtain ⟨b, rfl⟩ : ∃ q : Nat, b = q := ⟨b.toNat, by omega⟩
  obtain ⟨n, rfl⟩ : ∃ q : Nat, n = q := ⟨n.toNat, by omega⟩
  have ha2 : a + n ≤ m := by omega
  have hb2 : b + n ≤ m := by omega
  have hs : m ≤ 2048 := by omega
  have HM := Lib.hid hm
  have N := Lib.hid (Five.new w 50 3 a b n v)
  have G0 := Lib.hid (World.grownBy_alloc w (.cells #[.int .i64 3, .int .i64 a, .int .i64 b, .int .i64 n, .int .i64 v] 50) none)
  clear hl h hi hz0 hz1 hz2 hm hn ha hb
  go_enter Try.func24, Try.ntmps24
  go_wp2_with (first
    | (refine wpList_append_rd rfl (.tmp 16) (.tmp 17) 26 rfl (w.heap.size + 1) 2 i0 (.int .i64 0) 8 Try.underlying26 E.out.2.2.2 E.out.1 E.out.2.1 E.out.2.2.1 rfl _ 0 [] rfl (World.ownsRow_nil _ _ _ _) A m c w.heap.size xs rfl (R.out.below (grown_below G0.out)) (by unfold maxLen; omega) (by omega) (by simp) ?_; intro A3 c3 w2 own1 rd1 gr1; simp only [Nat.zero_add, List.nil_append] at own1; have gr2 := show (w.alloc _).grownBy w2 none from gr1; have G1 := Lib.hid (G0.out.trans gr2); have F1 := Lib.hid (N.out.kept gr2 (by simp)); obtain ⟨k0, k1, k2, k3, k4⟩ := F1.out; have OWN1 := Lib.hid own1; have H1 := Lib.hid (H.out.kept G1.out (by simp) (by simp)); clear own1 gr1 rd1 gr2)
    | (go_at_call 16; (with_reducible refine (there_yes _ _ _ _ _ _ (by omega) (by omega)).mono ?_); rintro e w' ⟨rfl, rfl⟩))
  go_loopw [13] (fun i wr => ∃ q : Nat, q ≤ n ∧ i = .int .i64 q ∧ wr.ownsRow (w.heap.size + 1) 2 1 (.slice A3 m c3) m ((moveN xs xs a b q).map (Value.int .i64)) ∧ w.grownBy wr none ∧ Five wr w.heap.size 3 a b n v) (fun i _ => n - (intOf i).toNat)
  case atStart => exact ⟨0, Nat.zero_le _, rfl, OWN1.out, G1.out, F1.out⟩
  case round =>
    obtain ⟨q, hq, rfl, ho, hg, hf⟩ := hrel
    obtain ⟨k0, k1, k2, k3, k4⟩ := id hf
    have HF := Lib.hid hf
    have HG := Lib.hid hg
    have HO := Lib.hid ho
    clear hf hg ho OWN1 G1 F1
    by_cases hlt : q < n
    · obtain ⟨g3, cap, e3, hb3, hlt3⟩ := HO.out.form (by omega)
      obtain ⟨rfl, rfl⟩ : A3 = some ⟨g3, 0, none⟩ ∧ c3 = cap := by injection e3 with h1 h2 h3; exact ⟨h1, h3⟩
      obtain ⟨mb, mo, rfl, hc4⟩ := (R.out.below (grown_below HG.out)).at_ (show b + q < m by omega)
      generalize hy : xs.getD (b + q) 0 = y at hc4
      have HY := Lib.hid hy
      clear hy
      have hc3 := HO.out.cellAt (a + q) (by omega)
      rw [List.getElem?_map, List.getElem?_eq_getElem (by rw [moveN_length, HM.out]; omega), Option.map_some] at hc3
      have hf3 := HO.out.frozenAt (a + q)
      have S3 := Lib.hid (HO.out.stored (a + q) (.int .i64 y))
      have W1 := IntWalk.i64_in ((a : Int) + q) (by omega)
      have W2 := IntWalk.i64_in ((b : Int) + q) (by omega)
      have p1 : (0 : Int) ≤ (a : Int) + q := by omega
      have p2 : (0 : Int) ≤ (b : Int) + q := by omega
      have p3 : (a : Int) + q < m := by omega
      have p4 : (b : Int) + q < m := by omega
      have p5 : ((a : Int) + q).toNat = a + q := by omega
      have p6 : ((b : Int) + q).toNat = b + q := by omega
      clear e3
      go_wp2
      go_region
      go_wp2
      go_roundw
      case rel => exact ⟨q + 1, by omega, by go_num, by have := S3.out.1; rw [show (List.map (Value.int .i64) (moveN xs xs a b q)).set (a + q) (.int .i64 y) = List.map (Value.int .i64) (moveN xs xs a b (q + 1)) by rw [← HY.out]; simp [moveN]] at this; exact this, grown_drew (grown_new HG.out S3.out.2 (by omega)), (HF.out.kept S3.out.2 (by simp; omega) : Five (wr.setCell _ _) _ _ _ _ _ _)⟩
      case measure => simp [intOf]; omega
    · obtain rfl : q = n := by omega
      have H2 := Lib.hid (H.out.kept HG.out (by simp) (by simp))
      go_wp2_with (first
        | (go_at_call 17; (with_reducible refine (Move_yes H2.out a b q (by rw [HM.out]; exact ha2) (by rw [HM.out]; exact hb2)).mono ?_); rintro e w4 ⟨rfl, hm4, hg4⟩; have M4 := Lib.hid hm4; have G4 := Lib.hid hg4; clear hm4 hg4))
      go_ret2
      have hlen : (moveN xs xs a b q).length = m := by rw [moveN_length, HM.out]
      exact ⟨_, _, _, rfl, hlen, M4.out, (own_lst HO.out hlen (by have := H.out.lt.2; omega)).grown G4.out, grown_then HG.out G4.out, From.own HO.out (by omega)⟩
theorem step_4n {m : Nat} (h : MemAt w g r xs) (hm : xs.length = m) (hl : Lst w r (.slice A m c) xs) (hk1 : (k == 1) = false) (hk2 : (k == 2) = false) (hk3 : (k == 3) = false) (ha : ¬ (0 ≤ a ∧ a < m)) :
    Calls Try.prog 24 #[.pointer (some ⟨g, 0, none⟩), .slice A m c, .agg #[.int .i64 k, .int .i64 a, .int .i64 b, .int .i64 n, .int .i64 v]] w (StepAns g r m (.slice A m c) w) := by
  obtain ⟨i0, hi, hz0, hz1, hz2⟩ := info_parts info2'
  have E : Hid (i0.zero = some (.int .i64 0) ∧ i0.size = 1 ∧ i0.bytes = 8 ∧ Try.prog.info? 2 = some i0) := ⟨hz0, hz1, hz2, hi⟩
  have hn := h.2.2
  have R := Lib.hid (hl.rd' hm)
  have HL := Lib.hid hl
  have H := Lib.hid h
  have hs : m ≤ 2048 := by omega
  have HM := Lib.hid hm
  have N := Lib.hid (Five.new w 50 k a b n v)
  have G0 := Lib.hid (World.grownBy_alloc w (.cells #[.int .i64 k, .int .i64 a, .int .i64 b, .int .i64 n, .int .i64 v] 50) none)
  clear hl h hi hz0 hz1 hz2 hm hn
  go_enter Try.func24, Try.ntmps24
  go_wp2_with (first
    | (refine wpList_append_rd rfl (.tmp 16) (.tmp 17) 26 rfl (w.heap.size + 1) 2 i0 (.int .i64 0) 8 Try.underlying26 E.out.2.2.2 E.out.1 E.out.2.1 E.out.2.2.1 rfl _ 0 [] rfl (World.ownsRow_nil _ _ _ _) A m c w.heap.size xs rfl (R.out.below (grown_below G0.out)) (by unfold maxLen; omega) (by omega) (by simp) ?_; intro A3 c3 w2 own1 rd1 gr1; simp only [Nat.zero_add, List.nil_append] at own1; have gr2 := show (w.alloc _).grownBy w2 none from gr1; have G1 := Lib.hid (G0.out.trans gr2); have F1 := Lib.hid (N.out.kept gr2 (by simp)); obtain ⟨k0, k1, k2, k3, k4⟩ := F1.out; have OWN1 := Lib.hid own1; have H1 := Lib.hid (H.out.kept G1.out (by simp) (by simp)); clear own1 gr1 rd1 gr2)
    | (go_at_call 16; (with_reducible refine (there_no _ _ _ _ _ _ (by omega) (by omega)).mono ?_); rintro e w' ⟨rfl, rfl⟩)
    | (go_at_call 18; (with_reducible refine (Load_no H1.out a (by rw [HM.out]; exact ha)).mono ?_); rintro e w' ⟨rfl, rfl⟩))
  go_ret2
  exact ⟨_, _, _, rfl, HM.out, H1.out, HL.out.made G1.out, grown_then G1.out (grown_refl _ _), From.same _ _⟩
theorem step_4 {m : Nat} (h : MemAt w g r xs) (hm : xs.length = m) (hl : Lst w r (.slice A m c) xs) (hk1 : (k == 1) = false) (hk2 : (k == 2) = false) (hk3 : (k == 3) = false) (ha : 0 ≤ a ∧ a < m) :
    Calls Try.prog 24 #[.pointer (some ⟨g, 0, none⟩), .slice A m c, .agg #[.int .i64 k, .int .i64 a, .int .i64 b, .int .i64 n, .int .i64 v]] w (StepAns g r m (.slice A m c) w) := by
  obtain ⟨i0, hi, hz0, hz1, hz2⟩ := info_parts info2'
  have E : Hid (i0.zero = some (.int .i64 0) ∧ i0.size = 1 ∧ i0.bytes = 8 ∧ Try.prog.info? 2 = some i0) := ⟨hz0, hz1, hz2, hi⟩
  have hn := h.2.2
  have R := Lib.hid (hl.rd' hm)
  have HL := Lib.hid hl
  have H := Lib.hid h
  obtain ⟨a, rfl⟩ : ∃ q : Nat, a = q := ⟨a.toNat, by omega⟩
  have ha' : a < m := by omega
  have hs : m ≤ 2048 := by omega
  have HM := Lib.hid hm
  have N := Lib.hid (Five.new w 50 k a b n v)
  have G0 := Lib.hid (World.grownBy_alloc w (.cells #[.int .i64 k, .int .i64 a, .int .i64 b, .int .i64 n, .int .i64 v] 50) none)
  clear hl h hi hz0 hz1 hz2 hm hn ha
  have hx := R.out.at_ ha'
  obtain ⟨mb, mo, rfl, hc4⟩ := hx
  have hmb := World.block_lt_of_cell? w _ hc4
  generalize hy : xs.getD a 0 = y at hc4
  have HY := Lib.hid hy
  have HC := Lib.hid hc4
  clear hy hc4
  have l1 : (0 : Int) ≤ a := by omega
  have l2 : (a : Int) < m := by omega
  go_enter Try.func24, Try.ntmps24
  go_wp2_with (first
    | (refine wpList_append_rd rfl (.tmp 16) (.tmp 17) 26 rfl (w.heap.size + 1) 2 i0 (.int .i64 0) 8 Try.underlying26 E.out.2.2.2 E.out.1 E.out.2.1 E.out.2.2.1 rfl _ 0 [] rfl (World.ownsRow_nil _ _ _ _) (some ⟨mb, mo, none⟩) m c w.heap.size xs rfl (R.out.below (grown_below G0.out)) (by unfold maxLen; omega) (by omega) (by simp) ?_; intro A3 c3 w2 own1 rd1 gr1; simp only [Nat.zero_add, List.nil_append] at own1; have gr2 := show (w.alloc _).grownBy w2 none from gr1; have G1 := Lib.hid (G0.out.trans gr2); have F1 := Lib.hid (N.out.kept gr2 (by simp)); obtain ⟨k0, k1, k2, k3, k4⟩ := F1.out; have OWN1 := Lib.hid own1; have H1 := Lib.hid (H.out.kept G1.out (by simp) (by simp)); have hc5 := (grown_below G1.out).cell (p := ⟨mb, mo + a, none⟩) hmb; rw [HC.out] at hc5; clear own1 gr1 rd1 gr2)
    | (go_at_call 16; (with_reducible refine (there_yes _ _ _ _ _ _ (by omega) (by omega)).mono ?_); rintro e w' ⟨rfl, rfl⟩)
    | (go_at_call 18; (with_reducible refine (Load_yes H1.out a (by rw [HM.out]; exact ha')).mono ?_); rintro e w' ⟨rfl, rfl⟩; rw [HY.out]))
  go_quiet (fail)
  go_wp2
  go_ret2
  exact ⟨_, _, _, rfl, HM.out, H1.out.drewN _, (HL.out.made G1.out).drewN _, grown_then G1.out (grown_drewN _ _ _), From.same _ _⟩
theorem step_any {m : Nat} (h : MemAt w g r xs) (hm : xs.length = m) (hl : Lst w r (.slice A m c) xs) (hbd : n ≤ 9223372036854775807) :
    Calls Try.prog 24 #[.pointer (some ⟨g, 0, none⟩), .slice A m c, .agg #[.int .i64 k, .int .i64 a, .int .i64 b, .int .i64 n, .int .i64 v]] w (StepAns g r m (.slice A m c) w) := by
  by_cases h1 : k = 1
  · subst h1
    by_cases ha : 0 ≤ a ∧ a < m
    · exact step_1 a b n v h hm hl ha
    · exact step_1n a b n v h hm hl ha
  by_cases h2 : k = 2
  · subst h2
    by_cases ha : 0 ≤ a ∧ 0 ≤ n ∧ a + n ≤ m
    · exact step_2 a b n v h hm hl ha
    · exact step_2n a b n v h hm hl hbd ha
  by_cases h3 : k = 3
  · subst h3
    by_cases ha : 0 ≤ a ∧ 0 ≤ n ∧ a + n ≤ m <;> by_cases hb : 0 ≤ b ∧ 0 ≤ n ∧ b + n ≤ m
    · exact step_3 a b n v h hm hl ha hb
    · exact step_3n3 a b n v h hm hl hbd ha hb
    · exact step_3n1 a b n v h hm hl hbd ha hb
    · exact step_3n2 a b n v h hm hl hbd ha hb
  by_cases ha : 0 ≤ a ∧ a < m
  · exact step_4 k a b n v h hm hl (by simpa using h1) (by simpa using h2) (by simpa using h3) ha
  · exact step_4n k a b n v h hm hl (by simpa using h1) (by simpa using h2) (by simpa using h3) ha
end
end Go.Proofs.Ytdlclkmaiaeleaa.mm
