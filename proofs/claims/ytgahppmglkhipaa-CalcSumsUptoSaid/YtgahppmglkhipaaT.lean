/- What a sum of many does when it is called with a slice that came in, or that was made. -/
import Derived.Test.YtgahppmglkhipaaS
import Derived.Test.YtgahppmglkhipaaG
namespace Go.Proofs.Ytgahppmglkhipaa.calls
open Go.ChangeShapes Go.WideShapes Go.ChangeAt Go.RowKit gen
set_option linter.unusedVariables false

theorem sum_rd (xs : List Int) (A : Option Addr) (n c B : Nat) (w : World) (hm : n ≤ 4194304) (hf : ∀ i, fits (xs.getD i 0) = true) (hr : Rd w B A n c xs) :
    Calls Try.prog 18 #[.slice A n c] w fun e w' => e = .returned (.tuple #[.int .i64 (sumTo 0 xs).1, .bool (sumTo 0 xs).2]) ∧ w = w' := by
  have hl := hr.1
  have HR := Lib.hid hr
  clear hr
  have HL := Lib.hid hl
  clear hl
  go_enter Try.func18, Try.ntmps18
  go_wp2
  go_loop [4, 11] (fun t i => ∃ (k : Nat) (s : Int), k ≤ n ∧ i = .int .i64 k ∧ t = .int .i64 s ∧ fits s = true ∧ sumTo 0 xs = sumTo s (xs.drop k)) (fun _ i => n - (intOf i).toNat)
  case atStart => exact ⟨0, 0, Nat.zero_le _, rfl, rfl, fits0, rfl⟩
  case round =>
    obtain ⟨k, s, hk, rfl, rfl, hn, hs⟩ := hrel
    have HS := Lib.hid hs
    clear hs
    by_cases hlt : k < n
    · obtain ⟨b, off, rfl, g⟩ := HR.out.at_ hlt
      have f := hf k
      have D := Lib.hid (drop_here (xs := xs) (k := k) (by rw [HL.out]; exact hlt))
      generalize xs.getD k 0 = x at g f D
      have HN := Lib.hid hn
      have HF := Lib.hid f
      clear hn f hf
      cases h : fits (s + x)
      · have H := Lib.hid h
        clear h
        go_wp2_with (go_at_call 8; (with_reducible refine (add_no _ _ _ HN.out HF.out H.out).mono ?_); rintro e w' ⟨rfl, rfl⟩)
        go_ret2
        exact ⟨retp (by rw [HS.out, D.out, sumTo_no H.out]), rfl⟩
      · have H := Lib.hid h
        clear h
        go_wp2_with (go_at_call 8; (with_reducible refine (add_yes _ _ _ H.out).mono ?_); rintro e w' ⟨rfl, rfl⟩)
        go_round
        case rel => exact ⟨k + 1, s + x, by omega, by go_num, rfl, H.out, by rw [HS.out, D.out, sumTo_yes H.out]⟩
        case measure => simp [intOf]; omega
    · have D := Lib.hid (drop_all (xs := xs) (k := k) (by rw [HL.out]; exact hlt))
      clear hn hf
      go_wp2
      go_ret2
      exact ⟨retp (by rw [HS.out, D.out]; rfl), rfl⟩

theorem sum_no (xs : List Int) (A : Option Addr) (n c B : Nat) (w : World) (hm : n ≤ 4194304) (hf : ∀ i, fits (xs.getD i 0) = true) (h : sumTo 0 xs = (0, false)) (hr : Rd w B A n c xs) :
    Calls Try.prog 18 #[.slice A n c] w fun e w' => e = .returned (.tuple #[.int .i64 0, .bool false]) ∧ w = w' := by
  have := sum_rd xs A n c B w hm hf hr
  rw [h] at this; exact this
theorem sum_yes (xs : List Int) (A : Option Addr) (n c B : Nat) (s : Int) (w : World) (hm : n ≤ 4194304) (hf : ∀ i, fits (xs.getD i 0) = true) (h : sumTo 0 xs = (s, true)) (hr : Rd w B A n c xs) :
    Calls Try.prog 18 #[.slice A n c] w fun e w' => e = .returned (.tuple #[.int .i64 s, .bool true]) ∧ w = w' := by
  have := sum_rd xs A n c B w hm hf hr
  rw [h] at this; exact this

theorem sumTo_cases (t : Int) (l : List Int) (ht : fits t = true) : sumTo t l = (0, false) ∨ ∃ n, sumTo t l = (n, true) ∧ fits n = true := by
  induction l generalizing t with
  | nil => exact .inr ⟨t, rfl, ht⟩
  | cons x r ih =>
    cases h : fits (t + x)
    · exact .inl (sumTo_no h)
    · rw [sumTo_yes h]; exact ih _ h
theorem sumTo_append (t : Int) (l m : List Int) (n : Int) (h : sumTo t (l ++ m) = (n, true)) : ∃ s, sumTo t l = (s, true) ∧ sumTo s m = (n, true) := by
  induction l generalizing t with
  | nil => exact ⟨t, rfl, h⟩
  | cons x r ih =>
    rw [List.cons_append] at h
    cases k : fits (t + x)
    · rw [sumTo_no k] at h; simp at h
    · rw [sumTo_yes k] at h ⊢; exact ih _ h
theorem sumTo_step {t x n : Int} {r : List Int} (h : sumTo t (x :: r) = (n, true)) : fits (t + x) = true ∧ sumTo (t + x) r = (n, true) := by
  cases k : fits (t + x)
  · rw [sumTo_no k] at h; simp at h
  · rw [sumTo_yes k] at h; exact ⟨rfl, h⟩
theorem fits_app {l m : List Int} (hl : ∀ i, fits (l.getD i 0) = true) (hm : ∀ i, fits (m.getD i 0) = true) (i : Nat) : fits ((l ++ m).getD i 0) = true := by
  rw [List.getD_eq_getElem?_getD, List.getElem?_append]
  split
  · rw [← List.getD_eq_getElem?_getD]; exact hl i
  · rw [← List.getD_eq_getElem?_getD]; exact hm _
theorem info3 : (Try.prog.info? 3).map (fun i => (i.zero, i.size, i.bytes)) = some (some (.int .i64 0), 1, 8) := by kernel_rfl

theorem radd_no (a b : Int) (w : World) (a1 : fits a = true) (b1 : fits b = true) (h : fits (a + b) = false) :
    Calls Try.prog 9 #[.int .i64 a, .int .i64 b] w fun e w' => e = .returned (.tuple #[.int .i64 0, .bool false]) ∧ w = w' := by
  have := radd_any a b w a1 b1
  unfold Told at this; rw [val_no h, h] at this; exact this
theorem radd_yes (a b : Int) (w : World) (a1 : fits a = true) (b1 : fits b = true) (h : fits (a + b) = true) :
    Calls Try.prog 9 #[.int .i64 a, .int .i64 b] w fun e w' => e = .returned (.tuple #[.int .i64 (a + b), .bool true]) ∧ w = w' := by
  have := radd_any a b w a1 b1
  unfold Told at this; rw [val_yes h, h] at this; exact this
/-- What the plain loop over all has come to, at place k. -/
def NoSt (xs : List Int) (k : Nat) (s : Int) (g : Bool) : Prop := (g = true ∧ fits s = true ∧ sumTo s (xs.drop k) = (0, false)) ∨ (g = false ∧ s = 0)

/-- The law, where there is no sum. -/
theorem law_no (l m : List Int) (A1 A2 : Option Addr) (n1 c1 n2 c2 : Nat) (w : World) (r1 : Rd w w.heap.size A1 n1 c1 l) (r2 : Rd w w.heap.size A2 n2 c2 m)
    (b1 : n1 ≤ 1048576) (b2 : n2 ≤ 1048576) (f1 : ∀ i, fits (l.getD i 0) = true) (f2 : ∀ i, fits (m.getD i 0) = true) (hno : sumTo 0 (l ++ m) = (0, false)) :
    Calls Try.prog 5 #[.slice A1 n1 c1, .slice A2 n2 c2] w fun e w' => e = .returned (.bool true) ∧ Below w.heap.size w w' := by
  have R1 := Lib.hid r1
  have R2 := Lib.hid r2
  have F := Lib.hid (fits_app f1 f2)
  have NO := Lib.hid hno
  obtain ⟨i0, hi, hz0, hz1, hz2⟩ := info_parts info3
  have E : Hid (i0.zero = some (.int .i64 0) ∧ i0.size = 1 ∧ i0.bytes = 8 ∧ Try.prog.info? 3 = some i0) := ⟨hz0, hz1, hz2, hi⟩
  clear r1 r2 f1 f2 hno hi hz0 hz1 hz2
  go_enter Try.func5, Try.ntmps5
  go_wp2_with (first
    | (go_at_call 7; (with_reducible refine (alive_any _).mono ?_); rintro e w1 ⟨rfl, hb⟩; have HB := Lib.hid hb; clear hb)
    | (refine wpList_append_rd rfl (.tmp 16) (.tmp 17) 26 rfl w.heap.size 3 i0 (.int .i64 0) 8 Try.underlying26 E.out.2.2.2 E.out.1 E.out.2.1 E.out.2.2.1 rfl _ 0 [] rfl (World.ownsRow_nil _ _ _ _) A1 n1 c1 w.heap.size l rfl (R1.out.below HB.out) ?_ ?_ HB.out.size ?_; unfold maxLen; omega; omega; intro A3 c3 w2 own1 rd1 gr1; simp only [Nat.zero_add, List.nil_append] at own1; have OWN1 := Lib.hid own1; have HB1 := Lib.hid (HB.out.grown gr1 HB.out.size (by intro k hk; cases hk)); clear own1 gr1 rd1)
    | (refine wpList_append_rd rfl (.tmp 19) (.tmp 20) 26 rfl w.heap.size 3 i0 (.int .i64 0) 8 Try.underlying26 E.out.2.2.2 E.out.1 E.out.2.1 E.out.2.2.1 rfl _ n1 l rfl OWN1.out A2 n2 c2 w.heap.size m rfl (R2.out.below HB1.out) ?_ ?_ HB1.out.size ?_; unfold maxLen; omega; omega; intro A4 c4 w3 own2 rd2 gr2; have RD := Lib.hid rd2; have HB2 := Lib.hid (HB1.out.grown gr2 HB1.out.size (own_base OWN1.out)); clear own2 gr2 rd2)
    | (go_at_call 18; (with_reducible refine (sum_no _ _ _ _ _ _ (by omega) F.out NO.out RD.out).mono ?_); rintro e w' ⟨rfl, rfl⟩))
  go_loop [8, 9, 10] (fun t u i => ∃ (k : Nat) (s : Int) (g : Bool), k ≤ n1 + n2 ∧ i = .int .i64 k ∧ t = .int .i64 s ∧ u = .bool g ∧ NoSt (l ++ m) k s g) (fun _ _ i => n1 + n2 - (intOf i).toNat)
  case atStart => exact ⟨0, 0, true, Nat.zero_le _, rfl, rfl, rfl, .inl ⟨rfl, fits0, NO.out⟩⟩
  case round =>
    obtain ⟨k, s, g, hk, rfl, rfl, rfl, hs⟩ := hrel
    rcases hs with ⟨rfl, hs1, hs2⟩ | ⟨rfl, rfl⟩
    · by_cases hlt : k < n1 + n2
      · obtain ⟨b, off, rfl, hc⟩ := RD.out.at_ hlt
        have D := Lib.hid (drop_here (xs := l ++ m) (k := k) (by rw [RD.out.1]; exact hlt))
        have FX := Lib.hid (F.out k)
        generalize (l ++ m).getD k 0 = x at hc D FX
        have HS1 := Lib.hid hs1
        have HS2 := Lib.hid hs2
        clear hs1 hs2
        cases h : fits (s + x)
        · have H := Lib.hid h
          clear h
          go_wp2_with (go_at_call 9; (with_reducible refine (radd_no _ _ _ HS1.out FX.out H.out).mono ?_); rintro e w' ⟨rfl, rfl⟩)
          go_round
          case rel => exact ⟨k + 1, 0, false, by omega, by go_num, rfl, rfl, .inr ⟨rfl, rfl⟩⟩
          case measure => simp [intOf]; omega
        · have H := Lib.hid h
          clear h
          go_wp2_with (go_at_call 9; (with_reducible refine (radd_yes _ _ _ HS1.out FX.out H.out).mono ?_); rintro e w' ⟨rfl, rfl⟩)
          go_round
          case rel => exact ⟨k + 1, s + x, true, by omega, by go_num, rfl, rfl, .inl ⟨rfl, H.out, by have := HS2.out; rw [D.out, sumTo_yes H.out] at this; exact this⟩⟩
          case measure => simp [intOf]; omega
      · rw [drop_all (by rw [RD.out.1]; exact hlt)] at hs2
        simp [sumTo] at hs2
    · go_wp2
      all_goals go_ret
      all_goals exact ⟨rfl, HB2.out⟩
theorem law_yes (l m : List Int) (A1 A2 : Option Addr) (n1 c1 n2 c2 : Nat) (w : World) (r1 : Rd w w.heap.size A1 n1 c1 l) (r2 : Rd w w.heap.size A2 n2 c2 m)
    (b1 : n1 ≤ 1048576) (b2 : n2 ≤ 1048576) (f1 : ∀ i, fits (l.getD i 0) = true) (f2 : ∀ i, fits (m.getD i 0) = true) (r s1 : Int) (hyes : sumTo 0 (l ++ m) = (r, true)) (hone : sumTo 0 l = (s1, true)) (htwo : sumTo s1 m = (r, true)) (hs1 : fits s1 = true) :
    Calls Try.prog 5 #[.slice A1 n1 c1, .slice A2 n2 c2] w fun e w' => e = .returned (.bool true) ∧ Below w.heap.size w w' := by
  have R1 := Lib.hid r1
  have R2 := Lib.hid r2
  have F := Lib.hid (fits_app f1 f2)
  have YES := Lib.hid hyes
  have ONE := Lib.hid hone
  have TWO := Lib.hid htwo
  have FS := Lib.hid hs1
  have F1 := Lib.hid f1
  have F2 := Lib.hid f2
  obtain ⟨i0, hi, hz0, hz1, hz2⟩ := info_parts info3
  have E : Hid (i0.zero = some (.int .i64 0) ∧ i0.size = 1 ∧ i0.bytes = 8 ∧ Try.prog.info? 3 = some i0) := ⟨hz0, hz1, hz2, hi⟩
  clear r1 r2 f1 f2 hyes hone htwo hs1 hi hz0 hz1 hz2
  go_enter Try.func5, Try.ntmps5
  go_wp2_with (first
    | (go_at_call 7; (with_reducible refine (alive_any _).mono ?_); rintro e w1 ⟨rfl, hb⟩; have HB := Lib.hid hb; clear hb)
    | (refine wpList_append_rd rfl (.tmp 16) (.tmp 17) 26 rfl w.heap.size 3 i0 (.int .i64 0) 8 Try.underlying26 E.out.2.2.2 E.out.1 E.out.2.1 E.out.2.2.1 rfl _ 0 [] rfl (World.ownsRow_nil _ _ _ _) A1 n1 c1 w.heap.size l rfl (R1.out.below HB.out) ?_ ?_ HB.out.size ?_; unfold maxLen; omega; omega; intro A3 c3 w2 own1 rd1 gr1; simp only [Nat.zero_add, List.nil_append] at own1; have OWN1 := Lib.hid own1; have HB1 := Lib.hid (HB.out.grown gr1 HB.out.size (by intro k hk; cases hk)); clear own1 gr1 rd1)
    | (refine wpList_append_rd rfl (.tmp 19) (.tmp 20) 26 rfl w.heap.size 3 i0 (.int .i64 0) 8 Try.underlying26 E.out.2.2.2 E.out.1 E.out.2.1 E.out.2.2.1 rfl _ n1 l rfl OWN1.out A2 n2 c2 w.heap.size m rfl (R2.out.below HB1.out) ?_ ?_ HB1.out.size ?_; unfold maxLen; omega; omega; intro A4 c4 w3 own2 rd2 gr2; have RD := Lib.hid rd2; have HB2 := Lib.hid (HB1.out.grown gr2 HB1.out.size (own_base OWN1.out)); clear own2 gr2 rd2)
    | (go_at_call 18; (with_reducible refine (sum_yes _ _ _ _ _ _ _ (by omega) F.out YES.out RD.out).mono ?_); rintro e w' ⟨rfl, rfl⟩))
  go_loop [8, 9, 10] (fun t u i => ∃ (k : Nat) (s : Int), k ≤ n1 + n2 ∧ i = .int .i64 k ∧ t = .int .i64 s ∧ u = .bool true ∧ fits s = true ∧ sumTo s ((l ++ m).drop k) = (r, true)) (fun _ _ i => n1 + n2 - (intOf i).toNat)
  case atStart => exact ⟨0, 0, Nat.zero_le _, rfl, rfl, rfl, fits0, YES.out⟩
  case round =>
    obtain ⟨k, s, hk, rfl, rfl, rfl, hs1, hs2⟩ := hrel
    by_cases hlt : k < n1 + n2
    · obtain ⟨b, off, rfl, hc⟩ := RD.out.at_ hlt
      have D := Lib.hid (drop_here (xs := l ++ m) (k := k) (by rw [RD.out.1]; exact hlt))
      have FX := Lib.hid (F.out k)
      generalize (l ++ m).getD k 0 = x at hc D FX
      have HS1 := Lib.hid hs1
      have HS2 := Lib.hid (sumTo_step (by rw [D.out] at hs2; exact hs2))
      clear hs1 hs2
      go_wp2_with (go_at_call 9; (with_reducible refine (radd_yes _ _ _ HS1.out FX.out HS2.out.1).mono ?_); rintro e w' ⟨rfl, rfl⟩)
      go_round
      case rel => exact ⟨k + 1, s + x, by omega, by go_num, rfl, rfl, HS2.out.1, HS2.out.2⟩
      case measure => simp [intOf]; omega
    · rw [drop_all (by rw [RD.out.1]; exact hlt)] at hs2
      simp [sumTo] at hs2
      subst hs2
      clear hs1
      go_wp2_with (go_at_call 18; (with_reducible refine (sum_yes _ _ _ _ _ _ _ (by omega) F1.out ONE.out (R1.out.below HB2.out)).mono ?_); rintro e w' ⟨rfl, rfl⟩)
      go_loop [11, 13] (fun t i => ∃ (j : Nat) (q : Int), j ≤ n2 ∧ i = .int .i64 j ∧ t = .int .i64 q ∧ sumTo q (m.drop j) = (s, true)) (fun _ i => n2 - (intOf i).toNat)
      case atStart => exact ⟨0, s1, Nat.zero_le _, rfl, rfl, TWO.out⟩
      case round =>
        obtain ⟨j, q, hj, rfl, rfl, hs2⟩ := hrel
        by_cases hlt2 : j < n2
        · obtain ⟨b, off, rfl, hc⟩ := (R2.out.below HB2.out).at_ hlt2
          have D := Lib.hid (drop_here (xs := m) (k := j) (by rw [R2.out.1]; exact hlt2))
          generalize m.getD j 0 = x at hc D
          have HS2 := Lib.hid (sumTo_step (by rw [D.out] at hs2; exact hs2))
          obtain ⟨p1, p2⟩ := fits_iff.mp HS2.out.1
          clear hs2
          go_wp2
          go_round
          case rel => exact ⟨j + 1, q + x, by omega, by go_num, rfl, HS2.out.2⟩
          case measure => simp [intOf]; omega
        · rw [drop_all (by rw [R2.out.1]; exact hlt2)] at hs2
          simp [sumTo] at hs2
          subst hs2
          go_wp2
          go_ret
          exact ⟨by simp, HB2.out⟩
/-- The law, whatever comes in. -/
theorem law_any (l m : List Int) (A1 A2 : Option Addr) (n1 c1 n2 c2 : Nat) (w : World) (r1 : Rd w w.heap.size A1 n1 c1 l) (r2 : Rd w w.heap.size A2 n2 c2 m)
    (b1 : n1 ≤ 1048576) (b2 : n2 ≤ 1048576) (f1 : ∀ i, fits (l.getD i 0) = true) (f2 : ∀ i, fits (m.getD i 0) = true) :
    Calls Try.prog 5 #[.slice A1 n1 c1, .slice A2 n2 c2] w fun e w' => e = .returned (.bool true) ∧ Below w.heap.size w w' := by
  rcases sumTo_cases 0 (l ++ m) fits0 with h | ⟨r, h, hr⟩
  · exact law_no l m A1 A2 n1 c1 n2 c2 w r1 r2 b1 b2 f1 f2 h
  · obtain ⟨s1, k1, k2⟩ := sumTo_append 0 l m r h
    have k3 : fits s1 = true := by
      rcases sumTo_cases 0 l fits0 with q | ⟨n, q, q2⟩
      · rw [q] at k1; simp at k1
      · rw [q] at k1; simp at k1; rw [← k1]; exact q2
    exact law_yes l m A1 A2 n1 c1 n2 c2 w r1 r2 b1 b2 f1 f2 r s1 h k1 k2 k3
end Go.Proofs.Ytgahppmglkhipaa.calls
