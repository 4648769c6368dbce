/- What the law's own small functions on a page's chain do when they are called: link, walk, few. -/
import Derived.Test.YtdaopeafologeaaChE
import Derived.Test.YtdaopeafologeaaGenC
namespace Go.Proofs.Ytdaopeafologeaa.ch
open Go.ChangeShapes Go.WideShapes Go.ChangeAt Go.RowKit gen calls cls geos mm
set_option linter.unusedVariables false

theorem below_grown {w w' : World} (h : Below w.heap.size w w') : w.grownBy w' none := ⟨h.os, h.tape, h.output, h.size, fun i hi _ => h.block i hi⟩
theorem rSize_g (k : Int) (w : World) (h : fits k = true) : Calls Try.prog 13 #[.int .i64 k] w fun e w' => e = .returned (.int .i64 (sz k)) ∧ w.grownBy w' none :=
  (rSize_any k w h).mono fun _ _ ⟨he, hb⟩ => ⟨he, below_grown hb⟩
theorem rCells_g (k : Int) (w : World) (h : fits k = true) : Calls Try.prog 11 #[.int .i64 k] w fun e w' => e = .returned (.int .i64 (cl k)) ∧ w.grownBy w' none :=
  (rCells_any k w h).mono fun _ _ ⟨he, hb⟩ => ⟨he, below_grown hb⟩
theorem small_fits {k : Int} (h1 : 1 ≤ k) (h2 : k ≤ 4) : fits k = true := fits_iff.mpr (by omega)

theorem link_any {w : World} {A : Option Addr} {n c : Nat} {xs : List Int} (p : Nat) (k : Int) (i : Nat) (h : Rd w w.heap.size A n c xs) (hb : Bd xs) (hn : n ≤ 64) (hp : p * 32 + 32 ≤ n) (hi : (i : Int) < cl k) :
    Calls Try.prog 24 #[.slice A n c, .int .i64 p, .int .i64 k, .int .i64 i] w fun e w' => e = .returned (.int .i64 (lk xs p k i)) ∧ w.grownBy w' none := by
  have hk := cl_small (by omega : (0 : Int) ≤ i) hi
  obtain ⟨e1, a, e2, e3, e4, e5, e6⟩ := at_nat (p := p) (k := k) (i := i) (by omega) (by omega) (by omega) hi
  have ha : a < n := by omega
  have HR := Lib.hid h
  have hw : wd xs p k i = xs.getD a 0 := by unfold wd; rw [e3]
  have hba := hb a
  have hlk : lk xs p k i = if 0 ≤ -1 - xs.getD a 0 ∧ -1 - xs.getD a 0 ≤ cl k then -1 - xs.getD a 0 else -1 := by
    unfold lk
    rw [hw]
    by_cases h0 : 0 ≤ -1 - xs.getD a 0 ∧ -1 - xs.getD a 0 ≤ cl k
    · rw [if_pos h0, if_pos ⟨by omega, hi, h0.1, h0.2⟩]
    · rw [if_neg h0, if_neg (by omega)]
  rw [hlk]
  obtain ⟨x, hx⟩ : ∃ x, x = xs.getD a 0 := ⟨_, rfl⟩
  have HX := Lib.hid hx
  rw [← hx] at hba ⊢
  clear e1 e2 e3 e5 e6 hb hw hlk hx h
  have ae : a = 32 * p + i * (sz k).toNat := by
    obtain ⟨s, c', s1, _⟩ := sz_cl (k := k) (by omega) (by omega)
    rw [s1] at e4 ⊢
    rw [Int.toNat_natCast]
    have : ((i * s : Nat) : Int) = (i : Int) * s := by simp
    omega
  clear e4
  have t1 : (sz 1).toNat = 2 := rfl
  have t2 : (sz 2).toNat = 4 := rfl
  have t3 : (sz 3).toNat = 8 := rfl
  have t4 : (sz 4).toNat = 16 := rfl
  have z1 : sz 1 = 2 := rfl
  have z2 : sz 2 = 4 := rfl
  have z3 : sz 3 = 8 := rfl
  have z4 : sz 4 = 16 := rfl
  have c1 : cl 1 = 16 := rfl
  have c2 : cl 2 = 8 := rfl
  have c3 : cl 3 = 4 := rfl
  have c4 : cl 4 = 2 := rfl
  by_cases hx0 : 0 ≤ -1 - x ∧ -1 - x ≤ cl k
  · rw [if_pos hx0]
    obtain ⟨y0, y1⟩ := hx0
    have w1 : x ≤ -1 := by omega
    rcases hk with rfl | rfl | rfl | rfl
    all_goals
      simp only [t1, t2, t3, t4, c1, c2, c3, c4] at ae hi y1
      subst ae
      go_enter Try.func24, Try.ntmps24
      go_wp2_with (first
        | (go_at_call 11; (with_reducible refine (rCells_g _ _ (by simp [fits])).mono ?_); rintro e w1 ⟨rfl, hg1⟩; have G1 := Lib.hid hg1; clear hg1; simp only [c1, c2, c3, c4])
        | (go_at_call 13; (with_reducible refine (rSize_g _ _ (by simp [fits])).mono ?_); rintro e w2 ⟨rfl, hg2⟩; have G2 := Lib.hid (G1.out.trans hg2); obtain ⟨b, o, rfl, gc⟩ := (HR.out.below (grown_below G2.out)).at_ ha; rw [← HX.out] at gc; clear hg2; simp only [z1, z2, z3, z4]))
      go_ret
      exact ⟨rfl, G2.out⟩
  · rw [if_neg hx0]
    by_cases w1 : -1 < x
    · clear hx0
      rcases hk with rfl | rfl | rfl | rfl
      all_goals
        simp only [t1, t2, t3, t4, c1, c2, c3, c4] at ae hi
        subst ae
        go_enter Try.func24, Try.ntmps24
        go_wp2_with (first
          | (go_at_call 11; (with_reducible refine (rCells_g _ _ (by simp [fits])).mono ?_); rintro e w1 ⟨rfl, hg1⟩; have G1 := Lib.hid hg1; clear hg1; simp only [c1, c2, c3, c4])
          | (go_at_call 13; (with_reducible refine (rSize_g _ _ (by simp [fits])).mono ?_); rintro e w2 ⟨rfl, hg2⟩; have G2 := Lib.hid (G1.out.trans hg2); obtain ⟨b, o, rfl, gc⟩ := (HR.out.below (grown_below G2.out)).at_ ha; rw [← HX.out] at gc; clear hg2; simp only [z1, z2, z3, z4]))
        go_ret
        exact ⟨rfl, G2.out⟩
    · have w2 : x < -1 - cl k := by omega
      clear hx0
      rcases hk with rfl | rfl | rfl | rfl
      all_goals
        simp only [t1, t2, t3, t4, c1, c2, c3, c4] at ae hi w2
        subst ae
        go_enter Try.func24, Try.ntmps24
        go_wp2_with (first
          | (go_at_call 11; (with_reducible refine (rCells_g _ _ (by simp [fits])).mono ?_); rintro e w1 ⟨rfl, hg1⟩; have G1 := Lib.hid hg1; clear hg1; simp only [c1, c2, c3, c4])
          | (go_at_call 13; (with_reducible refine (rSize_g _ _ (by simp [fits])).mono ?_); rintro e w2 ⟨rfl, hg2⟩; have G2 := Lib.hid (G1.out.trans hg2); obtain ⟨b, o, rfl, gc⟩ := (HR.out.below (grown_below G2.out)).at_ ha; rw [← HX.out] at gc; clear hg2; simp only [z1, z2, z3, z4]))
        go_ret
        exact ⟨rfl, G2.out⟩

theorem few_any (A : Option Addr) (n c : Nat) (w : World) (hn : n ≤ c) (hc : c ≤ maxLen) (hA : 0 < n → ∃ ad, A = some ad) :
    Calls Try.prog 15 #[.slice A n c] w fun e w' => (∃ m c', m ≤ 50 ∧ m ≤ n ∧ e = .returned (.slice A m c')) ∧ w = w' := by
  unfold maxLen at hc
  by_cases h : 50 < n
  · obtain ⟨ad, rfl⟩ := hA (by omega)
    clear hA
    have l1 : (50 : Int) ≤ c := by omega
    go_enter Try.func15, Try.ntmps15
    go_wp2
    all_goals
      go_ret
      exact ⟨⟨50, _, by omega, by omega, rfl⟩, rfl⟩
  · clear hA
    go_enter Try.func15, Try.ntmps15
    go_wp2
    go_ret
    exact ⟨⟨n, _, by omega, by omega, rfl⟩, rfl⟩

theorem Rd.grown {w w' : World} {A : Option Addr} {n c : Nat} {xs : List Int} (h : Rd w w.heap.size A n c xs) (hg : w.grownBy w' none) : Rd w' w'.heap.size A n c xs :=
  ⟨h.1, h.2.1, fun ad e i hi => ⟨Nat.lt_of_lt_of_le (h.2.2 ad e i hi).1 hg.size, ((h.below (grown_below hg)).2.2 ad e i hi).2⟩⟩

set_option maxHeartbeats 4000000 in
theorem walk_any {w : World} {A : Option Addr} {m c : Nat} {xs : List Int} (p : Nat) (k f : Int) (n : Nat) (h : Rd w w.heap.size A m c xs) (hb : Bd xs) (hm : m ≤ 64) (hp : p * 32 + 32 ≤ m) (hk : fits k = true) (hn : fits (n : Int) = true) (hf : fits f = true) :
    Calls Try.prog 23 #[.slice A m c, .int .i64 p, .int .i64 k, .agg #[.int .i64 f, .int .i64 n]] w (AllAns xs p k f n w) := by
  have HR := Lib.hid h
  have HB := Lib.hid hb
  have HK := Lib.hid hk
  have hn2 := (fits_iff.mp hn).2
  have HF := fits_iff.mp hf
  have HC := cl_wide k
  have hz : w.heap.size < (w.alloc (.cells #[.int .i64 f, .int .i64 n] 28)).heap.size := by simp
  have G0 := Lib.hid (World.grownBy_alloc w (.cells #[.int .i64 f, .int .i64 n] 28) none)
  have C0 := Lib.hid (Box.new w f n rfl)
  obtain ⟨i0, hi, hz0, hz1, hz2⟩ := info_parts li.info_int
  have E : Hid (i0.zero = some (.int .i64 0) ∧ i0.size = 1 ∧ i0.bytes = 8 ∧ Try.prog.info? 3 = some i0) := ⟨hz0, hz1, hz2, hi⟩
  clear hi hz0 hz1 hz2 hk h hn hb hf
  go_enter Try.func23, Try.ntmps23
  go_wp2_with (first
    | (go_at_call 11; (with_reducible refine (rCells_g _ _ HK.out).mono ?_); rintro e w1 ⟨rfl, hg1⟩; have G1 := Lib.hid (G0.out.trans hg1); have C1 := Lib.hid (C0.out.kept hg1 (by simp)); have S1 := hg1.size; obtain ⟨x0, x1, x2, x3⟩ := C1.out.two; clear hg1))
  go_loopw [11, 12, 13] (fun v t i wr => ∃ (j : Nat) (A' : Option Addr) (c' : Nat), j ≤ n ∧ i = .int .i64 j ∧ t = .int .i64 (sq xs p k f j) ∧ v = .slice A' j c' ∧ Good xs p k f j ∧ wr.ownsRow (w.heap.size + 1) 3 1 (.slice A' j c') j ((outs xs p k f j).map (Value.int .i64)) ∧ w.grownBy wr none ∧ Box wr w.heap.size f n ∧ w.heap.size + 1 ≤ wr.heap.size) (fun _ _ i _ => n - (intOf i).toNat)
  case atStart => exact ⟨0, none, 0, Nat.zero_le _, rfl, rfl, rfl, Good.zero _ _ _ _, World.ownsRow_nil _ _ _ _, G1.out, C1.out, by omega⟩
  case round =>
    obtain ⟨j, A', c', hj, rfl, rfl, rfl, hgd, ho, hg, hx, hz3⟩ := hrel
    have GD := Lib.hid hgd
    have HO := Lib.hid ho
    have HG := Lib.hid hg
    have HX := Lib.hid hx
    have j16 := hgd.few
    have RO := Lib.hid (li.rd_own ho)
    obtain ⟨y0, y1, y2, y3⟩ := hx.two
    clear ho hg hx hgd x0 x1 x2 x3
    by_cases hlt : j < n
    · have WG := Lib.hid (fun (hw : Whole xs p k f n) => (Good.succ.1 (hw.1.less (j + 1) (by omega))))
      have SS := Lib.hid (show sq xs p k f (j + 1) = lk xs p k (sq xs p k f j) from rfl)
      have OS := Lib.hid (outs_succ xs p k f j)
      have GS := Lib.hid (fun h1 h2 => Good.succ.2 ⟨GD.out, h1, h2⟩)
      generalize sq xs p k f j = q at *
      by_cases hc : 0 ≤ q ∧ q < cl k
      · by_cases hin : q ∈ outs xs p k f j
        · have hd := decide_eq_true hin
          have HIN := Lib.hid hin
          clear hin
          go_wp2_with (first
            | (go_at_call 19; (with_reducible refine (li.In_any (by omega) RO.out _).mono ?_); rintro e w2 ⟨rfl, hw⟩; subst hw; rw [hd]))
          go_ret2
          exact ⟨.inr ⟨fun hw => (WG.out hw).2.2 HIN.out, rfl⟩, HG.out⟩
        · have hd := decide_eq_false hin
          have HIN := Lib.hid (GS.out hc hin)
          obtain ⟨a, rfl⟩ : ∃ a : Nat, q = a := ⟨q.toNat, by omega⟩
          clear hin
          go_wp2_with (first
            | (go_at_call 19; (with_reducible refine (li.In_any (by omega) RO.out _).mono ?_); rintro e w2 ⟨rfl, hw⟩; subst hw; rw [hd])
            | (at_builtin; refine wpList_append_rd rfl (.tmp 36) (.tmp 38) 34 rfl (w.heap.size + 1) 3 i0 (.int .i64 0) 8 Try.underlying34 E.out.2.2.2 E.out.1 E.out.2.1 E.out.2.2.1 rfl _ j (outs xs p k f j) rfl (HO.out.alloc _) (some ⟨_, 0, none⟩) 1 1 _ [(a : Int)] rfl (li.Rd.one_at _ _ _ (by simp)) (by unfold maxLen; omega) (by omega) (by simp; omega) ?_; intro A4 c4 w4 own4 rd4 gr4; have F1 := Lib.hid ((HX.out.kept (World.grownBy_alloc _ _ none) (by simp)).kept gr4 (fun e => by have := own_base HO.out _ e.symm; omega)); have F4 := Lib.hid (li.grown_one HG.out HO.out (by omega) gr4); have S4 := gr4.size; have OWN4 := Lib.hid own4; clear own4 rd4 gr4)
            | (go_at_call 24; (with_reducible refine (link_any _ _ _ (Rd.grown HR.out F4.out) HB.out hm hp hc.2).mono ?_); rintro e w5 ⟨rfl, hg5⟩; have G5 := Lib.hid (F4.out.trans hg5); have X5 := Lib.hid (F1.out.kept hg5 (by simp)); have S5 := hg5.size; have OWN5 := Lib.hid (OWN4.out.kept hg5 (by cases A4 <;> simp [Value.ownBlock])); clear hg5))
          go_roundw
          case rel => exact ⟨j + 1, A4, c4, by omega, by go_num, by rw [SS.out], rfl, HIN.out, by rw [OS.out]; exact OWN5.out, G5.out, X5.out, by simp at S4; omega⟩
          case measure => simp [intOf]; omega
      · by_cases h0 : q < 0
        · clear hc
          go_wp2
          go_ret2
          exact ⟨.inr ⟨fun hw => absurd (WG.out hw).2.1.1 (by omega), rfl⟩, HG.out⟩
        · have h1 : cl k ≤ q := by omega
          clear hc
          go_wp2
          go_ret2
          exact ⟨.inr ⟨fun hw => absurd (WG.out hw).2.1.2 (by omega), rfl⟩, HG.out⟩
    · obtain rfl : j = n := by omega
      have hw : Whole xs p k f j ↔ sq xs p k f j = cl k := ⟨fun h => h.2, fun h => ⟨GD.out, h⟩⟩
      generalize sq xs p k f j = q at *
      by_cases he : q = cl k
      · have hb : (q != cl k) = false := by simpa using he
        have HW := Lib.hid (hw.2 he)
        clear hw
        go_wp2
        go_ret2
        exact ⟨.inl ⟨HW.out, _, _, rfl, li.own_mono HO.out (by omega)⟩, HG.out⟩
      · have hb : (q != cl k) = true := by simpa using he
        have HW := Lib.hid (fun h => he (hw.1 h))
        clear hw
        go_wp2
        go_ret2
        exact ⟨.inr ⟨HW.out, rfl⟩, HG.out⟩
end Go.Proofs.Ytdaopeafologeaa.ch
