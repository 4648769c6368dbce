/- The walk of ShadeOnce. (Printed by wip/tools/genShO.py.) -/
import Derived.Test.YtokjpibaaioehaaShM
namespace Go.Proofs.Ytokjpibaaioehaa.sh
open Go.ChangeShapes Go.WideShapes Go.ChangeAt Go.RowKit gen li en gr
set_option linter.unusedVariables false
set_option maxHeartbeats 16000000
set_option maxRecDepth 100000
theorem rd_new' {w w' : World} {B n c : Nat} {A : Option Addr} {xs : List Int} (h : Rd w B A n c xs) (hg : w.grownBy w' none) : Rd w' B A n c xs := ⟨h.1, h.2.1, fun ad e i hi => ⟨(h.2.2 ad e i hi).1, hg.cell (h.2.2 ad e i hi).2 (by simp)⟩⟩
theorem ins_more {out : List Int} {x : Int} (h : x ∉ out) : (bm.ins out x).length = out.length + 1 := by
  unfold bm.ins
  rw [if_neg h]
  have := congrArg List.length (List.takeWhile_append_dropWhile (p := fun y => decide (y < x)) (l := out))
  simp only [List.length_append, List.length_cons] at this ⊢
  omega
/-- One more address is one more. -/
theorem nums_more {ws : List Nat} {i : Nat} (hf : bm.Fine 2048 ws) (hi : i < 2048) (hb : bm.bit ws i = false) : (bm.nums (bm.put ws i)).length = (bm.nums ws).length + 1 := by
  rw [← bm.nums_put hf hi]
  have e : bm.rising (bm.nums ws) = bm.nums ws := bm.up_eq (bm.rising_up _) (bm.nums_up _) (fun z => by rw [bm.mem_rising])
  rw [show bm.rising (bm.nums ws ++ [(i : Int)]) = bm.ins (bm.rising (bm.nums ws)) i from by unfold bm.rising; rw [List.foldl_append]; rfl, e]
  exact ins_more (fun h => by have := ((bm.mem_nums hf _).1 h).2; simp [hb] at this)
/-- n were shaded, each once. -/
def Inv (r : Nat) (s : Ps) (n : Nat) : Prop := (bm.nums s.ws).length = n ∧ s.m.length = (if n < r then n else r) ∧ s.b = decide (r < n)
theorem Inv.zero (r : Nat) : Inv r none0 0 := ⟨by rw [bm.nums_zeros]; rfl, by split <;> simp_all, by simp⟩
theorem shade_no {r : Nat} {s : Ps} {z : Int} (h : newb s.ws z = false) : s.shade r z = s := by unfold Ps.shade; rw [h]; rfl
theorem shade_ws {r : Nat} {s : Ps} {z : Int} (h : newb s.ws z = true) : (s.shade r z).ws = mkd s.ws z := by
  unfold Ps.shade
  rw [if_pos h]
  unfold Ps.push
  split <;> rfl
theorem is_more {r : Nat} {s : Ps} {z : Int} (hf : bm.Fine 2048 s.ws) (h : newb s.ws z = true) : isb (s.shade r z).ws z = true := by
  rw [shade_ws h]
  rcases ways s.ws z with ⟨_, _, h2, _⟩ | ⟨i, rfl, hi, ⟨_, _, h2, _⟩ | ⟨_, _, _, h5, _⟩⟩
  · rw [h2] at h; cases h
  · rw [h2] at h; cases h
  · rw [h5]
    unfold isb
    rw [show ((i : Int)).toNat = i from by simp, bm.bit_put _ _ _ (by rw [hf.1]; omega)]
    simp
    omega
theorem Inv.more {r n : Nat} {s : Ps} {z : Int} (h : Inv r s n) (hf : bm.Fine 2048 s.ws) (hz : newb s.ws z = true) : Inv r (s.shade r z) (n + 1) := by
  obtain ⟨h1, h3, h4⟩ := h
  have hw : (bm.nums (s.shade r z).ws).length = n + 1 := by
    rw [shade_ws hz]
    rcases ways s.ws z with ⟨_, _, h2, _⟩ | ⟨i, rfl, hi, ⟨_, _, h2, _⟩ | ⟨hb, _, _, h5, _⟩⟩
    · rw [h2] at hz; cases hz
    · rw [h2] at hz; cases hz
    · rw [h5, nums_more hf hi hb, h1]
  refine ⟨hw, ?_⟩
  unfold Ps.shade
  rw [if_pos hz]
  by_cases hl : n < r
  · rw [if_pos hl] at h3
    rw [Ps.push_yes (by show s.m.length < r; omega)]
    refine ⟨?_, ?_⟩
    · show (s.m ++ [(z, 0)]).length = _
      rw [List.length_append, h3, List.length_singleton]
      split <;> omega
    · show s.b = _
      rw [h4, decide_eq_false (by omega), decide_eq_false (by omega)]
  · rw [if_neg hl] at h3
    rw [Ps.push_no (by show ¬ s.m.length < r; omega)]
    refine ⟨?_, ?_⟩
    · show s.m.length = _
      rw [h3, if_neg (by omega)]
    · show true = _
      rw [decide_eq_true (by omega)]
theorem Once_few (n : Int) (D : Option Addr) (l c2 : Nat) (xs : List Int) (w : World) (hc : l ≤ c2) (hc2 : c2 ≤ maxLen) (ho : Rd w w.heap.size D l c2 xs) (h80 : ¬ 80 < l) :
    Calls Try.prog 3 #[.int .i64 n, .slice D l c2] w fun e w' => e = .returned (.bool true) ∧ w.grownBy w' none := by
  obtain ⟨r, hk, h1, h8⟩ := sk.near_nat n
  have NW := Lib.hid (fun W (hg : w.grownBy W none) => (New_any n r hk h1 h8 W).mono (fun e w' h => Al.of hg h))
  have NR := Lib.hid (fun w => (show Calls Try.prog 8 #[.int .i64 n, .int .i64 1, .int .i64 256] w (fun e w' => e = .returned (.int .i64 (r : Int)) ∧ w = w') from (show bm.near n 1 256 = (r : Int) from hk) ▸ bm.Near_any n 1 256 w))
  unfold maxLen at hc2
  have l4 : ¬ (80 : Int) < l := by omega
  have HO := Lib.hid ho
  have H1 := Lib.hid h1
  clear ho hk
  go_enter Try.func3, Try.ntmps3
  go_wp2_with (first
    | (go_at_call 5; (with_reducible refine (NW.out _ G1.out).mono ?_); rintro e w2 ⟨g, rfl, hs⟩; have A2 := Lib.hid hs; clear hs)
    | (go_at_call 4; (with_reducible refine (alive_any _).mono ?_); rintro e w1 ⟨rfl, hg⟩; have G1 := Lib.hid hg; clear hg))
  go_loopw [6, 7] (fun k i wr => ∃ (j m : Nat) (s : Ps), j ≤ l ∧ m ≤ j ∧ k = .int .i64 m ∧ i = .int .i64 j ∧ Al w g r s wr ∧ Inv r s m) (fun _ i _ => l - (intOf i).toNat)
  case atStart => exact ⟨0, 0, _, Nat.zero_le _, Nat.zero_le _, rfl, rfl, A2.out, Inv.zero r⟩
  case round =>
    obtain ⟨j, m, s, hj, hmj, rfl, rfl, hA, hI⟩ := hrel
    have A0 := Lib.hid hA
    have I0 := Lib.hid hI
    clear A2
    by_cases hlt : j < l
    · obtain ⟨q, off, hD, hcell⟩ := HO.out.at_ (k := j) (by omega)
      generalize xs.getD j 0 = x at hcell
      have RD := Lib.hid (fun W (hg : w.grownBy W none) => (show W.cell? ⟨q, off + j, none⟩ = some (.int .i64 x) from hg.cell hcell (by simp)))
      have c0 := RD.out _ hA.grown
      clear hcell hA hI
      subst hD
      have l1 : (0 : Int) ≤ (j : Int) := by omega
      have l2 : (j : Int) < (l : Int) := by omega
      rcases ways s.ws x with ⟨hx, i1, i2, _⟩ | ⟨i, hxi, hi, ⟨_, i1, i2, _⟩ | ⟨_, i1, i2, _⟩⟩
      · have IS := Lib.hid (fun W (h : Al w g r s W) => h.read (v := .bool false) (fun L k => (by have := Is_any k x; rwa [i1] at this)))
        have SH := Lib.hid (fun W (h : Al w g r s W) => h.call (v := .bool false) (s2 := s) (fun L k => (by have := Shade_any k x; rwa [i2, shade_no i2] at this)))
        clear i1 i2
        by_cases hx0 : x < 0
        · have x1 : ¬ 0 ≤ x := by omega
          clear hx
          go_wp2_with (first
            | (have mark := A1; go_at_call 7; (with_reducible refine (SH.out _ A1.out).mono ?_); rintro e w2 ⟨rfl, hs⟩; have A2 := Lib.hid hs; have c0 := RD.out _ hs.grown; clear hs)
            | (go_at_call 6; (with_reducible refine (IS.out _ A0.out).mono ?_); rintro e w1 ⟨rfl, hs, hg⟩; have A1 := Lib.hid hs; have c0 := RD.out _ hs.grown; clear hs hg))
          go_roundw
          case rel => exact ⟨j + 1, m, _, by omega, by omega, by go_num, by go_num, A2.out, I0.out⟩
          case measure => first | (simp [intOf]; done) | (simp [intOf]; omega)
        · have x1 : 0 ≤ x := by omega
          have x2 : ¬ x < 2048 := by omega
          clear hx
          go_wp2_with (first
            | (have mark := A1; go_at_call 7; (with_reducible refine (SH.out _ A1.out).mono ?_); rintro e w2 ⟨rfl, hs⟩; have A2 := Lib.hid hs; have c0 := RD.out _ hs.grown; clear hs)
            | (go_at_call 6; (with_reducible refine (IS.out _ A0.out).mono ?_); rintro e w1 ⟨rfl, hs, hg⟩; have A1 := Lib.hid hs; have c0 := RD.out _ hs.grown; clear hs hg))
          go_roundw
          case rel => exact ⟨j + 1, m, _, by omega, by omega, by go_num, by go_num, A2.out, I0.out⟩
          case measure => first | (simp [intOf]; done) | (simp [intOf]; omega)
      · have IS := Lib.hid (fun W (h : Al w g r s W) => h.read (v := .bool true) (fun L k => (by have := Is_any k x; rwa [i1] at this)))
        have SH := Lib.hid (fun W (h : Al w g r s W) => h.call (v := .bool false) (s2 := s) (fun L k => (by have := Shade_any k x; rwa [i2, shade_no i2] at this)))
        clear i1 i2 hxi
        go_wp2_with (first
          | (have mark := A1; go_at_call 7; (with_reducible refine (SH.out _ A1.out).mono ?_); rintro e w2 ⟨rfl, hs⟩; have A2 := Lib.hid hs; have c0 := RD.out _ hs.grown; clear hs)
          | (go_at_call 6; (with_reducible refine (IS.out _ A0.out).mono ?_); rintro e w1 ⟨rfl, hs, hg⟩; have A1 := Lib.hid hs; have c0 := RD.out _ hs.grown; clear hs hg))
        go_roundw
        case rel => exact ⟨j + 1, m, _, by omega, by omega, by go_num, by go_num, A2.out, I0.out⟩
        case measure => first | (simp [intOf]; done) | (simp [intOf]; omega)
      · have IS := Lib.hid (fun W (h : Al w g r s W) => h.read (v := .bool false) (fun L k => (by have := Is_any k x; rwa [i1] at this)))
        have SH := Lib.hid (fun W (h : Al w g r s W) => h.call (v := .bool true) (s2 := s.shade r x) (fun L k => (by have := Shade_any k x; rwa [i2] at this)))
        clear i1
        obtain ⟨L0, hgy⟩ := A0.out.gyx
        have IM := Lib.hid (I0.out.more hgy.fine i2)
        have I2 := Lib.hid (fun W (h : Al w g r (s.shade r x) W) => h.read (v := .bool true) (fun L k => (by have := Is_any k x; rwa [is_more hgy.fine i2] at this)))
        clear i2 hgy
        have x1 : 0 ≤ x := by omega
        have x2 : x < 2048 := by omega
        clear hxi
        go_wp2_with (first
          | (have mark := A2; go_at_call 6; (with_reducible refine (I2.out _ (A2.out.new (by first | exact World.grownBy.refl _ _ | exact grown_drew _ _ | exact li.grown_drewN _ _ _))).mono ?_); rintro e w3 ⟨rfl, hs, hg⟩; have A3 := Lib.hid hs; have c3 := RD.out _ hs.grown; clear hs hg)
          | (have mark := A1; go_at_call 7; (with_reducible refine (SH.out _ A1.out).mono ?_); rintro e w2 ⟨rfl, hs⟩; have A2 := Lib.hid hs; have c0 := RD.out _ hs.grown; clear hs)
          | (go_at_call 6; (with_reducible refine (IS.out _ A0.out).mono ?_); rintro e w1 ⟨rfl, hs, hg⟩; have A1 := Lib.hid hs; have c0 := RD.out _ hs.grown; clear hs hg))
        go_roundw
        case rel => exact ⟨j + 1, m + 1, _, by omega, by omega, by go_num, by go_num, A3.out, IM.out⟩
        case measure => first | (simp [intOf]; done) | (simp [intOf]; omega)
    · obtain ⟨e1, e2, e3⟩ := hI
      have CO := Lib.hid (A0.out.read (v := .int .i64 m) (fun L k => (by have := Count_any k; rwa [e1] at this)))
      have WA := Lib.hid (fun W (h : Al w g r s W) => h.read (v := .int .i64 ((if m < r then m else r : Nat) : Int)) (fun L k => (by have := same_read (Q := fun _ _ => True) (Waiting_any k); rwa [e2] at this)))
      have OV := Lib.hid (fun W (h : Al w g r s W) => h.read (v := .bool (decide (r < m))) (fun L k => (by have := same_read (Q := fun _ _ => True) (Over_any k); rwa [e3] at this)))
      clear e1 e2 e3 hA
      rcases Nat.lt_trichotomy m r with hmr | rfl | hmr
      · have WB := Lib.hid (fun W (h : Al w g r s W) => (show Calls Try.prog 10 _ W (fun e w' => e = .returned (.int .i64 (m : Int)) ∧ _) from (by have := WA.out W h; rwa [if_pos hmr] at this)))
        have OB := Lib.hid (fun W (h : Al w g r s W) => (show Calls Try.prog 11 _ W (fun e w' => e = .returned (.bool false) ∧ _) from (by have := OV.out W h; rwa [show decide (r < m) = false from by simp; omega] at this)))
        clear WA OV
        have m0 : (0 : Int) ≤ (m : Int) := by omega
        have m1 : (m : Int) ≤ 1000 := by omega
        have mr : (m : Int) < (r : Int) := by omega
        have mr2 : ¬ r < m := by omega
        go_wp2_with (first
          | (go_at_call 8; (with_reducible refine (NR.out _).mono ?_); rintro e w' ⟨rfl, hw⟩; subst hw)
          | (go_at_call 9; (with_reducible refine CO.out.mono ?_); rintro e w4 ⟨rfl, hs, hg⟩; have A4 := Lib.hid hs; clear hs hg)
          | (go_at_call 10; (with_reducible refine (WB.out _ A4.out).mono ?_); rintro e w5 ⟨rfl, hs, hg⟩; have A5 := Lib.hid hs; clear hs hg)
          | (go_at_call 11; (with_reducible refine (OB.out _ A5.out).mono ?_); rintro e w6 ⟨rfl, hs, hg⟩; have A6 := Lib.hid hs; clear hs hg))
        go_ret
        exact ⟨rfl, A6.out.grown⟩
      · have WB := Lib.hid (fun W (h : Al w g m s W) => (show Calls Try.prog 10 _ W (fun e w' => e = .returned (.int .i64 (m : Int)) ∧ _) from (by have := WA.out W h; rwa [if_neg (Nat.lt_irrefl m)] at this)))
        have OB := Lib.hid (fun W (h : Al w g m s W) => (show Calls Try.prog 11 _ W (fun e w' => e = .returned (.bool false) ∧ _) from (by have := OV.out W h; rwa [show decide (m < m) = false from by simp] at this)))
        clear WA OV
        have m0 : (0 : Int) ≤ (m : Int) := by omega
        have m1 : (m : Int) ≤ 1000 := by omega
        go_wp2_with (first
          | (go_at_call 8; (with_reducible refine (NR.out _).mono ?_); rintro e w' ⟨rfl, hw⟩; subst hw)
          | (go_at_call 9; (with_reducible refine CO.out.mono ?_); rintro e w4 ⟨rfl, hs, hg⟩; have A4 := Lib.hid hs; clear hs hg)
          | (go_at_call 10; (with_reducible refine (WB.out _ A4.out).mono ?_); rintro e w5 ⟨rfl, hs, hg⟩; have A5 := Lib.hid hs; clear hs hg)
          | (go_at_call 11; (with_reducible refine (OB.out _ A5.out).mono ?_); rintro e w6 ⟨rfl, hs, hg⟩; have A6 := Lib.hid hs; clear hs hg))
        go_ret
        exact ⟨rfl, A6.out.grown⟩
      · have WB := Lib.hid (fun W (h : Al w g r s W) => (show Calls Try.prog 10 _ W (fun e w' => e = .returned (.int .i64 (r : Int)) ∧ _) from (by have := WA.out W h; rwa [if_neg (by omega)] at this)))
        have OB := Lib.hid (fun W (h : Al w g r s W) => (show Calls Try.prog 11 _ W (fun e w' => e = .returned (.bool true) ∧ _) from (by have := OV.out W h; rwa [show decide (r < m) = true from by simp; omega] at this)))
        clear WA OV
        have m0 : (0 : Int) ≤ (m : Int) := by omega
        have m1 : (m : Int) ≤ 1000 := by omega
        have mr : (r : Int) < (m : Int) := by omega
        go_wp2_with (first
          | (go_at_call 8; (with_reducible refine (NR.out _).mono ?_); rintro e w' ⟨rfl, hw⟩; subst hw)
          | (go_at_call 9; (with_reducible refine CO.out.mono ?_); rintro e w4 ⟨rfl, hs, hg⟩; have A4 := Lib.hid hs; clear hs hg)
          | (go_at_call 10; (with_reducible refine (WB.out _ A4.out).mono ?_); rintro e w5 ⟨rfl, hs, hg⟩; have A5 := Lib.hid hs; clear hs hg)
          | (go_at_call 11; (with_reducible refine (OB.out _ A5.out).mono ?_); rintro e w6 ⟨rfl, hs, hg⟩; have A6 := Lib.hid hs; clear hs hg))
        go_ret
        exact ⟨rfl, A6.out.grown⟩
theorem Once_many (n : Int) (D : Option Addr) (l c2 : Nat) (xs : List Int) (w : World) (hc : l ≤ c2) (hc2 : c2 ≤ maxLen) (ho : Rd w w.heap.size D l c2 xs) (h80 : 80 < l) :
    Calls Try.prog 3 #[.int .i64 n, .slice D l c2] w fun e w' => e = .returned (.bool true) ∧ w.grownBy w' none := by
  obtain ⟨r, hk, h1, h8⟩ := sk.near_nat n
  have NW := Lib.hid (fun W (hg : w.grownBy W none) => (New_any n r hk h1 h8 W).mono (fun e w' h => Al.of hg h))
  have NR := Lib.hid (fun w => (show Calls Try.prog 8 #[.int .i64 n, .int .i64 1, .int .i64 256] w (fun e w' => e = .returned (.int .i64 (r : Int)) ∧ w = w') from (show bm.near n 1 256 = (r : Int) from hk) ▸ bm.Near_any n 1 256 w))
  unfold maxLen at hc2
  have l4 : (80 : Int) < l := by omega
  have l5 : (80 : Int) ≤ (c2 : Int) := by omega
  have l6 : 80 ≤ c2 := by omega
  have HO := Lib.hid ho
  have H1 := Lib.hid h1
  clear ho hk
  go_enter Try.func3, Try.ntmps3
  go_wp2_with (first
    | (go_at_call 5; (with_reducible refine (NW.out _ G1.out).mono ?_); rintro e w2 ⟨g, rfl, hs⟩; have A2 := Lib.hid hs; clear hs)
    | (go_at_call 4; (with_reducible refine (alive_any _).mono ?_); rintro e w1 ⟨rfl, hg⟩; have G1 := Lib.hid hg; clear hg))
  go_loopw [6, 7] (fun k i wr => ∃ (j m : Nat) (s : Ps), j ≤ 80 ∧ m ≤ j ∧ k = .int .i64 m ∧ i = .int .i64 j ∧ Al w g r s wr ∧ Inv r s m) (fun _ i _ => 80 - (intOf i).toNat)
  case atStart => exact ⟨0, 0, _, Nat.zero_le _, Nat.zero_le _, rfl, rfl, A2.out, Inv.zero r⟩
  case round =>
    obtain ⟨j, m, s, hj, hmj, rfl, rfl, hA, hI⟩ := hrel
    have A0 := Lib.hid hA
    have I0 := Lib.hid hI
    clear A2
    by_cases hlt : j < 80
    · obtain ⟨q, off, hD, hcell⟩ := HO.out.at_ (k := j) (by omega)
      generalize xs.getD j 0 = x at hcell
      have RD := Lib.hid (fun W (hg : w.grownBy W none) => (show W.cell? ⟨q, off + j, none⟩ = some (.int .i64 x) from hg.cell hcell (by simp)))
      have c0 := RD.out _ hA.grown
      clear hcell hA hI
      subst hD
      have l1 : (0 : Int) ≤ (j : Int) := by omega
      have l2 : (j : Int) < 80 := by omega
      rcases ways s.ws x with ⟨hx, i1, i2, _⟩ | ⟨i, hxi, hi, ⟨_, i1, i2, _⟩ | ⟨_, i1, i2, _⟩⟩
      · have IS := Lib.hid (fun W (h : Al w g r s W) => h.read (v := .bool false) (fun L k => (by have := Is_any k x; rwa [i1] at this)))
        have SH := Lib.hid (fun W (h : Al w g r s W) => h.call (v := .bool false) (s2 := s) (fun L k => (by have := Shade_any k x; rwa [i2, shade_no i2] at this)))
        clear i1 i2
        by_cases hx0 : x < 0
        · have x1 : ¬ 0 ≤ x := by omega
          clear hx
          go_wp2_with (first
            | (have mark := A1; go_at_call 7; (with_reducible refine (SH.out _ A1.out).mono ?_); rintro e w2 ⟨rfl, hs⟩; have A2 := Lib.hid hs; have c0 := RD.out _ hs.grown; clear hs)
            | (go_at_call 6; (with_reducible refine (IS.out _ A0.out).mono ?_); rintro e w1 ⟨rfl, hs, hg⟩; have A1 := Lib.hid hs; have c0 := RD.out _ hs.grown; clear hs hg))
          go_roundw
          case rel => exact ⟨j + 1, m, _, by omega, by omega, by go_num, by go_num, A2.out, I0.out⟩
          case measure => first | (simp [intOf]; done) | (simp [intOf]; omega)
        · have x1 : 0 ≤ x := by omega
          have x2 : ¬ x < 2048 := by omega
          clear hx
          go_wp2_with (first
            | (have mark := A1; go_at_call 7; (with_reducible refine (SH.out _ A1.out).mono ?_); rintro e w2 ⟨rfl, hs⟩; have A2 := Lib.hid hs; have c0 := RD.out _ hs.grown; clear hs)
            | (go_at_call 6; (with_reducible refine (IS.out _ A0.out).mono ?_); rintro e w1 ⟨rfl, hs, hg⟩; have A1 := Lib.hid hs; have c0 := RD.out _ hs.grown; clear hs hg))
          go_roundw
          case rel => exact ⟨j + 1, m, _, by omega, by omega, by go_num, by go_num, A2.out, I0.out⟩
          case measure => first | (simp [intOf]; done) | (simp [intOf]; omega)
      · have IS := Lib.hid (fun W (h : Al w g r s W) => h.read (v := .bool true) (fun L k => (by have := Is_any k x; rwa [i1] at this)))
        have SH := Lib.hid (fun W (h : Al w g r s W) => h.call (v := .bool false) (s2 := s) (fun L k => (by have := Shade_any k x; rwa [i2, shade_no i2] at this)))
        clear i1 i2 hxi
        go_wp2_with (first
          | (have mark := A1; go_at_call 7; (with_reducible refine (SH.out _ A1.out).mono ?_); rintro e w2 ⟨rfl, hs⟩; have A2 := Lib.hid hs; have c0 := RD.out _ hs.grown; clear hs)
          | (go_at_call 6; (with_reducible refine (IS.out _ A0.out).mono ?_); rintro e w1 ⟨rfl, hs, hg⟩; have A1 := Lib.hid hs; have c0 := RD.out _ hs.grown; clear hs hg))
        go_roundw
        case rel => exact ⟨j + 1, m, _, by omega, by omega, by go_num, by go_num, A2.out, I0.out⟩
        case measure => first | (simp [intOf]; done) | (simp [intOf]; omega)
      · have IS := Lib.hid (fun W (h : Al w g r s W) => h.read (v := .bool false) (fun L k => (by have := Is_any k x; rwa [i1] at this)))
        have SH := Lib.hid (fun W (h : Al w g r s W) => h.call (v := .bool true) (s2 := s.shade r x) (fun L k => (by have := Shade_any k x; rwa [i2] at this)))
        clear i1
        obtain ⟨L0, hgy⟩ := A0.out.gyx
        have IM := Lib.hid (I0.out.more hgy.fine i2)
        have I2 := Lib.hid (fun W (h : Al w g r (s.shade r x) W) => h.read (v := .bool true) (fun L k => (by have := Is_any k x; rwa [is_more hgy.fine i2] at this)))
        clear i2 hgy
        have x1 : 0 ≤ x := by omega
        have x2 : x < 2048 := by omega
        clear hxi
        go_wp2_with (first
          | (have mark := A2; go_at_call 6; (with_reducible refine (I2.out _ (A2.out.new (by first | exact World.grownBy.refl _ _ | exact grown_drew _ _ | exact li.grown_drewN _ _ _))).mono ?_); rintro e w3 ⟨rfl, hs, hg⟩; have A3 := Lib.hid hs; have c3 := RD.out _ hs.grown; clear hs hg)
          | (have mark := A1; go_at_call 7; (with_reducible refine (SH.out _ A1.out).mono ?_); rintro e w2 ⟨rfl, hs⟩; have A2 := Lib.hid hs; have c0 := RD.out _ hs.grown; clear hs)
          | (go_at_call 6; (with_reducible refine (IS.out _ A0.out).mono ?_); rintro e w1 ⟨rfl, hs, hg⟩; have A1 := Lib.hid hs; have c0 := RD.out _ hs.grown; clear hs hg))
        go_roundw
        case rel => exact ⟨j + 1, m + 1, _, by omega, by omega, by go_num, by go_num, A3.out, IM.out⟩
        case measure => first | (simp [intOf]; done) | (simp [intOf]; omega)
    · obtain ⟨e1, e2, e3⟩ := hI
      have CO := Lib.hid (A0.out.read (v := .int .i64 m) (fun L k => (by have := Count_any k; rwa [e1] at this)))
      have WA := Lib.hid (fun W (h : Al w g r s W) => h.read (v := .int .i64 ((if m < r then m else r : Nat) : Int)) (fun L k => (by have := same_read (Q := fun _ _ => True) (Waiting_any k); rwa [e2] at this)))
      have OV := Lib.hid (fun W (h : Al w g r s W) => h.read (v := .bool (decide (r < m))) (fun L k => (by have := same_read (Q := fun _ _ => True) (Over_any k); rwa [e3] at this)))
      clear e1 e2 e3 hA
      rcases Nat.lt_trichotomy m r with hmr | rfl | hmr
      · have WB := Lib.hid (fun W (h : Al w g r s W) => (show Calls Try.prog 10 _ W (fun e w' => e = .returned (.int .i64 (m : Int)) ∧ _) from (by have := WA.out W h; rwa [if_pos hmr] at this)))
        have OB := Lib.hid (fun W (h : Al w g r s W) => (show Calls Try.prog 11 _ W (fun e w' => e = .returned (.bool false) ∧ _) from (by have := OV.out W h; rwa [show decide (r < m) = false from by simp; omega] at this)))
        clear WA OV
        have m0 : (0 : Int) ≤ (m : Int) := by omega
        have m1 : (m : Int) ≤ 1000 := by omega
        have mr : (m : Int) < (r : Int) := by omega
        have mr2 : ¬ r < m := by omega
        go_wp2_with (first
          | (go_at_call 8; (with_reducible refine (NR.out _).mono ?_); rintro e w' ⟨rfl, hw⟩; subst hw)
          | (go_at_call 9; (with_reducible refine CO.out.mono ?_); rintro e w4 ⟨rfl, hs, hg⟩; have A4 := Lib.hid hs; clear hs hg)
          | (go_at_call 10; (with_reducible refine (WB.out _ A4.out).mono ?_); rintro e w5 ⟨rfl, hs, hg⟩; have A5 := Lib.hid hs; clear hs hg)
          | (go_at_call 11; (with_reducible refine (OB.out _ A5.out).mono ?_); rintro e w6 ⟨rfl, hs, hg⟩; have A6 := Lib.hid hs; clear hs hg))
        go_ret
        exact ⟨rfl, A6.out.grown⟩
      · have WB := Lib.hid (fun W (h : Al w g m s W) => (show Calls Try.prog 10 _ W (fun e w' => e = .returned (.int .i64 (m : Int)) ∧ _) from (by have := WA.out W h; rwa [if_neg (Nat.lt_irrefl m)] at this)))
        have OB := Lib.hid (fun W (h : Al w g m s W) => (show Calls Try.prog 11 _ W (fun e w' => e = .returned (.bool false) ∧ _) from (by have := OV.out W h; rwa [show decide (m < m) = false from by simp] at this)))
        clear WA OV
        have m0 : (0 : Int) ≤ (m : Int) := by omega
        have m1 : (m : Int) ≤ 1000 := by omega
        go_wp2_with (first
          | (go_at_call 8; (with_reducible refine (NR.out _).mono ?_); rintro e w' ⟨rfl, hw⟩; subst hw)
          | (go_at_call 9; (with_reducible refine CO.out.mono ?_); rintro e w4 ⟨rfl, hs, hg⟩; have A4 := Lib.hid hs; clear hs hg)
          | (go_at_call 10; (with_reducible refine (WB.out _ A4.out).mono ?_); rintro e w5 ⟨rfl, hs, hg⟩; have A5 := Lib.hid hs; clear hs hg)
          | (go_at_call 11; (with_reducible refine (OB.out _ A5.out).mono ?_); rintro e w6 ⟨rfl, hs, hg⟩; have A6 := Lib.hid hs; clear hs hg))
        go_ret
        exact ⟨rfl, A6.out.grown⟩
      · have WB := Lib.hid (fun W (h : Al w g r s W) => (show Calls Try.prog 10 _ W (fun e w' => e = .returned (.int .i64 (r : Int)) ∧ _) from (by have := WA.out W h; rwa [if_neg (by omega)] at this)))
        have OB := Lib.hid (fun W (h : Al w g r s W) => (show Calls Try.prog 11 _ W (fun e w' => e = .returned (.bool true) ∧ _) from (by have := OV.out W h; rwa [show decide (r < m) = true from by simp; omega] at this)))
        clear WA OV
        have m0 : (0 : Int) ≤ (m : Int) := by omega
        have m1 : (m : Int) ≤ 1000 := by omega
        have mr : (r : Int) < (m : Int) := by omega
        go_wp2_with (first
          | (go_at_call 8; (with_reducible refine (NR.out _).mono ?_); rintro e w' ⟨rfl, hw⟩; subst hw)
          | (go_at_call 9; (with_reducible refine CO.out.mono ?_); rintro e w4 ⟨rfl, hs, hg⟩; have A4 := Lib.hid hs; clear hs hg)
          | (go_at_call 10; (with_reducible refine (WB.out _ A4.out).mono ?_); rintro e w5 ⟨rfl, hs, hg⟩; have A5 := Lib.hid hs; clear hs hg)
          | (go_at_call 11; (with_reducible refine (OB.out _ A5.out).mono ?_); rintro e w6 ⟨rfl, hs, hg⟩; have A6 := Lib.hid hs; clear hs hg))
        go_ret
        exact ⟨rfl, A6.out.grown⟩
theorem ShadeOnce_any (n : Int) (D : Option Addr) (l c2 : Nat) (xs : List Int) (w : World) (hc : l ≤ c2) (hc2 : c2 ≤ maxLen) (ho : Rd w w.heap.size D l c2 xs) :
    Calls Try.prog 3 #[.int .i64 n, .slice D l c2] w fun e w' => e = .returned (.bool true) ∧ w.grownBy w' none := by
  by_cases h : 80 < l
  · exact Once_many n D l c2 xs w hc hc2 ho h
  · exact Once_few n D l c2 xs w hc hc2 ho h
end Go.Proofs.Ytokjpibaaioehaa.sh
