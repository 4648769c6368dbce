/- The walk of StackLoses. (Printed by wip/tools/genSkJ.py.) -/
import Derived.Test.YtokjiklmeolleaaSkH
namespace Go.Proofs.Ytokjiklmeolleaa.sk
open Go.ChangeShapes Go.WideShapes Go.ChangeAt Go.RowKit gen li en gr
set_option linter.unusedVariables false
set_option maxHeartbeats 16000000
set_option maxRecDepth 100000
/-- The first j of the entries that came in. -/
def firsts (f : Nat → Nat → Int) (j : Nat) : List Va := (List.range j).map fun i => (f i 0, f i 1)
theorem firsts_length (f : Nat → Nat → Int) (j : Nat) : (firsts f j).length = j := by simp [firsts]
theorem firsts_more (f : Nat → Nat → Int) (j : Nat) : firsts f (j + 1) = firsts f j ++ [(f j 0, f j 1)] := by simp [firsts, List.range_succ]
theorem firsts_none (f : Nat → Nat → Int) : firsts f 0 = [] := rfl
/-- Pushed one by one: as many as there is room for. -/
def kept (f : Nat → Nat → Int) (k j : Nat) : List Va := firsts f (if k < j then k else j)
theorem kept_in {f : Nat → Nat → Int} {k j : Nat} (h : j ≤ k) : kept f k j = firsts f j := by unfold kept; rw [if_neg (by omega)]
theorem kept_out {f : Nat → Nat → Int} {k j : Nat} (h : k ≤ j) : kept f k j = firsts f k := by
  unfold kept
  split
  · rfl
  · rw [show j = k by omega]
/-- One more, told with what it answers. -/
theorem Push_next {w W : World} {K : List Nat} {g k j : Nat} {f : Nat → Nat → Int} (h1 : 1 ≤ k) (h : Al w K g k (decide (k < j)) (kept f k j) W) :
    Calls Try.prog 11 #[.pointer (some ⟨g, 0, none⟩), .agg #[.int .i64 (f j 0), .int .i64 (f j 1)]] W fun e w' => e = .returned (.bool (decide (j < k))) ∧ ∃ K', Al w K' g k (decide (k < j + 1)) (kept f k (j + 1)) w' := by
  by_cases hj : j < k
  · rw [kept_in (by omega), decide_eq_false (by omega)] at h
    rw [kept_in (by omega), decide_eq_false (show ¬ k < j + 1 by omega), decide_eq_true hj, firsts_more]
    refine (Push_yes h.sk (by rw [firsts_length]; exact hj) (f j 0) (f j 1)).mono ?_
    rintro e w' ⟨rfl, K', hk, hs, hg⟩
    exact ⟨rfl, K', h.write hs hk hg⟩
  · rw [kept_out (by omega)] at h
    rw [kept_out (by omega), decide_eq_true (show k < j + 1 by omega), decide_eq_false hj]
    refine (Push_no h.sk (by rw [firsts_length]) (f j 0) (f j 1)).mono ?_
    rintro e w' ⟨rfl, hs, hg⟩
    rw [decide_eq_true (show 0 < k by omega)] at hs
    exact ⟨rfl, K, h.same hs hg⟩
theorem Loses_few (n : Int) (D : Option Addr) (l c2 : Nat) (f : Nat → Nat → Int) (w : World) (hc : l ≤ c2) (hc2 : c2 ≤ maxLen) (ho : Rws w w.heap.size D l 2 f) (h3 : ¬ 300 < l) :
    Calls Try.prog 4 #[.int .i64 n, .slice D l c2] w fun e w' => e = .returned (.bool true) ∧ w.grownBy w' none := by
  obtain ⟨k, hk, h1, h8⟩ := near_nat n
  have NW := Lib.hid (fun W (hg : w.grownBy W none) => (New_any n k hk h8 W).mono (fun e w' (h : NewA k false [] W e w') => Al.of hg h))
  have NR := Lib.hid (fun w => (show Calls Try.prog 9 #[.int .i64 n, .int .i64 1, .int .i64 256] w (fun e w' => e = .returned (.int .i64 (k : Int)) ∧ w = w') from hk ▸ Near_any n 1 256 w))
  unfold maxLen at hc2
  have l4 : ¬ (300 : Int) < l := by omega
  have HO := Lib.hid ho
  have H1 := Lib.hid h1
  clear ho hk
  go_enter Try.func4, Try.ntmps4
  go_wp2_with (first
    | (go_at_call 8; (with_reducible refine (NW.out _ G1.out).mono ?_); rintro e w2 ⟨g, K, rfl, hs⟩; have S2 := Lib.hid hs; clear hs)
    | (go_at_call 9; (with_reducible refine (NR.out _).mono ?_); rintro e w' ⟨rfl, hw⟩; subst hw)
    | (go_at_call 6; (with_reducible refine (alive_any _).mono ?_); rintro e w1 ⟨rfl, hg⟩; have G1 := Lib.hid hg; clear hg))
  go_loopw [7] (fun i wr => ∃ (j : Nat) (K' : List Nat), j ≤ l ∧ i = .int .i64 j ∧ Al w K' g k (decide (k < j)) (kept f k j) wr) (fun i _ => l - (intOf i).toNat)
  case atStart => exact ⟨0, K, Nat.zero_le _, rfl, S2.out⟩
  case round =>
    obtain ⟨j, K', hj, rfl, hS⟩ := hrel
    have SS := Lib.hid hS
    have OO := Lib.hid (HO.out.kept hS.grown (by simp))
    clear hS
    by_cases hlt : j < l
    · obtain ⟨q, off, hD, hq, hcc, hw⟩ := OO.out j (by omega)
      subst hD
      have p0 := hcc 0 (by omega)
      rw [Nat.add_zero] at p0
      have p1 := hcc 1 (by omega)
      have PU := Push_next H1.out SS.out
      clear hcc hw OO hq
      generalize f j 0 = x0 at p0 PU
      generalize f j 1 = x1 at p1 PU
      have l1 : (0 : Int) ≤ (j : Int) := by omega
      have l2 : (j : Int) < l := by omega
      by_cases hjk : j < k
      · have mark := hjk
        have PN := Lib.hid (show Calls Try.prog 11 #[.pointer (some ⟨g, 0, none⟩), .agg #[.int .i64 x0, .int .i64 x1]] wr (fun e w' => e = .returned (.bool true) ∧ ∃ K', Al w K' g k (decide (k < j + 1)) (kept f k (j + 1)) w') from by rwa [show decide (j < k) = true from decide_eq_true hjk] at PU)
        clear PU
        go_wp2_with (go_at_call 11; (with_reducible refine (PN.out).mono ?_); rintro e w3 ⟨rfl, K3, hs⟩; have S3 := Lib.hid hs; clear hs)
        go_roundw
        case rel => exact ⟨j + 1, K3, by omega, by go_num, S3.out⟩
        case measure => first | (simp [intOf]; done) | (simp [intOf]; omega)
      · have mark := hjk
        have PN := Lib.hid (show Calls Try.prog 11 #[.pointer (some ⟨g, 0, none⟩), .agg #[.int .i64 x0, .int .i64 x1]] wr (fun e w' => e = .returned (.bool false) ∧ ∃ K', Al w K' g k (decide (k < j + 1)) (kept f k (j + 1)) w') from by rwa [show decide (j < k) = false from decide_eq_false hjk] at PU)
        clear PU
        go_wp2_with (go_at_call 11; (with_reducible refine (PN.out).mono ?_); rintro e w3 ⟨rfl, K3, hs⟩; have S3 := Lib.hid hs; clear hs)
        go_roundw
        case rel => exact ⟨j + 1, K3, by omega, by go_num, S3.out⟩
        case measure => first | (simp [intOf]; done) | (simp [intOf]; omega)
    · obtain rfl : l = j := by omega
      have OO := Lib.hid (fun W (hg : w.grownBy W none) => HO.out.kept (row := none) hg (by simp))
      clear hlt hj
      rcases Nat.lt_trichotomy l k with hkl | rfl | hkl
      · have hkn : ¬ k < l := by omega
        have hS3 := SS.out
        rw [kept_in (show l ≤ k by omega), show decide (k < l) = false from decide_eq_false (by omega)] at hS3
        have S3 := Lib.hid hS3
        have OV := Lib.hid (Over_any S3.out.sk)
        clear hS3 SS
        go_wp2_with (go_at_call 12; (with_reducible refine (OV.out).mono ?_); rintro e w' ⟨rfl, hw⟩; subst hw)
        go_loopw [8] (fun i wr => ∃ (p : Nat), p ≤ l ∧ i = .int .i64 ((p : Int) - 1) ∧ ∃ K', Al w K' g k false (firsts f p) wr) (fun i _ => (intOf i + 1).toNat)
        case atStart => exact ⟨l, Nat.le_refl _, by go_num, K', S3.out⟩
        case round =>
          obtain ⟨p, hp, rfl, K2, hS2⟩ := hrel
          have S2 := Lib.hid hS2
          have O2 := Lib.hid (OO.out _ hS2.grown)
          clear hS2 S3 OO
          rcases p with _ | p
          · have PO := Lib.hid (Pop_none S2.out.sk)
            go_wp2_with (go_at_call 13; (with_reducible refine (PO.out).mono ?_); rintro e w5 ⟨rfl, hg⟩; have G5 := Lib.hid (S2.out.grown.trans hg); clear hg)
            go_ret
            exact ⟨rfl, G5.out.trans (World.grownBy_alloc _ _ _)⟩
          · rw [show (((p + 1 : Nat) : Int) - 1) = (p : Int) by omega]
            obtain ⟨q, off, hD, hq, hcc, hw⟩ := O2.out p (by omega)
            subst hD
            have p0 := hcc 0 (by omega)
            rw [Nat.add_zero] at p0
            have p1 := hcc 1 (by omega)
            have qlt : q < w.heap.size := hq
            have S2' := S2.out
            rw [firsts_more] at S2'
            have PO := Pop_yes S2'.sk
            have RO := Lib.hid (fun w5 (hs : Sk w5 K2 g k false (firsts f p)) (hg : Gr K2 wr w5) => (show Al w K2 g k false (firsts f p) w5 from S2.out.same hs hg))
            have NQ := Lib.hid (show q ∉ K2 from fun e => by have := S2.out.le q e; omega)
            clear S2' hcc hw O2 hq
            generalize f p 0 = x0 at p0 PO
            generalize f p 1 = x1 at p1 PO
            have PP := Lib.hid PO
            clear PO
            have l1 : (0 : Int) ≤ (p : Int) := by omega
            have l2 : (p : Int) < l := by omega
            go_wp2_with (go_at_call 13; (with_reducible refine (PP.out).mono ?_); rintro e w5 ⟨rfl, hs, hg⟩; have S5 := Lib.hid (RO.out _ hs hg); have p0 := hg.cell p0 NQ.out; have p1 := hg.cell p1 NQ.out; have qlt5 : q < w5.heap.size := World.block_lt_of_cell? _ _ p0; clear hs hg)
            go_quiet (fail)
            go_wp2
            have hn := S5.out.new ((World.grownBy_alloc w5 (.cells #[.int .i64 x0, .int .i64 x1] 36) none).trans (li.grown_drewN _ nq none))
            first
              | exact ⟨⟨p, by omega, by go_num, K2, hn⟩, by first | (simp [intOf]; done) | (simp [intOf]; omega)⟩
              | exact ⟨⟨_, _, _, _, _, _, _, _, _, _, _, _, _, _, _, _, _, _, _, _, _, _, _, ⟨p, by omega, by go_num, K2, hn⟩, rfl⟩, by first | (simp [intOf]; done) | (simp [intOf]; omega)⟩
      · have mark := HO
        have hS3 := SS.out
        rw [kept_in (show l ≤ l by omega), show decide (l < l) = false from decide_eq_false (by omega)] at hS3
        have S3 := Lib.hid hS3
        have OV := Lib.hid (Over_any S3.out.sk)
        clear hS3 SS
        go_wp2_with (go_at_call 12; (with_reducible refine (OV.out).mono ?_); rintro e w' ⟨rfl, hw⟩; subst hw)
        go_loopw [8] (fun i wr => ∃ (p : Nat), p ≤ l ∧ i = .int .i64 ((p : Int) - 1) ∧ ∃ K', Al w K' g l false (firsts f p) wr) (fun i _ => (intOf i + 1).toNat)
        case atStart => exact ⟨l, Nat.le_refl _, by go_num, K', S3.out⟩
        case round =>
          obtain ⟨p, hp, rfl, K2, hS2⟩ := hrel
          have S2 := Lib.hid hS2
          have O2 := Lib.hid (OO.out _ hS2.grown)
          clear hS2 S3 OO
          rcases p with _ | p
          · have PO := Lib.hid (Pop_none S2.out.sk)
            go_wp2_with (go_at_call 13; (with_reducible refine (PO.out).mono ?_); rintro e w5 ⟨rfl, hg⟩; have G5 := Lib.hid (S2.out.grown.trans hg); clear hg)
            go_ret
            exact ⟨rfl, G5.out.trans (World.grownBy_alloc _ _ _)⟩
          · rw [show (((p + 1 : Nat) : Int) - 1) = (p : Int) by omega]
            obtain ⟨q, off, hD, hq, hcc, hw⟩ := O2.out p (by omega)
            subst hD
            have p0 := hcc 0 (by omega)
            rw [Nat.add_zero] at p0
            have p1 := hcc 1 (by omega)
            have qlt : q < w.heap.size := hq
            have S2' := S2.out
            rw [firsts_more] at S2'
            have PO := Pop_yes S2'.sk
            have RO := Lib.hid (fun w5 (hs : Sk w5 K2 g l false (firsts f p)) (hg : Gr K2 wr w5) => (show Al w K2 g l false (firsts f p) w5 from S2.out.same hs hg))
            have NQ := Lib.hid (show q ∉ K2 from fun e => by have := S2.out.le q e; omega)
            clear S2' hcc hw O2 hq
            generalize f p 0 = x0 at p0 PO
            generalize f p 1 = x1 at p1 PO
            have PP := Lib.hid PO
            clear PO
            have l1 : (0 : Int) ≤ (p : Int) := by omega
            have l2 : (p : Int) < l := by omega
            go_wp2_with (go_at_call 13; (with_reducible refine (PP.out).mono ?_); rintro e w5 ⟨rfl, hs, hg⟩; have S5 := Lib.hid (RO.out _ hs hg); have p0 := hg.cell p0 NQ.out; have p1 := hg.cell p1 NQ.out; have qlt5 : q < w5.heap.size := World.block_lt_of_cell? _ _ p0; clear hs hg)
            go_quiet (fail)
            go_wp2
            have hn := S5.out.new ((World.grownBy_alloc w5 (.cells #[.int .i64 x0, .int .i64 x1] 36) none).trans (li.grown_drewN _ nq none))
            first
              | exact ⟨⟨p, by omega, by go_num, K2, hn⟩, by first | (simp [intOf]; done) | (simp [intOf]; omega)⟩
              | exact ⟨⟨_, _, _, _, _, _, _, _, _, _, _, _, _, _, _, _, _, _, _, _, _, _, _, ⟨p, by omega, by go_num, K2, hn⟩, rfl⟩, by first | (simp [intOf]; done) | (simp [intOf]; omega)⟩
      · have mark := hkl
        have hS3 := SS.out
        rw [kept_out (show k ≤ l by omega), show decide (k < l) = true from decide_eq_true (by omega)] at hS3
        have S3 := Lib.hid hS3
        have OV := Lib.hid (Over_any S3.out.sk)
        clear hS3 SS
        go_wp2_with (go_at_call 12; (with_reducible refine (OV.out).mono ?_); rintro e w' ⟨rfl, hw⟩; subst hw)
        go_loopw [8] (fun i wr => ∃ (p : Nat), p ≤ k ∧ i = .int .i64 ((p : Int) - 1) ∧ ∃ K', Al w K' g k true (firsts f p) wr) (fun i _ => (intOf i + 1).toNat)
        case atStart => exact ⟨k, Nat.le_refl _, by go_num, K', S3.out⟩
        case round =>
          obtain ⟨p, hp, rfl, K2, hS2⟩ := hrel
          have S2 := Lib.hid hS2
          have O2 := Lib.hid (OO.out _ hS2.grown)
          clear hS2 S3 OO
          rcases p with _ | p
          · have PO := Lib.hid (Pop_none S2.out.sk)
            go_wp2_with (go_at_call 13; (with_reducible refine (PO.out).mono ?_); rintro e w5 ⟨rfl, hg⟩; have G5 := Lib.hid (S2.out.grown.trans hg); clear hg)
            go_ret
            exact ⟨rfl, G5.out.trans (World.grownBy_alloc _ _ _)⟩
          · rw [show (((p + 1 : Nat) : Int) - 1) = (p : Int) by omega]
            obtain ⟨q, off, hD, hq, hcc, hw⟩ := O2.out p (by omega)
            subst hD
            have p0 := hcc 0 (by omega)
            rw [Nat.add_zero] at p0
            have p1 := hcc 1 (by omega)
            have qlt : q < w.heap.size := hq
            have S2' := S2.out
            rw [firsts_more] at S2'
            have PO := Pop_yes S2'.sk
            have RO := Lib.hid (fun w5 (hs : Sk w5 K2 g k true (firsts f p)) (hg : Gr K2 wr w5) => (show Al w K2 g k true (firsts f p) w5 from S2.out.same hs hg))
            have NQ := Lib.hid (show q ∉ K2 from fun e => by have := S2.out.le q e; omega)
            clear S2' hcc hw O2 hq
            generalize f p 0 = x0 at p0 PO
            generalize f p 1 = x1 at p1 PO
            have PP := Lib.hid PO
            clear PO
            have l1 : (0 : Int) ≤ (p : Int) := by omega
            have l2 : (p : Int) < l := by omega
            go_wp2_with (go_at_call 13; (with_reducible refine (PP.out).mono ?_); rintro e w5 ⟨rfl, hs, hg⟩; have S5 := Lib.hid (RO.out _ hs hg); have p0 := hg.cell p0 NQ.out; have p1 := hg.cell p1 NQ.out; have qlt5 : q < w5.heap.size := World.block_lt_of_cell? _ _ p0; clear hs hg)
            go_quiet (fail)
            go_wp2
            have hn := S5.out.new ((World.grownBy_alloc w5 (.cells #[.int .i64 x0, .int .i64 x1] 36) none).trans (li.grown_drewN _ nq none))
            first
              | exact ⟨⟨p, by omega, by go_num, K2, hn⟩, by first | (simp [intOf]; done) | (simp [intOf]; omega)⟩
              | exact ⟨⟨_, _, _, _, _, _, _, _, _, _, _, _, _, _, _, _, _, _, _, _, _, _, _, ⟨p, by omega, by go_num, K2, hn⟩, rfl⟩, by first | (simp [intOf]; done) | (simp [intOf]; omega)⟩
theorem Loses_many (n : Int) (D : Option Addr) (l c2 : Nat) (f : Nat → Nat → Int) (w : World) (hc : l ≤ c2) (hc2 : c2 ≤ maxLen) (ho : Rws w w.heap.size D l 2 f) (h3 : 300 < l) :
    Calls Try.prog 4 #[.int .i64 n, .slice D l c2] w fun e w' => e = .returned (.bool true) ∧ w.grownBy w' none := by
  obtain ⟨k, hk, h1, h8⟩ := near_nat n
  have NW := Lib.hid (fun W (hg : w.grownBy W none) => (New_any n k hk h8 W).mono (fun e w' (h : NewA k false [] W e w') => Al.of hg h))
  have NR := Lib.hid (fun w => (show Calls Try.prog 9 #[.int .i64 n, .int .i64 1, .int .i64 256] w (fun e w' => e = .returned (.int .i64 (k : Int)) ∧ w = w') from hk ▸ Near_any n 1 256 w))
  unfold maxLen at hc2
  obtain ⟨ad, rfl⟩ := ho.some (by omega)
  have l3 : (300 : Int) ≤ c2 := by omega
  have l4 : (300 : Int) < l := by omega
  have HO := Lib.hid ho
  have H1 := Lib.hid h1
  clear ho hk
  go_enter Try.func4, Try.ntmps4
  go_wp2_with (first
    | (go_at_call 8; (with_reducible refine (NW.out _ G1.out).mono ?_); rintro e w2 ⟨g, K, rfl, hs⟩; have S2 := Lib.hid hs; clear hs)
    | (go_at_call 9; (with_reducible refine (NR.out _).mono ?_); rintro e w' ⟨rfl, hw⟩; subst hw)
    | (go_at_call 6; (with_reducible refine (alive_any _).mono ?_); rintro e w1 ⟨rfl, hg⟩; have G1 := Lib.hid hg; clear hg))
  go_loopw [7] (fun i wr => ∃ (j : Nat) (K' : List Nat), j ≤ 300 ∧ i = .int .i64 j ∧ Al w K' g k (decide (k < j)) (kept f k j) wr) (fun i _ => 300 - (intOf i).toNat)
  case atStart => exact ⟨0, K, Nat.zero_le _, rfl, S2.out⟩
  case round =>
    obtain ⟨j, K', hj, rfl, hS⟩ := hrel
    have SS := Lib.hid hS
    have OO := Lib.hid (HO.out.kept hS.grown (by simp))
    clear hS
    by_cases hlt : j < 300
    · obtain ⟨q, off, hD, hq, hcc, hw⟩ := OO.out j (by omega)
      injection hD with hD; subst hD
      have p0 := hcc 0 (by omega)
      rw [Nat.add_zero] at p0
      have p1 := hcc 1 (by omega)
      have PU := Push_next H1.out SS.out
      clear hcc hw OO hq
      generalize f j 0 = x0 at p0 PU
      generalize f j 1 = x1 at p1 PU
      have l1 : (0 : Int) ≤ (j : Int) := by omega
      have l2 : (j : Int) < 300 := by omega
      by_cases hjk : j < k
      · have mark := hjk
        have PN := Lib.hid (show Calls Try.prog 11 #[.pointer (some ⟨g, 0, none⟩), .agg #[.int .i64 x0, .int .i64 x1]] wr (fun e w' => e = .returned (.bool true) ∧ ∃ K', Al w K' g k (decide (k < j + 1)) (kept f k (j + 1)) w') from by rwa [show decide (j < k) = true from decide_eq_true hjk] at PU)
        clear PU
        go_wp2_with (go_at_call 11; (with_reducible refine (PN.out).mono ?_); rintro e w3 ⟨rfl, K3, hs⟩; have S3 := Lib.hid hs; clear hs)
        go_roundw
        case rel => exact ⟨j + 1, K3, by omega, by go_num, S3.out⟩
        case measure => first | (simp [intOf]; done) | (simp [intOf]; omega)
      · have mark := hjk
        have PN := Lib.hid (show Calls Try.prog 11 #[.pointer (some ⟨g, 0, none⟩), .agg #[.int .i64 x0, .int .i64 x1]] wr (fun e w' => e = .returned (.bool false) ∧ ∃ K', Al w K' g k (decide (k < j + 1)) (kept f k (j + 1)) w') from by rwa [show decide (j < k) = false from decide_eq_false hjk] at PU)
        clear PU
        go_wp2_with (go_at_call 11; (with_reducible refine (PN.out).mono ?_); rintro e w3 ⟨rfl, K3, hs⟩; have S3 := Lib.hid hs; clear hs)
        go_roundw
        case rel => exact ⟨j + 1, K3, by omega, by go_num, S3.out⟩
        case measure => first | (simp [intOf]; done) | (simp [intOf]; omega)
    · obtain rfl : 300 = j := by omega
      have OO := Lib.hid (fun W (hg : w.grownBy W none) => HO.out.kept (row := none) hg (by simp))
      clear hlt hj
      have hkl : k < 300 := by omega
      have hki : (k : Int) < 300 := by omega
      have hS3 := SS.out
      rw [kept_out (show k ≤ 300 by omega), show decide (k < 300) = true from decide_eq_true (by omega)] at hS3
      have S3 := Lib.hid hS3
      have OV := Lib.hid (Over_any S3.out.sk)
      clear hS3 SS
      go_wp2_with (go_at_call 12; (with_reducible refine (OV.out).mono ?_); rintro e w' ⟨rfl, hw⟩; subst hw)
      go_loopw [8] (fun i wr => ∃ (p : Nat), p ≤ k ∧ i = .int .i64 ((p : Int) - 1) ∧ ∃ K', Al w K' g k true (firsts f p) wr) (fun i _ => (intOf i + 1).toNat)
      case atStart => exact ⟨k, Nat.le_refl _, by go_num, K', S3.out⟩
      case round =>
        obtain ⟨p, hp, rfl, K2, hS2⟩ := hrel
        have S2 := Lib.hid hS2
        have O2 := Lib.hid (OO.out _ hS2.grown)
        clear hS2 S3 OO
        rcases p with _ | p
        · have PO := Lib.hid (Pop_none S2.out.sk)
          go_wp2_with (go_at_call 13; (with_reducible refine (PO.out).mono ?_); rintro e w5 ⟨rfl, hg⟩; have G5 := Lib.hid (S2.out.grown.trans hg); clear hg)
          go_ret
          exact ⟨rfl, G5.out.trans (World.grownBy_alloc _ _ _)⟩
        · rw [show (((p + 1 : Nat) : Int) - 1) = (p : Int) by omega]
          obtain ⟨q, off, hD, hq, hcc, hw⟩ := O2.out p (by omega)
          injection hD with hD; subst hD
          have p0 := hcc 0 (by omega)
          rw [Nat.add_zero] at p0
          have p1 := hcc 1 (by omega)
          have qlt : q < w.heap.size := hq
          have S2' := S2.out
          rw [firsts_more] at S2'
          have PO := Pop_yes S2'.sk
          have RO := Lib.hid (fun w5 (hs : Sk w5 K2 g k true (firsts f p)) (hg : Gr K2 wr w5) => (show Al w K2 g k true (firsts f p) w5 from S2.out.same hs hg))
          have NQ := Lib.hid (show q ∉ K2 from fun e => by have := S2.out.le q e; omega)
          clear S2' hcc hw O2 hq
          generalize f p 0 = x0 at p0 PO
          generalize f p 1 = x1 at p1 PO
          have PP := Lib.hid PO
          clear PO
          have l1 : (0 : Int) ≤ (p : Int) := by omega
          have l2 : (p : Int) < 300 := by omega
          go_wp2_with (go_at_call 13; (with_reducible refine (PP.out).mono ?_); rintro e w5 ⟨rfl, hs, hg⟩; have S5 := Lib.hid (RO.out _ hs hg); have p0 := hg.cell p0 NQ.out; have p1 := hg.cell p1 NQ.out; have qlt5 : q < w5.heap.size := World.block_lt_of_cell? _ _ p0; clear hs hg)
          go_quiet (fail)
          go_wp2
          have hn := S5.out.new ((World.grownBy_alloc w5 (.cells #[.int .i64 x0, .int .i64 x1] 36) none).trans (li.grown_drewN _ nq none))
          first
            | exact ⟨⟨p, by omega, by go_num, K2, hn⟩, by first | (simp [intOf]; done) | (simp [intOf]; omega)⟩
            | exact ⟨⟨_, _, _, _, _, _, _, _, _, _, _, _, _, _, _, _, _, _, _, _, _, _, _, ⟨p, by omega, by go_num, K2, hn⟩, rfl⟩, by first | (simp [intOf]; done) | (simp [intOf]; omega)⟩
theorem StackLoses_any (n : Int) (D : Option Addr) (l c2 : Nat) (f : Nat → Nat → Int) (w : World) (hc : l ≤ c2) (hc2 : c2 ≤ maxLen) (ho : Rws w w.heap.size D l 2 f) :
    Calls Try.prog 4 #[.int .i64 n, .slice D l c2] w fun e w' => e = .returned (.bool true) ∧ w.grownBy w' none := by
  by_cases h3 : 300 < l
  · exact Loses_many n D l c2 f w hc hc2 ho h3
  · exact Loses_few n D l c2 f w hc hc2 ho h3
end Go.Proofs.Ytokjiklmeolleaa.sk
