/- The law's first ones, alive and run. -/
import Derived.Test.YtpghghmmoihimaaRoE
import Derived.Deep.RegionHeld3
namespace Go.Proofs.Ytpghghmmoihimaa.ro
open Go.ChangeShapes Go.WideShapes Go.ChangeAt Go.RowKit gen li va wd
set_option linter.unusedVariables false
set_option maxHeartbeats 4000000
set_option maxRecDepth 100000
theorem few_any (A : Option Addr) (n c : Nat) (w : World) (hn : n ≤ c) (hc : c ≤ maxLen) (hA : 0 < n → ∃ ad, A = some ad) :
    Calls Try.prog 8 #[.slice A n c] w fun e w' => (∃ m c', m ≤ 50 ∧ m ≤ n ∧ e = .returned (.slice A m c')) ∧ w = w' := by
  unfold maxLen at hc
  by_cases h : 50 < n
  · obtain ⟨ad, rfl⟩ := hA (by omega)
    clear hA
    have l1 : (50 : Int) ≤ c := by omega
    go_enter Try.func8, Try.ntmps8
    go_wp2
    all_goals
      go_ret
      exact ⟨⟨50, _, by omega, by omega, rfl⟩, rfl⟩
  · clear hA
    go_enter Try.func8, Try.ntmps8
    go_wp2
    go_ret
    exact ⟨⟨n, _, by omega, by omega, rfl⟩, rfl⟩
theorem grown_drew (w : World) (row : Option Nat) : w.grownBy w.drew row := ⟨rfl, rfl, rfl, Nat.le_refl _, fun _ _ _ => rfl⟩
theorem Rt.made (w : World) : Rt (w.alloc (.cells (rc []).toArray 32)) w.heap.size [] := ⟨heap_alloc_new _ _, by simp⟩
theorem Rt.zero (w : World) : Rt (w.alloc (.cells #[.int .i64 0, .int .i64 0, .int .i64 0, .int .i64 0, .int .i64 0, .int .i64 0, .int .i64 0, .int .i64 0, .int .i64 0, .int .i64 0, .int .i64 0, .int .i64 0, .int .i64 0, .int .i64 0, .int .i64 0, .int .i64 0, .int .i64 0, .int .i64 0, .int .i64 0, .int .i64 0, .int .i64 0, .int .i64 0, .int .i64 0, .int .i64 0, .int .i64 0, .int .i64 0, .int .i64 0, .int .i64 0, .int .i64 0, .int .i64 0, .int .i64 0, .int .i64 0, .int .i64 0] 32)) w.heap.size [] := Rt.made w
theorem grown_zero (w : World) : w.grownBy (w.alloc (.cells #[.int .i64 0, .int .i64 0, .int .i64 0, .int .i64 0, .int .i64 0, .int .i64 0, .int .i64 0, .int .i64 0, .int .i64 0, .int .i64 0, .int .i64 0, .int .i64 0, .int .i64 0, .int .i64 0, .int .i64 0, .int .i64 0, .int .i64 0, .int .i64 0, .int .i64 0, .int .i64 0, .int .i64 0, .int .i64 0, .int .i64 0, .int .i64 0, .int .i64 0, .int .i64 0, .int .i64 0, .int .i64 0, .int .i64 0, .int .i64 0, .int .i64 0, .int .i64 0, .int .i64 0] 32)) none := World.grownBy_alloc _ _ _
theorem Refs_two {w : World} {g : Nat} (h : Rt w g [(2, 5), (2, 5)]) : Calls Try.prog 17 #[.pointer (some ⟨g, 0, none⟩)] w fun e w' => ∃ A c, e = .returned (.slice A 1 c) ∧ Rd w' w'.heap.size A 1 c [5] ∧ w.grownBy w' none := by
  have h2 := Refs_any h
  have e : rf [(2, 5), (2, 5)] = [5] := by decide
  rw [e] at h2
  refine h2.mono ?_
  rintro e w' ⟨A, c, rfl, ho, hg⟩
  exact ⟨A, c, rfl, rd_own ho, hg⟩
theorem alive_any (w : World) : Calls Try.prog 6 #[] w fun e w' => e = .returned (.bool true) ∧ w.grownBy w' none := by
  have R0 := Lib.hid (Rt.made w)
  have G0 := Lib.hid (World.grownBy_alloc w (.cells (rc []).toArray 32) none)
  have P1 := Lib.hid (fun W (hW : Rt W w.heap.size []) => Push_yes hW (by simp) 2 5 (by decide))
  have P2 := Lib.hid (fun W (hW : Rt W w.heap.size [(2, 5)]) => Push_yes (m := [(2, 5)]) hW (by simp) 2 5 (by decide))
  go_enter Try.func6, Try.ntmps6
  go_wp2
  have R1 := Lib.hid (R0.out.new (World.grownBy_alloc _ (.cells #[.int .i64 2, .int .i64 5] 29) none))
  have G1 := Lib.hid (G0.out.trans (World.grownBy_alloc _ (.cells #[.int .i64 2, .int .i64 5] 29) none))
  have f := (show ((w.alloc (.cells (rc []).toArray 32)).alloc (.cells #[.int .i64 2, .int .i64 5] 29)).cell? ⟨w.heap.size + 1, 0, none⟩ = some (.int .i64 2) ∧ ((w.alloc (.cells (rc []).toArray 32)).alloc (.cells #[.int .i64 2, .int .i64 5] 29)).cell? ⟨w.heap.size + 1, 1, none⟩ = some (.int .i64 5) from by constructor <;> simp [go_sem])
  change Code.wp _ _ _ _ ((w.alloc (.cells (rc []).toArray 32)).alloc (.cells #[.int .i64 2, .int .i64 5] 29))
  generalize ((w.alloc (.cells (rc []).toArray 32)).alloc (.cells #[.int .i64 2, .int .i64 5] 29)) = W at R1 G1 f ⊢
  clear R0 G0
  go_region_held3 (fun W => W.cell? ⟨w.heap.size + 1, 0, none⟩ = some (.int .i64 2) ∧ W.cell? ⟨w.heap.size + 1, 1, none⟩ = some (.int .i64 5)) (first | exact f | exact ff | exact ff3 | go_keep) (first
    | (have mark := R2; go_at_call 15; (with_reducible refine (P2.out _ (R2.out)).mono ?_); rintro e w3 ⟨rfl, hr, hg⟩; have R3 := Lib.hid (show Rt w3 w.heap.size [(2, 5), (2, 5)] from hr); have G3 := Lib.hid (grown_new (G2.out.trans (World.grownBy.refl _ _)) hg (Nat.le_refl _)); have ff3 := (show w3.cell? ⟨w.heap.size + 1, 0, none⟩ = some (.int .i64 2) ∧ w3.cell? ⟨w.heap.size + 1, 1, none⟩ = some (.int .i64 5) from ⟨hg.cell ff.1 (by simp), hg.cell ff.2 (by simp)⟩); clear hr hg)
    | (have mark := R2; go_at_call 15; (with_reducible refine (P2.out _ (R2.out.new (li.grown_drewN _ _ _))).mono ?_); rintro e w3 ⟨rfl, hr, hg⟩; have R3 := Lib.hid (show Rt w3 w.heap.size [(2, 5), (2, 5)] from hr); have G3 := Lib.hid (grown_new (G2.out.trans (li.grown_drewN _ _ _)) hg (Nat.le_refl _)); have ff3 := (show w3.cell? ⟨w.heap.size + 1, 0, none⟩ = some (.int .i64 2) ∧ w3.cell? ⟨w.heap.size + 1, 1, none⟩ = some (.int .i64 5) from ⟨hg.cell ff.1 (by simp), hg.cell ff.2 (by simp)⟩); clear hr hg)
    | (have mark := R2; go_at_call 15; (with_reducible refine (P2.out _ (R2.out.new (grown_drew _ _))).mono ?_); rintro e w3 ⟨rfl, hr, hg⟩; have R3 := Lib.hid (show Rt w3 w.heap.size [(2, 5), (2, 5)] from hr); have G3 := Lib.hid (grown_new (G2.out.trans (grown_drew _ _)) hg (Nat.le_refl _)); have ff3 := (show w3.cell? ⟨w.heap.size + 1, 0, none⟩ = some (.int .i64 2) ∧ w3.cell? ⟨w.heap.size + 1, 1, none⟩ = some (.int .i64 5) from ⟨hg.cell ff.1 (by simp), hg.cell ff.2 (by simp)⟩); clear hr hg)
    | (go_at_call 15; (with_reducible refine (P1.out _ (R1.out.new (li.grown_drewN _ _ _))).mono ?_); rintro e w2 ⟨rfl, hr, hg⟩; have R2 := Lib.hid (show Rt w2 w.heap.size [(2, 5)] from hr); have G2 := Lib.hid (grown_new (G1.out.trans (li.grown_drewN _ _ _)) hg (Nat.le_refl _)); have ff := (show w2.cell? ⟨w.heap.size + 1, 0, none⟩ = some (.int .i64 2) ∧ w2.cell? ⟨w.heap.size + 1, 1, none⟩ = some (.int .i64 5) from ⟨hg.cell f.1 (by simp), hg.cell f.2 (by simp)⟩); clear hr hg)
    | (go_at_call 15; (with_reducible refine (P1.out _ (R1.out.new (grown_drew _ _))).mono ?_); rintro e w2 ⟨rfl, hr, hg⟩; have R2 := Lib.hid (show Rt w2 w.heap.size [(2, 5)] from hr); have G2 := Lib.hid (grown_new (G1.out.trans (grown_drew _ _)) hg (Nat.le_refl _)); have ff := (show w2.cell? ⟨w.heap.size + 1, 0, none⟩ = some (.int .i64 2) ∧ w2.cell? ⟨w.heap.size + 1, 1, none⟩ = some (.int .i64 5) from ⟨hg.cell f.1 (by simp), hg.cell f.2 (by simp)⟩); clear hr hg)
    | (go_at_call 15; (with_reducible refine (P1.out _ (R1.out)).mono ?_); rintro e w2 ⟨rfl, hr, hg⟩; have R2 := Lib.hid (show Rt w2 w.heap.size [(2, 5)] from hr); have G2 := Lib.hid (grown_new (G1.out.trans (World.grownBy.refl _ _)) hg (Nat.le_refl _)); have ff := (show w2.cell? ⟨w.heap.size + 1, 0, none⟩ = some (.int .i64 2) ∧ w2.cell? ⟨w.heap.size + 1, 1, none⟩ = some (.int .i64 5) from ⟨hg.cell f.1 (by simp), hg.cell f.2 (by simp)⟩); clear hr hg))
  clear f ff
  go_wp2_with (first
    | (go_at_call 16; (with_reducible refine (Len_any R3.out).mono ?_); rintro e w' ⟨rfl, q, rfl⟩; have R4 := Lib.hid (R3.out.drewN q); have G4 := Lib.hid (G3.out.trans (li.grown_drewN _ q none)))
    | (go_at_call 17; (with_reducible refine (Refs_two R4.out).mono ?_); rintro e w6 ⟨A6, c6, rfl, ho6, hg6⟩; have O6 := Lib.hid ho6; have G6 := Lib.hid (G4.out.trans hg6); clear ho6 hg6)
    | (go_at_call 18; (with_reducible refine (Ints_true [5] _ _ _ _ _ _ _ _ _ (by omega) rfl (O6.out.below (li.grown_below (World.grownBy_alloc _ _ _))) (Rd.one _ _ _)).mono ?_); rintro e w8 ⟨rfl, q8, rfl⟩; have G8 := Lib.hid ((G6.out.trans (World.grownBy_alloc _ (.cells #[.int .i64 5] 3) _)).trans (li.grown_drewN _ q8 none))))
  go_ret
  exact ⟨rfl, G8.out⟩
section
variable {w w' : World} {g : Nat} {m : List Va}
/-- What a run answers. -/
theorem run_any {A D : Option Addr} {N c n c2 B : Nat} {f : Nat → Nat → Int} (h : Rt w g m) (hl : Lv w 0 (.slice A N c) m) (hN : N = m.length) (ho : Rws w B D n 4 f) (hB : B ≤ g) (hn : n ≤ 50) :
    Calls Try.prog 7 #[.pointer (some ⟨g, 0, none⟩), .slice A N c, .slice D n c2] w (StA g w) := by
  have H := Lib.hid h
  have HL := Lib.hid hl
  have HN := Lib.hid hN
  have HO := Lib.hid ho
  have HB := Lib.hid hB
  clear h hl hN ho hB
  go_enter Try.func7, Try.ntmps7
  go_wp2
  go_loopw [1, 8, 9] (fun v o i wr => ∃ (k : Nat) (A' : Option Addr) (N' c' : Nat) (m' : List Va), k ≤ n ∧ i = .int .i64 k ∧ o = .bool true ∧ v = .slice A' N' c' ∧ N' = m'.length ∧ Rt wr g m' ∧ Lv wr 0 (.slice A' N' c') m' ∧ w.grownBy wr (some g)) (fun _ _ i _ => n - (intOf i).toNat)
  case atStart => exact ⟨0, A, N, c, m, Nat.zero_le _, rfl, rfl, rfl, HN.out, H.out, HL.out, World.grownBy.refl _ _⟩
  case round =>
    obtain ⟨k, A1, N1, c1, m1, hk, rfl, rfl, rfl, hn1, hr, hl, hg⟩ := hrel
    have N1' := Lib.hid hn1
    have R1 := Lib.hid hr
    have L1 := Lib.hid hl
    have G1 := Lib.hid hg
    have O1 := Lib.hid (HO.out.kept hg (fun q e => by cases e; exact HB.out))
    clear hn1 hr hl hg HL H HO
    by_cases hlt : k < n
    · obtain ⟨b, off, rfl, hb, hc, hw⟩ := O1.out k hlt
      have d0 := hc 0 (by omega)
      rw [Nat.add_zero] at d0
      have d1 := hc 1 (by omega)
      have d2 := hc 2 (by omega)
      have d3 := hc 3 (by omega)
      generalize f k 0 = x0 at d0
      generalize f k 1 = x1 at d1
      generalize f k 2 = x2 at d2
      generalize f k 3 = x3 at d3
      clear hc hw O1
      have l1 : (0 : Int) ≤ (k : Int) := by omega
      have l2 : (k : Int) < n := by omega
      go_wp2_with (first
        | (go_at_call 19; (with_reducible refine (step_any R1.out L1.out N1'.out x0 x1 x2 x3).mono ?_); rintro e w2 ⟨A2, N2, c2, m2, rfl, hn2, hr2, hl2, hg2⟩; have N2' := Lib.hid hn2; have R2 := Lib.hid hr2; have L2 := Lib.hid hl2; have G2 := Lib.hid (G1.out.trans hg2); have l16 := Lib.hid (show N2 ≤ 16 by rw [hn2]; exact hr2.2); clear hn2 hr2 hl2 hg2)
        | (go_at_call 16; (with_reducible refine (Len_any R2.out).mono ?_); rintro e w' ⟨rfl, q, rfl⟩; rw [← N2'.out]; have R3 := Lib.hid (R2.out.drewN q); have L3 := Lib.hid (L2.out.new (li.grown_drewN _ q none)); have G3 := Lib.hid (grown_more G2.out (li.grown_drewN _ q none)))
        | (go_at_call 10; (with_reducible refine (All_any R3.out).mono ?_); rintro e w4 ⟨A4, c4, rfl, hl4, hg4⟩; have V4 := Lib.hid (hl4.rv rfl); have R4 := Lib.hid (R3.out.new hg4); have L4 := Lib.hid (L3.out.new hg4); have G4 := Lib.hid (grown_more G3.out hg4); clear hl4 hg4)
        | (go_at_call 14; (with_reducible refine (Values_true m2 _ _ _ _ _ _ _ _ _ (by have := l16.out; rw [← N2'.out]; omega) N2'.out.symm V4.out (L4.out.rv N2'.out)).mono ?_); rintro e w5 ⟨rfl, q5, rfl⟩; have R5 := Lib.hid (R4.out.drewN q5); have L5 := Lib.hid (L4.out.new (li.grown_drewN _ q5 none)); have G5 := Lib.hid (grown_more G4.out (li.grown_drewN _ q5 none)))
        | (go_at_call 17; (with_reducible refine (Refs_any R5.out).mono ?_); rintro e w6 ⟨A6, c6, rfl, ho6, hg6⟩; have O6 := Lib.hid ho6; have R6 := Lib.hid (R5.out.new hg6); have L6 := Lib.hid (L5.out.new hg6); have G6 := Lib.hid (grown_more G5.out hg6); clear ho6 hg6)
        | (go_at_call 20; (with_reducible refine (refs_any (m := m2) (by have := l16.out; omega) (L6.out.rv N2'.out)).mono ?_); rintro e w7 ⟨A7, c7, rfl, ho7, hg7⟩; have O7 := Lib.hid ho7; have O6' := Lib.hid (O6.out.kept hg7 (by cases A6 <;> simp [Value.ownBlock])); have R7 := Lib.hid (R6.out.new hg7); have L7 := Lib.hid (L6.out.new hg7); have G7 := Lib.hid (grown_more G6.out hg7); clear ho7 hg7)
        | (go_at_call 18; (with_reducible refine (Ints_true (rf m2) _ _ _ _ _ _ _ _ _ (by have := rf_length m2; have := l16.out; have := N2'.out; omega) rfl (rd_own O6'.out) (rd_own O7.out)).mono ?_); rintro e w8 ⟨rfl, q8, rfl⟩; have R8 := Lib.hid (R7.out.drewN q8); have L8 := Lib.hid (L7.out.new (li.grown_drewN _ q8 none)); have G8 := Lib.hid (grown_more G7.out (li.grown_drewN _ q8 none))))
      go_roundw
      case rel => exact ⟨k + 1, A2, N2, c2, m2, by omega, by go_num, rfl, rfl, N2'.out, R8.out, L8.out, G8.out⟩
      case measure => simp [intOf]; omega
    · go_wp2
      go_ret2
      exact ⟨A1, N1, c1, m1, rfl, N1'.out, R1.out, L1.out, G1.out⟩
end
end Go.Proofs.Ytpghghmmoihimaa.ro
