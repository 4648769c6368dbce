/- The statement's own alive and run. -/
import Derived.Test.YtahiagaocnmjpaaEpG
import Derived.Test.YtahiagaocnmjpaaGenC
import Derived.Deep.RegionWith
namespace Go.Proofs.Ytahiagaocnmjpaa.ep
open Go.ChangeShapes Go.WideShapes Go.ChangeAt Go.RowKit gen li
set_option linter.unusedVariables false
set_option maxHeartbeats 8000000
set_option maxRecDepth 100000
theorem Behind_one {w : World} {g : Nat} (h : Rg w g true 1 [1, 0]) : Calls Try.prog 21 #[.pointer (some ⟨g, 0, none⟩)] w fun r w' => ∃ A c, r = .returned (.slice A 1 c) ∧ Rd w' w'.heap.size A 1 c [1] ∧ w.grownBy w' none := by
  refine (show Calls Try.prog 21 #[.pointer (some ⟨g, 0, none⟩)] w (ListAns [1] w) from Behind_any h).mono ?_
  rintro r w' ⟨A, c, rfl, ho, hg⟩
  exact ⟨A, c, rfl, rd_own ho, hg⟩
theorem alive_any (w : World) : Calls Try.prog 6 #[] w fun r w' => r = .returned (.bool true) ∧ w.grownBy w' none := by
  have N0 := Lib.hid (New_any 2 2 (by decide) (by omega) w)
  have A0 := Lib.hid (fun W g (h : Rg W g true 0 [-1, -1]) => show Calls Try.prog 11 #[.pointer (some ⟨g, 0, none⟩), .int .i64 0] W fun r w' => r = .returned (.bool true) ∧ Rg w' g true 0 [0, -1] ∧ W.grownBy w' (some g) from Attach_yes h 0 (by decide) (by decide))
  have A1 := Lib.hid (fun W g (h : Rg W g true 0 [0, -1]) => show Calls Try.prog 11 #[.pointer (some ⟨g, 0, none⟩), .int .i64 1] W fun r w' => r = .returned (.bool true) ∧ Rg w' g true 0 [0, 0] ∧ W.grownBy w' (some g) from Attach_yes h 1 (by decide) (by decide))
  have RA := Lib.hid (fun W g (h : Rg W g true 0 [0, 0]) => show Calls Try.prog 13 #[.pointer (some ⟨g, 0, none⟩)] W fun r w' => r = .returned (.int .i64 1) ∧ Rg w' g true 1 [0, 0] ∧ W.grownBy w' (some g) from Raise_yes h (by omega))
  have C1 := Lib.hid (fun W g (h : Rg W g true 1 [0, 0]) => show Calls Try.prog 14 #[.pointer (some ⟨g, 0, none⟩), .int .i64 0] W fun r w' => r = .returned (.bool true) ∧ Rg w' g true 1 [1, 0] ∧ W.grownBy w' (some g) from Confirm_yes h 0 (by decide) (by decide))
  have C2 := Lib.hid (fun W g (h : Rg W g true 1 [1, 0]) => show Calls Try.prog 14 #[.pointer (some ⟨g, 0, none⟩), .int .i64 0] W fun r w' => r = .returned (.bool false) ∧ Drew W w' from Confirm_no h 0 (.inr (by decide)))
  have BE := Lib.hid (fun W g (h : Rg W g true 1 [1, 0]) => Behind_one h)
  have AG := Lib.hid (fun W g (h : Rg W g true 1 [1, 0]) => show Calls Try.prog 19 #[.pointer (some ⟨g, 0, none⟩)] W fun r w' => r = .returned (.bool false) ∧ W.grownBy w' none from Agreed_any h)
  have LE := Lib.hid (fun W g (h : Rg W g true 1 [1, 0]) => show Calls Try.prog 18 #[.pointer (some ⟨g, 0, none⟩)] W fun r w' => r = .returned (.int .i64 0) ∧ W.grownBy w' none from Least_any h)
  go_enter Try.func6, Try.ntmps6
  go_wp2_with (first
    | (have mark := G8; go_at_call 18; (with_reducible refine (LE.out _ _ (R7.out.new G8.out)).mono ?_); rintro r w9 ⟨rfl, hg⟩; have G9 := Lib.hid (G7.out.trans (G8.out.trans hg)); clear hg)
    | (have mark := R7; go_at_call 19; (with_reducible refine (AG.out _ _ R7.out).mono ?_); rintro r w8 ⟨rfl, hg⟩; have G8 := Lib.hid hg; clear hg)
    | (have mark := O6; go_at_call 25; (with_reducible refine (Ints_true [1] _ _ _ _ _ _ _ _ _ (by omega) rfl (O6.out.below (li.grown_below (World.grownBy_alloc _ _ _))) (Rd.one _ _ _)).mono ?_); rintro r w7 ⟨rfl, q7, rfl⟩; have R7 := Lib.hid ((R6.out.new (World.grownBy_alloc w6 (.cells #[.int .i64 1] 3) none)).drewN q7); have G7 := Lib.hid ((G6.out.trans (World.grownBy_alloc w6 (.cells #[.int .i64 1] 3) none)).trans (li.grown_drewN _ q7 none)))
    | (have mark := R5; go_at_call 21; (with_reducible refine (BE.out _ _ R5.out).mono ?_); rintro r w6 ⟨A6, c6, rfl, ho6, hg⟩; have O6 := Lib.hid ho6; have R6 := Lib.hid (R5.out.new hg); have G6 := Lib.hid (G5.out.trans hg); clear ho6 hg)
    | (have mark := R4; go_at_call 14; (with_reducible refine (C2.out _ _ R4.out).mono ?_); rintro r w' ⟨rfl, q5, rfl⟩; have R5 := Lib.hid (R4.out.drewN q5); have G5 := Lib.hid (G4.out.trans (li.grown_drewN _ q5 none)))
    | (have mark := R3; go_at_call 14; (with_reducible refine (C1.out _ _ R3.out).mono ?_); rintro r w4 ⟨rfl, hr, hg⟩; have R4 := Lib.hid hr; have G4 := Lib.hid (grown_new G3.out hg HG.out); clear hr hg)
    | (have mark := R2; go_at_call 13; (with_reducible refine (RA.out _ _ R2.out).mono ?_); rintro r w3 ⟨rfl, hr, hg⟩; have R3 := Lib.hid hr; have G3 := Lib.hid (grown_new G2.out hg HG.out); clear hr hg)
    | (have mark := R1; go_at_call 11; (with_reducible refine (A1.out _ _ R1.out).mono ?_); rintro r w2 ⟨rfl, hr, hg⟩; have R2 := Lib.hid hr; have G2 := Lib.hid (grown_new G1.out hg HG.out); clear hr hg)
    | (have mark := R0; go_at_call 11; (with_reducible refine (A0.out _ _ R0.out).mono ?_); rintro r w1 ⟨rfl, hr, hg⟩; have R1 := Lib.hid hr; have G1 := Lib.hid (grown_new G0.out hg HG.out); clear hr hg)
    | (go_at_call 8; (with_reducible refine N0.out.mono ?_); rintro r w0 ⟨g, rfl, hr, hge, hg⟩; have R0 := Lib.hid (show Rg w0 g true 0 [-1, -1] from hr); have G0 := Lib.hid hg; have HG := Lib.hid hge; clear hr hge hg))
  go_ret
  exact ⟨rfl, G9.out⟩
/-- What stands while a run goes on. -/
structure Rn (w : World) (g e0 k : Nat) (A : Option Addr) (N c : Nat) (m : List Int) (e : Nat) (W : World) : Prop where
  n : N = m.length
  r : Rg W g true e m
  l : Li W (.slice A N c) m
  bk : Bx W w.heap.size (.slice A N c) e
  rs : Bx W (w.heap.size + 1) (.slice none 0 0) 0
  grown : w.grownBy W (some g)
  le : e ≤ e0 + k
  lt : g < w.heap.size
section
variable {w W W2 : World} {g e0 k : Nat} {A : Option Addr} {N c : Nat} {m : List Int} {e : Nat}
theorem Rn.new (h : Rn w g e0 k A N c m e W) (hg : W.grownBy W2 none) : Rn w g e0 k A N c m e W2 :=
  ⟨h.n, h.r.new hg, h.l.new hg, h.bk.new hg, h.rs.new hg, grown_more h.grown hg, h.le, h.lt⟩
theorem Rn.start (h : Rg w g true e m) (hl : Li w (.slice A N c) m) (hN : N = m.length) : Rn w g e 0 A N c m e ((w.alloc (.cells #[.slice A N c, .int .i64 (e : Int)] 26)).alloc (.cells #[.slice none 0 0, .int .i64 0] 26)) := by
  have G := (World.grownBy_alloc w (.cells #[.slice A N c, .int .i64 (e : Int)] 26) none).trans (World.grownBy_alloc _ (.cells #[.slice none 0 0, .int .i64 0] 26) none)
  exact ⟨hN, h.new G, hl.new G, (Bx.made w _ _).new (World.grownBy_alloc _ _ none), Bx.made1 w _ _ _, grown_then G (World.grownBy.refl _ _), by omega, h.lt⟩
theorem Rn.off (h : Rn w g e0 k A N c m e W) (hg : W.grownBy W2 (some g)) : Bx W2 w.heap.size (.slice A N c) e ∧ Bx W2 (w.heap.size + 1) (.slice none 0 0) 0 := by
  have lt := h.lt
  exact ⟨h.bk.kept hg (by simp; omega), h.rs.kept hg (by simp; omega)⟩
theorem Rn.put (h : Rn w g e0 k A N c m e W) (hg : W.grownBy W2 (some g)) {A2 : Option Addr} {N2 c2 : Nat} {m2 : List Int} {e2 : Nat} (hn : N2 = m2.length) (hr : Rg W2 g true e2 m2) (hl : Li W2 (.slice A2 N2 c2) m2) (he : e2 ≤ e + 1) :
    Rn w g e0 (k + 1) A2 N2 c2 m2 e2 ((W2.setCell ⟨w.heap.size, 0, none⟩ (.slice A2 N2 c2)).setCell ⟨w.heap.size, 1, none⟩ (.int .i64 (e2 : Int))) := by
  obtain ⟨b, s⟩ := h.off hg
  have lt := h.lt
  have le := h.le
  have G := ((grown_set W2 w.heap.size 0 (.slice A2 N2 c2)).trans (grown_set _ w.heap.size 1 (.int .i64 (e2 : Int))))
  refine ⟨hn, hr.kept G (by simp; omega), hl.kept G (.inr (hl.off b (fun cs z => by simp))), ?_, s.kept G (by simp), grown_aside (h.grown.trans hg) G (Nat.le_refl _), by omega, h.lt⟩
  have g1 := heap_setCell_same W2 w.heap.size 0 _ _ (.slice A2 N2 c2) b
  have g2 := heap_setCell_same _ w.heap.size 1 _ _ (.int .i64 (e2 : Int)) g1
  exact g2
/-- What a run leaves. -/
def RunA (g e n : Nat) (w : World) (r : Ending) (w' : World) : Prop := ∃ (A : Option Addr) (N c : Nat) (m : List Int) (e' : Nat), r = .returned (.tuple #[.agg #[.slice A N c, .int .i64 (e' : Int)], .bool true]) ∧ N = m.length ∧ e' ≤ e + n ∧ Rg w' g true e' m ∧ Li w' (.slice A N c) m ∧ w.grownBy w' (some g)
theorem Rn.fin (h : Rn w g e0 k A N c m e W) (hg : W.grownBy W2 (some (w.heap.size + 1))) : RunA g e0 k w (.returned (.tuple #[.agg #[.slice A N c, .int .i64 (e : Int)], .bool true])) W2 := by
  have lt := h.lt
  exact ⟨A, N, c, m, e, rfl, h.n, h.le, h.r.kept hg (by simp; omega), h.l.kept hg (.inr (h.l.off h.rs (fun cs z => by simp))), grown_aside h.grown hg (by omega)⟩
theorem run_any {D : Option Addr} {n c2 B : Nat} {f : Nat → Nat → Int} (h : Rg w g true e m) (hl : Li w (.slice A N c) m) (hN : N = m.length) (he : e ≤ 500000) (ho : Rws w B D n 2 f) (hB : B ≤ g) (hn : n ≤ 50) :
    Calls Try.prog 7 #[.pointer (some ⟨g, 0, none⟩), .agg #[.slice A N c, .int .i64 (e : Int)], .slice D n c2] w (RunA g e n w) := by
  obtain ⟨W0, hW0⟩ : ∃ W0, W0 = (w.alloc (.cells #[.slice A N c, .int .i64 (e : Int)] 26)).alloc (.cells #[.slice none 0 0, .int .i64 0] 26) := ⟨_, rfl⟩
  have K0 := Lib.hid (show Rn w g e 0 A N c m e W0 by rw [hW0]; exact Rn.start h hl hN)
  have TD := Lib.hid (told_any K0.out.r (K0.out.l.rd K0.out.n))
  obtain ⟨b0, b1, b2, b3⟩ := K0.out.bk.cells
  have HO := Lib.hid ho
  have HB := Lib.hid hB
  have HE := Lib.hid he
  clear h hl hN ho hB he
  go_enter Try.func7, Try.ntmps7
  go_upto_region 1 with fail
  rw [← hW0]
  clear hW0
  go_wp2_with (go_at_call 23; (with_reducible refine TD.out.mono ?_); rintro r w1 ⟨rfl, hg⟩; have K1 := Lib.hid (K0.out.new hg); clear hg)
  go_loopw [8, 9] (fun o i wr => ∃ (k : Nat) (A' : Option Addr) (N' c' : Nat) (m' : List Int) (e' : Nat), k ≤ n ∧ i = .int .i64 k ∧ o = .bool true ∧ Rn w g e k A' N' c' m' e' wr) (fun _ i _ => n - (intOf i).toNat)
  case atStart => exact ⟨0, A, N, c, m, e, Nat.zero_le _, rfl, rfl, K1.out⟩
  case round =>
    obtain ⟨k, A1, N1, c1, m1, e1, hk, rfl, rfl, hr⟩ := hrel
    have K2 := Lib.hid hr
    have O1 := Lib.hid (HO.out.kept hr.grown (fun q e => by cases e; exact HB.out))
    obtain ⟨b0, b1, b2, b3⟩ := hr.bk.cells
    obtain ⟨d0, d1, d2, d3⟩ := hr.rs.cells
    clear hr TD K0 K1 HO
    by_cases hlt : k < n
    · obtain ⟨b, off, rfl, hb, hc, hw⟩ := O1.out k hlt
      have p0 := hc 0 (by omega)
      rw [Nat.add_zero] at p0
      have p1 := hc 1 (by omega)
      generalize f k 0 = x0 at p0
      generalize f k 1 = x1 at p1
      have l1 : (0 : Int) ≤ (k : Int) := by omega
      have l2 : (k : Int) < n := by omega
      have ST := Lib.hid (fun W (hg : wr.grownBy W none) => step_any (K2.out.r.new hg) (K2.out.l.new hg) K2.out.n (by have := K2.out.le; have := HE.out; omega) x0 x1)
      clear hc hw O1
      go_wp2
      go_region_with (first
        | (go_at_call 26; (with_reducible refine (ST.out _ (by first | exact World.grownBy.refl _ _ | exact grown_drew _ _ | exact li.grown_drewN _ _ _)).mono ?_); rintro r w2 ⟨A2, N2, c2, m2, e2, rfl, hn2, he2, hr2, hl2, hg2⟩; have G2 := Lib.hid (grown_then (show wr.grownBy _ none from by first | exact World.grownBy.refl _ _ | exact grown_drew _ _ | exact li.grown_drewN _ _ _) hg2); have K3 := Lib.hid (K2.out.put G2.out hn2 hr2 hl2 he2); obtain ⟨b0, b1, b2, b3⟩ := (K2.out.off G2.out).1.cells; have lt2 := (K2.out.off G2.out).1.lt; clear hn2 he2 hr2 hl2 hg2))
      all_goals
        have TD := Lib.hid (fun W (hg : ((w2.setCell ⟨w.heap.size, 0, none⟩ (.slice A2 N2 c2)).setCell ⟨w.heap.size, 1, none⟩ (.int .i64 (e2 : Int))).grownBy W none) => told_any (K3.out.new hg).r ((K3.out.new hg).l.rd K3.out.n))
        go_wp2_with (go_at_call 23; (with_reducible refine (TD.out _ (by first | exact World.grownBy.refl _ _ | exact grown_drew _ _ | exact li.grown_drewN _ _ _)).mono ?_); rintro r w3 ⟨rfl, hg⟩; have K4 := Lib.hid (K3.out.new ((show World.grownBy _ _ none from by first | exact World.grownBy.refl _ _ | exact grown_drew _ _ | exact li.grown_drewN _ _ _).trans hg)); clear hg)
        go_roundw
        case rel => exact ⟨k + 1, A2, N2, c2, m2, e2, by omega, by go_num, rfl, K4.out⟩
        case measure => simp [intOf]; omega
    · obtain rfl : k = n := by omega
      go_wp2
      refine bodyPost_ret (v := .tuple #[.agg #[.slice A1 N1 c1, .int .i64 (e1 : Int)], .bool true]) ?_ rfl ?_
      · simp [results, Try.results7, go_sem, *]
      · exact K2.out.fin ((grown_set _ _ _ _).trans (grown_set _ _ _ _))
end
end Go.Proofs.Ytahiagaocnmjpaa.ep
