/- The statement's own told: all that is told is as in the book. -/
import Derived.Test.YtahiagaocnmjpaaEpD
import Derived.Deep.RegionHeld3
namespace Go.Proofs.Ytahiagaocnmjpaa.ep
open Go.ChangeShapes Go.WideShapes Go.ChangeAt Go.RowKit gen li
set_option linter.unusedVariables false
set_option maxHeartbeats 8000000
set_option maxRecDepth 100000
theorem grown_drew (w : World) (row : Option Nat) : w.grownBy w.drew row := ⟨rfl, rfl, rfl, Nat.le_refl _, fun _ _ _ => rfl⟩
theorem new_cell (w : World) (x : Int) (t : TypeId) : (w.alloc (.cells #[.int .i64 x] t)).cell? ⟨w.heap.size, 0, none⟩ = some (.int .i64 x) := by go_simp
theorem new_cellN (w : World) (n : Nat) (x : Int) (t : TypeId) : ((w.drewN n).alloc (.cells #[.int .i64 x] t)).cell? ⟨w.heap.size, 0, none⟩ = some (.int .i64 x) := new_cell (w.drewN n) x t
theorem ls_step (e : Nat) (m : List Int) (k : Nat) {x : Int} (hx : m.getD k (-1) = x) (hv : lv x = true) : ls e m (k + 1) = if x < ls e m k then x else ls e m k := by
  rw [ls, hx, if_pos hv, min_if]
theorem ls_skip (e : Nat) (m : List Int) (k : Nat) {x : Int} (hx : m.getD k (-1) = x) (hv : lv x = false) : ls e m (k + 1) = ls e m k := by
  rw [ls, hx, hv]; rfl
theorem own_new {w w' : World} {base n : Nat} {t : TypeId} {v : Value} {l : List Value} (h : w.ownsRow base t 1 v n l) (hg : w.grownBy w' none) : w'.ownsRow base t 1 v n l := h.kept hg (by cases v.ownBlock <;> simp)
theorem rd_own' {w : World} {base N c : Nat} {A : Option Addr} {xs : List Int} (hN : N = xs.length) (h : w.ownsRow base 3 1 (.slice A N c) xs.length (ints xs)) : Rd w w.heap.size A N c xs := by
  subst hN
  exact rd_own h
abbrev pb (e : Nat) : Int → Bool := fun x => decide (x < (e : Int))
abbrev pa : Int → Bool := fun _ => true
section
variable {w : World} {g : Nat} {e : Nat} {m : List Int}
theorem told_any {A : Option Addr} {n c : Nat} (h : Rg w g true e m) (hl : Rd w w.heap.size A n c m) :
    Calls Try.prog 23 #[.pointer (some ⟨g, 0, none⟩), .agg #[.slice A n c, .int .i64 e]] w fun r w' => r = .returned (.bool true) ∧ w.grownBy w' none := by
  have hn := hl.1
  have h8 : n ≤ 8 := by rw [← hn]; exact h.2.1
  obtain ⟨W0, hW0⟩ : ∃ W0, W0 = w.alloc (.cells #[.slice A n c, .int .i64 e] 26) := ⟨_, rfl⟩
  have G0 := Lib.hid (show w.grownBy W0 none by rw [hW0]; exact World.grownBy_alloc _ _ _)
  have B0 := Lib.hid (show Bx W0 w.heap.size (.slice A n c) e by rw [hW0]; exact Bx.made _ _ _)
  have CB := Lib.hid (fun W (hg : W0.grownBy W none) => (B0.out.new hg).cells)
  have HR := Lib.hid (fun W (hg : W0.grownBy W none) => hl.below (li.grown_below (G0.out.trans hg)))
  have H := Lib.hid (fun W (hg : W0.grownBy W none) => h.new (G0.out.trans hg))
  have HN := Lib.hid hn
  have D0 := Lib.hid (Dl.start W0)
  clear h hl hn
  go_enter Try.func23, Try.ntmps23
  go_wp2
  rw [← hW0]
  go_loopw [5, 6, 7, 8] (fun v1 v2 l i wr => ∃ (k N1 N2 : Nat) (A1 A2 : Option Addr) (c1 c2 : Nat), k ≤ n ∧ i = .int .i64 k ∧ v1 = .slice A1 N1 c1 ∧ N1 = (chs pa m k).length ∧ v2 = .slice A2 N2 c2 ∧ N2 = (chs (pb e) m k).length ∧ l = .int .i64 (ls e m k) ∧ Dl W0 (.slice A1 N1 c1) (.slice A2 N2 c2) (chs pa m k) (chs (pb e) m k) wr) (fun _ _ _ i _ => n - (intOf i).toNat)
  case atStart => exact ⟨0, 0, 0, none, none, 0, 0, Nat.zero_le _, rfl, rfl, rfl, rfl, rfl, rfl, D0.out⟩
  case round =>
    obtain ⟨k, N1, N2, A1, A2, c1, c2, hk, rfl, rfl, hn1, rfl, hn2, rfl, hd⟩ := hrel
    have HN1 := Lib.hid hn1
    have HN2 := Lib.hid hn2
    have D := Lib.hid hd
    obtain ⟨b0, b1, _, _⟩ := CB.out _ hd.grown
    have lt0 : w.heap.size < wr.heap.size := (B0.out.new hd.grown).lt
    clear hn1 hn2 hd
    by_cases hlt : k < n
    · obtain ⟨q1, o1, rfl, g0⟩ := (HR.out _ D.out.grown).at_ hlt
      clear g0
      have GC := Lib.hid (fun W (hg : W0.grownBy W none) => show W.cell? ⟨q1, o1 + k, none⟩ = some (.int .i64 (m.getD k (-1))) by
        obtain ⟨q2, o2, e2, g2⟩ := (HR.out _ hg).at_ hlt
        injection e2 with e2
        injection e2 with e3 e4
        subst e3 e4
        rw [g2]
        have : k < m.length := by rw [HN.out]; exact hlt
        simp [List.getD_eq_getElem?_getD, this])
      have g1 := GC.out _ D.out.grown
      have lt1 := World.block_lt_of_cell? _ _ g1
      have HL1 := Lib.hid (show N1 ≤ 8 by rw [HN1.out]; exact Nat.le_trans (chs_length _ _ _) (by omega))
      have HL2 := Lib.hid (show N2 ≤ 8 by rw [HN2.out]; exact Nat.le_trans (chs_length _ _ _) (by omega))
      have l1 : (0 : Int) ≤ (k : Int) := by omega
      have l2 : (k : Int) < n := by omega
      dsimp only at lt1
      generalize hx : m.getD k (-1) = x at g1 GC
      have HX := Lib.hid hx
      cases hv : lv x with
      | false =>
        have t1 : decide (x < 0) = true := by simp [lv] at hv; simpa using hv
        have F1 := Lib.hid (show chs pa m (k + 1) = chs pa m k from chs_no (by rw [hx, hv]; rfl))
        have F2 := Lib.hid (show chs (pb e) m (k + 1) = chs (pb e) m k from chs_no (by rw [hx, hv]; rfl))
        have F3 := Lib.hid (ls_skip e m k hx hv)
        clear hx hv
        go_wp2
        go_roundw
        case rel => exact ⟨k + 1, N1, N2, A1, A2, c1, c2, by omega, by go_num, rfl, by rw [F1.out]; exact HN1.out, rfl, by rw [F2.out]; exact HN2.out, by rw [F3.out], by rw [F1.out, F2.out]; exact D.out⟩
        case measure => simp [intOf]; omega
      | true =>
        have t1 : decide (x < 0) = false := by simp [lv] at hv; simpa using hv
        have F1 := Lib.hid (show chs pa m (k + 1) = chs pa m k ++ [(k : Int)] from chs_yes (by rw [hx, hv]) rfl)
        have f3 := ls_step e m k hx hv
        generalize ls e m k = y at f3
        have hz : (x < y ∧ ls e m (k + 1) = x) ∨ (y ≤ x ∧ ls e m (k + 1) = y) := by
          by_cases hxy : x < y
          · rw [if_pos hxy] at f3; exact .inl ⟨hxy, f3⟩
          · rw [if_neg hxy] at f3; exact .inr ⟨by omega, f3⟩
        clear f3
        rcases hz with ⟨tz, f4⟩ | ⟨tz, f4⟩
        all_goals
          have F3 := Lib.hid f4
          clear f4
          cases hb : decide (x < (e : Int)) with
          | false =>
            have F2 := Lib.hid (show chs (pb e) m (k + 1) = chs (pb e) m k from chs_no (by rw [hx]; show (lv x && decide (x < (e : Int))) = false; rw [hb, Bool.and_false]))
            have t2 := hb
            clear hx hv hb
            go_wp2_with (refine append_lies rfl (.tmp 24) (.tmp 26) rfl W0.heap.size (.slice A1 N1 c1) (chs pa m k) rfl (D.out.own1.alloc _) _ (k : Int) rfl (by go_simp) (by have := HL1.out; have := HN1.out; omega) (by have := D.out.grown.size; simp; omega) _ rfl ?_; intro g3 N3 c3 w2 hn3 own3 gr3 li3; have HN3 := Lib.hid hn3; have D3 := Lib.hid ((D.out.new (World.grownBy_alloc _ _ _)).one own3 gr3 li3); obtain ⟨b0, b1, _, _⟩ := CB.out _ D3.out.grown; have lt0 : w.heap.size < w2.heap.size := (B0.out.new D3.out.grown).lt; have g1 := GC.out _ D3.out.grown; have lt1 : q1 < w2.heap.size := World.block_lt_of_cell? _ _ g1; clear hn3 own3 gr3 li3)
            go_quiet (fail)
            go_wp2
            go_roundw
            case rel => exact ⟨k + 1, N3, N2, _, A2, c3, c2, by omega, by go_num, rfl, by rw [F1.out]; exact HN3.out, rfl, by rw [F2.out]; exact HN2.out, by rw [F3.out], by rw [F1.out, F2.out]; exact D3.out.new (li.grown_drewN _ _ _)⟩
            case measure => simp [intOf]; omega
          | true =>
            have F2 := Lib.hid (show chs (pb e) m (k + 1) = chs (pb e) m k ++ [(k : Int)] from chs_yes (by rw [hx, hv]) (by rw [hx]; exact hb))
            have t2 := hb
            clear hx hv hb
            go_wp2_with (refine append_lies rfl (.tmp 24) (.tmp 26) rfl W0.heap.size (.slice A1 N1 c1) (chs pa m k) rfl (D.out.own1.alloc _) _ (k : Int) rfl (by go_simp) (by have := HL1.out; have := HN1.out; omega) (by have := D.out.grown.size; simp; omega) _ rfl ?_; intro g3 N3 c3 w2 hn3 own3 gr3 li3; have HN3 := Lib.hid hn3; have D3 := Lib.hid ((D.out.new (World.grownBy_alloc _ _ _)).one own3 gr3 li3); obtain ⟨b0, b1, _, _⟩ := CB.out _ D3.out.grown; have lt0 : w.heap.size < w2.heap.size := (B0.out.new D3.out.grown).lt; have g1 := GC.out _ D3.out.grown; have lt1 : q1 < w2.heap.size := World.block_lt_of_cell? _ _ g1; clear hn3 own3 gr3 li3)
            go_quiet (fail)
            have D4 := Lib.hid (fun n => D3.out.new (li.grown_drewN w2 n none))
            go_wp2_with (refine append_lies rfl (.tmp 43) (.tmp 45) rfl W0.heap.size (.slice A2 N2 c2) (chs (pb e) m k) rfl ((D4.out _).own2.alloc _) _ (k : Int) rfl (new_cellN _ _ _ _) (by have := HL2.out; have := HN2.out; omega) (by have := D3.out.grown.size; simp; omega) _ rfl ?_; intro g5 N5 c5 w5 hn5 own5 gr5 li5; have HN5 := Lib.hid hn5; have D5 := Lib.hid (((D4.out _).new (World.grownBy_alloc _ _ _)).two own5 gr5 li5); clear hn5 own5 gr5 li5)
            go_roundw
            case rel => exact ⟨k + 1, N3, N5, _, _, c3, c5, by omega, by go_num, rfl, by rw [F1.out]; exact HN3.out, rfl, by rw [F2.out]; exact HN5.out, by rw [F3.out], by rw [F1.out, F2.out]; exact D5.out⟩
            case measure => simp [intOf]; omega
    · obtain rfl : k = n := by omega
      have R := Lib.hid (H.out _ D.out.grown)
      have EP := Lib.hid (fun W (hg : wr.grownBy W none) => Epoch_any (R.out.new hg))
      have AL := Lib.hid (fun W (hg : wr.grownBy W none) => All_any (R.out.new hg))
      have BE := Lib.hid (fun W (hg : wr.grownBy W none) => Behind_any (R.out.new hg))
      have AG := Lib.hid (fun W (hg : wr.grownBy W none) => Agreed_any (R.out.new hg))
      have LE := Lib.hid (fun W (hg : wr.grownBy W none) => Least_any (R.out.new hg))
      have AN := Lib.hid (al_length m)
      have BL := Lib.hid (bh_length e m)
      have k8 := Lib.hid (R.out.eight)
      have hk : m.length = k := HN.out
      subst hk
      have d := D.out
      rw [show chs pa m m.length = al m from rfl, show chs (pb e) m m.length = bh e m from rfl] at d
      have HN1 := Lib.hid (show N1 = (al m).length from HN1.out)
      have HN2 := Lib.hid (show N2 = (bh e m).length from HN2.out)
      have R1 := Lib.hid (fun W (hg : wr.grownBy W none) => rd_own' HN1.out (d.new hg).own1)
      have R2 := Lib.hid (fun W (hg : wr.grownBy W none) => rd_own' HN2.out (d.new hg).own2)
      have DG := Lib.hid (G0.out.trans d.grown)
      rw [← HN2.out] at AG
      generalize ls e m m.length = y at LE
      have f := b1
      clear d D hlt
      cases hq : ((N2 : Int) == 0)
      all_goals
        rw [hq] at AG
        go_wp2
        go_region_held3 (fun W => W.cell? ⟨w.heap.size, 1, none⟩ = some (.int .i64 (e : Int))) (first | exact f | exact f4 | exact f6 | exact f8 | exact f9 | go_keep) (first
          | (have mark := G8; go_at_call 18; (with_reducible refine (LE.out _ (by first | exact G8.out | exact (G8.out).trans (grown_drew _ _) | exact (G8.out).trans (li.grown_drewN _ _ _))).mono ?_); rintro r w9 ⟨rfl, hg9⟩; have G9 := Lib.hid ((show wr.grownBy _ none from (by first | exact G8.out | exact (G8.out).trans (grown_drew _ _) | exact (G8.out).trans (li.grown_drewN _ _ _))).trans hg9); have f9 := G9.out.cell b1 (by simp); clear hg9)
          | (have mark := V6; go_at_call 19; (with_reducible refine (AG.out _ (by first | exact G6.out | exact (G6.out).trans (grown_drew _ _) | exact (G6.out).trans (li.grown_drewN _ _ _))).mono ?_); rintro r w8 ⟨rfl, hg8⟩; have G8 := Lib.hid ((show wr.grownBy _ none from (by first | exact G6.out | exact (G6.out).trans (grown_drew _ _) | exact (G6.out).trans (li.grown_drewN _ _ _))).trans hg8); have f8 := G8.out.cell b1 (by simp); clear hg8)
          | (have mark := V6; go_at_call 25; (with_reducible refine (Ints_true (bh e m) _ _ _ _ _ _ _ _ _ (by have := BL.out; omega) HN2.out.symm (V6.out _ (by first | exact World.grownBy.refl _ _ | exact grown_drew _ _ | exact li.grown_drewN _ _ _)) (R2.out _ (by first | exact G6.out | exact (G6.out).trans (grown_drew _ _) | exact (G6.out).trans (li.grown_drewN _ _ _)))).mono ?_); rintro r w7 ⟨rfl, q7, rfl⟩)
          | (have mark := V4; go_at_call 21; (with_reducible refine (BE.out _ (by first | exact G4.out | exact (G4.out).trans (grown_drew _ _) | exact (G4.out).trans (li.grown_drewN _ _ _))).mono ?_); rintro r w6 ⟨A6, c6, rfl, ho6, hg6⟩; have G6 := Lib.hid ((show wr.grownBy _ none from (by first | exact G4.out | exact (G4.out).trans (grown_drew _ _) | exact (G4.out).trans (li.grown_drewN _ _ _))).trans hg6); have f6 := G6.out.cell b1 (by simp); have V6 := Lib.hid (fun W (hg : w6.grownBy W none) => rd_own (own_new ho6 hg)); clear ho6 hg6)
          | (have mark := V4; go_at_call 25; (with_reducible refine (Ints_true (al m) _ _ _ _ _ _ _ _ _ (by have := AN.out; omega) HN1.out.symm (V4.out _ (by first | exact World.grownBy.refl _ _ | exact grown_drew _ _ | exact li.grown_drewN _ _ _)) (R1.out _ (by first | exact G4.out | exact (G4.out).trans (grown_drew _ _) | exact (G4.out).trans (li.grown_drewN _ _ _)))).mono ?_); rintro r w5 ⟨rfl, q5, rfl⟩)
          | (go_at_call 15; (with_reducible refine (AL.out _ (by first | exact World.grownBy.refl _ _ | exact grown_drew _ _ | exact li.grown_drewN _ _ _)).mono ?_); rintro r w4 ⟨A4, c4, rfl, ho4, hg4⟩; have G4 := Lib.hid ((show wr.grownBy _ none from (by first | exact World.grownBy.refl _ _ | exact grown_drew _ _ | exact li.grown_drewN _ _ _)).trans hg4); have f4 := G4.out.cell b1 (by simp); have V4 := Lib.hid (fun W (hg : w4.grownBy W none) => rd_own (own_new ho4 hg)); clear ho4 hg4)
          | (go_at_call 17; (with_reducible refine (EP.out _ (by first | exact World.grownBy.refl _ _ | exact grown_drew _ _ | exact li.grown_drewN _ _ _)).mono ?_); rintro r w' ⟨rfl, rfl⟩))
        go_wp2
        go_ret
        exact ⟨rfl, DG.out.trans (G9.out.trans (by first | exact World.grownBy.refl _ _ | exact grown_drew _ _ | exact li.grown_drewN _ _ _))⟩
end
end Go.Proofs.Ytahiagaocnmjpaa.ep
