/- The store: Get, Set, Free. -/
import Derived.Test.YtfhmhlofjoahlaaGreatDoorStF
namespace Go.Proofs.YtfhmhlofjoahlaaGreatDoor.st
open Go.ChangeShapes Go.WideShapes Go.ChangeAt Go.RowKit Go.Maps gen calls cls geos ce
set_option linter.unusedVariables false
set_option maxHeartbeats 4000000
set_option maxRecDepth 100000
theorem below_new {w w' : World} (h : Below w.heap.size w w') : w.grownBy w' none := ⟨h.os, h.tape, h.output, h.size, fun i hi _ => h.block i hi⟩
section
variable {w w' : World} {I : Ids} {x : Hs}
theorem Get_no (H : Sr w I x) {a i : Int} (h : Nof x a i) :
    Calls Tryz.prog 7 #[.pointer (some ⟨I.S, 0, none⟩), .int .i64 a, .int .i64 i] w fun e w' => e = wd.ans 0 0 false ∧ w.grownBy w' none := by
  have FD := Lib.hid (fun W (hg : w.grownBy W none) => field_no (H.new hg) h)
  have G0 := Lib.hid (World.grownBy_alloc w (.cells #[.int .i64 0, .int .i64 0] 23) none)
  have T0 := Lib.hid (wd.Two.new w 23 0 0 rfl)
  clear H h
  go_enter Tryz.func7, Tryz.ntmps7
  go_wp2_with (go_at_call 26; (with_reducible refine (FD.out _ G0.out).mono ?_); rintro e w2 ⟨rfl, hg⟩; have G2 := Lib.hid (G0.out.trans hg); have T2 := wd.Two.below (li.grown_below hg) T0.out; obtain ⟨c0, c1, c2, c3⟩ := T2; clear hg)
  refine bodyPost_ret (v := .tuple #[.agg #[.int .i64 0, .int .i64 0], .bool false]) ?_ rfl ⟨rfl, below_new (((li.grown_below G2.out).setCell (Nat.le_refl _) _).setCell (Nat.le_refl _) _)⟩
  simp [results, Tryz.results7, go_sem, *]
theorem Get_yes (H : Sr w I x) {a s n i : Nat} (hb : Ob x a s n) (hi : i < n) (hz : (n : Int) + 1 ≤ bz x.ks a) {k m : Int} {b : Bool} (e1 : wd.rk (x.xs.getD (a + 1 + i) 0) = k) (e2 : wd.rn (x.xs.getD (a + 1 + i) 0) = m) (e3 : wd.rb (x.xs.getD (a + 1 + i) 0) = b) :
    Calls Tryz.prog 7 #[.pointer (some ⟨I.S, 0, none⟩), .int .i64 a, .int .i64 i] w fun e w' => e = wd.ans k m b ∧ w.grownBy w' none := by
  have FD := Lib.hid (fun W (hg : w.grownBy W none) => field_yes (H.new hg) hb hi)
  have G0 := Lib.hid (World.grownBy_alloc w (.cells #[.int .i64 0, .int .i64 0] 23) none)
  have T0 := Lib.hid (wd.Two.new w 23 0 0 rfl)
  obtain ⟨ws, H0, e⟩ := H.hp
  have hin := bz_in H.ok hb.tk
  have LD := Lib.hid (fun W (hg : w.grownBy W none) => Load_yes (H0.new hg) (a + 1 + i) (by omega))
  have bd := H.ok.bd (a + 1 + i)
  obtain ⟨v, hv⟩ : ∃ v, x.xs.getD (a + 1 + i) 0 = v := ⟨_, rfl⟩
  rw [hv] at LD e1 e2 e3 bd
  have RD := Lib.hid (fun W => wd.Read_any v (WalkArith.wf_i64 (by simpa using bd)) W)
  rw [e1, e2, e3] at RD
  have HH := Lib.hid H
  generalize a + 1 + i = j at *
  clear H H0 e hb hi hin bd hv e1 e2 e3 hz
  go_enter Tryz.func7, Tryz.ntmps7
  go_wp2_with (first
    | (go_at_call 26; (with_reducible refine (FD.out _ G0.out).mono ?_); rintro e w2 ⟨rfl, hg⟩; have G2 := Lib.hid (G0.out.trans hg); have T2 := Lib.hid (wd.Two.below (li.grown_below hg) T0.out); have f2 := (HH.out.new G2.out).s0; clear hg)
    | (go_at_call 27; (with_reducible refine (LD.out _ G2.out).mono ?_); rintro e w' ⟨rfl, rfl⟩)
    | (go_at_call 28; (with_reducible refine (RD.out _).mono ?_); rintro e w3 ⟨rfl, hb⟩; have G3 := Lib.hid (G2.out.trans (below_new hb)); have T3 := wd.Two.below hb T2.out; obtain ⟨c0, c1, c2, c3⟩ := T3; clear hb))
  refine bodyPost_ret (v := .tuple #[.agg #[.int .i64 k, .int .i64 m], .bool b]) ?_ rfl ⟨rfl, below_new (((li.grown_below G3.out).setCell (Nat.le_refl _) _).setCell (Nat.le_refl _) _)⟩
  simp [results, Tryz.results7, go_sem, *]
/-- Where an object has a field i. -/
def Isf (x : Hs) (a i : Int) : Prop := ∃ A s n j : Nat, a = A ∧ i = j ∧ Ob x A s n ∧ j < n
theorem field_any (H : Sr w I x) {a i : Int} (hf : Nof x a i ∨ Isf x a i) : ∃ (j : Int) (y : Bool), ∀ W, w.grownBy W none →
    Calls Tryz.prog 26 #[.pointer (some ⟨I.S, 0, none⟩), .int .i64 a, .int .i64 i] W fun e w' => e = rI j y ∧ W.grownBy w' none := by
  rcases hf with h | ⟨A, s, n, j, rfl, rfl, hb, hj⟩
  · exact ⟨0, false, fun W hg => field_no (H.new hg) h⟩
  · exact ⟨_, true, fun W hg => field_yes (H.new hg) hb hj⟩
theorem Set_bad (H : Sr w I x) {a i k m : Int} (hf : Nof x a i ∨ Isf x a i) (h : wd.vb k m = false) :
    Calls Tryz.prog 9 #[.pointer (some ⟨I.S, 0, none⟩), .int .i64 a, .int .i64 i, .agg #[.int .i64 k, .int .i64 m]] w fun e w' => e = bool1 false ∧ w.grownBy w' none := by
  obtain ⟨j, y, FD⟩ := field_any H hf
  have FD := Lib.hid FD
  have PT := Lib.hid (fun W => wd.Put_any k m W)
  rw [h] at PT
  have G0 := Lib.hid (World.grownBy_alloc w (.cells #[.int .i64 k, .int .i64 m] 23) none)
  have T0 := Lib.hid (wd.Two.new w 23 k m rfl)
  obtain ⟨c0, c1, c2, c3⟩ := T0.out
  generalize wd.wd k m = v at *
  clear H hf h
  go_enter Tryz.func9, Tryz.ntmps9
  go_wp2_with (first
    | (go_at_call 30; (with_reducible refine (PT.out _).mono ?_); rintro e w2 ⟨rfl, hb⟩; have G2 := Lib.hid (G0.out.trans (below_new hb)); clear hb)
    | (go_at_call 26; (with_reducible refine (FD.out _ G2.out).mono ?_); rintro e w3 ⟨rfl, hg⟩; have G3 := Lib.hid (G2.out.trans hg); clear hg))
  go_ret
  exact ⟨rfl, G3.out⟩
theorem Set_no (H : Sr w I x) {a i : Int} (k m : Int) (hf : Nof x a i) :
    Calls Tryz.prog 9 #[.pointer (some ⟨I.S, 0, none⟩), .int .i64 a, .int .i64 i, .agg #[.int .i64 k, .int .i64 m]] w fun e w' => e = bool1 false ∧ w.grownBy w' none := by
  cases hv : wd.vb k m with
  | false => exact Set_bad H (.inl hf) hv
  | true =>
    have FD := Lib.hid (fun W (hg : w.grownBy W none) => field_no (H.new hg) hf)
    have PT := Lib.hid (fun W => wd.Put_any k m W)
    rw [hv] at PT
    have G0 := Lib.hid (World.grownBy_alloc w (.cells #[.int .i64 k, .int .i64 m] 23) none)
    have T0 := Lib.hid (wd.Two.new w 23 k m rfl)
    obtain ⟨c0, c1, c2, c3⟩ := T0.out
    generalize wd.wd k m = v at *
    clear H hf hv
    go_enter Tryz.func9, Tryz.ntmps9
    go_wp2_with (first
      | (go_at_call 30; (with_reducible refine (PT.out _).mono ?_); rintro e w2 ⟨rfl, hb⟩; have G2 := Lib.hid (G0.out.trans (below_new hb)); clear hb)
      | (go_at_call 26; (with_reducible refine (FD.out _ G2.out).mono ?_); rintro e w3 ⟨rfl, hg⟩; have G3 := Lib.hid (G2.out.trans hg); clear hg))
    go_ret
    exact ⟨rfl, G3.out⟩
theorem wd_fits (k m : Int) : -9223372036854775808 ≤ wd.wd k m ∧ wd.wd k m ≤ 9223372036854775807 := by
  unfold wd.wd
  split
  · rename_i h
    have := wd.chk_zero.1 h
    split <;> omega
  · omega
theorem store_at (H : Sr w I x) {j : Nat} {v : Int} (hb : bs x.ks x.tk j ≠ -1) (hv : -9223372036854775808 ≤ v ∧ v ≤ 9223372036854775807) :
    Calls Tryz.prog 31 #[.pointer (some ⟨I.c, 0, none⟩), .int .i64 j, .int .i64 v] w (Done I (.bool true) (x.stored j v) w) := by
  obtain ⟨ws, H0, e⟩ := H.hp
  have O := H.ok
  rw [← e] at hb O
  obtain ⟨O', hx⟩ := O.store hb hv
  refine (Store_yes H0 O.kds j v hb hx).mono fun e' w' ⟨ws2, he, hp, ht, hg⟩ => ⟨he, ?_, gr4 hg⟩
  exact H.heap hp (ht.trans e) (e ▸ O') hg
theorem Set_yes (H : Sr w I x) {a s n j : Nat} {k m : Int} (hb : Ob x a s n) (hj : j < n) (hz : (n : Int) + 1 ≤ bz x.ks a) (hv : wd.vb k m = true) :
    Calls Tryz.prog 9 #[.pointer (some ⟨I.S, 0, none⟩), .int .i64 a, .int .i64 j, .agg #[.int .i64 k, .int .i64 m]] w (Done I (.bool true) (x.stored (a + 1 + j) (wd.wd k m)) w) := by
  have FD := Lib.hid (fun W (hg : w.grownBy W none) => field_yes (H.new hg) hb hj)
  have PT := Lib.hid (fun W => wd.Put_any k m W)
  rw [hv] at PT
  have wf := wd_fits k m
  have hin := bz_in H.ok hb.tk
  have BS : bs x.ks x.tk ((a + 1 + j : Nat) : Int) ≠ -1 := by
    rw [base_in H.ok hb.tk (by omega) (by omega)]
    omega
  have ST := Lib.hid (fun W (hg : w.grownBy W none) => store_at (H.new hg) BS wf)
  have G0 := Lib.hid (World.grownBy_alloc w (.cells #[.int .i64 k, .int .i64 m] 23) none)
  have T0 := Lib.hid (wd.Two.new w 23 k m rfl)
  obtain ⟨c0, c1, c2, c3⟩ := T0.out
  have HH := Lib.hid H
  generalize a + 1 + j = q at *
  generalize wd.wd k m = v at *
  clear H hb hj hz hv hin BS wf
  go_enter Tryz.func9, Tryz.ntmps9
  go_wp2_with (first
    | (go_at_call 30; (with_reducible refine (PT.out _).mono ?_); rintro e w2 ⟨rfl, hb⟩; have G2 := Lib.hid (G0.out.trans (below_new hb)); clear hb)
    | (go_at_call 26; (with_reducible refine (FD.out _ G2.out).mono ?_); rintro e w3 ⟨rfl, hg⟩; have G3 := Lib.hid (G2.out.trans hg); have f3 := (HH.out.new G3.out).s0; clear hg)
    | (go_at_call 31; (with_reducible refine (ST.out _ G3.out).mono ?_); rintro e w4 ⟨rfl, hs, hg⟩; have H4 := Lib.hid hs; have G4 := Lib.hid ((Gr.new G3.out).trans hg); clear hs hg))
  go_ret
  exact ⟨rfl, H4.out, G4.out⟩
/-! ### Free -/
theorem Free_of (H : Sr w I x) {a : Int} {b : Bool} {y : Hs}
    (GV : Calls Tryz.prog 29 #[.pointer (some ⟨I.c, 0, none⟩), .int .i64 a] w (Done I (.bool b) y w)) :
    Calls Tryz.prog 8 #[.pointer (some ⟨I.S, 0, none⟩), .int .i64 a] w (Done I (.bool b) y w) := by
  have f0 := H.s0
  have GV := Lib.hid GV
  clear H
  go_enter Tryz.func8, Tryz.ntmps8
  go_wp2_with (first
    | (go_at_call 21; (with_reducible refine (known_yes _ _).mono ?_); rintro e w' ⟨rfl, rfl⟩)
    | (go_at_call 29; (with_reducible refine GV.out.mono ?_); rintro e w2 ⟨rfl, hs, hg⟩; have H2 := Lib.hid hs; have G2 := Lib.hid hg; clear hs hg))
  go_ret
  exact ⟨rfl, H2.out, G2.out⟩
theorem Free_no (H : Sr w I x) {a : Int} (ha : a ∉ x.tk) :
    Calls Tryz.prog 8 #[.pointer (some ⟨I.S, 0, none⟩), .int .i64 a] w (Done I (.bool false) x w) := by
  obtain ⟨ws, H0, e⟩ := H.hp
  refine Free_of H ((Give_no H0 a (by rw [e]; exact ha)).mono fun e' w' ⟨ws2, he, hp, ht, hg⟩ => ⟨he, ?_, gr4 hg⟩)
  exact H.heap hp (ht.trans e) H.ok hg
/-- What is taken is a large object, or a cell of a small class's page. -/
theorem at_tk (H : Sr w I x) {a : Int} (ha : a ∈ x.tk) : ∃ A P : Nat, a = A ∧ (A : Int) / 32 = P ∧ pgOf A = P ∧ P < 64 ∧ P < x.ks.length ∧ ((pg.kind x.ks P = 5 ∧ (A : Int) % 32 = 0) ∨ ((1 ≤ pg.kind x.ks P ∧ pg.kind x.ks P ≤ 4) ∧ (A : Int) % sz (pg.kind x.ks P) = 0)) := by
  obtain ⟨ws, H0, e⟩ := H.hp
  have O := H.ok
  rw [← e] at O ha
  exact tkn_at O ha
theorem Free_large (H : Sr w I x) {a P : Nat} (ha : (a : Int) ∈ x.tk) (hp : pgOf a = P) (hP : (a : Int) / 32 = P) (hk : pg.kind x.ks P = 5) :
    Calls Tryz.prog 8 #[.pointer (some ⟨I.S, 0, none⟩), .int .i64 a] w (Done I (.bool true) (x.goneL a P) w) := by
  obtain ⟨ws, H0, e⟩ := H.hp
  have O := H.ok
  rw [← e] at O
  refine Free_of H ((Give_large' H0 O (by rw [e]; exact ha) hp hk).mono fun e' w' ⟨ws2, he, hh, ht, hg⟩ => ⟨he, ?_, gr4 hg⟩)
  rw [e] at ht
  exact H.heap hh ht (H.ok.gone_large ha hP hk) hg
theorem Free_cell (H : Sr w I x) {a P : Nat} {i : Int} (ha : (a : Int) ∈ x.tk) (hp : pgOf a = P) (hP : (a : Int) / 32 = P) (p64 : P < 64) (hk : 1 ≤ pg.kind x.ks P ∧ pg.kind x.ks P ≤ 4) (hm : (a : Int) % sz (pg.kind x.ks P) = 0) (hi : (a : Int) % 32 / sz (pg.kind x.ks P) = i) :
    Calls Tryz.prog 8 #[.pointer (some ⟨I.S, 0, none⟩), .int .i64 a] w (Done I (.bool true) (x.goneC a P i) w) := by
  obtain ⟨ws, H0, e⟩ := H.hp
  have O := H.ok
  rw [← e] at O
  refine Free_of H ((Give_cell' H0 O (by rw [e]; exact ha) hp hP p64 hk hm hi).mono fun e' w' ⟨ws2, he, hh, ht, hg⟩ => ⟨he, ?_, gr4 hg⟩)
  rw [e] at ht
  exact H.heap hh ht (H.ok.gone_cell ha hP hk hi).1 hg
end
end Go.Proofs.YtfhmhlofjoahlaaGreatDoor.st
