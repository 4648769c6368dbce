/- Joined: StG, StH. -/
import Derived.Test.YtacjleladjgkeaaGreatDoorStZ
/- The store: Get, Set, Free. -/
namespace Go.Proofs.YtacjleladjgkeaaGreatDoor.st
open Go.ChangeShapes Go.WideShapes Go.ChangeAt Go.RowKit Go.Maps gen calls cls geos ce
set_option linter.unusedVariables false
set_option maxHeartbeats 4000000
set_option maxRecDepth 100000
theorem below_new {w w' : World} (h : Below w.heap.size w w') : w.grownBy w' none := ⟨h.os, h.tape, h.output, h.size, fun i hi _ => h.block i hi⟩
section
variable {w w' : World} {I : Ids} {x : Hs}
theorem Get_no (H : Sr w I x) {a i : Int} (h : Nof x a i) :
    Calls Tryz.prog 111 #[.pointer (some ⟨I.S, 0, none⟩), .int .i64 a, .int .i64 i] w fun e w' => e = wd.ans 0 0 false ∧ w.grownBy w' none := by
  have FD := Lib.hid (fun W (hg : w.grownBy W none) => field_no (H.new hg) h)
  have G0 := Lib.hid (World.grownBy_alloc w (.cells #[.int .i64 0, .int .i64 0] 64) none)
  have T0 := Lib.hid (wd.Two.new w 64 0 0 rfl)
  clear H h
  go_enter Tryz.func111, Tryz.ntmps111
  go_wp2_with (go_at_call 57; (with_reducible refine (FD.out _ G0.out).mono ?_); rintro e w2 ⟨rfl, hg⟩; have G2 := Lib.hid (G0.out.trans hg); have T2 := wd.Two.below (li.grown_below hg) T0.out; obtain ⟨c0, c1, c2, c3⟩ := T2; clear hg)
  refine bodyPost_ret (v := .tuple #[.agg #[.int .i64 0, .int .i64 0], .bool false]) ?_ rfl ⟨rfl, below_new (((li.grown_below G2.out).setCell (Nat.le_refl _) _).setCell (Nat.le_refl _) _)⟩
  simp [results, Tryz.results111, go_sem, *]
theorem Get_yes (H : Sr w I x) {a s n i : Nat} (hb : Ob x a s n) (hi : i < n) (hz : (n : Int) + 1 ≤ bz x.ks a) {k m : Int} {b : Bool} (e1 : wd.rk (x.xs.getD (a + 1 + i) 0) = k) (e2 : wd.rn (x.xs.getD (a + 1 + i) 0) = m) (e3 : wd.rb (x.xs.getD (a + 1 + i) 0) = b) :
    Calls Tryz.prog 111 #[.pointer (some ⟨I.S, 0, none⟩), .int .i64 a, .int .i64 i] w fun e w' => e = wd.ans k m b ∧ w.grownBy w' none := by
  have FD := Lib.hid (fun W (hg : w.grownBy W none) => field_yes (H.new hg) hb hi)
  have G0 := Lib.hid (World.grownBy_alloc w (.cells #[.int .i64 0, .int .i64 0] 64) none)
  have T0 := Lib.hid (wd.Two.new w 64 0 0 rfl)
  obtain ⟨ws, H0, e⟩ := H.hp
  have hin := bz_in H.ok hb.tk
  have LD := Lib.hid (fun W (hg : w.grownBy W none) => Load_yes (H0.new hg) (a + 1 + i) (by omega))
  have bd := H.ok.bd (a + 1 + i)
  obtain ⟨v, hv⟩ : ∃ v, x.xs.getD (a + 1 + i) 0 = v := ⟨_, rfl⟩
  rw [hv] at LD e1 e2 e3 bd
  have RD := Lib.hid (fun W => wd.Read_any v (WalkArith.wf_i64 (by simpa using bd)) W)
  rw [e1, e2, e3] at RD
  have HH := Lib.hid H
  generalize a + 1 + i = j at *
  clear H H0 e hb hi hin bd hv e1 e2 e3 hz
  go_enter Tryz.func111, Tryz.ntmps111
  go_wp2_with (first
    | (go_at_call 57; (with_reducible refine (FD.out _ G0.out).mono ?_); rintro e w2 ⟨rfl, hg⟩; have G2 := Lib.hid (G0.out.trans hg); have T2 := Lib.hid (wd.Two.below (li.grown_below hg) T0.out); have f2 := (HH.out.new G2.out).s0; clear hg)
    | (go_at_call 146; (with_reducible refine (LD.out _ G2.out).mono ?_); rintro e w' ⟨rfl, rfl⟩)
    | (go_at_call 148; (with_reducible refine (RD.out _).mono ?_); rintro e w3 ⟨rfl, hb⟩; have G3 := Lib.hid (G2.out.trans (below_new hb)); have T3 := wd.Two.below hb T2.out; obtain ⟨c0, c1, c2, c3⟩ := T3; clear hb))
  refine bodyPost_ret (v := .tuple #[.agg #[.int .i64 k, .int .i64 m], .bool b]) ?_ rfl ⟨rfl, below_new (((li.grown_below G3.out).setCell (Nat.le_refl _) _).setCell (Nat.le_refl _) _)⟩
  simp [results, Tryz.results111, go_sem, *]
/-- Where an object has a field i. -/
def Isf (x : Hs) (a i : Int) : Prop := ∃ A s n j : Nat, a = A ∧ i = j ∧ Ob x A s n ∧ j < n
theorem field_any (H : Sr w I x) {a i : Int} (hf : Nof x a i ∨ Isf x a i) : ∃ (j : Int) (y : Bool), ∀ W, w.grownBy W none →
    Calls Tryz.prog 57 #[.pointer (some ⟨I.S, 0, none⟩), .int .i64 a, .int .i64 i] W fun e w' => e = rI j y ∧ W.grownBy w' none := by
  rcases hf with h | ⟨A, s, n, j, rfl, rfl, hb, hj⟩
  · exact ⟨0, false, fun W hg => field_no (H.new hg) h⟩
  · exact ⟨_, true, fun W hg => field_yes (H.new hg) hb hj⟩
theorem Set_bad (H : Sr w I x) {a i k m : Int} (hf : Nof x a i ∨ Isf x a i) (h : wd.vb k m = false) :
    Calls Tryz.prog 25 #[.pointer (some ⟨I.S, 0, none⟩), .int .i64 a, .int .i64 i, .agg #[.int .i64 k, .int .i64 m]] w fun e w' => e = bool1 false ∧ w.grownBy w' none := by
  obtain ⟨j, y, FD⟩ := field_any H hf
  have FD := Lib.hid FD
  have PT := Lib.hid (fun W => wd.Put_any k m W)
  rw [h] at PT
  have G0 := Lib.hid (World.grownBy_alloc w (.cells #[.int .i64 k, .int .i64 m] 64) none)
  have T0 := Lib.hid (wd.Two.new w 64 k m rfl)
  obtain ⟨c0, c1, c2, c3⟩ := T0.out
  generalize wd.wd k m = v at *
  clear H hf h
  go_enter Tryz.func25, Tryz.ntmps25
  go_wp2_with (first
    | (go_at_call 56; (with_reducible refine (PT.out _).mono ?_); rintro e w2 ⟨rfl, hb⟩; have G2 := Lib.hid (G0.out.trans (below_new hb)); clear hb)
    | (go_at_call 57; (with_reducible refine (FD.out _ G2.out).mono ?_); rintro e w3 ⟨rfl, hg⟩; have G3 := Lib.hid (G2.out.trans hg); clear hg))
  go_ret
  exact ⟨rfl, G3.out⟩
theorem Set_no (H : Sr w I x) {a i : Int} (k m : Int) (hf : Nof x a i) :
    Calls Tryz.prog 25 #[.pointer (some ⟨I.S, 0, none⟩), .int .i64 a, .int .i64 i, .agg #[.int .i64 k, .int .i64 m]] w fun e w' => e = bool1 false ∧ w.grownBy w' none := by
  cases hv : wd.vb k m with
  | false => exact Set_bad H (.inl hf) hv
  | true =>
    have FD := Lib.hid (fun W (hg : w.grownBy W none) => field_no (H.new hg) hf)
    have PT := Lib.hid (fun W => wd.Put_any k m W)
    rw [hv] at PT
    have G0 := Lib.hid (World.grownBy_alloc w (.cells #[.int .i64 k, .int .i64 m] 64) none)
    have T0 := Lib.hid (wd.Two.new w 64 k m rfl)
    obtain ⟨c0, c1, c2, c3⟩ := T0.out
    generalize wd.wd k m = v at *
    clear H hf hv
    go_enter Tryz.func25, Tryz.ntmps25
    go_wp2_with (first
      | (go_at_call 56; (with_reducible refine (PT.out _).mono ?_); rintro e w2 ⟨rfl, hb⟩; have G2 := Lib.hid (G0.out.trans (below_new hb)); clear hb)
      | (go_at_call 57; (with_reducible refine (FD.out _ G2.out).mono ?_); rintro e w3 ⟨rfl, hg⟩; have G3 := Lib.hid (G2.out.trans hg); clear hg))
    go_ret
    exact ⟨rfl, G3.out⟩
theorem wd_fits (k m : Int) : -9223372036854775808 ≤ wd.wd k m ∧ wd.wd k m ≤ 9223372036854775807 := by
  unfold wd.wd
  split
  · rename_i h
    have := wd.chk_zero.1 h
    split <;> omega
  · omega
theorem store_at (H : Sr w I x) {j : Nat} {v : Int} (hb : bs x.ks x.tk j ≠ -1) (hv : -9223372036854775808 ≤ v ∧ v ≤ 9223372036854775807) :
    Calls Tryz.prog 58 #[.pointer (some ⟨I.c, 0, none⟩), .int .i64 j, .int .i64 v] w (Done I (.bool true) (x.stored j v) w) := by
  obtain ⟨ws, H0, e⟩ := H.hp
  have O := H.ok
  rw [← e] at hb O
  obtain ⟨O', hx⟩ := O.store hb hv
  refine (Store_yes H0 O.kds j v hb hx).mono fun e' w' ⟨ws2, he, hp, ht, hg⟩ => ⟨he, ?_, gr4 hg⟩
  exact H.heap hp (ht.trans e) (e ▸ O') hg
theorem Set_yes (H : Sr w I x) {a s n j : Nat} {k m : Int} (hb : Ob x a s n) (hj : j < n) (hz : (n : Int) + 1 ≤ bz x.ks a) (hv : wd.vb k m = true) :
    Calls Tryz.prog 25 #[.pointer (some ⟨I.S, 0, none⟩), .int .i64 a, .int .i64 j, .agg #[.int .i64 k, .int .i64 m]] w (Done I (.bool true) (x.stored (a + 1 + j) (wd.wd k m)) w) := by
  have FD := Lib.hid (fun W (hg : w.grownBy W none) => field_yes (H.new hg) hb hj)
  have PT := Lib.hid (fun W => wd.Put_any k m W)
  rw [hv] at PT
  have wf := wd_fits k m
  have hin := bz_in H.ok hb.tk
  have BS : bs x.ks x.tk ((a + 1 + j : Nat) : Int) ≠ -1 := by
    rw [base_in H.ok hb.tk (by omega) (by omega)]
    omega
  have ST := Lib.hid (fun W (hg : w.grownBy W none) => store_at (H.new hg) BS wf)
  have G0 := Lib.hid (World.grownBy_alloc w (.cells #[.int .i64 k, .int .i64 m] 64) none)
  have T0 := Lib.hid (wd.Two.new w 64 k m rfl)
  obtain ⟨c0, c1, c2, c3⟩ := T0.out
  have HH := Lib.hid H
  generalize a + 1 + j = q at *
  generalize wd.wd k m = v at *
  clear H hb hj hz hv hin BS wf
  go_enter Tryz.func25, Tryz.ntmps25
  go_wp2_with (first
    | (go_at_call 56; (with_reducible refine (PT.out _).mono ?_); rintro e w2 ⟨rfl, hb⟩; have G2 := Lib.hid (G0.out.trans (below_new hb)); clear hb)
    | (go_at_call 57; (with_reducible refine (FD.out _ G2.out).mono ?_); rintro e w3 ⟨rfl, hg⟩; have G3 := Lib.hid (G2.out.trans hg); have f3 := (HH.out.new G3.out).s0; clear hg)
    | (go_at_call 58; (with_reducible refine (ST.out _ G3.out).mono ?_); rintro e w4 ⟨rfl, hs, hg⟩; have H4 := Lib.hid hs; have G4 := Lib.hid ((Gr.new G3.out).trans hg); clear hs hg))
  go_ret
  exact ⟨rfl, H4.out, G4.out⟩
/-! ### Free -/
/-- What is taken is a large object, or a cell of a small class's page. -/
theorem at_tk (H : Sr w I x) {a : Int} (ha : a ∈ x.tk) : ∃ A P : Nat, a = A ∧ (A : Int) / 32 = P ∧ pgOf A = P ∧ P < 64 ∧ P < x.ks.length ∧ ((pg.kind x.ks P = 5 ∧ (A : Int) % 32 = 0) ∨ ((1 ≤ pg.kind x.ks P ∧ pg.kind x.ks P ≤ 4) ∧ (A : Int) % sz (pg.kind x.ks P) = 0)) := by
  obtain ⟨ws, H0, e⟩ := H.hp
  have O := H.ok
  rw [← e] at O ha
  exact tkn_at O ha
end
end Go.Proofs.YtacjleladjgkeaaGreatDoor.st

/- The store: Quit, Trim, New. -/
namespace Go.Proofs.YtacjleladjgkeaaGreatDoor.st
open Go.ChangeShapes Go.WideShapes Go.ChangeAt Go.RowKit Go.Maps gen calls cls geos ce
set_option linter.unusedVariables false
set_option maxHeartbeats 4000000
set_option maxRecDepth 100000
/-- A list of numbers in a row from a block on. -/
def Row (w : World) (lo : Nat) (A : Option Addr) (N : Nat) (ps : List Int) : Prop := ∀ j, j < N → ∃ b off, A = some ⟨b, off, none⟩ ∧ lo ≤ b ∧ w.cell? ⟨b, off + j, none⟩ = some (.int .i64 (ps.getD j 0))
theorem row_of {w : World} {base n c : Nat} {A : Option Addr} {ps : List Int} (ho : w.ownsRow base 3 1 (.slice A n c) n (bm.ints ps)) : Row w base A n ps := fun j hj => by
  obtain ⟨b, off, e, hc⟩ := (bm.rd_own ho).at_ hj
  refine ⟨b, off, e, ?_, hc⟩
  rcases ho.2 with ⟨e1, hz⟩ | ⟨g, cap, cur, e1, hbase, _⟩
  · injection e1 with e1 _ _
    rw [e] at e1
    cases e1
  · injection e1 with e1 _ _
    rw [e] at e1
    injection e1 with e1
    injection e1 with e1 _ _
    omega
theorem Row.gr {L : List Nat} {w w' : World} {lo N : Nat} {A : Option Addr} {ps : List Int} (h : Row w lo A N ps) (hg : Gr L w w') (hL : ∀ k, k ∈ L → k < lo) : Row w' lo A N ps := fun j hj => by
  obtain ⟨b, off, e, hb, hc⟩ := h j hj
  exact ⟨b, off, e, hb, hg.cell hc (fun hm => by have := hL _ hm; simp at this; omega)⟩
/-- May a page be free? -/
def dropb (x : Hs) (p : Int) : Bool := decide (1 ≤ pg.kind x.ks p) && decide (pg.kind x.ks p ≤ 4) && decide (cl (pg.kind x.ks p) ≤ (x.fr p.toNat).length)
/-- Pages that become free, of some. -/
def dstep (s : Hs × Nat) (p : Int) : Hs × Nat := if dropb s.1 p then (s.1.dropped p.toNat, s.2 + 1) else s
def drps (x : Hs) (ps : List Int) : Hs × Nat := ps.foldl dstep (x, 0)
theorem drps_le (ps : List Int) : ∀ (x : Hs) (k : Nat), (ps.foldl dstep (x, k)).2 ≤ k + ps.length := by
  induction ps with
  | nil => intro x k; simp
  | cons p ps ih =>
    intro x k
    rw [List.foldl_cons, List.length_cons]
    by_cases h : dropb x p = true
    · rw [show dstep (x, k) p = (x.dropped p.toNat, k + 1) from if_pos h]
      have := ih (x.dropped p.toNat) (k + 1)
      omega
    · rw [show dstep (x, k) p = (x, k) from if_neg h]
      have := ih x k
      omega
theorem drps_more (x : Hs) (ps : List Int) {j : Nat} (hj : j < ps.length) : drps x (ps.take (j + 1)) = dstep (drps x (ps.take j)) (ps.getD j 0) := by
  unfold drps
  rw [List.take_add_one, List.foldl_append, List.getD_eq_getElem?_getD, List.getElem?_eq_getElem hj]
  rfl
theorem drps_T (ps : List Int) : ∀ (x : Hs) (k : Nat), (ps.foldl dstep (x, k)).1.T = x.T ∧ (ps.foldl dstep (x, k)).1.own = x.own := by
  induction ps with
  | nil => intro x k; exact ⟨rfl, rfl⟩
  | cons p ps ih =>
    intro x k
    rw [List.foldl_cons]
    unfold dstep
    split
    · exact ih (x.dropped p.toNat) (k + 1)
    · exact ih x k
section
variable {w w' : World} {I : Ids} {x : Hs}
/-- Whose pages a thread's were. -/
def Hs.left (x : Hs) (t : Int) : Hs := { x with own := ca.rest x.own t 0 }
def Hs.pgs (x : Hs) (t : Int) : List Int := bm.rising (ca.gone x.own t 0)
theorem pgs_len (H : Sr w I x) (t : Int) : (x.pgs t).length ≤ 64 := by
  obtain ⟨D, C⟩ := H.at_
  have h := ca.srt_rising (List.Perm.refl (ca.gone x.own t 0)) (ca.gone_nodup C.good t 0)
  unfold Hs.pgs
  rw [← h, ca.srt_length]
  have := C.good.few
  have h2 : (ca.gone x.own t 0).length ≤ x.own.length := by unfold ca.gone; rw [List.length_map]; exact List.length_filter_le _ _
  omega
end
/-! ### New -/
def NewAns (k T : Nat) (w : World) (e : Ending) (w' : World) : Prop :=
  ∃ I : Ids, e = .returned (.pointer (some ⟨I.S, 0, none⟩)) ∧ Sr w' I ⟨List.replicate k 0, List.replicate (32 * k) 0, List.replicate 128 0, [], fun _ => [], [], 0, T⟩ ∧ (∀ q, q ∈ I.all → w.heap.size ≤ q) ∧ w.grownBy w' none
theorem New_any (n t : Int) (k T : Nat) (hk : pg.near n 0 64 = k) (hT : bm.near t 0 9 = T) (w : World) :
    Calls Tryz.prog 22 #[.int .i64 n, .int .i64 t] w (NewAns k T w) := by
  have k64 : k ≤ 64 := by unfold pg.near at hk; repeat' split at hk
                          all_goals omega
  have T9 : T ≤ 9 := by unfold bm.near at hT; repeat' split at hT
                        all_goals omega
  have NC := Lib.hid (fun w => ce.New_any n k hk w)
  have NA := Lib.hid (fun w => ca.New_any t T hT T9 w)
  have CL := Lib.hid (fun w => bm.Clamp_any t 0 9 w)
  rw [hT] at CL
  have OK := Lib.hid (Ok.new k k64)
  clear hk hT
  go_enter Tryz.func22, Tryz.ntmps22
  go_wp2_with (first
    | (go_at_call 50; (with_reducible refine (NC.out _).mono ?_); rintro e w1 ⟨c, h, g, r, m, q, s, rfl, hm, hl, hw⟩; have H1 := Lib.hid hm; have L1 := Lib.hid hl; have G1 := Lib.hid hw; clear hm hl hw)
    | (go_at_call 51; (with_reducible refine (NA.out _).mono ?_); rintro e w2 ⟨C, mb, rfl, hc, hl, hg⟩; have C2 := Lib.hid hc; have L2 := Lib.hid hl; have H2 := Lib.hid (H1.out.new hg); have G2 := Lib.hid (G1.out.trans hg); have S1 := Lib.hid G1.out.size; clear hc hl hg)
    | (go_at_call 49; (with_reducible refine (CL.out _).mono ?_); rintro e w' ⟨rfl, rfl⟩))
  go_ret
  have gg := World.grownBy_alloc w2 (.cells #[.pointer (some ⟨c, 0, none⟩), .pointer (some ⟨C, 0, none⟩), .int .i64 T, .int .i64 0] 101) none
  refine ⟨⟨w2.heap.size, c, h, g, r, m, q, s, C, mb⟩, rfl, ⟨?_, ⟨_, H2.out.new gg, bm.nums_zeros⟩, OK.out, ⟨_, C2.out.new gg⟩⟩, fun q hq => ?_, G2.out.trans gg⟩
  · rw [heap_alloc_new]; rfl
  · have := L1.out; have := L2.out; have := S1.out; have := G2.out.size
    simp only [Ids.all, List.mem_cons, List.not_mem_nil, or_false] at hq
    omega
end Go.Proofs.YtacjleladjgkeaaGreatDoor.st
