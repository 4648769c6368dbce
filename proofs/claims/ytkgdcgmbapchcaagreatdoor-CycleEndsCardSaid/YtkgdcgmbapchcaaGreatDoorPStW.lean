/- Texts that this claim stands on. -/
import Derived.Test.YtkgdcgmbapchcaaGreatDoorPStZ
namespace Go.Proofs.YtkgdcgmbapchcaaGreatDoor.st
open Go.ChangeShapes Go.WideShapes Go.ChangeAt Go.RowKit Go.Maps gen calls cls geos ce
set_option linter.unusedVariables false
set_option maxHeartbeats 4000000
set_option maxRecDepth 100000
theorem below_new {w w' : World} (h : Below w.heap.size w w') : w.grownBy w' none := ⟨h.os, h.tape, h.output, h.size, fun i hi _ => h.block i hi⟩
section
variable {w w' : World} {I : Ids} {x : Hs}
theorem Get_no (H : Sr w I x) {a i : Int} (h : Nof x a i) :
    Calls Tryz.prog 83 #[.pointer (some ⟨I.S, 0, none⟩), .int .i64 a, .int .i64 i] w fun e w' => e = wd.ans 0 0 false ∧ w.grownBy w' none := by
  have FD := Lib.hid (fun W (hg : w.grownBy W none) => field_no (H.new hg) h)
  have G0 := Lib.hid (World.grownBy_alloc w (.cells #[.int .i64 0, .int .i64 0] 36) none)
  have T0 := Lib.hid (wd.Two.new w 36 0 0 rfl)
  clear H h
  go_enter Tryz.func83, Tryz.ntmps83
  go_wp2_with (go_at_call 158; (with_reducible refine (FD.out _ G0.out).mono ?_); rintro e w2 ⟨rfl, hg⟩; have G2 := Lib.hid (G0.out.trans hg); have T2 := wd.Two.below (li.grown_below hg) T0.out; obtain ⟨c0, c1, c2, c3⟩ := T2; clear hg)
  refine bodyPost_ret (v := .tuple #[.agg #[.int .i64 0, .int .i64 0], .bool false]) ?_ rfl ⟨rfl, below_new (((li.grown_below G2.out).setCell (Nat.le_refl _) _).setCell (Nat.le_refl _) _)⟩
  simp [results, Tryz.results83, go_sem, *]
theorem Get_yes (H : Sr w I x) {a s n i : Nat} (hb : Ob x a s n) (hi : i < n) (hz : (n : Int) + 1 ≤ bz x.ks a) {k m : Int} {b : Bool} (e1 : wd.rk (x.xs.getD (a + 1 + i) 0) = k) (e2 : wd.rn (x.xs.getD (a + 1 + i) 0) = m) (e3 : wd.rb (x.xs.getD (a + 1 + i) 0) = b) :
    Calls Tryz.prog 83 #[.pointer (some ⟨I.S, 0, none⟩), .int .i64 a, .int .i64 i] w fun e w' => e = wd.ans k m b ∧ w.grownBy w' none := by
  have FD := Lib.hid (fun W (hg : w.grownBy W none) => field_yes (H.new hg) hb hi)
  have G0 := Lib.hid (World.grownBy_alloc w (.cells #[.int .i64 0, .int .i64 0] 36) none)
  have T0 := Lib.hid (wd.Two.new w 36 0 0 rfl)
  obtain ⟨ws, H0, e⟩ := H.hp
  have hin := bz_in H.ok hb.tk
  have LD := Lib.hid (fun W (hg : w.grownBy W none) => Load_yes (H0.new hg) (a + 1 + i) (by omega))
  have bd := H.ok.bd (a + 1 + i)
  obtain ⟨v, hv⟩ : ∃ v, x.xs.getD (a + 1 + i) 0 = v := ⟨_, rfl⟩
  rw [hv] at LD e1 e2 e3 bd
  have RD := Lib.hid (fun W => wd.Read_any v (WalkArith.wf_i64 (by simpa using bd)) W)
  rw [e1, e2, e3] at RD
  have HH := Lib.hid H
  generalize a + 1 + i = j at *
  clear H H0 e hb hi hin bd hv e1 e2 e3 hz
  go_enter Tryz.func83, Tryz.ntmps83
  go_wp2_with (first
    | (go_at_call 158; (with_reducible refine (FD.out _ G0.out).mono ?_); rintro e w2 ⟨rfl, hg⟩; have G2 := Lib.hid (G0.out.trans hg); have T2 := Lib.hid (wd.Two.below (li.grown_below hg) T0.out); have f2 := (HH.out.new G2.out).s0; clear hg)
    | (go_at_call 159; (with_reducible refine (LD.out _ G2.out).mono ?_); rintro e w' ⟨rfl, rfl⟩)
    | (go_at_call 160; (with_reducible refine (RD.out _).mono ?_); rintro e w3 ⟨rfl, hb⟩; have G3 := Lib.hid (G2.out.trans (below_new hb)); have T3 := wd.Two.below hb T2.out; obtain ⟨c0, c1, c2, c3⟩ := T3; clear hb))
  refine bodyPost_ret (v := .tuple #[.agg #[.int .i64 k, .int .i64 m], .bool b]) ?_ rfl ⟨rfl, below_new (((li.grown_below G3.out).setCell (Nat.le_refl _) _).setCell (Nat.le_refl _) _)⟩
  simp [results, Tryz.results83, go_sem, *]
theorem wd_fits (k m : Int) : -9223372036854775808 ≤ wd.wd k m ∧ wd.wd k m ≤ 9223372036854775807 := by
  unfold wd.wd
  split
  · rename_i h
    have := wd.chk_zero.1 h
    split <;> omega
  · omega
theorem store_at (H : Sr w I x) {j : Nat} {v : Int} (hb : bs x.ks x.tk j ≠ -1) (hv : -9223372036854775808 ≤ v ∧ v ≤ 9223372036854775807) :
    Calls Tryz.prog 168 #[.pointer (some ⟨I.c, 0, none⟩), .int .i64 j, .int .i64 v] w (Done I (.bool true) (x.stored j v) w) := by
  obtain ⟨ws, H0, e⟩ := H.hp
  have O := H.ok
  rw [← e] at hb O
  obtain ⟨O', hx⟩ := O.store hb hv
  refine (Store_yes H0 O.kds j v hb hx).mono fun e' w' ⟨ws2, he, hp, ht, hg⟩ => ⟨he, ?_, gr4 hg⟩
  exact H.heap hp (ht.trans e) (e ▸ O') hg
theorem Set_yes (H : Sr w I x) {a s n j : Nat} {k m : Int} (hb : Ob x a s n) (hj : j < n) (hz : (n : Int) + 1 ≤ bz x.ks a) (hv : wd.vb k m = true) :
    Calls Tryz.prog 94 #[.pointer (some ⟨I.S, 0, none⟩), .int .i64 a, .int .i64 j, .agg #[.int .i64 k, .int .i64 m]] w (Done I (.bool true) (x.stored (a + 1 + j) (wd.wd k m)) w) := by
  have FD := Lib.hid (fun W (hg : w.grownBy W none) => field_yes (H.new hg) hb hj)
  have PT := Lib.hid (fun W => wd.Put_any k m W)
  rw [hv] at PT
  have wf := wd_fits k m
  have hin := bz_in H.ok hb.tk
  have BS : bs x.ks x.tk ((a + 1 + j : Nat) : Int) ≠ -1 := by
    rw [base_in H.ok hb.tk (by omega) (by omega)]
    omega
  have ST := Lib.hid (fun W (hg : w.grownBy W none) => store_at (H.new hg) BS wf)
  have G0 := Lib.hid (World.grownBy_alloc w (.cells #[.int .i64 k, .int .i64 m] 36) none)
  have T0 := Lib.hid (wd.Two.new w 36 k m rfl)
  obtain ⟨c0, c1, c2, c3⟩ := T0.out
  have HH := Lib.hid H
  generalize a + 1 + j = q at *
  generalize wd.wd k m = v at *
  clear H hb hj hz hv hin BS wf
  go_enter Tryz.func94, Tryz.ntmps94
  go_wp2_with (first
    | (go_at_call 167; (with_reducible refine (PT.out _).mono ?_); rintro e w2 ⟨rfl, hb⟩; have G2 := Lib.hid (G0.out.trans (below_new hb)); clear hb)
    | (go_at_call 158; (with_reducible refine (FD.out _ G2.out).mono ?_); rintro e w3 ⟨rfl, hg⟩; have G3 := Lib.hid (G2.out.trans hg); have f3 := (HH.out.new G3.out).s0; clear hg)
    | (go_at_call 168; (with_reducible refine (ST.out _ G3.out).mono ?_); rintro e w4 ⟨rfl, hs, hg⟩; have H4 := Lib.hid hs; have G4 := Lib.hid ((Gr.new G3.out).trans hg); clear hs hg))
  go_ret
  exact ⟨rfl, H4.out, G4.out⟩
theorem Free_of (H : Sr w I x) {a : Int} {b : Bool} {y : Hs}
    (GV : Calls Tryz.prog 260 #[.pointer (some ⟨I.c, 0, none⟩), .int .i64 a] w (Done I (.bool b) y w)) :
    Calls Tryz.prog 214 #[.pointer (some ⟨I.S, 0, none⟩), .int .i64 a] w (Done I (.bool b) y w) := by
  have f0 := H.s0
  have GV := Lib.hid GV
  clear H
  go_enter Tryz.func214, Tryz.ntmps214
  go_wp2_with (first
    | (go_at_call 127; (with_reducible refine (known_yes _ _).mono ?_); rintro e w' ⟨rfl, rfl⟩)
    | (go_at_call 260; (with_reducible refine GV.out.mono ?_); rintro e w2 ⟨rfl, hs, hg⟩; have H2 := Lib.hid hs; have G2 := Lib.hid hg; clear hs hg))
  go_ret
  exact ⟨rfl, H2.out, G2.out⟩
theorem at_tk (H : Sr w I x) {a : Int} (ha : a ∈ x.tk) : ∃ A P : Nat, a = A ∧ (A : Int) / 32 = P ∧ pgOf A = P ∧ P < 64 ∧ P < x.ks.length ∧ ((pg.kind x.ks P = 5 ∧ (A : Int) % 32 = 0) ∨ ((1 ≤ pg.kind x.ks P ∧ pg.kind x.ks P ≤ 4) ∧ (A : Int) % sz (pg.kind x.ks P) = 0)) := by
  obtain ⟨ws, H0, e⟩ := H.hp
  have O := H.ok
  rw [← e] at O ha
  exact tkn_at O ha
theorem Free_large (H : Sr w I x) {a P : Nat} (ha : (a : Int) ∈ x.tk) (hp : pgOf a = P) (hP : (a : Int) / 32 = P) (hk : pg.kind x.ks P = 5) :
    Calls Tryz.prog 214 #[.pointer (some ⟨I.S, 0, none⟩), .int .i64 a] w (Done I (.bool true) (x.goneL a P) w) := by
  obtain ⟨ws, H0, e⟩ := H.hp
  have O := H.ok
  rw [← e] at O
  refine Free_of H ((Give_large' H0 O (by rw [e]; exact ha) hp hk).mono fun e' w' ⟨ws2, he, hh, ht, hg⟩ => ⟨he, ?_, gr4 hg⟩)
  rw [e] at ht
  exact H.heap hh ht (H.ok.gone_large ha hP hk) hg
theorem Free_cell (H : Sr w I x) {a P : Nat} {i : Int} (ha : (a : Int) ∈ x.tk) (hp : pgOf a = P) (hP : (a : Int) / 32 = P) (p64 : P < 64) (hk : 1 ≤ pg.kind x.ks P ∧ pg.kind x.ks P ≤ 4) (hm : (a : Int) % sz (pg.kind x.ks P) = 0) (hi : (a : Int) % 32 / sz (pg.kind x.ks P) = i) :
    Calls Tryz.prog 214 #[.pointer (some ⟨I.S, 0, none⟩), .int .i64 a] w (Done I (.bool true) (x.goneC a P i) w) := by
  obtain ⟨ws, H0, e⟩ := H.hp
  have O := H.ok
  rw [← e] at O
  refine Free_of H ((Give_cell' H0 O (by rw [e]; exact ha) hp hP p64 hk hm hi).mono fun e' w' ⟨ws2, he, hh, ht, hg⟩ => ⟨he, ?_, gr4 hg⟩)
  rw [e] at ht
  exact H.heap hh ht (H.ok.gone_cell ha hP hk hi).1 hg
end
end Go.Proofs.YtkgdcgmbapchcaaGreatDoor.st
namespace Go.Proofs.YtkgdcgmbapchcaaGreatDoor.st
open Go.ChangeShapes Go.WideShapes Go.ChangeAt Go.RowKit Go.Maps gen calls cls geos ce
set_option linter.unusedVariables false
set_option maxHeartbeats 4000000
set_option maxRecDepth 100000
def Row (w : World) (lo : Nat) (A : Option Addr) (N : Nat) (ps : List Int) : Prop := ∀ j, j < N → ∃ b off, A = some ⟨b, off, none⟩ ∧ lo ≤ b ∧ w.cell? ⟨b, off + j, none⟩ = some (.int .i64 (ps.getD j 0))
theorem row_of {w : World} {base n c : Nat} {A : Option Addr} {ps : List Int} (ho : w.ownsRow base 3 1 (.slice A n c) n (bm.ints ps)) : Row w base A n ps := fun j hj => by
  obtain ⟨b, off, e, hc⟩ := (bm.rd_own ho).at_ hj
  refine ⟨b, off, e, ?_, hc⟩
  rcases ho.2 with ⟨e1, hz⟩ | ⟨g, cap, cur, e1, hbase, _⟩
  · injection e1 with e1 _ _
    rw [e] at e1
    cases e1
  · injection e1 with e1 _ _
    rw [e] at e1
    injection e1 with e1
    injection e1 with e1 _ _
    omega
theorem Row.gr {L : List Nat} {w w' : World} {lo N : Nat} {A : Option Addr} {ps : List Int} (h : Row w lo A N ps) (hg : Gr L w w') (hL : ∀ k, k ∈ L → k < lo) : Row w' lo A N ps := fun j hj => by
  obtain ⟨b, off, e, hb, hc⟩ := h j hj
  exact ⟨b, off, e, hb, hg.cell hc (fun hm => by have := hL _ hm; simp at this; omega)⟩
def dropb (x : Hs) (p : Int) : Bool := decide (1 ≤ pg.kind x.ks p) && decide (pg.kind x.ks p ≤ 4) && decide (cl (pg.kind x.ks p) ≤ (x.fr p.toNat).length)
def dstep (s : Hs × Nat) (p : Int) : Hs × Nat := if dropb s.1 p then (s.1.dropped p.toNat, s.2 + 1) else s
def drps (x : Hs) (ps : List Int) : Hs × Nat := ps.foldl dstep (x, 0)
theorem drps_le (ps : List Int) : ∀ (x : Hs) (k : Nat), (ps.foldl dstep (x, k)).2 ≤ k + ps.length := by
  induction ps with
  | nil => intro x k; simp
  | cons p ps ih =>
    intro x k
    rw [List.foldl_cons, List.length_cons]
    by_cases h : dropb x p = true
    · rw [show dstep (x, k) p = (x.dropped p.toNat, k + 1) from if_pos h]
      have := ih (x.dropped p.toNat) (k + 1)
      omega
    · rw [show dstep (x, k) p = (x, k) from if_neg h]
      have := ih x k
      omega
theorem drps_more (x : Hs) (ps : List Int) {j : Nat} (hj : j < ps.length) : drps x (ps.take (j + 1)) = dstep (drps x (ps.take j)) (ps.getD j 0) := by
  unfold drps
  rw [List.take_add_one, List.foldl_append, List.getD_eq_getElem?_getD, List.getElem?_eq_getElem hj]
  rfl
section
variable {w w' : World} {I : Ids} {x : Hs}
theorem drop_at (H : Sr w I x) (p : Int) :
    Calls Tryz.prog 163 #[.pointer (some ⟨I.c, 0, none⟩), .int .i64 p] w (Done I (.bool (dropb x p)) (dstep (x, 0) p).1 w) := by
  obtain ⟨ws, H0, e⟩ := H.hp
  have O := H.ok
  rw [← e] at O
  rcases drop_dec O p with ⟨P, rfl, hk, h1, h2, h3⟩ | ⟨h1, h2⟩
  · have hd : dropb x P = true := by unfold dropb; rw [Int.toNat_natCast]; simp; exact ⟨⟨hk.1, hk.2⟩, h1⟩
    rw [hd]
    unfold dstep
    rw [if_pos hd]
    refine (Drop_yes H0 O.kds P h2 (by rw [h3]; exact h1)).mono fun e' w' ⟨ws2, he, hh, ht, hg⟩ => ⟨he, ?_, gr4 hg⟩
    have := H.heap hh (ht.trans e) (H.ok.drop hk h1) hg
    simpa [Hs.dropped] using this
  · have hd : dropb x p = false := by
      unfold dropb
      by_cases hk : 1 ≤ pg.kind x.ks p ∧ pg.kind x.ks p ≤ 4
      · have := h2 hk
        simp; omega
      · simp; omega
    rw [hd]
    unfold dstep
    rw [hd, if_neg (by decide)]
    exact (Drop_no H0 O.kds p h1).mono fun e' w' ⟨he, hg⟩ => ⟨he, H.new hg, .new hg⟩
theorem Trim_own (H : Sr w I x) {p : Int} (ho : (ca.owner x.own p).1 ≠ -1) :
    Calls Tryz.prog 147 #[.pointer (some ⟨I.S, 0, none⟩), .int .i64 p] w fun e w' => e = bool1 false ∧ w.grownBy w' none := by
  have OW := Lib.hid (Owner_any H p)
  have t1 : ((ca.owner x.own p).1 == -1) = false := by simpa using ho
  generalize (ca.owner x.own p).1 = o at *
  clear H ho
  go_enter Tryz.func147, Tryz.ntmps147
  go_wp2_with (first
    | (go_at_call 127; (with_reducible refine (known_yes _ _).mono ?_); rintro e w' ⟨rfl, rfl⟩)
    | (go_at_call 215; (with_reducible refine OW.out.mono ?_); rintro e w2 ⟨rfl, hg⟩; have G2 := Lib.hid hg; clear hg))
  go_ret
  exact ⟨rfl, G2.out⟩
theorem Trim_any (H : Sr w I x) {p : Int} (ho : (ca.owner x.own p).1 = -1) :
    Calls Tryz.prog 147 #[.pointer (some ⟨I.S, 0, none⟩), .int .i64 p] w (Done I (.bool (dropb x p)) (dstep (x, 0) p).1 w) := by
  have OW := Lib.hid (Owner_any H p)
  rw [ho] at OW
  have DR := Lib.hid (fun W (hg : w.grownBy W none) => drop_at (H.new hg) p)
  have HH := Lib.hid H
  generalize dropb x p = b at *
  clear H ho
  go_enter Tryz.func147, Tryz.ntmps147
  go_wp2_with (first
    | (go_at_call 127; (with_reducible refine (known_yes _ _).mono ?_); rintro e w' ⟨rfl, rfl⟩)
    | (go_at_call 215; (with_reducible refine OW.out.mono ?_); rintro e w2 ⟨rfl, hg⟩; have G2 := Lib.hid hg; have f2 := (HH.out.new G2.out).s0; clear hg)
    | (go_at_call 163; (with_reducible refine (DR.out _ G2.out).mono ?_); rintro e w3 ⟨rfl, hs, hg⟩; have H3 := Lib.hid hs; have G3 := Lib.hid ((Gr.new G2.out).trans hg); clear hs hg))
  go_ret
  exact ⟨rfl, H3.out, G3.out⟩
def Hs.left (x : Hs) (t : Int) : Hs := { x with own := ca.rest x.own t 0 }
def Hs.pgs (x : Hs) (t : Int) : List Int := bm.rising (ca.gone x.own t 0)
theorem pgs_len (H : Sr w I x) (t : Int) : (x.pgs t).length ≤ 64 := by
  obtain ⟨D, C⟩ := H.at_
  have h := ca.srt_rising (List.Perm.refl (ca.gone x.own t 0)) (ca.gone_nodup C.good t 0)
  unfold Hs.pgs
  rw [← h, ca.srt_length]
  have := C.good.few
  have h2 : (ca.gone x.own t 0).length ≤ x.own.length := by unfold ca.gone; rw [List.length_map]; exact List.length_filter_le _ _
  omega
theorem Quit_any (H : Sr w I x) (t : Int) :
    Calls Tryz.prog 87 #[.pointer (some ⟨I.S, 0, none⟩), .int .i64 t] w (Done I (.int .i64 (drps (x.left t) (x.pgs t)).2) (drps (x.left t) (x.pgs t)).1 w) := by
  obtain ⟨D, C⟩ := H.at_
  have DR := Lib.hid (ca.Drop_any C t)
  have f1 := H.s1
  have HH := Lib.hid H
  have PL := Lib.hid (pgs_len H t)
  have LT := Lib.hid H.lt
  clear H C
  go_enter Tryz.func87, Tryz.ntmps87
  go_wp2_with (first
    | (go_at_call 127; (with_reducible refine (known_yes _ _).mono ?_); rintro e w' ⟨rfl, rfl⟩)
    | (go_at_call 162; (with_reducible refine DR.out.mono ?_); rintro e w2 ⟨A, k, L, D2, rfl, hl, ho, hc, hg⟩; have H2 := Lib.hid (show Sr w2 I (x.left t) from HH.out.cache hc hg); have G2 := Lib.hid (grm (I := I) hg); have RW := Lib.hid (show Row w2 w.heap.size A L (x.pgs t) from row_of ho); have HL := Lib.hid (show L = (x.pgs t).length from hl); clear hl ho hc hg))
  go_loopw [6, 18] (fun f i wr => ∃ j : Nat, j ≤ L ∧ i = .int .i64 j ∧ f = .int .i64 (drps (x.left t) ((x.pgs t).take j)).2 ∧ Sr wr I (drps (x.left t) ((x.pgs t).take j)).1 ∧ Gr I.L w2 wr) (fun _ i _ => L - (intOf i).toNat)
  case atStart => exact ⟨0, by omega, rfl, rfl, H2.out, Gr.refl _ _⟩
  case round =>
    obtain ⟨j, hj, rfl, rfl, hs, hg⟩ := hrel
    have HS := Lib.hid hs
    have HG := Lib.hid hg
    have f0 := hs.s0
    have HB : (drps (x.left t) ((x.pgs t).take j)).2 ≤ j := by
      have := drps_le ((x.pgs t).take j) (x.left t) 0
      rw [List.length_take] at this
      unfold drps
      omega
    clear hs hg
    by_cases h : j < L
    · have hL64 : L ≤ 64 := by have := HL.out; have := PL.out; omega
      obtain ⟨b, off, rfl, hb, hc⟩ := (RW.out.gr HG.out (fun k hk => by have := LT.out k (by simp [Ids.L] at hk; simp [Ids.all]; omega); exact this)) j h
      have MORE := drps_more (x.left t) (x.pgs t) (j := j) (by have := HL.out; omega)
      have DP := Lib.hid (drop_at HS.out ((x.pgs t).getD j 0))
      have DT : ∀ s : Hs × Nat, ∀ p, (dstep (s.1, 0) p).1 = (dstep s p).1 ∧ (dstep s p).2 = if dropb s.1 p = true then s.2 + 1 else s.2 := fun s p => by
        unfold dstep
        by_cases h : dropb s.1 p = true
        · rw [if_pos h, if_pos h, if_pos h]; exact ⟨rfl, rfl⟩
        · rw [if_neg h, if_neg h, if_neg h]; exact ⟨rfl, rfl⟩
      obtain ⟨dt1, dt2⟩ := DT (drps (x.left t) ((x.pgs t).take j)) ((x.pgs t).getD j 0)
      rw [dt1, ← MORE] at DP
      rw [← MORE] at dt2
      clear DT MORE dt1
      generalize hp0 : (x.pgs t).getD j 0 = p0 at *
      generalize hs0 : drps (x.left t) ((x.pgs t).take j) = s0 at *
      generalize hs1 : drps (x.left t) ((x.pgs t).take (j + 1)) = s1 at *
      cases hb1 : dropb s0.1 p0
      · rw [hb1] at DP dt2
        have E2 := Lib.hid (show s1.2 = s0.2 by simpa using dt2)
        have S1 := Lib.hid hs1
        have G0 := Lib.hid hs0
        clear dt2 hs0 hp0 hs1 hb
        go_wp2_with (first
          | (go_at_call 163; (with_reducible refine DP.out.mono ?_); rintro e w3 ⟨rfl, hs, hg⟩; have H3 := Lib.hid hs; have G3 := Lib.hid (HG.out.trans hg); clear hs hg))
        go_roundw
        case rel => exact ⟨j + 1, by omega, by go_num, by rw [S1.out, E2.out], by rw [S1.out]; exact H3.out, G3.out⟩
        case measure => simp [intOf]; omega
      · rw [hb1] at DP dt2
        have E2 := Lib.hid (show s1.2 = s0.2 + 1 by simpa using dt2)
        have S1 := Lib.hid hs1
        have G0 := Lib.hid hs0
        clear dt2 hs0 hp0 hs1 hb
        go_wp2_with (first
          | (go_at_call 163; (with_reducible refine DP.out.mono ?_); rintro e w3 ⟨rfl, hs, hg⟩; have H3 := Lib.hid hs; have G3 := Lib.hid (HG.out.trans hg); clear hs hg))
        go_roundw
        case rel => exact ⟨j + 1, by omega, by go_num, by rw [S1.out, E2.out]; rfl, by rw [S1.out]; exact H3.out, G3.out⟩
        case measure => simp [intOf]; omega
    · have e : (x.pgs t).take j = x.pgs t := List.take_of_length_le (by have := HL.out; omega)
      have HE := Lib.hid e
      clear e
      go_wp2
      go_ret
      exact ⟨by rw [HE.out]; rfl, by rw [← HE.out]; exact HS.out, G2.out.trans HG.out⟩
end
def NewAns (k T : Nat) (w : World) (e : Ending) (w' : World) : Prop :=
  ∃ I : Ids, e = .returned (.pointer (some ⟨I.S, 0, none⟩)) ∧ Sr w' I ⟨List.replicate k 0, List.replicate (32 * k) 0, List.replicate 128 0, [], fun _ => [], [], 0, T⟩ ∧ (∀ q, q ∈ I.all → w.heap.size ≤ q) ∧ w.grownBy w' none
theorem New_any (n t : Int) (k T : Nat) (hk : pg.near n 0 64 = k) (hT : bm.near t 0 9 = T) (w : World) :
    Calls Tryz.prog 100 #[.int .i64 n, .int .i64 t] w (NewAns k T w) := by
  have k64 : k ≤ 64 := by unfold pg.near at hk; repeat' split at hk
                          all_goals omega
  have T9 : T ≤ 9 := by unfold bm.near at hT; repeat' split at hT
                        all_goals omega
  have NC := Lib.hid (fun w => ce.New_any n k hk w)
  have NA := Lib.hid (fun w => ca.New_any t T hT T9 w)
  have CL := Lib.hid (fun w => bm.Clamp_any t 0 9 w)
  rw [hT] at CL
  have OK := Lib.hid (Ok.new k k64)
  clear hk hT
  go_enter Tryz.func100, Tryz.ntmps100
  go_wp2_with (first
    | (go_at_call 171; (with_reducible refine (NC.out _).mono ?_); rintro e w1 ⟨c, h, g, r, m, q, s, rfl, hm, hl, hw⟩; have H1 := Lib.hid hm; have L1 := Lib.hid hl; have G1 := Lib.hid hw; clear hm hl hw)
    | (go_at_call 172; (with_reducible refine (NA.out _).mono ?_); rintro e w2 ⟨C, mb, rfl, hc, hl, hg⟩; have C2 := Lib.hid hc; have L2 := Lib.hid hl; have H2 := Lib.hid (H1.out.new hg); have G2 := Lib.hid (G1.out.trans hg); have S1 := Lib.hid G1.out.size; clear hc hl hg)
    | (go_at_call 104; (with_reducible refine (CL.out _).mono ?_); rintro e w' ⟨rfl, rfl⟩))
  go_ret
  have gg := World.grownBy_alloc w2 (.cells #[.pointer (some ⟨c, 0, none⟩), .pointer (some ⟨C, 0, none⟩), .int .i64 T, .int .i64 0] 149) none
  refine ⟨⟨w2.heap.size, c, h, g, r, m, q, s, C, mb⟩, rfl, ⟨?_, ⟨_, H2.out.new gg, bm.nums_zeros⟩, OK.out, ⟨_, C2.out.new gg⟩⟩, fun q hq => ?_, G2.out.trans gg⟩
  · rw [heap_alloc_new]; rfl
  · have := L1.out; have := L2.out; have := S1.out; have := G2.out.size
    simp only [Ids.all, List.mem_cons, List.not_mem_nil, or_false] at hq
    omega
end Go.Proofs.YtkgdcgmbapchcaaGreatDoor.st
namespace Go.Proofs.YtkgdcgmbapchcaaGreatDoor.st
open Go.RowKit calls cls geos ce
set_option linter.unusedVariables false
set_option maxRecDepth 100000
structure Iv (x : Hs) : Prop where
  ok : Ok x.ks x.xs x.cs x.tk x.fr
  live : Live x.ks x.xs x.tk x.cnt
  kin : Kin x.ks x.own
  good : ca.Good x.T x.own
abbrev Kp (P : Int → Prop) (x y : Hs) : Prop := Keep P x.ks x.xs x.tk y.ks y.xs y.tk
structure Made (x y : Hs) (a n : Nat) : Prop where
  not : (a : Int) ∉ x.tk
  ob : (a : Int) ∈ y.tk ∧ y.xs.getD a 0 = (x.cnt : Int) * 128 + n
  room : (n : Int) + 1 ≤ bz y.ks a
  zero : ∀ j : Nat, 1 ≤ j → j ≤ n → y.xs.getD (a + j) 0 = 0
  cnt : y.cnt = x.cnt + 1
section
variable {x y z : Hs} {P : Int → Prop}
theorem Iv.class (V : Iv x) {o : ca.Ow} (ho : o ∈ x.own) : ∃ p : Nat, o.2.2 = p ∧ 1 ≤ pg.kind x.ks p ∧ pg.kind x.ks p ≤ 4 := by
  have hb := V.good.bnd o ho
  have hk := V.kin o ho
  obtain ⟨p, e⟩ : ∃ p : Nat, o.2.2 = p := ⟨o.2.2.toNat, by omega⟩
  rw [e] at hk
  exact ⟨p, e, by omega, by omega⟩
theorem made_of {ks cs tk : List Int} {fr : Nat → List Int} {cnt a n m : Nat} {ks0 xs0 cs0 tk0 : List Int} {fr0 : Nat → List Int}
    (O0 : Ok ks0 xs0 cs0 tk0 fr0) (L : Live ks0 xs0 tk0 cnt) (K : Keep (fun _ => True) ks0 xs0 tk0 ks (mm.fillN xs0 a 0 m) tk) (O : Ok ks (mm.fillN xs0 a 0 m) cs tk fr) (hn : (a : Int) ∉ tk0)
    (ht : ∀ b, b ∈ tk ↔ b ∈ tk0 ∨ b = a) (hz : bz ks a = m) (hx : a + m ≤ xs0.length) (n8 : n < 128) (nm : n + 1 ≤ m) (s8 : cnt < 1099511627776) :
    Ok ks ((mm.fillN xs0 a 0 m).set a ((cnt : Int) * 128 + n)) cs tk fr ∧ Live ks ((mm.fillN xs0 a 0 m).set a ((cnt : Int) * 128 + n)) tk (cnt + 1) ∧
      Keep (fun _ => True) ks0 xs0 tk0 ks ((mm.fillN xs0 a 0 m).set a ((cnt : Int) * 128 + n)) tk ∧ ((mm.fillN xs0 a 0 m).set a ((cnt : Int) * 128 + n)).getD a 0 = (cnt : Int) * 128 + n ∧
      ∀ j : Nat, 1 ≤ j → j ≤ n → ((mm.fillN xs0 a 0 m).set a ((cnt : Int) * 128 + n)).getD (a + j) 0 = 0 := by
  have am : (a : Int) ∈ tk := (ht a).2 (.inr rfl)
  have hl : a < (mm.fillN xs0 a 0 m).length := by rw [mm.fillN_length]; omega
  have K2 := (K.mono (Q := fun b => b ≠ a) (fun _ _ => trivial)).trans (Keep.store O am (Int.le_refl _) (by omega) ((cnt : Int) * 128 + n))
  have K3 : Keep (fun _ => True) ks0 xs0 tk0 ks ((mm.fillN xs0 a 0 m).set a ((cnt : Int) * 128 + n)) tk := fun b hb _ => K2 b hb (fun e => hn (e ▸ hb))
  have hv : ((mm.fillN xs0 a 0 m).set a ((cnt : Int) * 128 + n)).getD a 0 = (cnt : Int) * 128 + n := by rw [ch.set_getD _ _ _ _ hl, if_pos rfl]
  refine ⟨(O.store (by rw [base_in O am (Int.le_refl _) (by omega)]; omega) (by omega)).1, L.keep O0 K3 (by omega) fun b hb => ?_, K3, hv, fun j h1 h2 => ?_⟩
  · rcases (ht b).1 hb with h | rfl
    · exact .inl ⟨h, trivial⟩
    · exact .inr ⟨cnt, n, by omega, n8, by rw [hz]; omega, by rw [Int.toNat_natCast]; exact hv⟩
  · rw [ch.set_getD _ _ _ _ hl, if_neg (by omega), ch.fillN_getD _ _ _ _ hx, if_pos (by omega)]
theorem Iv.took (V : Iv x) {p a m n : Nat} {f : Int} {rest : List Int} (n8 : n < 128) (s8 : x.cnt < 1099511627776) (hk : 1 ≤ pg.kind x.ks p ∧ pg.kind x.ks p ≤ 4) (hfr : x.fr p = f :: rest) (ha : (a : Int) = p * 32 + f * sz (pg.kind x.ks p)) (hz : sz (pg.kind x.ks p) = m) (nm : n + 1 ≤ m) :
    Iv ((x.took p f rest a m).begun a n) ∧ Kp (fun _ => True) x ((x.took p f rest a m).begun a n) ∧ Made x ((x.took p f rest a m).begun a n) a n := by
  obtain ⟨O', hn⟩ := V.ok.take hk hfr ha hz
  obtain ⟨K, e, hx⟩ := Keep.take V.ok hk hfr ha hz
  have M := made_of V.ok V.live K O' hn (fun b => by rw [bm.mem_rising]; simp) e hx n8 nm s8
  exact ⟨⟨M.1, M.2.1, V.kin, V.good⟩, M.2.2.1, ⟨hn, ⟨by simp [Hs.begun, Hs.took, bm.mem_rising], M.2.2.2.1⟩, by show _ ≤ bz x.ks a; rw [e]; omega, M.2.2.2.2, rfl⟩⟩
theorem Iv.spanned (V : Iv x) {p a m n N : Nat} (n8 : n < 128) (s8 : x.cnt < 1099511627776) (h1 : 1 ≤ N) (hf : pg.find N 0 x.ks = some p) (ha : a = p * 32) (hz : m = N * 32) (nm : n + 1 ≤ m) :
    Iv ((x.spanned p N a m).begun a n) ∧ Kp (fun _ => True) x ((x.spanned p N a m).begun a n) ∧ Made x ((x.spanned p N a m).begun a n) a n := by
  obtain ⟨O', hn⟩ := V.ok.large h1 hf ha hz
  obtain ⟨K, e, hx⟩ := Keep.large V.ok h1 hf ha hz
  obtain ⟨q1, q2⟩ := Ok.free0 h1 hf
  have M := made_of V.ok V.live K O' hn (fun b => by rw [bm.mem_rising]; simp) e hx n8 nm s8
  refine ⟨⟨M.1, M.2.1, fun o ho => ?_, V.good⟩, M.2.2.1, ⟨hn, ⟨by simp [Hs.begun, Hs.spanned, bm.mem_rising], M.2.2.2.1⟩, by show _ ≤ bz (pg.spanN x.ks p N) a; rw [e]; omega, M.2.2.2.2, rfl⟩⟩
  obtain ⟨q, e, k1, k4⟩ := V.class ho
  have := V.kin o ho
  show pg.kind (pg.spanN x.ks p N) o.2.2 = o.2.1
  rw [← this, e, kind_span h1 q1, if_neg (fun h => ?_), if_neg (fun h => ?_)]
  · have := q2 q (by omega) (by omega); omega
  · have := q2 q (by omega) (by omega); omega
theorem Iv.carved (V : Iv x) {p m n : Nat} {k : Int} (hk : 1 ≤ k ∧ k ≤ 4) (hf : pg.find 1 0 x.ks = some p) (hz : sz k = m) (hn : cl k = n) : Iv (x.carved p k m n) ∧ Kp (fun _ => True) x (x.carved p k m n) ∧ ∀ o ∈ x.own, o.2.2 ≠ p := by
  obtain ⟨q1, q2⟩ := Ok.free0 (n := 1) (by omega) hf
  have k0 := q2 p (by omega) (by omega)
  have K := Keep.carve V.ok hk hf hz hn
  have ne : ∀ o ∈ x.own, o.2.2 ≠ p := fun o ho e => by
    obtain ⟨q, e2, k1, k4⟩ := V.class ho
    rw [← e2, e] at k1
    omega
  refine ⟨⟨V.ok.carve hk hf hz hn, V.live.keep V.ok K (Nat.le_refl _) (fun b hb => .inl ⟨hb, trivial⟩), fun o ho => ?_, V.good⟩, K, ne⟩
  show pg.kind (x.ks.set p k) o.2.2 = o.2.1
  rw [kind_set (by omega), if_neg (ne o ho)]
  exact V.kin o ho
theorem Iv.owned (V : Iv x) {t k : Int} {p : Nat} (ht : 0 ≤ t ∧ t < x.T) (hk : 1 ≤ k ∧ k ≤ 4) (p64 : p < 64) (hp : pg.kind x.ks p = k) (ne : ∀ o ∈ x.own, o.2.2 ≠ p) : Iv (x.owned t k p) := by
  refine ⟨V.ok, V.live, fun o ho => ?_, V.good.put ⟨ht, hk, by omega, by omega⟩ ne⟩
  rcases List.mem_append.1 ho with h | h
  · exact V.kin o (List.mem_filter.1 h).1
  · simp at h
    subst h
    exact hp
theorem Iv.left (V : Iv x) (t : Int) : Iv (x.left t) := ⟨V.ok, V.live, fun o ho => V.kin o (List.mem_filter.1 ho).1, V.good.filter _⟩
theorem Iv.dropped (V : Iv x) {p : Int} (h : dropb x p = true) (ne : ∀ o ∈ x.own, o.2.2 ≠ p) : Iv (x.dropped p.toNat) ∧ Kp (fun _ => True) x (x.dropped p.toNat) := by
  unfold dropb at h
  simp only [Bool.and_eq_true, decide_eq_true_eq] at h
  obtain ⟨⟨h1, h2⟩, h3⟩ := h
  obtain ⟨q, rfl, q64, ql⟩ := there V.ok.few (z := p) (by omega)
  rw [Int.toNat_natCast] at *
  have K := Keep.drop V.ok ⟨h1, h2⟩ h3
  refine ⟨⟨V.ok.drop ⟨h1, h2⟩ h3, V.live.keep V.ok K (Nat.le_refl _) (fun b hb => .inl ⟨hb, trivial⟩), fun o ho => ?_, V.good⟩, K⟩
  show pg.kind (x.ks.set q 0) o.2.2 = o.2.1
  rw [kind_set ql, if_neg (ne o ho)]
  exact V.kin o ho
theorem Iv.dstep (V : Iv x) (k : Nat) {p : Int} (ne : ∀ o ∈ x.own, o.2.2 ≠ p) : Iv (dstep (x, k) p).1 ∧ Kp (fun _ => True) x (dstep (x, k) p).1 ∧ (dstep (x, k) p).1.own = x.own ∧ (dstep (x, k) p).1.cnt = x.cnt ∧ (dstep (x, k) p).1.T = x.T := by
  by_cases h : dropb x p = true
  · rw [show st.dstep (x, k) p = (x.dropped p.toNat, k + 1) from if_pos h]
    have := V.dropped h ne
    exact ⟨this.1, this.2, rfl, rfl, rfl⟩
  · rw [show st.dstep (x, k) p = (x, k) from if_neg h]
    exact ⟨V, Keep.refl _ _ _ _, rfl, rfl, rfl⟩
theorem Iv.drps (ps : List Int) : ∀ (x : Hs) (k : Nat), Iv x → (∀ p ∈ ps, ∀ o ∈ x.own, o.2.2 ≠ p) → Iv (ps.foldl st.dstep (x, k)).1 ∧ Kp (fun _ => True) x (ps.foldl st.dstep (x, k)).1 ∧ (ps.foldl st.dstep (x, k)).1.cnt = x.cnt ∧ (ps.foldl st.dstep (x, k)).1.T = x.T := by
  induction ps with
  | nil => intro x k V _; exact ⟨V, Keep.refl _ _ _ _, rfl, rfl⟩
  | cons p ps ih =>
    intro x k V ne
    obtain ⟨a1, a2, a3, a4, a5⟩ := V.dstep k (ne p (by simp))
    obtain ⟨b1, b2, b3, b4⟩ := ih (st.dstep (x, k) p).1 (st.dstep (x, k) p).2 a1 (fun q hq o ho => ne q (by simp [hq]) o (a3 ▸ ho))
    rw [List.foldl_cons]
    exact ⟨b1, a2.trans b2, b3.trans a4, b4.trans a5⟩
theorem left_none (V : Iv x) (t : Int) : ∀ p ∈ x.pgs t, ∀ o ∈ (x.left t).own, o.2.2 ≠ p := fun p hp o ho e => by
  unfold Hs.pgs at hp
  rw [bm.mem_rising] at hp
  unfold ca.gone at hp
  rw [List.mem_map] at hp
  obtain ⟨o2, h2, e2⟩ := hp
  rw [List.mem_filter] at h2
  have h1 := List.mem_filter.1 ho
  have := V.good.one' h1.1 h2.1 (e.trans e2.symm)
  subst this
  have h3 := h1.2
  rw [h2.2] at h3
  cases h3
theorem Iv.goneC (V : Iv x) {a p : Nat} {i : Int} (ha : (a : Int) ∈ x.tk) (hP : (a : Int) / 32 = p) (hk : 1 ≤ pg.kind x.ks p ∧ pg.kind x.ks p ≤ 4) (hi : (a : Int) % 32 / sz (pg.kind x.ks p) = i) : Iv (x.goneC a p i) ∧ Kp (fun b => b ≠ a) x (x.goneC a p i) := by
  have K := Keep.gone_cell V.ok ha (-1 - cf x.cs p)
  refine ⟨⟨(V.ok.gone_cell ha hP hk hi).1, V.live.keep V.ok K (Nat.le_refl _) (fun b hb => ?_), V.kin, V.good⟩, K⟩
  have hb' := List.mem_filter.1 hb
  exact .inl ⟨hb'.1, by simpa using hb'.2⟩
theorem Iv.goneL (V : Iv x) {a p : Nat} (ha : (a : Int) ∈ x.tk) (hP : (a : Int) / 32 = p) (hk : pg.kind x.ks p = 5) : Iv (x.goneL a p) ∧ Kp (fun b => b ≠ a) x (x.goneL a p) := by
  have K := Keep.gone_large V.ok ha hP hk
  have hs := siz_ge (ks := x.ks) (p := p) (by omega)
  have hin := pg.siz_in (xs := x.ks) (p := p) (by omega)
  have hle : p + (pg.siz x.ks p).toNat ≤ x.ks.length := by omega
  refine ⟨⟨V.ok.gone_large ha hP hk, V.live.keep V.ok K (Nat.le_refl _) (fun b hb => ?_), fun o ho => ?_, V.good⟩, K⟩
  · have hb' := List.mem_filter.1 hb
    exact .inl ⟨hb'.1, by simpa using hb'.2⟩
  · obtain ⟨q, e, k1, k4⟩ := V.class ho
    have := V.kin o ho
    show pg.kind (pg.fillN x.ks p 0 (pg.siz x.ks p).toNat) o.2.2 = o.2.1
    rw [← this, e, kind_fill hle, if_neg (fun h => ?_)]
    by_cases e2 : (q : Int) = p
    · rw [e2] at k4; omega
    · have := (large_pages hk (q - p) (by omega)).1 (by omega)
      rw [show ((p + (q - p) : Nat) : Int) = q by omega] at this
      omega
theorem Iv.stored (V : Iv x) {a s n j : Nat} {v : Int} (hb : Ob x a s n) (hz : (n : Int) + 1 ≤ bz x.ks a) (hj : j < n) (hv : -9223372036854775808 ≤ v ∧ v ≤ 9223372036854775807) (hs : s < x.cnt) : Iv (x.stored (a + 1 + j) v) ∧ Kp (fun b => b ≠ a) x (x.stored (a + 1 + j) v) ∧ (x.stored (a + 1 + j) v).xs.getD a 0 = (s : Int) * 128 + n ∧ (x.stored (a + 1 + j) v).xs.getD (a + 1 + j) 0 = v := by
  have K := Keep.store V.ok hb.tk (x := a + 1 + j) (by omega) (by omega) v
  have hin := bz_in V.ok hb.tk
  have hl : a + 1 + j < x.xs.length := by omega
  have h0 : (x.xs.set (a + 1 + j) v).getD a 0 = (s : Int) * 128 + n := by rw [ch.set_getD _ _ _ _ hl, if_neg (by omega)]; exact hb.wd
  refine ⟨⟨(V.ok.store (by rw [base_in V.ok hb.tk (by omega) (by omega)]; omega) hv).1, V.live.keep V.ok K (Nat.le_refl _) (fun b hb' => ?_), V.kin, V.good⟩, K, h0, by show (x.xs.set _ _).getD _ _ = _; rw [ch.set_getD _ _ _ _ hl, if_pos rfl]⟩
  by_cases e : b = a
  · subst e
    exact .inr ⟨s, n, hs, hb.n8, hz, by rw [Int.toNat_natCast]; exact h0⟩
  · exact .inl ⟨hb', e⟩
end
end Go.Proofs.YtkgdcgmbapchcaaGreatDoor.st
namespace Go.Proofs.YtkgdcgmbapchcaaGreatDoor.st
open Go.ChangeShapes Go.WideShapes Go.ChangeAt Go.RowKit Go.Maps gen calls cls geos ce
set_option linter.unusedVariables false
set_option maxHeartbeats 4000000
set_option maxRecDepth 100000
section
variable {w w' : World} {I : Ids} {x y : Hs} {P : Int → Prop}
theorem low (f : Nat → Bool) (n : Nat) : (∃ q, q < n ∧ f q = true ∧ ∀ r, r < q → f r = false) ∨ ∀ q, q < n → f q = false := by
  induction n with
  | zero => exact .inr (fun q h => absurd h (by omega))
  | succ n ih =>
    rcases ih with ⟨q, h1, h2, h3⟩ | h
    · exact .inl ⟨q, by omega, h2, h3⟩
    · cases hf : f n with
      | true => exact .inl ⟨n, by omega, hf, h⟩
      | false =>
        refine .inr (fun q hq => ?_)
        by_cases e : q = n
        · rw [e]; exact hf
        · exact h q (by omega)
theorem cell_num {ks xs cs tk : List Int} {fr : Nat → List Int} (O : Ok ks xs cs tk fr) {p : Nat} {f : Int} {rest : List Int} (hk : 1 ≤ pg.kind ks p ∧ pg.kind ks p ≤ 4) (hfr : fr p = f :: rest) : ∃ a m : Nat, (a : Int) = p * 32 + f * sz (pg.kind ks p) ∧ sz (pg.kind ks p) = m := by
  obtain ⟨_, _, d1⟩ := O.tkt hk hfr
  have r := room d1.1 d1.2
  have h0 := Int.mul_nonneg d1.1 (Int.le_of_lt r.1)
  exact ⟨((p : Int) * 32 + f * sz (pg.kind ks p)).toNat, (sz (pg.kind ks p)).toNat, by omega, by omega⟩
theorem page_mem {own : List ca.Ow} {t k : Int} (h : ca.page own t k ≠ -1) : (t, k, ca.page own t k) ∈ own := by
  unfold ca.page at h ⊢
  split at h
  · rename_i o ho
    have hm := List.mem_of_find?_eq_some ho
    have hp := List.find?_some ho
    simp at hp
    obtain ⟨a, b, c⟩ := o
    simp at hp ⊢
    obtain ⟨rfl, rfl⟩ := hp
    exact hm
  · exact absurd rfl h
theorem page_dec (V : Iv x) (t k : Int) : (∃ (p : Nat) (f : Int) (rest : List Int), ca.page x.own t k = p ∧ pg.kind x.ks p = k ∧ (1 ≤ k ∧ k ≤ 4) ∧ x.fr p = f :: rest) ∨ Noc x (ca.page x.own t k) := by
  by_cases h : ca.page x.own t k = -1
  · right
    rw [h]
    intro h1
    have := pg.kind_out (xs := x.ks) (p := -1) (by omega)
    omega
  · have hm := page_mem h
    have hb : (0 ≤ t ∧ t < x.T) ∧ (1 ≤ k ∧ k ≤ 4) ∧ 0 ≤ ca.page x.own t k ∧ ca.page x.own t k < 64 := V.good.bnd _ hm
    have hk : pg.kind x.ks (ca.page x.own t k) = k := V.kin _ hm
    obtain ⟨p, e⟩ : ∃ p : Nat, ca.page x.own t k = p := ⟨(ca.page x.own t k).toNat, by omega⟩
    rw [e] at hk ⊢
    cases hfr : x.fr p with
    | nil => exact .inr (fun _ => by rw [Int.toNat_natCast]; exact hfr)
    | cons f rest => exact .inl ⟨p, f, rest, rfl, hk, hb.2.1, hfr⟩
end
end Go.Proofs.YtkgdcgmbapchcaaGreatDoor.st
namespace Go.Proofs.YtkgdcgmbapchcaaGreatDoor.st
open Go.ChangeShapes Go.WideShapes Go.ChangeAt Go.RowKit Go.Maps gen calls cls geos ce
set_option linter.unusedVariables false
set_option maxHeartbeats 4000000
set_option maxRecDepth 100000
section
variable {w w' : World} {I : Ids} {x y : Hs} {P : Int → Prop}
theorem Iv.ob (V : Iv x) {a : Int} (ha : a ∈ x.tk) (s8 : x.cnt ≤ 1099511627776) : ∃ A s n : Nat, a = A ∧ Ob x A s n ∧ (n : Int) + 1 ≤ bz x.ks A ∧ s < x.cnt := by
  obtain ⟨s, n, l1, l2, l3, l4⟩ := V.live a ha
  have hin := bz_in V.ok ha
  obtain ⟨A, rfl⟩ : ∃ A : Nat, a = A := ⟨a.toNat, by omega⟩
  exact ⟨A, s, n, rfl, ⟨ha, by rw [Int.toNat_natCast] at l4; exact l4, l2, by omega⟩, l3, l1⟩
end
end Go.Proofs.YtkgdcgmbapchcaaGreatDoor.st
