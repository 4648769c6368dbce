/- Joined: StG, StH. -/
import Derived.Test.YtfloleflcoiidaaGreatDoorStZ
/- The store: Get, Set, Free. -/
namespace Go.Proofs.YtfloleflcoiidaaGreatDoor.st
open Go.ChangeShapes Go.WideShapes Go.ChangeAt Go.RowKit Go.Maps gen calls cls geos ce
set_option linter.unusedVariables false
set_option maxHeartbeats 4000000
set_option maxRecDepth 100000
theorem below_new {w w' : World} (h : Below w.heap.size w w') : w.grownBy w' none := ⟨h.os, h.tape, h.output, h.size, fun i hi _ => h.block i hi⟩
section
variable {w w' : World} {I : Ids} {x : Hs}
/-- Where an object has a field i. -/
def Isf (x : Hs) (a i : Int) : Prop := ∃ A s n j : Nat, a = A ∧ i = j ∧ Ob x A s n ∧ j < n
theorem wd_fits (k m : Int) : -9223372036854775808 ≤ wd.wd k m ∧ wd.wd k m ≤ 9223372036854775807 := by
  unfold wd.wd
  split
  · rename_i h
    have := wd.chk_zero.1 h
    split <;> omega
  · omega
theorem store_at (H : Sr w I x) {j : Nat} {v : Int} (hb : bs x.ks x.tk j ≠ -1) (hv : -9223372036854775808 ≤ v ∧ v ≤ 9223372036854775807) :
    Calls Tryz.prog 138 #[.pointer (some ⟨I.c, 0, none⟩), .int .i64 j, .int .i64 v] w (Done I (.bool true) (x.stored j v) w) := by
  obtain ⟨ws, H0, e⟩ := H.hp
  have O := H.ok
  rw [← e] at hb O
  obtain ⟨O', hx⟩ := O.store hb hv
  refine (Store_yes H0 O.kds j v hb hx).mono fun e' w' ⟨ws2, he, hp, ht, hg⟩ => ⟨he, ?_, gr4 hg⟩
  exact H.heap hp (ht.trans e) (e ▸ O') hg
/-! ### Free -/
theorem Free_of (H : Sr w I x) {a : Int} {b : Bool} {y : Hs}
    (GV : Calls Tryz.prog 107 #[.pointer (some ⟨I.c, 0, none⟩), .int .i64 a] w (Done I (.bool b) y w)) :
    Calls Tryz.prog 70 #[.pointer (some ⟨I.S, 0, none⟩), .int .i64 a] w (Done I (.bool b) y w) := by
  have f0 := H.s0
  have GV := Lib.hid GV
  clear H
  go_enter Tryz.func70, Tryz.ntmps70
  go_wp2_with (first
    | (go_at_call 38; (with_reducible refine (known_yes _ _).mono ?_); rintro e w' ⟨rfl, rfl⟩)
    | (go_at_call 107; (with_reducible refine GV.out.mono ?_); rintro e w2 ⟨rfl, hs, hg⟩; have H2 := Lib.hid hs; have G2 := Lib.hid hg; clear hs hg))
  go_ret
  exact ⟨rfl, H2.out, G2.out⟩
theorem Free_no (H : Sr w I x) {a : Int} (ha : a ∉ x.tk) :
    Calls Tryz.prog 70 #[.pointer (some ⟨I.S, 0, none⟩), .int .i64 a] w (Done I (.bool false) x w) := by
  obtain ⟨ws, H0, e⟩ := H.hp
  refine Free_of H ((Give_no H0 a (by rw [e]; exact ha)).mono fun e' w' ⟨ws2, he, hp, ht, hg⟩ => ⟨he, ?_, gr4 hg⟩)
  exact H.heap hp (ht.trans e) H.ok hg
/-- What is taken is a large object, or a cell of a small class's page. -/
theorem at_tk (H : Sr w I x) {a : Int} (ha : a ∈ x.tk) : ∃ A P : Nat, a = A ∧ (A : Int) / 32 = P ∧ pgOf A = P ∧ P < 64 ∧ P < x.ks.length ∧ ((pg.kind x.ks P = 5 ∧ (A : Int) % 32 = 0) ∨ ((1 ≤ pg.kind x.ks P ∧ pg.kind x.ks P ≤ 4) ∧ (A : Int) % sz (pg.kind x.ks P) = 0)) := by
  obtain ⟨ws, H0, e⟩ := H.hp
  have O := H.ok
  rw [← e] at O ha
  exact tkn_at O ha
theorem Free_large (H : Sr w I x) {a P : Nat} (ha : (a : Int) ∈ x.tk) (hp : pgOf a = P) (hP : (a : Int) / 32 = P) (hk : pg.kind x.ks P = 5) :
    Calls Tryz.prog 70 #[.pointer (some ⟨I.S, 0, none⟩), .int .i64 a] w (Done I (.bool true) (x.goneL a P) w) := by
  obtain ⟨ws, H0, e⟩ := H.hp
  have O := H.ok
  rw [← e] at O
  refine Free_of H ((Give_large' H0 O (by rw [e]; exact ha) hp hk).mono fun e' w' ⟨ws2, he, hh, ht, hg⟩ => ⟨he, ?_, gr4 hg⟩)
  rw [e] at ht
  exact H.heap hh ht (H.ok.gone_large ha hP hk) hg
theorem Free_cell (H : Sr w I x) {a P : Nat} {i : Int} (ha : (a : Int) ∈ x.tk) (hp : pgOf a = P) (hP : (a : Int) / 32 = P) (p64 : P < 64) (hk : 1 ≤ pg.kind x.ks P ∧ pg.kind x.ks P ≤ 4) (hm : (a : Int) % sz (pg.kind x.ks P) = 0) (hi : (a : Int) % 32 / sz (pg.kind x.ks P) = i) :
    Calls Tryz.prog 70 #[.pointer (some ⟨I.S, 0, none⟩), .int .i64 a] w (Done I (.bool true) (x.goneC a P i) w) := by
  obtain ⟨ws, H0, e⟩ := H.hp
  have O := H.ok
  rw [← e] at O
  refine Free_of H ((Give_cell' H0 O (by rw [e]; exact ha) hp hP p64 hk hm hi).mono fun e' w' ⟨ws2, he, hh, ht, hg⟩ => ⟨he, ?_, gr4 hg⟩)
  rw [e] at ht
  exact H.heap hh ht (H.ok.gone_cell ha hP hk hi).1 hg
end
end Go.Proofs.YtfloleflcoiidaaGreatDoor.st

/- The store: Quit, Trim, New. -/
namespace Go.Proofs.YtfloleflcoiidaaGreatDoor.st
open Go.ChangeShapes Go.WideShapes Go.ChangeAt Go.RowKit Go.Maps gen calls cls geos ce
set_option linter.unusedVariables false
set_option maxHeartbeats 4000000
set_option maxRecDepth 100000
/-- A list of numbers in a row from a block on. -/
def Row (w : World) (lo : Nat) (A : Option Addr) (N : Nat) (ps : List Int) : Prop := ∀ j, j < N → ∃ b off, A = some ⟨b, off, none⟩ ∧ lo ≤ b ∧ w.cell? ⟨b, off + j, none⟩ = some (.int .i64 (ps.getD j 0))
theorem row_of {w : World} {base n c : Nat} {A : Option Addr} {ps : List Int} (ho : w.ownsRow base 3 1 (.slice A n c) n (bm.ints ps)) : Row w base A n ps := fun j hj => by
  obtain ⟨b, off, e, hc⟩ := (bm.rd_own ho).at_ hj
  refine ⟨b, off, e, ?_, hc⟩
  rcases ho.2 with ⟨e1, hz⟩ | ⟨g, cap, cur, e1, hbase, _⟩
  · injection e1 with e1 _ _
    rw [e] at e1
    cases e1
  · injection e1 with e1 _ _
    rw [e] at e1
    injection e1 with e1
    injection e1 with e1 _ _
    omega
theorem Row.gr {L : List Nat} {w w' : World} {lo N : Nat} {A : Option Addr} {ps : List Int} (h : Row w lo A N ps) (hg : Gr L w w') (hL : ∀ k, k ∈ L → k < lo) : Row w' lo A N ps := fun j hj => by
  obtain ⟨b, off, e, hb, hc⟩ := h j hj
  exact ⟨b, off, e, hb, hg.cell hc (fun hm => by have := hL _ hm; simp at this; omega)⟩
/-- May a page be free? -/
def dropb (x : Hs) (p : Int) : Bool := decide (1 ≤ pg.kind x.ks p) && decide (pg.kind x.ks p ≤ 4) && decide (cl (pg.kind x.ks p) ≤ (x.fr p.toNat).length)
/-- Pages that become free, of some. -/
def dstep (s : Hs × Nat) (p : Int) : Hs × Nat := if dropb s.1 p then (s.1.dropped p.toNat, s.2 + 1) else s
def drps (x : Hs) (ps : List Int) : Hs × Nat := ps.foldl dstep (x, 0)
theorem drps_le (ps : List Int) : ∀ (x : Hs) (k : Nat), (ps.foldl dstep (x, k)).2 ≤ k + ps.length := by
  induction ps with
  | nil => intro x k; simp
  | cons p ps ih =>
    intro x k
    rw [List.foldl_cons, List.length_cons]
    by_cases h : dropb x p = true
    · rw [show dstep (x, k) p = (x.dropped p.toNat, k + 1) from if_pos h]
      have := ih (x.dropped p.toNat) (k + 1)
      omega
    · rw [show dstep (x, k) p = (x, k) from if_neg h]
      have := ih x k
      omega
theorem drps_more (x : Hs) (ps : List Int) {j : Nat} (hj : j < ps.length) : drps x (ps.take (j + 1)) = dstep (drps x (ps.take j)) (ps.getD j 0) := by
  unfold drps
  rw [List.take_add_one, List.foldl_append, List.getD_eq_getElem?_getD, List.getElem?_eq_getElem hj]
  rfl
theorem drps_T (ps : List Int) : ∀ (x : Hs) (k : Nat), (ps.foldl dstep (x, k)).1.T = x.T ∧ (ps.foldl dstep (x, k)).1.own = x.own := by
  induction ps with
  | nil => intro x k; exact ⟨rfl, rfl⟩
  | cons p ps ih =>
    intro x k
    rw [List.foldl_cons]
    unfold dstep
    split
    · exact ih (x.dropped p.toNat) (k + 1)
    · exact ih x k
section
variable {w w' : World} {I : Ids} {x : Hs}
theorem drop_at (H : Sr w I x) (p : Int) :
    Calls Tryz.prog 62 #[.pointer (some ⟨I.c, 0, none⟩), .int .i64 p] w (Done I (.bool (dropb x p)) (dstep (x, 0) p).1 w) := by
  obtain ⟨ws, H0, e⟩ := H.hp
  have O := H.ok
  rw [← e] at O
  rcases drop_dec O p with ⟨P, rfl, hk, h1, h2, h3⟩ | ⟨h1, h2⟩
  · have hd : dropb x P = true := by unfold dropb; rw [Int.toNat_natCast]; simp; exact ⟨⟨hk.1, hk.2⟩, h1⟩
    rw [hd]
    unfold dstep
    rw [if_pos hd]
    refine (Drop_yes H0 O.kds P h2 (by rw [h3]; exact h1)).mono fun e' w' ⟨ws2, he, hh, ht, hg⟩ => ⟨he, ?_, gr4 hg⟩
    have := H.heap hh (ht.trans e) (H.ok.drop hk h1) hg
    simpa [Hs.dropped] using this
  · have hd : dropb x p = false := by
      unfold dropb
      by_cases hk : 1 ≤ pg.kind x.ks p ∧ pg.kind x.ks p ≤ 4
      · have := h2 hk
        simp; omega
      · simp; omega
    rw [hd]
    unfold dstep
    rw [hd, if_neg (by decide)]
    exact (Drop_no H0 O.kds p h1).mono fun e' w' ⟨he, hg⟩ => ⟨he, H.new hg, .new hg⟩
theorem Trim_own (H : Sr w I x) {p : Int} (ho : (ca.owner x.own p).1 ≠ -1) :
    Calls Tryz.prog 43 #[.pointer (some ⟨I.S, 0, none⟩), .int .i64 p] w fun e w' => e = bool1 false ∧ w.grownBy w' none := by
  have OW := Lib.hid (Owner_any H p)
  have t1 : ((ca.owner x.own p).1 == -1) = false := by simpa using ho
  generalize (ca.owner x.own p).1 = o at *
  clear H ho
  go_enter Tryz.func43, Tryz.ntmps43
  go_wp2_with (first
    | (go_at_call 38; (with_reducible refine (known_yes _ _).mono ?_); rintro e w' ⟨rfl, rfl⟩)
    | (go_at_call 71; (with_reducible refine OW.out.mono ?_); rintro e w2 ⟨rfl, hg⟩; have G2 := Lib.hid hg; clear hg))
  go_ret
  exact ⟨rfl, G2.out⟩
theorem Trim_any (H : Sr w I x) {p : Int} (ho : (ca.owner x.own p).1 = -1) :
    Calls Tryz.prog 43 #[.pointer (some ⟨I.S, 0, none⟩), .int .i64 p] w (Done I (.bool (dropb x p)) (dstep (x, 0) p).1 w) := by
  have OW := Lib.hid (Owner_any H p)
  rw [ho] at OW
  have DR := Lib.hid (fun W (hg : w.grownBy W none) => drop_at (H.new hg) p)
  have HH := Lib.hid H
  generalize dropb x p = b at *
  clear H ho
  go_enter Tryz.func43, Tryz.ntmps43
  go_wp2_with (first
    | (go_at_call 38; (with_reducible refine (known_yes _ _).mono ?_); rintro e w' ⟨rfl, rfl⟩)
    | (go_at_call 71; (with_reducible refine OW.out.mono ?_); rintro e w2 ⟨rfl, hg⟩; have G2 := Lib.hid hg; have f2 := (HH.out.new G2.out).s0; clear hg)
    | (go_at_call 62; (with_reducible refine (DR.out _ G2.out).mono ?_); rintro e w3 ⟨rfl, hs, hg⟩; have H3 := Lib.hid hs; have G3 := Lib.hid ((Gr.new G2.out).trans hg); clear hs hg))
  go_ret
  exact ⟨rfl, H3.out, G3.out⟩
/-- Whose pages a thread's were. -/
def Hs.left (x : Hs) (t : Int) : Hs := { x with own := ca.rest x.own t 0 }
def Hs.pgs (x : Hs) (t : Int) : List Int := bm.rising (ca.gone x.own t 0)
theorem pgs_len (H : Sr w I x) (t : Int) : (x.pgs t).length ≤ 64 := by
  obtain ⟨D, C⟩ := H.at_
  have h := ca.srt_rising (List.Perm.refl (ca.gone x.own t 0)) (ca.gone_nodup C.good t 0)
  unfold Hs.pgs
  rw [← h, ca.srt_length]
  have := C.good.few
  have h2 : (ca.gone x.own t 0).length ≤ x.own.length := by unfold ca.gone; rw [List.length_map]; exact List.length_filter_le _ _
  omega
theorem Quit_any (H : Sr w I x) (t : Int) :
    Calls Tryz.prog 32 #[.pointer (some ⟨I.S, 0, none⟩), .int .i64 t] w (Done I (.int .i64 (drps (x.left t) (x.pgs t)).2) (drps (x.left t) (x.pgs t)).1 w) := by
  obtain ⟨D, C⟩ := H.at_
  have DR := Lib.hid (ca.Drop_any C t)
  have f1 := H.s1
  have HH := Lib.hid H
  have PL := Lib.hid (pgs_len H t)
  have LT := Lib.hid H.lt
  clear H C
  go_enter Tryz.func32, Tryz.ntmps32
  go_wp2_with (first
    | (go_at_call 38; (with_reducible refine (known_yes _ _).mono ?_); rintro e w' ⟨rfl, rfl⟩)
    | (go_at_call 61; (with_reducible refine DR.out.mono ?_); rintro e w2 ⟨A, k, L, D2, rfl, hl, ho, hc, hg⟩; have H2 := Lib.hid (show Sr w2 I (x.left t) from HH.out.cache hc hg); have G2 := Lib.hid (grm (I := I) hg); have RW := Lib.hid (show Row w2 w.heap.size A L (x.pgs t) from row_of ho); have HL := Lib.hid (show L = (x.pgs t).length from hl); clear hl ho hc hg))
  go_loopw [6, 18] (fun f i wr => ∃ j : Nat, j ≤ L ∧ i = .int .i64 j ∧ f = .int .i64 (drps (x.left t) ((x.pgs t).take j)).2 ∧ Sr wr I (drps (x.left t) ((x.pgs t).take j)).1 ∧ Gr I.L w2 wr) (fun _ i _ => L - (intOf i).toNat)
  case atStart => exact ⟨0, by omega, rfl, rfl, H2.out, Gr.refl _ _⟩
  case round =>
    obtain ⟨j, hj, rfl, rfl, hs, hg⟩ := hrel
    have HS := Lib.hid hs
    have HG := Lib.hid hg
    have f0 := hs.s0
    have HB : (drps (x.left t) ((x.pgs t).take j)).2 ≤ j := by
      have := drps_le ((x.pgs t).take j) (x.left t) 0
      rw [List.length_take] at this
      unfold drps
      omega
    clear hs hg
    by_cases h : j < L
    · have hL64 : L ≤ 64 := by have := HL.out; have := PL.out; omega
      obtain ⟨b, off, rfl, hb, hc⟩ := (RW.out.gr HG.out (fun k hk => by have := LT.out k (by simp [Ids.L] at hk; simp [Ids.all]; omega); exact this)) j h
      have MORE := drps_more (x.left t) (x.pgs t) (j := j) (by have := HL.out; omega)
      have DP := Lib.hid (drop_at HS.out ((x.pgs t).getD j 0))
      have DT : ∀ s : Hs × Nat, ∀ p, (dstep (s.1, 0) p).1 = (dstep s p).1 ∧ (dstep s p).2 = if dropb s.1 p = true then s.2 + 1 else s.2 := fun s p => by
        unfold dstep
        by_cases h : dropb s.1 p = true
        · rw [if_pos h, if_pos h, if_pos h]; exact ⟨rfl, rfl⟩
        · rw [if_neg h, if_neg h, if_neg h]; exact ⟨rfl, rfl⟩
      obtain ⟨dt1, dt2⟩ := DT (drps (x.left t) ((x.pgs t).take j)) ((x.pgs t).getD j 0)
      rw [dt1, ← MORE] at DP
      rw [← MORE] at dt2
      clear DT MORE dt1
      generalize hp0 : (x.pgs t).getD j 0 = p0 at *
      generalize hs0 : drps (x.left t) ((x.pgs t).take j) = s0 at *
      generalize hs1 : drps (x.left t) ((x.pgs t).take (j + 1)) = s1 at *
      cases hb1 : dropb s0.1 p0
      · rw [hb1] at DP dt2
        have E2 := Lib.hid (show s1.2 = s0.2 by simpa using dt2)
        have S1 := Lib.hid hs1
        have G0 := Lib.hid hs0
        clear dt2 hs0 hp0 hs1 hb
        go_wp2_with (first
          | (go_at_call 62; (with_reducible refine DP.out.mono ?_); rintro e w3 ⟨rfl, hs, hg⟩; have H3 := Lib.hid hs; have G3 := Lib.hid (HG.out.trans hg); clear hs hg))
        go_roundw
        case rel => exact ⟨j + 1, by omega, by go_num, by rw [S1.out, E2.out], by rw [S1.out]; exact H3.out, G3.out⟩
        case measure => simp [intOf]; omega
      · rw [hb1] at DP dt2
        have E2 := Lib.hid (show s1.2 = s0.2 + 1 by simpa using dt2)
        have S1 := Lib.hid hs1
        have G0 := Lib.hid hs0
        clear dt2 hs0 hp0 hs1 hb
        go_wp2_with (first
          | (go_at_call 62; (with_reducible refine DP.out.mono ?_); rintro e w3 ⟨rfl, hs, hg⟩; have H3 := Lib.hid hs; have G3 := Lib.hid (HG.out.trans hg); clear hs hg))
        go_roundw
        case rel => exact ⟨j + 1, by omega, by go_num, by rw [S1.out, E2.out]; rfl, by rw [S1.out]; exact H3.out, G3.out⟩
        case measure => simp [intOf]; omega
    · have e : (x.pgs t).take j = x.pgs t := List.take_of_length_le (by have := HL.out; omega)
      have HE := Lib.hid e
      clear e
      go_wp2
      go_ret
      exact ⟨by rw [HE.out]; rfl, by rw [← HE.out]; exact HS.out, G2.out.trans HG.out⟩
end
/-! ### New -/
def NewAns (k T : Nat) (w : World) (e : Ending) (w' : World) : Prop :=
  ∃ I : Ids, e = .returned (.pointer (some ⟨I.S, 0, none⟩)) ∧ Sr w' I ⟨List.replicate k 0, List.replicate (32 * k) 0, List.replicate 128 0, [], fun _ => [], [], 0, T⟩ ∧ (∀ q, q ∈ I.all → w.heap.size ≤ q) ∧ w.grownBy w' none
theorem New_any (n t : Int) (k T : Nat) (hk : pg.near n 0 64 = k) (hT : bm.near t 0 9 = T) (w : World) :
    Calls Tryz.prog 21 #[.int .i64 n, .int .i64 t] w (NewAns k T w) := by
  have k64 : k ≤ 64 := by unfold pg.near at hk; repeat' split at hk
                          all_goals omega
  have T9 : T ≤ 9 := by unfold bm.near at hT; repeat' split at hT
                        all_goals omega
  have NC := Lib.hid (fun w => ce.New_any n k hk w)
  have NA := Lib.hid (fun w => ca.New_any t T hT T9 w)
  have CL := Lib.hid (fun w => bm.Clamp_any t 0 9 w)
  rw [hT] at CL
  have OK := Lib.hid (Ok.new k k64)
  clear hk hT
  go_enter Tryz.func21, Tryz.ntmps21
  go_wp2_with (first
    | (go_at_call 46; (with_reducible refine (NC.out _).mono ?_); rintro e w1 ⟨c, h, g, r, m, q, s, rfl, hm, hl, hw⟩; have H1 := Lib.hid hm; have L1 := Lib.hid hl; have G1 := Lib.hid hw; clear hm hl hw)
    | (go_at_call 47; (with_reducible refine (NA.out _).mono ?_); rintro e w2 ⟨C, mb, rfl, hc, hl, hg⟩; have C2 := Lib.hid hc; have L2 := Lib.hid hl; have H2 := Lib.hid (H1.out.new hg); have G2 := Lib.hid (G1.out.trans hg); have S1 := Lib.hid G1.out.size; clear hc hl hg)
    | (go_at_call 45; (with_reducible refine (CL.out _).mono ?_); rintro e w' ⟨rfl, rfl⟩))
  go_ret
  have gg := World.grownBy_alloc w2 (.cells #[.pointer (some ⟨c, 0, none⟩), .pointer (some ⟨C, 0, none⟩), .int .i64 T, .int .i64 0] 80) none
  refine ⟨⟨w2.heap.size, c, h, g, r, m, q, s, C, mb⟩, rfl, ⟨?_, ⟨_, H2.out.new gg, bm.nums_zeros⟩, OK.out, ⟨_, C2.out.new gg⟩⟩, fun q hq => ?_, G2.out.trans gg⟩
  · rw [heap_alloc_new]; rfl
  · have := L1.out; have := L2.out; have := S1.out; have := G2.out.size
    simp only [Ids.all, List.mem_cons, List.not_mem_nil, or_false] at hq
    omega
end Go.Proofs.YtfloleflcoiidaaGreatDoor.st
