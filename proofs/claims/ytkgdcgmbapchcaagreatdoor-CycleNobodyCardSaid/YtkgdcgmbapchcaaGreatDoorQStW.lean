/- Texts that this claim stands on. -/
import Derived.Test.YtkgdcgmbapchcaaGreatDoorQStZ
namespace Go.Proofs.YtkgdcgmbapchcaaGreatDoor.st
open Go.ChangeShapes Go.WideShapes Go.ChangeAt Go.RowKit Go.Maps gen calls cls geos ce
set_option linter.unusedVariables false
set_option maxHeartbeats 4000000
set_option maxRecDepth 100000
theorem below_new {w w' : World} (h : Below w.heap.size w w') : w.grownBy w' none := ⟨h.os, h.tape, h.output, h.size, fun i hi _ => h.block i hi⟩
section
variable {w w' : World} {I : Ids} {x : Hs}
theorem Get_no (H : Sr w I x) {a i : Int} (h : Nof x a i) :
    Calls Tryz.prog 83 #[.pointer (some ⟨I.S, 0, none⟩), .int .i64 a, .int .i64 i] w fun e w' => e = wd.ans 0 0 false ∧ w.grownBy w' none := by
  have FD := Lib.hid (fun W (hg : w.grownBy W none) => field_no (H.new hg) h)
  have G0 := Lib.hid (World.grownBy_alloc w (.cells #[.int .i64 0, .int .i64 0] 36) none)
  have T0 := Lib.hid (wd.Two.new w 36 0 0 rfl)
  clear H h
  go_enter Tryz.func83, Tryz.ntmps83
  go_wp2_with (go_at_call 158; (with_reducible refine (FD.out _ G0.out).mono ?_); rintro e w2 ⟨rfl, hg⟩; have G2 := Lib.hid (G0.out.trans hg); have T2 := wd.Two.below (li.grown_below hg) T0.out; obtain ⟨c0, c1, c2, c3⟩ := T2; clear hg)
  refine bodyPost_ret (v := .tuple #[.agg #[.int .i64 0, .int .i64 0], .bool false]) ?_ rfl ⟨rfl, below_new (((li.grown_below G2.out).setCell (Nat.le_refl _) _).setCell (Nat.le_refl _) _)⟩
  simp [results, Tryz.results83, go_sem, *]
theorem Get_yes (H : Sr w I x) {a s n i : Nat} (hb : Ob x a s n) (hi : i < n) (hz : (n : Int) + 1 ≤ bz x.ks a) {k m : Int} {b : Bool} (e1 : wd.rk (x.xs.getD (a + 1 + i) 0) = k) (e2 : wd.rn (x.xs.getD (a + 1 + i) 0) = m) (e3 : wd.rb (x.xs.getD (a + 1 + i) 0) = b) :
    Calls Tryz.prog 83 #[.pointer (some ⟨I.S, 0, none⟩), .int .i64 a, .int .i64 i] w fun e w' => e = wd.ans k m b ∧ w.grownBy w' none := by
  have FD := Lib.hid (fun W (hg : w.grownBy W none) => field_yes (H.new hg) hb hi)
  have G0 := Lib.hid (World.grownBy_alloc w (.cells #[.int .i64 0, .int .i64 0] 36) none)
  have T0 := Lib.hid (wd.Two.new w 36 0 0 rfl)
  obtain ⟨ws, H0, e⟩ := H.hp
  have hin := bz_in H.ok hb.tk
  have LD := Lib.hid (fun W (hg : w.grownBy W none) => Load_yes (H0.new hg) (a + 1 + i) (by omega))
  have bd := H.ok.bd (a + 1 + i)
  obtain ⟨v, hv⟩ : ∃ v, x.xs.getD (a + 1 + i) 0 = v := ⟨_, rfl⟩
  rw [hv] at LD e1 e2 e3 bd
  have RD := Lib.hid (fun W => wd.Read_any v (WalkArith.wf_i64 (by simpa using bd)) W)
  rw [e1, e2, e3] at RD
  have HH := Lib.hid H
  generalize a + 1 + i = j at *
  clear H H0 e hb hi hin bd hv e1 e2 e3 hz
  go_enter Tryz.func83, Tryz.ntmps83
  go_wp2_with (first
    | (go_at_call 158; (with_reducible refine (FD.out _ G0.out).mono ?_); rintro e w2 ⟨rfl, hg⟩; have G2 := Lib.hid (G0.out.trans hg); have T2 := Lib.hid (wd.Two.below (li.grown_below hg) T0.out); have f2 := (HH.out.new G2.out).s0; clear hg)
    | (go_at_call 159; (with_reducible refine (LD.out _ G2.out).mono ?_); rintro e w' ⟨rfl, rfl⟩)
    | (go_at_call 160; (with_reducible refine (RD.out _).mono ?_); rintro e w3 ⟨rfl, hb⟩; have G3 := Lib.hid (G2.out.trans (below_new hb)); have T3 := wd.Two.below hb T2.out; obtain ⟨c0, c1, c2, c3⟩ := T3; clear hb))
  refine bodyPost_ret (v := .tuple #[.agg #[.int .i64 k, .int .i64 m], .bool b]) ?_ rfl ⟨rfl, below_new (((li.grown_below G3.out).setCell (Nat.le_refl _) _).setCell (Nat.le_refl _) _)⟩
  simp [results, Tryz.results83, go_sem, *]
theorem Free_of (H : Sr w I x) {a : Int} {b : Bool} {y : Hs}
    (GV : Calls Tryz.prog 260 #[.pointer (some ⟨I.c, 0, none⟩), .int .i64 a] w (Done I (.bool b) y w)) :
    Calls Tryz.prog 214 #[.pointer (some ⟨I.S, 0, none⟩), .int .i64 a] w (Done I (.bool b) y w) := by
  have f0 := H.s0
  have GV := Lib.hid GV
  clear H
  go_enter Tryz.func214, Tryz.ntmps214
  go_wp2_with (first
    | (go_at_call 127; (with_reducible refine (known_yes _ _).mono ?_); rintro e w' ⟨rfl, rfl⟩)
    | (go_at_call 260; (with_reducible refine GV.out.mono ?_); rintro e w2 ⟨rfl, hs, hg⟩; have H2 := Lib.hid hs; have G2 := Lib.hid hg; clear hs hg))
  go_ret
  exact ⟨rfl, H2.out, G2.out⟩
theorem at_tk (H : Sr w I x) {a : Int} (ha : a ∈ x.tk) : ∃ A P : Nat, a = A ∧ (A : Int) / 32 = P ∧ pgOf A = P ∧ P < 64 ∧ P < x.ks.length ∧ ((pg.kind x.ks P = 5 ∧ (A : Int) % 32 = 0) ∨ ((1 ≤ pg.kind x.ks P ∧ pg.kind x.ks P ≤ 4) ∧ (A : Int) % sz (pg.kind x.ks P) = 0)) := by
  obtain ⟨ws, H0, e⟩ := H.hp
  have O := H.ok
  rw [← e] at O ha
  exact tkn_at O ha
theorem Free_large (H : Sr w I x) {a P : Nat} (ha : (a : Int) ∈ x.tk) (hp : pgOf a = P) (hP : (a : Int) / 32 = P) (hk : pg.kind x.ks P = 5) :
    Calls Tryz.prog 214 #[.pointer (some ⟨I.S, 0, none⟩), .int .i64 a] w (Done I (.bool true) (x.goneL a P) w) := by
  obtain ⟨ws, H0, e⟩ := H.hp
  have O := H.ok
  rw [← e] at O
  refine Free_of H ((Give_large' H0 O (by rw [e]; exact ha) hp hk).mono fun e' w' ⟨ws2, he, hh, ht, hg⟩ => ⟨he, ?_, gr4 hg⟩)
  rw [e] at ht
  exact H.heap hh ht (H.ok.gone_large ha hP hk) hg
theorem Free_cell (H : Sr w I x) {a P : Nat} {i : Int} (ha : (a : Int) ∈ x.tk) (hp : pgOf a = P) (hP : (a : Int) / 32 = P) (p64 : P < 64) (hk : 1 ≤ pg.kind x.ks P ∧ pg.kind x.ks P ≤ 4) (hm : (a : Int) % sz (pg.kind x.ks P) = 0) (hi : (a : Int) % 32 / sz (pg.kind x.ks P) = i) :
    Calls Tryz.prog 214 #[.pointer (some ⟨I.S, 0, none⟩), .int .i64 a] w (Done I (.bool true) (x.goneC a P i) w) := by
  obtain ⟨ws, H0, e⟩ := H.hp
  have O := H.ok
  rw [← e] at O
  refine Free_of H ((Give_cell' H0 O (by rw [e]; exact ha) hp hP p64 hk hm hi).mono fun e' w' ⟨ws2, he, hh, ht, hg⟩ => ⟨he, ?_, gr4 hg⟩)
  rw [e] at ht
  exact H.heap hh ht (H.ok.gone_cell ha hP hk hi).1 hg
end
end Go.Proofs.YtkgdcgmbapchcaaGreatDoor.st
namespace Go.Proofs.YtkgdcgmbapchcaaGreatDoor.st
open Go.ChangeShapes Go.WideShapes Go.ChangeAt Go.RowKit Go.Maps gen calls cls geos ce
set_option linter.unusedVariables false
set_option maxHeartbeats 4000000
set_option maxRecDepth 100000
def dropb (x : Hs) (p : Int) : Bool := decide (1 ≤ pg.kind x.ks p) && decide (pg.kind x.ks p ≤ 4) && decide (cl (pg.kind x.ks p) ≤ (x.fr p.toNat).length)
def dstep (s : Hs × Nat) (p : Int) : Hs × Nat := if dropb s.1 p then (s.1.dropped p.toNat, s.2 + 1) else s
section
variable {w w' : World} {I : Ids} {x : Hs}
theorem drop_at (H : Sr w I x) (p : Int) :
    Calls Tryz.prog 163 #[.pointer (some ⟨I.c, 0, none⟩), .int .i64 p] w (Done I (.bool (dropb x p)) (dstep (x, 0) p).1 w) := by
  obtain ⟨ws, H0, e⟩ := H.hp
  have O := H.ok
  rw [← e] at O
  rcases drop_dec O p with ⟨P, rfl, hk, h1, h2, h3⟩ | ⟨h1, h2⟩
  · have hd : dropb x P = true := by unfold dropb; rw [Int.toNat_natCast]; simp; exact ⟨⟨hk.1, hk.2⟩, h1⟩
    rw [hd]
    unfold dstep
    rw [if_pos hd]
    refine (Drop_yes H0 O.kds P h2 (by rw [h3]; exact h1)).mono fun e' w' ⟨ws2, he, hh, ht, hg⟩ => ⟨he, ?_, gr4 hg⟩
    have := H.heap hh (ht.trans e) (H.ok.drop hk h1) hg
    simpa [Hs.dropped] using this
  · have hd : dropb x p = false := by
      unfold dropb
      by_cases hk : 1 ≤ pg.kind x.ks p ∧ pg.kind x.ks p ≤ 4
      · have := h2 hk
        simp; omega
      · simp; omega
    rw [hd]
    unfold dstep
    rw [hd, if_neg (by decide)]
    exact (Drop_no H0 O.kds p h1).mono fun e' w' ⟨he, hg⟩ => ⟨he, H.new hg, .new hg⟩
theorem Trim_own (H : Sr w I x) {p : Int} (ho : (ca.owner x.own p).1 ≠ -1) :
    Calls Tryz.prog 147 #[.pointer (some ⟨I.S, 0, none⟩), .int .i64 p] w fun e w' => e = bool1 false ∧ w.grownBy w' none := by
  have OW := Lib.hid (Owner_any H p)
  have t1 : ((ca.owner x.own p).1 == -1) = false := by simpa using ho
  generalize (ca.owner x.own p).1 = o at *
  clear H ho
  go_enter Tryz.func147, Tryz.ntmps147
  go_wp2_with (first
    | (go_at_call 127; (with_reducible refine (known_yes _ _).mono ?_); rintro e w' ⟨rfl, rfl⟩)
    | (go_at_call 215; (with_reducible refine OW.out.mono ?_); rintro e w2 ⟨rfl, hg⟩; have G2 := Lib.hid hg; clear hg))
  go_ret
  exact ⟨rfl, G2.out⟩
theorem Trim_any (H : Sr w I x) {p : Int} (ho : (ca.owner x.own p).1 = -1) :
    Calls Tryz.prog 147 #[.pointer (some ⟨I.S, 0, none⟩), .int .i64 p] w (Done I (.bool (dropb x p)) (dstep (x, 0) p).1 w) := by
  have OW := Lib.hid (Owner_any H p)
  rw [ho] at OW
  have DR := Lib.hid (fun W (hg : w.grownBy W none) => drop_at (H.new hg) p)
  have HH := Lib.hid H
  generalize dropb x p = b at *
  clear H ho
  go_enter Tryz.func147, Tryz.ntmps147
  go_wp2_with (first
    | (go_at_call 127; (with_reducible refine (known_yes _ _).mono ?_); rintro e w' ⟨rfl, rfl⟩)
    | (go_at_call 215; (with_reducible refine OW.out.mono ?_); rintro e w2 ⟨rfl, hg⟩; have G2 := Lib.hid hg; have f2 := (HH.out.new G2.out).s0; clear hg)
    | (go_at_call 163; (with_reducible refine (DR.out _ G2.out).mono ?_); rintro e w3 ⟨rfl, hs, hg⟩; have H3 := Lib.hid hs; have G3 := Lib.hid ((Gr.new G2.out).trans hg); clear hs hg))
  go_ret
  exact ⟨rfl, H3.out, G3.out⟩
end
def NewAns (k T : Nat) (w : World) (e : Ending) (w' : World) : Prop :=
  ∃ I : Ids, e = .returned (.pointer (some ⟨I.S, 0, none⟩)) ∧ Sr w' I ⟨List.replicate k 0, List.replicate (32 * k) 0, List.replicate 128 0, [], fun _ => [], [], 0, T⟩ ∧ (∀ q, q ∈ I.all → w.heap.size ≤ q) ∧ w.grownBy w' none
theorem New_any (n t : Int) (k T : Nat) (hk : pg.near n 0 64 = k) (hT : bm.near t 0 9 = T) (w : World) :
    Calls Tryz.prog 100 #[.int .i64 n, .int .i64 t] w (NewAns k T w) := by
  have k64 : k ≤ 64 := by unfold pg.near at hk; repeat' split at hk
                          all_goals omega
  have T9 : T ≤ 9 := by unfold bm.near at hT; repeat' split at hT
                        all_goals omega
  have NC := Lib.hid (fun w => ce.New_any n k hk w)
  have NA := Lib.hid (fun w => ca.New_any t T hT T9 w)
  have CL := Lib.hid (fun w => bm.Clamp_any t 0 9 w)
  rw [hT] at CL
  have OK := Lib.hid (Ok.new k k64)
  clear hk hT
  go_enter Tryz.func100, Tryz.ntmps100
  go_wp2_with (first
    | (go_at_call 171; (with_reducible refine (NC.out _).mono ?_); rintro e w1 ⟨c, h, g, r, m, q, s, rfl, hm, hl, hw⟩; have H1 := Lib.hid hm; have L1 := Lib.hid hl; have G1 := Lib.hid hw; clear hm hl hw)
    | (go_at_call 172; (with_reducible refine (NA.out _).mono ?_); rintro e w2 ⟨C, mb, rfl, hc, hl, hg⟩; have C2 := Lib.hid hc; have L2 := Lib.hid hl; have H2 := Lib.hid (H1.out.new hg); have G2 := Lib.hid (G1.out.trans hg); have S1 := Lib.hid G1.out.size; clear hc hl hg)
    | (go_at_call 104; (with_reducible refine (CL.out _).mono ?_); rintro e w' ⟨rfl, rfl⟩))
  go_ret
  have gg := World.grownBy_alloc w2 (.cells #[.pointer (some ⟨c, 0, none⟩), .pointer (some ⟨C, 0, none⟩), .int .i64 T, .int .i64 0] 149) none
  refine ⟨⟨w2.heap.size, c, h, g, r, m, q, s, C, mb⟩, rfl, ⟨?_, ⟨_, H2.out.new gg, bm.nums_zeros⟩, OK.out, ⟨_, C2.out.new gg⟩⟩, fun q hq => ?_, G2.out.trans gg⟩
  · rw [heap_alloc_new]; rfl
  · have := L1.out; have := L2.out; have := S1.out; have := G2.out.size
    simp only [Ids.all, List.mem_cons, List.not_mem_nil, or_false] at hq
    omega
end Go.Proofs.YtkgdcgmbapchcaaGreatDoor.st
