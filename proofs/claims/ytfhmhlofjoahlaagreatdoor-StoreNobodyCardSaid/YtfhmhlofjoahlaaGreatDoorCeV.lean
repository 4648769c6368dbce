/- Joined: CeE, CeF. -/
import Derived.Test.YtfhmhlofjoahlaaGreatDoorCeD
/- What Large, Give and Drop do to a heap of cells. -/
namespace Go.Proofs.YtfhmhlofjoahlaaGreatDoor.ce
open Go.ChangeShapes Go.WideShapes Go.ChangeAt Go.RowKit gen calls cls geos
set_option linter.unusedVariables false
set_option maxHeartbeats 4000000
set_option maxRecDepth 100000
section
variable {w w' : World} {c h g r m q s : Nat} {ks xs cs : List Int} {ws : List Nat}
theorem Large_no (H : Hp w c h g r m q s ks xs cs ws) (n : Int) (hno : 1 ≤ n → pg.find n 0 ks = none) :
    Calls Tryz.prog 78 #[.pointer (some ⟨c, 0, none⟩), .int .i64 n] w fun e w' => e = rI 0 false ∧ w.grownBy w' none := by
  have TK : Hid (Calls Tryz.prog 102 #[.pointer (some ⟨g, 0, none⟩), .int .i64 n] w fun e w' => e = rI 0 false ∧ w.grownBy w' none) := by
    by_cases hs : 1 ≤ n
    · exact pg.Span_none hs (pg.lowest_none H.tab hs (hno hs))
    · exact (pg.Span_below (q := some ⟨g, 0, none⟩) w (by omega)).mono fun e w' ⟨h1, h2⟩ => ⟨h1, by subst h2; exact World.grownBy.refl _ _⟩
  have f := H.h0
  have H0 := Lib.hid H
  clear H hno
  go_enter Tryz.func78, Tryz.ntmps78
  go_wp2_with (first
    | (go_at_call 52; (with_reducible refine (made_yes H0.out).mono ?_); rintro e w' ⟨rfl, rfl⟩)
    | (go_at_call 102; (with_reducible refine TK.out.mono ?_); rintro e w1 ⟨rfl, hg⟩; have G1 := Lib.hid hg; clear hg))
  go_ret2
  exact ⟨rfl, G1.out⟩
theorem Large_yes (H : Hp w c h g r m q s ks xs cs ws) (n : Nat) (h1 : 1 ≤ n) {p : Nat} (hf : pg.find n 0 ks = some p) (hx : xs.length = 32 * ks.length) {a z : Nat} (ha : a = p * 32) (hz : z = n * 32) (hn : (a : Int) ∉ bm.nums ws) :
    Calls Tryz.prog 78 #[.pointer (some ⟨c, 0, none⟩), .int .i64 n] w (Did (.tuple #[.int .i64 a, .bool true]) c h g r m q s (pg.spanN ks p n) (mm.fillN xs a 0 z) cs (bm.rising (bm.nums ws ++ [(a : Int)])) w) := by
  obtain ⟨hp, _, _, hpn⟩ := pg.find_at (n := n) (by omega) hf
  have hl := H.tab.le
  have n64 : n ≤ 64 := by omega
  have TK := Lib.hid (pg.Span_some H.tab h1 hf)
  have E1 := enk_iff.mpr (show 0 ≤ (p : Int) ∧ 1 ≤ (n : Int) ∧ (p : Int) + n ≤ 64 by omega)
  have E2 : enf (p : Int) n = a := by unfold enf; rw [if_pos E1]; omega
  have FP := Lib.hid (show fits (p : Int) = true by simp [fits]; omega)
  have FN := Lib.hid (show fits (n : Int) = true by simp [fits]; omega)
  have HZ := Lib.hid (show (n : Int) * 32 = z by omega)
  have GR := Lib.hid (fun W (hW : Hp W c h g r m q s (pg.spanN ks p n) xs cs ws) => grant_any hW a z (by omega) (by omega) hn)
  have f := H.h0
  have H0 := Lib.hid H
  clear H h1 hf hx hp hpn hl ha hn hz
  go_enter Tryz.func78, Tryz.ntmps78
  go_wp2_with (first
    | (go_at_call 52; (with_reducible refine (made_yes H0.out).mono ?_); rintro e w' ⟨rfl, rfl⟩)
    | (go_at_call 102; (with_reducible refine TK.out.mono ?_); rintro e w1 ⟨rfl, ht, hg⟩; have H1 := Lib.hid (H0.out.pages ht hg); have G1 := Lib.hid (Gr.one (L := [h, r, q, s]) hg (by simp)); clear ht hg)
    | (go_at_call 93; (with_reducible refine (ends_any _ _ _ FP.out FN.out).mono ?_); rintro e w' ⟨rfl, rfl⟩; rw [E1, E2])
    | (go_at_call 75; rw [HZ.out]; (with_reducible refine (GR.out _ H1.out).mono ?_); rintro e w6 ⟨ws6, rfl, hh, hx, hg⟩; have H6 := Lib.hid hh; have X6 := Lib.hid hx; have G6 := Lib.hid hg; clear hh hx hg))
  go_ret2
  exact ⟨ws6, rfl, H6.out, X6.out, G1.out.trans G6.out⟩

/-- How many free cells a chain has. -/
theorem field_n (x y : Int) : ∀ w : World, (Instr.field 74 (.agg #[.int .i64 x, .int .i64 y]) 1).run Tryz.prog w = .ok (.int .i64 y) w := fun _ => by kernel_rfl
theorem Drop_no (H : Hp w c h g r m q s ks xs cs ws) (hks : pg.Ks ks) (p : Int) (hno : cl (pg.kind ks p) = 0 ∨ ln ks cs p < cl (pg.kind ks p)) :
    Calls Tryz.prog 32 #[.pointer (some ⟨c, 0, none⟩), .int .i64 p] w fun e w' => e = .returned (.bool false) ∧ w.grownBy w' none := by
  have F := Lib.hid (kind_fits hks p)
  have L := Lib.hid (left_any H hks p)
  have K := Lib.hid (pg.Kind_any H.tab p)
  have f := H.h0
  have H0 := Lib.hid H
  generalize pg.kind ks p = k at *
  generalize lf ks cs p = x at *
  generalize ln ks cs p = y at *
  clear H hks
  by_cases c0 : cl k = 0
  · clear hno
    go_enter Tryz.func32, Tryz.ntmps32
    go_wp2_with (first
      | (go_at_call 52; (with_reducible refine (made_yes H0.out).mono ?_); rintro e w' ⟨rfl, rfl⟩)
      | (go_at_call 56; (with_reducible refine K.out.mono ?_); rintro e w' ⟨rfl, rfl⟩)
      | (go_at_call 48; (with_reducible refine (cells_any _ _ F.out).mono ?_); rintro e w' ⟨rfl, rfl⟩; rw [c0]))
    go_ret
    exact ⟨rfl, World.grownBy.refl _ _⟩
  · have h1 : decide (y < cl k) = true := by simpa using hno.resolve_left c0
    have e0 : (cl k == 0) = false := by simpa using c0
    clear hno c0
    generalize hc : cl k = z at *
    have HC := Lib.hid hc
    have QF := field_n x y
    clear hc
    go_enter Tryz.func32, Tryz.ntmps32
    go_wp2_with (first
      | (go_at_call 52; (with_reducible refine (made_yes H0.out).mono ?_); rintro e w' ⟨rfl, rfl⟩)
      | (go_at_call 56; (with_reducible refine K.out.mono ?_); rintro e w' ⟨rfl, rfl⟩)
      | (go_at_call 63; (with_reducible refine L.out.mono ?_); rintro e w2 ⟨rfl, hg⟩; have G2 := Lib.hid hg; clear hg)
      | (go_at_call 48; (with_reducible refine (cells_any _ _ F.out).mono ?_); rintro e w' ⟨rfl, rfl⟩; rw [HC.out]))
    go_ret
    exact ⟨rfl, G2.out⟩
theorem Drop_yes (H : Hp w c h g r m q s ks xs cs ws) (hks : pg.Ks ks) (p : Nat) (h0 : cl (pg.kind ks p) ≠ 0) (h1 : cl (pg.kind ks p) ≤ ln ks cs p) :
    Calls Tryz.prog 32 #[.pointer (some ⟨c, 0, none⟩), .int .i64 p] w (Did (.bool true) c h g r m q s (ks.set p 0) xs cs (bm.nums ws) w) := by
  have F := Lib.hid (kind_fits hks p)
  have L := Lib.hid (left_any H hks p)
  have K := Lib.hid (pg.Kind_any H.tab p)
  have X := Lib.hid (fun W (hg : w.grownBy W none) => pg.Free_any (H.new hg).tab hks p)
  have k1 := cl_in h0
  rw [pg.siz_small k1] at X
  have f := H.h0
  have H0 := Lib.hid H
  have C0 := Lib.hid (fun W (hg : w.grownBy W none) => (H.new hg).h0)
  generalize pg.kind ks p = k at *
  generalize lf ks cs p = x at *
  generalize ln ks cs p = y at *
  have e1 : decide (y < cl k) = false := by simpa using h1
  have e0 : (cl k == 0) = false := by simpa using h0
  clear H hks h0 h1 k1
  generalize hc : cl k = z at *
  have HC := Lib.hid hc
  have QF := field_n x y
  clear hc
  go_enter Tryz.func32, Tryz.ntmps32
  go_wp2_with (first
    | (go_at_call 52; (with_reducible refine (made_yes H0.out).mono ?_); rintro e w' ⟨rfl, rfl⟩)
    | (go_at_call 56; (with_reducible refine K.out.mono ?_); rintro e w' ⟨rfl, rfl⟩)
    | (go_at_call 63; (with_reducible refine L.out.mono ?_); rintro e w2 ⟨rfl, hg⟩; have G2 := Lib.hid hg; have f2 := C0.out _ G2.out; clear hg)
    | (go_at_call 48; (with_reducible refine (cells_any _ _ F.out).mono ?_); rintro e w' ⟨rfl, rfl⟩; rw [HC.out])
    | (go_at_call 58; (with_reducible refine (X.out _ G2.out).mono ?_); rintro e w3 ⟨rfl, ht, hg⟩; have H3 := Lib.hid ((H0.out.new G2.out).pages ht hg); have G3 := Lib.hid ((Gr.new (L := [h, r, q, s]) G2.out).trans (Gr.one hg (by simp))); clear ht hg))
  go_ret
  exact ⟨ws, rfl, H3.out, rfl, G3.out⟩

theorem Give_no (H : Hp w c h g r m q s ks xs cs ws) (a : Int) (ha : a ∉ bm.nums ws) :
    Calls Tryz.prog 29 #[.pointer (some ⟨c, 0, none⟩), .int .i64 a] w (Did (.bool false) c h g r m q s ks xs cs (bm.nums ws) w) := by
  have R := Lib.hid (bm.Remove_any H.set a)
  rw [decide_eq_false ha, bm.filter_all ha] at R
  have f := H.hs
  have H0 := Lib.hid H
  clear H ha
  go_enter Tryz.func29, Tryz.ntmps29
  go_wp2_with (first
    | (go_at_call 52; (with_reducible refine (made_yes H0.out).mono ?_); rintro e w' ⟨rfl, rfl⟩)
    | (go_at_call 55; (with_reducible refine R.out.mono ?_); rintro e w1 ⟨ws1, rfl, hs, hx, hg⟩; have H1 := Lib.hid (H0.out.takes hs hg); have X1 := Lib.hid hx; have G1 := Lib.hid (Gr.one (L := [h, r, q, s]) hg (by simp)); clear hs hx hg))
  go_ret
  exact ⟨ws1, rfl, H1.out, X1.out, G1.out⟩
/-- A large object given back. -/
theorem Give_large (H : Hp w c h g r m q s ks xs cs ws) (hks : pg.Ks ks) (a p : Nat) (ha : (a : Int) ∈ bm.nums ws) (hp : pgOf a = p) (hk : cek (pg.kind ks p) a = false) :
    Calls Tryz.prog 29 #[.pointer (some ⟨c, 0, none⟩), .int .i64 a] w (Did (.bool true) c h g r m q s (pg.fillN ks p 0 (pg.siz ks p).toNat) xs cs ((bm.nums ws).filter fun y => decide (y ≠ (a : Int))) w) := by
  have R := Lib.hid (bm.Remove_any H.set a)
  rw [decide_eq_true ha] at R
  have F := Lib.hid (kind_fits hks p)
  have HK := Lib.hid hks
  have f := H.hs
  have H0 := Lib.hid H
  clear H ha hks
  go_enter Tryz.func29, Tryz.ntmps29
  go_wp2_with (first
    | (go_at_call 52; (with_reducible refine (made_yes H0.out).mono ?_); rintro e w' ⟨rfl, rfl⟩)
    | (go_at_call 55; (with_reducible refine R.out.mono ?_); rintro e w1 ⟨ws1, rfl, hs, hx, hg⟩; have H1 := Lib.hid (H0.out.takes hs hg); have X1 := Lib.hid hx; have G1 := Lib.hid (Gr.one (L := [h, r, q, s]) hg (by simp)); have f1 := H1.out.h0; clear hs hx hg)
    | (go_at_call 35; (with_reducible refine (page_any _ _).mono ?_); rintro e w' ⟨rfl, rfl⟩; rw [hp])
    | (go_at_call 56; (with_reducible refine (pg.Kind_any H1.out.tab _).mono ?_); rintro e w' ⟨rfl, rfl⟩)
    | (go_at_call 57; (with_reducible refine (cell_any _ _ _ F.out).mono ?_); rintro e w' ⟨rfl, rfl⟩; rw [hk])
    | (go_at_call 58; (with_reducible refine (pg.Free_any H1.out.tab HK.out _).mono ?_); rintro e w3 ⟨rfl, ht, hg⟩; have H3 := Lib.hid (H1.out.pages ht hg); have G3 := Lib.hid (G1.out.trans (Gr.one hg (by simp))); clear ht hg))
  go_ret
  exact ⟨ws1, rfl, H3.out, X1.out, G3.out⟩
/-- A cell given back. -/
theorem Give_cell (H : Hp w c h g r m q s ks xs cs ws) (hks : pg.Ks ks) (a p : Nat) (i : Int) (ha : (a : Int) ∈ bm.nums ws) (hp : pgOf a = p) (p64 : p < 64) (hk : cek (pg.kind ks p) a = true) (hi : cei (pg.kind ks p) a = i) (hai : ((p : Int) * 32 + i * sz (pg.kind ks p)).toNat = a)
    (hgv : ch.gv xs.length p (pg.kind ks p) (cf cs p) (cn cs p) i = true) :
    Calls Tryz.prog 29 #[.pointer (some ⟨c, 0, none⟩), .int .i64 a] w (Did (.bool true) c h g r m q s ks (xs.set a (-1 - cf cs p)) (cput cs p i (cn cs p + 1)) ((bm.nums ws).filter fun y => decide (y ≠ (a : Int))) w) := by
  have R := Lib.hid (bm.Remove_any H.set a)
  rw [decide_eq_true ha] at R
  have F := Lib.hid (kind_fits hks p)
  have FP := Lib.hid (show fits (p : Int) = true by simp [fits]; omega)
  have GV := Lib.hid (fun W (hm : mm.MemAt W m q xs) => ch.Give_yes _ _ _ _ _ hm FP.out F.out hgv)
  rw [hai] at GV
  have HI := Lib.hid hi
  have CF := Lib.hid (show cs.getD (2 * p) 0 = cf cs p by simp [cf])
  have CN := Lib.hid (show cs.getD (2 * p + 1) 0 = cn cs p by simp [cn])
  have f := H.hs
  have H0 := Lib.hid H
  generalize cf cs p = x at *
  generalize cn cs p = y at *
  clear H ha hks hgv hai hi
  go_enter Tryz.func29, Tryz.ntmps29
  go_wp2_with (first
    | (go_at_call 52; (with_reducible refine (made_yes H0.out).mono ?_); rintro e w' ⟨rfl, rfl⟩)
    | (go_at_call 55; (with_reducible refine R.out.mono ?_); rintro e w1 ⟨ws1, rfl, hs, hx, hg⟩; have H1 := Lib.hid (H0.out.takes hs hg); have X1 := Lib.hid hx; have G1 := Lib.hid (Gr.one (L := [h, r, q, s]) hg (by simp)); have f1 := H1.out.h0; clear hs hx hg)
    | (go_at_call 35; (with_reducible refine (page_any _ _).mono ?_); rintro e w' ⟨rfl, rfl⟩; rw [hp])
    | (go_at_call 56; (with_reducible refine (pg.Kind_any H1.out.tab _).mono ?_); rintro e w' ⟨rfl, rfl⟩)
    | (go_at_call 57; (with_reducible refine (cell_any _ _ _ F.out).mono ?_); rintro e w' ⟨rfl, rfl⟩; rw [hk, HI.out]))
  have f2 := H1.out.h1
  have y1 := H1.out.at (i := 2 * p) (by omega)
  have y2 := H1.out.at (i := 2 * p + 1) (by omega)
  rw [show 2 + 2 * p = 2 + p * 2 by omega, CF.out] at y1
  rw [show 2 + (2 * p + 1) = 2 + p * 2 + 1 by omega, CN.out] at y2
  go_region_with (first
    | (go_at_call 59; (with_reducible refine (GV.out _ H1.out.drew.mem).mono ?_); rintro e w2 ⟨rfl, hm, hg⟩; have H2 := Lib.hid (H1.out.drew.words hm hg (by rw [List.length_set])); have G2 := Lib.hid (G1.out.drew.trans (Gr.one hg (by simp))); have z1 := H2.out.fz (2 + p * 2); have z2 := H2.out.fz (2 + p * 2 + 1); have y3 := H2.out.at (i := 2 * p) (by omega); have y4 := H2.out.at (i := 2 * p + 1) (by omega); rw [show 2 + 2 * p = 2 + p * 2 by omega, CF.out] at y3; rw [show 2 + (2 * p + 1) = 2 + p * 2 + 1 by omega, CN.out] at y4; clear hm hg))
  all_goals
    go_wp2
    go_ret
    exact ⟨ws1, rfl, H2.out.chain p64 _ _, X1.out, G2.out.trans ((Gr.set _ _ _ _ (by simp)).trans (Gr.set _ _ _ _ (by simp)))⟩
end
end Go.Proofs.YtfhmhlofjoahlaaGreatDoor.ce

/- What the questions to a heap of cells answer. -/
namespace Go.Proofs.YtfhmhlofjoahlaaGreatDoor.ce
open Go.ChangeShapes Go.WideShapes Go.ChangeAt Go.RowKit gen calls cls geos
set_option linter.unusedVariables false
set_option maxHeartbeats 4000000
set_option maxRecDepth 100000
abbrev int1 (n : Int) : Ending := .returned (.int .i64 n)
/-- Where what an address is in begins. -/
def bs (ks tk : List Int) (a : Int) : Int :=
  let p := pg.frs ks (pgOf a)
  if enk p 1 = true then
    let f := if bsOf (pg.kind ks p) a = -1 then enf p 1 else bsOf (pg.kind ks p) a
    if f ∈ tk then f else -1
  else -1
section
variable {w w' : World} {c h g r m q s : Nat} {ks xs cs : List Int} {ws : List Nat}
theorem Left_any (H : Hp w c h g r m q s ks xs cs ws) (hks : pg.Ks ks) (p : Int) :
    Calls Tryz.prog 80 #[.pointer (some ⟨c, 0, none⟩), .int .i64 p] w fun e w' => e = int1 (ln ks cs p) ∧ w.grownBy w' none := by
  have L := Lib.hid (left_any H hks p)
  have H0 := Lib.hid H
  have QF := field_n (lf ks cs p) (ln ks cs p)
  generalize lf ks cs p = x at *
  generalize ln ks cs p = y at *
  clear H hks
  go_enter Tryz.func80, Tryz.ntmps80
  go_wp2_with (first
    | (go_at_call 52; (with_reducible refine (made_yes H0.out).mono ?_); rintro e w' ⟨rfl, rfl⟩)
    | (go_at_call 63; (with_reducible refine L.out.mono ?_); rintro e w2 ⟨rfl, hg⟩; have G2 := Lib.hid hg; clear hg))
  go_ret
  exact ⟨rfl, G2.out⟩
theorem Is_any (H : Hp w c h g r m q s ks xs cs ws) (a : Int) :
    Calls Tryz.prog 64 #[.pointer (some ⟨c, 0, none⟩), .int .i64 a] w fun e w' => e = .returned (.bool (decide (a ∈ bm.nums ws))) ∧ bm.Drew w w' := by
  have R := Lib.hid (bm.Has_any H.set a)
  have f := H.hs
  have H0 := Lib.hid H
  generalize decide (a ∈ bm.nums ws) = b at *
  clear H
  go_enter Tryz.func64, Tryz.ntmps64
  go_wp2_with (first
    | (go_at_call 52; (with_reducible refine (made_yes H0.out).mono ?_); rintro e w' ⟨rfl, rfl⟩)
    | (go_at_call 94; (with_reducible refine R.out.mono ?_); rintro e w2 ⟨rfl, k, rfl⟩))
  go_ret
  exact ⟨rfl, k, rfl⟩
theorem Kind_any (H : Hp w c h g r m q s ks xs cs ws) (p : Int) :
    Calls Tryz.prog 38 #[.pointer (some ⟨c, 0, none⟩), .int .i64 p] w fun e w' => e = int1 (pg.kind ks p) ∧ w = w' := by
  have K := Lib.hid (pg.Kind_any H.tab p)
  have f := H.h0
  have H0 := Lib.hid H
  clear H
  go_enter Tryz.func38, Tryz.ntmps38
  go_wp2_with (first
    | (go_at_call 52; (with_reducible refine (made_yes H0.out).mono ?_); rintro e w' ⟨rfl, rfl⟩)
    | (go_at_call 56; (with_reducible refine K.out.mono ?_); rintro e w' ⟨rfl, rfl⟩))
  go_ret
  exact ⟨rfl, rfl⟩
theorem Free_any (H : Hp w c h g r m q s ks xs cs ws) :
    Calls Tryz.prog 37 #[.pointer (some ⟨c, 0, none⟩)] w fun e w' => e = int1 (pg.zeros ks) ∧ w.grownBy w' none := by
  have K := Lib.hid (pg.Count_any H.tab)
  have f := H.h0
  have H0 := Lib.hid H
  clear H
  go_enter Tryz.func37, Tryz.ntmps37
  go_wp2_with (first
    | (go_at_call 52; (with_reducible refine (made_yes H0.out).mono ?_); rintro e w' ⟨rfl, rfl⟩)
    | (go_at_call 69; (with_reducible refine K.out.mono ?_); rintro e w2 ⟨rfl, hg⟩; have G2 := Lib.hid hg; clear hg))
  go_ret
  exact ⟨rfl, G2.out⟩
theorem Load_yes (H : Hp w c h g r m q s ks xs cs ws) (a : Nat) (ha : a < xs.length) :
    Calls Tryz.prog 27 #[.pointer (some ⟨c, 0, none⟩), .int .i64 a] w fun e w' => e = rI (xs.getD a 0) true ∧ w = w' := by
  have K := Lib.hid (mm.Load_yes H.mem a ha)
  have f := H.h1
  have H0 := Lib.hid H
  generalize xs.getD a 0 = v at *
  clear H ha
  go_enter Tryz.func27, Tryz.ntmps27
  go_wp2_with (first
    | (go_at_call 52; (with_reducible refine (made_yes H0.out).mono ?_); rintro e w' ⟨rfl, rfl⟩)
    | (go_at_call 53; (with_reducible refine K.out.mono ?_); rintro e w' ⟨rfl, rfl⟩))
  go_ret2
  exact ⟨rfl, rfl⟩
theorem All_any (H : Hp w c h g r m q s ks xs cs ws) (hT : bm.Tab w) (h0 : s ≠ 0) :
    Calls Tryz.prog 34 #[.pointer (some ⟨c, 0, none⟩)] w (bm.ListAns (bm.nums ws) w) := by
  have R := Lib.hid (bm.All_yes H.set hT h0)
  have f := H.hs
  have H0 := Lib.hid H
  generalize bm.nums ws = l at *
  clear H hT h0
  go_enter Tryz.func34, Tryz.ntmps34
  go_wp2_with (first
    | (go_at_call 52; (with_reducible refine (made_yes H0.out).mono ?_); rintro e w' ⟨rfl, rfl⟩)
    | (go_at_call 66; (with_reducible refine R.out.mono ?_); rintro e w2 ⟨A, d, rfl, ho, hg⟩; have O2 := Lib.hid ho; have G2 := Lib.hid hg; clear ho hg))
  go_ret
  exact ⟨A, d, rfl, O2.out, G2.out⟩
theorem frs_wide {ks : List Int} (hl : ks.length ≤ 64) (p : Int) : -1 ≤ pg.frs ks p ∧ pg.frs ks p ≤ 64 := by
  unfold pg.frs
  split
  · omega
  · rename_i h
    have := pg.siz_in h
    have := pg.siz_wide ks (pg.lowI ks p)
    omega
theorem Base_any (H : Hp w c h g r m q s ks xs cs ws) (hks : pg.Ks ks) (a : Int) :
    Calls Tryz.prog 61 #[.pointer (some ⟨c, 0, none⟩), .int .i64 a] w fun e w' => e = int1 (bs ks (bm.nums ws) a) ∧ bm.Drew w w' := by
  have PG := Lib.hid (fun w => (page_any a w).mono fun e w' ⟨h1, h2⟩ => (⟨h1, h2.symm⟩ : e = int1 (pgOf a) ∧ w' = w))
  have FF := Lib.hid (fun n => (pg.First_any (H.tab.drewN n) hks (pgOf a)).mono fun e w' ⟨h1, h2⟩ => (⟨h1, h2.symm⟩ : e = int1 (pg.frs ks (pgOf a)) ∧ w' = w.drewN n))
  have fw := frs_wide H.tab.le (pgOf a)
  have FP := Lib.hid (show fits (pg.frs ks (pgOf a)) = true by simp [fits]; omega)
  have KF := Lib.hid (kind_fits hks (pg.frs ks (pgOf a)))
  have f := H.h0
  have f2 := H.hs
  have H0 := Lib.hid H
  obtain ⟨p, hp⟩ : ∃ p, pg.frs ks (pgOf a) = p := ⟨_, rfl⟩
  have E : bs ks (bm.nums ws) a = if enk p 1 = true then (if (if bsOf (pg.kind ks p) a = -1 then enf p 1 else bsOf (pg.kind ks p) a) ∈ bm.nums ws then (if bsOf (pg.kind ks p) a = -1 then enf p 1 else bsOf (pg.kind ks p) a) else -1) else -1 := by rw [← hp]; rfl
  obtain ⟨res, hres⟩ : ∃ res, bs ks (bm.nums ws) a = res := ⟨_, rfl⟩
  rw [hres] at E ⊢
  rw [hp] at FF FP KF
  have K := Lib.hid (fun n => pg.Kind_any (H.tab.drewN n) p)
  have HS := Lib.hid (fun n z => bm.Has_any (H.set.drewN n) z)
  clear H hks fw hp hres
  generalize pg.kind ks p = k at *
  generalize pgOf a = pa at *
  generalize hb : bsOf k a = b at *
  have HB := Lib.hid hb
  have HE := Lib.hid E
  clear hb E
  go_enter Tryz.func61, Tryz.ntmps61
  go_wp2_with (first
    | (go_at_call 52; (with_reducible refine (made_yes H0.out).mono ?_); rintro e w' ⟨rfl, rfl⟩))
  go_quiet (first
    | (go_at_call 35; refine Calls.quiet_of_same (PG.out _))
    | (go_at_call 92; refine Calls.quiet_of_same (FF.out _)))
  have K1 := Lib.hid (K.out nq)
  have H1 := Lib.hid (HS.out nq)
  clear K HS PG FF
  cases he : enk p 1 with
  | false =>
    obtain rfl : res = -1 := by rw [HE.out, if_neg (by rw [he]; decide)]
    go_wp2_with (go_at_call 93; (with_reducible refine (ends_any _ _ _ FP.out rfl).mono ?_); rintro e w' ⟨rfl, rfl⟩; rw [he])
    go_ret
    exact ⟨rfl, _, rfl⟩
  | true =>
    obtain ⟨f0, hf⟩ : ∃ f0, (if b = -1 then enf p 1 else b) = f0 := ⟨_, rfl⟩
    have HF := Lib.hid (show res = if f0 ∈ bm.nums ws then f0 else -1 by rw [HE.out, if_pos he, hf])
    obtain ⟨y, hy⟩ : ∃ y, decide (f0 ∈ bm.nums ws) = y := ⟨_, rfl⟩
    have HX := Lib.hid (H1.out f0)
    rw [hy] at HX
    have HR : res = if y = true then f0 else -1 := by rw [HF.out, ← hy]; simp
    clear hy H1 HE HF
    by_cases hm : b = -1
    · rw [if_pos hm] at hf
      have t1 : (b == -1) = true := by simpa using hm
      have t2 : (b != -1) = false := by simpa using hm
      cases y
      all_goals
        simp only [if_true, if_false, Bool.false_eq_true] at HR
        subst HR
        go_wp2_with (first
          | (go_at_call 93; (with_reducible refine (ends_any _ _ _ FP.out rfl).mono ?_); rintro e w' ⟨rfl, rfl⟩; rw [he, hf])
          | (go_at_call 56; (with_reducible refine K1.out.mono ?_); rintro e w' ⟨rfl, rfl⟩)
          | (go_at_call 86; (with_reducible refine (base_any _ _ _ KF.out).mono ?_); rintro e w' ⟨rfl, rfl⟩; rw [HB.out])
          | (go_at_call 94; (with_reducible refine HX.out.mono ?_); rintro e w2 ⟨rfl, k2, rfl⟩))
        go_ret
        exact ⟨rfl, _, rfl⟩
    · rw [if_neg hm] at hf
      subst hf
      have t1 : (b == -1) = false := by simpa using hm
      have t2 : (b != -1) = true := by simpa using hm
      cases y
      all_goals
        simp only [if_true, if_false, Bool.false_eq_true] at HR
        subst HR
        go_wp2_with (first
          | (go_at_call 93; (with_reducible refine (ends_any _ _ _ FP.out rfl).mono ?_); rintro e w' ⟨rfl, rfl⟩; rw [he])
          | (go_at_call 56; (with_reducible refine K1.out.mono ?_); rintro e w' ⟨rfl, rfl⟩)
          | (go_at_call 86; (with_reducible refine (base_any _ _ _ KF.out).mono ?_); rintro e w' ⟨rfl, rfl⟩; rw [HB.out])
          | (go_at_call 94; (with_reducible refine HX.out.mono ?_); rintro e w2 ⟨rfl, k2, rfl⟩))
        go_ret
        exact ⟨rfl, _, rfl⟩
end
end Go.Proofs.YtfhmhlofjoahlaaGreatDoor.ce
