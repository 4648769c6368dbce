/- Joined: CeB, CeC. -/
import Derived.Test.YtfhmhlofjoahlaaGreatDoorCeA
import Derived.BigRegion
import Derived.RegionTactic
import Derived.Deep.RegionHeld3
import Derived.Deep.RegionWith
/- The heap's own functions: a page's chain; what is granted. -/
namespace Go.Proofs.YtfhmhlofjoahlaaGreatDoor.ce
open Go.ChangeShapes Go.WideShapes Go.ChangeAt Go.RowKit gen calls cls geos
set_option linter.unusedVariables false
section
variable {w w' : World} {c h g r m q s : Nat} {ks xs cs : List Int} {ws : List Nat}
abbrev agg2 (a b : Int) : Ending := .returned (.agg #[.int .i64 a, .int .i64 b])
theorem left_no (H : Hp w c h g r m q s ks xs cs ws) (hk : pg.Ks ks) (p : Int) (h0 : cl (pg.kind ks p) = 0) :
    Calls Tryz.prog 63 #[.pointer (some ⟨h, 0, none⟩), .int .i64 p] w fun e w' => e = agg2 0 0 ∧ w.grownBy w' none := by
  have F := Lib.hid (kind_fits hk p)
  have G0 := Lib.hid (World.grownBy_alloc w (.cells #[.int .i64 0, .int .i64 0] 74) none)
  have D := Lib.hid (ch.Two.new w 74 0 0 rfl)
  have H0 := Lib.hid (H.new G0.out)
  have f := H0.out.h0
  obtain ⟨d0, d1, d2, d3⟩ := D.out
  clear H hk
  go_enter Tryz.func63, Tryz.ntmps63
  go_wp2_with (first
    | (go_at_call 56; (with_reducible refine (pg.Kind_any H0.out.tab p).mono ?_); rintro e w' ⟨rfl, rfl⟩)
    | (go_at_call 48; (with_reducible refine (cells_any _ _ F.out).mono ?_); rintro e w' ⟨rfl, rfl⟩; rw [h0]))
  refine bodyPost_ret (v := .agg #[.int .i64 0, .int .i64 0]) ?_ rfl ⟨rfl, World.grownBy_alloc _ _ _⟩
  simp [results, Tryz.results63, go_sem, *]
theorem left_yes (H : Hp w c h g r m q s ks xs cs ws) (hk : pg.Ks ks) (p : Nat) (hp : p < 64) (h0 : (cl (pg.kind ks p) == 0) = false) :
    Calls Tryz.prog 63 #[.pointer (some ⟨h, 0, none⟩), .int .i64 p] w fun e w' => e = agg2 (cf cs p) (cn cs p) ∧ w.grownBy w' none := by
  have F := Lib.hid (kind_fits hk p)
  have G0 := Lib.hid (World.grownBy_alloc w (.cells #[.int .i64 0, .int .i64 0] 74) none)
  have D := Lib.hid (ch.Two.new w 74 0 0 rfl)
  have H0 := Lib.hid (H.new G0.out)
  have f := H0.out.h0
  have f2 := H0.out.at (i := 2 * p) (by omega)
  have f3 := H0.out.at (i := 2 * p + 1) (by omega)
  rw [show 2 + 2 * p = 2 + p * 2 by omega] at f2
  rw [show 2 + (2 * p + 1) = 2 + p * 2 + 1 by omega] at f3
  rw [show cs.getD (2 * p) 0 = cf cs p by simp [cf]] at f2
  rw [show cs.getD (2 * p + 1) 0 = cn cs p by simp [cn]] at f3
  obtain ⟨d0, d1, d2, d3⟩ := D.out
  generalize cf cs p = a at *
  generalize cn cs p = b at *
  clear H hk
  go_enter Tryz.func63, Tryz.ntmps63
  go_wp2_with (first
    | (go_at_call 56; (with_reducible refine (pg.Kind_any H0.out.tab p).mono ?_); rintro e w' ⟨rfl, rfl⟩)
    | (go_at_call 48; (with_reducible refine (cells_any _ _ F.out).mono ?_); rintro e w' ⟨rfl, rfl⟩))
  refine bodyPost_ret (v := .agg #[.int .i64 a, .int .i64 b]) ?_ rfl ⟨rfl, World.grownBy_alloc _ _ _⟩
  simp [results, Tryz.results63, go_sem, *]
theorem kind_lt {ks : List Int} {p : Int} (hl : ks.length ≤ 64) (h : pg.kind ks p ≠ -1) : ∃ n : Nat, p = n ∧ n < 64 ∧ n < ks.length := by
  have := pg.kind_there h
  exact ⟨p.toNat, by omega, by omega, by omega⟩
theorem left_any (H : Hp w c h g r m q s ks xs cs ws) (hk : pg.Ks ks) (p : Int) :
    Calls Tryz.prog 63 #[.pointer (some ⟨h, 0, none⟩), .int .i64 p] w fun e w' => e = agg2 (lf ks cs p) (ln ks cs p) ∧ w.grownBy w' none := by
  by_cases h0 : cl (pg.kind ks p) = 0
  · rw [lf, if_pos h0, ln, if_pos h0]
    exact left_no H hk p h0
  · rw [lf, if_neg h0, ln, if_neg h0]
    have h1 := cl_in h0
    obtain ⟨n, rfl, hn, _⟩ := kind_lt H.tab.le (p := p) (by omega)
    exact left_yes H hk n hn (by simpa using h0)
/-- What is told of a heap that stands as it stood, but for its taken. -/
theorem grant_any (H : Hp w c h g r m q s ks xs cs ws) (a n : Nat) (hn : a + n ≤ xs.length) (h1 : 0 < n) (ha : (a : Int) ∉ bm.nums ws) :
    Calls Tryz.prog 75 #[.pointer (some ⟨h, 0, none⟩), .int .i64 a, .int .i64 n] w fun e w' =>
      ∃ ws', e = .returned (.tuple #[]) ∧ Hp w' c h g r m q s ks (mm.fillN xs a 0 n) cs ws' ∧ bm.nums ws' = bm.rising (bm.nums ws ++ [(a : Int)]) ∧ Gr [h, r, q, s] w w' := by
  have f := H.h1
  have H0 := Lib.hid H
  have HN := Lib.hid hn
  have HA := Lib.hid ha
  have HS := Lib.hid (show (a : Int) < (xs.length : Int) by omega)
  clear H hn ha h1
  go_enter Tryz.func75, Tryz.ntmps75
  go_wp2_with (first
    | (go_at_call 95; (with_reducible refine (mm.Fill_yes H0.out.mem a n 0 HN.out).mono ?_); rintro e w1 ⟨rfl, hm, hg⟩; have H1 := Lib.hid (H0.out.words hm hg (mm.fillN_length _ _ _ _)); have G1 := Lib.hid (Gr.one (L := [h, r, q, s]) hg (by simp)); have f2 := H1.out.hs; clear hm hg)
    | (go_at_call 101; (with_reducible refine (bm.Add_ok H1.out.set a HA.out (by omega) (by rw [mm.fillN_length]; exact HS.out)).mono ?_); rintro e w2 ⟨ws2, rfl, hs, hx, hg⟩; have H2 := Lib.hid (H1.out.takes hs hg); have G2 := Lib.hid (G1.out.trans (Gr.one hg (by simp))); have HX := Lib.hid hx; clear hs hg hx))
  go_end0
  exact ⟨ws2, rfl, H2.out, HX.out, G2.out⟩
end
end Go.Proofs.YtfhmhlofjoahlaaGreatDoor.ce

/- What Carve, Take and Large do to a heap of cells. -/
namespace Go.Proofs.YtfhmhlofjoahlaaGreatDoor.ce
open Go.ChangeShapes Go.WideShapes Go.ChangeAt Go.RowKit gen calls cls geos
set_option linter.unusedVariables false
abbrev rI (n : Int) (b : Bool) : Ending := .returned (.tuple #[.int .i64 n, .bool b])
section
variable {w w' : World} {c h g r m q s : Nat} {ks xs cs : List Int} {ws : List Nat}
/-- A heap that has changed, and what was answered. -/
def Did (v : Value) (c h g r m q s : Nat) (ks xs cs tk : List Int) (w : World) (e : Ending) (w' : World) : Prop :=
  ∃ ws, e = .returned v ∧ Hp w' c h g r m q s ks xs cs ws ∧ bm.nums ws = tk ∧ Gr [h, r, q, s] w w'

theorem Carve_no (H : Hp w c h g r m q s ks xs cs ws) (k : Int) (hk : fits k = true) (hno : 1 ≤ k ∧ k ≤ 4 → pg.find 1 0 ks = none) :
    Calls Tryz.prog 81 #[.pointer (some ⟨c, 0, none⟩), .int .i64 k] w fun e w' => e = rI 0 false ∧ w.grownBy w' none := by
  have TK : Hid (Calls Tryz.prog 104 #[.pointer (some ⟨g, 0, none⟩), .int .i64 k] w fun e w' => e = rI 0 false ∧ w.grownBy w' none) := by
    by_cases hs : 1 ≤ k ∧ k ≤ 4
    · exact pg.Take_none hs (pg.lowest_none H.tab (n := 1) (by omega) (hno hs))
    · exact (pg.Take_small_no (q := some ⟨g, 0, none⟩) k w hk hs).mono fun e w' ⟨h1, h2⟩ => ⟨h1, by subst h2; exact World.grownBy.refl _ _⟩
  have f := H.h0
  have H0 := Lib.hid H
  clear H hk hno
  go_enter Tryz.func81, Tryz.ntmps81
  go_wp2_with (first
    | (go_at_call 52; (with_reducible refine (made_yes H0.out).mono ?_); rintro e w' ⟨rfl, rfl⟩)
    | (go_at_call 104; (with_reducible refine TK.out.mono ?_); rintro e w1 ⟨rfl, hg⟩; have G1 := Lib.hid hg; clear hg))
  go_ret2
  exact ⟨rfl, G1.out⟩
theorem Carve_yes (H : Hp w c h g r m q s ks xs cs ws) (k : Int) (hk : 1 ≤ k ∧ k ≤ 4) {p : Nat} (hf : pg.find 1 0 ks = some p) (hx : xs.length = 32 * ks.length) {z n : Nat} (hz : sz k = z) (hn : cl k = n) :
    Calls Tryz.prog 81 #[.pointer (some ⟨c, 0, none⟩), .int .i64 k] w (Did (.tuple #[.int .i64 p, .bool true]) c h g r m q s (ks.set p k) (ch.builtN xs p z n) (cput cs p 0 n) (bm.nums ws) w) := by
  have hp := (pg.find_at (n := 1) (by omega) hf).1
  have hl := H.tab.le
  have hp64 : p < 64 := by omega
  have HT := Lib.hid (ch.thk_iff.mpr (by omega) : ch.thk xs.length p k = true)
  have TK := Lib.hid (pg.Take_some H.tab hk hf)
  have f := H.h0
  have H0 := Lib.hid H
  have HZ := Lib.hid hz
  have HN := Lib.hid hn
  have HP := Lib.hid hp64
  clear H hk hf hx hp hl hz hn
  go_enter Tryz.func81, Tryz.ntmps81
  go_wp2_with (first
    | (go_at_call 52; (with_reducible refine (made_yes H0.out).mono ?_); rintro e w' ⟨rfl, rfl⟩)
    | (go_at_call 104; (with_reducible refine TK.out.mono ?_); rintro e w1 ⟨rfl, ht, hg⟩; have H1 := Lib.hid (H0.out.pages ht hg); have G1 := Lib.hid (Gr.one (L := [h, r, q, s]) hg (by simp)); have f1 := H1.out.h1; clear ht hg))
  go_region_with (first
    | (go_at_call 105; (with_reducible refine (ch.Build_yes H1.out.drew.mem p z n k HZ.out HN.out HT.out).mono ?_); rintro e w2 ⟨rfl, hm, hg⟩; have H2 := Lib.hid (H1.out.drew.words hm hg (by rw [ch.builtN_length])); have G2 := Lib.hid (G1.out.drew.trans (Gr.one hg (by simp))); have z1 := H2.out.fz (2 + p * 2); have z2 := H2.out.fz (2 + p * 2 + 1); have y1 := H2.out.at (i := 2 * p) (by omega); have y2 := H2.out.at (i := 2 * p + 1) (by omega); rw [show 2 + 2 * p = 2 + p * 2 by omega] at y1; rw [show 2 + (2 * p + 1) = 2 + p * 2 + 1 by omega] at y2; clear hm hg))
  all_goals
    go_wp2
    go_ret2
    exact ⟨ws, rfl, H2.out.chain HP.out 0 n, rfl, G2.out.trans ((Gr.set _ _ _ _ (by simp)).trans (Gr.set _ _ _ _ (by simp)))⟩
end
end Go.Proofs.YtfhmhlofjoahlaaGreatDoor.ce
