/- The heap's own functions: a page's chain; what is granted. -/
import Derived.Test.YtpnhanalnbjapaaDoorCeA
import Derived.BigRegion
import Derived.RegionTactic
import Derived.Deep.RegionHeld3
import Derived.Deep.RegionWith
namespace Go.Proofs.YtpnhanalnbjapaaDoor.ce
open Go.ChangeShapes Go.WideShapes Go.ChangeAt Go.RowKit gen calls cls geos
set_option linter.unusedVariables false
section
variable {w w' : World} {c h g r m q s : Nat} {ks xs cs : List Int} {ws : List Nat}
abbrev agg2 (a b : Int) : Ending := .returned (.agg #[.int .i64 a, .int .i64 b])
theorem left_no (H : Hp w c h g r m q s ks xs cs ws) (hk : pg.Ks ks) (p : Int) (h0 : cl (pg.kind ks p) = 0) :
    Calls Tryd.prog 45 #[.pointer (some ⟨h, 0, none⟩), .int .i64 p] w fun e w' => e = agg2 0 0 ∧ w.grownBy w' none := by
  have F := Lib.hid (kind_fits hk p)
  have G0 := Lib.hid (World.grownBy_alloc w (.cells #[.int .i64 0, .int .i64 0] 54) none)
  have D := Lib.hid (ch.Two.new w 54 0 0 rfl)
  have H0 := Lib.hid (H.new G0.out)
  have f := H0.out.h0
  obtain ⟨d0, d1, d2, d3⟩ := D.out
  clear H hk
  go_enter Tryd.func45, Tryd.ntmps45
  go_wp2_with (first
    | (go_at_call 43; (with_reducible refine (pg.Kind_any H0.out.tab p).mono ?_); rintro e w' ⟨rfl, rfl⟩)
    | (go_at_call 68; (with_reducible refine (cells_any _ _ F.out).mono ?_); rintro e w' ⟨rfl, rfl⟩; rw [h0]))
  refine bodyPost_ret (v := .agg #[.int .i64 0, .int .i64 0]) ?_ rfl ⟨rfl, World.grownBy_alloc _ _ _⟩
  simp [results, Tryd.results45, go_sem, *]
theorem left_yes (H : Hp w c h g r m q s ks xs cs ws) (hk : pg.Ks ks) (p : Nat) (hp : p < 64) (h0 : (cl (pg.kind ks p) == 0) = false) :
    Calls Tryd.prog 45 #[.pointer (some ⟨h, 0, none⟩), .int .i64 p] w fun e w' => e = agg2 (cf cs p) (cn cs p) ∧ w.grownBy w' none := by
  have F := Lib.hid (kind_fits hk p)
  have G0 := Lib.hid (World.grownBy_alloc w (.cells #[.int .i64 0, .int .i64 0] 54) none)
  have D := Lib.hid (ch.Two.new w 54 0 0 rfl)
  have H0 := Lib.hid (H.new G0.out)
  have f := H0.out.h0
  have f2 := H0.out.at (i := 2 * p) (by omega)
  have f3 := H0.out.at (i := 2 * p + 1) (by omega)
  rw [show 2 + 2 * p = 2 + p * 2 by omega] at f2
  rw [show 2 + (2 * p + 1) = 2 + p * 2 + 1 by omega] at f3
  rw [show cs.getD (2 * p) 0 = cf cs p by simp [cf]] at f2
  rw [show cs.getD (2 * p + 1) 0 = cn cs p by simp [cn]] at f3
  obtain ⟨d0, d1, d2, d3⟩ := D.out
  generalize cf cs p = a at *
  generalize cn cs p = b at *
  clear H hk
  go_enter Tryd.func45, Tryd.ntmps45
  go_wp2_with (first
    | (go_at_call 43; (with_reducible refine (pg.Kind_any H0.out.tab p).mono ?_); rintro e w' ⟨rfl, rfl⟩)
    | (go_at_call 68; (with_reducible refine (cells_any _ _ F.out).mono ?_); rintro e w' ⟨rfl, rfl⟩))
  refine bodyPost_ret (v := .agg #[.int .i64 a, .int .i64 b]) ?_ rfl ⟨rfl, World.grownBy_alloc _ _ _⟩
  simp [results, Tryd.results45, go_sem, *]
theorem kind_lt {ks : List Int} {p : Int} (hl : ks.length ≤ 64) (h : pg.kind ks p ≠ -1) : ∃ n : Nat, p = n ∧ n < 64 ∧ n < ks.length := by
  have := pg.kind_there h
  exact ⟨p.toNat, by omega, by omega, by omega⟩
theorem left_any (H : Hp w c h g r m q s ks xs cs ws) (hk : pg.Ks ks) (p : Int) :
    Calls Tryd.prog 45 #[.pointer (some ⟨h, 0, none⟩), .int .i64 p] w fun e w' => e = agg2 (lf ks cs p) (ln ks cs p) ∧ w.grownBy w' none := by
  by_cases h0 : cl (pg.kind ks p) = 0
  · rw [lf, if_pos h0, ln, if_pos h0]
    exact left_no H hk p h0
  · rw [lf, if_neg h0, ln, if_neg h0]
    have h1 := cl_in h0
    obtain ⟨n, rfl, hn, _⟩ := kind_lt H.tab.le (p := p) (by omega)
    exact left_yes H hk n hn (by simpa using h0)
/-- What is told of a heap that stands as it stood, but for its taken. -/
theorem grant_any (H : Hp w c h g r m q s ks xs cs ws) (a n : Nat) (hn : a + n ≤ xs.length) (h1 : 0 < n) (ha : (a : Int) ∉ bm.nums ws) :
    Calls Tryd.prog 47 #[.pointer (some ⟨h, 0, none⟩), .int .i64 a, .int .i64 n] w fun e w' =>
      ∃ ws', e = .returned (.tuple #[]) ∧ Hp w' c h g r m q s ks (mm.fillN xs a 0 n) cs ws' ∧ bm.nums ws' = bm.rising (bm.nums ws ++ [(a : Int)]) ∧ Gr [h, r, q, s] w w' := by
  have f := H.h1
  have H0 := Lib.hid H
  have HN := Lib.hid hn
  have HA := Lib.hid ha
  have HS := Lib.hid (show (a : Int) < (xs.length : Int) by omega)
  clear H hn ha h1
  go_enter Tryd.func47, Tryd.ntmps47
  go_wp2_with (first
    | (go_at_call 79; (with_reducible refine (mm.Fill_yes H0.out.mem a n 0 HN.out).mono ?_); rintro e w1 ⟨rfl, hm, hg⟩; have H1 := Lib.hid (H0.out.words hm hg (mm.fillN_length _ _ _ _)); have G1 := Lib.hid (Gr.one (L := [h, r, q, s]) hg (by simp)); have f2 := H1.out.hs; clear hm hg)
    | (go_at_call 83; (with_reducible refine (bm.Add_ok H1.out.set a HA.out (by omega) (by rw [mm.fillN_length]; exact HS.out)).mono ?_); rintro e w2 ⟨ws2, rfl, hs, hx, hg⟩; have H2 := Lib.hid (H1.out.takes hs hg); have G2 := Lib.hid (G1.out.trans (Gr.one hg (by simp))); have HX := Lib.hid hx; clear hs hg hx))
  go_end0
  exact ⟨ws2, rfl, H2.out, HX.out, G2.out⟩
end
end Go.Proofs.YtpnhanalnbjapaaDoor.ce
