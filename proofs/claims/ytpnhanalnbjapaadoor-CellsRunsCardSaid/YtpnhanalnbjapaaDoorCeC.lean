/- What Carve, Take and Large do to a heap of cells. -/
import Derived.Test.YtpnhanalnbjapaaDoorCeB
namespace Go.Proofs.YtpnhanalnbjapaaDoor.ce
open Go.ChangeShapes Go.WideShapes Go.ChangeAt Go.RowKit gen calls cls geos
set_option linter.unusedVariables false
abbrev rI (n : Int) (b : Bool) : Ending := .returned (.tuple #[.int .i64 n, .bool b])
section
variable {w w' : World} {c h g r m q s : Nat} {ks xs cs : List Int} {ws : List Nat}
/-- A heap that has changed, and what was answered. -/
def Did (v : Value) (c h g r m q s : Nat) (ks xs cs tk : List Int) (w : World) (e : Ending) (w' : World) : Prop :=
  ∃ ws, e = .returned v ∧ Hp w' c h g r m q s ks xs cs ws ∧ bm.nums ws = tk ∧ Gr [h, r, q, s] w w'

theorem Carve_no (H : Hp w c h g r m q s ks xs cs ws) (k : Int) (hk : fits k = true) (hno : 1 ≤ k ∧ k ≤ 4 → pg.find 1 0 ks = none) :
    Calls Tryd.prog 11 #[.pointer (some ⟨c, 0, none⟩), .int .i64 k] w fun e w' => e = rI 0 false ∧ w.grownBy w' none := by
  have TK : Hid (Calls Tryd.prog 41 #[.pointer (some ⟨g, 0, none⟩), .int .i64 k] w fun e w' => e = rI 0 false ∧ w.grownBy w' none) := by
    by_cases hs : 1 ≤ k ∧ k ≤ 4
    · exact pg.Take_none hs (pg.lowest_none H.tab (n := 1) (by omega) (hno hs))
    · exact (pg.Take_small_no (q := some ⟨g, 0, none⟩) k w hk hs).mono fun e w' ⟨h1, h2⟩ => ⟨h1, by subst h2; exact World.grownBy.refl _ _⟩
  have f := H.h0
  have H0 := Lib.hid H
  clear H hk hno
  go_enter Tryd.func11, Tryd.ntmps11
  go_wp2_with (first
    | (go_at_call 40; (with_reducible refine (made_yes H0.out).mono ?_); rintro e w' ⟨rfl, rfl⟩)
    | (go_at_call 41; (with_reducible refine TK.out.mono ?_); rintro e w1 ⟨rfl, hg⟩; have G1 := Lib.hid hg; clear hg))
  go_ret2
  exact ⟨rfl, G1.out⟩
theorem Carve_yes (H : Hp w c h g r m q s ks xs cs ws) (k : Int) (hk : 1 ≤ k ∧ k ≤ 4) {p : Nat} (hf : pg.find 1 0 ks = some p) (hx : xs.length = 32 * ks.length) {z n : Nat} (hz : sz k = z) (hn : cl k = n) :
    Calls Tryd.prog 11 #[.pointer (some ⟨c, 0, none⟩), .int .i64 k] w (Did (.tuple #[.int .i64 p, .bool true]) c h g r m q s (ks.set p k) (ch.builtN xs p z n) (cput cs p 0 n) (bm.nums ws) w) := by
  have hp := (pg.find_at (n := 1) (by omega) hf).1
  have hl := H.tab.le
  have hp64 : p < 64 := by omega
  have HT := Lib.hid (ch.thk_iff.mpr (by omega) : ch.thk xs.length p k = true)
  have TK := Lib.hid (pg.Take_some H.tab hk hf)
  have f := H.h0
  have H0 := Lib.hid H
  have HZ := Lib.hid hz
  have HN := Lib.hid hn
  have HP := Lib.hid hp64
  clear H hk hf hx hp hl hz hn
  go_enter Tryd.func11, Tryd.ntmps11
  go_wp2_with (first
    | (go_at_call 40; (with_reducible refine (made_yes H0.out).mono ?_); rintro e w' ⟨rfl, rfl⟩)
    | (go_at_call 41; (with_reducible refine TK.out.mono ?_); rintro e w1 ⟨rfl, ht, hg⟩; have H1 := Lib.hid (H0.out.pages ht hg); have G1 := Lib.hid (Gr.one (L := [h, r, q, s]) hg (by simp)); have f1 := H1.out.h1; clear ht hg))
  go_region_with (first
    | (go_at_call 42; (with_reducible refine (ch.Build_yes H1.out.drew.mem p z n k HZ.out HN.out HT.out).mono ?_); rintro e w2 ⟨rfl, hm, hg⟩; have H2 := Lib.hid (H1.out.drew.words hm hg (by rw [ch.builtN_length])); have G2 := Lib.hid (G1.out.drew.trans (Gr.one hg (by simp))); have z1 := H2.out.fz (2 + p * 2); have z2 := H2.out.fz (2 + p * 2 + 1); have y1 := H2.out.at (i := 2 * p) (by omega); have y2 := H2.out.at (i := 2 * p + 1) (by omega); rw [show 2 + 2 * p = 2 + p * 2 by omega] at y1; rw [show 2 + (2 * p + 1) = 2 + p * 2 + 1 by omega] at y2; clear hm hg))
  all_goals
    go_wp2
    go_ret2
    exact ⟨ws, rfl, H2.out.chain HP.out 0 n, rfl, G2.out.trans ((Gr.set _ _ _ _ (by simp)).trans (Gr.set _ _ _ _ (by simp)))⟩
end
end Go.Proofs.YtpnhanalnbjapaaDoor.ce
