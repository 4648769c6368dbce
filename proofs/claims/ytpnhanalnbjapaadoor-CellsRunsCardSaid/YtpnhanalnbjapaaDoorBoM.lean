/- The statement's own book beside the program's heap: a step that asks. -/
import Derived.Test.YtpnhanalnbjapaaDoorBoY
namespace Go.Proofs.YtpnhanalnbjapaaDoor.bo
open Go.ChangeShapes Go.WideShapes Go.ChangeAt Go.RowKit gen calls cls geos ce
set_option linter.unusedVariables false
set_option maxHeartbeats 16000000
set_option maxRecDepth 100000
section
variable {W0 w w1 w' w2 w3 w4 : World} {c h g r m q s bk H : Nat} {vk vt vk' vt' : Value} {vs vs' tl : List Value} {ks xs cs bw ks' xs' cs' bw' tk' : List Int} {ws ws2 : List Nat} {fr fr' : Nat → List Int}
theorem ln_lef (O : Ok ks xs cs (bm.nums ws) fr) (p : Int) : ln ks cs p = lef ks fr p := by
  unfold lef
  split
  · rename_i hk
    obtain ⟨P, rfl, _, _⟩ := there O.few (z := p) (by omega)
    rw [(O.told hk).2.1, Int.toNat_natCast]
  · rename_i hk
    exact ln_no hk
/-- A call that reads: what it answers, from any later world. -/
def Asks (w : World) (f : Nat) (args : Array Value) (v : Value) : Prop := ∀ W, w.grownBy W none → Calls Tryd.prog f args W fun e w' => e = .returned v ∧ w.grownBy w' none
theorem gd {w w' : World} (h : bm.Drew w w') : w.grownBy w' none := by obtain ⟨j, rfl⟩ := h; exact bm.grown_drewN _ _ _
theorem step7_of (Y : Z W0 w c h g r m q s bk H vk vs tl vt ks xs cs ws fr bw) (k n v : Int) (hn : fits n = true) (hk : (¬ (1 ≤ k)) ∨ (1 ≤ k ∧ ¬ (k ≤ 3))) (e4 : (k == 4) = false) (e5 : (k == 5) = false) (e6 : (k == 6) = false) :
    Calls Tryd.prog 9 #[.pointer (some ⟨bk, 0, none⟩), .pointer (some ⟨c, 0, none⟩), .agg #[.int .i64 k, .int .i64 n, .int .i64 v]] w (SAns W0 c h g r m q s bk H tl) := by
  have G0 := Lib.hid (World.grownBy_alloc w (.cells #[.int .i64 k, .int .i64 n, .int .i64 v] 37) none)
  have T0 := Lib.hid (Tri.new w 37 k n v)
  have Y0 := Lib.hid (Y.new G0.out)
  obtain ⟨u0, u1, u2⟩ := T0.out
  have O := Y.ok
  have tl2 := bm.nums_length ws
  have CF := Lib.hid (show ∀ W, (w.alloc (.cells #[.int .i64 k, .int .i64 n, .int .i64 v] 37)).grownBy W none → W.cell? ⟨bk, 0, none⟩ = some (.pointer (some ⟨H, 0, none⟩)) ∧ W.cell? ⟨bk, 1, none⟩ = some vt ∧ W.cell? ⟨H, 0, none⟩ = some vk ∧ W.cell? ⟨w.heap.size, 1, none⟩ = some (.int .i64 n) from fun W hg => ⟨(Y0.out.new hg).bo.b0, (Y0.out.new hg).bo.b1, (Y0.out.new hg).bo.hh.h0, (T0.out.made hg).t1⟩)
  have GX := Lib.hid (World.grownBy.refl (w.alloc (.cells #[.int .i64 k, .int .i64 n, .int .i64 v] 37)) none)
  have A1 := Lib.hid (show Asks (w.alloc (.cells #[.int .i64 k, .int .i64 n, .int .i64 v] 37)) 13 #[.pointer (some ⟨c, 0, none⟩), .int .i64 n] (.bool (decide (n ∈ bm.nums ws))) from fun W hg => (Is_any (Y0.out.new hg).hp n).mono fun e w' ⟨h1, h2⟩ => ⟨h1, hg.trans (gd h2)⟩)
  have A3 := Lib.hid (show Asks (w.alloc (.cells #[.int .i64 k, .int .i64 n, .int .i64 v] 37)) 14 #[.pointer (some ⟨c, 0, none⟩), .int .i64 n] (.int .i64 (bs ks (bm.nums ws) n)) from fun W hg => (Base_any (Y0.out.new hg).hp O.kds n).mono fun e w' ⟨h1, h2⟩ => ⟨h1, hg.trans (gd h2)⟩)
  have A4 := Lib.hid (show Asks (w.alloc (.cells #[.int .i64 k, .int .i64 n, .int .i64 v] 37)) 29 #[.pointer (some ⟨bk, 0, none⟩), .int .i64 n] (.int .i64 (bs ks (bm.nums ws) n)) from fun W hg => (base_any (Y0.out.new hg).bo O n hn tl2).mono fun e w' ⟨h1, h2⟩ => ⟨h1, hg.trans h2⟩)
  have A5 := Lib.hid (show Asks (w.alloc (.cells #[.int .i64 k, .int .i64 n, .int .i64 v] 37)) 31 #[.pointer (some ⟨c, 0, none⟩), .int .i64 n] (.int .i64 (ln ks cs n)) from fun W hg => (Left_any (Y0.out.new hg).hp O.kds n).mono fun e w' ⟨h1, h2⟩ => ⟨h1, hg.trans h2⟩)
  have A6 := Lib.hid (show Asks (w.alloc (.cells #[.int .i64 k, .int .i64 n, .int .i64 v] 37)) 32 #[.pointer (some ⟨H, 0, none⟩), .int .i64 n] (.int .i64 (ln ks cs n)) from fun W hg => (rLeft_any (Y0.out.new hg).bo.hh O.kds O.few n).mono fun e w' ⟨h1, h2⟩ => ⟨by rw [ln_lef O]; exact h1, hg.trans h2⟩)
  have A7 := Lib.hid (show Asks (w.alloc (.cells #[.int .i64 k, .int .i64 n, .int .i64 v] 37)) 33 #[.pointer (some ⟨c, 0, none⟩), .int .i64 n] (.int .i64 (pg.kind ks n)) from fun W hg => (Kind_any (Y0.out.new hg).hp n).mono fun e w' ⟨h1, h2⟩ => ⟨h1, by subst h2; exact hg⟩)
  have A2 := Lib.hid (show Asks (w.alloc (.cells #[.int .i64 k, .int .i64 n, .int .i64 v] 37)) 24 #[vt, .int .i64 n] (.bool (decide (n ∈ bm.nums ws))) from fun W hg => by
    obtain ⟨A, cc, hvt, hr⟩ := (Y0.out.new hg).bo.rd
    rw [hvt]
    exact (bm.In_any (by omega) hr n).mono fun e w' ⟨h1, h2⟩ => ⟨h1, by subst h2; exact hg⟩)
  have A8 := Lib.hid (show Asks (w.alloc (.cells #[.int .i64 k, .int .i64 n, .int .i64 v] 37)) 34 #[vk, .int .i64 n] (.int .i64 (pg.kind ks n)) from fun W hg => by
    obtain ⟨A, m', cc, hvk, hr, _⟩ := (Y0.out.new hg).bo.hh.kd
    have fw := O.few
    have lr := hr.1
    rw [hvk]
    exact (pg.rKind_any (by omega) hr n).mono fun e w' ⟨h1, h2⟩ => ⟨h1, by subst h2; exact hg⟩)
  unfold Asks at A1 A2 A3 A4 A5 A6 A7 A8
  have f0 := CF.out _ GX.out
  generalize decide (n ∈ bm.nums ws) = i1 at A1 A2
  generalize bs ks (bm.nums ws) n = i3 at A3 A4
  generalize ln ks cs n = i5 at A5 A6
  generalize pg.kind ks n = i7 at A7 A8
  clear Y O tl2 hn
  rcases hk with hk | ⟨hk, hk3⟩
  all_goals
    go_enter Tryd.func9, Tryd.ntmps9
    go_wp2
    go_region_held3 (fun W => W.cell? ⟨bk, 0, none⟩ = some (.pointer (some ⟨H, 0, none⟩)) ∧ W.cell? ⟨bk, 1, none⟩ = some vt ∧ W.cell? ⟨H, 0, none⟩ = some vk ∧ W.cell? ⟨w.heap.size, 1, none⟩ = some (.int .i64 n)) (first | exact f0 | go_keep) (first
    | (go_at_call 13; (with_reducible refine (A1.out _ (GX.out.trans (bm.grown_drewN _ _ _))).mono ?_); rintro e wx ⟨rfl, hg⟩; have GX := Lib.hid hg; have f0 := CF.out _ hg; clear hg)
    | (go_at_call 13; (with_reducible refine (A1.out _ (GX.out.trans (ch.grown_drew _ _))).mono ?_); rintro e wx ⟨rfl, hg⟩; have GX := Lib.hid hg; have f0 := CF.out _ hg; clear hg)
    | (go_at_call 13; (with_reducible refine (A1.out _ GX.out).mono ?_); rintro e wx ⟨rfl, hg⟩; have GX := Lib.hid hg; have f0 := CF.out _ hg; clear hg)
    | (go_at_call 24; (with_reducible refine (A2.out _ (GX.out.trans (bm.grown_drewN _ _ _))).mono ?_); rintro e wx ⟨rfl, hg⟩; have GX := Lib.hid hg; have f0 := CF.out _ hg; clear hg)
    | (go_at_call 24; (with_reducible refine (A2.out _ (GX.out.trans (ch.grown_drew _ _))).mono ?_); rintro e wx ⟨rfl, hg⟩; have GX := Lib.hid hg; have f0 := CF.out _ hg; clear hg)
    | (go_at_call 24; (with_reducible refine (A2.out _ GX.out).mono ?_); rintro e wx ⟨rfl, hg⟩; have GX := Lib.hid hg; have f0 := CF.out _ hg; clear hg)
    | (go_at_call 14; (with_reducible refine (A3.out _ (GX.out.trans (bm.grown_drewN _ _ _))).mono ?_); rintro e wx ⟨rfl, hg⟩; have GX := Lib.hid hg; have f0 := CF.out _ hg; clear hg)
    | (go_at_call 14; (with_reducible refine (A3.out _ (GX.out.trans (ch.grown_drew _ _))).mono ?_); rintro e wx ⟨rfl, hg⟩; have GX := Lib.hid hg; have f0 := CF.out _ hg; clear hg)
    | (go_at_call 14; (with_reducible refine (A3.out _ GX.out).mono ?_); rintro e wx ⟨rfl, hg⟩; have GX := Lib.hid hg; have f0 := CF.out _ hg; clear hg)
    | (go_at_call 29; (with_reducible refine (A4.out _ (GX.out.trans (bm.grown_drewN _ _ _))).mono ?_); rintro e wx ⟨rfl, hg⟩; have GX := Lib.hid hg; have f0 := CF.out _ hg; clear hg)
    | (go_at_call 29; (with_reducible refine (A4.out _ (GX.out.trans (ch.grown_drew _ _))).mono ?_); rintro e wx ⟨rfl, hg⟩; have GX := Lib.hid hg; have f0 := CF.out _ hg; clear hg)
    | (go_at_call 29; (with_reducible refine (A4.out _ GX.out).mono ?_); rintro e wx ⟨rfl, hg⟩; have GX := Lib.hid hg; have f0 := CF.out _ hg; clear hg)
    | (go_at_call 31; (with_reducible refine (A5.out _ (GX.out.trans (bm.grown_drewN _ _ _))).mono ?_); rintro e wx ⟨rfl, hg⟩; have GX := Lib.hid hg; have f0 := CF.out _ hg; clear hg)
    | (go_at_call 31; (with_reducible refine (A5.out _ (GX.out.trans (ch.grown_drew _ _))).mono ?_); rintro e wx ⟨rfl, hg⟩; have GX := Lib.hid hg; have f0 := CF.out _ hg; clear hg)
    | (go_at_call 31; (with_reducible refine (A5.out _ GX.out).mono ?_); rintro e wx ⟨rfl, hg⟩; have GX := Lib.hid hg; have f0 := CF.out _ hg; clear hg)
    | (go_at_call 32; (with_reducible refine (A6.out _ (GX.out.trans (bm.grown_drewN _ _ _))).mono ?_); rintro e wx ⟨rfl, hg⟩; have GX := Lib.hid hg; have f0 := CF.out _ hg; clear hg)
    | (go_at_call 32; (with_reducible refine (A6.out _ (GX.out.trans (ch.grown_drew _ _))).mono ?_); rintro e wx ⟨rfl, hg⟩; have GX := Lib.hid hg; have f0 := CF.out _ hg; clear hg)
    | (go_at_call 32; (with_reducible refine (A6.out _ GX.out).mono ?_); rintro e wx ⟨rfl, hg⟩; have GX := Lib.hid hg; have f0 := CF.out _ hg; clear hg)
    | (go_at_call 33; (with_reducible refine (A7.out _ (GX.out.trans (bm.grown_drewN _ _ _))).mono ?_); rintro e wx ⟨rfl, hg⟩; have GX := Lib.hid hg; have f0 := CF.out _ hg; clear hg)
    | (go_at_call 33; (with_reducible refine (A7.out _ (GX.out.trans (ch.grown_drew _ _))).mono ?_); rintro e wx ⟨rfl, hg⟩; have GX := Lib.hid hg; have f0 := CF.out _ hg; clear hg)
    | (go_at_call 33; (with_reducible refine (A7.out _ GX.out).mono ?_); rintro e wx ⟨rfl, hg⟩; have GX := Lib.hid hg; have f0 := CF.out _ hg; clear hg)
    | (go_at_call 34; (with_reducible refine (A8.out _ (GX.out.trans (bm.grown_drewN _ _ _))).mono ?_); rintro e wx ⟨rfl, hg⟩; have GX := Lib.hid hg; have f0 := CF.out _ hg; clear hg)
    | (go_at_call 34; (with_reducible refine (A8.out _ (GX.out.trans (ch.grown_drew _ _))).mono ?_); rintro e wx ⟨rfl, hg⟩; have GX := Lib.hid hg; have f0 := CF.out _ hg; clear hg)
    | (go_at_call 34; (with_reducible refine (A8.out _ GX.out).mono ?_); rintro e wx ⟨rfl, hg⟩; have GX := Lib.hid hg; have f0 := CF.out _ hg; clear hg))
    all_goals
      go_wp2
      go_ret
      exact ⟨rfl, (Y0.out.new GX.out).z⟩
end
end Go.Proofs.YtpnhanalnbjapaaDoor.bo
