/- The statement's own book beside the program's heap: a step that stores. -/
import Derived.Test.YtpnhanalnbjapaaDoorBoY
namespace Go.Proofs.YtpnhanalnbjapaaDoor.bo
open Go.ChangeShapes Go.WideShapes Go.ChangeAt Go.RowKit gen calls cls geos ce
set_option linter.unusedVariables false
set_option maxHeartbeats 4000000
set_option maxRecDepth 100000
section
variable {W0 w w1 w' w2 w3 w4 : World} {c h g r m q s bk H : Nat} {vk vt vk' vt' : Value} {vs vs' tl : List Value} {ks xs cs bw ks' xs' cs' bw' tk' : List Int} {ws ws2 : List Nat} {fr fr' : Nat → List Int}
theorem step6_no (Y : Z W0 w c h g r m q s bk H vk vs tl vt ks xs cs ws fr bw) (n v : Int) (hn : fits n = true) (hb : bs ks (bm.nums ws) n = -1) :
    Calls Tryd.prog 9 #[.pointer (some ⟨bk, 0, none⟩), .pointer (some ⟨c, 0, none⟩), .agg #[.int .i64 6, .int .i64 n, .int .i64 v]] w (SAns W0 c h g r m q s bk H tl) := by
  have G0 := Lib.hid (World.grownBy_alloc w (.cells #[.int .i64 6, .int .i64 n, .int .i64 v] 37) none)
  have T0 := Lib.hid (Tri.new w 37 6 n v)
  have Y0 := Lib.hid (Y.new G0.out)
  have FAR := Lib.hid Y.far
  obtain ⟨u0, u1, u2⟩ := T0.out
  have f0 := (Y.new G0.out).bo.b0
  have f1 := (Y.new G0.out).bo.b1
  have BS := Lib.hid (base_any Y0.out.bo Y.ok n hn (bm.nums_length ws))
  rw [hb] at BS
  have ST := Lib.hid (fun W (hW : Hp W c h g r m q s ks xs cs ws) => Store_no hW Y.ok.kds n v hb)
  clear Y hn hb
  go_enter Tryd.func9, Tryd.ntmps9
  go_wp2_with (first
    | (go_at_call 29; (with_reducible refine BS.out.mono ?_); rintro e w2 ⟨rfl, hg⟩; have G2 := Lib.hid hg; have T2 := Lib.hid (T0.out.made hg); obtain ⟨y0, y1, y2⟩ := T2.out; clear hg)
    | (go_at_call 30; (with_reducible refine (ST.out _ (Y0.out.hp.new G2.out)).mono ?_); rintro e w3 ⟨rfl, j, rfl⟩))
  go_ret
  exact ⟨rfl, (Y0.out.new (G2.out.trans (bm.grown_drewN _ _ _))).z⟩
theorem step6_yes (Y : Z W0 w c h g r m q s bk H vk vs tl vt ks xs cs ws fr bw) (n : Nat) (v : Int) (hn : fits n = true) (hv : fits v = true) {b : Nat} (hb : bs ks (bm.nums ws) n = b) (hx : n < xs.length) :
    Calls Tryd.prog 9 #[.pointer (some ⟨bk, 0, none⟩), .pointer (some ⟨c, 0, none⟩), .agg #[.int .i64 6, .int .i64 n, .int .i64 v]] w (SAns W0 c h g r m q s bk H tl) := by
  have G0 := Lib.hid (World.grownBy_alloc w (.cells #[.int .i64 6, .int .i64 n, .int .i64 v] 37) none)
  have T0 := Lib.hid (Tri.new w 37 6 n v)
  have Y0 := Lib.hid (Y.new G0.out)
  have FAR := Lib.hid Y.far
  obtain ⟨u0, u1, u2⟩ := T0.out
  have f0 := (Y.new G0.out).bo.b0
  have f1 := (Y.new G0.out).bo.b1
  have BS := Lib.hid (base_any Y0.out.bo Y.ok n hn (bm.nums_length ws))
  rw [hb] at BS
  have hne : bs ks (bm.nums ws) n ≠ -1 := by omega
  have ST := Lib.hid (fun W (hW : Hp W c h g r m q s ks xs cs ws) => Store_yes hW Y.ok.kds n v hne hx)
  have OO := Lib.hid (Y.ok.store hne (by simpa [fits] using hv)).1
  have n2 : n < 2048 := by have := Y.ok.len; have := Y.ok.few; omega
  have WW := Lib.hid (Y.wd.store v hx (by have := Y.bo.bwl; omega))
  have t1 : (0 : Int) ≤ b := by omega
  have t2 : (n : Int) < 2048 := by omega
  have t3 : (0 : Int) ≤ n := by omega
  clear Y hn hv hb hne hx
  go_enter Tryd.func9, Tryd.ntmps9
  go_wp2_with (first
    | (go_at_call 29; (with_reducible refine BS.out.mono ?_); rintro e w2 ⟨rfl, hg⟩; have G2 := Lib.hid hg; have T2 := Lib.hid (T0.out.made hg); obtain ⟨y0, y1, y2⟩ := T2.out; have B2 := Lib.hid (Y0.out.bo.new hg); have wa := B2.out.wat n2; have wz := B2.out.fz (2 + n); clear hg))
  go_region
  have B3 := Lib.hid (B2.out.word n2 v)
  have GW := Lib.hid (Gr.set (L := H :: Wr bk vt) w2 bk (2 + n) (.int .i64 v) (by simp [Wr]))
  have G3 := Lib.hid ((Gr.new (L := H :: Wr bk vt) G2.out).trans GW.out)
  have T3 := Lib.hid (T2.out.gr GW.out FAR.out.2)
  have HP3 := Lib.hid (Y0.out.hp3 G3.out)
  obtain ⟨p0, p1, p2⟩ := T3.out
  go_wp2_with (first
    | (go_at_call 30; (with_reducible refine (ST.out _ HP3.out.drew).mono ?_); rintro e w4 ⟨ws4, rfl, hh, hx, hg⟩; have HP4 := Lib.hid hh; have X4 := Lib.hid hx; have G4 := Lib.hid ((Gr.new (L := [h, r, q, s]) (ch.grown_drew _ _)).trans hg); clear hh hx hg)
    | (go_at_call 30; (with_reducible refine (ST.out _ HP3.out).mono ?_); rintro e w4 ⟨ws4, rfl, hh, hx, hg⟩; have HP4 := Lib.hid hh; have X4 := Lib.hid hx; have G4 := Lib.hid hg; clear hh hx hg))
  go_ret
  exact ⟨rfl, (Y0.out.fin2 B3.out G3.out HP4.out G4.out X4.out OO.out WW.out Y0.out.lowt).z⟩
theorem step6_any (Y : Z W0 w c h g r m q s bk H vk vs tl vt ks xs cs ws fr bw) (n v : Int) (hn : fits n = true) (hv : fits v = true) :
    Calls Tryd.prog 9 #[.pointer (some ⟨bk, 0, none⟩), .pointer (some ⟨c, 0, none⟩), .agg #[.int .i64 6, .int .i64 n, .int .i64 v]] w (SAns W0 c h g r m q s bk H tl) := by
  by_cases hb : bs ks (bm.nums ws) n = -1
  · exact step6_no Y n v hn hb
  · obtain ⟨a, ha, h1, h2⟩ := base_some Y.ok hb
    have hin := bz_in Y.ok ha
    have ha2 : bs ks (bm.nums ws) n = a := base_in Y.ok ha h1 h2
    obtain ⟨N, rfl⟩ : ∃ N : Nat, n = N := ⟨n.toNat, by omega⟩
    obtain ⟨b, hb2⟩ : ∃ b : Nat, a = b := ⟨a.toNat, by omega⟩
    exact step6_yes Y N v hn hv (ha2.trans hb2) (Y.ok.store hb (by simpa [fits] using hv)).2
end
end Go.Proofs.YtpnhanalnbjapaaDoor.bo
