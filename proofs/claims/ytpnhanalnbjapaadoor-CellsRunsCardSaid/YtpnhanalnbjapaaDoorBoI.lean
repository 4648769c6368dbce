/- The statement's own book beside the program's heap: what both are; a call that takes. -/
import Derived.Test.YtpnhanalnbjapaaDoorBoQ
import Derived.Test.YtpnhanalnbjapaaDoorCeT
namespace Go.Proofs.YtpnhanalnbjapaaDoor.bo
open Go.ChangeShapes Go.WideShapes Go.ChangeAt Go.RowKit gen calls cls geos ce
set_option linter.unusedVariables false
set_option maxHeartbeats 4000000
set_option maxRecDepth 100000
/-- All that stands: the program's heap, the book, and that they are alike. -/
structure Z (W0 w : World) (c h g r m q s bk H : Nat) (vk : Value) (vs tl : List Value) (vt : Value) (ks xs cs : List Int) (ws : List Nat) (fr : Nat → List Int) (bw : List Int) : Prop where
  hp : Hp w c h g r m q s ks xs cs ws
  ok : Ok ks xs cs (bm.nums ws) fr
  bo : Bk w [c, h, g, r, m, q, s] bk H vk vs tl vt ks fr (bm.nums ws) bw
  wd : Wd ks (bm.nums ws) xs bw
  grown : W0.grownBy w none
  low : ∀ k, k ∈ [c, h, g, r, m, q, s, bk, H] → W0.heap.size ≤ k
  lowt : ∀ t, vt.ownBlock = some t → W0.heap.size ≤ t
def Zz (W0 : World) (c h g r m q s bk H : Nat) (tl : List Value) (w : World) : Prop := ∃ vk vs vt ks xs cs ws fr bw, Z W0 w c h g r m q s bk H vk vs tl vt ks xs cs ws fr bw
section
variable {W0 w w' w2 w4 : World} {c h g r m q s bk H : Nat} {vk vt vk' vt' : Value} {vs vs' tl : List Value} {ks xs cs ks' xs' cs' bw bw' tk' : List Int} {ws ws2 : List Nat} {fr fr' : Nat → List Int}
theorem Z.z (Y : Z W0 w c h g r m q s bk H vk vs tl vt ks xs cs ws fr bw) : Zz W0 c h g r m q s bk H tl w := ⟨_, _, _, _, _, _, _, _, _, Y⟩
theorem Z.new (Y : Z W0 w c h g r m q s bk H vk vs tl vt ks xs cs ws fr bw) (hg : w.grownBy w' none) : Z W0 w' c h g r m q s bk H vk vs tl vt ks xs cs ws fr bw :=
  ⟨Y.hp.new hg, Y.ok, Y.bo.new hg, Y.wd, Y.grown.trans hg, Y.low, Y.lowt⟩
theorem Z.old (Y : Z W0 w c h g r m q s bk H vk vs tl vt ks xs cs ws fr bw) (hg : Gr [h, r, q, s] w w2) : Bk w2 [c, h, g, r, m, q, s] bk H vk vs tl vt ks fr (bm.nums ws) bw :=
  Y.bo.gr hg (fun k hk => by simp at hk ⊢; omega)
theorem Z.fin (Y : Z W0 w c h g r m q s bk H vk vs tl vt ks xs cs ws fr bw) (hp2 : Hp w2 c h g r m q s ks' xs' cs' ws2) (g2 : Gr [h, r, q, s] w w2) (hx : bm.nums ws2 = tk') (b4 : Bk w4 [c, h, g, r, m, q, s] bk H vk' vs' tl vt' ks' fr' tk' bw')
    (g4 : Gr (H :: Wr bk vt) w2 w4) (O' : Ok ks' xs' cs' tk' fr') (W' : Wd ks' tk' xs' bw') (lt' : ∀ t, vt'.ownBlock = some t → W0.heap.size ≤ t) : Z W0 w4 c h g r m q s bk H vk' vs' tl vt' ks' xs' cs' ws2 fr' bw' := by
  subst hx
  have mem : ∀ k, k ∈ H :: Wr bk vt → k = H ∨ k = bk ∨ vt.ownBlock = some k := fun k hk => by simpa [Wr] using hk
  refine ⟨hp2.gr g4 (fun k hk => ?_), O', b4, W', ?_, Y.low, lt'⟩
  · have hn : k ∉ [c, h, g, r, m, q, s] := by
      rcases mem k hk with rfl | rfl | h1
      · exact Y.bo.bx.2.1
      · exact Y.bo.bx.1
      · exact (Y.bo.vx k h1).1
    simpa using hn
  · refine Gr.grown (Gr.grown Y.grown g2 (fun k hk => Y.low k (by simp at hk ⊢; omega))) g4 (fun k hk => ?_)
    rcases mem k hk with rfl | rfl | h1
    · exact Y.low _ (by simp)
    · exact Y.low _ (by simp)
    · exact Y.lowt k h1
end
/-- The three cells of a call at the head of block B. -/
structure Tri (w : World) (B : Nat) (k n v : Int) : Prop where
  t0 : w.cell? ⟨B, 0, none⟩ = some (.int .i64 k)
  t1 : w.cell? ⟨B, 1, none⟩ = some (.int .i64 n)
  t2 : w.cell? ⟨B, 2, none⟩ = some (.int .i64 v)
theorem Tri.new (w : World) (t : TypeId) (k n v : Int) : Tri (w.alloc (.cells #[.int .i64 k, .int .i64 n, .int .i64 v] t)) w.heap.size k n v := ⟨by simp [go_sem], by simp [go_sem], by simp [go_sem]⟩
theorem Tri.gr {w w' : World} {B : Nat} {k n v : Int} {L : List Nat} (T : Tri w B k n v) (hg : Gr L w w') (hB : B ∉ L) : Tri w' B k n v := ⟨hg.cell T.t0 hB, hg.cell T.t1 hB, hg.cell T.t2 hB⟩
theorem Tri.made {w w' : World} {B : Nat} {k n v : Int} (T : Tri w B k n v) (hg : w.grownBy w' none) : Tri w' B k n v := T.gr (L := []) (.new hg) (by simp)
section
variable {W0 w w' : World} {c h g r m q s bk H : Nat} {vk vt : Value} {vs tl : List Value} {ks xs cs bw : List Int} {ws : List Nat} {fr : Nat → List Int}
/-- What a step answers. -/
def SAns (W0 : World) (c h g r m q s bk H : Nat) (tl : List Value) (e : Ending) (w' : World) : Prop := e = .returned (.bool true) ∧ Zz W0 c h g r m q s bk H tl w'
theorem Z.far (Y : Z W0 w c h g r m q s bk H vk vs tl vt ks xs cs ws fr bw) : w.heap.size ∉ [h, r, q, s] ∧ w.heap.size ∉ H :: Wr bk vt := by
  have l := Y.hp.lt
  have l1 := pg.lt_of_heap Y.bo.box
  have l2 := pg.lt_of_heap Y.bo.hh.hea
  refine ⟨by simp; omega, fun hm => ?_⟩
  simp [Wr] at hm
  rcases hm with e | e | e
  · omega
  · omega
  · have := (Y.bo.own.lt _ e).2; omega
theorem take1_no (Y : Z W0 w c h g r m q s bk H vk vs tl vt ks xs cs ws fr bw) (n v : Int) (hP : ∀ W, w.grownBy W none → Calls Tryd.prog 11 #[.pointer (some ⟨c, 0, none⟩), .int .i64 n] W fun e w' => e = rI 0 false ∧ W.grownBy w' none)
    (hR : ∀ W, w.grownBy W none → Calls Tryd.prog 58 #[.pointer (some ⟨H, 0, none⟩), .int .i64 n] W fun e w' => e = int1 (-1) ∧ W.grownBy w' none) :
    Calls Tryd.prog 23 #[.pointer (some ⟨bk, 0, none⟩), .pointer (some ⟨c, 0, none⟩), .agg #[.int .i64 1, .int .i64 n, .int .i64 v]] w (SAns W0 c h g r m q s bk H tl) := by
  have G0 := Lib.hid (World.grownBy_alloc w (.cells #[.int .i64 1, .int .i64 n, .int .i64 v] 37) none)
  have T0 := Lib.hid (Tri.new w 37 1 n v)
  obtain ⟨u0, u1, u2⟩ := T0.out
  have f0 := (Y.new G0.out).bo.b0
  have Y0 := Lib.hid Y
  have CP := Lib.hid hP
  have CR := Lib.hid hR
  clear Y hP hR
  go_enter Tryd.func23, Tryd.ntmps23
  go_wp2_with (first
    | (go_at_call 11; (with_reducible refine (CP.out _ G0.out).mono ?_); rintro e w2 ⟨rfl, hg⟩; have G2 := Lib.hid (G0.out.trans hg); have T2 := Lib.hid (T0.out.made hg); obtain ⟨y0, y1, y2⟩ := T2.out; have f2 := (Y0.out.new G2.out).bo.b0; clear hg))
  go_region_held3 (fun W => W.cell? ⟨bk, 0, none⟩ = some (.pointer (some ⟨H, 0, none⟩)) ∧ W.cell? ⟨w.heap.size, 1, none⟩ = some (.int .i64 n)) (first | exact ⟨f2, y1⟩ | exact ⟨f3, p1⟩ | go_keep) (first
    | (go_at_call 58; (with_reducible refine (CR.out _ (G2.out.trans (bm.grown_drewN _ _ _))).mono ?_); rintro e w3 ⟨rfl, hg⟩; have G3 := Lib.hid (G2.out.trans ((bm.grown_drewN _ _ _).trans hg)); have p1 := (T2.out.made ((bm.grown_drewN _ _ _).trans hg)).t1; have f3 := (Y0.out.new G3.out).bo.b0; clear hg)
    | (go_at_call 58; (with_reducible refine (CR.out _ (G2.out.trans (ch.grown_drew _ _))).mono ?_); rintro e w3 ⟨rfl, hg⟩; have G3 := Lib.hid (G2.out.trans ((ch.grown_drew _ _).trans hg)); have p1 := (T2.out.made ((ch.grown_drew _ _).trans hg)).t1; have f3 := (Y0.out.new G3.out).bo.b0; clear hg)
    | (go_at_call 58; (with_reducible refine (CR.out _ G2.out).mono ?_); rintro e w3 ⟨rfl, hg⟩; have G3 := Lib.hid (G2.out.trans hg); have p1 := (T2.out.made hg).t1; have f3 := (Y0.out.new G3.out).bo.b0; clear hg))
  all_goals
    go_wp2
    go_ret
    exact ⟨rfl, (Y0.out.new G3.out).z⟩
theorem take1_yes (Y : Z W0 w c h g r m q s bk H vk vs tl vt ks xs cs ws fr bw) (n v : Int) (a : Nat) {z : Nat} {ks' xs' cs' tk' bw' : List Int} {fr' : Nat → List Int} (a2 : a ≤ 2048)
    (hP : ∀ W, w.grownBy W none → Calls Tryd.prog 11 #[.pointer (some ⟨c, 0, none⟩), .int .i64 n] W (Did (.tuple #[.int .i64 a, .bool true]) c h g r m q s ks' xs' cs' tk' W))
    (hR : ∀ W V, Hh W V H vk vs tl ks fr → Calls Tryd.prog 58 #[.pointer (some ⟨H, 0, none⟩), .int .i64 n] W (HhAns (.int .i64 a) V H tl ks' fr' W))
    (hO : Ok ks' xs' cs' tk' fr') (hW : Wd ks' tk' xs' bw') (hb : bw = bw') (ht : bm.nums ws = tk') :
    Calls Tryd.prog 23 #[.pointer (some ⟨bk, 0, none⟩), .pointer (some ⟨c, 0, none⟩), .agg #[.int .i64 1, .int .i64 n, .int .i64 v]] w (SAns W0 c h g r m q s bk H tl) := by
  have G0 := Lib.hid (World.grownBy_alloc w (.cells #[.int .i64 1, .int .i64 n, .int .i64 v] 37) none)
  have T0 := Lib.hid (Tri.new w 37 1 n v)
  have Y0 := Lib.hid (Y.new G0.out)
  have FAR := Lib.hid Y.far
  obtain ⟨u0, u1, u2⟩ := T0.out
  have f0 := (Y.new G0.out).bo.b0
  have CP := Lib.hid (hP _ G0.out)
  have CR := Lib.hid hR
  have OO := Lib.hid hO
  have WW := Lib.hid hW
  subst hb
  subst ht
  have t1 : ¬ ((a : Int) < 0) := by omega
  clear Y hP hR hO hW
  go_enter Tryd.func23, Tryd.ntmps23
  go_wp2_with (first
    | (go_at_call 11; (with_reducible refine CP.out.mono ?_); rintro e w2 ⟨ws2, rfl, hh, hx, hg⟩; have HP2 := Lib.hid hh; have X2 := Lib.hid hx; have G2 := Lib.hid hg; have B2 := Lib.hid (Y0.out.old hg); have f2 := B2.out.b0; have T2 := Lib.hid (T0.out.gr hg FAR.out.1); obtain ⟨y0, y1, y2⟩ := T2.out; clear hh hx hg))
  go_region_held3 (fun W => W.cell? ⟨bk, 0, none⟩ = some (.pointer (some ⟨H, 0, none⟩)) ∧ W.cell? ⟨w.heap.size, 1, none⟩ = some (.int .i64 n)) (first | exact ⟨f2, y1⟩ | exact ⟨f3, p1⟩ | go_keep) (first
    | (go_at_call 58; (with_reducible refine (CR.out _ _ (B2.out.hh.drewN _)).mono ?_); rintro e w3 ⟨vk3, vs3, rfl, hh, hg⟩; have G3' := Lib.hid ((Gr.new (L := [H]) (bm.grown_drewN _ _ _)).trans hg); have B3 := Lib.hid (B2.out.heap hh G3'.out); have f3 := B3.out.b0; have G3 := Lib.hid (G3'.out.mono (M := H :: Wr bk vt) (fun k hk => by simp at hk; simp [hk])); have T3 := Lib.hid (T2.out.gr G3.out FAR.out.2); obtain ⟨p0, p1, p2⟩ := T3.out; clear hh hg)
    | (go_at_call 58; (with_reducible refine (CR.out _ _ B2.out.hh.drew).mono ?_); rintro e w3 ⟨vk3, vs3, rfl, hh, hg⟩; have G3' := Lib.hid ((Gr.new (L := [H]) (ch.grown_drew _ _)).trans hg); have B3 := Lib.hid (B2.out.heap hh G3'.out); have f3 := B3.out.b0; have G3 := Lib.hid (G3'.out.mono (M := H :: Wr bk vt) (fun k hk => by simp at hk; simp [hk])); have T3 := Lib.hid (T2.out.gr G3.out FAR.out.2); obtain ⟨p0, p1, p2⟩ := T3.out; clear hh hg)
    | (go_at_call 58; (with_reducible refine (CR.out _ _ B2.out.hh).mono ?_); rintro e w3 ⟨vk3, vs3, rfl, hh, hg⟩; have G3' := Lib.hid hg; have B3 := Lib.hid (B2.out.heap hh G3'.out); have f3 := B3.out.b0; have G3 := Lib.hid (G3'.out.mono (M := H :: Wr bk vt) (fun k hk => by simp at hk; simp [hk])); have T3 := Lib.hid (T2.out.gr G3.out FAR.out.2); obtain ⟨p0, p1, p2⟩ := T3.out; clear hh hg))
  all_goals
    go_wp2
    go_ret
    exact ⟨rfl, (Y0.out.fin HP2.out G2.out X2.out B3.out G3.out OO.out WW.out Y0.out.lowt).z⟩
theorem take2_no (Y : Z W0 w c h g r m q s bk H vk vs tl vt ks xs cs ws fr bw) (n v : Int) (hP : ∀ W, w.grownBy W none → Calls Tryd.prog 12 #[.pointer (some ⟨c, 0, none⟩), .int .i64 n] W fun e w' => e = rI 0 false ∧ W.grownBy w' none)
    (hR : ∀ W, w.grownBy W none → Calls Tryd.prog 59 #[.pointer (some ⟨H, 0, none⟩), .int .i64 n] W fun e w' => e = int1 (-1) ∧ W.grownBy w' none) :
    Calls Tryd.prog 23 #[.pointer (some ⟨bk, 0, none⟩), .pointer (some ⟨c, 0, none⟩), .agg #[.int .i64 2, .int .i64 n, .int .i64 v]] w (SAns W0 c h g r m q s bk H tl) := by
  have G0 := Lib.hid (World.grownBy_alloc w (.cells #[.int .i64 2, .int .i64 n, .int .i64 v] 37) none)
  have T0 := Lib.hid (Tri.new w 37 2 n v)
  obtain ⟨u0, u1, u2⟩ := T0.out
  have f0 := (Y.new G0.out).bo.b0
  have Y0 := Lib.hid Y
  have CP := Lib.hid hP
  have CR := Lib.hid hR
  clear Y hP hR
  go_enter Tryd.func23, Tryd.ntmps23
  go_wp2_with (first
    | (go_at_call 12; (with_reducible refine (CP.out _ G0.out).mono ?_); rintro e w2 ⟨rfl, hg⟩; have G2 := Lib.hid (G0.out.trans hg); have T2 := Lib.hid (T0.out.made hg); obtain ⟨y0, y1, y2⟩ := T2.out; have f2 := (Y0.out.new G2.out).bo.b0; clear hg))
  go_region_held3 (fun W => W.cell? ⟨bk, 0, none⟩ = some (.pointer (some ⟨H, 0, none⟩)) ∧ W.cell? ⟨w.heap.size, 1, none⟩ = some (.int .i64 n)) (first | exact ⟨f2, y1⟩ | exact ⟨f3, p1⟩ | go_keep) (first
    | (go_at_call 59; (with_reducible refine (CR.out _ (G2.out.trans (bm.grown_drewN _ _ _))).mono ?_); rintro e w3 ⟨rfl, hg⟩; have G3 := Lib.hid (G2.out.trans ((bm.grown_drewN _ _ _).trans hg)); have p1 := (T2.out.made ((bm.grown_drewN _ _ _).trans hg)).t1; have f3 := (Y0.out.new G3.out).bo.b0; clear hg)
    | (go_at_call 59; (with_reducible refine (CR.out _ (G2.out.trans (ch.grown_drew _ _))).mono ?_); rintro e w3 ⟨rfl, hg⟩; have G3 := Lib.hid (G2.out.trans ((ch.grown_drew _ _).trans hg)); have p1 := (T2.out.made ((ch.grown_drew _ _).trans hg)).t1; have f3 := (Y0.out.new G3.out).bo.b0; clear hg)
    | (go_at_call 59; (with_reducible refine (CR.out _ G2.out).mono ?_); rintro e w3 ⟨rfl, hg⟩; have G3 := Lib.hid (G2.out.trans hg); have p1 := (T2.out.made hg).t1; have f3 := (Y0.out.new G3.out).bo.b0; clear hg))
  all_goals
    go_wp2
    go_ret
    exact ⟨rfl, (Y0.out.new G3.out).z⟩
theorem take2_yes (Y : Z W0 w c h g r m q s bk H vk vs tl vt ks xs cs ws fr bw) (n v : Int) (a : Nat) {z : Nat} {ks' xs' cs' tk' bw' : List Int} {fr' : Nat → List Int} (a2 : a ≤ 2048)
    (hP : ∀ W, w.grownBy W none → Calls Tryd.prog 12 #[.pointer (some ⟨c, 0, none⟩), .int .i64 n] W (Did (.tuple #[.int .i64 a, .bool true]) c h g r m q s ks' xs' cs' tk' W))
    (hR : ∀ W V, Hh W V H vk vs tl ks fr → Calls Tryd.prog 59 #[.pointer (some ⟨H, 0, none⟩), .int .i64 n] W (HhAns (.int .i64 a) V H tl ks' fr' W))
    (hU : ∀ W vk' vs', Bk W [c, h, g, r, m, q, s] bk H vk' vs' tl vt ks' fr' (bm.nums ws) bw → Calls Tryd.prog 62 #[.pointer (some ⟨bk, 0, none⟩), .int .i64 a] W fun e w' => ∃ vt', e = nil0 ∧ Bk w' [c, h, g, r, m, q, s] bk H vk' vs' tl vt' ks' fr' tk' bw' ∧ Gr (Wr bk vt) W w' ∧ ∀ t, vt'.ownBlock = some t → W.heap.size ≤ t)
    (hO : Ok ks' xs' cs' tk' fr') (hW : Wd ks' tk' xs' bw') :
    Calls Tryd.prog 23 #[.pointer (some ⟨bk, 0, none⟩), .pointer (some ⟨c, 0, none⟩), .agg #[.int .i64 2, .int .i64 n, .int .i64 v]] w (SAns W0 c h g r m q s bk H tl) := by
  have G0 := Lib.hid (World.grownBy_alloc w (.cells #[.int .i64 2, .int .i64 n, .int .i64 v] 37) none)
  have T0 := Lib.hid (Tri.new w 37 2 n v)
  have Y0 := Lib.hid (Y.new G0.out)
  have FAR := Lib.hid Y.far
  obtain ⟨u0, u1, u2⟩ := T0.out
  have f0 := (Y.new G0.out).bo.b0
  have CP := Lib.hid (hP _ G0.out)
  have CR := Lib.hid hR
  have OO := Lib.hid hO
  have WW := Lib.hid hW
  have PU := Lib.hid hU
  clear hU
  have t1 : ¬ ((a : Int) < 0) := by omega
  clear Y hP hR hO hW
  go_enter Tryd.func23, Tryd.ntmps23
  go_wp2_with (first
    | (go_at_call 12; (with_reducible refine CP.out.mono ?_); rintro e w2 ⟨ws2, rfl, hh, hx, hg⟩; have HP2 := Lib.hid hh; have X2 := Lib.hid hx; have G2 := Lib.hid hg; have B2 := Lib.hid (Y0.out.old hg); have f2 := B2.out.b0; have T2 := Lib.hid (T0.out.gr hg FAR.out.1); obtain ⟨y0, y1, y2⟩ := T2.out; clear hh hx hg))
  go_region_held3 (fun W => W.cell? ⟨bk, 0, none⟩ = some (.pointer (some ⟨H, 0, none⟩)) ∧ W.cell? ⟨w.heap.size, 1, none⟩ = some (.int .i64 n)) (first | exact ⟨f2, y1⟩ | exact ⟨f3, p1⟩ | go_keep) (first
    | (go_at_call 59; (with_reducible refine (CR.out _ _ (B2.out.hh.drewN _)).mono ?_); rintro e w3 ⟨vk3, vs3, rfl, hh, hg⟩; have G3' := Lib.hid ((Gr.new (L := [H]) (bm.grown_drewN _ _ _)).trans hg); have B3 := Lib.hid (B2.out.heap hh G3'.out); have f3 := B3.out.b0; have G3 := Lib.hid (G3'.out.mono (M := H :: Wr bk vt) (fun k hk => by simp at hk; simp [hk])); have T3 := Lib.hid (T2.out.gr G3.out FAR.out.2); obtain ⟨p0, p1, p2⟩ := T3.out; clear hh hg)
    | (go_at_call 59; (with_reducible refine (CR.out _ _ B2.out.hh.drew).mono ?_); rintro e w3 ⟨vk3, vs3, rfl, hh, hg⟩; have G3' := Lib.hid ((Gr.new (L := [H]) (ch.grown_drew _ _)).trans hg); have B3 := Lib.hid (B2.out.heap hh G3'.out); have f3 := B3.out.b0; have G3 := Lib.hid (G3'.out.mono (M := H :: Wr bk vt) (fun k hk => by simp at hk; simp [hk])); have T3 := Lib.hid (T2.out.gr G3.out FAR.out.2); obtain ⟨p0, p1, p2⟩ := T3.out; clear hh hg)
    | (go_at_call 59; (with_reducible refine (CR.out _ _ B2.out.hh).mono ?_); rintro e w3 ⟨vk3, vs3, rfl, hh, hg⟩; have G3' := Lib.hid hg; have B3 := Lib.hid (B2.out.heap hh G3'.out); have f3 := B3.out.b0; have G3 := Lib.hid (G3'.out.mono (M := H :: Wr bk vt) (fun k hk => by simp at hk; simp [hk])); have T3 := Lib.hid (T2.out.gr G3.out FAR.out.2); obtain ⟨p0, p1, p2⟩ := T3.out; clear hh hg))
  all_goals
    go_wp2_with (first
      | (go_at_call 62; (with_reducible refine (PU.out _ _ _ B3.out).mono ?_); rintro e w4 ⟨vt4, rfl, hb, hg, hlt⟩; have B4 := Lib.hid hb; have G4 := Lib.hid (G3.out.trans (hg.mono (M := H :: Wr bk vt) (fun k hk => by simp [hk]))); have LT := Lib.hid (show ∀ t, vt4.ownBlock = some t → W0.heap.size ≤ t from fun t ht => Nat.le_trans Y0.out.grown.size (Nat.le_trans G2.out.size (Nat.le_trans G3.out.size (hlt t ht)))); clear hb hg hlt))
    go_ret
    exact ⟨rfl, (Y0.out.fin HP2.out G2.out X2.out B4.out G4.out OO.out WW.out LT.out).z⟩
theorem take3_no (Y : Z W0 w c h g r m q s bk H vk vs tl vt ks xs cs ws fr bw) (n v : Int) (hP : ∀ W, w.grownBy W none → Calls Tryd.prog 60 #[.pointer (some ⟨c, 0, none⟩), .int .i64 n] W fun e w' => e = rI 0 false ∧ W.grownBy w' none)
    (hR : ∀ W, w.grownBy W none → Calls Tryd.prog 61 #[.pointer (some ⟨H, 0, none⟩), .int .i64 n] W fun e w' => e = int1 (-1) ∧ W.grownBy w' none) :
    Calls Tryd.prog 23 #[.pointer (some ⟨bk, 0, none⟩), .pointer (some ⟨c, 0, none⟩), .agg #[.int .i64 3, .int .i64 n, .int .i64 v]] w (SAns W0 c h g r m q s bk H tl) := by
  have G0 := Lib.hid (World.grownBy_alloc w (.cells #[.int .i64 3, .int .i64 n, .int .i64 v] 37) none)
  have T0 := Lib.hid (Tri.new w 37 3 n v)
  obtain ⟨u0, u1, u2⟩ := T0.out
  have f0 := (Y.new G0.out).bo.b0
  have Y0 := Lib.hid Y
  have CP := Lib.hid hP
  have CR := Lib.hid hR
  clear Y hP hR
  go_enter Tryd.func23, Tryd.ntmps23
  go_wp2_with (first
    | (go_at_call 60; (with_reducible refine (CP.out _ G0.out).mono ?_); rintro e w2 ⟨rfl, hg⟩; have G2 := Lib.hid (G0.out.trans hg); have T2 := Lib.hid (T0.out.made hg); obtain ⟨y0, y1, y2⟩ := T2.out; have f2 := (Y0.out.new G2.out).bo.b0; clear hg))
  go_region_held3 (fun W => W.cell? ⟨bk, 0, none⟩ = some (.pointer (some ⟨H, 0, none⟩)) ∧ W.cell? ⟨w.heap.size, 1, none⟩ = some (.int .i64 n)) (first | exact ⟨f2, y1⟩ | exact ⟨f3, p1⟩ | go_keep) (first
    | (go_at_call 61; (with_reducible refine (CR.out _ (G2.out.trans (bm.grown_drewN _ _ _))).mono ?_); rintro e w3 ⟨rfl, hg⟩; have G3 := Lib.hid (G2.out.trans ((bm.grown_drewN _ _ _).trans hg)); have p1 := (T2.out.made ((bm.grown_drewN _ _ _).trans hg)).t1; have f3 := (Y0.out.new G3.out).bo.b0; clear hg)
    | (go_at_call 61; (with_reducible refine (CR.out _ (G2.out.trans (ch.grown_drew _ _))).mono ?_); rintro e w3 ⟨rfl, hg⟩; have G3 := Lib.hid (G2.out.trans ((ch.grown_drew _ _).trans hg)); have p1 := (T2.out.made ((ch.grown_drew _ _).trans hg)).t1; have f3 := (Y0.out.new G3.out).bo.b0; clear hg)
    | (go_at_call 61; (with_reducible refine (CR.out _ G2.out).mono ?_); rintro e w3 ⟨rfl, hg⟩; have G3 := Lib.hid (G2.out.trans hg); have p1 := (T2.out.made hg).t1; have f3 := (Y0.out.new G3.out).bo.b0; clear hg))
  all_goals
    go_wp2
    go_ret
    exact ⟨rfl, (Y0.out.new G3.out).z⟩
theorem take3_yes (Y : Z W0 w c h g r m q s bk H vk vs tl vt ks xs cs ws fr bw) (n v : Int) (a : Nat) {z : Nat} {ks' xs' cs' tk' bw' : List Int} {fr' : Nat → List Int} (a2 : a ≤ 2048)
    (hP : ∀ W, w.grownBy W none → Calls Tryd.prog 60 #[.pointer (some ⟨c, 0, none⟩), .int .i64 n] W (Did (.tuple #[.int .i64 a, .bool true]) c h g r m q s ks' xs' cs' tk' W))
    (hR : ∀ W V, Hh W V H vk vs tl ks fr → Calls Tryd.prog 61 #[.pointer (some ⟨H, 0, none⟩), .int .i64 n] W (HhAns (.int .i64 a) V H tl ks' fr' W))
    (hU : ∀ W vk' vs', Bk W [c, h, g, r, m, q, s] bk H vk' vs' tl vt ks' fr' (bm.nums ws) bw → Calls Tryd.prog 62 #[.pointer (some ⟨bk, 0, none⟩), .int .i64 a] W fun e w' => ∃ vt', e = nil0 ∧ Bk w' [c, h, g, r, m, q, s] bk H vk' vs' tl vt' ks' fr' tk' bw' ∧ Gr (Wr bk vt) W w' ∧ ∀ t, vt'.ownBlock = some t → W.heap.size ≤ t)
    (hO : Ok ks' xs' cs' tk' fr') (hW : Wd ks' tk' xs' bw') :
    Calls Tryd.prog 23 #[.pointer (some ⟨bk, 0, none⟩), .pointer (some ⟨c, 0, none⟩), .agg #[.int .i64 3, .int .i64 n, .int .i64 v]] w (SAns W0 c h g r m q s bk H tl) := by
  have G0 := Lib.hid (World.grownBy_alloc w (.cells #[.int .i64 3, .int .i64 n, .int .i64 v] 37) none)
  have T0 := Lib.hid (Tri.new w 37 3 n v)
  have Y0 := Lib.hid (Y.new G0.out)
  have FAR := Lib.hid Y.far
  obtain ⟨u0, u1, u2⟩ := T0.out
  have f0 := (Y.new G0.out).bo.b0
  have CP := Lib.hid (hP _ G0.out)
  have CR := Lib.hid hR
  have OO := Lib.hid hO
  have WW := Lib.hid hW
  have PU := Lib.hid hU
  clear hU
  have t1 : ¬ ((a : Int) < 0) := by omega
  clear Y hP hR hO hW
  go_enter Tryd.func23, Tryd.ntmps23
  go_wp2_with (first
    | (go_at_call 60; (with_reducible refine CP.out.mono ?_); rintro e w2 ⟨ws2, rfl, hh, hx, hg⟩; have HP2 := Lib.hid hh; have X2 := Lib.hid hx; have G2 := Lib.hid hg; have B2 := Lib.hid (Y0.out.old hg); have f2 := B2.out.b0; have T2 := Lib.hid (T0.out.gr hg FAR.out.1); obtain ⟨y0, y1, y2⟩ := T2.out; clear hh hx hg))
  go_region_held3 (fun W => W.cell? ⟨bk, 0, none⟩ = some (.pointer (some ⟨H, 0, none⟩)) ∧ W.cell? ⟨w.heap.size, 1, none⟩ = some (.int .i64 n)) (first | exact ⟨f2, y1⟩ | exact ⟨f3, p1⟩ | go_keep) (first
    | (go_at_call 61; (with_reducible refine (CR.out _ _ (B2.out.hh.drewN _)).mono ?_); rintro e w3 ⟨vk3, vs3, rfl, hh, hg⟩; have G3' := Lib.hid ((Gr.new (L := [H]) (bm.grown_drewN _ _ _)).trans hg); have B3 := Lib.hid (B2.out.heap hh G3'.out); have f3 := B3.out.b0; have G3 := Lib.hid (G3'.out.mono (M := H :: Wr bk vt) (fun k hk => by simp at hk; simp [hk])); have T3 := Lib.hid (T2.out.gr G3.out FAR.out.2); obtain ⟨p0, p1, p2⟩ := T3.out; clear hh hg)
    | (go_at_call 61; (with_reducible refine (CR.out _ _ B2.out.hh.drew).mono ?_); rintro e w3 ⟨vk3, vs3, rfl, hh, hg⟩; have G3' := Lib.hid ((Gr.new (L := [H]) (ch.grown_drew _ _)).trans hg); have B3 := Lib.hid (B2.out.heap hh G3'.out); have f3 := B3.out.b0; have G3 := Lib.hid (G3'.out.mono (M := H :: Wr bk vt) (fun k hk => by simp at hk; simp [hk])); have T3 := Lib.hid (T2.out.gr G3.out FAR.out.2); obtain ⟨p0, p1, p2⟩ := T3.out; clear hh hg)
    | (go_at_call 61; (with_reducible refine (CR.out _ _ B2.out.hh).mono ?_); rintro e w3 ⟨vk3, vs3, rfl, hh, hg⟩; have G3' := Lib.hid hg; have B3 := Lib.hid (B2.out.heap hh G3'.out); have f3 := B3.out.b0; have G3 := Lib.hid (G3'.out.mono (M := H :: Wr bk vt) (fun k hk => by simp at hk; simp [hk])); have T3 := Lib.hid (T2.out.gr G3.out FAR.out.2); obtain ⟨p0, p1, p2⟩ := T3.out; clear hh hg))
  all_goals
    go_wp2_with (first
      | (go_at_call 62; (with_reducible refine (PU.out _ _ _ B3.out).mono ?_); rintro e w4 ⟨vt4, rfl, hb, hg, hlt⟩; have B4 := Lib.hid hb; have G4 := Lib.hid (G3.out.trans (hg.mono (M := H :: Wr bk vt) (fun k hk => by simp [hk]))); have LT := Lib.hid (show ∀ t, vt4.ownBlock = some t → W0.heap.size ≤ t from fun t ht => Nat.le_trans Y0.out.grown.size (Nat.le_trans G2.out.size (Nat.le_trans G3.out.size (hlt t ht)))); clear hb hg hlt))
    go_ret
    exact ⟨rfl, (Y0.out.fin HP2.out G2.out X2.out B4.out G4.out OO.out WW.out LT.out).z⟩
end
end Go.Proofs.YtpnhanalnbjapaaDoor.bo
