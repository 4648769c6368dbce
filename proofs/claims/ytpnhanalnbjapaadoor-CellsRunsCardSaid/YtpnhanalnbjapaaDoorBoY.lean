/- Joined: BoJ, BoK. -/
import Derived.Test.YtpnhanalnbjapaaDoorBoI
/- The statement's own book beside the program's heap: a call that takes, whatever is asked. -/
namespace Go.Proofs.YtpnhanalnbjapaaDoor.bo
open Go.ChangeShapes Go.WideShapes Go.ChangeAt Go.RowKit gen calls cls geos ce
set_option linter.unusedVariables false
section
variable {W0 w w' : World} {c h g r m q s bk H : Nat} {vk vt : Value} {vs tl : List Value} {ks xs cs bw : List Int} {ws : List Nat} {fr : Nat → List Int}
theorem take1_any (Y : Z W0 w c h g r m q s bk H vk vs tl vt ks xs cs ws fr bw) (n v : Int) (hn : fits n = true) :
    Calls Tryd.prog 23 #[.pointer (some ⟨bk, 0, none⟩), .pointer (some ⟨c, 0, none⟩), .agg #[.int .i64 1, .int .i64 n, .int .i64 v]] w (SAns W0 c h g r m q s bk H tl) := by
  have O := Y.ok
  by_cases h1 : 1 ≤ n ∧ n ≤ 4
  · cases hf : pg.find 1 0 ks with
    | none => exact take1_no Y n v (fun W hg => Carve_no (Y.hp.new hg) n hn fun _ => hf) (fun W hg => rCarve_none (Y.bo.hh.new hg) O.few n hf)
    | some p =>
      obtain ⟨z, nn, e1, e2, _⟩ := ch.sz_cl h1.1 h1.2
      obtain ⟨f1, f2⟩ := Ok.free0 (n := 1) (by omega) hf
      have fw := O.few
      exact take1_yes (z := 0) Y n v p (by omega) (fun W hg => Carve_yes (Y.hp.new hg) n h1 hf O.len e1 e2) (fun W V h => rCarve_yes h O.kds O.few h1 hf e2) (O.carve h1 hf e1 e2) (Y.wd.carve O h1 hf e1 e2) rfl rfl
  · exact take1_no Y n v (fun W hg => Carve_no (Y.hp.new hg) n hn fun h => absurd h h1) (fun W hg => rCarve_no (Y.bo.hh.new hg) O.few n hn h1)
theorem take2_any (Y : Z W0 w c h g r m q s bk H vk vs tl vt ks xs cs ws fr bw) (n v : Int) (hn : fits n = true) :
    Calls Tryd.prog 23 #[.pointer (some ⟨bk, 0, none⟩), .pointer (some ⟨c, 0, none⟩), .agg #[.int .i64 2, .int .i64 n, .int .i64 v]] w (SAns W0 c h g r m q s bk H tl) := by
  have O := Y.ok
  rcases kind_dec ks n with hk | hk
  · obtain ⟨p, rfl, p64, pl⟩ := there O.few (z := n) (by omega)
    cases hfr : fr p with
    | nil =>
      refine take2_no Y p v (fun W hg => Take_no' (Y.hp.new hg) O p hn (fun _ => by rw [Int.toNat_natCast]; exact hfr)) (fun W hg => rTake_no (Y.bo.hh.new hg) O.kds O.few p ?_)
      unfold lef
      rw [if_pos hk, Int.toNat_natCast, hfr]
      rfl
    | cons x rest =>
      obtain ⟨a, z, ha, hz, hat, _, haz, z0⟩ := take_at O hk hfr
      obtain ⟨_, _, d1⟩ := O.tkt hk hfr
      obtain ⟨z', n', e1, e2, e3, e4, e5, _⟩ := ch.sz_cl hk.1 hk.2
      have rm := room d1.1 d1.2
      have r0 := Int.mul_nonneg d1.1 (Int.le_of_lt rm.1)
      have ln := O.len
      have fw := O.few
      have bz2 : bz ks a = z := by
        have e : (a : Int) / 32 = p := by omega
        unfold bz
        rw [e, if_neg (by omega), hz]
      have bl := Y.bo.bwl
      exact take2_yes (z := 0) Y p v a (by omega) (fun W hg => Take_yes' (Y.hp.new hg) O hk hfr ha hz hat) (fun W V h => rTake_yes h O.kds O.few hk hfr ⟨d1.1, by omega⟩ (by rw [ha, hz]) hz)
        (fun W vk' vs' B => put_any B O.kds O.few a z bz2 haz z0 (bm.nums_length ws)) (O.take hk hfr ha hz).1 (Y.wd.take bz2 (by omega) (by omega))
  · refine take2_no Y n v (fun W hg => Take_no' (Y.hp.new hg) O n hn (fun h => absurd h hk)) (fun W hg => rTake_no (Y.bo.hh.new hg) O.kds O.few n ?_)
    unfold lef
    rw [if_neg hk]
theorem take3_any (Y : Z W0 w c h g r m q s bk H vk vs tl vt ks xs cs ws fr bw) (n v : Int) :
    Calls Tryd.prog 23 #[.pointer (some ⟨bk, 0, none⟩), .pointer (some ⟨c, 0, none⟩), .agg #[.int .i64 3, .int .i64 n, .int .i64 v]] w (SAns W0 c h g r m q s bk H tl) := by
  have O := Y.ok
  by_cases h1 : 1 ≤ n
  · obtain ⟨N, rfl⟩ : ∃ N : Nat, n = N := ⟨n.toNat, by omega⟩
    cases hf : pg.find N 0 ks with
    | none => exact take3_no Y N v (fun W hg => Large_no (Y.hp.new hg) N fun _ => hf) (fun W hg => rLarge_no (Y.bo.hh.new hg) O.few N fun _ => hf)
    | some p =>
      have hN : 1 ≤ N := by omega
      obtain ⟨f1, f2⟩ := Ok.free0 hN hf
      obtain ⟨a, ha⟩ : ∃ a, a = p * 32 := ⟨_, rfl⟩
      obtain ⟨z, hz⟩ : ∃ z, z = N * 32 := ⟨_, rfl⟩
      have fw := O.few
      have bl := Y.bo.bwl
      obtain ⟨O2, hno⟩ := O.large hN hf ha hz
      obtain ⟨W2, bz2⟩ := Y.wd.large O hN hf ha hz (by omega)
      exact take3_yes (z := 0) Y N v a (by omega) (fun W hg => Large_yes (Y.hp.new hg) N hN hf O.len ha hz hno) (fun W V h => rLarge_yes h O.few hN hf ha)
        (fun W vk' vs' B => put_any B O2.kds O2.few a z bz2 (by omega) (by omega) (bm.nums_length ws)) O2 W2
  · exact take3_no Y n v (fun W hg => Large_no (Y.hp.new hg) n fun h => absurd h h1) (fun W hg => rLarge_no (Y.bo.hh.new hg) O.few n fun h => absurd h h1)
end
end Go.Proofs.YtpnhanalnbjapaaDoor.bo

/- The statement's own book beside the program's heap: a step. -/
namespace Go.Proofs.YtpnhanalnbjapaaDoor.bo
open Go.ChangeShapes Go.WideShapes Go.ChangeAt Go.RowKit gen calls cls geos ce
set_option linter.unusedVariables false
set_option maxHeartbeats 4000000
set_option maxRecDepth 100000
section
variable {W0 w w1 w' w2 w3 w4 : World} {c h g r m q s bk H : Nat} {vk vt vk' vt' : Value} {vs vs' tl : List Value} {ks xs cs bw ks' xs' cs' bw' tk' : List Int} {ws ws2 : List Nat} {fr fr' : Nat → List Int}
/-- The program's call alone. -/
theorem Z.prog (Y : Z W0 w c h g r m q s bk H vk vs tl vt ks xs cs ws fr bw) (hp2 : Hp w2 c h g r m q s ks xs' cs' ws2) (g2 : Gr [h, r, q, s] w w2) (hx : bm.nums ws2 = bm.nums ws) (O' : Ok ks xs' cs' (bm.nums ws) fr) (W' : Wd ks (bm.nums ws) xs' bw) :
    Z W0 w2 c h g r m q s bk H vk vs tl vt ks xs' cs' ws2 fr bw := Y.fin hp2 g2 hx (Y.old g2) (Gr.new (World.grownBy.refl _ _)) O' W' Y.lowt
theorem Z.off (Y : Z W0 w c h g r m q s bk H vk vs tl vt ks xs cs ws fr bw) : ∀ k, k ∈ H :: Wr bk vt → k ∉ [c, h, g, r, m, q, s] ∧ W0.heap.size ≤ k := fun k hk => by
  have mem : k = H ∨ k = bk ∨ vt.ownBlock = some k := by simpa [Wr] using hk
  rcases mem with rfl | rfl | h1
  · exact ⟨Y.bo.bx.2.1, Y.low _ (by simp)⟩
  · exact ⟨Y.bo.bx.1, Y.low _ (by simp)⟩
  · exact ⟨(Y.bo.vx k h1).1, Y.lowt k h1⟩
/-- The book first, then the program's call. -/
theorem Z.hp3 (Y : Z W0 w c h g r m q s bk H vk vs tl vt ks xs cs ws fr bw) (g3 : Gr (H :: Wr bk vt) w w3) : Hp w3 c h g r m q s ks xs cs ws := Y.hp.gr g3 (fun k hk => by simpa using (Y.off k hk).1)
theorem Z.fin2 (Y : Z W0 w c h g r m q s bk H vk vs tl vt ks xs cs ws fr bw) (b3 : Bk w3 [c, h, g, r, m, q, s] bk H vk' vs' tl vt' ks' fr' tk' bw') (g3 : Gr (H :: Wr bk vt) w w3)
    (hp4 : Hp w4 c h g r m q s ks' xs' cs' ws2) (g4 : Gr [h, r, q, s] w3 w4) (hx : bm.nums ws2 = tk') (O' : Ok ks' xs' cs' tk' fr') (W' : Wd ks' tk' xs' bw') (lt' : ∀ t, vt'.ownBlock = some t → W0.heap.size ≤ t) :
    Z W0 w4 c h g r m q s bk H vk' vs' tl vt' ks' xs' cs' ws2 fr' bw' := by
  subst hx
  exact ⟨hp4, O', b3.gr g4 (fun k hk => by simp at hk ⊢; omega), W', Gr.grown (Gr.grown Y.grown g3 (fun k hk => (Y.off k hk).2)) g4 (fun k hk => Y.low k (by simp at hk ⊢; omega)), Y.low, lt'⟩
theorem step1_any (Y : Z W0 w c h g r m q s bk H vk vs tl vt ks xs cs ws fr bw) (n v : Int) (hn : fits n = true) :
    Calls Tryd.prog 9 #[.pointer (some ⟨bk, 0, none⟩), .pointer (some ⟨c, 0, none⟩), .agg #[.int .i64 1, .int .i64 n, .int .i64 v]] w (SAns W0 c h g r m q s bk H tl) := by
  have G0 := World.grownBy_alloc w (.cells #[.int .i64 1, .int .i64 n, .int .i64 v] 37) none
  obtain ⟨u0, u1, u2⟩ := Tri.new w 37 1 n v
  have TK := Lib.hid (take1_any (Y.new G0) n v hn)
  clear Y G0
  go_enter Tryd.func9, Tryd.ntmps9
  go_wp2_with (first
    | (go_at_call 23; (with_reducible refine TK.out.mono ?_); rintro e w2 ⟨rfl, hz⟩; have Z2 := Lib.hid hz; clear hz))
  go_ret
  exact ⟨rfl, Z2.out⟩
theorem step2_any (Y : Z W0 w c h g r m q s bk H vk vs tl vt ks xs cs ws fr bw) (n v : Int) (hn : fits n = true) :
    Calls Tryd.prog 9 #[.pointer (some ⟨bk, 0, none⟩), .pointer (some ⟨c, 0, none⟩), .agg #[.int .i64 2, .int .i64 n, .int .i64 v]] w (SAns W0 c h g r m q s bk H tl) := by
  have G0 := World.grownBy_alloc w (.cells #[.int .i64 2, .int .i64 n, .int .i64 v] 37) none
  obtain ⟨u0, u1, u2⟩ := Tri.new w 37 2 n v
  have TK := Lib.hid (take2_any (Y.new G0) n v hn)
  clear Y G0
  go_enter Tryd.func9, Tryd.ntmps9
  go_wp2_with (first
    | (go_at_call 23; (with_reducible refine TK.out.mono ?_); rintro e w2 ⟨rfl, hz⟩; have Z2 := Lib.hid hz; clear hz))
  go_ret
  exact ⟨rfl, Z2.out⟩
theorem step3_any (Y : Z W0 w c h g r m q s bk H vk vs tl vt ks xs cs ws fr bw) (n v : Int) (hn : fits n = true) :
    Calls Tryd.prog 9 #[.pointer (some ⟨bk, 0, none⟩), .pointer (some ⟨c, 0, none⟩), .agg #[.int .i64 3, .int .i64 n, .int .i64 v]] w (SAns W0 c h g r m q s bk H tl) := by
  have G0 := World.grownBy_alloc w (.cells #[.int .i64 3, .int .i64 n, .int .i64 v] 37) none
  obtain ⟨u0, u1, u2⟩ := Tri.new w 37 3 n v
  have TK := Lib.hid (take3_any (Y.new G0) n v)
  clear Y G0
  go_enter Tryd.func9, Tryd.ntmps9
  go_wp2_with (first
    | (go_at_call 23; (with_reducible refine TK.out.mono ?_); rintro e w2 ⟨rfl, hz⟩; have Z2 := Lib.hid hz; clear hz))
  go_ret
  exact ⟨rfl, Z2.out⟩
theorem step4_no (Y : Z W0 w c h g r m q s bk H vk vs tl vt ks xs cs ws fr bw) (n v : Int) (hno : n ∉ bm.nums ws) :
    Calls Tryd.prog 9 #[.pointer (some ⟨bk, 0, none⟩), .pointer (some ⟨c, 0, none⟩), .agg #[.int .i64 4, .int .i64 n, .int .i64 v]] w (SAns W0 c h g r m q s bk H tl) := by
  have G0 := Lib.hid (World.grownBy_alloc w (.cells #[.int .i64 4, .int .i64 n, .int .i64 v] 37) none)
  have T0 := Lib.hid (Tri.new w 37 4 n v)
  have Y0 := Lib.hid (Y.new G0.out)
  have FAR := Lib.hid Y.far
  obtain ⟨u0, u1, u2⟩ := T0.out
  have f0 := (Y.new G0.out).bo.b0
  have f1 := (Y.new G0.out).bo.b1
  obtain ⟨A, cc, hvt, hr⟩ := Y0.out.bo.rd
  have IN := Lib.hid (fun k => bm.In_any (w := (w.alloc (.cells #[.int .i64 4, .int .i64 n, .int .i64 v] 37)).drewN k) (B := (w.alloc (.cells #[.int .i64 4, .int .i64 n, .int .i64 v] 37)).heap.size) (by have := bm.nums_length ws; omega) hr n)
  rw [decide_eq_false hno] at IN
  subst hvt
  have GV := Lib.hid (fun W (hW : Hp W c h g r m q s ks xs cs ws) => Give_no hW n hno)
  clear Y hr hno
  go_enter Tryd.func9, Tryd.ntmps9
  go_wp2
  go_quiet (first
    | (go_at_call 24; refine Calls.quiet_of_same (IN.out _)))
  go_wp2_with (first
    | (go_at_call 26; (with_reducible refine (GV.out _ (Y0.out.hp.drewN _)).mono ?_); rintro e w2 ⟨ws2, rfl, hh, hx, hg⟩; have HP2 := Lib.hid hh; have X2 := Lib.hid hx; have G2 := Lib.hid ((Gr.new (L := [h, r, q, s]) (bm.grown_drewN _ _ _)).trans hg); clear hh hx hg))
  go_ret
  exact ⟨rfl, (Y0.out.prog HP2.out G2.out X2.out Y0.out.ok Y0.out.wd).z⟩
theorem step4_yes (Y : Z W0 w c h g r m q s bk H vk vs tl vt ks xs cs ws fr bw) (n v : Int) (hin : n ∈ bm.nums ws)
    (hR : ∀ W V, Hh W V H vk vs tl ks fr → Calls Tryd.prog 63 #[.pointer (some ⟨H, 0, none⟩), .int .i64 n] W fun e w' => ∃ vk' vs', e = nil0 ∧ Hh w' V H vk' vs' tl ks' fr' ∧ Gr [H] W w')
    (hP : ∀ W, Hp W c h g r m q s ks xs cs ws → Calls Tryd.prog 26 #[.pointer (some ⟨c, 0, none⟩), .int .i64 n] W (Did (.bool true) c h g r m q s ks' xs' cs' ((bm.nums ws).filter fun y => decide (y ≠ n)) W))
    (hO : Ok ks' xs' cs' ((bm.nums ws).filter fun y => decide (y ≠ n)) fr') (hW : Wd ks' ((bm.nums ws).filter fun y => decide (y ≠ n)) xs' bw) :
    Calls Tryd.prog 9 #[.pointer (some ⟨bk, 0, none⟩), .pointer (some ⟨c, 0, none⟩), .agg #[.int .i64 4, .int .i64 n, .int .i64 v]] w (SAns W0 c h g r m q s bk H tl) := by
  have G0 := Lib.hid (World.grownBy_alloc w (.cells #[.int .i64 4, .int .i64 n, .int .i64 v] 37) none)
  have T0 := Lib.hid (Tri.new w 37 4 n v)
  have Y0 := Lib.hid (Y.new G0.out)
  have FAR := Lib.hid Y.far
  obtain ⟨u0, u1, u2⟩ := T0.out
  have f0 := (Y.new G0.out).bo.b0
  have f1 := (Y.new G0.out).bo.b1
  obtain ⟨A, cc, hvt, hr⟩ := Y0.out.bo.rd
  have IN := Lib.hid (fun k => bm.In_any (w := (w.alloc (.cells #[.int .i64 4, .int .i64 n, .int .i64 v] 37)).drewN k) (B := (w.alloc (.cells #[.int .i64 4, .int .i64 n, .int .i64 v] 37)).heap.size) (by have := bm.nums_length ws; omega) hr n)
  rw [decide_eq_true hin] at IN
  subst hvt
  have GN := Lib.hid (fun W (hB : Bk W [c, h, g, r, m, q, s] bk H vk vs tl (.slice A (bm.nums ws).length cc) ks fr (bm.nums ws) bw) => gone_any hB n (bm.nums_length ws) hR)
  have GV := Lib.hid hP
  have OO := Lib.hid hO
  have WW := Lib.hid hW
  clear Y hr hin hR hP hO hW
  go_enter Tryd.func9, Tryd.ntmps9
  go_wp2
  go_quiet (first
    | (go_at_call 24; refine Calls.quiet_of_same (IN.out _)))
  go_wp2_with (first
    | (go_at_call 25; (with_reducible refine (GN.out _ (Y0.out.bo.new (bm.grown_drewN _ _ _))).mono ?_); rintro e w3 ⟨vt3, vk3, vs3, rfl, hb, hg, hlt⟩; have B3 := Lib.hid hb; have G3 := Lib.hid ((Gr.new (bm.grown_drewN _ _ _)).trans hg); have HP3 := Lib.hid (Y0.out.hp3 G3.out); have T3 := Lib.hid (T0.out.gr G3.out FAR.out.2); obtain ⟨p0, p1, p2⟩ := T3.out; have LT := Lib.hid (show ∀ t, vt3.ownBlock = some t → W0.heap.size ≤ t from fun t ht => Nat.le_trans Y0.out.grown.size (hlt t ht)); clear hb hg hlt)
    | (go_at_call 26; (with_reducible refine (GV.out _ HP3.out).mono ?_); rintro e w4 ⟨ws4, rfl, hh, hx, hg⟩; have HP4 := Lib.hid hh; have X4 := Lib.hid hx; have G4 := Lib.hid hg; clear hh hx hg))
  go_ret
  exact ⟨rfl, (Y0.out.fin2 B3.out G3.out HP4.out G4.out X4.out OO.out WW.out LT.out).z⟩
theorem step4_any (Y : Z W0 w c h g r m q s bk H vk vs tl vt ks xs cs ws fr bw) (n v : Int) :
    Calls Tryd.prog 9 #[.pointer (some ⟨bk, 0, none⟩), .pointer (some ⟨c, 0, none⟩), .agg #[.int .i64 4, .int .i64 n, .int .i64 v]] w (SAns W0 c h g r m q s bk H tl) := by
  have O := Y.ok
  by_cases ha : n ∈ bm.nums ws
  · obtain ⟨A, P, rfl, hP, hp, p64, pl, ⟨hk, hm⟩ | ⟨hk, hm⟩⟩ := tkn_at O ha
    · exact step4_yes Y A v ha (fun W V h => rGive_large h O.kds O.few hP hk) (fun W hW => Give_large' hW O ha hp hk) (O.gone_large ha hP hk) (Y.wd.gone_large O ha hP hk)
    · have hin := bz_in O ha
      have hps := bz_pos O ha
      have ln := O.len
      exact step4_yes Y A v ha (fun W V h => rGive_cell h O.kds O.few hP hk rfl (O.told hk).2.2) (fun W hW => Give_cell' hW O ha hp hP p64 hk hm rfl) (O.gone_cell ha hP hk rfl).1 (Y.wd.gone_cell O ha (by omega) _)
  · exact step4_no Y n v ha
theorem step5_of (b : Bool) (Y : Z W0 w c h g r m q s bk H vk vs tl vt ks xs cs ws fr bw) (n v : Int)
    (hR : ∀ W V, Hh W V H vk vs tl ks fr → Calls Tryd.prog 28 #[.pointer (some ⟨H, 0, none⟩), .int .i64 n] W (HhAns (.bool b) V H tl ks' fr W))
    (hP : ∀ W, Hp W c h g r m q s ks xs cs ws → Calls Tryd.prog 27 #[.pointer (some ⟨c, 0, none⟩), .int .i64 n] W (Did (.bool b) c h g r m q s ks' xs cs (bm.nums ws) W))
    (hO : Ok ks' xs cs (bm.nums ws) fr) (hW : Wd ks' (bm.nums ws) xs bw) :
    Calls Tryd.prog 9 #[.pointer (some ⟨bk, 0, none⟩), .pointer (some ⟨c, 0, none⟩), .agg #[.int .i64 5, .int .i64 n, .int .i64 v]] w (SAns W0 c h g r m q s bk H tl) := by
  have G0 := Lib.hid (World.grownBy_alloc w (.cells #[.int .i64 5, .int .i64 n, .int .i64 v] 37) none)
  have T0 := Lib.hid (Tri.new w 37 5 n v)
  have Y0 := Lib.hid (Y.new G0.out)
  have FAR := Lib.hid Y.far
  obtain ⟨u0, u1, u2⟩ := T0.out
  have f0 := (Y.new G0.out).bo.b0
  have f1 := (Y.new G0.out).bo.b1
  have CR := Lib.hid hR
  have DR := Lib.hid hP
  have OO := Lib.hid hO
  have WW := Lib.hid hW
  clear Y hR hP hO hW
  go_enter Tryd.func9, Tryd.ntmps9
  go_wp2
  go_region_held3 (fun W => W.cell? ⟨bk, 0, none⟩ = some (.pointer (some ⟨H, 0, none⟩)) ∧ W.cell? ⟨w.heap.size, 1, none⟩ = some (.int .i64 n)) (first | exact ⟨f2, y1⟩ | exact ⟨f3, p1⟩ | exact ⟨f0, u1⟩ | go_keep) (first
    | (go_at_call 28; (with_reducible refine (CR.out _ _ (B2.out.hh.drewN _)).mono ?_); rintro e w3 ⟨vk3, vs3, rfl, hh, hg⟩; have G3' := Lib.hid ((Gr.new (L := [H]) (bm.grown_drewN _ _ _)).trans hg); have B3 := Lib.hid (B2.out.heap hh G3'.out); have f3 := B3.out.b0; have G3 := Lib.hid (G3'.out.mono (M := H :: Wr bk vt) (fun k hk => by simp at hk; simp [hk])); have p1 := (T2.out.gr G3.out FAR.out.2).t1; have ZF := Lib.hid (Y0.out.fin HP2.out G2.out X2.out B3.out G3.out OO.out WW.out Y0.out.lowt); clear hh hg)
    | (go_at_call 28; (with_reducible refine (CR.out _ _ (B2.out.hh.drew)).mono ?_); rintro e w3 ⟨vk3, vs3, rfl, hh, hg⟩; have G3' := Lib.hid ((Gr.new (L := [H]) (ch.grown_drew _ _)).trans hg); have B3 := Lib.hid (B2.out.heap hh G3'.out); have f3 := B3.out.b0; have G3 := Lib.hid (G3'.out.mono (M := H :: Wr bk vt) (fun k hk => by simp at hk; simp [hk])); have p1 := (T2.out.gr G3.out FAR.out.2).t1; have ZF := Lib.hid (Y0.out.fin HP2.out G2.out X2.out B3.out G3.out OO.out WW.out Y0.out.lowt); clear hh hg)
    | (go_at_call 28; (with_reducible refine (CR.out _ _ (B2.out.hh)).mono ?_); rintro e w3 ⟨vk3, vs3, rfl, hh, hg⟩; have G3' := Lib.hid hg; have B3 := Lib.hid (B2.out.heap hh G3'.out); have f3 := B3.out.b0; have G3 := Lib.hid (G3'.out.mono (M := H :: Wr bk vt) (fun k hk => by simp at hk; simp [hk])); have p1 := (T2.out.gr G3.out FAR.out.2).t1; have ZF := Lib.hid (Y0.out.fin HP2.out G2.out X2.out B3.out G3.out OO.out WW.out Y0.out.lowt); clear hh hg)
    | (go_at_call 27; (with_reducible refine (DR.out _ (HQ2.out.drewN _)).mono ?_); rintro e w3 ⟨ws3, rfl, hh, hx, hg⟩; have G3 := Lib.hid ((Gr.new (L := [h, r, q, s]) (bm.grown_drewN _ _ _)).trans hg); have ZF := Lib.hid (Y0.out.fin2 B2.out GQ2.out hh G3.out hx OO.out WW.out Y0.out.lowt); have f3 := ZF.out.bo.b0; have p1 := (T2.out.gr G3.out FAR.out.1).t1; clear hh hx hg)
    | (go_at_call 27; (with_reducible refine (DR.out _ (HQ2.out.drew)).mono ?_); rintro e w3 ⟨ws3, rfl, hh, hx, hg⟩; have G3 := Lib.hid ((Gr.new (L := [h, r, q, s]) (ch.grown_drew _ _)).trans hg); have ZF := Lib.hid (Y0.out.fin2 B2.out GQ2.out hh G3.out hx OO.out WW.out Y0.out.lowt); have f3 := ZF.out.bo.b0; have p1 := (T2.out.gr G3.out FAR.out.1).t1; clear hh hx hg)
    | (go_at_call 27; (with_reducible refine (DR.out _ (HQ2.out)).mono ?_); rintro e w3 ⟨ws3, rfl, hh, hx, hg⟩; have G3 := Lib.hid hg; have ZF := Lib.hid (Y0.out.fin2 B2.out GQ2.out hh G3.out hx OO.out WW.out Y0.out.lowt); have f3 := ZF.out.bo.b0; have p1 := (T2.out.gr G3.out FAR.out.1).t1; clear hh hx hg)
    | (go_at_call 27; (with_reducible refine (DR.out _ (Y0.out.hp.drewN _)).mono ?_); rintro e w2 ⟨ws2, rfl, hh, hx, hg⟩; have HP2 := Lib.hid hh; have X2 := Lib.hid hx; have G2 := Lib.hid ((Gr.new (L := [h, r, q, s]) (bm.grown_drewN _ _ _)).trans hg); have B2 := Lib.hid (Y0.out.old G2.out); have f2 := B2.out.b0; have T2 := Lib.hid (T0.out.gr G2.out FAR.out.1); have y1 := T2.out.t1; clear hh hx hg)
    | (go_at_call 27; (with_reducible refine (DR.out _ (Y0.out.hp.drew)).mono ?_); rintro e w2 ⟨ws2, rfl, hh, hx, hg⟩; have HP2 := Lib.hid hh; have X2 := Lib.hid hx; have G2 := Lib.hid ((Gr.new (L := [h, r, q, s]) (ch.grown_drew _ _)).trans hg); have B2 := Lib.hid (Y0.out.old G2.out); have f2 := B2.out.b0; have T2 := Lib.hid (T0.out.gr G2.out FAR.out.1); have y1 := T2.out.t1; clear hh hx hg)
    | (go_at_call 27; (with_reducible refine (DR.out _ (Y0.out.hp)).mono ?_); rintro e w2 ⟨ws2, rfl, hh, hx, hg⟩; have HP2 := Lib.hid hh; have X2 := Lib.hid hx; have G2 := Lib.hid hg; have B2 := Lib.hid (Y0.out.old G2.out); have f2 := B2.out.b0; have T2 := Lib.hid (T0.out.gr G2.out FAR.out.1); have y1 := T2.out.t1; clear hh hx hg)
    | (go_at_call 28; (with_reducible refine (CR.out _ _ (Y0.out.bo.hh.drewN _)).mono ?_); rintro e w2 ⟨vk2, vs2, rfl, hh, hg⟩; have GQ2' := Lib.hid ((Gr.new (L := [H]) (bm.grown_drewN _ _ _)).trans hg); have B2 := Lib.hid (Y0.out.bo.heap hh GQ2'.out); have f2 := B2.out.b0; have GQ2 := Lib.hid (GQ2'.out.mono (M := H :: Wr bk vt) (fun k hk => by simp at hk; simp [hk])); have HQ2 := Lib.hid (Y0.out.hp3 GQ2.out); have T2 := Lib.hid (T0.out.gr GQ2.out FAR.out.2); have y1 := T2.out.t1; clear hh hg)
    | (go_at_call 28; (with_reducible refine (CR.out _ _ (Y0.out.bo.hh.drew)).mono ?_); rintro e w2 ⟨vk2, vs2, rfl, hh, hg⟩; have GQ2' := Lib.hid ((Gr.new (L := [H]) (ch.grown_drew _ _)).trans hg); have B2 := Lib.hid (Y0.out.bo.heap hh GQ2'.out); have f2 := B2.out.b0; have GQ2 := Lib.hid (GQ2'.out.mono (M := H :: Wr bk vt) (fun k hk => by simp at hk; simp [hk])); have HQ2 := Lib.hid (Y0.out.hp3 GQ2.out); have T2 := Lib.hid (T0.out.gr GQ2.out FAR.out.2); have y1 := T2.out.t1; clear hh hg)
    | (go_at_call 28; (with_reducible refine (CR.out _ _ (Y0.out.bo.hh)).mono ?_); rintro e w2 ⟨vk2, vs2, rfl, hh, hg⟩; have GQ2' := Lib.hid hg; have B2 := Lib.hid (Y0.out.bo.heap hh GQ2'.out); have f2 := B2.out.b0; have GQ2 := Lib.hid (GQ2'.out.mono (M := H :: Wr bk vt) (fun k hk => by simp at hk; simp [hk])); have HQ2 := Lib.hid (Y0.out.hp3 GQ2.out); have T2 := Lib.hid (T0.out.gr GQ2.out FAR.out.2); have y1 := T2.out.t1; clear hh hg))
  all_goals
    go_wp2
    go_ret
    first
      | exact ⟨rfl, ZF.out.z⟩
      | (refine ⟨?_, ZF.out.z⟩; cases b <;> rfl)
theorem step5_any (Y : Z W0 w c h g r m q s bk H vk vs tl vt ks xs cs ws fr bw) (n v : Int) :
    Calls Tryd.prog 9 #[.pointer (some ⟨bk, 0, none⟩), .pointer (some ⟨c, 0, none⟩), .agg #[.int .i64 5, .int .i64 n, .int .i64 v]] w (SAns W0 c h g r m q s bk H tl) := by
  have O := Y.ok
  rcases drop_dec O n with ⟨P, rfl, hk, h1, h2, h3⟩ | ⟨h1, h2⟩
  · exact step5_of true Y P v (fun W V h => rDrop_yes h O.kds O.few hk (by omega)) (fun W hW => Drop_yes hW O.kds P h2 (by rw [h3]; exact h1)) (O.drop hk h1) (Y.wd.drop O hk h1)
  · exact step5_of false Y n v (fun W V h => (rDrop_no h O.kds O.few n h2).mono fun e w' ⟨e1, e2⟩ => ⟨vk, vs, e1, h.new e2, .new e2⟩) (fun W hW => (Drop_no hW O.kds n h1).mono fun e w' ⟨e1, e2⟩ => ⟨ws, e1, hW.new e2, rfl, .new e2⟩) O Y.wd
end
end Go.Proofs.YtpnhanalnbjapaaDoor.bo
