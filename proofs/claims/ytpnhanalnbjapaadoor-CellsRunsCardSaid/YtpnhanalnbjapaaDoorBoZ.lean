/- Joined: BoN, BoP, BoR, CeZ. -/
import Derived.Test.YtpnhanalnbjapaaDoorBoY
import Derived.Test.YtpnhanalnbjapaaDoorBoI
import Derived.Test.YtpnhanalnbjapaaDoorBoL
import Derived.Test.YtpnhanalnbjapaaDoorBoM
import Derived.Test.YtpnhanalnbjapaaDoorCeS
/- The statement's own book beside the program's heap: all is told. -/
namespace Go.Proofs.YtpnhanalnbjapaaDoor.bo
open Go.ChangeShapes Go.WideShapes Go.ChangeAt Go.RowKit gen calls cls geos ce
set_option linter.unusedVariables false
set_option maxHeartbeats 16000000
set_option maxRecDepth 100000
section
variable {W0 w w1 w' w2 w3 w4 : World} {c h g r m q s bk H : Nat} {vk vt : Value} {vs tl : List Value} {ks xs cs bw : List Int} {ws : List Nat} {fr : Nat → List Int}
/-- A call that reads: what it answers, from any later world. -/
def Ask (w : World) (f : Nat) (args : Array Value) (v : Value) : Prop := ∀ W, w.grownBy W none → Calls Tryd.prog f args W fun e w' => e = .returned v ∧ w.grownBy w' none
theorem told_any (Y : Z W0 w c h g r m q s bk H vk vs tl vt ks xs cs ws fr bw) (hT : bm.Tab w) (h0 : s ≠ 0) :
    Calls Tryd.prog 10 #[.pointer (some ⟨bk, 0, none⟩), .pointer (some ⟨c, 0, none⟩)] w fun e w' => e = .returned (.bool true) ∧ w.grownBy w' none := by
  have Y0 := Lib.hid Y
  have O := Y.ok
  have tl2 := bm.nums_length ws
  have CF := Lib.hid (show ∀ W, w.grownBy W none → W.cell? ⟨bk, 0, none⟩ = some (.pointer (some ⟨H, 0, none⟩)) ∧ W.cell? ⟨bk, 1, none⟩ = some vt ∧ W.cell? ⟨H, 0, none⟩ = some vk from fun W hg => ⟨(Y0.out.new hg).bo.b0, (Y0.out.new hg).bo.b1, (Y0.out.new hg).bo.hh.h0⟩)
  have GX := Lib.hid (World.grownBy.refl w none)
  have FR := Lib.hid (show Ask w 15 #[.pointer (some ⟨c, 0, none⟩)] (.int .i64 (pg.zeros ks)) from fun W hg => (Free_any (Y0.out.new hg).hp).mono fun e w' ⟨h1, h2⟩ => ⟨h1, hg.trans h2⟩)
  have CN := Lib.hid (show Ask w 37 #[vk] (.int .i64 (pg.zeros ks)) from fun W hg => by
    obtain ⟨A, m', cc, hvk, hr, _⟩ := (Y0.out.new hg).bo.hh.kd
    have fw := O.few
    have lr := hr.1
    rw [hvk]
    exact (pg.rCount_any (by omega) hr).mono fun e w' ⟨h1, h2⟩ => ⟨h1, by subst h2; exact hg⟩)
  have AL := Lib.hid (show ∀ W, w.grownBy W none → Calls Tryd.prog 36 #[.pointer (some ⟨c, 0, none⟩)] W fun e w' => ∃ A d, e = .returned (.slice A (bm.nums ws).length d) ∧ Rd w' w'.heap.size A (bm.nums ws).length d (bm.nums ws) ∧ w.grownBy w' none from fun W hg => (All_any (Y0.out.new hg).hp (hT.kept hg (by simp)) h0).mono fun e w' ⟨A, d, h1, h2, h3⟩ => ⟨A, d, h1, bm.rd_own h2, hg.trans h3⟩)
  have IT := Lib.hid (show ∀ W A d, w.grownBy W none → Rd W W.heap.size A (bm.nums ws).length d (bm.nums ws) → Calls Tryd.prog 35 #[.slice A (bm.nums ws).length d, vt] W fun e w' => e = .returned (.bool true) ∧ w.grownBy w' none from fun W A d hg r4 => by
    obtain ⟨B, cc, hvt, hr⟩ := (Y0.out.new hg).bo.rd
    rw [hvt]
    exact (bm.Ints_true (bm.nums ws) A B _ _ d cc _ _ W (by omega) rfl r4 hr).mono fun e w' ⟨h1, h2⟩ => ⟨h1, by obtain ⟨j, rfl⟩ := h2; exact hg.trans (bm.grown_drewN _ _ _)⟩)
  have SZ := Lib.hid (show ∀ a : Nat, (a : Int) ∈ bm.nums ws → Ask w 38 #[.pointer (some ⟨bk, 0, none⟩), .int .i64 a] (.int .i64 (bz ks a)) from fun a ha W hg => by
    have hin := bz_in O ha
    have hps := bz_pos O ha
    have ln := O.len
    have fw := O.few
    exact (size_any (Y0.out.new hg).bo O.kds O.few a (by omega)).mono fun e w' ⟨h1, h2⟩ => ⟨h1, hg.trans h2⟩)
  have LD := Lib.hid (show ∀ x : Nat, x < xs.length → Ask w 39 #[.pointer (some ⟨c, 0, none⟩), .int .i64 x] (.tuple #[.int .i64 (xs.getD x 0), .bool true]) from fun x hx W hg => (Load_yes (Y0.out.new hg).hp x hx).mono fun e w' ⟨h1, h2⟩ => ⟨h1, by subst h2; exact hg⟩)
  have WA := Lib.hid (fun W (hg : w.grownBy W none) i (hi : i < 2048) => (Y0.out.new hg).bo.wat hi)
  have WD := Lib.hid Y.wd
  have BL := Lib.hid (show ∀ a ∈ bm.nums ws, ∃ A z : Nat, a = A ∧ bz ks a = z ∧ A + z ≤ xs.length ∧ A + z ≤ 2048 from fun a ha => by
    have hin := bz_in O ha
    have hps := bz_pos O ha
    have ln := O.len
    have fw := O.few
    exact ⟨a.toNat, (bz ks a).toNat, by omega, by omega, by omega, by omega⟩)
  unfold Ask at FR CN SZ LD
  have f0 := CF.out _ GX.out
  obtain ⟨A, cc, rfl, hr⟩ := Y.bo.rd
  have RT := Lib.hid hr
  clear Y O hT h0 hr
  generalize pg.zeros ks = zz at FR CN
  generalize bm.nums ws = tk at *
  generalize hnt : tk.length = nt at *
  have HNT := Lib.hid hnt
  go_enter Tryd.func10, Tryd.ntmps10
  go_wp2
  go_region_held3 (fun W => W.cell? ⟨bk, 0, none⟩ = some (.pointer (some ⟨H, 0, none⟩)) ∧ W.cell? ⟨bk, 1, none⟩ = some (.slice A nt cc) ∧ W.cell? ⟨H, 0, none⟩ = some vk) (first | exact f0 | go_keep) (first
    | (go_at_call 36; (with_reducible refine (AL.out _ (GX.out.trans (bm.grown_drewN _ _ _))).mono ?_); rintro e wx ⟨A4, d4, rfl, hr4, hg⟩; have R4 := Lib.hid hr4; have R4n := Lib.hid (fun n => (show Rd (wx.drewN n) (wx.drewN n).heap.size A4 nt d4 tk from hr4)); have R4d := Lib.hid (show Rd wx.drew wx.drew.heap.size A4 nt d4 tk from hr4); have GA := Lib.hid hg; have GX := Lib.hid hg; have f0 := CF.out _ hg; clear hr4 hg)
    | (go_at_call 36; (with_reducible refine (AL.out _ (GX.out.trans (ch.grown_drew _ _))).mono ?_); rintro e wx ⟨A4, d4, rfl, hr4, hg⟩; have R4 := Lib.hid hr4; have R4n := Lib.hid (fun n => (show Rd (wx.drewN n) (wx.drewN n).heap.size A4 nt d4 tk from hr4)); have R4d := Lib.hid (show Rd wx.drew wx.drew.heap.size A4 nt d4 tk from hr4); have GA := Lib.hid hg; have GX := Lib.hid hg; have f0 := CF.out _ hg; clear hr4 hg)
    | (go_at_call 36; (with_reducible refine (AL.out _ GX.out).mono ?_); rintro e wx ⟨A4, d4, rfl, hr4, hg⟩; have R4 := Lib.hid hr4; have R4n := Lib.hid (fun n => (show Rd (wx.drewN n) (wx.drewN n).heap.size A4 nt d4 tk from hr4)); have R4d := Lib.hid (show Rd wx.drew wx.drew.heap.size A4 nt d4 tk from hr4); have GA := Lib.hid hg; have GX := Lib.hid hg; have f0 := CF.out _ hg; clear hr4 hg)
    | (go_at_call 35; (with_reducible refine (IT.out _ A4 d4 (GX.out.trans (bm.grown_drewN _ _ _)) (R4n.out _)).mono ?_); rintro e wx ⟨rfl, hg⟩; have GX := Lib.hid hg; have f0 := CF.out _ hg; clear hg)
    | (go_at_call 35; (with_reducible refine (IT.out _ A4 d4 (GX.out.trans (ch.grown_drew _ _)) R4d.out).mono ?_); rintro e wx ⟨rfl, hg⟩; have GX := Lib.hid hg; have f0 := CF.out _ hg; clear hg)
    | (go_at_call 35; (with_reducible refine (IT.out _ A4 d4 GX.out R4.out).mono ?_); rintro e wx ⟨rfl, hg⟩; have GX := Lib.hid hg; have f0 := CF.out _ hg; clear hg)
    | (go_at_call 15; (with_reducible refine (FR.out _ (GX.out.trans (bm.grown_drewN _ _ _))).mono ?_); rintro e wx ⟨rfl, hg⟩; have GX := Lib.hid hg; have f0 := CF.out _ hg; clear hg)
    | (go_at_call 15; (with_reducible refine (FR.out _ (GX.out.trans (ch.grown_drew _ _))).mono ?_); rintro e wx ⟨rfl, hg⟩; have GX := Lib.hid hg; have f0 := CF.out _ hg; clear hg)
    | (go_at_call 15; (with_reducible refine (FR.out _ GX.out).mono ?_); rintro e wx ⟨rfl, hg⟩; have GX := Lib.hid hg; have f0 := CF.out _ hg; clear hg)
    | (go_at_call 37; (with_reducible refine (CN.out _ (GX.out.trans (bm.grown_drewN _ _ _))).mono ?_); rintro e wx ⟨rfl, hg⟩; have GX := Lib.hid hg; have f0 := CF.out _ hg; clear hg)
    | (go_at_call 37; (with_reducible refine (CN.out _ (GX.out.trans (ch.grown_drew _ _))).mono ?_); rintro e wx ⟨rfl, hg⟩; have GX := Lib.hid hg; have f0 := CF.out _ hg; clear hg)
    | (go_at_call 37; (with_reducible refine (CN.out _ GX.out).mono ?_); rintro e wx ⟨rfl, hg⟩; have GX := Lib.hid hg; have f0 := CF.out _ hg; clear hg))
  all_goals
    obtain ⟨g0, g1, g2⟩ := f0
    go_wp2
    go_loopw [5] (fun i wr => ∃ k : Nat, k ≤ nt ∧ i = .int .i64 k ∧ w.grownBy wr none) (fun i _ => nt - (intOf i).toNat)
    case atStart => exact ⟨0, Nat.zero_le _, rfl, GX.out⟩
    case round =>
      obtain ⟨k, hk, rfl, hg⟩ := hrel
      have GR := Lib.hid hg
      have e1 := (CF.out _ hg).2.1
      clear hg
      by_cases hlt : k < nt
      · obtain ⟨b, off, hA, g5⟩ := (bm.Rd.below' RT.out (li.grown_below GR.out) GR.out.size).at_ hlt
        have hmem : tk.getD k 0 ∈ tk := by
          rw [List.getD_eq_getElem?_getD, List.getElem?_eq_getElem (by omega)]
          exact List.getElem_mem _
        obtain ⟨a, z, ha, hz, hx, h48⟩ := BL.out _ hmem
        rw [ha] at g5 hmem hz
        subst hA
        have HM := Lib.hid hmem
        have SA := Lib.hid (SZ.out a hmem)
        rw [hz] at SA
        have HZ := Lib.hid hz
        have lt5 : (k : Int) < nt := by omega
        clear ha hmem hz
        go_wp2
        go_loopw [7] (fun i wr2 => ∃ jj : Nat, jj ≤ z ∧ i = .int .i64 jj ∧ w.grownBy wr2 none) (fun i _ => z - (intOf i).toNat)
        case atStart => exact ⟨0, Nat.zero_le _, rfl, GR.out⟩
        case round =>
          obtain ⟨jj, hj, rfl, hg⟩ := hrel
          have GI := Lib.hid hg
          clear hg
          by_cases hl2 : jj < z
          · have LA := Lib.hid (show ∀ W, w.grownBy W none → Calls Tryd.prog 39 #[.pointer (some ⟨c, 0, none⟩), .int .i64 ((a : Int) + (jj : Int))] W fun e w' => e = .returned (.tuple #[.int .i64 (xs.getD (a + jj) 0), .bool true]) ∧ w.grownBy w' none from LD.out (a + jj) (by omega))
            have W3 := Lib.hid (WD.out a HM.out (a + jj) (by omega) (by rw [HZ.out]; omega))
            rw [W3.out] at LA
            have i5 : (jj : Int) < z := by omega
            have q1 : (0 : Int) ≤ (a : Int) + jj := by omega
            have q2 : (a : Int) + jj < 2048 := by omega
            have q3 := i5
            generalize hxx : bw.getD (a + jj) 0 = x0 at LA
            have HXX := Lib.hid hxx
            go_wp2_with (first
              | (go_at_call 38; (with_reducible refine (SA.out _ GI.out).mono ?_); rintro e w5 ⟨rfl, hg⟩; have G5 := Lib.hid hg; clear hg)
              | (go_at_call 39; (with_reducible refine (LA.out _ G5.out).mono ?_); rintro e w6 ⟨rfl, hg⟩; have G6 := Lib.hid hg; have y6 := WA.out _ hg (a + jj) (by omega); rw [HXX.out] at y6; have b6 := (CF.out _ hg).1; clear hg))
            go_roundw
            case rel => exact ⟨jj + 1, by omega, by go_num, G6.out⟩
            case measure => simp [intOf]; omega
          · obtain rfl : jj = z := by omega
            go_wp2_with (first
              | (go_at_call 38; (with_reducible refine (SA.out _ GI.out).mono ?_); rintro e w5 ⟨rfl, hg⟩; have G5 := Lib.hid hg; clear hg))
            go_roundw
            case rel => exact ⟨k + 1, by omega, by go_num, G5.out⟩
            case measure => simp [intOf]; omega
      · obtain rfl : k = nt := by omega
        go_wp2
        first | go_end0 | go_ret
        exact ⟨rfl, GR.out⟩
end
end Go.Proofs.YtpnhanalnbjapaaDoor.bo

/- The statement's own heap, and its book, as they are made. -/
namespace Go.Proofs.YtpnhanalnbjapaaDoor.bo
open Go.ChangeShapes Go.WideShapes Go.ChangeAt Go.RowKit gen calls cls geos ce
set_option linter.unusedVariables false
set_option maxHeartbeats 4000000
set_option maxRecDepth 100000
/-- The lists of a heap that was made, and what stands behind them. -/
def vs0 : List Value := List.replicate 64 (.slice none 0 0)
def tl0 : List Value := List.replicate 45 (.int .i64 0) ++ [.int .i64 0, .slice none 0 0, .int .i64 0]
theorem heap_zero : Tryd.zeroCells66 = (Value.slice none 0 0 :: (vs0 ++ tl0)).toArray := by rfl
theorem heap_zero1 (v : Value) : (Tryd.zeroCells66.setIfInBounds 0 v).setIfInBounds 110 (.int .i64 0) = (v :: (vs0 ++ tl0)).toArray := by
  rw [heap_zero]
  rfl
theorem book_zero : Tryd.zeroCells33 = (Value.pointer none :: Value.slice none 0 0 :: (List.replicate 2048 (0 : Int)).map (Value.int .i64)).toArray := by
  rw [List.map_replicate]
  rfl
theorem book_zero1 (v : Value) : Tryd.zeroCells33.setIfInBounds 0 v = (v :: Value.slice none 0 0 :: (List.replicate 2048 (0 : Int)).map (Value.int .i64)).toArray := by
  rw [book_zero]
  rfl
/-- What New of the statement's own heap answers. -/
def HNew (k : Nat) (w : World) (e : Ending) (w' : World) : Prop :=
  ∃ H r, e = .returned (.pointer (some ⟨H, 0, none⟩)) ∧ w.heap.size ≤ H ∧ w'.heap[H]? = some (.cells (Value.slice (some ⟨r, 0, none⟩) k k :: (vs0 ++ tl0)).toArray 66 (0, 0)) ∧
    w'.ownsRow w.heap.size 3 1 (.slice (some ⟨r, 0, none⟩) k k) k (li.ints (List.replicate k 0)) ∧ (0 < k → r ≠ H) ∧ w.grownBy w' none
theorem rNew_any (n : Int) (k : Nat) (hk : pg.near n 0 64 = k) (w : World) :
    Calls Tryd.prog 7 #[.int .i64 n, .int .i64 0] w (HNew k w) := by
  have P := Lib.hid (pg.rNew_any n k hk w)
  have E := Lib.hid heap_zero1
  clear hk
  go_enter Tryd.func7, Tryd.ntmps7
  go_wp2_with (first
    | (go_at_call 22; (with_reducible refine P.out.mono ?_); rintro e w2 ⟨r, rfl, ho, hg⟩; have O2 := Lib.hid ho; have G2 := Lib.hid hg; clear ho hg))
  go_ret
  exact ⟨_, r, rfl, G2.out.size, by rw [E.out, heap_alloc_new], O2.out.alloc _, fun _ h => by have := (O2.out.lt r rfl).2; omega, G2.out.trans (World.grownBy_alloc _ _ none)⟩
/-- All that stands where the script begins. -/
theorem zz_new {W0 w1 w2 w3 : World} {K c h g r m q s H r3 : Nat} (hk : K ≤ 64) (g1 : W0.grownBy w1 none) (hp : Hp w2 c h g r m q s (List.replicate K 0) (List.replicate (32 * K) 0) (List.replicate 128 0) bm.zeros)
    (hl : w1.heap.size ≤ c ∧ w1.heap.size ≤ h ∧ w1.heap.size ≤ g ∧ w1.heap.size ≤ r ∧ w1.heap.size ≤ m ∧ w1.heap.size ≤ q ∧ w1.heap.size ≤ s) (g2 : w1.grownBy w2 none)
    (h1 : w2.heap.size ≤ H) (h2 : w3.heap[H]? = some (.cells (Value.slice (some ⟨r3, 0, none⟩) K K :: (vs0 ++ tl0)).toArray 66 (0, 0))) (h3 : w3.ownsRow w2.heap.size 3 1 (.slice (some ⟨r3, 0, none⟩) K K) K (li.ints (List.replicate K 0))) (h4 : 0 < K → r3 ≠ H) (h5 : w2.grownBy w3 none) :
    Zz W0 c h g r m q s w3.heap.size H tl0 (w3.alloc (.cells (Tryd.zeroCells33.setIfInBounds 0 (.pointer (some ⟨H, 0, none⟩))) 33)) := by
  have l2 := hp.lt
  have z1 := g1.size
  have z2 := g2.size
  have z3 := h5.size
  have lH := pg.lt_of_heap h2
  have ga := World.grownBy_alloc w3 (.cells (Tryd.zeroCells33.setIfInBounds 0 (.pointer (some ⟨H, 0, none⟩))) 33) none
  have hX : ∀ k, k ∈ [c, h, g, r, m, q, s] → k < w2.heap.size := fun k hk => by simp at hk; omega
  have hbk : w3.heap.size ∉ [c, h, g, r, m, q, s] := fun hm => by have := hX _ hm; omega
  have hHn : H ∉ [c, h, g, r, m, q, s] := fun hm => by have := hX _ hm; omega
  refine ⟨.slice (some ⟨r3, 0, none⟩) K K, vs0, .slice none 0 0, _, _, _, bm.zeros, fun _ => [], List.replicate 2048 0, (hp.new h5).new ga, by rw [bm.nums_zeros]; exact Ok.new K hk, ?_, by rw [bm.nums_zeros]; exact Wd.nil _ _ _, g1.trans (g2.trans (h5.trans ga)), ?_, fun t ht => by simp [Value.ownBlock] at ht⟩
  · refine ⟨by rw [book_zero1, heap_alloc_new], by rw [List.length_replicate], by rw [bm.nums_zeros]; exact World.ownsRow_nil _ _ _ _, ⟨(ga.block H lH (by simp)).trans h2, by simp [vs0], ?_, ?_, by simp [Av], ?_⟩, fun t ht => by simp [Value.ownBlock] at ht, hbk, hHn, by omega⟩
    · refine ⟨_, K, K, rfl, li.rd_own (h3.alloc _), fun ad e hn hm => ?_, Nat.le_refl _, by unfold maxLen; omega⟩
      cases e
      have l3 := h3.lt r3 rfl
      have l4 := h4 hn
      simp [Av, Value.ownBlock] at hm
      rcases hm with e | e | hm
      · omega
      · exact l4 e
      · have := hX r3 (by simpa using hm)
        omega
    · intro p hp
      exact ⟨.slice none 0 0, by unfold vs0; rw [List.getElem?_replicate, if_pos hp], Fx.nil _ _⟩
    · intro k hk
      simp [Av, Value.ownBlock] at hk
      have zz : ∀ o, (w3.alloc o).heap.size = w3.heap.size + 1 := fun o => by simp
      rw [zz]
      rcases hk with e | e | hm
      · omega
      · omega
      · have := hX k (by simpa using hm)
        omega
  · intro k hk
    simp at hk
    omega
end Go.Proofs.YtpnhanalnbjapaaDoor.bo

/- The statement's own book beside the program's heap: a step, whatever is asked. -/
namespace Go.Proofs.YtpnhanalnbjapaaDoor.bo
open Go.ChangeShapes Go.WideShapes Go.ChangeAt Go.RowKit gen calls cls geos ce
set_option linter.unusedVariables false
theorem step_any {W0 w : World} {c h g r m q s bk H : Nat} {tl : List Value} (Y : Zz W0 c h g r m q s bk H tl w) (k n v : Int) (hn : fits n = true) (hv : fits v = true) :
    Calls Tryd.prog 9 #[.pointer (some ⟨bk, 0, none⟩), .pointer (some ⟨c, 0, none⟩), .agg #[.int .i64 k, .int .i64 n, .int .i64 v]] w (SAns W0 c h g r m q s bk H tl) := by
  obtain ⟨vk, vs, vt, ks, xs, cs, ws, fr, bw, Y⟩ := Y
  by_cases h1 : k = 1
  · subst h1; exact step1_any Y n v hn
  by_cases h2 : k = 2
  · subst h2; exact step2_any Y n v hn
  by_cases h3 : k = 3
  · subst h3; exact step3_any Y n v hn
  by_cases h4 : k = 4
  · subst h4; exact step4_any Y n v
  by_cases h5 : k = 5
  · subst h5; exact step5_any Y n v
  by_cases h6 : k = 6
  · subst h6; exact step6_any Y n v hn hv
  exact step7_of Y k n v hn (by omega) (by simpa using h4) (by simpa using h5) (by simpa using h6)
end Go.Proofs.YtpnhanalnbjapaaDoor.bo

/- Cells: a script of calls, held step by step against the statement's own book. -/
namespace Go.Proofs.YtpnhanalnbjapaaDoor.bo
open Go.ChangeShapes Go.WideShapes Go.ChangeAt Go.RowKit gen calls cls geos ce
set_option linter.unusedVariables false
set_option maxHeartbeats 16000000
set_option maxRecDepth 100000
theorem told_z {W0 w : World} {c h g r m q s bk H : Nat} {tl : List Value} (Y : Zz W0 c h g r m q s bk H tl w) (hT : bm.Tab W0) :
    Calls Tryd.prog 10 #[.pointer (some ⟨bk, 0, none⟩), .pointer (some ⟨c, 0, none⟩)] w (SAns W0 c h g r m q s bk H tl) := by
  obtain ⟨vk, vs, vt, ks, xs, cs, ws, fr, bw, Y⟩ := Y
  have h1 := Y.low s (by simp)
  have h2 := hT.1
  exact (told_any Y (hT.kept Y.grown (by simp)) (by omega)).mono fun e w' ⟨h1, h2⟩ => ⟨h1, (Y.new h2).z⟩
theorem Zz.grown {W0 w : World} {c h g r m q s bk H : Nat} {tl : List Value} (Y : Zz W0 c h g r m q s bk H tl w) : W0.grownBy w none := by
  obtain ⟨vk, vs, vt, ks, xs, cs, ws, fr, bw, Y⟩ := Y
  exact Y.grown
def Scz (W0 : World) (l c h g r m q s bk H : Nat) (tl : List Value) (i : Value) (w : World) : Prop := ∃ k : Nat, k ≤ l ∧ i = .int .i64 k ∧ Zz W0 c h g r m q s bk H tl w
theorem CellsRuns_any (n0 : Int) (D : Option Addr) (l c2 : Nat) (f : Nat → Nat → Int) (w : World) (hT : bm.Tab w) (hc : l ≤ c2) (hc2 : c2 ≤ maxLen) (ho : Rws w w.heap.size D l 3 f) :
    Calls Tryd.prog 3 #[.int .i64 n0, .slice D l c2] w fun e w' => e = .returned (.bool true) ∧ w.grownBy w' none := by
  obtain ⟨K, hk, hk2⟩ := pg.near_nat n0 64
  have HT := Lib.hid hT
  have HO := Lib.hid ho
  have HD := Lib.hid (show 0 < l → ∃ ad, D = some ad from ho.some)
  have HL1 := Lib.hid hc
  have HL2 := Lib.hid hc2
  have NK := Lib.hid (show mm.near n0 0 64 = K from hk)
  have N2 := Lib.hid (show pg.near (K : Int) 0 64 = K by unfold pg.near; rw [if_neg (by omega), if_neg (by omega)])
  have NW := Lib.hid (fun w => New_any K K N2.out w)
  have NR := Lib.hid (fun w => rNew_any K K N2.out w)
  have HK := Lib.hid hk2
  clear hk ho hc hc2 hT hk2
  go_enter Tryd.func3, Tryd.ntmps3
  go_wp2_with (first
    | (go_at_call 4; (with_reducible refine (alive_any _).mono ?_); rintro e w1 ⟨rfl, hg⟩; have G1 := Lib.hid hg; clear hg)
    | (go_at_call 5; (with_reducible refine (mm.Near_any _ _ _ _).mono ?_); rintro e w' ⟨rfl, rfl⟩; rw [NK.out])
    | (go_at_call 6; (with_reducible refine (NW.out _).mono ?_); rintro e w2 ⟨c, h, g, r, m, q, s, rfl, hm, hl, hw⟩; have C2 := Lib.hid hm; have L2 := Lib.hid hl; have G2 := Lib.hid hw; clear hm hw hl)
    | (go_at_call 7; (with_reducible refine (NR.out _).mono ?_); rintro e w3 ⟨H, r3, rfl, h1, h2, h3, h4, h5⟩; have Z3 := Lib.hid (zz_new HK.out G1.out C2.out L2.out G2.out h1 h2 h3 h4 h5); clear h1 h2 h3 h4 h5)
    | (go_at_call 8; (with_reducible refine (few_any _ _ _ _ HL1.out HL2.out HD.out).mono ?_); rintro e w' ⟨⟨l2, c3, hl1, hl2, rfl⟩, rfl⟩))
  have O2 := Lib.hid (HO.out.less hl2)
  clear HO HD NW HL1 HL2 NR N2 NK G1 G2 L2 C2
  generalize w3.heap.size = bk at Z3 ⊢
  go_loopw [7] (fun i wr => Scz w l2 c h g r m q s bk H tl0 i wr) (fun i _ => l2 - (intOf i).toNat)
  case atStart => exact ⟨0, Nat.zero_le _, rfl, Z3.out⟩
  case round =>
    obtain ⟨k, hk, rfl, hz⟩ := hrel
    have ZR := Lib.hid hz
    have GR := Lib.hid (Zz.grown hz)
    clear hz Z3
    by_cases hlt : k < l2
    · obtain ⟨b, off, rfl, hb, hc, hw⟩ := (O2.out.kept GR.out (by simp)) k hlt
      have d0 := hc 0 (by omega)
      rw [Nat.add_zero] at d0
      have d1 := hc 1 (by omega)
      have d2 := hc 2 (by omega)
      have W1 := Lib.hid (fits_iff.mpr (hw 1 (by omega)))
      have W2 := Lib.hid (fits_iff.mpr (hw 2 (by omega)))
      generalize f k 0 = x0 at d0
      generalize f k 1 = x1 at d1 W1
      generalize f k 2 = x2 at d2 W2
      clear hc hw
      go_wp2_with (first
        | (go_at_call 9; (with_reducible refine (step_any ZR.out _ _ _ W1.out W2.out).mono ?_); rintro e w4 ⟨rfl, hz⟩; have Z4 := Lib.hid hz; clear hz)
        | (go_at_call 10; (with_reducible refine (told_z Z4.out HT.out).mono ?_); rintro e w5 ⟨rfl, hz⟩; have Z5 := Lib.hid hz; clear hz))
      go_roundw
      case rel => exact ⟨k + 1, by omega, by go_num, Z5.out⟩
      case measure => simp [intOf]; omega
    · go_wp2_with (first
        | (go_at_call 10; (with_reducible refine (told_z ZR.out HT.out).mono ?_); rintro e w5 ⟨rfl, hz⟩; have Z5 := Lib.hid hz; clear hz))
      go_ret
      exact ⟨rfl, Zz.grown Z5.out⟩
end Go.Proofs.YtpnhanalnbjapaaDoor.bo
