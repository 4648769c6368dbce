/- The statement's own run, and the walk of BankRuns. -/
import Derived.Test.YtamfbpoaohmkaaaBnE
import Derived.Deep.RegionWith
namespace Go.Proofs.Ytamfbpoaohmkaaa.bn
open Go.ChangeShapes Go.WideShapes Go.ChangeAt Go.RowKit gen li gr
set_option linter.unusedVariables false
set_option maxHeartbeats 8000000
set_option maxRecDepth 100000
/-- What stands while a run goes on, k calls behind its start. -/
structure Rn (w : World) (g B k : Nat) (N r h i o l : Int) (W : World) : Prop where
  bk : Bk W g (N + k * 2147483648) h i o l r
  mx : Mx W B r h i o l
  rs : Mx W (B + 1) 0 0 0 0 0
  grown : w.grownBy W (some g)
  lt : g < B
  hB : w.heap.size = B
/-- What a run leaves. -/
def RunA (g n : Nat) (N r : Int) (w : World) (e : Ending) (w' : World) : Prop := ∃ h i o l, e = .returned (.tuple #[.agg #[.int .i64 r, .int .i64 h, .int .i64 i, .int .i64 o, .int .i64 l], .bool true]) ∧ Bk w' g (N + n * 2147483648) h i o l r ∧ w.grownBy w' (some g)
section
variable {w W W' : World} {g B k : Nat} {N r h i o l : Int}
theorem Rn.new (q : Rn w g B k N r h i o l W) (hg : W.grownBy W' none) : Rn w g B k N r h i o l W' := ⟨q.bk.new hg, q.mx.new hg, q.rs.new hg, grown_more q.grown hg, q.lt, q.hB⟩
theorem Rn.start (q : Bk w g N h i o l r) : Rn w g w.heap.size 0 N r h i o l ((w.alloc (.cells #[.int .i64 r, .int .i64 h, .int .i64 i, .int .i64 o, .int .i64 l] 25)).alloc (.cells #[.int .i64 0, .int .i64 0, .int .i64 0, .int .i64 0, .int .i64 0] 25)) := by
  obtain ⟨w1, h1⟩ : ∃ w1, w1 = w.alloc (.cells #[.int .i64 r, .int .i64 h, .int .i64 i, .int .i64 o, .int .i64 l] 25) := ⟨_, rfl⟩
  have s1 : w1.heap.size = w.heap.size + 1 := by rw [h1]; simp
  have m1 : Mx w1 w.heap.size r h i o l := by rw [h1]; exact Mx.made _ _ _ _ _ _
  have g1 : w.grownBy w1 none := by rw [h1]; exact World.grownBy_alloc _ _ _
  rw [← h1]
  clear h1
  have g3 := World.grownBy_alloc w1 (.cells #[.int .i64 0, .int .i64 0, .int .i64 0, .int .i64 0, .int .i64 0] 25) none
  refine ⟨⟨q.bo.new (g1.trans g3), q.nu.more (by omega)⟩, m1.new g3, ?_, grown_then (g1.trans g3) (World.grownBy.refl _ _), q.lt, rfl⟩
  rw [← s1]
  exact Mx.made _ _ _ _ _ _
/-- Where a bank has been changed. -/
theorem Rn.off (q : Rn w g B k N r h i o l W) (hg : W.grownBy W' (some g)) : Mx W' B r h i o l ∧ Mx W' (B + 1) 0 0 0 0 0 := by
  have lt := q.lt
  exact ⟨q.mx.kept hg (by simp; omega), q.rs.kept hg (by simp; omega)⟩
theorem Mx.set (q : Mx W B r h i o l) (r2 h2 i2 o2 l2 : Int) : Mx (((((W.setCell ⟨B, 0, none⟩ (.int .i64 r2)).setCell ⟨B, 1, none⟩ (.int .i64 h2)).setCell ⟨B, 2, none⟩ (.int .i64 i2)).setCell ⟨B, 3, none⟩ (.int .i64 o2)).setCell ⟨B, 4, none⟩ (.int .i64 l2)) B r2 h2 i2 o2 l2 := by
  have a0 := heap_setCell_same W B 0 _ _ (.int .i64 r2) q
  have a1 := heap_setCell_same _ B 1 _ _ (.int .i64 h2) a0
  have a2 := heap_setCell_same _ B 2 _ _ (.int .i64 i2) a1
  have a3 := heap_setCell_same _ B 3 _ _ (.int .i64 o2) a2
  have a4 := heap_setCell_same _ B 4 _ _ (.int .i64 l2) a3
  exact a4
theorem Rn.put (q : Rn w g B k N r h i o l W) {h2 i2 o2 l2 : Int} (kb : Bk W' g (N + k * 2147483648 + 2147483648) h2 i2 o2 l2 r) (hg : W.grownBy W' (some g)) :
    Rn w g B (k + 1) N r h2 i2 o2 l2 (((((W'.setCell ⟨B, 0, none⟩ (.int .i64 r)).setCell ⟨B, 1, none⟩ (.int .i64 h2)).setCell ⟨B, 2, none⟩ (.int .i64 i2)).setCell ⟨B, 3, none⟩ (.int .i64 o2)).setCell ⟨B, 4, none⟩ (.int .i64 l2)) := by
  obtain ⟨a, b⟩ := q.off hg
  have lt := q.lt
  have hB := q.hB
  have G := set5 W' B (.int .i64 r) (.int .i64 h2) (.int .i64 i2) (.int .i64 o2) (.int .i64 l2)
  exact ⟨⟨kb.bo.kept G (by simp; omega), kb.nu.more (by omega)⟩, a.set _ _ _ _ _, b.kept G (by simp), grown_aside (q.grown.trans hg) G (by omega), lt, hB⟩
theorem Rn.fin (q : Rn w g B k N r h i o l W) (hg : W.grownBy W' (some (B + 1))) : RunA g k N r w (.returned (.tuple #[.agg #[.int .i64 r, .int .i64 h, .int .i64 i, .int .i64 o, .int .i64 l], .bool true])) W' := by
  have lt := q.lt
  have hB := q.hB
  exact ⟨h, i, o, l, rfl, q.bk.kept hg (by simp; omega), grown_aside q.grown hg (by omega)⟩
theorem run_any {D : Option Addr} {n c2 B0 : Nat} {f : Nat → Nat → Int} (q : Bk w g N h i o l r) (hN : N ≤ 562949953421312) (ho : Rws w B0 D n 2 f) (hB0 : B0 ≤ g) (hn : n ≤ 60) :
    Calls Try.prog 7 #[.pointer (some ⟨g, 0, none⟩), .agg #[.int .i64 r, .int .i64 h, .int .i64 i, .int .i64 o, .int .i64 l], .slice D n c2] w (RunA g n N r w) := by
  obtain ⟨W0, hW0⟩ : ∃ W0, W0 = (w.alloc (.cells #[.int .i64 r, .int .i64 h, .int .i64 i, .int .i64 o, .int .i64 l] 25)).alloc (.cells #[.int .i64 0, .int .i64 0, .int .i64 0, .int .i64 0, .int .i64 0] 25) := ⟨_, rfl⟩
  obtain ⟨B, hB⟩ : ∃ B, B = w.heap.size := ⟨_, rfl⟩
  have K0 := Lib.hid (show Rn w g B 0 N r h i o l W0 by rw [hW0, hB]; exact Rn.start q)
  have TD := Lib.hid (told_any K0.out.bk)
  obtain ⟨b0, b1, b2, b3, b4⟩ := K0.out.mx.f
  have HO := Lib.hid ho
  have HB := Lib.hid hB0
  have HN := Lib.hid hN
  clear q ho hB0 hN
  go_enter Try.func7, Try.ntmps7
  go_upto_region 1 with fail
  rw [← hW0, ← hB]
  clear hW0 hB
  go_wp2_with (go_at_call 19; (with_reducible refine TD.out.mono ?_); rintro r w1 ⟨rfl, hg⟩; have K1 := Lib.hid (K0.out.new hg); clear hg)
  go_loopw [8, 9] (fun ok ix wr => ∃ (k : Nat) (h' i' o' l' : Int), k ≤ n ∧ ix = .int .i64 k ∧ ok = .bool true ∧ Rn w g B k N r h' i' o' l' wr) (fun _ ix _ => n - (intOf ix).toNat)
  case atStart => exact ⟨0, h, i, o, l, Nat.zero_le _, rfl, rfl, K1.out⟩
  case round =>
    obtain ⟨k, h1, i1, o1, l1, hk, rfl, rfl, hr⟩ := hrel
    have K2 := Lib.hid hr
    have O1 := Lib.hid (HO.out.kept hr.grown (fun q e => by cases e; exact HB.out))
    obtain ⟨b0, b1, b2, b3, b4⟩ := hr.mx.f
    obtain ⟨d0, d1, d2, d3, d4⟩ := hr.rs.f
    have z0 := hr.rs.free 0
    have z1 := hr.rs.free 1
    have z2 := hr.rs.free 2
    have z3 := hr.rs.free 3
    have z4 := hr.rs.free 4
    have lt9 := hr.rs.lt
    clear hr TD K0 K1
    by_cases hlt : k < n
    · obtain ⟨b, off, rfl, hb, hc, hw⟩ := O1.out k hlt
      have p0 := hc 0 (by omega)
      rw [Nat.add_zero] at p0
      have p1 := hc 1 (by omega)
      have nb : ¬ (b = B) := by have := HB.out; have := K2.out.lt; omega
      have nb2 : ¬ (B = b) := fun e => nb e.symm
      generalize f k 0 = x0 at p0
      generalize f k 1 = x1 at p1
      have j1 : (0 : Int) ≤ (k : Int) := by omega
      have j2 : (k : Int) < n := by omega
      have ST := Lib.hid (fun W (hg : wr.grownBy W none) => step_any (K2.out.bk.new hg) (by have := HN.out; omega) x0 x1)
      clear hc hw O1
      go_wp2
      go_region_with (first
        | (go_at_call 20; (with_reducible refine (ST.out _ (by first | exact World.grownBy.refl _ _ | exact grown_drew _ _ | exact li.grown_drewN _ _ _)).mono ?_); rintro e w2 ⟨h2, i2, o2, l2, rfl, hk2, hg2⟩; have G2 := Lib.hid (grown_then (show wr.grownBy _ none from by first | exact World.grownBy.refl _ _ | exact grown_drew _ _ | exact li.grown_drewN _ _ _) hg2); have K3 := Lib.hid (K2.out.put hk2 G2.out); obtain ⟨a0, a1, a2, a3, a4⟩ := (K2.out.off G2.out).1.f; have y0 := (K2.out.off G2.out).1.free 0; have y1 := (K2.out.off G2.out).1.free 1; have y2 := (K2.out.off G2.out).1.free 2; have y3 := (K2.out.off G2.out).1.free 3; have y4 := (K2.out.off G2.out).1.free 4; have lt2 := (K2.out.off G2.out).1.lt; clear hk2 hg2))
      all_goals
        generalize ((((w2.setCell ⟨B, 0, none⟩ (.int .i64 r)).setCell ⟨B, 1, none⟩ (.int .i64 h2)).setCell ⟨B, 2, none⟩ (.int .i64 i2)).setCell ⟨B, 3, none⟩ (.int .i64 o2)).setCell ⟨B, 4, none⟩ (.int .i64 l2) = w3 at K3 ⊢
        have TD := Lib.hid (fun W (hg : w3.grownBy W none) => told_any (K3.out.new hg).bk)
        clear a0 a1 a2 a3 a4 y0 y1 y2 y3 y4
        obtain ⟨a0, a1, a2, a3, a4⟩ := K3.out.mx.f
        go_wp2_with (go_at_call 19; (with_reducible refine (TD.out _ (by first | exact World.grownBy.refl _ _ | exact grown_drew _ _ | exact li.grown_drewN _ _ _)).mono ?_); rintro e w4 ⟨rfl, hg⟩; have K4 := Lib.hid (K3.out.new ((show w3.grownBy _ none from by first | exact World.grownBy.refl _ _ | exact grown_drew _ _ | exact li.grown_drewN _ _ _).trans hg)); clear hg)
        go_roundw
        case rel => exact ⟨k + 1, h2, i2, o2, l2, by omega, by go_num, rfl, K4.out⟩
        case measure => simp [intOf]; omega
    · obtain rfl : k = n := by omega
      go_wp2
      refine bodyPost_ret (v := .tuple #[.agg #[.int .i64 r, .int .i64 h1, .int .i64 i1, .int .i64 o1, .int .i64 l1], .bool true]) ?_ rfl ?_
      · simp [results, Try.results7, go_sem, *]
      · exact K2.out.fin (set5 _ _ _ _ _ _ _)
end
end Go.Proofs.Ytamfbpoaohmkaaa.bn
