/- The statement's own first look: one address, twice shaded. -/
import Derived.Test.YtokjpibaaioehaaDoorShD
namespace Go.Proofs.YtokjpibaaioehaaDoor.sh
open Go.ChangeShapes Go.WideShapes Go.ChangeAt Go.RowKit gen li en gr
set_option linter.unusedVariables false
set_option maxHeartbeats 8000000
set_option maxRecDepth 100000
theorem new9 : newb bm.zeros 9 = true := by simp [newb, bm.bit_zeros]
theorem len0 : bm.zeros.length = 32 := by simp [bm.zeros]
theorem new9' : newb (bm.put bm.zeros 9) 9 = false := by
  unfold newb
  rw [show (9 : Int).toNat = 9 from rfl, bm.bit_put _ _ _ (by rw [len0]; decide)]
  simp
theorem is9 : isb (bm.put bm.zeros 9) 9 = true := by
  unfold isb
  rw [show (9 : Int).toNat = 9 from rfl, bm.bit_put _ _ _ (by rw [len0]; decide)]
  simp
theorem one9 : none0.shade 4 9 = ⟨bm.put bm.zeros 9, [(9, 0)], false⟩ := by
  unfold Ps.shade
  rw [show newb none0.ws 9 = true from new9, if_pos rfl]
  unfold Ps.black mkd
  rw [show newb none0.ws 9 = true from new9, if_pos rfl]
  rfl
theorem two9 : (⟨bm.put bm.zeros 9, [(9, 0)], false⟩ : Ps).shade 4 9 = ⟨bm.put bm.zeros 9, [(9, 0)], false⟩ := by
  unfold Ps.shade
  dsimp only
  rw [new9']
  rfl
theorem num9 : (bm.nums (bm.put bm.zeros 9)).length = 1 := by
  rw [← bm.nums_put (n := 2048) (bm.Fine.zeros (Nat.le_refl _)) (by decide), bm.nums_zeros]
  rfl
/-- A grey that the call made; w is where it began. -/
structure Ag (w : World) (L : List Nat) (g r : Nat) (s : Ps) (W : World) : Prop where
  gy : Gy W L g r s
  le : ∀ q, q ∈ L → w.heap.size ≤ q
  gr : w.grownBy W none
def Al (w : World) (g r : Nat) (s : Ps) (W : World) : Prop := ∃ L, Ag w L g r s W
section
variable {w W W2 : World} {L K : List Nat} {g r B : Nat} {s s2 : Ps} {v : Value} {F : Nat} {args : Array Value}
theorem Al.new (h : Al w g r s W) (hg : W.grownBy W2 none) : Al w g r s W2 := by
  obtain ⟨L, h⟩ := h
  exact ⟨L, h.gy.new hg, h.le, h.gr.trans hg⟩
theorem Al.grown (h : Al w g r s W) : w.grownBy W none := by
  obtain ⟨L, h⟩ := h
  exact h.gr
theorem Al.of {e : Ending} (hg : w.grownBy W none) (h : NewG r s W e W2) : ∃ g, e = .returned (.pointer (some ⟨g, 0, none⟩)) ∧ Al w g r s W2 := by
  obtain ⟨g, L, h1, h2, h3, h4⟩ := h
  exact ⟨g, h1, L, h2, fun q hq => Nat.le_trans hg.size (h3 q hq), hg.trans h4⟩
theorem Al.call (h : Al w g r s W) (H : ∀ L, Gy W L g r s → Calls Tryd.prog F args W (Ga L g r v s2 W)) : Calls Tryd.prog F args W fun e w' => e = .returned v ∧ Al w g r s2 w' := by
  obtain ⟨L, h⟩ := h
  exact (H L h.gy).mono fun e w' ⟨h1, L2, h2, h3, h4⟩ => ⟨h1, L2, h3, fun q hq => (h2 q hq).elim (h.le q) (fun e => Nat.le_trans h.gr.size e), Gr.grown h.gr h4 h.le⟩
theorem Al.read (h : Al w g r s W) (H : ∀ L, Gy W L g r s → Calls Tryd.prog F args W fun e w' => e = .returned v ∧ W.grownBy w' none) : Calls Tryd.prog F args W fun e w' => e = .returned v ∧ Al w g r s w' ∧ W.grownBy w' none := by
  have hA := h
  obtain ⟨L, h⟩ := h
  exact (H L h.gy).mono fun e w' ⟨h1, h2⟩ => ⟨h1, hA.new h2, h2⟩
theorem Al.gyx (h : Al w g r s W) : ∃ L, Gy W L g r s := by
  obtain ⟨L, h⟩ := h
  exact ⟨L, h.gy⟩
theorem same_read {Q : Ending → World → Prop} (H : Calls Tryd.prog F args W fun e w' => e = .returned v ∧ W = w') : Calls Tryd.prog F args W fun e w' => e = .returned v ∧ W.grownBy w' none :=
  H.mono fun e w' ⟨h1, h2⟩ => ⟨h1, h2 ▸ World.grownBy.refl _ _⟩
end
theorem alive_any (w : World) : Calls Tryd.prog 5 #[] w fun e w' => e = .returned (.bool true) ∧ w.grownBy w' none := by
  have NW := Lib.hid ((New_any 4 4 (by decide) (by decide) (by decide) w).mono (fun e w' h => Al.of (World.grownBy.refl w none) h))
  have S1 := Lib.hid (fun W g (h : Al w g 4 none0 W) => h.call (v := .bool true) (s2 := ⟨bm.put bm.zeros 9, [(9, 0)], false⟩) (fun L k => (by have := Shade_any k 9; rwa [one9, show newb none0.ws 9 = true from new9] at this)))
  have S2 := Lib.hid (fun W g (h : Al w g 4 ⟨bm.put bm.zeros 9, [(9, 0)], false⟩ W) => h.call (v := .bool false) (s2 := ⟨bm.put bm.zeros 9, [(9, 0)], false⟩) (fun L k => (by have := Shade_any k 9; rwa [two9, show newb (⟨bm.put bm.zeros 9, [(9, 0)], false⟩ : Ps).ws 9 = false from new9'] at this)))
  have N3 := Lib.hid (fun W g (h : Al w g 4 ⟨bm.put bm.zeros 9, [(9, 0)], false⟩ W) => h.call (v := .tuple #[.agg #[.int .i64 9, .int .i64 0], .bool true]) (s2 := ⟨bm.put bm.zeros 9, [], false⟩) (fun L k => Next_any k))
  have I4 := Lib.hid (fun W g (h : Al w g 4 ⟨bm.put bm.zeros 9, [], false⟩ W) => h.read (v := .bool true) (fun L k => (by have := Is_any k 9; rwa [show isb (⟨bm.put bm.zeros 9, [], false⟩ : Ps).ws 9 = true from is9] at this)))
  have C4 := Lib.hid (fun W g (h : Al w g 4 ⟨bm.put bm.zeros 9, [], false⟩ W) => h.read (v := .int .i64 1) (fun L k => (by have := Count_any k; rwa [show (bm.nums (⟨bm.put bm.zeros 9, [], false⟩ : Ps).ws).length = 1 from num9] at this)))
  have W4 := Lib.hid (fun W g (h : Al w g 4 ⟨bm.put bm.zeros 9, [], false⟩ W) => h.read (v := .int .i64 0) (fun L k => same_read (Q := fun _ _ => True) (Waiting_any k)))
  have O4 := Lib.hid (fun W g (h : Al w g 4 ⟨bm.put bm.zeros 9, [], false⟩ W) => h.read (v := .bool false) (fun L k => same_read (Q := fun _ _ => True) (Over_any k)))
  go_enter Tryd.func5, Tryd.ntmps5
  go_wp2_with (first
    | (go_at_call 6; (with_reducible refine NW.out.mono ?_); rintro e w1 ⟨g, rfl, hs⟩; have A1 := Lib.hid hs; clear hs)
    | (have mark := A2; go_at_call 14; (with_reducible refine (S2.out _ _ A2.out).mono ?_); rintro e w3 ⟨rfl, hs⟩; have A3 := Lib.hid hs; clear hs)
    | (go_at_call 14; (with_reducible refine (S1.out _ _ A1.out).mono ?_); rintro e w2 ⟨rfl, hs⟩; have A2 := Lib.hid hs; clear hs)
    | (go_at_call 13; (with_reducible refine (N3.out _ _ A3.out).mono ?_); rintro e w4 ⟨rfl, hs⟩; have A4 := Lib.hid (hs.new (World.grownBy_alloc _ (.cells #[.int .i64 9, .int .i64 0] 43) none)); have E4 := Lib.hid (sk.En.made w4 9 0); clear hs)
    | (go_at_call 15; (with_reducible refine (I4.out _ _ A4.out).mono ?_); rintro e w5 ⟨rfl, hs, hg⟩; have A5 := Lib.hid hs; have E5 := Lib.hid (E4.out.new hg); clear hs hg)
    | (go_at_call 18; (with_reducible refine (C4.out _ _ A5.out).mono ?_); rintro e w6 ⟨rfl, hs, hg⟩; have A6 := Lib.hid hs; obtain ⟨e0, e1, _, _, e4⟩ := (E5.out.new hg).f; clear hs hg)
    | (go_at_call 20; (with_reducible refine (W4.out _ _ A6.out).mono ?_); rintro e w7 ⟨rfl, hs, hg⟩; have A7 := Lib.hid hs; clear hs hg)
    | (go_at_call 21; (with_reducible refine (O4.out _ _ A7.out).mono ?_); rintro e w8 ⟨rfl, hs, hg⟩; have A8 := Lib.hid hs; clear hs hg))
  go_ret
  exact ⟨rfl, A8.out.grown⟩
end Go.Proofs.YtokjpibaaioehaaDoor.sh
