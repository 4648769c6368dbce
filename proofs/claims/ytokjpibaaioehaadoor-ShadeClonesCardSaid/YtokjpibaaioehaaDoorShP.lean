/- The statement's own replay: a call, by lists alone. -/
import Derived.Test.YtokjpibaaioehaaDoorShK
namespace Go.Proofs.YtokjpibaaioehaaDoor.sh
open Go.ChangeShapes Go.WideShapes Go.ChangeAt Go.RowKit gen li en gr
set_option linter.unusedVariables false
set_option maxHeartbeats 16000000
set_option maxRecDepth 100000
theorem marks_rm {ws : List Nat} {i : Nat} (hf : bm.Fine 2048 ws) (hi : i < 2048) : (marks ws).set i (.bool false) = marks (rmd ws i) ∧ bm.Fine 2048 (rmd ws i) := by
  rcases ways ws i with ⟨h, _⟩ | ⟨j, e, hj, ⟨_, _, _, _, e5⟩ | ⟨hb, _, _, _, e5⟩⟩
  · exact absurd ⟨by omega, by omega⟩ h
  · obtain rfl : i = j := by omega
    rw [e5]
    exact ⟨marks_cut hf hi, hf.cut hi⟩
  · obtain rfl : i = j := by omega
    rw [e5]
    refine ⟨marks_set (fun k => ?_), hf⟩
    by_cases h : k = i
    · subst h; simp [hb]
    · simp [h]
section
variable {w W W2 : World} {J : List Nat} {M r : Nat} {s : Ps}
/-- What is written on the plain one itself. -/
theorem Bk.put {s2 : Ps} (h : Bk W J M r s) (H : ∀ v, Bo W M r v s → Bo W2 M r v s2 ∧ Gr (js M v) W W2) : Bk W2 J M r s2 ∧ Gr J W W2 := by
  obtain ⟨v, h, rfl⟩ := h
  obtain ⟨h1, h2⟩ := H v h
  exact ⟨⟨v, h1, rfl⟩, h2⟩
theorem Bk.f (h : Bk W J M r s) : (∀ i, W.frozen? ⟨M, i, none⟩ = false) ∧ M < W.heap.size ∧ ∀ i, i < 2048 → W.cell? ⟨M, i, none⟩ = some (.bool (bm.bit s.ws i)) := by
  obtain ⟨v, h, _⟩ := h
  exact ⟨h.free, h.lt, fun i hi => h.mark hi⟩
theorem Bk.c2 (h : Bk W J M r s) : W.cell? ⟨M, 2050, none⟩ = some (.bool s.b) := by
  obtain ⟨v, h, _⟩ := h
  exact h.c2
theorem Bk.nm {B : Nat} {k x1 x2 : Int} (h : Bk W J M r s) (ho : Ox W B k x1 x2) (e : B = M) : False := by
  obtain ⟨v, hb, rfl⟩ := h
  exact ty_ne ho hb.ob (by decide) e
theorem Bk.fine (h : Bk W J M r s) : bm.Fine 2048 s.ws := by
  obtain ⟨v, h, _⟩ := h
  exact h.fi
theorem replay_any (hb : Bk w J M r s) (k x1 x2 : Int) : Calls Tryd.prog 11 #[.pointer (some ⟨M, 0, none⟩), .agg #[.int .i64 k, .int .i64 x1, .int .i64 x2]] w (Ba J M r (.tuple #[]) (nx r k x1 x2 s) w) := by
  obtain ⟨W0, hW0⟩ : ∃ W0, W0 = w.alloc (.cells #[.int .i64 k, .int .i64 x1, .int .i64 x2] 31) := ⟨_, rfl⟩
  obtain ⟨B, hB⟩ : ∃ B, B = w.heap.size := ⟨_, rfl⟩
  have G0 : w.grownBy W0 none := by rw [hW0]; exact World.grownBy_alloc _ _ _
  have K0 := Lib.hid (show Bk W0 J M r s from hb.new G0)
  have O0 := Lib.hid (show Ox W0 B k x1 x2 by rw [hW0, hB]; exact heap_alloc_new _ _)
  have FIN := Lib.hid (fun s2 W (h : ∃ J', (∀ q, q ∈ J' → q ∈ J ∨ W0.heap.size ≤ q) ∧ Bk W J' M r s2 ∧ Gr J W0 W) => (show Ba J M r (.tuple #[]) s2 w (.returned (.tuple #[])) W from by
    obtain ⟨J', h1, h2, h3⟩ := h
    exact ⟨rfl, J', fun q hq => (h1 q hq).imp id (fun e => Nat.le_trans G0.size e), h2, (Gr.new G0).trans h3⟩))
  have SAME := Lib.hid (fun W (hg : W0.grownBy W none) => FIN.out s W ⟨J, fun q hq => .inl hq, K0.out.new hg, Gr.new hg⟩)
  have FI := Lib.hid hb.fine
  obtain ⟨a0, a1, a2⟩ := O0.out.f
  clear hb G0
  go_enter Tryd.func11, Tryd.ntmps11
  go_upto_region 1 with fail
  rw [← hW0, ← hB]
  clear hW0 hB
  by_cases k1 : k = 1
  · subst k1
    have NX := Lib.hid (show nx r 1 x1 x2 s = s.shade r x1 from rfl)
    have X := Lib.hid (rShade_any K0.out x1)
    generalize newb s.ws x1 = d at X
    go_wp2_with (go_at_call 26; (with_reducible refine X.out.mono ?_); rintro e w2 ⟨rfl, hr⟩; have R2 := Lib.hid hr; clear hr)
    go_end0
    rw [NX.out]
    exact FIN.out _ _ R2.out
  have k1' : (k == 1) = false := by simpa using k1
  by_cases k2 : k = 2
  · subst k2
    have NX := Lib.hid (show nx r 2 x1 x2 s = s.black x1 from rfl)
    have X := Lib.hid (rBlack_any K0.out x1)
    generalize newb s.ws x1 = d at X
    go_wp2_with (go_at_call 27; (with_reducible refine X.out.mono ?_); rintro e w2 ⟨rfl, hr⟩; have R2 := Lib.hid hr; clear hr)
    go_end0
    rw [NX.out]
    exact FIN.out _ _ R2.out
  have k2' : (k == 2) = false := by simpa using k2
  by_cases k4 : k = 4
  · subst k4
    have NX := Lib.hid (show nx r 4 x1 x2 s = s.pop from rfl)
    have X := Lib.hid (rPop_any K0.out)
    generalize top s.m = t at X
    generalize decide (s.m ≠ []) = d at X
    go_wp2_with (go_at_call 28; (with_reducible refine X.out.mono ?_); rintro e w2 ⟨rfl, hr⟩; have R2 := Lib.hid hr; clear hr)
    go_end0
    rw [NX.out]
    exact FIN.out _ _ R2.out
  have k4' : (k == 4) = false := by simpa using k4
  by_cases k5 : k = 5
  · subst k5
    have NX := Lib.hid (show nx r 5 x1 x2 s = s.push r (x1, x2) from rfl)
    have X := Lib.hid (rPush_any K0.out x1 x2)
    generalize decide (s.m.length < r) = d at X
    go_wp2_with (go_at_call 29; (with_reducible refine X.out.mono ?_); rintro e w2 ⟨rfl, hr⟩; have R2 := Lib.hid hr; clear hr)
    go_end0
    rw [NX.out]
    exact FIN.out _ _ R2.out
  have k5' : (k == 5) = false := by simpa using k5
  by_cases k3 : k = 3
  · subst k3
    have NX := Lib.hid (show nx r 3 x1 x2 s = s.clear x1 from rfl)
    rcases ways s.ws x1 with ⟨e1, _, _, _, e2⟩ | ⟨i, rfl, hi, _⟩
    · have E := Lib.hid (show s.clear x1 = s from by unfold Ps.clear; rw [e2])
      clear e2
      by_cases hz : x1 < 0
      · have q0 : ¬ 0 ≤ x1 := by omega
        clear e1
        go_wp2
        go_end0
        rw [NX.out, E.out]
        exact SAME.out _ (World.grownBy.refl _ _)
      · have q0 : 0 ≤ x1 := by omega
        have q1 : ¬ x1 < 2048 := by omega
        clear e1
        go_wp2
        go_end0
        rw [NX.out, E.out]
        exact SAME.out _ (World.grownBy.refl _ _)
    · have PT := Lib.hid (fun W (hg : W0.grownBy W none) => (K0.out.new hg).put (W2 := W.setCell ⟨M, i, none⟩ (.bool false)) (s2 := s.clear i) (fun v hb => hb.put_mark hi (marks_rm FI.out hi).1 (marks_rm FI.out hi).2))
      have PF := Lib.hid (fun W W2 (hg : W0.grownBy W none) (hg2 : (W.setCell ⟨M, i, none⟩ (.bool false)).grownBy W2 none) => FIN.out (s.clear i) W2 ⟨J, fun q hq => .inl hq, (PT.out W hg).1.new hg2, ((Gr.new hg).trans (PT.out W hg).2).made hg2⟩)
      obtain ⟨b2, b3, b0⟩ := K0.out.f
      have c := b0 i hi
      have z := b2 i
      have l1 : (0 : Int) ≤ (i : Int) := by omega
      have l2 : (i : Int) < 2048 := by omega
      have O0lt := O0.out.lt
      have nb : ¬ (B = M) := fun e => K0.out.nm O0.out e
      have nb2 : ¬ (M = B) := fun e => K0.out.nm O0.out e.symm
      generalize bm.bit s.ws i = y at c
      clear b0 b2
      go_wp2
      go_region
      go_wp2
      go_end0
      rw [NX.out]
      first | exact PF.out _ _ (World.grownBy.refl _ _) (World.grownBy.refl _ _) | exact PF.out _ _ (World.grownBy.refl _ _) (grown_drew _ _) | exact PF.out _ _ (World.grownBy.refl _ _) (li.grown_drewN _ _ _) | exact PF.out _ _ (grown_drew _ _) (World.grownBy.refl _ _) | exact PF.out _ _ (li.grown_drewN _ _ _) (World.grownBy.refl _ _)
  have k3' : (k == 3) = false := by simpa using k3
  by_cases k6 : k = 6
  · subst k6
    have NX := Lib.hid (show nx r 6 x1 x2 s = s.settle from rfl)
    have PT := Lib.hid (K0.out.put (W2 := W0.setCell ⟨M, 2050, none⟩ (.bool false)) (s2 := s.settle) (fun v hb => hb.put_over false))
    obtain ⟨b2, b3, _⟩ := K0.out.f
    have z := b2 2050
    have c6 := K0.out.c2
    clear b2
    go_wp2
    go_end0
    rw [NX.out]
    exact FIN.out _ _ ⟨J, fun q hq => .inl hq, PT.out.1, PT.out.2⟩
  have k6' : (k == 6) = false := by simpa using k6
  have NX := Lib.hid (show nx r k x1 x2 s = s from by simp [nx, k1, k2, k3, k4, k5, k6])
  go_wp2
  go_end0
  rw [NX.out]
  exact SAME.out _ (World.grownBy.refl _ _)
end
end Go.Proofs.YtokjpibaaioehaaDoor.sh
