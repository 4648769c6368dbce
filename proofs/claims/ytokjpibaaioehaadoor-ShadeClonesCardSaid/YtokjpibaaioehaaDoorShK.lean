/- The statement's own step: all other calls; each step. (Printed by wip/tools/genShJ.py.) -/
import Derived.Test.YtokjpibaaioehaaDoorShJ
namespace Go.Proofs.YtokjpibaaioehaaDoor.sh
open Go.ChangeShapes Go.WideShapes Go.ChangeAt Go.RowKit gen li en gr
set_option linter.unusedVariables false
set_option maxHeartbeats 16000000
set_option maxRecDepth 100000
section
variable {w W W2 : World} {L J : List Nat} {g M r : Nat} {s : Ps} {x1 x2 : Int}
theorem step_rest (h : Gy w L g r s) (hb : Bk w J M r s) (k x1 x2 : Int) (h1 : (k == 1) = false) (h2 : (k == 2) = false) : Calls Tryd.prog 9 #[.pointer (some ⟨g, 0, none⟩), .pointer (some ⟨M, 0, none⟩), .agg #[.int .i64 k, .int .i64 x1, .int .i64 x2]] w (StA L J g M r (nx r k x1 x2 s) w) := by
  obtain ⟨W0, hW0⟩ : ∃ W0, W0 = w.alloc (.cells #[.int .i64 k, .int .i64 x1, .int .i64 x2] 31) := ⟨_, rfl⟩
  obtain ⟨B, hB⟩ : ∃ B, B = w.heap.size := ⟨_, rfl⟩
  have S0 := Lib.hid (show Sx w L J g M r s s W0 by rw [hW0]; exact (Sx.start h hb).new (World.grownBy_alloc _ _ _))
  have O0 := Lib.hid (show Ox W0 B k x1 x2 by rw [hW0, hB]; exact heap_alloc_new _ _)
  have f0 := O0.out.f
  have FI := Lib.hid h.fine
  clear h hb
  go_enter Tryd.func9, Tryd.ntmps9
  go_upto_region 5 with fail
  rw [← hW0, ← hB]
  clear hW0 hB
  go_cut [7] (fun p wx => p = .bool (isb s.ws x1) ∧ Sx w L J g M r s s wx ∧ Ox wx B k x1 x2)
  case first =>
    obtain ⟨a0, a1, a2⟩ := f0
    rcases ways s.ws x1 with ⟨e1, e2, _⟩ | ⟨i, rfl, hi, ⟨e1, e2, _⟩ | ⟨e1, e2, _⟩⟩
    · have FIN := Lib.hid (fun W (hg : W0.grownBy W none) => (⟨by rw [e2], S0.out.new hg, O0.out.new hg⟩ : Value.bool false = .bool (isb s.ws x1) ∧ Sx w L J g M r s s W ∧ Ox W B k x1 x2))
      clear e2
      by_cases hz : x1 < 0
      · have q1 : decide ((0 : Int) ≤ x1) = false := decide_eq_false (by omega)
        clear e1
        go_quiet (fail)
        go_wp2
        go_meet
        exact FIN.out _ (by first | exact World.grownBy.refl _ _ | exact grown_drew _ _ | exact li.grown_drewN _ _ _)
      · have q1 : decide ((0 : Int) ≤ x1) = true := decide_eq_true (by omega)
        have q2 : decide (x1 < 2048) = false := decide_eq_false (by omega)
        clear e1
        go_quiet (fail)
        go_wp2
        go_meet
        exact FIN.out _ (by first | exact World.grownBy.refl _ _ | exact grown_drew _ _ | exact li.grown_drewN _ _ _)
    all_goals
      have FIN := Lib.hid (fun W (hg : W0.grownBy W none) => (⟨by rw [e1, e2], S0.out.new hg, O0.out.new hg⟩ : Value.bool (bm.bit s.ws i) = .bool (isb s.ws i) ∧ Sx w L J g M r s s W ∧ Ox W B k i x2))
      have c := S0.out.bo.1 i hi
      have mlt := S0.out.bo.2.2.2
      generalize bm.bit s.ws i = y at FIN c
      have l1 : (0 : Int) ≤ (i : Int) := by omega
      have l2 : (i : Int) < 2048 := by omega
      have q1 : decide ((0 : Int) ≤ (i : Int)) = true := decide_eq_true l1
      have q2 : decide ((i : Int) < 2048) = true := decide_eq_true l2
      clear e1 e2
      go_quiet (fail)
      go_wp2
      go_meet
      exact FIN.out _ (by first | exact World.grownBy.refl _ _ | exact grown_drew _ _ | exact li.grown_drewN _ _ _)
  case rest =>
    obtain ⟨rfl, hs1, ho1⟩ := hcut
    have S1 := Lib.hid hs1
    have O1 := Lib.hid ho1
    obtain ⟨f0, f1, f2⟩ := ho1.f
    clear hs1 ho1 S0 O0
    by_cases k3 : k = 3
    · subst k3
      have NX := Lib.hid (show nx r 3 x1 x2 s = s.clear x1 from rfl)
      have CL := Lib.hid (fun W s2 (hS : Sx w L J g M r s s2 W) (hO : Ox W B 3 x1 x2) => hS.call (v := .bool (isb s.ws x1)) hO (fun L1 h => Clear_any h x1))
      have HW := Lib.hid (ways s.ws x1)
      generalize hd : isb s.ws x1 = d at CL ⊢
      cases d with
      | false =>
        have E := Lib.hid (show s.clear x1 = s from by simp [Ps.clear, rmd, hd])
        clear hd
        go_wp2_with (go_at_call 17; (with_reducible refine (CL.out _ _ S1.out O1.out).mono ?_); rintro e w2 ⟨rfl, hs, _⟩; have S2 := Lib.hid hs; clear hs)
        go_ret
        rw [NX.out]
        have := S2.out
        rw [E.out] at this ⊢
        exact ⟨rfl, this⟩
      | true =>
        obtain ⟨i, rfl, hi, hm⟩ : ∃ i : Nat, x1 = i ∧ i < 2048 ∧ rmd s.ws x1 = bm.cut s.ws i := by
          rcases HW.out with ⟨_, e2, _⟩ | ⟨i, rfl, hi, ⟨_, _, _, _, e5⟩ | ⟨_, e2, _⟩⟩
          · rw [hd] at e2; cases e2
          · exact ⟨i, rfl, hi, e5⟩
          · rw [hd] at e2; cases e2
        have PT := Lib.hid (fun W (hg : wc.grownBy W none) => (S1.out.new hg).put (W2 := W.setCell ⟨M, i, none⟩ (.bool false)) (s3 := s.clear i) (O1.out.new hg) (fun v hb => (by
          unfold Ps.clear
          rw [hm]
          exact hb.put_mark hi (marks_cut FI.out hi) (FI.out.cut hi))))
        obtain ⟨b0, b1, b2, b3⟩ := S1.out.bo
        have c := b0 i hi
        have z := b2 i
        have l1 : (0 : Int) ≤ (i : Int) := by omega
        have l2 : (i : Int) < 2048 := by omega
        have O1lt := O1.out.lt
        have nb : ¬ (B = M) := fun e => S1.out.nm O1.out e
        have nb2 : ¬ (M = B) := fun e => S1.out.nm O1.out e.symm
        clear hd b0 b2 HW
        go_wp2
        go_region
        go_wp2_with (go_at_call 17; (with_reducible refine (CL.out _ _ (by first | exact (PT.out _ (World.grownBy.refl _ _)).1 | exact ((PT.out _ (World.grownBy.refl _ _)).1).new (grown_drew _ _) | exact (PT.out _ (grown_drew _ _)).1 | exact (PT.out _ (li.grown_drewN _ _ _)).1 | exact ((PT.out _ (World.grownBy.refl _ _)).1).new (li.grown_drewN _ _ _)) (by first | exact (PT.out _ (World.grownBy.refl _ _)).2 | exact ((PT.out _ (World.grownBy.refl _ _)).2).new (grown_drew _ _) | exact (PT.out _ (grown_drew _ _)).2 | exact (PT.out _ (li.grown_drewN _ _ _)).2 | exact ((PT.out _ (World.grownBy.refl _ _)).2).new (li.grown_drewN _ _ _))).mono ?_); rintro e w2 ⟨rfl, hs, _⟩; have S2 := Lib.hid hs; clear hs)
        go_ret
        rw [NX.out]
        exact ⟨rfl, S2.out⟩
    have k3' : (k == 3) = false := by simpa using k3
    by_cases k4 : k = 4
    · subst k4
      have NX := Lib.hid (show nx r 4 x1 x2 s = s.pop from rfl)
      have NC := Lib.hid (fun W (hS : Sx w L J g M r s s W) (hO : Ox W B 4 x1 x2) => hS.call hO (fun L1 h => Next_any h))
      have PC := Lib.hid (fun W Y y1 y2 (hS : Sx w L J g M r s.pop s W) (hE : sk.En W Y y1 y2) => hS.call2e hE (fun J2 h => rPop_any h))
      generalize top s.m = t at NC PC
      generalize decide (s.m ≠ []) = d at NC PC
      obtain ⟨t1, t2⟩ := t
      go_wp2_with (first
        | (go_at_call 13; (with_reducible refine (NC.out _ S1.out O1.out).mono ?_); rintro e w2 ⟨rfl, hs, _⟩; have S2 := Lib.hid (hs.new (World.grownBy_alloc _ (.cells #[.int .i64 t1, .int .i64 t2] 43) none)); have E2 := Lib.hid (sk.En.made w2 t1 t2); clear hs)
        | (go_at_call 28; (with_reducible refine (PC.out _ _ _ _ S2.out E2.out).mono ?_); rintro e w4 ⟨rfl, hs, he⟩; have S4 := Lib.hid (hs.new (World.grownBy_alloc _ (.cells #[.int .i64 t1, .int .i64 t2] 58) none)); obtain ⟨e0, e1, _, _, e4⟩ := he.f; clear hs he))
      go_ret
      rw [NX.out]
      exact ⟨by simp, S4.out⟩
    have k4' : (k == 4) = false := by simpa using k4
    by_cases k5 : k = 5
    · subst k5
      have NX := Lib.hid (show nx r 5 x1 x2 s = s.push r (x1, x2) from rfl)
      have SH := Lib.hid (fun W (hg : wc.grownBy W none) => (S1.out.new hg).call (O1.out.new hg) (fun L1 h => Rest_any h x1 x2))
      have RS := Lib.hid (fun W (hS : Sx w L J g M r (s.push r (x1, x2)) s W) (hO : Ox W B 5 x1 x2) => hS.call2 hO (fun J2 h => rPush_any h x1 x2))
      have f := And.intro f1 f2
      generalize decide (s.m.length < r) = d at SH RS
      go_wp2
      go_region_held3 (fun W => W.cell? ⟨B, 1, none⟩ = some (.int .i64 x1) ∧ W.cell? ⟨B, 2, none⟩ = some (.int .i64 x2)) (first | exact f | exact ff | exact ff1 | go_keep) (first
        | (go_at_call 19; (with_reducible refine (SH.out _ (by first | exact World.grownBy.refl _ _ | exact grown_drew _ _ | exact li.grown_drewN _ _ _)).mono ?_); rintro e w2 ⟨rfl, hs, ho⟩; have S2 := Lib.hid hs; have O2 := Lib.hid ho; obtain ⟨f0, f1, f2⟩ := ho.f; have ff := And.intro f1 f2; clear hs ho)
        | (go_at_call 29; (with_reducible refine (RS.out _ (by first | exact S2.out | exact S2.out.new (grown_drew _ _) | exact S2.out.new (li.grown_drewN _ _ _)) (by first | exact O2.out | exact O2.out.new (grown_drew _ _) | exact O2.out.new (li.grown_drewN _ _ _))).mono ?_); rintro e w3 ⟨rfl, hs, ho⟩; have S3 := Lib.hid hs; obtain ⟨f0, f1, f2⟩ := ho.f; have ff1 := And.intro f1 f2; clear hs ho))
      go_wp2
      go_ret
      rw [NX.out]
      first | exact ⟨by simp, S3.out⟩ | exact ⟨by simp, S3.out.new (grown_drew _ _)⟩ | exact ⟨by simp, S3.out.new (li.grown_drewN _ _ _)⟩
    have k5' : (k == 5) = false := by simpa using k5
    by_cases k6 : k = 6
    · subst k6
      have NX := Lib.hid (show nx r 6 x1 x2 s = s.settle from rfl)
      obtain ⟨_, b1, b2, b3⟩ := S1.out.bo
      have z := b2 2050
      have PT := Lib.hid (S1.out.put (W2 := wc.setCell ⟨M, 2050, none⟩ (.bool false)) (s3 := s.settle) O1.out (fun v hb => hb.put_over false))
      have SC := Lib.hid (fun W (hS : Sx w L J g M r s s.settle W) (hO : Ox W B 6 x1 x2) => hS.call hO (fun L1 h => Settle_any h))
      have nb : ¬ (B = M) := fun e => S1.out.nm O1.out e
      have nb2 : ¬ (M = B) := fun e => S1.out.nm O1.out e.symm
      generalize s.b = d at b1 SC
      clear b2
      go_wp2_with (go_at_call 22; (with_reducible refine (SC.out _ PT.out.1 PT.out.2).mono ?_); rintro e w2 ⟨rfl, hs, _⟩; have S2 := Lib.hid hs; clear hs)
      go_ret
      rw [NX.out]
      exact ⟨by simp, S2.out⟩
    have k6' : (k == 6) = false := by simpa using k6
    · have NX := Lib.hid (show nx r k x1 x2 s = s from by simp at h1 h2; simp [nx, h1, h2, k3, k4, k5, k6])
      have IS := Lib.hid (S1.out.read O1.out (fun L1 h => Is_any h x1))
      generalize isb s.ws x1 = d at IS ⊢
      go_wp2_with (go_at_call 15; (with_reducible refine (IS.out).mono ?_); rintro e w2 ⟨rfl, hs, _⟩; have S2 := Lib.hid hs; clear hs)
      go_ret
      rw [NX.out]
      exact ⟨by simp, S2.out⟩
theorem step_any (h : Gy w L g r s) (hb : Bk w J M r s) (k x1 x2 : Int) : Calls Tryd.prog 9 #[.pointer (some ⟨g, 0, none⟩), .pointer (some ⟨M, 0, none⟩), .agg #[.int .i64 k, .int .i64 x1, .int .i64 x2]] w (StA L J g M r (nx r k x1 x2 s) w) := by
  by_cases k1 : k = 1
  · subst k1; exact step1 h hb x1 x2
  by_cases k2 : k = 2
  · subst k2; exact step2 h hb x1 x2
  exact step_rest h hb k x1 x2 (by simpa using k1) (by simpa using k2)
end
end Go.Proofs.YtokjpibaaioehaaDoor.sh
