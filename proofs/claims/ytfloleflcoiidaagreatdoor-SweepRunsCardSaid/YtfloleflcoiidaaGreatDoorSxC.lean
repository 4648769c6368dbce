/- Joined: SwS, SwD, SwE. -/
import Derived.Test.YtfloleflcoiidaaGreatDoorSxB
import Derived.Test.YtfloleflcoiidaaGreatDoorSxP
import Derived.Test.YtfloleflcoiidaaGreatDoorTgY
import Derived.RegionTactic
/- The plain grey's Sweep over the plain heap. -/
namespace Go.Proofs.YtfloleflcoiidaaGreatDoor.sw
open Go.ChangeShapes Go.WideShapes Go.ChangeAt Go.RowKit gen calls cls geos ce st sh
set_option linter.unusedVariables false
set_option maxHeartbeats 8000000
set_option maxRecDepth 100000
theorem passes_f (l : List Int) : ∀ (x : Hs) (s : Ps) (f : Nat), passes ⟨x, s, f⟩ l = ⟨(passes ⟨x, s, 0⟩ l).x, (passes ⟨x, s, 0⟩ l).s, f + (passes ⟨x, s, 0⟩ l).f⟩ := by
  induction l with
  | nil => intro x s f; rfl
  | cons a l ih =>
    intro x s f
    show passes (pass ⟨x, s, f⟩ a) l = ⟨(passes (pass ⟨x, s, 0⟩ a) l).x, (passes (pass ⟨x, s, 0⟩ a) l).s, f + (passes (pass ⟨x, s, 0⟩ a) l).f⟩
    unfold pass
    dsimp only
    split
    · exact ih _ _ _
    · rw [ih (gn x a.toNat) s (f + 1), ih (gn x a.toNat) s (0 + 1)]
      dsimp only
      congr 1
      omega
theorem unit_f (x : Hs) (s : Ps) (f : Nat) (p : Int) : unit ⟨x, s, f⟩ p = ⟨(unit ⟨x, s, 0⟩ p).x, (unit ⟨x, s, 0⟩ p).s, f + (unit ⟨x, s, 0⟩ p).f⟩ := by
  unfold unit
  dsimp only
  rw [passes_f]
theorem inq_obs (x : st.Hs) (p : Int) : ph.inq (ph.obs x) p = tc.inp x p := by
  unfold ph.inq ph.obs tc.inp
  rw [List.filter_map, List.map_map]
  have : ((fun o : ph.Ob3 => o.1) ∘ fun a => (a, x.xs.getD a.toNat 0 / 128, tc.fls x a)) = id := rfl
  rw [this, List.map_id]
  rfl
theorem obs_few (x : Hs) : ∀ o ∈ (ph.toq x).ob, o.2.2.length ≤ 127 := fun o ho => by
  obtain ⟨b, hb, rfl⟩ := ph.obs_mem.1 ho
  dsimp only
  rw [tc.fls_len]
  omega
theorem toq_yi {x : Hs} (V : Iv x) (hl : x.tk.length ≤ 2048) : Yi (ph.toq x) :=
  ⟨fun o ho => ph.tk_range V (ph.obs_at ho), by show (ph.obs x).length ≤ _; unfold ph.obs; rw [List.length_map]; exact hl⟩
section
variable {pp : Int} {w w' w1 : World} {I : Ids} {x x' : Hs} {L L' : List Nat} {g r t N c f S M H : Nat} {J K K' : List Nat} {s s' : Ps} {e : Ending} {y y' : ph.Hq}
/-- A mark goes. -/
theorem bk_clear (h : Bk pp w J M r s) {a : Nat} (ha : a < 2048) : Bk pp (w.setCell ⟨M, a, none⟩ (.bool false)) J M r (s.clear a) ∧ Gr J w (w.setCell ⟨M, a, none⟩ (.bool false)) := by
  obtain ⟨v, h, rfl⟩ := h
  have hf := h.fi
  have e : (marks s.ws).set a (.bool false) = marks (rmd s.ws a) := by
    rcases sh.ways s.ws (a : Int) with ⟨h1, _⟩ | ⟨i, e, hi, ⟨hb, _, _, _, h5⟩ | ⟨hb, _, _, _, h5⟩⟩
    · omega
    · obtain rfl : a = i := by omega
      rw [h5, marks_cut hf hi]
    · obtain rfl : a = i := by omega
      rw [h5]
      refine marks_set fun j => ?_
      by_cases e : j = a
      · subst e; rw [if_pos rfl]; exact hb
      · rw [if_neg e]
  obtain ⟨h1, h2⟩ := h.put_mark ha e (fine_rmd hf _)
  exact ⟨⟨v, h1, rfl⟩, h2⟩
/-- The plain heap has changed. -/
theorem gp_heap (h : Gp w K H y J M r s pp) (hf : ∀ o ∈ y'.ob, o.2.2.length ≤ 127) (hK : ∀ q, q ∈ K' → q ∈ K ∨ w.heap.size ≤ q) (hp : ph.Pl w' K' H y') (hg : Gr K w w') : Gp w' K' H y' J M r s pp :=
  ⟨hp, h.bk.gr hg (fun q hq hm => h.ap q hq hm), fun q hq hm => by
    rcases hK q hm with e | e
    · exact h.ap q hq e
    · have := h.bk.lt q hq; omega, hf⟩
theorem rSweep_any (h : Gp w K H (ph.toq x) J M r s pp) (V : Iv x) (hT : x.T ≤ 9) (hl : x.tk.length ≤ 2048) {p : Nat} (hp : p < 64) :
    Calls Tryz.prog 64 #[.pointer (some ⟨M, 0, none⟩), .pointer (some ⟨H, 0, none⟩), .int .i64 p] w fun e w' => e = .returned (.int .i64 (unit ⟨x, s, 0⟩ p).f) ∧ ∃ K', (∀ q, q ∈ K' → q ∈ K ∨ w.heap.size ≤ q) ∧ Gp w' K' H (ph.toq (unit ⟨x, s, 0⟩ p).x) J M r (unit ⟨x, s, 0⟩ p).s pp ∧ Gr (K ++ J) w w' := by
  obtain ⟨n, hn⟩ : ∃ n, (tc.inp x p).length = n := ⟨_, rfl⟩
  have fi : bm.Fine 2048 s.ws := by obtain ⟨v, h, _⟩ := h.bk; exact h.fi
  have WY := way_of (z := ⟨x, s, 0⟩) V fi p hn hl
  generalize (fun k => passes ⟨x, s, 0⟩ ((tc.inp x p).take k)) = Y at WY
  obtain ⟨WW, WN, W0, WF, WE⟩ := WY
  have WW := Lib.hid WW
  have WN := Lib.hid WN
  have WE := Lib.hid WE
  have W0 := Lib.hid W0
  have IN := Lib.hid (show Calls Tryz.prog 101 #[.pointer (some ⟨H, 0, none⟩), .int .i64 p] w fun e w' => ∃ A d, e = .returned (.slice A n d) ∧ w'.ownsRow w.heap.size 3 1 (.slice A n d) n (li.ints (tc.inp x p)) ∧ w.grownBy w' none from by
    have := rIn_n h.pl (toq_yi V hl) (p := p) (n := n) (by show (ph.inq (ph.obs x) p).length = n; rw [inq_obs]; exact hn)
    rw [show ph.inq (ph.toq x).ob p = tc.inp x p from inq_obs x p] at this
    exact this)
  have HG := Lib.hid h
  have HT := Lib.hid hT
  have HL := Lib.hid hl
  have LK := Lib.hid (⟨h.pl.lt, h.bk.lt⟩ : _ ∧ _)
  have TR := Lib.hid (fun W K1 x1 (h1 : ph.Pl W K1 H (ph.toq x1)) (V1 : Iv x1) (hT : x1.T ≤ 9) => ph.rTrim_d h1 V1 hT hp)
  have HP := Lib.hid hp
  have p0 : (0 : Int) ≤ p := by omega
  have p1 : (p : Int) < 64 := by omega
  obtain ⟨l, hl'⟩ : ∃ l, tc.inp x p = l := ⟨_, rfl⟩
  rw [hl'] at IN WN
  have n1 : n ≤ 2048 := WF
  rw [WE.out]
  dsimp only
  clear h V hT hl hp hn fi hl'
  go_enter Tryz.func64, Tryz.ntmps64
  go_wp2_with (go_at_call 101; (with_reducible refine IN.out.mono ?_); rintro e w3 ⟨A, d, rfl, ho, hg⟩; have O3 := Lib.hid ho; have G3 := Lib.hid hg; clear ho hg)
  go_loopw [8, 9] (fun m i wr => ∃ (k : Nat) (K1 : List Nat), k ≤ n ∧ i = .int .i64 k ∧ m = .int .i64 (Y k).f ∧ (∀ q, q ∈ K1 → q ∈ K ∨ w3.heap.size ≤ q) ∧ Gp wr K1 H (ph.toq (Y k).x) J M r (Y k).s pp ∧ Gr (K ++ J) w3 wr) (fun _ i _ => n - (intOf i).toNat)
  case atStart => exact ⟨0, K, Nat.zero_le _, rfl, by rw [W0.out]; rfl, fun q hq => .inl hq, by rw [W0.out]; exact HG.out.new G3.out, Gr.refl _ _⟩
  case round =>
    obtain ⟨k, K1, hk, rfl, rfl, hK1, hP1, hg1⟩ := hrel
    have T1 := Lib.hid hP1
    have HK1 := Lib.hid hK1
    have G1 := Lib.hid hg1
    obtain ⟨V1, F1, B1, C1, O1, T9, L9⟩ := WW.out k hk
    have L9 : (Y k).x.tk.length ≤ x.tk.length := L9
    have L9 := Lib.hid (Nat.le_trans L9 HL.out)
    have B1 : (Y k).f ≤ 0 + k := B1
    have V1 := Lib.hid V1
    have T9 := Lib.hid (show (Y k).x.T ≤ 9 by rw [T9]; exact HT.out)
    have C1 := Lib.hid C1
    clear hK1 hP1 hg1 O1
    by_cases hlt : k < n
    · obtain ⟨b1, o1, rfl, g1⟩ := (li.rd_own (ph.row_gr O3.out G1.out (fun q hq hm => by
        have := own_base O3.out q hq
        rcases List.mem_append.1 hm with e | e
        · have := LK.out.1 q e; omega
        · have := LK.out.2 q e; omega))).at_ hlt
      obtain ⟨a, ha, a2, am, aN⟩ := WN.out k hlt
      rw [ha] at g1
      have YN := Lib.hid aN
      obtain ⟨_, m3, _, m4, _⟩ := T1.out.bk.cells
      have mk := m4 a a2
      have mz := m3 a
      have l1 : (0 : Int) ≤ (k : Int) := by omega
      have l2 : (k : Int) < n := by omega
      have a0 : (0 : Int) ≤ (a : Int) := by omega
      have a1 : (a : Int) < 2048 := by omega
      have IB := Lib.hid (isb_nat (Y k).s.ws a2)
      clear ha aN m3 m4
      cases hbit : bm.bit (Y k).s.ws a with
      | true =>
        have FIN := Lib.hid (show Y (k + 1) = ⟨(Y k).x, (Y k).s.clear a, (Y k).f⟩ by rw [YN.out]; exact if_pos (by rw [IB.out]; exact hbit))
        have CL := Lib.hid (fun W (h1 : Bk pp W J M r (Y k).s) => bk_clear h1 a2)
        rw [hbit] at mk
        clear hbit am
        generalize hm : (Y k).f = m at *
        have HM := Lib.hid hm
        clear hm
        go_wp2
        go_quiet (fail)
        go_wp2
        go_region
        go_wp2
        go_roundw
        case rel =>
          obtain ⟨q1, q2⟩ := CL.out _ (T1.out.new (li.grown_drewN _ _ _)).bk
          have P6 := (T1.out.new (li.grown_drewN _ _ _)).bk' q1 q2
          exact ⟨k + 1, K1, by omega, by go_num, by rw [FIN.out], HK1.out, by rw [FIN.out]; exact P6, (G1.out.made (li.grown_drewN _ _ _)).trans (ce.Gr.mono q2 (fun q hq => List.mem_append.2 (.inr hq)))⟩
        case measure => first | (simp [intOf]; done) | (simp [intOf]; omega)
      | false =>
        have FIN := Lib.hid (show Y (k + 1) = ⟨gn (Y k).x a, (Y k).s, (Y k).f + 1⟩ by rw [YN.out]; unfold pass; rw [IB.out, hbit, if_neg (by decide), Int.toNat_natCast])
        have GN := Lib.hid (fun W (h1 : ph.Pl W K1 H (ph.toq (Y k).x)) => ph.rGone_gn h1 V1.out L9.out am)
        rw [hbit] at mk
        clear hbit am
        generalize hm : (Y k).f = m at *
        have HM := Lib.hid hm
        have m0 : (0 : Int) ≤ m := by omega
        have m1 : (m : Int) ≤ 2048 := by omega
        clear hm
        go_wp2
        go_quiet (fail)
        go_wp2_with (go_at_call 102; (with_reducible refine (GN.out _ (T1.out.new (li.grown_drewN _ _ _)).pl).mono ?_); rintro e6 w6 ⟨rfl, K6, hk6, hp6, hg6⟩; have P6 := Lib.hid (gp_heap (T1.out.new (li.grown_drewN _ _ _)) (obs_few _) hk6 hp6 hg6); have HK6 := Lib.hid (fun q hq => (hk6 q hq : q ∈ K1 ∨ _ ≤ q)); have G6 := Lib.hid hg6; clear hk6 hp6 hg6)
        go_roundw
        case rel => exact ⟨k + 1, K6, by omega, by go_num, by rw [FIN.out]; go_num, fun q hq => (HK6.out q hq).elim (HK1.out q) (fun e => .inr (Nat.le_trans G1.out.size e)), by rw [FIN.out]; exact P6.out, (G1.out.made (li.grown_drewN _ _ _)).own G6.out (fun q hq => (HK1.out q hq).imp (fun e => List.mem_append.2 (.inl e)) id)⟩
        case measure => first | (simp [intOf]; done) | (simp [intOf]; omega)
    · obtain rfl : k = n := by omega
      have DT := Lib.hid (TR.out wr K1 (Y k).x T1.out.pl V1.out T9.out)
      have m1 : ((Y k).f : Int) ≤ 2048 := by omega
      generalize hm : (Y k).f = m at *
      have HM := Lib.hid hm
      clear hm
      go_wp2_with (go_at_call 103; (with_reducible refine DT.out.mono ?_); rintro e6 w6 ⟨rfl, K6, hk6, hp6, hg6⟩; have P6 := Lib.hid (gp_heap T1.out (obs_few _) hk6 hp6 hg6); have HK6 := Lib.hid (fun q hq => (hk6 q hq : q ∈ K1 ∨ _ ≤ q)); have G6 := Lib.hid hg6; clear hk6 hp6 hg6)
      go_ret
      exact ⟨by first | rfl | (rw [HM.out]; done) | (rw [HM.out]; rfl), K6, fun q hq => (HK6.out q hq).elim (fun e => (HK1.out q e).imp id (fun e => Nat.le_trans G3.out.size e)) (fun e => .inr (Nat.le_trans G3.out.size (Nat.le_trans G1.out.size e))), P6.out, ((Gr.new G3.out).trans G1.out).own G6.out (fun q hq => (HK1.out q hq).elim (fun e => .inl (List.mem_append.2 (.inl e))) (fun e => .inr (Nat.le_trans G3.out.size e)))⟩
end
end Go.Proofs.YtfloleflcoiidaaGreatDoor.sw

/- All that stands in the statement's world: the program's store, grey and sweeper; the plain heap and the plain grey; what a step boxed. -/
namespace Go.Proofs.YtfloleflcoiidaaGreatDoor.sw
open Go.ChangeShapes Go.WideShapes Go.ChangeAt Go.RowKit gen calls cls geos ce st sh
set_option linter.unusedVariables false
set_option maxHeartbeats 4000000
set_option maxRecDepth 100000
abbrev Bxs := List (Nat × Obj)
/-- The world's cells. -/
def wcs (S g t H M N c f : Nat) : Array Value := #[.pointer (some ⟨S, 0, none⟩), .pointer (some ⟨g, 0, none⟩), .pointer (some ⟨t, 0, none⟩), .pointer (some ⟨H, 0, none⟩), .pointer (some ⟨M, 0, none⟩), .int .i64 N, .int .i64 c, .int .i64 f]
/-- The blocks: I the store's, t :: L the program's grey's and sweeper's, K the plain heap's, J the plain grey's, B the world's. -/
structure Ws (w0 W : World) (B : Nat) (I : Ids) (x : Hs) (L : List Nat) (g r : Nat) (s : Ps) (t N c f : Nat) (K : List Nat) (H : Nat) (y : ph.Hq) (J : List Nat) (M : Nat) (s2 : Ps) (c2 f2 : Nat) (bs : Bxs) : Prop where
  sp : Sp W I x L g r s t N c f
  gp : Gp W K H y J M r s2 (-1)
  bx : W.heap[B]? = some (.cells (wcs I.S g t H M N c2 f2) 38 (0, 0))
  aI : ∀ q, q ∈ I.all → q ∉ K ∧ q ∉ J ∧ q ≠ B
  aL : ∀ q, q ∈ t :: L → q ∉ K ∧ q ∉ J ∧ q ≠ B
  aB : B ∉ K ∧ B ∉ J
  lo : (∀ q, q ∈ I.all → w0.heap.size ≤ q) ∧ (∀ q, q ∈ t :: L → w0.heap.size ≤ q) ∧ (∀ q, q ∈ K → w0.heap.size ≤ q) ∧ (∀ q, q ∈ J → w0.heap.size ≤ q) ∧ w0.heap.size ≤ B
  gr : w0.grownBy W none
  bs : ∀ q ∈ bs, W.heap[q.1]? = some q.2 ∧ q.1 ∉ I.all ∧ q.1 ∉ t :: L ∧ q.1 ∉ K ∧ q.1 ∉ J ∧ q.1 ≠ B
section
variable {w0 W W' : World} {B b : Nat} {I : Ids} {x x' z : Hs} {L L' K K' J J' X : List Nat} {g r t N c c' c2 f f' f2 c3 f3 n n' H M F : Nat} {s s' s2 s3 : Ps} {y y' : ph.Hq} {v : Value} {e : Ending} {bs : Bxs} {args : Array Value} {o : Obj}
theorem wlt (h : Ws w0 W B I x L g r s t N c f K H y J M s2 c2 f2 bs) : (∀ q, q ∈ I.all → q < W.heap.size) ∧ (∀ q, q ∈ t :: L → q < W.heap.size) ∧ (∀ q, q ∈ K → q < W.heap.size) ∧ (∀ q, q ∈ J → q < W.heap.size) ∧ B < W.heap.size :=
  ⟨h.sp.sr.lt, fun q hq => by
    rcases List.mem_cons.1 hq with rfl | hq
    · exact h.sp.so.lt
    · exact h.sp.gy.lt q hq, h.gp.pl.lt, h.gp.bk.lt, (Array.getElem?_eq_some_iff.1 h.bx).1⟩
/-- The program's side has changed. -/
theorem Ws.prog (h : Ws w0 W B I x L g r s t N c f K H y J M s2 c2 f2 bs) (h1 : ∀ q, q ∈ L' → q ∈ L ∨ W.heap.size ≤ q) (h2 : Sp W' I x' L' g r s' t N c' f') (h3 : Gr (wr t L I) W W') : Ws w0 W' B I x' L' g r s' t N c' f' K H y J M s2 c2 f2 bs := by
  obtain ⟨l1, l2, l3, l4, l5⟩ := wlt h
  have wall : ∀ q, q ∈ wr t L I → q ∈ I.all ∨ q ∈ t :: L := fun q hq => by
    rcases in_wr.1 hq with e | e | e
    · exact .inr (by simp [e])
    · exact .inr (by simp [e])
    · exact .inl (IL_all e)
  have nK : ∀ q, q ∈ wr t L I → q ∉ K ∧ q ∉ J ∧ q ≠ B := fun q hq => (wall q hq).elim (h.aI q) (h.aL q)
  have new : ∀ q, q ∈ t :: L' → q ∈ t :: L ∨ W.heap.size ≤ q := fun q hq => by
    rcases List.mem_cons.1 hq with rfl | hq
    · exact .inl (by simp)
    · exact (h1 q hq).imp (fun e => by simp [e]) id
  refine ⟨h2, ⟨h.gp.pl.gr h3 (fun q hq => (nK q hq).1), h.gp.bk.gr h3 (fun q hq hm => (nK q hm).2.1 hq), h.gp.ap, h.gp.few⟩, h3.heap h.bx (fun hm => (nK B hm).2.2 rfl), h.aI, fun q hq => ?_, h.aB, ⟨h.lo.1, fun q hq => ?_, h.lo.2.2⟩, Gr.grown h.gr h3 (fun q hq => (wall q hq).elim (h.lo.1 q) (h.lo.2.1 q)), fun q hq => ?_⟩
  · rcases new q hq with e | e
    · exact h.aL q e
    · exact ⟨fun hm => by have := l3 q hm; omega, fun hm => by have := l4 q hm; omega, by omega⟩
  · rcases new q hq with e | e
    · exact h.lo.2.1 q e
    · exact Nat.le_trans h.gr.size e
  · obtain ⟨b1, b2, b3, b4, b5, b6⟩ := h.bs q hq
    have lt := (Array.getElem?_eq_some_iff.1 b1).1
    refine ⟨h3.heap b1 (fun hm => (wall _ hm).elim b2 b3), b2, fun hm => ?_, b4, b5, b6⟩
    rcases new _ hm with e | e
    · exact b3 e
    · omega
/-- The plain side has changed. -/
theorem Ws.plain (h : Ws w0 W B I x L g r s t N c f K H y J M s2 c2 f2 bs) (h1 : ∀ q, q ∈ K' → q ∈ K ∨ W.heap.size ≤ q) (h1' : ∀ q, q ∈ J' → q ∈ J ∨ W.heap.size ≤ q) (h2 : Gp W' K' H y' J' M r s3 (-1)) (h3 : Gr (K ++ J) W W') : Ws w0 W' B I x L g r s t N c f K' H y' J' M s3 c2 f2 bs := by
  obtain ⟨l1, l2, l3, l4, l5⟩ := wlt h
  have nI : ∀ q, q ∈ K ++ J → q ∉ I.all := fun q hq hm => (List.mem_append.1 hq).elim (h.aI q hm).1 (h.aI q hm).2.1
  have nL : ∀ q, q ∈ K ++ J → q ∉ t :: L := fun q hq hm => (List.mem_append.1 hq).elim (h.aL q hm).1 (h.aL q hm).2.1
  have nB : B ∉ K ++ J := fun hm => (List.mem_append.1 hm).elim h.aB.1 h.aB.2
  have off : ∀ q, q < W.heap.size → q ∉ K ∧ q ∉ J → q ∉ K' ∧ q ∉ J' := fun q hq hk => ⟨fun hm => (h1 q hm).elim hk.1 (fun e => by omega), fun hm => (h1' q hm).elim hk.2 (fun e => by omega)⟩
  refine ⟨h.sp.gr h3 nI (fun q hq hm => nL q hq (by simp [hm])) (fun hm => nL t hm (by simp)), h2, h3.heap h.bx nB, fun q hq => ⟨(off q (l1 q hq) ⟨(h.aI q hq).1, (h.aI q hq).2.1⟩).1, (off q (l1 q hq) ⟨(h.aI q hq).1, (h.aI q hq).2.1⟩).2, (h.aI q hq).2.2⟩, fun q hq => ⟨(off q (l2 q hq) ⟨(h.aL q hq).1, (h.aL q hq).2.1⟩).1, (off q (l2 q hq) ⟨(h.aL q hq).1, (h.aL q hq).2.1⟩).2, (h.aL q hq).2.2⟩, off B l5 h.aB, ⟨h.lo.1, h.lo.2.1, fun q hq => (h1 q hq).elim (h.lo.2.2.1 q) (fun e => Nat.le_trans h.gr.size e), fun q hq => (h1' q hq).elim (h.lo.2.2.2.1 q) (fun e => Nat.le_trans h.gr.size e), h.lo.2.2.2.2⟩, Gr.grown h.gr h3 (fun q hq => (List.mem_append.1 hq).elim (h.lo.2.2.1 q) (h.lo.2.2.2.1 q)), fun q hq => ?_⟩
  obtain ⟨b1, b2, b3, b4, b5, b6⟩ := h.bs q hq
  have lt := (Array.getElem?_eq_some_iff.1 b1).1
  exact ⟨h3.heap b1 (fun hm => (List.mem_append.1 hm).elim b4 b5), b2, b3, (off _ lt ⟨b4, b5⟩).1, (off _ lt ⟨b4, b5⟩).2, b6⟩
/-- The world's own cells have changed. -/
theorem Ws.own (h : Ws w0 W B I x L g r s t N c f K H y J M s2 c2 f2 bs) (hg : Gr [B] W W') (hb : W'.heap[B]? = some (.cells (wcs I.S g t H M N c3 f3) 38 (0, 0))) : Ws w0 W' B I x L g r s t N c f K H y J M s2 c3 f3 bs := by
  have nI : ∀ q, q ∈ I.all → q ∉ [B] := fun q hq hm => (h.aI q hq).2.2 (by simpa using hm)
  have nL : ∀ q, q ∈ t :: L → q ∉ [B] := fun q hq hm => (h.aL q hq).2.2 (by simpa using hm)
  refine ⟨h.sp.gr hg (fun q hq hm => nI q hm hq) (fun q hq hm => nL q (by simp [hm]) hq) (nL t (by simp)), ⟨h.gp.pl.gr hg (fun q hq hm => by simp at hq; subst hq; exact h.aB.1 hm), h.gp.bk.gr hg (fun q hq hm => by simp at hm; subst hm; exact h.aB.2 hq), h.gp.ap, h.gp.few⟩, hb, h.aI, h.aL, h.aB, h.lo, Gr.grown h.gr hg (fun q hq => by simp at hq; subst hq; exact h.lo.2.2.2.2), fun q hq => ?_⟩
  obtain ⟨b1, b2, b3, b4, b5, b6⟩ := h.bs q hq
  exact ⟨hg.heap b1 (by simpa using b6), b2, b3, b4, b5, b6⟩
theorem Ws.new (h : Ws w0 W B I x L g r s t N c f K H y J M s2 c2 f2 bs) (hg : W.grownBy W' none) : Ws w0 W' B I x L g r s t N c f K H y J M s2 c2 f2 bs :=
  h.prog (fun q hq => .inl hq) (h.sp.new hg) (.new hg)
theorem Ws.set (h : Ws w0 W B I x L g r s t N c f K H y J M s2 c2 f2 bs) (u : Nat) : Ws w0 (W.setCell ⟨B, 6, none⟩ (.int .i64 u)) B I x L g r s t N c f K H y J M s2 u f2 bs ∧ Ws w0 (W.setCell ⟨B, 7, none⟩ (.int .i64 u)) B I x L g r s t N c f K H y J M s2 c2 u bs := by
  refine ⟨h.own (.set _ _ _ _ (by simp)) ?_, h.own (.set _ _ _ _ (by simp)) ?_⟩
  · rw [heap_setCell_same W B 6 _ _ (.int .i64 (u : Int)) h.bx]
    rfl
  · rw [heap_setCell_same W B 7 _ _ (.int .i64 (u : Int)) h.bx]
    rfl
theorem Ws.box (h : Ws w0 W B I x L g r s t N c f K H y J M s2 c2 f2 bs) (o : Obj) {b : Nat} (hb : b = W.heap.size) : Ws w0 (W.alloc o) B I x L g r s t N c f K H y J M s2 c2 f2 ((b, o) :: bs) := by
  subst hb
  have h' := h.new (World.grownBy_alloc W o none)
  obtain ⟨l1, l2, l3, l4, l5⟩ := wlt h
  refine ⟨h'.sp, h'.gp, h'.bx, h'.aI, h'.aL, h'.aB, h'.lo, h'.gr, fun q hq => ?_⟩
  rcases List.mem_cons.1 hq with rfl | hq
  · exact ⟨heap_alloc_new _ _, fun hm => by have := l1 _ hm; simp at this, fun hm => by have := l2 _ hm; simp at this, fun hm => by have := l3 _ hm; simp at this, fun hm => by have := l4 _ hm; simp at this, by simp; omega⟩
  · exact h'.bs q hq
theorem Ws.un (h : Ws w0 W B I x L g r s t N c f K H y J M s2 c2 f2 bs) : Ws w0 W B I x L g r s t N c f K H y J M s2 c2 f2 [] := ⟨h.sp, h.gp, h.bx, h.aI, h.aL, h.aB, h.lo, h.gr, fun q hq => by cases hq⟩
/-- The world's cells at hand. -/
theorem Ws.cells (h : Ws w0 W B I x L g r s t N c f K H y J M s2 c2 f2 bs) : W.cell? ⟨B, 0, none⟩ = some (.pointer (some ⟨I.S, 0, none⟩)) ∧ W.cell? ⟨B, 1, none⟩ = some (.pointer (some ⟨g, 0, none⟩)) ∧ W.cell? ⟨B, 2, none⟩ = some (.pointer (some ⟨t, 0, none⟩)) ∧ W.cell? ⟨B, 3, none⟩ = some (.pointer (some ⟨H, 0, none⟩)) ∧ W.cell? ⟨B, 4, none⟩ = some (.pointer (some ⟨M, 0, none⟩)) ∧ W.cell? ⟨B, 5, none⟩ = some (.int .i64 N) ∧ W.cell? ⟨B, 6, none⟩ = some (.int .i64 c2) ∧ W.cell? ⟨B, 7, none⟩ = some (.int .i64 f2) ∧ ∀ k, W.frozen? ⟨B, k, none⟩ = false :=
  ⟨by rw [cell_of_row W B 0 _ _ _ h.bx]; rfl, by rw [cell_of_row W B 1 _ _ _ h.bx]; rfl, by rw [cell_of_row W B 2 _ _ _ h.bx]; rfl, by rw [cell_of_row W B 3 _ _ _ h.bx]; rfl, by rw [cell_of_row W B 4 _ _ _ h.bx]; rfl, by rw [cell_of_row W B 5 _ _ _ h.bx]; rfl, by rw [cell_of_row W B 6 _ _ _ h.bx]; rfl, by rw [cell_of_row W B 7 _ _ _ h.bx]; rfl, fun k => frozen_of_row W B k _ _ h.bx⟩
theorem Ws.tab (h : Ws w0 W B I x L g r s t N c f K H y J M s2 c2 f2 bs) (hT : bm.Tab w0) : bm.Tab W ∧ I.s ≠ 0 := by
  have h1 := h.lo.1 I.s (by simp [Ids.all])
  have h2 := hT.1
  exact ⟨hT.kept h.gr (by simp), by omega⟩
/-- The same, its blocks hidden. -/
def Wm (w0 : World) (B : Nat) (I : Ids) (g r t N H M : Nat) (x : Hs) (s : Ps) (c f : Nat) (y : ph.Hq) (s2 : Ps) (c2 f2 : Nat) (bs : Bxs) (W : World) : Prop := ∃ L K J, Ws w0 W B I x L g r s t N c f K H y J M s2 c2 f2 bs
theorem Wm.new (h : Wm w0 B I g r t N H M x s c f y s2 c2 f2 bs W) (hg : W.grownBy W' none) : Wm w0 B I g r t N H M x s c f y s2 c2 f2 bs W' := by
  obtain ⟨L, K, J, h⟩ := h
  exact ⟨L, K, J, h.new hg⟩
theorem Wm.un (h : Wm w0 B I g r t N H M x s c f y s2 c2 f2 bs W) : Wm w0 B I g r t N H M x s c f y s2 c2 f2 [] W := by
  obtain ⟨L, K, J, h⟩ := h
  exact ⟨L, K, J, h.un⟩
theorem Wm.box (h : Wm w0 B I g r t N H M x s c f y s2 c2 f2 bs W) (o : Obj) {b : Nat} (hb : b = W.heap.size) : Wm w0 B I g r t N H M x s c f y s2 c2 f2 ((b, o) :: bs) (W.alloc o) := by
  obtain ⟨L, K, J, h⟩ := h
  exact ⟨L, K, J, h.box o hb⟩
theorem Wm.set (h : Wm w0 B I g r t N H M x s c f y s2 c2 f2 bs W) (u : Nat) : Wm w0 B I g r t N H M x s c f y s2 u f2 bs (W.setCell ⟨B, 6, none⟩ (.int .i64 u)) ∧ Wm w0 B I g r t N H M x s c f y s2 c2 u bs (W.setCell ⟨B, 7, none⟩ (.int .i64 u)) := by
  obtain ⟨L, K, J, h⟩ := h
  exact ⟨⟨L, K, J, (h.set u).1⟩, ⟨L, K, J, (h.set u).2⟩⟩
theorem Wm.cells (h : Wm w0 B I g r t N H M x s c f y s2 c2 f2 bs W) : W.cell? ⟨B, 0, none⟩ = some (.pointer (some ⟨I.S, 0, none⟩)) ∧ W.cell? ⟨B, 1, none⟩ = some (.pointer (some ⟨g, 0, none⟩)) ∧ W.cell? ⟨B, 2, none⟩ = some (.pointer (some ⟨t, 0, none⟩)) ∧ W.cell? ⟨B, 3, none⟩ = some (.pointer (some ⟨H, 0, none⟩)) ∧ W.cell? ⟨B, 4, none⟩ = some (.pointer (some ⟨M, 0, none⟩)) ∧ W.cell? ⟨B, 5, none⟩ = some (.int .i64 N) ∧ W.cell? ⟨B, 6, none⟩ = some (.int .i64 c2) ∧ W.cell? ⟨B, 7, none⟩ = some (.int .i64 f2) ∧ ∀ k, W.frozen? ⟨B, k, none⟩ = false := by
  obtain ⟨L, K, J, h⟩ := h
  exact h.cells
theorem Wm.at_ (h : Wm w0 B I g r t N H M x s c f y s2 c2 f2 bs W) {q : Nat × Obj} (hq : q ∈ bs) : W.heap[q.1]? = some q.2 := by
  obtain ⟨L, K, J, h⟩ := h
  exact (h.bs q hq).1
theorem Wm.grown (h : Wm w0 B I g r t N H M x s c f y s2 c2 f2 bs W) : w0.grownBy W none := by
  obtain ⟨L, K, J, h⟩ := h
  exact h.gr
/-- A call of the program's side. -/
theorem Wm.prog (h : Wm w0 B I g r t N H M x s c f y s2 c2 f2 bs W) (C : ∀ L K J, Ws w0 W B I x L g r s t N c f K H y J M s2 c2 f2 bs → Calls Tryz.prog F args W fun e w' => e = .returned v ∧ ∃ L', (∀ q, q ∈ L' → q ∈ L ∨ W.heap.size ≤ q) ∧ Sp w' I x' L' g r s' t N c' f' ∧ Gr (wr t L I) W w') :
    Calls Tryz.prog F args W fun e w' => e = .returned v ∧ Wm w0 B I g r t N H M x' s' c' f' y s2 c2 f2 bs w' := by
  obtain ⟨L, K, J, h⟩ := h
  exact (C L K J h).mono fun e w' ⟨k1, L', k2, k3, k4⟩ => ⟨k1, L', K, J, h.prog k2 k3 k4⟩
theorem Wm.grey (h : Wm w0 B I g r t N H M x s c f y s2 c2 f2 bs W) (C : ∀ L, Gy W L g r s → Calls Tryz.prog F args W (Ga L g r v s' W)) :
    Calls Tryz.prog F args W fun e w' => e = .returned v ∧ Wm w0 B I g r t N H M x s' c f y s2 c2 f2 bs w' :=
  h.prog fun L K J h => (C L h.sp.gy).mono fun e w' ⟨k1, L', k2, k3, k4⟩ => ⟨k1, L', k2, h.sp.grey k2 k3 k4, wr_L k4⟩
theorem Wm.store (h : Wm w0 B I g r t N H M x s c f y s2 c2 f2 bs W) (hv : Iv z) (s8 : z.cnt < 1099511627776) (C : Sr W I x → Calls Tryz.prog F args W (Done I v z W)) :
    Calls Tryz.prog F args W fun e w' => e = .returned v ∧ Wm w0 B I g r t N H M z s c f y s2 c2 f2 bs w' :=
  h.prog fun L K J h => (C h.sp.sr).mono fun e w' ⟨k1, k2, k3⟩ => ⟨k1, L, fun q hq => .inl hq, h.sp.store k2 hv s8 k3, wr_I k3⟩
/-- A call of the plain side. -/
theorem Wm.plain (h : Wm w0 B I g r t N H M x s c f y s2 c2 f2 bs W) (C : ∀ K J, Gp W K H y J M r s2 (-1) → Calls Tryz.prog F args W fun e w' => e = .returned v ∧ ∃ K' J', (∀ q, q ∈ K' → q ∈ K ∨ W.heap.size ≤ q) ∧ (∀ q, q ∈ J' → q ∈ J ∨ W.heap.size ≤ q) ∧ Gp w' K' H y' J' M r s3 (-1) ∧ Gr (K ++ J) W w') :
    Calls Tryz.prog F args W fun e w' => e = .returned v ∧ Wm w0 B I g r t N H M x s c f y' s3 c2 f2 bs w' := by
  obtain ⟨L, K, J, h⟩ := h
  exact (C K J h.gp).mono fun e w' ⟨k1, K', J', k2, k3, k4, k5⟩ => ⟨k1, L, K', J', h.plain k2 k3 k4 k5⟩
theorem Wm.heap (h : Wm w0 B I g r t N H M x s c f y s2 c2 f2 bs W) (hf : ∀ o ∈ y'.ob, o.2.2.length ≤ 127) (C : ∀ K, ph.Pl W K H y → Calls Tryz.prog F args W (ph.Pa K H v y' W)) :
    Calls Tryz.prog F args W fun e w' => e = .returned v ∧ Wm w0 B I g r t N H M x s c f y' s2 c2 f2 bs w' :=
  h.plain fun K J h => (C K h.pl).mono fun e w' ⟨k1, K', k2, k3, k4⟩ => ⟨k1, K', J, k2, fun q hq => .inl hq, gp_heap h hf k2 k3 k4, k4.mono (fun q hq => List.mem_append.2 (.inl hq))⟩
theorem Wm.marks (h : Wm w0 B I g r t N H M x s c f y s2 c2 f2 bs W) (C : ∀ J, Bk (-1) W J M r s2 → Calls Tryz.prog F args W (Ba (-1) J M r v s3 W)) :
    Calls Tryz.prog F args W fun e w' => e = .returned v ∧ Wm w0 B I g r t N H M x s c f y s3 c2 f2 bs w' :=
  h.plain fun K J h => (C J h.bk).mono fun e w' ⟨k1, J', k2, k3, k4⟩ => ⟨k1, K, J', fun q hq => .inl hq, k2, h.grey k2 k3 k4, ce.Gr.mono k4 (fun q hq => List.mem_append.2 (.inr hq))⟩
end
end Go.Proofs.YtfloleflcoiidaaGreatDoor.sw

/- The statement's own unit: a page, of the program and by lists. -/
namespace Go.Proofs.YtfloleflcoiidaaGreatDoor.sw
open Go.ChangeShapes Go.WideShapes Go.ChangeAt Go.RowKit gen calls cls geos ce st sh
set_option linter.unusedVariables false
set_option maxHeartbeats 8000000
set_option maxRecDepth 100000
section
variable {w0 W W' : World} {B b : Nat} {I : Ids} {x x' z : Hs} {L L' K K' J J' X : List Nat} {g r t N c c' c2 f f' f2 c3 f3 n n' H M F : Nat} {s s' s2 s3 : Ps} {y y' : ph.Hq} {v : Value} {e : Ending} {bs : Bxs} {args : Array Value} {o : Obj}
theorem wunit_done (h : Wm w0 B I g r t N H M x s N f (ph.toq x) s N f bs W) : Calls Tryz.prog 34 #[.pointer (some ⟨B, 0, none⟩)] W fun e w' => e = .returned (.bool true) ∧ W.grownBy w' none := by
  obtain ⟨b0, b1, b2, b3, b4, b5, b6, b7, bz⟩ := h.cells
  have UN := Lib.hid (fun W2 (hg : W.grownBy W2 none) => (show Calls Tryz.prog 14 #[.pointer (some ⟨t, 0, none⟩)] W2 fun e w' => e = .returned (.bool false) ∧ W2.grownBy w' none from by
    obtain ⟨L, K, J, h⟩ := h
    exact Unit_no (h.sp.so.new hg)))
  clear h bz
  go_enter Tryz.func34, Tryz.ntmps34
  go_wp2
  go_quiet (fail)
  go_wp2_with (go_at_call 14; (with_reducible refine (UN.out _ (li.grown_drewN _ _ _)).mono ?_); rintro e w2 ⟨rfl, hg⟩; have G2 := Lib.hid ((li.grown_drewN W _ none).trans hg); clear hg)
  go_ret
  exact ⟨rfl, G2.out⟩
theorem wunit_next (h : Wm w0 B I g r t N H M x s c f (ph.toq x) s c f bs W) (hc : c < N) (hT : bm.Tab w0) (x1 : x.T ≤ 9) (hf : f + 2048 ≤ 1000000) :
    Calls Tryz.prog 34 #[.pointer (some ⟨B, 0, none⟩)] W fun e w' => e = .returned (.bool true) ∧ Wm w0 B I g r t N H M (unit ⟨x, s, f⟩ c).x (unit ⟨x, s, f⟩ c).s (c + 1) (unit ⟨x, s, f⟩ c).f (ph.toq (unit ⟨x, s, f⟩ c).x) (unit ⟨x, s, f⟩ c).s (c + 1) (unit ⟨x, s, f⟩ c).f bs w' := by
  have hU := unit_f x s f c
  obtain ⟨z, hz⟩ : ∃ z, unit ⟨x, s, 0⟩ c = z := ⟨_, rfl⟩
  rw [hz] at hU
  have c64 : (c : Int) < 64 := by
    obtain ⟨L, K, J, h⟩ := h
    have := h.sp.n1
    omega
  have cN : (c : Int) < N := by omega
  have z0 : z.f ≤ 2048 := by
    obtain ⟨L, K, J, h⟩ := h
    have h1 := (pz_unit (z := ⟨x, s, 0⟩) h.sp.iv h.sp.gy.fine c).f
    rw [hz] at h1
    have h2 := List.length_filter_le (fun b => !isb s.ws b) (tc.inp x c)
    have h3 := List.length_filter_le (fun a => decide (a / 32 = (c : Int))) x.tk
    have h4 := tk_few h.sp.sr
    have h5 : z.f = 0 + ((tc.inp x c).filter fun b => !isb s.ws b).length := h1
    unfold tc.inp at h2 h5
    omega
  have SW := Lib.hid (fun W2 (h2 : Wm w0 B I g r t N H M x s c f (ph.toq x) s c f bs W2) => (show Calls Tryz.prog 64 #[.pointer (some ⟨M, 0, none⟩), .pointer (some ⟨H, 0, none⟩), .int .i64 c] W2 fun e w' => e = .returned (.int .i64 z.f) ∧ Wm w0 B I g r t N H M x s c f (ph.toq z.x) z.s c f bs w' from by
    have hh := h2
    obtain ⟨L, K, J, h3⟩ := h2
    refine (rSweep_any h3.gp h3.sp.iv x1 (tk_few h3.sp.sr) (p := c) (by omega)).mono fun e w' ⟨k1, K', k2, k3, k4⟩ => ?_
    rw [hz] at k1 k3
    exact ⟨k1, L, K', J, h3.plain k2 (fun q hq => .inl hq) k3 k4⟩))
  have UN := Lib.hid (fun W2 y s2 c2 f2 (h2 : Wm w0 B I g r t N H M x s c f y s2 c2 f2 bs W2) => (show Calls Tryz.prog 14 #[.pointer (some ⟨t, 0, none⟩)] W2 fun e w' => e = .returned (.bool true) ∧ Wm w0 B I g r t N H M (unit ⟨x, s, f⟩ c).x (unit ⟨x, s, f⟩ c).s (c + 1) (unit ⟨x, s, f⟩ c).f y s2 c2 f2 bs w' from
    h2.prog fun L K J h3 => Unit_yes h3.sp (h3.tab hT).1 (h3.tab hT).2 hc hf))
  have H0 := Lib.hid h
  obtain ⟨b0, b1, b2, b3, b4, b5, b6, b7, bz⟩ := h.cells
  have z7 := bz 7
  have z6 := bz 6
  have c0 : (0 : Int) ≤ c := by omega
  have hw : IntKind.i64.wrap ((f : Int) + z.f) = ((f + z.f : Nat) : Int) := by
    rw [show (f : Int) + z.f = ((f + z.f : Nat) : Int) by omega]
    rw [IntKind.wrap_i64]
    omega
  have EU := Lib.hid hU
  have H43 := fun w3 (h3 : Wm w0 B I g r t N H M x s c f (ph.toq z.x) z.s c f bs w3) => (show Wm w0 B I g r t N H M x s c f (ph.toq z.x) z.s c (f + z.f) bs (w3.setCell ⟨B, 7, none⟩ (.int .i64 ((f : Int) + z.f))) from by
    have := (h3.set (f + z.f)).2
    rw [show ((f + z.f : Nat) : Int) = (f : Int) + z.f by omega] at this
    exact this)
  have H43 := Lib.hid H43
  clear h hc hf bz hU z0 hT x1 hz
  generalize hzf : z.f = zf at *
  have HZ := Lib.hid hzf
  clear hzf
  go_enter Tryz.func34, Tryz.ntmps34
  go_wp2
  go_quiet (fail)
  go_wp2
  refine wp_region_held_drew (S := fun W2 => W2.cell? ⟨B, 3, none⟩ = some (.pointer (some ⟨H, 0, none⟩)) ∧ W2.cell? ⟨B, 4, none⟩ = some (.pointer (some ⟨M, 0, none⟩)) ∧ W2.cell? ⟨B, 6, none⟩ = some (.int .i64 c)) (by kernel_rfl) ⟨b3, b4, b6⟩ (fun hHeld => ?_)
  refine wpAnyH_take (i := 0) (oi := ⟨some 18, _, _, _, _, _⟩) (v := .pointer (some ⟨B, 0, none⟩)) rfl (by kernel_rfl) (by kernel_rfl) (by kernel_rfl) (fun _ _ _ h => h) (Or.inl ⟨(by kernel_rfl), ?_⟩) (by assumption) ?_
  · (intro w hSw; (try dsimp only at hSw); go_simp)
  try simp only [Act.put, List.setIfInBounds_toArray, List.set_cons_zero, List.set_cons_succ]
  refine wpAnyH_take (i := 1) (oi := ⟨some 19, _, _, _, _, _⟩) (v := .pointer (some ⟨B, 0, none⟩)) rfl (by kernel_rfl) (by kernel_rfl) (by kernel_rfl) (fun _ _ _ h => h) (Or.inl ⟨(by kernel_rfl), ?_⟩) (by assumption) ?_
  · (intro w hSw; (try dsimp only at hSw); go_simp)
  try simp only [Act.put, List.setIfInBounds_toArray, List.set_cons_zero, List.set_cons_succ]
  refine wpAnyH_take (i := 2) (oi := ⟨some 20, _, _, _, _, _⟩) (v := .pointer (some ⟨B, 0, none⟩)) rfl (by kernel_rfl) (by kernel_rfl) (by kernel_rfl) (fun _ _ _ h => h) (Or.inl ⟨(by kernel_rfl), ?_⟩) (by assumption) ?_
  · (intro w hSw; (try dsimp only at hSw); go_simp)
  try simp only [Act.put, List.setIfInBounds_toArray, List.set_cons_zero, List.set_cons_succ]
  refine wpAnyH_take (i := 3) (oi := ⟨some 21, _, _, _, _, _⟩) (v := .pointer (some ⟨B, 7, none⟩)) rfl (by kernel_rfl) (by kernel_rfl) (by kernel_rfl) (fun _ _ _ h => h) (Or.inl ⟨(by kernel_rfl), ?_⟩) (by assumption) ?_
  · (intro w hSw; (try dsimp only at hSw); go_simp)
  try simp only [Act.put, List.setIfInBounds_toArray, List.set_cons_zero, List.set_cons_succ]
  refine wpAnyH_take (i := 5) (oi := ⟨some 23, _, _, _, _, _⟩) (v := .pointer (some ⟨B, 0, none⟩)) rfl (by kernel_rfl) (by kernel_rfl) (by kernel_rfl) (fun _ _ _ h => h) (Or.inl ⟨(by kernel_rfl), ?_⟩) (by assumption) ?_
  · (intro w hSw; (try dsimp only at hSw); go_simp)
  try simp only [Act.put, List.setIfInBounds_toArray, List.set_cons_zero, List.set_cons_succ]
  refine wpAnyH_take (i := 6) (oi := ⟨some 24, _, _, _, _, _⟩) (v := .pointer (some ⟨B, 0, none⟩)) rfl (by kernel_rfl) (by kernel_rfl) (by kernel_rfl) (fun _ _ _ h => h) (Or.inl ⟨(by kernel_rfl), ?_⟩) (by assumption) ?_
  · (intro w hSw; (try dsimp only at hSw); go_simp)
  try simp only [Act.put, List.setIfInBounds_toArray, List.set_cons_zero, List.set_cons_succ]
  refine wpAnyH_take (i := 7) (oi := ⟨some 25, _, _, _, _, _⟩) (v := .pointer (some ⟨B, 4, none⟩)) rfl (by kernel_rfl) (by kernel_rfl) (by kernel_rfl) (fun _ _ _ h => h) (Or.inl ⟨(by kernel_rfl), ?_⟩) (by assumption) ?_
  · (intro w hSw; (try dsimp only at hSw); go_simp)
  try simp only [Act.put, List.setIfInBounds_toArray, List.set_cons_zero, List.set_cons_succ]
  refine wpAnyH_take (i := 8) (oi := ⟨some 26, _, _, _, _, _⟩) (v := .pointer (some ⟨M, 0, none⟩)) rfl (by kernel_rfl) (by kernel_rfl) (by kernel_rfl) (fun _ _ _ h => h) (Or.inl ⟨(by kernel_rfl), ?_⟩) (by assumption) ?_
  · (intro w hSw; (try dsimp only at hSw); go_simp)
  try simp only [Act.put, List.setIfInBounds_toArray, List.set_cons_zero, List.set_cons_succ]
  refine wpAnyH_take (i := 9) (oi := ⟨some 27, _, _, _, _, _⟩) (v := .pointer (some ⟨B, 0, none⟩)) rfl (by kernel_rfl) (by kernel_rfl) (by kernel_rfl) (fun _ _ _ h => h) (Or.inl ⟨(by kernel_rfl), ?_⟩) (by assumption) ?_
  · (intro w hSw; (try dsimp only at hSw); go_simp)
  try simp only [Act.put, List.setIfInBounds_toArray, List.set_cons_zero, List.set_cons_succ]
  refine wpAnyH_take (i := 10) (oi := ⟨some 28, _, _, _, _, _⟩) (v := .pointer (some ⟨B, 0, none⟩)) rfl (by kernel_rfl) (by kernel_rfl) (by kernel_rfl) (fun _ _ _ h => h) (Or.inl ⟨(by kernel_rfl), ?_⟩) (by assumption) ?_
  · (intro w hSw; (try dsimp only at hSw); go_simp)
  try simp only [Act.put, List.setIfInBounds_toArray, List.set_cons_zero, List.set_cons_succ]
  refine wpAnyH_take (i := 11) (oi := ⟨some 29, _, _, _, _, _⟩) (v := .pointer (some ⟨B, 3, none⟩)) rfl (by kernel_rfl) (by kernel_rfl) (by kernel_rfl) (fun _ _ _ h => h) (Or.inl ⟨(by kernel_rfl), ?_⟩) (by assumption) ?_
  · (intro w hSw; (try dsimp only at hSw); go_simp)
  try simp only [Act.put, List.setIfInBounds_toArray, List.set_cons_zero, List.set_cons_succ]
  refine wpAnyH_take (i := 12) (oi := ⟨some 30, _, _, _, _, _⟩) (v := .pointer (some ⟨H, 0, none⟩)) rfl (by kernel_rfl) (by kernel_rfl) (by kernel_rfl) (fun _ _ _ h => h) (Or.inl ⟨(by kernel_rfl), ?_⟩) (by assumption) ?_
  · (intro w hSw; (try dsimp only at hSw); go_simp)
  try simp only [Act.put, List.setIfInBounds_toArray, List.set_cons_zero, List.set_cons_succ]
  refine wpAnyH_take (i := 13) (oi := ⟨some 31, _, _, _, _, _⟩) (v := .pointer (some ⟨B, 0, none⟩)) rfl (by kernel_rfl) (by kernel_rfl) (by kernel_rfl) (fun _ _ _ h => h) (Or.inl ⟨(by kernel_rfl), ?_⟩) (by assumption) ?_
  · (intro w hSw; (try dsimp only at hSw); go_simp)
  try simp only [Act.put, List.setIfInBounds_toArray, List.set_cons_zero, List.set_cons_succ]
  refine wpAnyH_take (i := 14) (oi := ⟨some 32, _, _, _, _, _⟩) (v := .pointer (some ⟨B, 0, none⟩)) rfl (by kernel_rfl) (by kernel_rfl) (by kernel_rfl) (fun _ _ _ h => h) (Or.inl ⟨(by kernel_rfl), ?_⟩) (by assumption) ?_
  · (intro w hSw; (try dsimp only at hSw); go_simp)
  try simp only [Act.put, List.setIfInBounds_toArray, List.set_cons_zero, List.set_cons_succ]
  refine wpAnyH_take (i := 15) (oi := ⟨some 33, _, _, _, _, _⟩) (v := .pointer (some ⟨B, 6, none⟩)) rfl (by kernel_rfl) (by kernel_rfl) (by kernel_rfl) (fun _ _ _ h => h) (Or.inl ⟨(by kernel_rfl), ?_⟩) (by assumption) ?_
  · (intro w hSw; (try dsimp only at hSw); go_simp)
  try simp only [Act.put, List.setIfInBounds_toArray, List.set_cons_zero, List.set_cons_succ]
  refine wpAnyH_take (i := 16) (oi := ⟨some 34, _, _, _, _, _⟩) (v := .int .i64 c) rfl (by kernel_rfl) (by kernel_rfl) (by kernel_rfl) (fun _ _ _ h => h) (Or.inl ⟨(by kernel_rfl), ?_⟩) (by assumption) ?_
  · (intro w hSw; (try dsimp only at hSw); go_simp)
  try simp only [Act.put, List.setIfInBounds_toArray, List.set_cons_zero, List.set_cons_succ]
  refine wpAnyH_ready (rs := [4, 17]) (by kernel_rfl) (by simp) (AllReadyH.cons (o := ⟨some 22, _, _, _, _, _⟩) rfl (fun K hK => ?_) (AllReadyH.cons (o := ⟨some 35, _, _, _, _, _⟩) rfl (fun K hK => ?_) AllReadyH.nil))
  go_simp
  refine hK.out _ _ hHeld (fun hHeld => ?_)
  clear hK K
  try simp only [Act.put, List.setIfInBounds_toArray, List.set_cons_zero, List.set_cons_succ]
  refine wpAnyH_ready (rs := [17]) (by kernel_rfl) (by simp) (AllReadyH.cons (o := ⟨some 35, _, _, _, _, _⟩) rfl (fun K hK => ?_) AllReadyH.nil)
  go_simp
  (go_at_call 64; (with_reducible refine (SW.out _ (by first | exact H0.out | exact H0.out.new (li.grown_drewN _ _ _) | exact H0.out.new (gr.grown_drew _ _) | exact H0.out.new ((li.grown_drewN _ _ _).trans (gr.grown_drew _ _)))).mono ?_); rintro e w3 ⟨rfl, h3⟩; have H3 := Lib.hid h3; obtain ⟨d0, d1, d2, d3, d4, d5, d6, d7, dz⟩ := h3.cells; have y7 := dz 7; have y6 := dz 6; clear dz h3)
  refine hK.out _ _ ⟨d3, d4, d6⟩ (fun hHeld => ?_)
  clear hK K
  try simp only [Act.put, List.setIfInBounds_toArray, List.set_cons_zero, List.set_cons_succ]
  refine wpAnyH_take (i := 18) (oi := ⟨some 36, _, _, _, _, _⟩) (v := .int .i64 ((f : Int) + zf)) rfl (by kernel_rfl) (by kernel_rfl) (by kernel_rfl) (fun _ _ _ h => h) (Or.inl ⟨(by kernel_rfl), ?_⟩) (by assumption) ?_
  · (intro w hSw; (try dsimp only at hSw); go_simp)
  try simp only [Act.put, List.setIfInBounds_toArray, List.set_cons_zero, List.set_cons_succ]
  refine wpAnyH_take (i := 19) (oi := ⟨some 37, _, _, _, _, _⟩) (v := .pointer (some ⟨B, 0, none⟩)) rfl (by kernel_rfl) (by kernel_rfl) (by kernel_rfl) (fun _ _ _ h => h) (Or.inl ⟨(by kernel_rfl), ?_⟩) (by assumption) ?_
  · (intro w hSw; (try dsimp only at hSw); go_simp)
  try simp only [Act.put, List.setIfInBounds_toArray, List.set_cons_zero, List.set_cons_succ]
  refine wpAnyH_take (i := 20) (oi := ⟨some 38, _, _, _, _, _⟩) (v := .pointer (some ⟨B, 7, none⟩)) rfl (by kernel_rfl) (by kernel_rfl) (by kernel_rfl) (fun _ _ _ h => h) (Or.inl ⟨(by kernel_rfl), ?_⟩) (by assumption) ?_
  · (intro w hSw; (try dsimp only at hSw); go_simp)
  try simp only [Act.put, List.setIfInBounds_toArray, List.set_cons_zero, List.set_cons_succ]
  refine wpAnyH_ready (rs := [21]) (by kernel_rfl) (by simp) (AllReadyH.cons (o := ⟨none, _, _, _, _, _⟩) rfl (fun K hK => ?_) AllReadyH.nil)
  go_simp
  refine hK.out _ _ ((fun q => ⟨q.2.2.2.1, q.2.2.2.2.1, q.2.2.2.2.2.2.1⟩ : _ → _) (H43.out w3 H3.out).cells) (fun hHeld => ?_)
  clear hK K
  try simp only [Act.put, List.setIfInBounds_toArray, List.set_cons_zero, List.set_cons_succ]
  refine wpAnyH_done (by kernel_rfl) ?_ _
  rotate_left
  go_simp
  (go_at_call 64; (with_reducible refine (SW.out _ (by first | exact H0.out | exact H0.out.new (li.grown_drewN _ _ _) | exact H0.out.new (gr.grown_drew _ _) | exact H0.out.new ((li.grown_drewN _ _ _).trans (gr.grown_drew _ _)))).mono ?_); rintro e w3 ⟨rfl, h3⟩; have H3 := Lib.hid h3; obtain ⟨d0, d1, d2, d3, d4, d5, d6, d7, dz⟩ := h3.cells; have y7 := dz 7; have y6 := dz 6; clear dz h3)
  refine hK.out _ _ ⟨d3, d4, d6⟩ (fun hHeld => ?_)
  clear hK K
  try simp only [Act.put, List.setIfInBounds_toArray, List.set_cons_zero, List.set_cons_succ]
  refine wpAnyH_ready (rs := [4]) (by kernel_rfl) (by simp) (AllReadyH.cons (o := ⟨some 22, _, _, _, _, _⟩) rfl (fun K hK => ?_) AllReadyH.nil)
  go_simp
  refine hK.out _ _ ⟨d3, d4, d6⟩ (fun hHeld => ?_)
  clear hK K
  try simp only [Act.put, List.setIfInBounds_toArray, List.set_cons_zero, List.set_cons_succ]
  refine wpAnyH_take (i := 18) (oi := ⟨some 36, _, _, _, _, _⟩) (v := .int .i64 ((f : Int) + zf)) rfl (by kernel_rfl) (by kernel_rfl) (by kernel_rfl) (fun _ _ _ h => h) (Or.inl ⟨(by kernel_rfl), ?_⟩) (by assumption) ?_
  · (intro w hSw; (try dsimp only at hSw); go_simp)
  try simp only [Act.put, List.setIfInBounds_toArray, List.set_cons_zero, List.set_cons_succ]
  refine wpAnyH_take (i := 19) (oi := ⟨some 37, _, _, _, _, _⟩) (v := .pointer (some ⟨B, 0, none⟩)) rfl (by kernel_rfl) (by kernel_rfl) (by kernel_rfl) (fun _ _ _ h => h) (Or.inl ⟨(by kernel_rfl), ?_⟩) (by assumption) ?_
  · (intro w hSw; (try dsimp only at hSw); go_simp)
  try simp only [Act.put, List.setIfInBounds_toArray, List.set_cons_zero, List.set_cons_succ]
  refine wpAnyH_take (i := 20) (oi := ⟨some 38, _, _, _, _, _⟩) (v := .pointer (some ⟨B, 7, none⟩)) rfl (by kernel_rfl) (by kernel_rfl) (by kernel_rfl) (fun _ _ _ h => h) (Or.inl ⟨(by kernel_rfl), ?_⟩) (by assumption) ?_
  · (intro w hSw; (try dsimp only at hSw); go_simp)
  try simp only [Act.put, List.setIfInBounds_toArray, List.set_cons_zero, List.set_cons_succ]
  refine wpAnyH_ready (rs := [21]) (by kernel_rfl) (by simp) (AllReadyH.cons (o := ⟨none, _, _, _, _, _⟩) rfl (fun K hK => ?_) AllReadyH.nil)
  go_simp
  refine hK.out _ _ ((fun q => ⟨q.2.2.2.1, q.2.2.2.2.1, q.2.2.2.2.2.2.1⟩ : _ → _) (H43.out w3 H3.out).cells) (fun hHeld => ?_)
  clear hK K
  try simp only [Act.put, List.setIfInBounds_toArray, List.set_cons_zero, List.set_cons_succ]
  refine wpAnyH_done (by kernel_rfl) ?_ _
  all_goals
    have H4 := Lib.hid (show Wm w0 B I g r t N H M x s c f (ph.toq z.x) z.s c (f + zf) bs (w3.setCell ⟨B, 7, none⟩ (.int .i64 ((f : Int) + zf))) from H43.out w3 H3.out)
    have H5 := H4.out
    obtain ⟨e0, e1, e2, e3, e4, e5, e6, e7, ez⟩ := H5.cells
    have x6 := ez 6
    have H6 := Lib.hid (show _ from by have := (H4.out.set (c + 1)).1; rw [show ((c + 1 : Nat) : Int) = (c : Int) + 1 by omega] at this; exact this)
    obtain ⟨g0, g1, g2, _⟩ := H6.out.cells
    clear ez H5 b0 b1 b2 b3 b4 b5 b6 b7 d0 d1 d2 d3 d4 d5 d6 d7
    go_wp2_with (go_at_call 14; (with_reducible refine (UN.out _ _ _ _ _ H6.out).mono ?_); rintro e w7 ⟨rfl, h7⟩; have H7 := Lib.hid h7; clear h7)
    go_ret
    refine ⟨rfl, ?_⟩
    have h7 := H7.out
    rw [EU.out] at h7 ⊢
    exact h7
end
end Go.Proofs.YtfloleflcoiidaaGreatDoor.sw
