/- The plain grey's calls: Push, Pop, Black, Shade. -/
import Derived.Test.YtokjpibaaioehaaDoorShF
namespace Go.Proofs.YtokjpibaaioehaaDoor.sh
open Go.ChangeShapes Go.WideShapes Go.ChangeAt Go.RowKit gen li en gr
set_option linter.unusedVariables false
set_option maxHeartbeats 4000000
set_option maxRecDepth 100000
section
variable {w w' W : World} {M r : Nat} {J L : List Nat} {s : Ps} {v : Value} {x1 x2 : Int}
theorem rPush_yes (h : Bk w J M r s) (hm : s.m.length < r) (x1 x2 : Int) : Calls Tryd.prog 29 #[.pointer (some ⟨M, 0, none⟩), .agg #[.int .i64 x1, .int .i64 x2]] w (Ba J M r (.bool true) (s.push r (x1, x2)) w) := by
  rw [Ps.push_yes hm]
  obtain ⟨v, h, rfl⟩ := h
  obtain ⟨A, n, c, e, hn, _, _⟩ := h.li.shape
  have c1 := h.c1
  have c0 := h.c0
  have z0 := h.free 2048
  have hi := h.hi
  have OWN := Lib.hid (fun W (hg : w.grownBy W none) => h.li.new hg)
  have GS := Lib.hid (fun X W (gr : World.grownBy X W v.ownBlock) (gg : w.grownBy X none) => li.grown_then gg gr)
  have GL := Lib.hid (fun (X : World) (q : Nat) (li : v.ownBlock = some q ∨ X.heap.size ≤ q) (gg : w.grownBy X none) => (show v.ownBlock = some q ∨ w.heap.size ≤ q from li.elim .inl (fun h => .inr (Nat.le_trans gg.size h))))
  have HP := Lib.hid (fun W v2 (hl : rn.Lv W 0 v2 (s.m ++ [(x1, x2)])) (hg : w.grownBy W v.ownBlock) hv => h.put_list hg hl hv (by simp; omega))
  have FR := Lib.hid (fun W (hg : w.grownBy W v.ownBlock) => (⟨hg.cell h.c0 (Ne.symm h.off), (hg.frozen_far ⟨M, 2048, none⟩ h.lt (Ne.symm h.off)).trans (h.free 2048), Nat.lt_of_lt_of_le h.lt hg.size⟩ : W.cell? ⟨M, 2048, none⟩ = some v ∧ W.frozen? ⟨M, 2048, none⟩ = false ∧ M < W.heap.size))
  have glt := h.lt
  subst e
  have HN := Lib.hid hn
  have HM := Lib.hid hm
  rw [← hn] at hm
  clear h hn
  go_enter Tryd.func29, Tryd.ntmps29
  go_wp2
  go_quiet (fail)
  go_wp2
  go_region_law
    ((refine step_append_rn (by rfl) (.tmp 22) (.tmp 24) (by rfl) 0 (.slice A n c) s.m (by rfl) (OWN.out _ (by first | exact (World.grownBy_alloc _ _ _).trans (World.grownBy_alloc _ _ _) | exact (World.grownBy_alloc _ _ _).trans ((grown_drew _ _).trans (World.grownBy_alloc _ _ _)) | exact (World.grownBy_alloc _ _ _).trans ((li.grown_drewN _ _ _).trans (World.grownBy_alloc _ _ _)))) _ x1 x2 (by rfl) (by go_simp) (by go_simp) (by have := HN.out; have := HM.out; omega) (Nat.zero_le _) ?_; intro g3 N3 c3 w1 hn3 own1 gr1 li1; have G1 := Lib.hid (GS.out _ _ gr1 (by first | exact (World.grownBy_alloc _ _ _).trans (World.grownBy_alloc _ _ _) | exact (World.grownBy_alloc _ _ _).trans ((grown_drew _ _).trans (World.grownBy_alloc _ _ _)) | exact (World.grownBy_alloc _ _ _).trans ((li.grown_drewN _ _ _).trans (World.grownBy_alloc _ _ _)))); have HN3 := Lib.hid hn3; have O1 := Lib.hid own1; have L1 := Lib.hid (GL.out _ _ li1 (by first | exact (World.grownBy_alloc _ _ _).trans (World.grownBy_alloc _ _ _) | exact (World.grownBy_alloc _ _ _).trans ((grown_drew _ _).trans (World.grownBy_alloc _ _ _)) | exact (World.grownBy_alloc _ _ _).trans ((li.grown_drewN _ _ _).trans (World.grownBy_alloc _ _ _)))); obtain ⟨b0, b1, b2⟩ := FR.out _ G1.out; clear hn3 own1 gr1 li1))
  all_goals go_wp2
  all_goals go_ret
  all_goals
    obtain ⟨p1, p2, p3⟩ := HP.out w1 (.slice (some ⟨g3, 0, none⟩) N3 c3) (by rw [HN3.out] at *; exact O1.out) G1.out (fun q e => by injection e with e; subst e; exact L1.out)
    exact ⟨rfl, _, p2, ⟨_, p1, rfl⟩, p3⟩
theorem rPush_no (h : Bk w J M r s) (hm : ¬ s.m.length < r) (x1 x2 : Int) : Calls Tryd.prog 29 #[.pointer (some ⟨M, 0, none⟩), .agg #[.int .i64 x1, .int .i64 x2]] w (Ba J M r (.bool false) (s.push r (x1, x2)) w) := by
  rw [Ps.push_no hm]
  obtain ⟨v, h, rfl⟩ := h
  obtain ⟨A, n, c, e, hn, _, _⟩ := h.li.shape
  have G0 := Lib.hid (World.grownBy_alloc w (.cells #[.int .i64 x1, .int .i64 x2] 58) none)
  have FIN := Lib.hid (fun W (hg : w.grownBy W none) => (show ∃ J', (∀ q, q ∈ J' → q ∈ js M v ∨ w.heap.size ≤ q) ∧ Bk (W.setCell ⟨M, 2050, none⟩ (.bool true)) J' M r ⟨s.ws, s.m, true⟩ ∧ Gr (js M v) w (W.setCell ⟨M, 2050, none⟩ (.bool true)) from by
    obtain ⟨h1, h2⟩ := (h.new hg).put_over true
    exact ⟨_, fun q hq => .inl hq, ⟨v, h1, rfl⟩, (Gr.new hg).trans h2⟩))
  have FR := Lib.hid (fun W (hg : w.grownBy W none) => (⟨(h.new hg).c2, (h.new hg).free 2050, (h.new hg).lt⟩ : _ ∧ _ ∧ _))
  have c1 := h.c1
  have c0 := h.c0
  have hi := h.hi
  have glt := h.lt
  obtain ⟨e0, e1, e2⟩ := FR.out _ G0.out
  have hnr : ¬ n < r := by omega
  have hnr2 : r ≤ n := by omega
  have hn2 : n ≤ 256 := by have := h.fit; omega
  subst e
  clear h hn hm
  go_enter Tryd.func29, Tryd.ntmps29
  go_wp2
  go_quiet (fail)
  go_wp2
  go_ret
  exact ⟨rfl, FIN.out _ (by first | exact G0.out.trans (li.grown_drewN _ _ _) | exact G0.out.trans (grown_drew _ _) | exact G0.out)⟩
theorem rPush_any (h : Bk w J M r s) (x1 x2 : Int) : Calls Tryd.prog 29 #[.pointer (some ⟨M, 0, none⟩), .agg #[.int .i64 x1, .int .i64 x2]] w (Ba J M r (.bool (decide (s.m.length < r))) (s.push r (x1, x2)) w) := by
  by_cases hm : s.m.length < r
  · rw [decide_eq_true hm]
    exact rPush_yes h hm x1 x2
  · rw [decide_eq_false hm]
    exact rPush_no h hm x1 x2
/-! ### Black, Shade -/
theorem rBlack_any (h : Bk w J M r s) (z : Int) : Calls Tryd.prog 27 #[.pointer (some ⟨M, 0, none⟩), .int .i64 z] w (Ba J M r (.bool (newb s.ws z)) (s.black z) w) := by
  have hB := h
  obtain ⟨v, h, hJ⟩ := h
  rcases ways s.ws z with ⟨h1, _, h2, h5, _⟩ | ⟨i, rfl, hi, ⟨hb, _, h2, h5, _⟩ | ⟨hb, _, h2, h5, _⟩⟩
  · have FIN := Lib.hid (show Ba J M r (.bool (newb s.ws z)) (s.black z) w (.returned (.bool false)) w from ⟨by rw [h2], J, fun q hq => .inl hq, by unfold Ps.black; rw [h5]; exact hB, Gr.refl _ _⟩)
    clear h hB h2 h5 hJ
    by_cases hz : z < 0
    · clear h1
      go_enter Tryd.func27, Tryd.ntmps27
      go_wp2
      go_ret
      exact FIN.out
    · have hz2 : 2047 < z := by omega
      clear h1
      go_enter Tryd.func27, Tryd.ntmps27
      go_wp2
      go_ret
      exact FIN.out
  · have FIN := Lib.hid (show Ba J M r (.bool (newb s.ws i)) (s.black i) w (.returned (.bool false)) w from ⟨by rw [h2], J, fun q hq => .inl hq, by unfold Ps.black; rw [h5]; exact hB, Gr.refl _ _⟩)
    have c := h.mark hi
    rw [hb] at c
    have l1 : (0 : Int) ≤ (i : Int) := by omega
    have l2 : (i : Int) < 2048 := by omega
    clear h hB h2 h5 hJ
    go_enter Tryd.func27, Tryd.ntmps27
    go_wp2
    go_ret
    exact FIN.out
  · have FIN := Lib.hid (show Ba J M r (.bool (newb s.ws i)) (s.black i) w (.returned (.bool true)) (w.setCell ⟨M, i, none⟩ (.bool true)) from by
      subst hJ
      obtain ⟨p1, p2⟩ := h.put_mark hi (marks_put h.fi hi) (h.fi.put hi)
      exact ⟨by rw [h2], _, fun q hq => .inl hq, ⟨v, by unfold Ps.black; rw [h5]; exact p1, rfl⟩, p2⟩)
    have c := h.mark hi
    rw [hb] at c
    have z0 := h.free i
    have glt := h.lt
    have l1 : (0 : Int) ≤ (i : Int) := by omega
    have l2 : (i : Int) < 2048 := by omega
    clear h hB h2 h5 hJ
    go_enter Tryd.func27, Tryd.ntmps27
    go_wp2
    go_ret
    exact FIN.out
theorem bk_then {w2 w3 : World} {L2 : List Nat} {s2 : Ps} (hl : ∀ q, q ∈ L2 → q ∈ J ∨ w.heap.size ≤ q) (hg : Gr J w w2) (hp : ∃ J', (∀ q, q ∈ J' → q ∈ L2 ∨ w2.heap.size ≤ q) ∧ Bk w3 J' M r s2 ∧ Gr L2 w2 w3) :
    ∃ J', (∀ q, q ∈ J' → q ∈ J ∨ w.heap.size ≤ q) ∧ Bk w3 J' M r s2 ∧ Gr J w w3 := by
  obtain ⟨J', h1, h2, h3⟩ := hp
  exact ⟨J', fun q hq => (h1 q hq).elim (hl q) (fun e => .inr (Nat.le_trans hg.size e)), h2, hg.own h3 hl⟩
theorem rShade_any (h : Bk w J M r s) (z : Int) : Calls Tryd.prog 26 #[.pointer (some ⟨M, 0, none⟩), .int .i64 z] w (Ba J M r (.bool (newb s.ws z)) (s.shade r z) w) := by
  have X := Lib.hid (rBlack_any h z)
  cases hd : newb s.ws z with
  | false =>
    have FIN := Lib.hid (show s.shade r z = s.black z from by simp [Ps.shade, Ps.black, mkd, hd])
    rw [hd] at X
    clear h
    go_enter Tryd.func26, Tryd.ntmps26
    go_wp2_with (go_at_call 27; (with_reducible refine X.out.mono ?_); rintro e w2 ⟨rfl, hr⟩; have R2 := Lib.hid hr; clear hr)
    go_ret
    rw [FIN.out]
    exact ⟨rfl, R2.out⟩
  | true =>
    have FIN := Lib.hid (show s.shade r z = (s.black z).push r (z, 0) from by simp [Ps.shade, hd])
    rw [hd] at X
    clear h
    go_enter Tryd.func26, Tryd.ntmps26
    go_wp2_with (first
      | (go_at_call 29; (with_reducible refine (PU.out).mono ?_); rintro e w3 ⟨rfl, hr⟩; have R3 := Lib.hid hr; clear hr)
      | (go_at_call 27; (with_reducible refine X.out.mono ?_); rintro e w2 ⟨rfl, L2, hl, h2, hg⟩; have PU := Lib.hid ((rPush_any h2 z 0).mono (fun e w3 k => (⟨k.1, bk_then hl hg k.2⟩ : e = .returned (.bool (decide ((s.black z).m.length < r))) ∧ ∃ J', (∀ q, q ∈ J' → q ∈ J ∨ w.heap.size ≤ q) ∧ Bk w3 J' M r ((s.black z).push r (z, 0)) ∧ Gr J w w3))); clear hl h2 hg))
    go_ret
    rw [FIN.out]
    exact ⟨rfl, R3.out⟩
end
end Go.Proofs.YtokjpibaaioehaaDoor.sh
