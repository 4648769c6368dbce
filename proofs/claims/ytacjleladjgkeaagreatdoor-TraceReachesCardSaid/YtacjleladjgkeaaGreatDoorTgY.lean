/- Joined: TgG, TgH. -/
import Derived.Test.YtacjleladjgkeaaGreatDoorTgX
/- The plain grey's calls: Push, Pop, Black, Shade. -/
namespace Go.Proofs.YtacjleladjgkeaaGreatDoor.sh
open Go.ChangeShapes Go.WideShapes Go.ChangeAt Go.RowKit gen li en gr
set_option linter.unusedVariables false
set_option maxHeartbeats 4000000
set_option maxRecDepth 100000
variable {pp : Int}
section
variable {w w' W : World} {M r : Nat} {J L : List Nat} {s : Ps} {v : Value} {x1 x2 : Int}
theorem rPush_yes (h : Bk pp w J M r s) (hm : s.m.length < r) (x1 x2 : Int) : Calls Tryz.prog 68 #[.pointer (some ⟨M, 0, none⟩), .agg #[.int .i64 x1, .int .i64 x2]] w (Ba pp J M r (.bool true) (s.push r (x1, x2)) w) := by
  rw [Ps.push_yes hm]
  obtain ⟨v, h, rfl⟩ := h
  obtain ⟨A, n, c, e, hn, _, _⟩ := h.li.shape
  have c1 := h.c1
  have c0 := h.c0
  have z0 := h.free 2048
  have hi := h.hi
  have OWN := Lib.hid (fun W (hg : w.grownBy W none) => h.li.new hg)
  have GS := Lib.hid (fun X W (gr : World.grownBy X W v.ownBlock) (gg : w.grownBy X none) => li.grown_then gg gr)
  have GL := Lib.hid (fun (X : World) (q : Nat) (li : v.ownBlock = some q ∨ X.heap.size ≤ q) (gg : w.grownBy X none) => (show v.ownBlock = some q ∨ w.heap.size ≤ q from li.elim .inl (fun h => .inr (Nat.le_trans gg.size h))))
  have HP := Lib.hid (fun W v2 (hl : rn.Lv W 0 v2 (s.m ++ [(x1, x2)])) (hg : w.grownBy W v.ownBlock) hv => h.put_list hg hl hv (by simp; omega))
  have FR := Lib.hid (fun W (hg : w.grownBy W v.ownBlock) => (⟨hg.cell h.c0 (Ne.symm h.off), (hg.frozen_far ⟨M, 2048, none⟩ h.lt (Ne.symm h.off)).trans (h.free 2048), Nat.lt_of_lt_of_le h.lt hg.size⟩ : W.cell? ⟨M, 2048, none⟩ = some v ∧ W.frozen? ⟨M, 2048, none⟩ = false ∧ M < W.heap.size))
  have glt := h.lt
  subst e
  have HN := Lib.hid hn
  have HM := Lib.hid hm
  rw [← hn] at hm
  clear h hn
  go_enter Tryz.func68, Tryz.ntmps68
  go_wp2
  go_quiet (fail)
  go_wp2
  go_region_law
    ((refine step_append_rn (by rfl) (.tmp 22) (.tmp 24) (by rfl) 0 (.slice A n c) s.m (by rfl) (OWN.out _ (by first | exact (World.grownBy_alloc _ _ _).trans (World.grownBy_alloc _ _ _) | exact (World.grownBy_alloc _ _ _).trans ((grown_drew _ _).trans (World.grownBy_alloc _ _ _)) | exact (World.grownBy_alloc _ _ _).trans ((li.grown_drewN _ _ _).trans (World.grownBy_alloc _ _ _)))) _ x1 x2 (by rfl) (by go_simp) (by go_simp) (by have := HN.out; have := HM.out; omega) (Nat.zero_le _) ?_; intro g3 N3 c3 w1 hn3 own1 gr1 li1; have G1 := Lib.hid (GS.out _ _ gr1 (by first | exact (World.grownBy_alloc _ _ _).trans (World.grownBy_alloc _ _ _) | exact (World.grownBy_alloc _ _ _).trans ((grown_drew _ _).trans (World.grownBy_alloc _ _ _)) | exact (World.grownBy_alloc _ _ _).trans ((li.grown_drewN _ _ _).trans (World.grownBy_alloc _ _ _)))); have HN3 := Lib.hid hn3; have O1 := Lib.hid own1; have L1 := Lib.hid (GL.out _ _ li1 (by first | exact (World.grownBy_alloc _ _ _).trans (World.grownBy_alloc _ _ _) | exact (World.grownBy_alloc _ _ _).trans ((grown_drew _ _).trans (World.grownBy_alloc _ _ _)) | exact (World.grownBy_alloc _ _ _).trans ((li.grown_drewN _ _ _).trans (World.grownBy_alloc _ _ _)))); obtain ⟨b0, b1, b2⟩ := FR.out _ G1.out; clear hn3 own1 gr1 li1))
  all_goals go_wp2
  all_goals go_ret
  all_goals
    obtain ⟨p1, p2, p3⟩ := HP.out w1 (.slice (some ⟨g3, 0, none⟩) N3 c3) (by rw [HN3.out] at *; exact O1.out) G1.out (fun q e => by injection e with e; subst e; exact L1.out)
    exact ⟨rfl, _, p2, ⟨_, p1, rfl⟩, p3⟩
theorem rPush_no (h : Bk pp w J M r s) (hm : ¬ s.m.length < r) (x1 x2 : Int) : Calls Tryz.prog 68 #[.pointer (some ⟨M, 0, none⟩), .agg #[.int .i64 x1, .int .i64 x2]] w (Ba pp J M r (.bool false) (s.push r (x1, x2)) w) := by
  rw [Ps.push_no hm]
  obtain ⟨v, h, rfl⟩ := h
  obtain ⟨A, n, c, e, hn, _, _⟩ := h.li.shape
  have G0 := Lib.hid (World.grownBy_alloc w (.cells #[.int .i64 x1, .int .i64 x2] 115) none)
  have FIN := Lib.hid (fun W (hg : w.grownBy W none) => (show ∃ J', (∀ q, q ∈ J' → q ∈ js M v ∨ w.heap.size ≤ q) ∧ Bk pp (W.setCell ⟨M, 2050, none⟩ (.bool true)) J' M r ⟨s.ws, s.m, true⟩ ∧ Gr (js M v) w (W.setCell ⟨M, 2050, none⟩ (.bool true)) from by
    obtain ⟨h1, h2⟩ := (h.new hg).put_over true
    exact ⟨_, fun q hq => .inl hq, ⟨v, h1, rfl⟩, (Gr.new hg).trans h2⟩))
  have FR := Lib.hid (fun W (hg : w.grownBy W none) => (⟨(h.new hg).c2, (h.new hg).free 2050, (h.new hg).lt⟩ : _ ∧ _ ∧ _))
  have c1 := h.c1
  have c0 := h.c0
  have hi := h.hi
  have glt := h.lt
  obtain ⟨e0, e1, e2⟩ := FR.out _ G0.out
  have hnr : ¬ n < r := by omega
  have hnr2 : r ≤ n := by omega
  have hn2 : n ≤ 256 := by have := h.fit; omega
  subst e
  clear h hn hm
  go_enter Tryz.func68, Tryz.ntmps68
  go_wp2
  go_quiet (fail)
  go_wp2
  go_ret
  exact ⟨rfl, FIN.out _ (by first | exact G0.out.trans (li.grown_drewN _ _ _) | exact G0.out.trans (grown_drew _ _) | exact G0.out)⟩
theorem rPush_any (h : Bk pp w J M r s) (x1 x2 : Int) : Calls Tryz.prog 68 #[.pointer (some ⟨M, 0, none⟩), .agg #[.int .i64 x1, .int .i64 x2]] w (Ba pp J M r (.bool (decide (s.m.length < r))) (s.push r (x1, x2)) w) := by
  by_cases hm : s.m.length < r
  · rw [decide_eq_true hm]
    exact rPush_yes h hm x1 x2
  · rw [decide_eq_false hm]
    exact rPush_no h hm x1 x2
/-! ### Black, Shade -/
theorem rBlack_any (h : Bk pp w J M r s) (z : Int) : Calls Tryz.prog 34 #[.pointer (some ⟨M, 0, none⟩), .int .i64 z] w (Ba pp J M r (.bool (newb s.ws z)) (s.black z) w) := by
  have hB := h
  obtain ⟨v, h, hJ⟩ := h
  rcases ways s.ws z with ⟨h1, _, h2, h5, _⟩ | ⟨i, rfl, hi, ⟨hb, _, h2, h5, _⟩ | ⟨hb, _, h2, h5, _⟩⟩
  · have FIN := Lib.hid (show Ba pp J M r (.bool (newb s.ws z)) (s.black z) w (.returned (.bool false)) w from ⟨by rw [h2], J, fun q hq => .inl hq, by unfold Ps.black; rw [h5]; exact hB, Gr.refl _ _⟩)
    clear h hB h2 h5 hJ
    by_cases hz : z < 0
    · clear h1
      go_enter Tryz.func34, Tryz.ntmps34
      go_wp2
      go_ret
      exact FIN.out
    · have hz2 : 2047 < z := by omega
      clear h1
      go_enter Tryz.func34, Tryz.ntmps34
      go_wp2
      go_ret
      exact FIN.out
  · have FIN := Lib.hid (show Ba pp J M r (.bool (newb s.ws i)) (s.black i) w (.returned (.bool false)) w from ⟨by rw [h2], J, fun q hq => .inl hq, by unfold Ps.black; rw [h5]; exact hB, Gr.refl _ _⟩)
    have c := h.mark hi
    rw [hb] at c
    have l1 : (0 : Int) ≤ (i : Int) := by omega
    have l2 : (i : Int) < 2048 := by omega
    clear h hB h2 h5 hJ
    go_enter Tryz.func34, Tryz.ntmps34
    go_wp2
    go_ret
    exact FIN.out
  · have FIN := Lib.hid (show Ba pp J M r (.bool (newb s.ws i)) (s.black i) w (.returned (.bool true)) (w.setCell ⟨M, i, none⟩ (.bool true)) from by
      subst hJ
      obtain ⟨p1, p2⟩ := h.put_mark hi (marks_put h.fi hi) (h.fi.put hi)
      exact ⟨by rw [h2], _, fun q hq => .inl hq, ⟨v, by unfold Ps.black; rw [h5]; exact p1, rfl⟩, p2⟩)
    have c := h.mark hi
    rw [hb] at c
    have z0 := h.free i
    have glt := h.lt
    have l1 : (0 : Int) ≤ (i : Int) := by omega
    have l2 : (i : Int) < 2048 := by omega
    clear h hB h2 h5 hJ
    go_enter Tryz.func34, Tryz.ntmps34
    go_wp2
    go_ret
    exact FIN.out
theorem bk_then {w2 w3 : World} {L2 : List Nat} {s2 : Ps} (hl : ∀ q, q ∈ L2 → q ∈ J ∨ w.heap.size ≤ q) (hg : Gr J w w2) (hp : ∃ J', (∀ q, q ∈ J' → q ∈ L2 ∨ w2.heap.size ≤ q) ∧ Bk pp w3 J' M r s2 ∧ Gr L2 w2 w3) :
    ∃ J', (∀ q, q ∈ J' → q ∈ J ∨ w.heap.size ≤ q) ∧ Bk pp w3 J' M r s2 ∧ Gr J w w3 := by
  obtain ⟨J', h1, h2, h3⟩ := hp
  exact ⟨J', fun q hq => (h1 q hq).elim (hl q) (fun e => .inr (Nat.le_trans hg.size e)), h2, hg.own h3 hl⟩
theorem rShade_any (h : Bk pp w J M r s) (z : Int) : Calls Tryz.prog 32 #[.pointer (some ⟨M, 0, none⟩), .int .i64 z] w (Ba pp J M r (.bool (newb s.ws z)) (s.shade r z) w) := by
  have X := Lib.hid (rBlack_any h z)
  cases hd : newb s.ws z with
  | false =>
    have FIN := Lib.hid (show s.shade r z = s.black z from by simp [Ps.shade, Ps.black, mkd, hd])
    rw [hd] at X
    clear h
    go_enter Tryz.func32, Tryz.ntmps32
    go_wp2_with (go_at_call 34; (with_reducible refine X.out.mono ?_); rintro e w2 ⟨rfl, hr⟩; have R2 := Lib.hid hr; clear hr)
    go_ret
    rw [FIN.out]
    exact ⟨rfl, R2.out⟩
  | true =>
    have FIN := Lib.hid (show s.shade r z = (s.black z).push r (z, 0) from by simp [Ps.shade, hd])
    rw [hd] at X
    clear h
    go_enter Tryz.func32, Tryz.ntmps32
    go_wp2_with (first
      | (go_at_call 68; (with_reducible refine (PU.out).mono ?_); rintro e w3 ⟨rfl, hr⟩; have R3 := Lib.hid hr; clear hr)
      | (go_at_call 34; (with_reducible refine X.out.mono ?_); rintro e w2 ⟨rfl, L2, hl, h2, hg⟩; have PU := Lib.hid ((rPush_any h2 z 0).mono (fun e w3 k => (⟨k.1, bk_then hl hg k.2⟩ : e = .returned (.bool (decide ((s.black z).m.length < r))) ∧ ∃ J', (∀ q, q ∈ J' → q ∈ J ∨ w.heap.size ≤ q) ∧ Bk pp w3 J' M r ((s.black z).push r (z, 0)) ∧ Gr J w w3))); clear hl h2 hg))
    go_ret
    rw [FIN.out]
    exact ⟨rfl, R3.out⟩
end
end Go.Proofs.YtacjleladjgkeaaGreatDoor.sh

/- The plain grey's Pop. -/
namespace Go.Proofs.YtacjleladjgkeaaGreatDoor.sh
open Go.ChangeShapes Go.WideShapes Go.ChangeAt Go.RowKit gen li en gr
set_option linter.unusedVariables false
set_option maxHeartbeats 4000000
set_option maxRecDepth 100000
variable {pp : Int}
section
variable {w w' W : World} {M r B : Nat} {J L : List Nat} {s : Ps} {v : Value} {x1 x2 : Int} {m : List Va} {b : Bool} {ws : List Nat}
/-- A boxed entry of the plain one. -/
def Ep (w : World) (B : Nat) (x1 x2 : Int) : Prop := w.heap[B]? = some (.cells #[.int .i64 x1, .int .i64 x2] 115 (0, 0))
theorem Ep.f (h : Ep w B x1 x2) : w.cell? ⟨B, 0, none⟩ = some (.int .i64 x1) ∧ w.cell? ⟨B, 1, none⟩ = some (.int .i64 x2) ∧ w.frozen? ⟨B, 0, none⟩ = false ∧ w.frozen? ⟨B, 1, none⟩ = false ∧ B < w.heap.size :=
  ⟨by rw [cell_of_row w B 0 _ _ _ h]; rfl, by rw [cell_of_row w B 1 _ _ _ h]; rfl, frozen_of_row w B 0 _ _ h, frozen_of_row w B 1 _ _ h, (Array.getElem?_eq_some_iff.1 h).1⟩
theorem Ep.gr (h : Ep w B x1 x2) (hg : Gr L w w') (hB : B ∉ L) : Ep w' B x1 x2 := hg.heap h hB
theorem Ep.new (h : Ep w B x1 x2) (hg : w.grownBy w' none) : Ep w' B x1 x2 := (Gr.new (L := []) hg).heap h (by simp)
theorem Ep.made (w : World) (x1 x2 : Int) : Ep (w.alloc (.cells #[.int .i64 x1, .int .i64 x2] 115)) w.heap.size x1 x2 := heap_alloc_new _ _
/-- An answer: an entry, and whether there is one. -/
abbrev vp (x : Va) (b : Bool) : Value := .tuple #[.agg #[.int .i64 x.1, .int .i64 x.2], .bool b]
theorem rPop_none (h : Bk pp w J M r ⟨ws, [], b⟩) : Calls Tryz.prog 70 #[.pointer (some ⟨M, 0, none⟩)] w (Ba pp J M r (vp (0, 0) false) ⟨ws, [], b⟩ w) := by
  have FIN := Lib.hid (fun W (hg : w.grownBy W none) => (show ∃ J', (∀ q, q ∈ J' → q ∈ J ∨ w.heap.size ≤ q) ∧ Bk pp W J' M r ⟨ws, [], b⟩ ∧ Gr J w W from ⟨J, fun q hq => .inl hq, h.new hg, Gr.new hg⟩))
  obtain ⟨v, h, _⟩ := h
  obtain ⟨A, n, c, e, hn, _, _⟩ := h.li.shape
  obtain rfl : n = 0 := hn
  have c0 := h.c0
  have glt := h.lt
  subst e
  have G0 := Lib.hid (World.grownBy_alloc w (.cells #[.int .i64 0, .int .i64 0] 115) none)
  clear h
  go_enter Tryz.func70, Tryz.ntmps70
  go_wp2
  have GR := sk.grown_two (w.alloc (.cells #[.int .i64 0, .int .i64 0] 115)) w.heap.size (.int .i64 0) (.int .i64 0)
  refine bodyPost_ret (v := vp (0, 0) false) ?_ rfl ⟨rfl, ?_⟩
  · simp [results, Tryz.results70, go_sem, *]
  · first | exact FIN.out _ (li.grown_new G0.out GR (Nat.le_refl _)) | exact FIN.out _ G0.out
theorem rPop_yes {x : Va} (h : Bk pp w J M r ⟨ws, m ++ [x], b⟩) : Calls Tryz.prog 70 #[.pointer (some ⟨M, 0, none⟩)] w (Ba pp J M r (vp x true) ⟨ws, m, b⟩ w) := by
  obtain ⟨v, h, rfl⟩ := h
  obtain ⟨p, hp⟩ : ∃ p, m.length = p := ⟨_, rfl⟩
  have hle := h.fit
  have hhi := h.hi
  have hlen : (m ++ [x]).length = p + 1 := by simp [hp]
  dsimp only at hle
  rw [hlen] at hle
  have hli := h.li
  dsimp only at hli
  obtain ⟨q, c, rfl, d0, d1, lq, lc, lm⟩ : ∃ q c, v = .slice (some ⟨q, 0, none⟩) (p + 1) c ∧ w.cell? ⟨q, p * 2, none⟩ = some (.int .i64 x.1) ∧ w.cell? ⟨q, p * 2 + 1, none⟩ = some (.int .i64 x.2) ∧ q < w.heap.size ∧ p + 1 ≤ c ∧ c ≤ maxLen := by
    obtain ⟨A, N, k, rfl, hN, h1, h2⟩ := hli.shape
    rw [hlen] at hN
    subst hN
    obtain ⟨b1, o1, e, g1, g2⟩ := (hli.rv hlen.symm).at_ (i := p) (by omega)
    rcases hli.2 with ⟨e2, _⟩ | ⟨q, cap, cur, e2, _, hq, _⟩
    · injection e2 with e2 _ _
      subst e2
      cases e
    · injection e2 with e2 _ e3
      subst e2 e3
      injection e with e
      injection e with e4 e5 _
      subst e4 e5
      have hx : (m ++ [x]).getD p (0, 0) = x := by rw [← hp]; simp
      rw [hx, Nat.zero_add] at g1 g2
      exact ⟨q, k, rfl, g1, g2, (Array.getElem?_eq_some_iff.1 hq).1, h1, h2⟩
  have c0 := h.c0
  have z0 := h.free 2048
  have glt := h.lt
  have hgq : ¬ (M = q) := fun e => h.off (by rw [e]; rfl)
  have hqg : ¬ (q = M) := fun e => hgq e.symm
  have hmp : (m ++ [x]).take p = m := by rw [← hp]; simp
  have RV := Lib.hid (fun W (hg : w.grownBy W none) => (show rn.Rv W w.heap.size (some ⟨q, 0, none⟩) p c m from by
    have := (hli.rv hlen.symm).made hg
    have := this.less (k := p) (c' := c) (by omega) (by omega) lm
    rwa [hmp] at this))
  obtain ⟨x1, x2⟩ := x
  have FIN := Lib.hid (fun (W W2 : World) (v2 : Value) (hg : w.grownBy W none) (hl : rn.Lv W (w.heap.size + 1) v2 m) (gr : (W.setCell ⟨M, 2048, none⟩ v2).grownBy W2 (some w.heap.size)) => (show ∃ J', (∀ q', q' ∈ J' → q' ∈ js M (.slice (some ⟨q, 0, none⟩) (p + 1) c) ∨ w.heap.size ≤ q') ∧ Bk pp W2 J' M r ⟨ws, m, b⟩ ∧ Gr (js M (.slice (some ⟨q, 0, none⟩) (p + 1) c)) w W2 from by
    obtain ⟨p1, p2, p3⟩ := h.put_list (grown_any hg) (hl.mono (Nat.zero_le _)) (fun q' e => .inr (by have := hl.from_ q' e; omega)) (by omega)
    exact ⟨_, p2, ⟨v2, p1.gr (Gr.one (L := [w.heap.size]) gr (by simp)) (by have := h.lt; simp; omega) (fun q' e h2 => by have := hl.from_ q' e; simp at h2; omega), rfl⟩, sk.gr_aside p3 gr (Nat.le_refl _)⟩))
  have F0 := Lib.hid (fun W (hg : (w.alloc (.cells #[.int .i64 0, .int .i64 0] 115)).grownBy W none) => (Ep.new (Ep.made w 0 0) hg).f)
  dsimp only at d0 d1
  unfold maxLen at lm
  clear h hli hp hlen hmp
  have l1 : (0 : Int) ≤ (p : Int) := by omega
  have l2 : p < p + 1 := by omega
  go_enter Tryz.func70, Tryz.ntmps70
  go_wp2_with (refine rn.append_vas rfl (.tmp 23) (.tmp 30) rfl (w.heap.size + 1) _ [] rfl (rn.Lv.nil _ _) (some ⟨q, 0, none⟩) p c w.heap.size m rfl (fun e => by cases e) (RV.out _ ((World.grownBy_alloc _ _ _).trans (World.grownBy_alloc _ _ _))) (by simp; omega) (by simp) ?_; intro A3 N3 c3 w2 hn3 hl3 hg3; have L3 := Lib.hid hl3; have GB := World.grownBy_alloc (w.alloc (.cells #[.int .i64 0, .int .i64 0] 115)) (.cells #[.int .i64 x1, .int .i64 x2] 115) none; obtain ⟨a0, a1, a2, a3, a4⟩ := F0.out _ (GB.trans hg3); have e1 := Ep.new (Ep.made (w.alloc (.cells #[.int .i64 0, .int .i64 0] 115)) x1 x2) hg3; rw [show (w.alloc (.cells #[.int .i64 0, .int .i64 0] 115)).heap.size = w.heap.size + 1 by simp] at e1; obtain ⟨e0, e1, _, _, e4⟩ := e1.f; have G3 := Lib.hid (((World.grownBy_alloc w (.cells #[.int .i64 0, .int .i64 0] 115) none).trans GB).trans hg3); have c0 := G3.out.cell c0 (by simp); have z0 : w2.frozen? ⟨M, 2048, none⟩ = false := (G3.out.frozen_far ⟨M, 2048, none⟩ glt (by simp)).trans z0; have glt2 : M < w2.heap.size := Nat.lt_of_lt_of_le glt G3.out.size; clear hn3 hl3 hg3 GB)
  have n1 : ¬ (M = w.heap.size) := by omega
  have GR := sk.grown_two (w2.setCell ⟨M, 2048, none⟩ (.slice A3 N3 c3)) w.heap.size (.int .i64 x1) (.int .i64 x2)
  refine bodyPost_ret (v := vp (x1, x2) true) ?_ rfl ⟨rfl, ?_⟩
  · simp [results, Tryz.results70, go_sem, *]
  · exact FIN.out _ _ _ G3.out L3.out GR
theorem rPop_any (h : Bk pp w J M r s) : Calls Tryz.prog 70 #[.pointer (some ⟨M, 0, none⟩)] w (Ba pp J M r (vp (top s.m) (decide (s.m ≠ []))) s.pop w) := by
  obtain ⟨ws, m, b⟩ := s
  by_cases hm : m = []
  · subst hm
    exact rPop_none h
  · unfold Ps.pop
    dsimp only
    rw [decide_eq_true hm]
    exact rPop_yes (x := top m) (m := m.dropLast) (by rw [dropLast_top hm]; exact h)
end
end Go.Proofs.YtacjleladjgkeaaGreatDoor.sh
