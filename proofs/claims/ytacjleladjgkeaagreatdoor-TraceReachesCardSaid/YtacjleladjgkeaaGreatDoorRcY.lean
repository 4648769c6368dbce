/- Joined: TrS, TrZ. -/
import Derived.Test.YtacjleladjgkeaaGreatDoorRcX
import Derived.Test.YtacjleladjgkeaaGreatDoorTrU
import Derived.Test.YtacjleladjgkeaaGreatDoorTrY
/- What no address leads to: the statement's own walk; a unit, with what holds of marks. -/
namespace Go.Proofs.YtacjleladjgkeaaGreatDoor.rc
open Go.ChangeShapes Go.WideShapes Go.ChangeAt Go.RowKit gen calls cls geos ce st sh
set_option linter.unusedVariables false
set_option maxHeartbeats 16000000
set_option maxRecDepth 100000
theorem closure_nil {w : World} {H : Nat} :
    Calls Tryz.prog 17 #[.pointer (some ⟨H, 0, none⟩), .slice none 0 0] w fun e w' => ∃ A' c', e = .returned (.slice A' 0 c') ∧ Rd w' w'.heap.size A' 0 c' [] ∧ w.grownBy w' none := by
  obtain ⟨i0, hi, hz0, hz1, hz2⟩ := info_parts li.info_int
  have E : Hid (i0.zero = some (.int .i64 0) ∧ i0.size = 1 ∧ i0.bytes = 8 ∧ Tryz.prog.info? 3 = some i0) := ⟨hz0, hz1, hz2, hi⟩
  have G1 := Lib.hid (World.grownBy_alloc w (.cells #[] 3) none)
  clear hi hz0 hz1 hz2
  go_enter Tryz.func17, Tryz.ntmps17
  go_wp2
  go_loopw [5, 6, 7] (fun vo vn i wr => i = .int .i64 0 ∧ vo = .slice none 0 0 ∧ vn = .slice (some ⟨w.heap.size, 0, none⟩) 0 0 ∧ w.grownBy wr none) (fun _ _ _ _ => 0)
  case atStart => exact ⟨rfl, rfl, rfl, G1.out⟩
  case round =>
    obtain ⟨rfl, rfl, rfl, hg⟩ := hrel
    have GG := Lib.hid hg
    have RO := Lib.hid (show Rd wr wr.heap.size none 0 0 [] from ⟨rfl, fun _ => ⟨rfl, rfl⟩, fun ad e => by cases e⟩)
    clear hg
    go_wp2_with (go_at_call 47; (with_reducible refine (bm.Rising_any (B := 0) (by omega) RO.out).mono ?_); rintro e w7 ⟨A7, c7, rfl, own7, gr7⟩; have R7 := Lib.hid (bm.rd_own own7); have G7 := Lib.hid (GG.out.trans gr7); clear own7 gr7)
    go_ret
    exact ⟨A7, c7, rfl, R7.out, G7.out⟩
/-- What holds while units go on. -/
structure Un (x : Hs) (sh : List Int) (r N : Nat) (s : Ps) (p : Int) : Prop where
  i : In x.tk (tc.fls x) (Rc (tc.fls x) sh) r s
  c : Cl (tc.fls x) s p
  d : ∀ a ∈ sh, isb s.ws a = true
section
variable {x : Hs} {sh : List Int} {r N c : Nat} {s s' : Ps} {p : Int}
theorem Un.start : Un x [] r N none0 p := ⟨in0, cl0, fun a h => by cases h⟩
/-- More is to be reached. -/
theorem Rc.more {fl : Int → List Va} {z a : Int} (h : Rc fl sh a) : Rc fl (sh ++ [z]) a := fun S h1 h2 => h S (fun b hb => h1 b (by simp [hb])) h2
/-- An object is shaded. -/
theorem Un.shade (h : Un x sh r N s p) (G : Gd x.tk (tc.fls x) N) {z : Int} (hz : z ∈ x.tk) : Un x (sh ++ [z]) r N (s.shade r z) p ∧ W x.tk (tc.fls x) N (s.shade r z) ≤ W x.tk (tc.fls x) N s := by
  have h1 : In x.tk (tc.fls x) (Rc (tc.fls x) (sh ++ [z])) r s := ⟨h.i.fi, fun a ha => ⟨(h.i.mr a ha).1, (h.i.mr a ha).2.more⟩, h.i.en, h.i.ln⟩
  obtain ⟨b1, b2, b3, b4⟩ := shade_in G h1 hz (Rc.at_ (by simp))
  refine ⟨⟨b1, h.c.adv b2, fun a ha => ?_⟩, b4⟩
  rcases List.mem_append.1 ha with ha | ha
  · exact b2.mr a (h.d a ha)
  · rw [List.mem_singleton.1 ha]; exact b3
/-- A unit, and then. -/
theorem Un.unit (h : Un x sh r N s p) (G : Gd x.tk (tc.fls x) N) (hc : 1 ≤ c) (hN : 1 ≤ N) (hp : -1 ≤ p ∧ p < N) (hi : tc.Ts.idle ⟨s, p⟩ = false) {z : tc.Ts} (hz : z = tc.Ts.unit r N c (tc.flo x) (tc.inp x) ⟨s, p⟩) :
    Un x sh r N z.s z.p ∧ W x.tk (tc.fls x) N z.s + tc.left N z.p + 1 ≤ W x.tk (tc.fls x) N s + tc.left N p := by
  obtain ⟨b1, b2, b3, b4⟩ := unit_in (F := tc.flo x) (c := c) G (Rc.cd sh) hc hN (fun a ha => flo_at ha) (u := ⟨s, p⟩) h.i h.c hp hi (z := z) hz
  exact ⟨⟨b1, b2, fun a ha => b4 a (h.d a ha)⟩, b3⟩
/-- Behind all units. -/
theorem Un.marks (h : Un x sh r N s p) (hi : tc.Ts.idle ⟨s, p⟩ = true) : bm.nums s.ws = bm.rising (bm.nums s.ws) ∧ ∀ a, a ∈ bm.nums s.ws ↔ Rc (tc.fls x) sh a := by
  have hm : ∀ a, a ∈ bm.nums s.ws ↔ isb s.ws a = true := fun a => by
    rw [bm.mem_nums h.i.fi]
    unfold isb
    simp only [Bool.and_eq_true, decide_eq_true_eq]
    constructor
    · rintro ⟨h1, h2⟩
      have h3 := h.i.fi.2.2.1 _ h2
      exact ⟨⟨h1, by omega⟩, h2⟩
    · rintro ⟨⟨h1, h2⟩, h3⟩
      exact ⟨h1, h3⟩
  refine ⟨bm.up_eq (bm.nums_up _) (bm.rising_up _) fun a => by rw [bm.mem_rising], fun a => ?_⟩
  rw [hm a]
  exact idle_marks (u := ⟨s, p⟩) h.i h.c hi h.d a
end
end Go.Proofs.YtacjleladjgkeaaGreatDoor.rc

/- Behind all units just what can be reached is marked. -/
namespace Go.Proofs.YtacjleladjgkeaaGreatDoor.tr
open Go.ChangeShapes Go.WideShapes Go.ChangeAt Go.RowKit gen calls cls geos ce st sh
set_option linter.unusedVariables false
set_option maxHeartbeats 16000000
set_option maxRecDepth 100000
/-- What stands while addresses are shaded, and units go on: the plain heap is the program's; the plain grey is as it was made. -/
def Rz (w0 : World) (B : Nat) (I : Ids) (g r t N c H M : Nat) (x : Hs) (s : Ps) (p : Int) (W : World) : Prop :=
  (∃ L K J, Wp w0 W B I x L g r s t N c (tc.left N p) K H (ph.toq x) J M none0 (-1)) ∧ (-1 ≤ p ∧ p < N)
section
variable {w0 W W' : World} {B : Nat} {I : Ids} {x x' : Hs} {g r t N c H M : Nat} {s s' : Ps} {p p' : Int}
theorem Rz.new (h : Rz w0 B I g r t N c H M x s p W) (hg : W.grownBy W' none) : Rz w0 B I g r t N c H M x s p W' := by
  obtain ⟨⟨L, K, J, h1⟩, h2⟩ := h
  exact ⟨⟨L, K, J, h1.new hg⟩, h2⟩
theorem Rz.grown (h : Rz w0 B I g r t N c H M x s p W) : w0.grownBy W none := by
  obtain ⟨⟨L, K, J, h1⟩, h2⟩ := h
  exact h1.gr
theorem Rz.cells (h : Rz w0 B I g r t N c H M x s p W) : W.cell? ⟨B, 0, none⟩ = some (.pointer (some ⟨I.S, 0, none⟩)) ∧ W.cell? ⟨B, 1, none⟩ = some (.pointer (some ⟨g, 0, none⟩)) ∧ W.cell? ⟨B, 2, none⟩ = some (.pointer (some ⟨t, 0, none⟩)) ∧ W.cell? ⟨B, 3, none⟩ = some (.pointer (some ⟨H, 0, none⟩)) ∧ W.cell? ⟨B, 4, none⟩ = some (.pointer (some ⟨M, 0, none⟩)) ∧ W.cell? ⟨B, 5, none⟩ = some (.int .i64 N) ∧ W.cell? ⟨B, 6, none⟩ = some (.int .i64 c) := by
  obtain ⟨⟨L, K, J, h1⟩, h2⟩ := h
  exact h1.cells
/-- Rows of the law's own, below the world's blocks' sizes, stay. -/
theorem Rz.iv (h : Rz w0 B I g r t N c H M x s p W) : Iv x ∧ x.tk.length ≤ 2048 := by
  obtain ⟨⟨L, K, J, h1⟩, h2⟩ := h
  exact ⟨h1.tw.iv, tk_len h1.tw.sr⟩
theorem Rz.pick (h : Rz w0 B I g r t N c H M x s p W) (i : Int) : Calls Tryz.prog 12 #[.pointer (some ⟨H, 0, none⟩), .int .i64 i] W fun e w' => (∃ a, e = .returned (.int .i64 a) ∧ (a = -1 ∨ a ∈ x.tk)) ∧ W.grownBy w' none := by
  have hl := h.iv.2
  obtain ⟨⟨L, K, J, h1⟩, h2⟩ := h
  refine (pick_any h1.gp.pl (by show (ph.obs x).length ≤ 4096; unfold ph.obs; rw [List.length_map]; omega) i).mono fun e w' ⟨⟨a, k1, k2⟩, k3⟩ => ⟨⟨a, k1, k2.imp id ?_⟩, k3⟩
  rintro ⟨o, ho, rfl⟩
  exact ph.obs_at ho
/-- The world's size at the beginning of units: all of its blocks are from w0's on; the list's block is apart from them. -/
def Fr (w0 : World) (B : Nat) (I : Ids) (g r t N c H M : Nat) (x : Hs) (s : Ps) (p : Int) (b : Option Nat) (W : World) : Prop :=
  (∃ L K J, Wp w0 W B I x L g r s t N c (tc.left N p) K H (ph.toq x) J M none0 (-1) ∧ ∀ q, b = some q → q ∉ I.all ∧ q ∉ t :: L ∧ q < W.heap.size ∧ q ∉ K ∧ q ∉ J ∧ q ≠ B) ∧ (-1 ≤ p ∧ p < N)
theorem Fr.rz {b : Option Nat} (h : Fr w0 B I g r t N c H M x s p b W) : Rz w0 B I g r t N c H M x s p W := by
  obtain ⟨⟨L, K, J, h1, _⟩, h2⟩ := h
  exact ⟨⟨L, K, J, h1⟩, h2⟩
theorem Fr.new {b : Option Nat} (h : Fr w0 B I g r t N c H M x s p b W) (hg : W.grownBy W' none) : Fr w0 B I g r t N c H M x s p b W' := by
  obtain ⟨⟨L, K, J, h1, h3⟩, h2⟩ := h
  exact ⟨⟨L, K, J, h1.new hg, fun q hq => ⟨(h3 q hq).1, (h3 q hq).2.1, Nat.lt_of_lt_of_le (h3 q hq).2.2.1 hg.size, (h3 q hq).2.2.2⟩⟩, h2⟩
theorem row_own {B0 k : Nat} {v : Value} {xs : List Value} {ty : TypeId} {X : List Nat} (h : W.ownsRow B0 ty 1 v k xs) (hg : Gr X W W') (hX : ∀ q, v.ownBlock = some q → q ∉ X) : W'.ownsRow B0 ty 1 v k xs := ph.row_gr h hg hX
/-- An object is shaded. -/
theorem Fr.shade {B0 k : Nat} {v : Value} {xs : List Value} {ty : TypeId} (h : Fr w0 B I g r t N c H M x s p v.ownBlock W) (ho : W.ownsRow B0 ty 1 v k xs) (z : Int) :
    Calls Tryz.prog 13 #[.pointer (some ⟨g, 0, none⟩), .int .i64 z] W fun e w' => (∃ b, e = .returned (.bool b)) ∧ Fr w0 B I g r t N c H M x (s.shade r z) p v.ownBlock w' ∧ w'.ownsRow B0 ty 1 v k xs := by
  obtain ⟨⟨L, K, J, h1, h3⟩, h2⟩ := h
  refine (Shade_any h1.tw.gy z).mono fun e w' ⟨k1, L', k2, k3, k4⟩ => ⟨⟨_, k1⟩, ?_⟩
  obtain ⟨L2, m1, m2, m3⟩ := h1.trace ⟨L', k2, h1.tw.grey k2 k3 k4, k4.mono (fun q hq => by simp [hq])⟩
  refine ⟨⟨⟨L2, K, J, m1, fun q hq => ⟨(h3 q hq).1, fun hm => ?_, Nat.lt_of_lt_of_le (h3 q hq).2.2.1 m3.size, (h3 q hq).2.2.2⟩⟩, h2⟩, row_own ho m3 fun q hq => (h3 q hq).2.1⟩
  rcases List.mem_cons.1 hm with e | e
  · exact (h3 q hq).2.1 (by rw [e]; simp)
  · rcases m2 _ e with e | e
    · exact (h3 q hq).2.1 (by simp [e])
    · have := (h3 q hq).2.2.1; omega
/-- A unit. -/
theorem Fr.unit {B0 k : Nat} {v : Value} {xs : List Value} {ty : TypeId} (h : Fr w0 B I g r t N c H M x s p v.ownBlock W) (ho : W.ownsRow B0 ty 1 v k xs) (hT : bm.Tab w0) {u : tc.Ts} (hu : u = tc.Ts.unit r N c (tc.flo x) (tc.inp x) ⟨s, p⟩) :
    Calls Tryz.prog 14 #[.pointer (some ⟨t, 0, none⟩)] W fun e w' => e = .returned (.bool (!tc.Ts.idle ⟨s, p⟩)) ∧ Fr w0 B I g r t N c H M x u.s u.p v.ownBlock w' ∧ w'.ownsRow B0 ty 1 v k xs := by
  subst hu
  obtain ⟨⟨L, K, J, h1, h3⟩, h2⟩ := h
  have h0 : I.s ≠ 0 := by
    have e1 := h1.lo.1 I.s (by simp [Ids.all])
    have e2 := hT.1
    omega
  refine (tc.Unit_any h1.tw rfl h2 (fun W3 hg => hT.kept (Gr.grown h1.gr hg h1.lo.2.1) (by simp)) h0).mono fun e w' ⟨k1, k2, k3⟩ => ⟨k2, ?_⟩
  obtain ⟨L2, m1, m2, m3⟩ := h1.trace k3
  refine ⟨⟨⟨L2, K, J, m1, fun q hq => ⟨(h3 q hq).1, fun hm => ?_, Nat.lt_of_lt_of_le (h3 q hq).2.2.1 m3.size, (h3 q hq).2.2.2⟩⟩, k1⟩, row_own ho m3 fun q hq => (h3 q hq).2.1⟩
  rcases List.mem_cons.1 hm with e | e
  · exact (h3 q hq).2.1 (by rw [e]; simp)
  · rcases m2 _ e with e | e
    · exact (h3 q hq).2.1 (by simp [e])
    · have := (h3 q hq).2.2.1; omega
/-- The plain heap's list of objects is as long as the store's. -/
theorem Rz.objs (h : Rz w0 B I g r t N c H M x s p W) : ∃ A c', W.cell? ⟨H, 111, none⟩ = some (.slice A x.tk.length c') := by
  obtain ⟨⟨L, K, J, h1⟩, h2⟩ := h
  obtain ⟨V, vk, vs, vo, os, hp⟩ := h1.gp.pl
  obtain ⟨A, c', e, _⟩ := hp.shape
  have hl : (ph.toq x).ob.length = x.tk.length := by show (ph.obs x).length = _; unfold ph.obs; rw [List.length_map]
  refine ⟨A, c', ?_⟩
  rw [hp.cO, e, hl]
theorem gr_of {row : Option Nat} (hg : W.grownBy W' row) : Gr row.toList W W' := ⟨hg.os, hg.tape, hg.output, hg.size, fun k h1 h2 => hg.block k h1 (fun e => h2 (by rw [← e]; simp))⟩
/-- Blocks that are none of the world's have changed. -/
theorem Wp.apart {L K J X : List Nat} {n : Nat} {y : ph.Hq} {s2 : Ps} {p2 : Int} (h : Wp w0 W B I x L g r s t N c n K H y J M s2 p2) (hg : Gr X W W') (hX : ∀ q ∈ X, q ∉ I.all ∧ q ∉ t :: L ∧ q ∉ K ∧ q ∉ J ∧ q ≠ B ∧ w0.heap.size ≤ q) : Wp w0 W' B I x L g r s t N c n K H y J M s2 p2 :=
  ⟨h.tw.gr hg (fun q hq => (hX q hq).1) (fun q hq hm => (hX q hq).2.1 (by simp [hm])) (fun hm => (hX t hm).2.1 (by simp)), gp_gr h.gp hg (fun q hq => (hX q hq).2.2.1) (fun q hq => (hX q hq).2.2.2.1), hg.heap h.bx (fun hm => (hX B hm).2.2.2.2.1 rfl), h.aI, h.aL, h.aB, h.lo, Gr.grown h.gr hg (fun q hq => (hX q hq).2.2.2.2.2)⟩
/-- The list has grown. -/
theorem Fr.app {k gb : Nat} {v : Value} {xs : List Value} {ty : TypeId} {o : Obj} (h : Fr w0 B I g r t N c H M x s p v.ownBlock W) (ho : W.ownsRow w0.heap.size ty 1 v k xs) (h3 : (W.alloc o).grownBy W' v.ownBlock) (h4 : v.ownBlock = some gb ∨ gb = (W.alloc o).heap.size) (hlt : gb < W'.heap.size) :
    Fr w0 B I g r t N c H M x s p (some gb) W' := by
  have h' := h.new (World.grownBy_alloc W o none)
  obtain ⟨⟨L, K, J, h1, h5⟩, h2⟩ := h'
  obtain ⟨l1, l2, l3, l4, l5⟩ := wlt h1
  have hw := h1.apart (gr_of h3) (fun q hq => by
    have e : v.ownBlock = some q := by simpa using hq
    obtain ⟨a1, a2, a3, a4, a5, a6⟩ := h5 q e
    exact ⟨a1, a2, a4, a5, a6, gen.own_base ho q e⟩)
  refine ⟨⟨L, K, J, hw, fun q hq => ?_⟩, h2⟩
  injection hq with hq
  subst hq
  rcases h4 with h4 | h4
  · obtain ⟨a1, a2, a3, a4, a5, a6⟩ := h5 _ h4
    exact ⟨a1, a2, hlt, a4, a5, a6⟩
  · exact ⟨fun hm => by have := l1 _ hm; omega, fun hm => by have := l2 _ hm; omega, hlt, fun hm => by have := l3 _ hm; omega, fun hm => by have := l4 _ hm; omega, by omega⟩
/-- Before objects are shaded. -/
theorem Ru.fr (h : Ru w0 B I g r t N c H M x none0 (-1) W) : Fr w0 B I g r t N c H M x none0 (-1) none W := by
  obtain ⟨⟨L, K, J, h1⟩, h2, h3⟩ := h
  exact ⟨⟨L, K, J, h1, fun q hq => by cases hq⟩, h2⟩
end
end Go.Proofs.YtacjleladjgkeaaGreatDoor.tr
