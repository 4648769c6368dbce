/- What stands while the statement's own step goes on: a grey, the plain one, a boxed call. -/
import Derived.Test.YtokjpibaaioehaaDoorShD
import Derived.Test.YtokjpibaaioehaaDoorShH
import Derived.BigQuiet
import Derived.StillTailTactics
import Derived.Deep.DeepCutAuto
namespace Go.Proofs.YtokjpibaaioehaaDoor.sh
open Go.ChangeShapes Go.WideShapes Go.ChangeAt Go.RowKit gen li en gr
set_option linter.unusedVariables false
set_option maxHeartbeats 4000000
set_option maxRecDepth 100000
/-- What a call makes of a plain grey. -/
def nx (r : Nat) (k x1 x2 : Int) (s : Ps) : Ps :=
  if k = 1 then s.shade r x1 else if k = 2 then s.black x1 else if k = 3 then s.clear x1 else if k = 4 then s.pop else if k = 5 then s.push r (x1, x2) else if k = 6 then s.settle else s
/-- A boxed call. -/
def Ox (w : World) (B : Nat) (k x1 x2 : Int) : Prop := w.heap[B]? = some (.cells #[.int .i64 k, .int .i64 x1, .int .i64 x2] 31 (0, 0))
/-- The grey and the plain one; reached from w, where they lay in L and J. -/
structure St (w : World) (L J : List Nat) (g M r : Nat) (L1 : List Nat) (s1 : Ps) (J2 : List Nat) (s2 : Ps) (W : World) : Prop where
  gr : Gr (L ++ J) w W
  gy : Gy W L1 g r s1
  bk : Bk W J2 M r s2
  ll : ∀ q, q ∈ L1 → q ∈ L ∨ w.heap.size ≤ q
  jj : ∀ q, q ∈ J2 → q ∈ J ∨ w.heap.size ≤ q
def Sx (w : World) (L J : List Nat) (g M r : Nat) (s1 s2 : Ps) (W : World) : Prop := ∃ L1 J2, St w L J g M r L1 s1 J2 s2 W
/-- What a step leaves. -/
def StA (L J : List Nat) (g M r : Nat) (s : Ps) (w : World) (e : Ending) (w' : World) : Prop := e = .returned (.bool true) ∧ Sx w L J g M r s s w'
section
variable {w W W2 : World} {L J L1 J2 K : List Nat} {g M r B : Nat} {s s1 s2 s3 : Ps} {k x1 x2 : Int} {v : Value} {F : Nat} {args : Array Value}
theorem Ox.gr (h : Ox W B k x1 x2) (hg : Gr K W W2) (hB : B ∉ K) : Ox W2 B k x1 x2 := hg.heap h hB
theorem Ox.new (h : Ox W B k x1 x2) (hg : W.grownBy W2 none) : Ox W2 B k x1 x2 := h.gr (Gr.new (L := []) hg) (by simp)
theorem Ox.f (h : Ox W B k x1 x2) : W.cell? ⟨B, 0, none⟩ = some (.int .i64 k) ∧ W.cell? ⟨B, 1, none⟩ = some (.int .i64 x1) ∧ W.cell? ⟨B, 2, none⟩ = some (.int .i64 x2) :=
  ⟨by rw [cell_of_row W B 0 _ _ _ h]; rfl, by rw [cell_of_row W B 1 _ _ _ h]; rfl, by rw [cell_of_row W B 2 _ _ _ h]; rfl⟩
theorem Ox.lt (h : Ox W B k x1 x2) : B < W.heap.size := (Array.getElem?_eq_some_iff.1 h).1
/-- A grey's blocks are none of the plain one's. -/
theorem apart (h : Gy w L g r s1) (k : Bk w J M r s2) : ∀ q, q ∈ L → q ∉ J := fun q hL hJ => by
  obtain ⟨v, k, rfl⟩ := k
  rcases js_of.1 hJ with rfl | e
  · exact h.off k.ob (by decide) (by decide) (by decide) (by decide) hL
  · rcases k.li.2 with ⟨rfl, _⟩ | ⟨q', cap, cur, rfl, _, hq, _⟩
    · cases e
    · injection e with e
      subst e
      exact h.off hq (by decide) (by decide) (by decide) (by decide) hL
theorem Gy.ox (h : Gy w L g r s) (ho : Ox w B k x1 x2) : B ∉ L := h.off ho (by decide) (by decide) (by decide) (by decide)
theorem Bk.ox (h : Bk w J M r s) (ho : Ox w B k x1 x2) : B ∉ J := h.off ho (by decide) (by decide)
theorem Sx.start (h : Gy w L g r s) (k : Bk w J M r s) : Sx w L J g M r s s w := ⟨L, J, Gr.refl _ _, h, k, fun q h => .inl h, fun q h => .inl h⟩
theorem Sx.new (h : Sx w L J g M r s1 s2 W) (hg : W.grownBy W2 none) : Sx w L J g M r s1 s2 W2 := by
  obtain ⟨L1, J2, h⟩ := h
  exact ⟨L1, J2, h.gr.made hg, h.gy.new hg, h.bk.new hg, h.ll, h.jj⟩
theorem Sx.size (h : Sx w L J g M r s1 s2 W) : w.heap.size ≤ W.heap.size := by
  obtain ⟨L1, J2, h⟩ := h
  exact h.gr.size
/-- A call of the grey; of the plain one; they leave the boxed call. -/
theorem Sx.call (h : Sx w L J g M r s1 s2 W) (ho : Ox W B k x1 x2) (H : ∀ L1, Gy W L1 g r s1 → Calls Tryd.prog F args W (Ga L1 g r v s3 W)) :
    Calls Tryd.prog F args W fun e w' => e = .returned v ∧ Sx w L J g M r s3 s2 w' ∧ Ox w' B k x1 x2 := by
  obtain ⟨L1, J2, h⟩ := h
  refine (H L1 h.gy).mono fun e w' ⟨h1, L3, h2, h3, h4⟩ => ⟨h1, ⟨L3, J2, h.gr.own h4 (fun q hq => ?_), h3, h.bk.gr h4 (fun q hq e => apart h.gy h.bk q e hq), fun q hq => ?_, h.jj⟩, ho.gr h4 (h.gy.ox ho)⟩
  · exact (h.ll q hq).imp (fun e => List.mem_append_left _ e) id
  · exact (h2 q hq).elim (h.ll q) (fun e => .inr (Nat.le_trans h.gr.size e))
theorem Sx.call2 (h : Sx w L J g M r s1 s2 W) (ho : Ox W B k x1 x2) (H : ∀ J2, Bk W J2 M r s2 → Calls Tryd.prog F args W (Ba J2 M r v s3 W)) :
    Calls Tryd.prog F args W fun e w' => e = .returned v ∧ Sx w L J g M r s1 s3 w' ∧ Ox w' B k x1 x2 := by
  obtain ⟨L1, J2, h⟩ := h
  refine (H J2 h.bk).mono fun e w' ⟨h1, J3, h2, h3, h4⟩ => ⟨h1, ⟨L1, J3, h.gr.own h4 (fun q hq => ?_), h.gy.gr h4 (fun q hq e => apart h.gy h.bk q hq e), h3, h.ll, fun q hq => ?_⟩, ho.gr h4 (h.bk.ox ho)⟩
  · exact (h.jj q hq).imp (fun e => List.mem_append_right _ e) id
  · exact (h2 q hq).elim (h.jj q) (fun e => .inr (Nat.le_trans h.gr.size e))
/-- A call of the plain one leaves a boxed entry. -/
theorem Sx.call2e {y1 y2 : Int} (h : Sx w L J g M r s1 s2 W) (ho : sk.En W B y1 y2) (H : ∀ J2, Bk W J2 M r s2 → Calls Tryd.prog F args W (Ba J2 M r v s3 W)) :
    Calls Tryd.prog F args W fun e w' => e = .returned v ∧ Sx w L J g M r s1 s3 w' ∧ sk.En w' B y1 y2 := by
  obtain ⟨L1, J2, h⟩ := h
  refine (H J2 h.bk).mono fun e w' ⟨h1, J3, h2, h3, h4⟩ => ⟨h1, ⟨L1, J3, h.gr.own h4 (fun q hq => ?_), h.gy.gr h4 (fun q hq e => apart h.gy h.bk q hq e), h3, h.ll, fun q hq => ?_⟩, ho.gr h4 (h.bk.off ho (by decide) (by decide))⟩
  · exact (h.jj q hq).imp (fun e => List.mem_append_right _ e) id
  · exact (h2 q hq).elim (h.jj q) (fun e => .inr (Nat.le_trans h.gr.size e))
/-- What is written on the plain one itself. -/
theorem Sx.put (h : Sx w L J g M r s1 s2 W) (ho : Ox W B k x1 x2) (H : ∀ v, Bo W M r v s2 → Bo W2 M r v s3 ∧ Gr (js M v) W W2) : Sx w L J g M r s1 s3 W2 ∧ Ox W2 B k x1 x2 := by
  obtain ⟨L1, J2, h⟩ := h
  obtain ⟨v, hb, rfl⟩ := h.bk
  obtain ⟨h3, h4⟩ := H v hb
  exact ⟨⟨L1, _, h.gr.own h4 (fun q hq => (h.jj q hq).imp (fun e => List.mem_append_right _ e) id), h.gy.gr h4 (fun q hq e => apart h.gy h.bk q hq e), ⟨v, h3, rfl⟩, h.ll, h.jj⟩, ho.gr h4 (h.bk.ox ho)⟩
theorem Sx.read (h : Sx w L J g M r s1 s2 W) (ho : Ox W B k x1 x2) (H : ∀ L1, Gy W L1 g r s1 → Calls Tryd.prog F args W fun e w' => e = .returned v ∧ W.grownBy w' none) :
    Calls Tryd.prog F args W fun e w' => e = .returned v ∧ Sx w L J g M r s1 s2 w' ∧ Ox w' B k x1 x2 := by
  have hS := h
  obtain ⟨L1, J2, h⟩ := h
  exact (H L1 h.gy).mono fun e w' ⟨h1, h2⟩ => ⟨h1, hS.new h2, ho.new h2⟩
/-- What the plain one's cells say. -/
theorem Sx.bo (h : Sx w L J g M r s1 s2 W) : (∀ i, i < 2048 → W.cell? ⟨M, i, none⟩ = some (.bool (bm.bit s2.ws i))) ∧ W.cell? ⟨M, 2050, none⟩ = some (.bool s2.b) ∧ (∀ i, W.frozen? ⟨M, i, none⟩ = false) ∧ M < W.heap.size := by
  obtain ⟨L1, J2, h⟩ := h
  obtain ⟨v, hb, _⟩ := h.bk
  exact ⟨fun i hi => hb.mark hi, hb.c2, hb.free, hb.lt⟩
theorem Sx.nm (h : Sx w L J g M r s1 s2 W) (ho : Ox W B k x1 x2) (e : B = M) : False := by
  obtain ⟨L1, J2, h⟩ := h
  obtain ⟨v, hb, rfl⟩ := h.bk
  exact ty_ne ho hb.ob (by decide) e
theorem Sx.trans (h : Sx w L J g M r s1 s1 W) (H : ∀ L1 J2, Gy W L1 g r s1 → Bk W J2 M r s1 → Calls Tryd.prog F args W (StA L1 J2 g M r s3 W)) : Calls Tryd.prog F args W fun e w' => e = .returned (.bool true) ∧ Sx w L J g M r s3 s3 w' := by
  obtain ⟨L1, J2, h⟩ := h
  refine (H L1 J2 h.gy h.bk).mono fun e w' ⟨h1, L3, J3, k⟩ => ⟨h1, L3, J3, h.gr.own k.gr (fun q hq => ?_), k.gy, k.bk, fun q hq => ?_, fun q hq => ?_⟩
  · rcases List.mem_append.1 hq with e | e
    · exact (h.ll q e).imp (fun e => List.mem_append_left _ e) id
    · exact (h.jj q e).imp (fun e => List.mem_append_right _ e) id
  · exact (k.ll q hq).elim (h.ll q) (fun e => .inr (Nat.le_trans h.gr.size e))
  · exact (k.jj q hq).elim (h.jj q) (fun e => .inr (Nat.le_trans h.gr.size e))
end
end Go.Proofs.YtokjpibaaioehaaDoor.sh
