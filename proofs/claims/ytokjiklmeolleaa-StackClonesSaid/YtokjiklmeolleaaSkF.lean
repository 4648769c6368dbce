/- The statement's own book; what stands while a step goes on. -/
import Derived.Test.YtokjiklmeolleaaSkE
import Derived.BigQuiet
import Derived.StillTailTactics
namespace Go.Proofs.Ytokjiklmeolleaa.sk
open Go.ChangeShapes Go.WideShapes Go.ChangeAt Go.RowKit gen li en gr
set_option linter.unusedVariables false
set_option maxHeartbeats 8000000
set_option maxRecDepth 100000

/-- A boxed book, and a boxed call. -/
def Bk (w : World) (B : Nat) (v : Value) (r : Nat) (o : Bool) : Prop := w.heap[B]? = some (.cells #[v, .int .i64 r, .bool o] 26 (0, 0))
def Ox (w : World) (B : Nat) (k x1 x2 : Int) : Prop := w.heap[B]? = some (.cells #[.int .i64 k, .int .i64 x1, .int .i64 x2] 51 (0, 0))
/-- The program's stack and the statement's list, alike and apart; reached from w, where they lay in K0 and v0. -/
structure Rn (w : World) (K0 : List Nat) (v0 : Value) (g r : Nat) (K : List Nat) (b : Bool) (v : Value) (m : List Va) (W : World) : Prop where
  gr : Gr K0 w W
  sk : Sk W K g r b m
  li : Lv W 0 v m
  kk : ∀ q, q ∈ K → q ∈ K0 ∨ w.heap.size ≤ q
  vv : ∀ q, v.ownBlock = some q → q ∉ K ∧ (v0.ownBlock = some q ∨ w.heap.size ≤ q)
/-- What a step, or a run, leaves. -/
def StA (K : List Nat) (v0 : Value) (g r : Nat) (w : World) (e : Ending) (w' : World) : Prop :=
  ∃ (A : Option Addr) (N c : Nat) (b : Bool) (m : List Va) (K' : List Nat), e = .returned (.tuple #[.agg #[.slice A N c, .int .i64 r, .bool b], .bool true]) ∧ N = m.length ∧ Rn w K v0 g r K' b (.slice A N c) m w'
/-- What stands while a step goes on. -/
structure St (w : World) (K0 : List Nat) (v0 : Value) (g r : Nat) (b0 : Bool) (k x1 x2 : Int) (K : List Nat) (b : Bool) (mp : List Va) (v : Value) (ml : List Va) (W : World) : Prop where
  gr : Gr K0 w W
  sk : Sk W K g r b mp
  li : Lv W 0 v ml
  kk : ∀ q, q ∈ K → q ∈ K0 ∨ w.heap.size ≤ q
  vv : ∀ q, v.ownBlock = some q → q ∉ K ∧ (v0.ownBlock = some q ∨ w.heap.size ≤ q)
  bk : Bk W w.heap.size v0 r b0
  ox : Ox W (w.heap.size + 1) k x1 x2
  rs : Bk W (w.heap.size + 1 + 1) nl 0 false
section
variable {w W W2 : World} {K0 K K2 L : List Nat} {v0 v v2 : Value} {B g r : Nat} {b0 b b2 o : Bool} {k x1 x2 : Int} {m m2 mp ml : List Va}
theorem Bk.gr (h : Bk W B v r o) (hg : Gr L W W2) (hB : B ∉ L) : Bk W2 B v r o := hg.heap h hB
theorem Bk.new (h : Bk W B v r o) (hg : W.grownBy W2 none) : Bk W2 B v r o := h.gr (Gr.new (L := []) hg) (by simp)
theorem Bk.f (h : Bk W B v r o) : W.cell? ⟨B, 0, none⟩ = some v ∧ W.cell? ⟨B, 1, none⟩ = some (.int .i64 r) ∧ W.cell? ⟨B, 2, none⟩ = some (.bool o) :=
  ⟨by rw [cell_of_row W B 0 _ _ _ h]; rfl, by rw [cell_of_row W B 1 _ _ _ h]; rfl, by rw [cell_of_row W B 2 _ _ _ h]; rfl⟩
theorem Bk.free (h : Bk W B v r o) : W.frozen? ⟨B, 0, none⟩ = false ∧ W.frozen? ⟨B, 1, none⟩ = false ∧ W.frozen? ⟨B, 2, none⟩ = false ∧ B < W.heap.size :=
  ⟨frozen_of_row W B 0 _ _ h, frozen_of_row W B 1 _ _ h, frozen_of_row W B 2 _ _ h, (Array.getElem?_eq_some_iff.1 h).1⟩
theorem Bk.set {r2 : Nat} {o2 : Bool} (h : Bk W B v r o) : Bk (((W.setCell ⟨B, 0, none⟩ v2).setCell ⟨B, 1, none⟩ (.int .i64 (r2 : Int))).setCell ⟨B, 2, none⟩ (.bool o2)) B v2 r2 o2 := by
  have g1 := heap_setCell_same W B 0 _ _ v2 h
  have g2 := heap_setCell_same _ B 1 _ _ (.int .i64 (r2 : Int)) g1
  have g3 := heap_setCell_same _ B 2 _ _ (.bool o2) g2
  exact g3
theorem grown_three (w : World) (B : Nat) (v1 v2 v3 : Value) : w.grownBy (((w.setCell ⟨B, 0, none⟩ v1).setCell ⟨B, 1, none⟩ v2).setCell ⟨B, 2, none⟩ v3) (some B) := ((grown_set _ _ _ _).trans (grown_set _ _ _ _)).trans (grown_set _ _ _ _)
theorem Ox.gr (h : Ox W B k x1 x2) (hg : Gr L W W2) (hB : B ∉ L) : Ox W2 B k x1 x2 := hg.heap h hB
theorem Ox.f (h : Ox W B k x1 x2) : W.cell? ⟨B, 0, none⟩ = some (.int .i64 k) ∧ W.cell? ⟨B, 1, none⟩ = some (.int .i64 x1) ∧ W.cell? ⟨B, 2, none⟩ = some (.int .i64 x2) :=
  ⟨by rw [cell_of_row W B 0 _ _ _ h]; rfl, by rw [cell_of_row W B 1 _ _ _ h]; rfl, by rw [cell_of_row W B 2 _ _ _ h]; rfl⟩
theorem Rn.new (h : Rn w K0 v0 g r K b v m W) (hg : W.grownBy W2 none) : Rn w K0 v0 g r K b v m W2 := ⟨h.gr.made hg, h.sk.new hg, h.li.new hg, h.kk, h.vv⟩
theorem Rn.refl (hs : Sk w K g r b m) (hl : Lv w 0 v m) (hv : ∀ q, v.ownBlock = some q → q ∉ K) : Rn w K v g r K b v m w := ⟨Gr.refl _ _, hs, hl, fun q h => .inl h, fun q e => ⟨hv q e, .inl e⟩⟩
theorem Rn.trans {b1 : Bool} {v1 : Value} {m1 : List Va} {K1 : List Nat} (h : Rn w K0 v0 g r K1 b1 v1 m1 W) (k : Rn W K1 v1 g r K b v m W2) : Rn w K0 v0 g r K b v m W2 :=
  ⟨h.gr.own k.gr h.kk, k.sk, k.li, fun q hq => (k.kk q hq).elim (h.kk q) (fun e => .inr (Nat.le_trans h.gr.size e)), fun q e => ⟨(k.vv q e).1, (k.vv q e).2.elim (fun e => (h.vv q e).2) (fun e => .inr (Nat.le_trans h.gr.size e))⟩⟩
theorem St.start (hs : Sk w K g r b m) (hl : Lv w 0 v m) (hv : ∀ q, v.ownBlock = some q → q ∉ K) (k x1 x2 : Int) :
    St w K v g r b k x1 x2 K b m v m (((w.alloc (.cells #[v, .int .i64 r, .bool b] 26)).alloc (.cells #[.int .i64 k, .int .i64 x1, .int .i64 x2] 51)).alloc (.cells #[.slice none 0 0, .int .i64 0, .bool false] 26)) := by
  have G1 := World.grownBy_alloc w (.cells #[v, .int .i64 r, .bool b] 26) none
  have G2 := World.grownBy_alloc (w.alloc (.cells #[v, .int .i64 r, .bool b] 26)) (.cells #[.int .i64 k, .int .i64 x1, .int .i64 x2] 51) none
  have G3 := World.grownBy_alloc ((w.alloc (.cells #[v, .int .i64 r, .bool b] 26)).alloc (.cells #[.int .i64 k, .int .i64 x1, .int .i64 x2] 51)) (.cells #[.slice none 0 0, .int .i64 0, .bool false] 26) none
  have G := (G1.trans G2).trans G3
  refine ⟨Gr.new G, hs.new G, hl.new G, fun q h => .inl h, fun q e => ⟨hv q e, .inl e⟩, ?_, ?_, ?_⟩
  · exact ((show Bk _ w.heap.size v r b from heap_alloc_new _ _).new G2).new G3
  · have := heap_alloc_new (w.alloc (.cells #[v, .int .i64 r, .bool b] 26)) (.cells #[.int .i64 k, .int .i64 x1, .int .i64 x2] 51)
    rw [show (w.alloc (.cells #[v, .int .i64 r, .bool b] 26)).heap.size = w.heap.size + 1 by simp] at this
    exact Ox.gr this (Gr.new (L := []) G3) (by simp)
  · have := heap_alloc_new ((w.alloc (.cells #[v, .int .i64 r, .bool b] 26)).alloc (.cells #[.int .i64 k, .int .i64 x1, .int .i64 x2] 51)) (.cells #[.slice none 0 0, .int .i64 0, .bool false] 26)
    rw [show ((w.alloc (.cells #[v, .int .i64 r, .bool b] 26)).alloc (.cells #[.int .i64 k, .int .i64 x1, .int .i64 x2] 51)).heap.size = w.heap.size + 1 + 1 by simp] at this
    exact this
theorem St.new (h : St w K0 v0 g r b0 k x1 x2 K b mp v ml W) (hg : W.grownBy W2 none) : St w K0 v0 g r b0 k x1 x2 K b mp v ml W2 :=
  ⟨h.gr.made hg, h.sk.new hg, h.li.new hg, h.kk, h.vv, h.bk.new hg, h.ox.gr (Gr.new (L := []) hg) (by simp), h.rs.new hg⟩
/-- The program's stack was written. -/
theorem St.write (h : St w K0 v0 g r b0 k x1 x2 K b mp v ml W) (hs : Sk W2 K2 g r b2 m2) (hk : ∀ q, q ∈ K2 → q ∈ K ∨ W.heap.size ≤ q) (hg : Gr K W W2) : St w K0 v0 g r b0 k x1 x2 K2 b2 m2 v ml W2 := by
  have le := h.gr.size
  have n1 : w.heap.size ∉ K := h.sk.off h.bk (by decide) (by decide)
  have n2 : w.heap.size + 1 ∉ K := h.sk.off h.ox (by decide) (by decide)
  have n3 : w.heap.size + 1 + 1 ∉ K := h.sk.off h.rs (by decide) (by decide)
  refine ⟨h.gr.own hg h.kk, hs, own_gr_any h.li hg (fun q e => (h.vv q e).1), fun q hq => (hk q hq).elim (h.kk q) (fun e => .inr (Nat.le_trans le e)), fun q e => ⟨fun hq => ?_, (h.vv q e).2⟩, h.bk.gr hg n1, h.ox.gr hg n2, h.rs.gr hg n3⟩
  rcases hk q hq with e2 | e2
  · exact (h.vv q e).1 e2
  · have := h.li.lt q e; omega
/-- Another list. -/
theorem St.list (h : St w K0 v0 g r b0 k x1 x2 K b mp v ml W) (hl : Lv W 0 v2 m2) (hv : ∀ q, v2.ownBlock = some q → q ∉ K ∧ (v0.ownBlock = some q ∨ w.heap.size ≤ q)) : St w K0 v0 g r b0 k x1 x2 K b mp v2 m2 W :=
  ⟨h.gr, h.sk, hl, h.kk, hv, h.bk, h.ox, h.rs⟩
/-- A list that was made on the way. -/
theorem St.made (h : St w K0 v0 g r b0 k x1 x2 K b mp v ml W) (hg : W.grownBy W2 none) (hl : Lv W2 W.heap.size v2 m2) : St w K0 v0 g r b0 k x1 x2 K b mp v2 m2 W2 :=
  (h.new hg).list (hl.mono (Nat.zero_le _)) (fun q e => ⟨fun hq => by have := h.sk.lt q hq; have := hl.from_ q e; omega, .inr (Nat.le_trans h.gr.size (hl.from_ q e))⟩)
theorem St.f (h : St w K0 v0 g r b0 k x1 x2 K b mp v ml W) : (W.cell? ⟨w.heap.size, 0, none⟩ = some v0 ∧ W.cell? ⟨w.heap.size, 1, none⟩ = some (.int .i64 r) ∧ W.cell? ⟨w.heap.size, 2, none⟩ = some (.bool b0)) ∧
    W.cell? ⟨w.heap.size + 1, 0, none⟩ = some (.int .i64 k) ∧ W.cell? ⟨w.heap.size + 1, 1, none⟩ = some (.int .i64 x1) ∧ W.cell? ⟨w.heap.size + 1, 2, none⟩ = some (.int .i64 x2) := ⟨h.bk.f, h.ox.f⟩
theorem St.z (h : St w K0 v0 g r b0 k x1 x2 K b mp v ml W) : (W.cell? ⟨w.heap.size + 1 + 1, 0, none⟩ = some nl ∧ W.cell? ⟨w.heap.size + 1 + 1, 1, none⟩ = some (.int .i64 (0 : Nat)) ∧ W.cell? ⟨w.heap.size + 1 + 1, 2, none⟩ = some (.bool false)) ∧
    W.frozen? ⟨w.heap.size + 1 + 1, 0, none⟩ = false ∧ W.frozen? ⟨w.heap.size + 1 + 1, 1, none⟩ = false ∧ W.frozen? ⟨w.heap.size + 1 + 1, 2, none⟩ = false ∧ w.heap.size + 1 + 1 < W.heap.size := ⟨h.rs.f, h.rs.free⟩
theorem St.fin {A : Option Addr} {N c : Nat} (h : St w K0 v0 g r b0 k x1 x2 K b m (.slice A N c) m W) (hN : N = m.length) (hg : W.grownBy W2 (some (w.heap.size + 1 + 1))) : StA K0 v0 g r w (.returned (.tuple #[.agg #[.slice A N c, .int .i64 r, .bool b], .bool true])) W2 := by
  have n3 : w.heap.size + 1 + 1 ∉ K := h.sk.off h.rs (by decide) (by decide)
  refine ⟨A, N, c, b, m, K, rfl, hN, gr_aside h.gr hg (by omega), h.sk.gr (Gr.one (L := [w.heap.size + 1 + 1]) hg (by simp)) (fun q hq e => by rw [List.mem_singleton] at e; subst e; exact n3 hq), h.li.kept hg (.inr (h.li.off h.rs (fun cs z => by simp))), h.kk, h.vv⟩
end
/-! ### Near, few -/
theorem Near_any (n a b : Int) (w : World) : Calls Try.prog 9 #[.int .i64 n, .int .i64 a, .int .i64 b] w fun e w' => e = .returned (.int .i64 (near n a b)) ∧ w = w' := by
  by_cases h : n < a
  · go_enter Try.func9, Try.ntmps9
    go_wp2
    go_ret
    exact ⟨by simp [near, h], rfl⟩
  by_cases h2 : b < n
  all_goals
    go_enter Try.func9, Try.ntmps9
    go_wp2
    go_ret
    exact ⟨ret_int (by unfold near; repeat' split
                       all_goals omega), rfl⟩
theorem few_any (A : Option Addr) (n c : Nat) (w : World) (hn : n ≤ c) (hc : c ≤ maxLen) (hA : 0 < n → ∃ ad, A = some ad) :
    Calls Try.prog 10 #[.slice A n c] w fun e w' => (∃ m c', m ≤ 60 ∧ m ≤ n ∧ e = .returned (.slice A m c')) ∧ w = w' := by
  unfold maxLen at hc
  by_cases h : 60 < n
  · obtain ⟨ad, rfl⟩ := hA (by omega)
    clear hA
    have l1 : (60 : Int) ≤ c := by omega
    go_enter Try.func10, Try.ntmps10
    go_wp2
    all_goals
      go_ret
      exact ⟨⟨60, _, by omega, by omega, rfl⟩, rfl⟩
  · clear hA
    go_enter Try.func10, Try.ntmps10
    go_wp2
    go_ret
    exact ⟨⟨n, _, by omega, by omega, rfl⟩, rfl⟩
end Go.Proofs.Ytokjiklmeolleaa.sk
