/- Texts that this claim stands on. -/
import Derived.BigQuiet
import Derived.Deep.RegionHeld3
import Derived.Test.YtkgdcgmbapchcaaGreatDoorQRxA
namespace Go.Proofs.YtkgdcgmbapchcaaGreatDoor.cy
open Go.ChangeShapes Go.WideShapes Go.ChangeAt Go.RowKit gen calls cls geos ce st sh
set_option linter.unusedVariables false
set_option maxHeartbeats 4000000
set_option maxRecDepth 100000
def Cx (w0 : World) (k : Kn) (c : Cb) (L0 K0 : List Nat) (σ : Cy) (W : World) : Prop :=
  ∃ L K, (∀ q, q ∈ L → q ∈ L0 ∨ w0.heap.size ≤ q) ∧ (∀ q, q ∈ K → q ∈ K0 ∨ w0.heap.size ≤ q) ∧ Cw W k c L K σ ∧ Gr (al c L0 K0) w0 W
section
variable {w0 W W' : World} {k : Kn} {c : Cb} {L0 K0 L K L' K' M : List Nat} {σ τ : Cy} {F : Nat} {args : Array Value} {v : Value}
theorem Cx.start (h : Cw W k c L K σ) : Cx W k c L K σ W := ⟨L, K, fun q => .inl, fun q => .inl, h, ⟨rfl, rfl, rfl, Nat.le_refl _, fun _ _ _ => rfl⟩⟩
theorem al_old (hL : ∀ q, q ∈ L → q ∈ L0 ∨ w0.heap.size ≤ q) (hK : ∀ q, q ∈ K → q ∈ K0 ∨ w0.heap.size ≤ q) : ∀ q, q ∈ al c L K → q ∈ al c L0 K0 ∨ w0.heap.size ≤ q := fun q hq => by
  rcases in_al.1 hq with e | e | e | e | e | e | e
  · exact .inl (in_al.2 (.inl e))
  · exact .inl (in_al.2 (.inr (.inl e)))
  · exact .inl (in_al.2 (.inr (.inr (.inl e))))
  · exact .inl (in_al.2 (.inr (.inr (.inr (.inl e)))))
  · exact (hL q e).imp (fun e => in_al.2 (.inr (.inr (.inr (.inr (.inl e)))))) (fun e => e)
  · exact (hK q e).imp (fun e => in_al.2 (.inr (.inr (.inr (.inr (.inr (.inl e))))))) (fun e => e)
  · exact .inl (in_al.2 (.inr (.inr (.inr (.inr (.inr (.inr e)))))))
theorem Cx.step {L K : List Nat} (hL : ∀ q, q ∈ L → q ∈ L0 ∨ w0.heap.size ≤ q) (hK : ∀ q, q ∈ K → q ∈ K0 ∨ w0.heap.size ≤ q) (hg : Gr (al c L0 K0) w0 W) (hL' : ∀ q, q ∈ L' → q ∈ L ∨ W.heap.size ≤ q) (hK' : ∀ q, q ∈ K' → q ∈ K ∨ W.heap.size ≤ q) (h : Cw W' k c L' K' τ) (hm : Gr M W W') (hM : ∀ q, q ∈ M → q ∈ al c L K) : Cx w0 k c L0 K0 τ W' :=
  ⟨L', K', fun q hq => (hL' q hq).elim (hL q) fun e => .inr (Nat.le_trans hg.size e), fun q hq => (hK' q hq).elim (hK q) fun e => .inr (Nat.le_trans hg.size e), h, hg.own hm fun q hq => al_old hL hK q (hM q hq)⟩
theorem Cx.call (h : Cx w0 k c L0 K0 σ W) (C : ∀ L K, Cw W k c L K σ → Calls Tryz.prog F args W fun e w' => e = .returned v ∧ Cx W k c L K τ w') : Calls Tryz.prog F args W fun e w' => e = .returned v ∧ Cx w0 k c L0 K0 τ w' := by
  have h0 := h
  obtain ⟨L, K, h1, h2, h3, h4⟩ := h
  refine (C L K h3).mono fun e w' ⟨k1, L', K', k2, k3, k4, k5⟩ => ⟨k1, Cx.step h1 h2 h4 k2 k3 k4 k5 fun q hq => hq⟩
theorem Cx.new (h : Cx w0 k c L0 K0 σ W) (hg : W.grownBy W' none) : Cx w0 k c L0 K0 σ W' := by
  obtain ⟨L, K, h1, h2, h3, h4⟩ := h
  exact ⟨L, K, h1, h2, h3.new hg, h4.made hg⟩
theorem Cx.gro (h : Cx w0 k c L0 K0 σ W) : Gr (al c L0 K0) w0 W := by
  obtain ⟨L, K, h1, h2, h3, h4⟩ := h
  exact h4
theorem Cx.tell (h : Cx w0 k c L0 K0 σ W) (C : ∀ L K, Cw W k c L K σ → Calls Tryz.prog F args W fun e w' => e = .returned v ∧ W.grownBy w' none) : Calls Tryz.prog F args W fun e w' => e = .returned v ∧ Cx w0 k c L0 K0 σ w' := by
  have h0 := h
  obtain ⟨L, K, h1, h2, h3, h4⟩ := h
  exact (C L K h3).mono fun e w' ⟨k1, k2⟩ => ⟨k1, h0.new k2⟩
theorem Cx.grey (h : Cx w0 k c L0 K0 σ W) {s' : Ps} (C : ∀ L K, Cw W k c L K σ → Calls Tryz.prog F args W (Ga L c.g k.r v s' W)) : Calls Tryz.prog F args W fun e w' => e = .returned v ∧ Cx w0 k c L0 K0 { σ with s := s' } w' :=
  h.call fun L K h => (C L K h).mono fun e w' ⟨k1, L', k2, k3, k4⟩ => ⟨k1, Cx.step (fun q => .inl) (fun q => .inl) ⟨rfl, rfl, rfl, Nat.le_refl _, fun _ _ _ => rfl⟩ k2 (fun q => .inl) (h.grey k2 k3 k4) k4 fun q hq => in_al.2 (by simp [hq])⟩
theorem Cx.sweeper (h : Cx w0 k c L0 K0 σ W) {q' f' : Nat} (C : ∀ L K, Cw W k c L K σ → Calls Tryz.prog F args W fun e w' => e = .returned v ∧ sw.So w' c.v c.I.S c.g k.N q' f' ∧ Gr [c.v] W w') : Calls Tryz.prog F args W fun e w' => e = .returned v ∧ Cx w0 k c L0 K0 { σ with q := q', f := f' } w' :=
  h.call fun L K h => (C L K h).mono fun e w' ⟨k1, k2, k3⟩ => ⟨k1, Cx.step (fun q => .inl) (fun q => .inl) ⟨rfl, rfl, rfl, Nat.le_refl _, fun _ _ _ => rfl⟩ (fun q => .inl) (fun q => .inl) (h.sweeper k2 k3) k3 fun q hq => in_al.2 (by simp at hq; simp [hq])⟩
theorem Cx.reg (h : Cx w0 k c L0 K0 σ W) {e' : Nat} {th' : List Int} (C : ∀ L K, Cw W k c L K σ → Calls Tryz.prog F args W fun r w' => r = .returned v ∧ ep.Rg w' c.e true e' th' ∧ W.grownBy w' (some c.e)) : Calls Tryz.prog F args W fun e w' => e = .returned v ∧ Cx w0 k c L0 K0 { σ with e := e', th := th' } w' :=
  h.call fun L K h => (C L K h).mono fun e w' ⟨k1, k2, k3⟩ => ⟨k1, Cx.step (fun q => .inl) (fun q => .inl) ⟨rfl, rfl, rfl, Nat.le_refl _, fun _ _ _ => rfl⟩ (fun q => .inl) (fun q => .inl) (h.reg k2 (.one k3 (by simp))) (Gr.one (L := [c.e]) k3 (by simp)) fun q hq => in_al.2 (by simp at hq; simp [hq])⟩
theorem cg {L : List Nat} {w w' : World} (h : bf.Gr L w w') : Gr L w w' := ⟨h.os, h.tape, h.output, h.size, h.block⟩
theorem Cx.bufs (h : Cx w0 k c L0 K0 σ W) {bf' : List (List Int)} (C : ∀ L K, Cw W k c L K σ → Calls Tryz.prog F args W fun r w' => r = .returned v ∧ ∃ K', (∀ q, q ∈ K' → q ∈ K ∨ W.heap.size ≤ q) ∧ bf.Bf w' K' c.b bf' ∧ bf.Gr K W w') : Calls Tryz.prog F args W fun e w' => e = .returned v ∧ Cx w0 k c L0 K0 { σ with bf := bf' } w' :=
  h.call fun L K h => (C L K h).mono fun e w' ⟨k1, K', k2, k3, k4⟩ => ⟨k1, Cx.step (fun q => .inl) (fun q => .inl) ⟨rfl, rfl, rfl, Nat.le_refl _, fun _ _ _ => rfl⟩ (fun q => .inl) k2 (h.bufs k2 k3 (cg k4)) (cg k4) fun q hq => in_al.2 (by simp [hq])⟩
theorem Cw.cells (h : Cw W k c L K σ) : W.cell? ⟨c.B, 0, none⟩ = some (.pointer (some ⟨c.I.S, 0, none⟩)) ∧ W.cell? ⟨c.B, 1, none⟩ = some (.pointer (some ⟨c.g, 0, none⟩)) ∧ W.cell? ⟨c.B, 2, none⟩ = some (.pointer (some ⟨c.t, 0, none⟩)) ∧ W.cell? ⟨c.B, 3, none⟩ = some (.pointer (some ⟨c.v, 0, none⟩)) ∧ W.cell? ⟨c.B, 4, none⟩ = some (.int .i64 k.gl) ∧ W.cell? ⟨c.B, 5, none⟩ = some (.pointer (some ⟨c.e, 0, none⟩)) ∧ W.cell? ⟨c.B, 6, none⟩ = some (.pointer (some ⟨c.b, 0, none⟩)) ∧ W.cell? ⟨c.B, 271, none⟩ = some (.int .i64 σ.ph) ∧ W.cell? ⟨c.B, 272, none⟩ = some (.int .i64 σ.cy) ∧ W.cell? ⟨c.B, 273, none⟩ = some (.int .i64 σ.un) ∧ (∀ j, W.frozen? ⟨c.B, j, none⟩ = false) ∧ c.B < W.heap.size := by
  have e : ∀ i, W.cell? ⟨c.B, i, none⟩ = (bxc c k.gl σ.rt σ.ph σ.cy σ.un)[i]? := fun i => by rw [cell_of_row W c.B i _ _ _ h.bx, List.getElem?_toArray]
  refine ⟨?_, ?_, ?_, ?_, ?_, ?_, ?_, ?_, ?_, ?_, fun j => frozen_of_row W c.B j _ _ h.bx, (Array.getElem?_eq_some_iff.1 h.bx).1⟩
  · rw [e, bx_low (by omega)]; rfl
  · rw [e, bx_low (by omega)]; rfl
  · rw [e, bx_low (by omega)]; rfl
  · rw [e, bx_low (by omega)]; rfl
  · rw [e, bx_low (by omega)]; rfl
  · rw [e, bx_low (by omega)]; rfl
  · rw [e, bx_low (by omega)]; rfl
  · rw [e, bx_end h.rl 0]; rfl
  · rw [e, bx_end h.rl 1]; rfl
  · rw [e, bx_end h.rl 2]; rfl
theorem Cx.cells (h : Cx w0 k c L0 K0 σ W) : W.cell? ⟨c.B, 0, none⟩ = some (.pointer (some ⟨c.I.S, 0, none⟩)) ∧ W.cell? ⟨c.B, 1, none⟩ = some (.pointer (some ⟨c.g, 0, none⟩)) ∧ W.cell? ⟨c.B, 2, none⟩ = some (.pointer (some ⟨c.t, 0, none⟩)) ∧ W.cell? ⟨c.B, 3, none⟩ = some (.pointer (some ⟨c.v, 0, none⟩)) ∧ W.cell? ⟨c.B, 4, none⟩ = some (.int .i64 k.gl) ∧ W.cell? ⟨c.B, 5, none⟩ = some (.pointer (some ⟨c.e, 0, none⟩)) ∧ W.cell? ⟨c.B, 6, none⟩ = some (.pointer (some ⟨c.b, 0, none⟩)) ∧ W.cell? ⟨c.B, 271, none⟩ = some (.int .i64 σ.ph) ∧ W.cell? ⟨c.B, 272, none⟩ = some (.int .i64 σ.cy) ∧ W.cell? ⟨c.B, 273, none⟩ = some (.int .i64 σ.un) ∧ (∀ j, W.frozen? ⟨c.B, j, none⟩ = false) ∧ c.B < W.heap.size := by
  obtain ⟨L, K, h1, h2, h3, h4⟩ := h
  exact h3.cells
theorem Cx.put (h : Cx w0 k c L0 K0 σ W) (u : Nat) : Cx w0 k c L0 K0 { σ with ph := u } (W.setCell ⟨c.B, 271, none⟩ (.int .i64 u)) ∧ Cx w0 k c L0 K0 { σ with cy := u } (W.setCell ⟨c.B, 272, none⟩ (.int .i64 u)) ∧ Cx w0 k c L0 K0 { σ with un := u } (W.setCell ⟨c.B, 273, none⟩ (.int .i64 u)) := by
  obtain ⟨L, K, h1, h2, h3, h4⟩ := h
  have own : ∀ {τ : Cy} {o : Nat}, Cw (W.setCell ⟨c.B, o, none⟩ (.int .i64 u)) k c L K τ → Cx w0 k c L0 K0 τ (W.setCell ⟨c.B, o, none⟩ (.int .i64 u)) := fun hc => Cx.step h1 h2 h4 (fun q => .inl) (fun q => .inl) hc (Gr.set (L := [c.B]) _ _ _ _ (by simp)) fun q hq => in_al.2 (by simp at hq; simp [hq])
  have hp : ∀ j, j < 3 → (W.setCell ⟨c.B, 271 + j, none⟩ (.int .i64 (u : Int))).heap[c.B]? = some (.cells (hd7 c k.gl ++ (hc σ.rt ++ [Value.int .i64 σ.ph, .int .i64 σ.cy, .int .i64 σ.un].set j (.int .i64 u))).toArray 65 (0, 0)) := fun j hj => by
    have e := heap_setCell_same W c.B (271 + j) _ _ (.int .i64 (u : Int)) h3.bx
    rw [List.setIfInBounds_toArray, bx_set h3.rl j hj] at e
    exact e
  exact ⟨own (h3.box h3.rl (hp 0 (by omega)) (.set _ _ _ _ (by simp))), own (h3.box h3.rl (hp 1 (by omega)) (.set _ _ _ _ (by simp))), own (h3.box h3.rl (hp 2 (by omega)) (.set _ _ _ _ (by simp)))⟩
end
section
variable {w w' : World} {I : Ids} {x : Hs}
def flen (x : Hs) (a : Int) : Int := if a ∈ x.tk then ((tc.fls x a).length : Int) else -1
def ser (x : Hs) (a : Int) : Int := x.xs.getD a.toNat 0 / 128
theorem ob_at (V : st.Iv x) (s8 : x.cnt < 1099511627776) {a : Int} (ha : a ∈ x.tk) : ∃ A s n : Nat, a = A ∧ Ob x A s n ∧ (n : Int) + 1 ≤ bz x.ks A ∧ s < x.cnt ∧ (tc.fls x a).length = n ∧ ser x a = s := by
  obtain ⟨A, s, n, rfl, h1, h2, h3⟩ := V.ob ha (by omega)
  refine ⟨A, s, n, rfl, h1, h2, h3, (tc.fls_ob h1).1, ?_⟩
  have := h1.wd
  have := h1.n8
  unfold ser
  rw [Int.toNat_natCast]
  omega
theorem sFields (H : Sr w I x) (V : st.Iv x) (s8 : x.cnt < 1099511627776) (a : Int) : Calls Tryz.prog 97 #[.pointer (some ⟨I.S, 0, none⟩), .int .i64 a] w fun e w' => e = .returned (.int .i64 (flen x a)) ∧ w.grownBy w' none := by
  by_cases ha : a ∈ x.tk
  · obtain ⟨A, s, n, rfl, h1, h2, h3, h4, _⟩ := ob_at V s8 ha
    have e : flen x A = n := by unfold flen; rw [if_pos ha, h4]
    rw [e]
    exact Fields_yes H h1
  · have e : flen x a = -1 := by unfold flen; rw [if_neg ha]
    rw [e]
    exact Fields_no H ha
end
end Go.Proofs.YtkgdcgmbapchcaaGreatDoor.cy
