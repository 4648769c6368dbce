/- Texts that this claim stands on. -/
import Derived.BigQuiet
import Derived.Deep.RegionHeld3
import Derived.Test.YtkgdcgmbapchcaaGreatDoorPCyF
namespace Go.Proofs.YtkgdcgmbapchcaaGreatDoor.cy
open Go.ChangeShapes Go.WideShapes Go.ChangeAt Go.RowKit gen calls cls geos ce st sh
set_option linter.unusedVariables false
set_option maxHeartbeats 4000000
set_option maxRecDepth 100000
def Cx (w0 : World) (k : Kn) (c : Cb) (L0 K0 : List Nat) (σ : Cy) (W : World) : Prop :=
  ∃ L K, (∀ q, q ∈ L → q ∈ L0 ∨ w0.heap.size ≤ q) ∧ (∀ q, q ∈ K → q ∈ K0 ∨ w0.heap.size ≤ q) ∧ Cw W k c L K σ ∧ Gr (al c L0 K0) w0 W
section
variable {w0 W W' : World} {k : Kn} {c : Cb} {L0 K0 L K L' K' M : List Nat} {σ τ : Cy} {F : Nat} {args : Array Value} {v : Value}
theorem Cx.start (h : Cw W k c L K σ) : Cx W k c L K σ W := ⟨L, K, fun q => .inl, fun q => .inl, h, ⟨rfl, rfl, rfl, Nat.le_refl _, fun _ _ _ => rfl⟩⟩
theorem al_old (hL : ∀ q, q ∈ L → q ∈ L0 ∨ w0.heap.size ≤ q) (hK : ∀ q, q ∈ K → q ∈ K0 ∨ w0.heap.size ≤ q) : ∀ q, q ∈ al c L K → q ∈ al c L0 K0 ∨ w0.heap.size ≤ q := fun q hq => by
  rcases in_al.1 hq with e | e | e | e | e | e | e
  · exact .inl (in_al.2 (.inl e))
  · exact .inl (in_al.2 (.inr (.inl e)))
  · exact .inl (in_al.2 (.inr (.inr (.inl e))))
  · exact .inl (in_al.2 (.inr (.inr (.inr (.inl e)))))
  · exact (hL q e).imp (fun e => in_al.2 (.inr (.inr (.inr (.inr (.inl e)))))) (fun e => e)
  · exact (hK q e).imp (fun e => in_al.2 (.inr (.inr (.inr (.inr (.inr (.inl e))))))) (fun e => e)
  · exact .inl (in_al.2 (.inr (.inr (.inr (.inr (.inr (.inr e)))))))
theorem Cx.step {L K : List Nat} (hL : ∀ q, q ∈ L → q ∈ L0 ∨ w0.heap.size ≤ q) (hK : ∀ q, q ∈ K → q ∈ K0 ∨ w0.heap.size ≤ q) (hg : Gr (al c L0 K0) w0 W) (hL' : ∀ q, q ∈ L' → q ∈ L ∨ W.heap.size ≤ q) (hK' : ∀ q, q ∈ K' → q ∈ K ∨ W.heap.size ≤ q) (h : Cw W' k c L' K' τ) (hm : Gr M W W') (hM : ∀ q, q ∈ M → q ∈ al c L K) : Cx w0 k c L0 K0 τ W' :=
  ⟨L', K', fun q hq => (hL' q hq).elim (hL q) fun e => .inr (Nat.le_trans hg.size e), fun q hq => (hK' q hq).elim (hK q) fun e => .inr (Nat.le_trans hg.size e), h, hg.own hm fun q hq => al_old hL hK q (hM q hq)⟩
theorem Cx.call (h : Cx w0 k c L0 K0 σ W) (C : ∀ L K, Cw W k c L K σ → Calls Tryz.prog F args W fun e w' => e = .returned v ∧ Cx W k c L K τ w') : Calls Tryz.prog F args W fun e w' => e = .returned v ∧ Cx w0 k c L0 K0 τ w' := by
  have h0 := h
  obtain ⟨L, K, h1, h2, h3, h4⟩ := h
  refine (C L K h3).mono fun e w' ⟨k1, L', K', k2, k3, k4, k5⟩ => ⟨k1, Cx.step h1 h2 h4 k2 k3 k4 k5 fun q hq => hq⟩
theorem Cx.new (h : Cx w0 k c L0 K0 σ W) (hg : W.grownBy W' none) : Cx w0 k c L0 K0 σ W' := by
  obtain ⟨L, K, h1, h2, h3, h4⟩ := h
  exact ⟨L, K, h1, h2, h3.new hg, h4.made hg⟩
theorem Cx.gro (h : Cx w0 k c L0 K0 σ W) : Gr (al c L0 K0) w0 W := by
  obtain ⟨L, K, h1, h2, h3, h4⟩ := h
  exact h4
theorem Cx.tell (h : Cx w0 k c L0 K0 σ W) (C : ∀ L K, Cw W k c L K σ → Calls Tryz.prog F args W fun e w' => e = .returned v ∧ W.grownBy w' none) : Calls Tryz.prog F args W fun e w' => e = .returned v ∧ Cx w0 k c L0 K0 σ w' := by
  have h0 := h
  obtain ⟨L, K, h1, h2, h3, h4⟩ := h
  exact (C L K h3).mono fun e w' ⟨k1, k2⟩ => ⟨k1, h0.new k2⟩
theorem Cx.grey (h : Cx w0 k c L0 K0 σ W) {s' : Ps} (C : ∀ L K, Cw W k c L K σ → Calls Tryz.prog F args W (Ga L c.g k.r v s' W)) : Calls Tryz.prog F args W fun e w' => e = .returned v ∧ Cx w0 k c L0 K0 { σ with s := s' } w' :=
  h.call fun L K h => (C L K h).mono fun e w' ⟨k1, L', k2, k3, k4⟩ => ⟨k1, Cx.step (fun q => .inl) (fun q => .inl) ⟨rfl, rfl, rfl, Nat.le_refl _, fun _ _ _ => rfl⟩ k2 (fun q => .inl) (h.grey k2 k3 k4) k4 fun q hq => in_al.2 (by simp [hq])⟩
theorem Cx.store (h : Cx w0 k c L0 K0 σ W) {x' : Hs} (hv : st.Iv x') (s8 : x'.cnt < 1099511627776) (C : ∀ L K, Cw W k c L K σ → Calls Tryz.prog F args W (Done c.I v x' W)) : Calls Tryz.prog F args W fun e w' => e = .returned v ∧ Cx w0 k c L0 K0 { σ with x := x' } w' :=
  h.call fun L K h => (C L K h).mono fun e w' ⟨k1, k2, k3⟩ => ⟨k1, Cx.step (fun q => .inl) (fun q => .inl) ⟨rfl, rfl, rfl, Nat.le_refl _, fun _ _ _ => rfl⟩ (fun q => .inl) (fun q => .inl) (h.store k2 hv s8 k3) k3 fun q hq => in_al.2 (by simp [sw.IL_all hq])⟩
theorem Cx.sweeper (h : Cx w0 k c L0 K0 σ W) {q' f' : Nat} (C : ∀ L K, Cw W k c L K σ → Calls Tryz.prog F args W fun e w' => e = .returned v ∧ sw.So w' c.v c.I.S c.g k.N q' f' ∧ Gr [c.v] W w') : Calls Tryz.prog F args W fun e w' => e = .returned v ∧ Cx w0 k c L0 K0 { σ with q := q', f := f' } w' :=
  h.call fun L K h => (C L K h).mono fun e w' ⟨k1, k2, k3⟩ => ⟨k1, Cx.step (fun q => .inl) (fun q => .inl) ⟨rfl, rfl, rfl, Nat.le_refl _, fun _ _ _ => rfl⟩ (fun q => .inl) (fun q => .inl) (h.sweeper k2 k3) k3 fun q hq => in_al.2 (by simp at hq; simp [hq])⟩
theorem Cx.reg (h : Cx w0 k c L0 K0 σ W) {e' : Nat} {th' : List Int} (C : ∀ L K, Cw W k c L K σ → Calls Tryz.prog F args W fun r w' => r = .returned v ∧ ep.Rg w' c.e true e' th' ∧ W.grownBy w' (some c.e)) : Calls Tryz.prog F args W fun e w' => e = .returned v ∧ Cx w0 k c L0 K0 { σ with e := e', th := th' } w' :=
  h.call fun L K h => (C L K h).mono fun e w' ⟨k1, k2, k3⟩ => ⟨k1, Cx.step (fun q => .inl) (fun q => .inl) ⟨rfl, rfl, rfl, Nat.le_refl _, fun _ _ _ => rfl⟩ (fun q => .inl) (fun q => .inl) (h.reg k2 (.one k3 (by simp))) (Gr.one (L := [c.e]) k3 (by simp)) fun q hq => in_al.2 (by simp at hq; simp [hq])⟩
theorem cg {L : List Nat} {w w' : World} (h : bf.Gr L w w') : Gr L w w' := ⟨h.os, h.tape, h.output, h.size, h.block⟩
theorem Cx.bufs (h : Cx w0 k c L0 K0 σ W) {bf' : List (List Int)} (C : ∀ L K, Cw W k c L K σ → Calls Tryz.prog F args W fun r w' => r = .returned v ∧ ∃ K', (∀ q, q ∈ K' → q ∈ K ∨ W.heap.size ≤ q) ∧ bf.Bf w' K' c.b bf' ∧ bf.Gr K W w') : Calls Tryz.prog F args W fun e w' => e = .returned v ∧ Cx w0 k c L0 K0 { σ with bf := bf' } w' :=
  h.call fun L K h => (C L K h).mono fun e w' ⟨k1, K', k2, k3, k4⟩ => ⟨k1, Cx.step (fun q => .inl) (fun q => .inl) ⟨rfl, rfl, rfl, Nat.le_refl _, fun _ _ _ => rfl⟩ (fun q => .inl) k2 (h.bufs k2 k3 (cg k4)) (cg k4) fun q hq => in_al.2 (by simp [hq])⟩
theorem Cw.cells (h : Cw W k c L K σ) : W.cell? ⟨c.B, 0, none⟩ = some (.pointer (some ⟨c.I.S, 0, none⟩)) ∧ W.cell? ⟨c.B, 1, none⟩ = some (.pointer (some ⟨c.g, 0, none⟩)) ∧ W.cell? ⟨c.B, 2, none⟩ = some (.pointer (some ⟨c.t, 0, none⟩)) ∧ W.cell? ⟨c.B, 3, none⟩ = some (.pointer (some ⟨c.v, 0, none⟩)) ∧ W.cell? ⟨c.B, 4, none⟩ = some (.int .i64 k.gl) ∧ W.cell? ⟨c.B, 5, none⟩ = some (.pointer (some ⟨c.e, 0, none⟩)) ∧ W.cell? ⟨c.B, 6, none⟩ = some (.pointer (some ⟨c.b, 0, none⟩)) ∧ W.cell? ⟨c.B, 271, none⟩ = some (.int .i64 σ.ph) ∧ W.cell? ⟨c.B, 272, none⟩ = some (.int .i64 σ.cy) ∧ W.cell? ⟨c.B, 273, none⟩ = some (.int .i64 σ.un) ∧ (∀ j, W.frozen? ⟨c.B, j, none⟩ = false) ∧ c.B < W.heap.size := by
  have e : ∀ i, W.cell? ⟨c.B, i, none⟩ = (bxc c k.gl σ.rt σ.ph σ.cy σ.un)[i]? := fun i => by rw [cell_of_row W c.B i _ _ _ h.bx, List.getElem?_toArray]
  refine ⟨?_, ?_, ?_, ?_, ?_, ?_, ?_, ?_, ?_, ?_, fun j => frozen_of_row W c.B j _ _ h.bx, (Array.getElem?_eq_some_iff.1 h.bx).1⟩
  · rw [e, bx_low (by omega)]; rfl
  · rw [e, bx_low (by omega)]; rfl
  · rw [e, bx_low (by omega)]; rfl
  · rw [e, bx_low (by omega)]; rfl
  · rw [e, bx_low (by omega)]; rfl
  · rw [e, bx_low (by omega)]; rfl
  · rw [e, bx_low (by omega)]; rfl
  · rw [e, bx_end h.rl 0]; rfl
  · rw [e, bx_end h.rl 1]; rfl
  · rw [e, bx_end h.rl 2]; rfl
theorem Cx.cells (h : Cx w0 k c L0 K0 σ W) : W.cell? ⟨c.B, 0, none⟩ = some (.pointer (some ⟨c.I.S, 0, none⟩)) ∧ W.cell? ⟨c.B, 1, none⟩ = some (.pointer (some ⟨c.g, 0, none⟩)) ∧ W.cell? ⟨c.B, 2, none⟩ = some (.pointer (some ⟨c.t, 0, none⟩)) ∧ W.cell? ⟨c.B, 3, none⟩ = some (.pointer (some ⟨c.v, 0, none⟩)) ∧ W.cell? ⟨c.B, 4, none⟩ = some (.int .i64 k.gl) ∧ W.cell? ⟨c.B, 5, none⟩ = some (.pointer (some ⟨c.e, 0, none⟩)) ∧ W.cell? ⟨c.B, 6, none⟩ = some (.pointer (some ⟨c.b, 0, none⟩)) ∧ W.cell? ⟨c.B, 271, none⟩ = some (.int .i64 σ.ph) ∧ W.cell? ⟨c.B, 272, none⟩ = some (.int .i64 σ.cy) ∧ W.cell? ⟨c.B, 273, none⟩ = some (.int .i64 σ.un) ∧ (∀ j, W.frozen? ⟨c.B, j, none⟩ = false) ∧ c.B < W.heap.size := by
  obtain ⟨L, K, h1, h2, h3, h4⟩ := h
  exact h3.cells
theorem Cx.put (h : Cx w0 k c L0 K0 σ W) (u : Nat) : Cx w0 k c L0 K0 { σ with ph := u } (W.setCell ⟨c.B, 271, none⟩ (.int .i64 u)) ∧ Cx w0 k c L0 K0 { σ with cy := u } (W.setCell ⟨c.B, 272, none⟩ (.int .i64 u)) ∧ Cx w0 k c L0 K0 { σ with un := u } (W.setCell ⟨c.B, 273, none⟩ (.int .i64 u)) := by
  obtain ⟨L, K, h1, h2, h3, h4⟩ := h
  have own : ∀ {τ : Cy} {o : Nat}, Cw (W.setCell ⟨c.B, o, none⟩ (.int .i64 u)) k c L K τ → Cx w0 k c L0 K0 τ (W.setCell ⟨c.B, o, none⟩ (.int .i64 u)) := fun hc => Cx.step h1 h2 h4 (fun q => .inl) (fun q => .inl) hc (Gr.set (L := [c.B]) _ _ _ _ (by simp)) fun q hq => in_al.2 (by simp at hq; simp [hq])
  have hp : ∀ j, j < 3 → (W.setCell ⟨c.B, 271 + j, none⟩ (.int .i64 (u : Int))).heap[c.B]? = some (.cells (hd7 c k.gl ++ (hc σ.rt ++ [Value.int .i64 σ.ph, .int .i64 σ.cy, .int .i64 σ.un].set j (.int .i64 u))).toArray 65 (0, 0)) := fun j hj => by
    have e := heap_setCell_same W c.B (271 + j) _ _ (.int .i64 (u : Int)) h3.bx
    rw [List.setIfInBounds_toArray, bx_set h3.rl j hj] at e
    exact e
  exact ⟨own (h3.box h3.rl (hp 0 (by omega)) (.set _ _ _ _ (by simp))), own (h3.box h3.rl (hp 1 (by omega)) (.set _ _ _ _ (by simp))), own (h3.box h3.rl (hp 2 (by omega)) (.set _ _ _ _ (by simp)))⟩
theorem Cw.rt (h : Cw W k c L K σ) {t : Nat} (ht : t < 8) : rx.Rt W c.B (7 + t * 33) (bxc c k.gl σ.rt σ.ph σ.cy σ.un) (σ.rt.getD t []) :=
  ⟨h.bx, h.rl.2 _ (by
    rw [List.getD_eq_getElem?_getD, List.getElem?_eq_getElem (by rw [h.rl.1]; exact ht)]
    exact List.getElem_mem _), bx_sg h.rl ht⟩
theorem Cx.rput (h : Cx w0 k c L0 K0 σ W) {t : Nat} (ht : t < 8) {l : List Va} (C : ∀ L K, Cw W k c L K σ → Calls Tryz.prog F args W fun e w' => e = .returned v ∧ (∃ cs', rx.Rt w' c.B (7 + t * 33) cs' l ∧ rx.Out (7 + t * 33) (bxc c k.gl σ.rt σ.ph σ.cy σ.un) cs') ∧ W.grownBy w' (some c.B)) : Calls Tryz.prog F args W fun e w' => e = .returned v ∧ Cx w0 k c L0 K0 { σ with rt := σ.rt.set t l } w' :=
  h.call fun L K h => (C L K h).mono fun e w' ⟨k1, ⟨cs', k2, k3⟩, k4⟩ => by
    have e2 := bx_put h.rl ht k2.2.1 k2.2.2 k3
    have hb := k2.1
    rw [e2] at hb
    exact ⟨k1, Cx.step (fun q => .inl) (fun q => .inl) ⟨rfl, rfl, rfl, Nat.le_refl _, fun _ _ _ => rfl⟩ (fun q => .inl) (fun q => .inl) (h.box (h.rl.set t k2.2.1) hb (.one k4 (by simp))) (Gr.one (L := [c.B]) k4 (by simp)) fun q hq => in_al.2 (by simp at hq; simp [hq])⟩
end
section
variable {w w' : World} {I : Ids} {x : Hs}
def flen (x : Hs) (a : Int) : Int := if a ∈ x.tk then ((tc.fls x a).length : Int) else -1
def ser (x : Hs) (a : Int) : Int := x.xs.getD a.toNat 0 / 128
theorem ob_at (V : st.Iv x) (s8 : x.cnt < 1099511627776) {a : Int} (ha : a ∈ x.tk) : ∃ A s n : Nat, a = A ∧ Ob x A s n ∧ (n : Int) + 1 ≤ bz x.ks A ∧ s < x.cnt ∧ (tc.fls x a).length = n ∧ ser x a = s := by
  obtain ⟨A, s, n, rfl, h1, h2, h3⟩ := V.ob ha (by omega)
  refine ⟨A, s, n, rfl, h1, h2, h3, (tc.fls_ob h1).1, ?_⟩
  have := h1.wd
  have := h1.n8
  unfold ser
  rw [Int.toNat_natCast]
  omega
theorem sFields (H : Sr w I x) (V : st.Iv x) (s8 : x.cnt < 1099511627776) (a : Int) : Calls Tryz.prog 97 #[.pointer (some ⟨I.S, 0, none⟩), .int .i64 a] w fun e w' => e = .returned (.int .i64 (flen x a)) ∧ w.grownBy w' none := by
  by_cases ha : a ∈ x.tk
  · obtain ⟨A, s, n, rfl, h1, h2, h3, h4, _⟩ := ob_at V s8 ha
    have e : flen x A = n := by unfold flen; rw [if_pos ha, h4]
    rw [e]
    exact Fields_yes H h1
  · have e : flen x a = -1 := by unfold flen; rw [if_neg ha]
    rw [e]
    exact Fields_no H ha
theorem sSerial (H : Sr w I x) (V : st.Iv x) (s8 : x.cnt < 1099511627776) (a : Int) : Calls Tryz.prog 98 #[.pointer (some ⟨I.S, 0, none⟩), .int .i64 a] w fun e w' => e = .returned (.int .i64 (if a ∈ x.tk then ser x a else -1)) ∧ w.grownBy w' none := by
  by_cases ha : a ∈ x.tk
  · obtain ⟨A, s, n, rfl, h1, h2, h3, h4, h5⟩ := ob_at V s8 ha
    rw [if_pos ha, h5]
    exact Serial_yes H h1
  · rw [if_neg ha]
    exact Serial_no H ha
def fget (x : Hs) (a i : Int) : Option Va := if a ∈ x.tk ∧ 0 ≤ i then (tc.fls x a)[i.toNat]? else none
def va0 (o : Option Va) : Va := o.getD (0, 0)
theorem sGet (H : Sr w I x) (V : st.Iv x) (hw : wok x) (s8 : x.cnt < 1099511627776) (a i : Int) : Calls Tryz.prog 83 #[.pointer (some ⟨I.S, 0, none⟩), .int .i64 a, .int .i64 i] w fun e w' => e = wd.ans (va0 (fget x a i)).1 (va0 (fget x a i)).2 (fget x a i).isSome ∧ w.grownBy w' none := by
  by_cases ha : a ∈ x.tk
  · obtain ⟨A, s, n, rfl, h1, h2, h3, h4, h5⟩ := ob_at V s8 ha
    by_cases hi : 0 ≤ i ∧ i < n
    · obtain ⟨j, rfl⟩ : ∃ j : Nat, i = j := ⟨i.toNat, by omega⟩
      have e : fget x A j = some (tc.rdv (x.xs.getD (A + 1 + j) 0)) := by
        unfold fget
        rw [if_pos ⟨ha, by omega⟩, Int.toNat_natCast, List.getElem?_eq_getElem (by omega)]
        have := (tc.fls_ob h1).2 j (by omega)
        rw [List.getD_eq_getElem?_getD, List.getElem?_eq_getElem (by omega)] at this
        exact congrArg some this
      have hb := hw A ha j (by omega)
      rw [Int.toNat_natCast] at hb
      rw [e]
      exact Get_yes H h1 (by omega) h2 rfl rfl hb
    · have e : fget x A i = none := by
        unfold fget
        split
        · rw [List.getElem?_eq_none (by omega)]
        · rfl
      rw [e]
      refine Get_no H ?_
      by_cases h0 : i < 0
      · exact .inl h0
      · exact .inr (.inr ⟨A, s, n, rfl, h1, by omega⟩)
  · have e : fget x a i = none := by unfold fget; rw [if_neg (fun h => ha h.1)]
    rw [e]
    exact Get_no H (.inr (.inl ha))
end
end Go.Proofs.YtkgdcgmbapchcaaGreatDoor.cy
namespace Go.Proofs.YtkgdcgmbapchcaaGreatDoor.cy
open Go.ChangeShapes Go.WideShapes Go.ChangeAt Go.RowKit gen calls cls geos ce st sh
set_option linter.unusedVariables false
set_option maxHeartbeats 4000000
set_option maxRecDepth 100000
section
variable {w w' : World} {k : Kn} {c : Cb} {L K M : List Nat} {σ : Cy} {B g r n cc : Nat} {s : Ps}
theorem there_any (B : Nat) (w : World) : Calls Tryz.prog 64 #[.pointer (some ⟨B, 0, none⟩)] w fun e w' => e = .returned (.pointer (some ⟨B, 0, none⟩)) ∧ w = w' := by
  go_enter Tryz.func64, Tryz.ntmps64
  go_wp2
  go_ret
  exact ⟨rfl, rfl⟩
theorem Phase_any (h : Cw w k c L K σ) : Calls Tryz.prog 21 #[.pointer (some ⟨c.B, 0, none⟩)] w fun e w' => e = .returned (.int .i64 σ.ph) ∧ w = w' := by
  obtain ⟨c0, c1, c2, c3, c4, c5, c6, c7, c8, c9, fz, hz⟩ := h.cells
  clear h
  go_enter Tryz.func21, Tryz.ntmps21
  go_wp2_with (go_at_call 64; (with_reducible refine (there_any _ _).mono ?_); rintro e w' ⟨rfl, rfl⟩)
  go_ret
  exact ⟨rfl, rfl⟩
theorem Cycles_any (h : Cw w k c L K σ) : Calls Tryz.prog 24 #[.pointer (some ⟨c.B, 0, none⟩)] w fun e w' => e = .returned (.int .i64 σ.cy) ∧ w = w' := by
  obtain ⟨c0, c1, c2, c3, c4, c5, c6, c7, c8, c9, fz, hz⟩ := h.cells
  clear h
  go_enter Tryz.func24, Tryz.ntmps24
  go_wp2_with (go_at_call 64; (with_reducible refine (there_any _ _).mono ?_); rintro e w' ⟨rfl, rfl⟩)
  go_ret
  exact ⟨rfl, rfl⟩
theorem Global_any (h : Cw w k c L K σ) : Calls Tryz.prog 42 #[.pointer (some ⟨c.B, 0, none⟩)] w fun e w' => e = .returned (.int .i64 k.gl) ∧ w = w' := by
  obtain ⟨c0, c1, c2, c3, c4, c5, c6, c7, c8, c9, fz, hz⟩ := h.cells
  clear h
  go_enter Tryz.func42, Tryz.ntmps42
  go_wp2_with (go_at_call 64; (with_reducible refine (there_any _ _).mono ?_); rintro e w' ⟨rfl, rfl⟩)
  go_ret
  exact ⟨rfl, rfl⟩
theorem At_any (h : Cw w k c L K σ) : Calls Tryz.prog 23 #[.pointer (some ⟨c.B, 0, none⟩)] w fun e w' => e = .returned (.int .i64 σ.q) ∧ w = w' := by
  obtain ⟨c0, c1, c2, c3, c4, c5, c6, c7, c8, c9, fz, hz⟩ := h.cells
  have CC := Lib.hid (sw.At_any h.so)
  clear h
  go_enter Tryz.func23, Tryz.ntmps23
  go_wp2_with (first
    | (go_at_call 64; (with_reducible refine (there_any _ _).mono ?_); rintro e w' ⟨rfl, rfl⟩)
    | (go_at_call 67; (with_reducible refine CC.out.mono ?_); rintro e w2 ⟨rfl, rfl⟩))
  go_ret
  exact ⟨rfl, rfl⟩
theorem Live_any (h : Cw w k c L K σ) (t : Int) : Calls Tryz.prog 38 #[.pointer (some ⟨c.B, 0, none⟩), .int .i64 t] w fun e w' => e = .returned (.bool (σ.lv t)) ∧ w = w' := by
  obtain ⟨c0, c1, c2, c3, c4, c5, c6, c7, c8, c9, fz, hz⟩ := h.cells
  have CC := Lib.hid (ep.Live_any h.rg t)
  clear h
  go_enter Tryz.func38, Tryz.ntmps38
  go_wp2_with (first
    | (go_at_call 64; (with_reducible refine (there_any _ _).mono ?_); rintro e w' ⟨rfl, rfl⟩)
    | (go_at_call 95; (with_reducible refine CC.out.mono ?_); rintro e w2 ⟨rfl, rfl⟩))
  go_ret
  exact ⟨rfl, rfl⟩
theorem Fields_any (h : Cw w k c L K σ) (a : Int) : Calls Tryz.prog 40 #[.pointer (some ⟨c.B, 0, none⟩), .int .i64 a] w fun e w' => e = .returned (.int .i64 (flen σ.x a)) ∧ w.grownBy w' none := by
  obtain ⟨c0, c1, c2, c3, c4, c5, c6, c7, c8, c9, fz, hz⟩ := h.cells
  have CC := Lib.hid (sFields h.tw.sr h.tw.iv h.tw.s8 a)
  clear h
  go_enter Tryz.func40, Tryz.ntmps40
  go_wp2_with (first
    | (go_at_call 64; (with_reducible refine (there_any _ _).mono ?_); rintro e w' ⟨rfl, rfl⟩)
    | (go_at_call 97; (with_reducible refine CC.out.mono ?_); rintro e w2 ⟨rfl, hg⟩; have G2 := Lib.hid hg; clear hg))
  go_ret
  exact ⟨rfl, G2.out⟩
theorem Serial_any (h : Cw w k c L K σ) (a : Int) : Calls Tryz.prog 41 #[.pointer (some ⟨c.B, 0, none⟩), .int .i64 a] w fun e w' => e = .returned (.int .i64 (if a ∈ σ.x.tk then ser σ.x a else -1)) ∧ w.grownBy w' none := by
  obtain ⟨c0, c1, c2, c3, c4, c5, c6, c7, c8, c9, fz, hz⟩ := h.cells
  have CC := Lib.hid (sSerial h.tw.sr h.tw.iv h.tw.s8 a)
  generalize (if a ∈ σ.x.tk then ser σ.x a else -1) = z at *
  clear h
  go_enter Tryz.func41, Tryz.ntmps41
  go_wp2_with (first
    | (go_at_call 64; (with_reducible refine (there_any _ _).mono ?_); rintro e w' ⟨rfl, rfl⟩)
    | (go_at_call 98; (with_reducible refine CC.out.mono ?_); rintro e w2 ⟨rfl, hg⟩; have G2 := Lib.hid hg; clear hg))
  go_ret
  exact ⟨rfl, G2.out⟩
theorem Objects_any (h : Cw w k c L K σ) (hT : bm.Tab w) (h0 : c.I.s ≠ 1) : Calls Tryz.prog 20 #[.pointer (some ⟨c.B, 0, none⟩)] w (bm.ListAns σ.x.tk w) := by
  obtain ⟨c0, c1, c2, c3, c4, c5, c6, c7, c8, c9, fz, hz⟩ := h.cells
  have CC := Lib.hid (tc.Objects_any h.tw.sr hT h0)
  clear h
  go_enter Tryz.func20, Tryz.ntmps20
  go_wp2_with (first
    | (go_at_call 64; (with_reducible refine (there_any _ _).mono ?_); rintro e w' ⟨rfl, rfl⟩)
    | (go_at_call 65; (with_reducible refine CC.out.mono ?_); rintro e w2 ⟨A, d, rfl, ho, hg⟩; have HO := Lib.hid ho; have HG := Lib.hid hg; clear ho hg))
  go_ret
  exact ⟨A, d, rfl, HO.out, HG.out⟩
theorem Read_any (h : Cw w k c L K σ) (hw : wok σ.x) (a i : Int) : Calls Tryz.prog 32 #[.pointer (some ⟨c.B, 0, none⟩), .int .i64 a, .int .i64 i] w fun e w' => e = wd.ans (va0 (fget σ.x a i)).1 (va0 (fget σ.x a i)).2 (fget σ.x a i).isSome ∧ w.grownBy w' none := by
  have G0 := Lib.hid (World.grownBy_alloc w (.cells #[.int .i64 0, .int .i64 0] 36) none)
  have C0 := Lib.hid (wd.Two.new w 36 0 0 rfl)
  have CC := Lib.hid (fun W (hg : w.grownBy W none) => sGet (h.new hg).tw.sr h.tw.iv hw h.tw.s8 a i)
  obtain ⟨c0, c1, c2, c3, c4, c5, c6, c7, c8, c9, fz, hz⟩ := (h.new G0.out).cells
  generalize fget σ.x a i = o at *
  generalize (va0 o).1 = x1 at *
  generalize (va0 o).2 = x2 at *
  generalize o.isSome = b at *
  clear h hw
  go_enter Tryz.func32, Tryz.ntmps32
  go_wp2_with (first
    | (go_at_call 64; (with_reducible refine (there_any _ _).mono ?_); rintro e w' ⟨rfl, rfl⟩)
    | (go_at_call 83; (with_reducible refine (CC.out _ G0.out).mono ?_); rintro e w1 ⟨rfl, hg⟩; obtain ⟨d0, d1, d2, d3⟩ := wd.Two.below (li.grown_below hg) C0.out; have G1 := Lib.hid (G0.out.trans hg); have hz1 : w.heap.size < w1.heap.size := (World.block_lt_of_cell? w1 _ d0); clear hg))
  refine bodyPost_ret (v := .tuple #[.agg #[.int .i64 x1, .int .i64 x2], .bool b]) ?_ rfl ⟨rfl, ?_⟩
  · simp [results, Tryz.results32, go_sem, *]
  · exact li.grown_new G1.out ((ro.grown_set _ _ _ _).trans (ro.grown_set _ _ _ _)) (Nat.le_refl _)
theorem has_any (h : Cw w k c L K σ) (a : Int) : Calls Tryz.prog 129 #[.pointer (some ⟨c.B, 0, none⟩), .int .i64 a] w fun e w' => e = .returned (.bool (decide (a ∈ σ.x.tk))) ∧ w.grownBy w' none := by
  obtain ⟨c0, c1, c2, c3, c4, c5, c6, c7, c8, c9, fz, hz⟩ := h.cells
  have CC := Lib.hid (sFields h.tw.sr h.tw.iv h.tw.s8 a)
  have HD : decide (0 ≤ flen σ.x a) = decide (a ∈ σ.x.tk) := by unfold flen; split <;> simp [*]
  generalize decide (a ∈ σ.x.tk) = b at *
  generalize flen σ.x a = z at *
  clear h
  go_enter Tryz.func129, Tryz.ntmps129
  go_wp2_with (go_at_call 97; (with_reducible refine CC.out.mono ?_); rintro e w2 ⟨rfl, hg⟩; have G2 := Lib.hid hg; clear hg)
  go_ret
  exact ⟨rfl, G2.out⟩
theorem keeps_any (h : Cw w k c L K σ) : Calls Tryz.prog 85 #[.pointer (some ⟨c.B, 0, none⟩)] w fun e w' => e = .returned (.bool σ.keeps) ∧ w = w' := by
  obtain ⟨c0, c1, c2, c3, c4, c5, c6, c7, c8, c9, fz, hz⟩ := h.cells
  clear h
  have HK := Lib.hid (show σ.keeps = (decide (2 ≤ σ.ph) && decide (σ.ph ≤ 4)) from rfl)
  generalize σ.keeps = b at *
  generalize σ.ph = p at *
  by_cases h1 : 2 ≤ p
  · have t1 : decide ((2 : Int) ≤ (p : Int)) = true := by simp; omega
    by_cases h2 : p ≤ 4
    · have t2 : decide ((p : Int) ≤ 4) = true := by simp; omega
      have HB := Lib.hid (show b = true by rw [HK.out]; simp [h1, h2])
      clear h1 h2 HK
      go_enter Tryz.func85, Tryz.ntmps85
      go_wp2
      go_ret
      exact ⟨by rw [HB.out]; rfl, rfl⟩
    · have t2 : decide ((p : Int) ≤ 4) = false := by simp; omega
      have HB := Lib.hid (show b = false by rw [HK.out]; simp [h2])
      clear h1 h2 HK
      go_enter Tryz.func85, Tryz.ntmps85
      go_wp2
      go_ret
      exact ⟨by rw [HB.out]; rfl, rfl⟩
  · have t1 : decide ((2 : Int) ≤ (p : Int)) = false := by simp; omega
    have HB := Lib.hid (show b = false by rw [HK.out]; simp [h1])
    clear h1 HK
    go_enter Tryz.func85, Tryz.ntmps85
    go_wp2
    go_ret
    exact ⟨by rw [HB.out]; rfl, rfl⟩
theorem shs_take {xs : List Int} {j : Nat} (h : j < xs.length) (r : Nat) (s : Ps) : shs r s (xs.take (j + 1)) = (shs r s (xs.take j)).shade r (xs.getD j 0) := by
  unfold shs
  rw [li.take_more h 0, List.foldl_append]
  rfl
theorem hshade_any (c1 : w.cell? ⟨B, 1, none⟩ = some (.pointer (some ⟨g, 0, none⟩))) (h : Gy w L g r s) (hB : B ∉ L) {b : Nat} {A : Option Addr} {xs : List Int} (hr : Rd w b A n cc xs) (hJ : ∀ ad, A = some ad → 0 < n → ad.block ∉ L) (hn : n ≤ 4096) (hb : ∀ ad, A = some ad → 0 < n → ad.block < w.heap.size) :
    Calls Tryz.prog 69 #[.pointer (some ⟨B, 0, none⟩), .slice A n cc] w (Ga L g r (.tuple #[]) (shs r s xs) w) := by
  have HH := Lib.hid h
  have HR := Lib.hid hr
  have HJ := Lib.hid hJ
  have HC := Lib.hid c1
  have HBl := Lib.hid hB
  have HLt := Lib.hid hb
  have TM := Lib.hid (fun j (hj : j < n) => shs_take (xs := xs) (j := j) (by rw [hr.1]; exact hj) r s)
  have FU := Lib.hid (show xs.take n = xs by rw [List.take_of_length_le (by rw [hr.1]; omega)])
  clear h hr hJ c1 hB hb
  go_enter Tryz.func69, Tryz.ntmps69
  go_wp2
  go_loopw [5, 8] (fun u i wr => ∃ (j : Nat) (L1 : List Nat), j ≤ n ∧ i = .int .i64 j ∧ (∀ q, q ∈ L1 → q ∈ L ∨ w.heap.size ≤ q) ∧ Gy wr L1 g r (shs r s (xs.take j)) ∧ Gr L w wr) (fun _ i _ => n - (intOf i).toNat)
  case atStart => exact ⟨0, L, Nat.zero_le _, rfl, fun q hq => .inl hq, HH.out, ⟨rfl, rfl, rfl, Nat.le_refl _, fun _ _ _ => rfl⟩⟩
  case round =>
    obtain ⟨j, L1, hj, rfl, hl1, hy1, hg1⟩ := hrel
    have HL1 := Lib.hid hl1
    have HY1 := Lib.hid hy1
    have HG1 := Lib.hid hg1
    clear hl1 hy1 hg1
    by_cases hlt : j < n
    · have c1 := HG1.out.cell HC.out HBl.out
      obtain ⟨b1, o1, e, g1⟩ := HR.out.at_ hlt
      have g1 := HG1.out.cell g1 (show b1 ∉ L from HJ.out ⟨b1, o1, none⟩ e (by omega))
      have M1 := Lib.hid (TM.out j hlt)
      have l1 : (0 : Int) ≤ (j : Int) := by omega
      have l2 : (j : Int) < n := by omega
      subst e
      generalize xs.getD j 0 = z at *
      have SH := Lib.hid (Shade_any HY1.out z)
      go_wp2_with (go_at_call 132; (with_reducible refine SH.out.mono ?_); rintro e2 w2 ⟨rfl, L2, h1, h2, h3⟩; have R2 := Lib.hid (And.intro h1 (And.intro h2 h3)); clear h1 h2 h3)
      go_roundw
      case rel =>
        obtain ⟨h1, h2, h3⟩ := R2.out
        exact ⟨j + 1, L2, by omega, by go_num, fun q hq => (h1 q hq).elim (HL1.out q) (fun e => .inr (Nat.le_trans HG1.out.size e)), by rw [M1.out]; exact h2, HG1.out.own h3 HL1.out⟩
      case measure => first | (simp [intOf]; done) | (simp [intOf]; omega)
    · obtain rfl : j = n := by omega
      go_wp2
      go_end0
      have h1 := HY1.out
      rw [FU.out] at h1
      exact ⟨rfl, L1, HL1.out, h1, HG1.out⟩
end
end Go.Proofs.YtkgdcgmbapchcaaGreatDoor.cy
