/- Joined: TrF, TrG, TrH, TrI, TrJ. -/
import Derived.Test.YtacjleladjgkeaaGreatDoorTrX
import Derived.BigQuiet
import Derived.StillTailTactics
import Derived.Deep.DeepCutAuto
/- What stands while the statement's own step goes on: the world, and what the step boxed. -/
namespace Go.Proofs.YtacjleladjgkeaaGreatDoor.tr
open Go.ChangeShapes Go.WideShapes Go.ChangeAt Go.RowKit gen calls cls geos ce st sh
set_option linter.unusedVariables false
set_option maxHeartbeats 4000000
set_option maxRecDepth 100000
abbrev Bxs := List (Nat × Obj)
/-- What the step boxed lies apart. -/
def Bs (W : World) (I : Ids) (t : Nat) (L K J : List Nat) (B : Nat) (bs : Bxs) : Prop := ∀ q ∈ bs, W.heap[q.1]? = some q.2 ∧ q.1 ∉ I.all ∧ q.1 ∉ t :: L ∧ q.1 ∉ K ∧ q.1 ∉ J ∧ q.1 ≠ B
/-- A world with boxes. -/
def Wm (w0 : World) (B : Nat) (I : Ids) (g r t N c H M : Nat) (x : Hs) (s : Ps) (n : Nat) (y : ph.Hq) (s2 : Ps) (p : Int) (bs : Bxs) (W : World) : Prop :=
  ∃ L K J, Wp w0 W B I x L g r s t N c n K H y J M s2 p ∧ Bs W I t L K J B bs
section
variable {w0 W W' : World} {B : Nat} {I : Ids} {x x' z : Hs} {L L' K K' J J' X : List Nat} {g r t N c n n' H M F : Nat} {s s' s2 s3 : Ps} {y y' : ph.Hq} {p p' : Int} {v : Value} {e : Ending} {bs : Bxs} {args : Array Value}
theorem Bs.gr (h : Bs W I t L K J B bs) (hg : Gr X W W') (hX : (∀ q ∈ X, q ∈ I.all) ∨ (∀ q ∈ X, q ∈ t :: L) ∨ (∀ q ∈ X, q ∈ K) ∨ ∀ q ∈ X, q ∈ J) (hL : ∀ q, q ∈ L' → q ∈ L ∨ W.heap.size ≤ q) (hK : ∀ q, q ∈ K' → q ∈ K ∨ W.heap.size ≤ q) (hJ : ∀ q, q ∈ J' → q ∈ J ∨ W.heap.size ≤ q) : Bs W' I t L' K' J' B bs := by
  intro q hq
  obtain ⟨h1, h2, h3, h4, h5, h6⟩ := h q hq
  have lt := (Array.getElem?_eq_some_iff.1 h1).1
  have nX : q.1 ∉ X := fun hm => by
    rcases hX with e | e | e | e
    · exact h2 (e _ hm)
    · exact h3 (e _ hm)
    · exact h4 (e _ hm)
    · exact h5 (e _ hm)
  refine ⟨hg.heap h1 nX, h2, fun hm => ?_, fun hm => ?_, fun hm => ?_, h6⟩
  · rcases List.mem_cons.1 hm with e | e
    · exact h3 (by rw [e]; simp)
    · rcases hL _ e with e | e
      · exact h3 (by simp [e])
      · omega
  · rcases hK _ hm with e | e
    · exact h4 e
    · omega
  · rcases hJ _ hm with e | e
    · exact h5 e
    · omega
theorem Wm.new (h : Wm w0 B I g r t N c H M x s n y s2 p bs W) (hg : W.grownBy W' none) : Wm w0 B I g r t N c H M x s n y s2 p bs W' := by
  obtain ⟨L, K, J, h1, h2⟩ := h
  exact ⟨L, K, J, h1.new hg, h2.gr (X := []) (Gr.new hg) (.inl (by simp)) (fun q => .inl) (fun q => .inl) (fun q => .inl)⟩
theorem Wm.start (h : Wp w0 W B I x L g r s t N c n K H y J M s2 p) : Wm w0 B I g r t N c H M x s n y s2 p [] W := ⟨L, K, J, h, by intro q hq; cases hq⟩
theorem Wm.box (h : Wm w0 B I g r t N c H M x s n y s2 p bs W) (o : Obj) {b : Nat} (hb : b = W.heap.size) : Wm w0 B I g r t N c H M x s n y s2 p ((b, o) :: bs) (W.alloc o) := by
  subst hb
  have h' := h.new (World.grownBy_alloc W o none)
  obtain ⟨L, K, J, h1, h2⟩ := h
  obtain ⟨l1, l2, l3, l4, l5⟩ := wlt h1
  have hg := World.grownBy_alloc W o none
  refine ⟨L, K, J, h1.new hg, fun q hq => ?_⟩
  rcases List.mem_cons.1 hq with rfl | hq
  · exact ⟨heap_alloc_new _ _, fun hm => by have := l1 _ hm; simp at this, fun hm => by have := l2 _ hm; simp at this, fun hm => by have := l3 _ hm; simp at this, fun hm => by have := l4 _ hm; simp at this, by simp; omega⟩
  · exact (h2.gr (X := []) (Gr.new hg) (.inl (by simp)) (fun q => .inl) (fun q => .inl) (fun q => .inl)) q hq
theorem Wm.trace (h : Wm w0 B I g r t N c H M x s n y s2 p bs W) (C : ∀ L, tc.Tw W I x L g r s t N c n → Calls Tryz.prog F args W (tc.Ta I x L g r v s' t N c n' W)) :
    Calls Tryz.prog F args W fun e w' => e = .returned v ∧ Wm w0 B I g r t N c H M x s' n' y s2 p bs w' := by
  obtain ⟨L, K, J, h1, h2⟩ := h
  refine (C L h1.tw).mono fun e w' ⟨k1, k2⟩ => ⟨k1, ?_⟩
  obtain ⟨L2, k3, k4, k5⟩ := h1.trace k2
  exact ⟨L2, K, J, k3, h2.gr k5 (.inr (.inl fun q hq => hq)) k4 (fun q => .inl) (fun q => .inl)⟩
theorem Wm.grey (h : Wm w0 B I g r t N c H M x s n y s2 p bs W) (C : ∀ L, Gy W L g r s → Calls Tryz.prog F args W (Ga L g r v s' W)) :
    Calls Tryz.prog F args W fun e w' => e = .returned v ∧ Wm w0 B I g r t N c H M x s' n y s2 p bs w' :=
  h.trace fun L hw => (C L hw.gy).mono fun e w' ⟨k1, L', k2, k3, k4⟩ => ⟨k1, L', k2, hw.grey k2 k3 k4, k4.mono (fun q hq => by simp [hq])⟩
theorem Wm.store (h : Wm w0 B I g r t N c H M x s n y s2 p bs W) (hv : Iv z) (s8 : z.cnt < 1099511627776) (C : Sr W I x → Iv x → Calls Tryz.prog F args W (Done I v z W)) :
    Calls Tryz.prog F args W fun e w' => e = .returned v ∧ Wm w0 B I g r t N c H M z s n y s2 p bs w' := by
  obtain ⟨L, K, J, h1, h2⟩ := h
  have sub : ∀ q, q ∈ I.L → q ∈ I.all := fun q hq => by simp [Ids.L] at hq; simp [Ids.all]; omega
  refine (C h1.tw.sr h1.tw.iv).mono fun e w' ⟨k1, k2, k3⟩ => ⟨k1, L, K, J, h1.store k2 hv s8 k3, h2.gr k3 (.inl sub) (fun q => .inl) (fun q => .inl) (fun q => .inl)⟩
theorem Wp.heap2 (h : Wp w0 W B I x L g r s t N c n K H y J M s2 p) (hf : ∀ o ∈ y'.ob, o.2.2.length ≤ 127) (h1 : ∀ q, q ∈ K' → q ∈ K ∨ W.heap.size ≤ q) (h2 : ph.Pl W' K' H y') (h3 : Gr K W W') :
    Wp w0 W' B I x L g r s t N c n K' H y' J M s2 p := by
  obtain ⟨l1, l2, l3, l4, l5⟩ := wlt h
  refine ⟨h.tw.gr h3 (fun q hq hm => (h.aI q hm).1 hq) (fun q hq hm => (h.aL q (by simp [hm])).1 hq) (fun hm => (h.aL t (by simp)).1 hm), ⟨h2, h.gp.bk.gr h3 (fun q hq hm => h.gp.ap q hq hm), fun q hq hm => ?_, hf⟩, h3.heap h.bx h.aB.1, fun q hq => ⟨fun hm => ?_, (h.aI q hq).2⟩, fun q hq => ⟨fun hm => ?_, (h.aL q hq).2⟩, ⟨fun hm => ?_, h.aB.2⟩, ⟨h.lo.1, h.lo.2.1, fun q hq => ?_, h.lo.2.2.2⟩, Gr.grown h.gr h3 h.lo.2.2.1⟩
  · rcases h1 q hm with e | e
    · exact h.gp.ap q hq e
    · have := l4 q hq; omega
  · rcases h1 q hm with e | e
    · exact (h.aI q hq).1 e
    · have := l1 q hq; omega
  · rcases h1 q hm with e | e
    · exact (h.aL q hq).1 e
    · have := l2 q hq; omega
  · rcases h1 B hm with e | e
    · exact h.aB.1 e
    · omega
  · rcases h1 q hq with e | e
    · exact h.lo.2.2.1 q e
    · exact Nat.le_trans h.gr.size e
theorem Wp.plain2 (h : Wp w0 W B I x L g r s t N c n K H y J M s2 p) (h1 : ∀ q, q ∈ J' → q ∈ J ∨ W.heap.size ≤ q) (h2 : Bk p' W' J' M r s3) (h3 : gr.Gr J W W') :
    Wp w0 W' B I x L g r s t N c n K H y J' M s3 p' := by
  obtain ⟨l1, l2, l3, l4, l5⟩ := wlt h
  have h3 : Gr J W W' := h3
  refine ⟨h.tw.gr h3 (fun q hq hm => (h.aI q hm).2.1 hq) (fun q hq hm => (h.aL q (by simp [hm])).2.1 hq) (fun hm => (h.aL t (by simp)).2.1 hm), h.gp.grey h1 h2 h3, h3.heap h.bx h.aB.2, fun q hq => ⟨(h.aI q hq).1, fun hm => ?_, (h.aI q hq).2.2⟩, fun q hq => ⟨(h.aL q hq).1, fun hm => ?_, (h.aL q hq).2.2⟩, ⟨h.aB.1, fun hm => ?_⟩, ⟨h.lo.1, h.lo.2.1, h.lo.2.2.1, fun q hq => ?_, h.lo.2.2.2.2⟩, Gr.grown h.gr h3 h.lo.2.2.2.1⟩
  · rcases h1 q hm with e | e
    · exact (h.aI q hq).2.1 e
    · have := l1 q hq; omega
  · rcases h1 q hm with e | e
    · exact (h.aL q hq).2.1 e
    · have := l2 q hq; omega
  · rcases h1 B hm with e | e
    · exact h.aB.2 e
    · omega
  · rcases h1 q hq with e | e
    · exact h.lo.2.2.2.1 q e
    · exact Nat.le_trans h.gr.size e
theorem Wm.heap (h : Wm w0 B I g r t N c H M x s n y s2 p bs W) (hf : ∀ o ∈ y'.ob, o.2.2.length ≤ 127) (C : ∀ K, ph.Pl W K H y → Calls Tryz.prog F args W (ph.Pa K H v y' W)) :
    Calls Tryz.prog F args W fun e w' => e = .returned v ∧ Wm w0 B I g r t N c H M x s n y' s2 p bs w' := by
  obtain ⟨L, K, J, h1, h2⟩ := h
  refine (C K h1.gp.pl).mono fun e w' ⟨k1, K', k2, k3, k4⟩ => ⟨k1, L, K', J, h1.heap2 hf k2 k3 k4, h2.gr k4 (.inr (.inr (.inl fun q hq => hq))) (fun q => .inl) k2 (fun q => .inl)⟩
theorem Wm.plain (h : Wm w0 B I g r t N c H M x s n y s2 p bs W) (C : ∀ K J, Gp W K H y J M r s2 p → Calls Tryz.prog F args W (Ba p' J M r v s3 W)) :
    Calls Tryz.prog F args W fun e w' => e = .returned v ∧ Wm w0 B I g r t N c H M x s n y s3 p' bs w' := by
  obtain ⟨L, K, J, h1, h2⟩ := h
  refine (C K J h1.gp).mono fun e w' ⟨k1, J', k2, k3, k4⟩ => ⟨k1, L, K, J', h1.plain2 k2 k3 k4, h2.gr (show Gr J W w' from k4) (.inr (.inr (.inr fun q hq => hq))) (fun q => .inl) (fun q => .inl) k2⟩
theorem Wm.cells (h : Wm w0 B I g r t N c H M x s n y s2 p bs W) : W.cell? ⟨B, 0, none⟩ = some (.pointer (some ⟨I.S, 0, none⟩)) ∧ W.cell? ⟨B, 1, none⟩ = some (.pointer (some ⟨g, 0, none⟩)) ∧ W.cell? ⟨B, 2, none⟩ = some (.pointer (some ⟨t, 0, none⟩)) ∧ W.cell? ⟨B, 3, none⟩ = some (.pointer (some ⟨H, 0, none⟩)) ∧ W.cell? ⟨B, 4, none⟩ = some (.pointer (some ⟨M, 0, none⟩)) ∧ W.cell? ⟨B, 5, none⟩ = some (.int .i64 N) ∧ W.cell? ⟨B, 6, none⟩ = some (.int .i64 c) := by
  obtain ⟨L, K, J, h1, h2⟩ := h
  exact h1.cells
theorem Wm.at_ (h : Wm w0 B I g r t N c H M x s n y s2 p bs W) {q : Nat × Obj} (hq : q ∈ bs) : W.heap[q.1]? = some q.2 := by
  obtain ⟨L, K, J, h1, h2⟩ := h
  exact (h2 q hq).1
theorem fls_127 (z : Hs) : ∀ o ∈ (ph.toq z).ob, o.2.2.length ≤ 127 := fun o ho => by
  obtain ⟨b, _, rfl⟩ := ph.obs_mem.1 ho
  show (tc.fls z b).length ≤ 127
  rw [tc.fls_len]
  omega
theorem tk_len {w : World} (h : Sr w I x) : x.tk.length ≤ 2048 := by
  obtain ⟨ws, _, e⟩ := h.hp
  rw [← e]
  unfold bm.nums
  rw [List.length_map]
  exact Nat.le_trans (List.length_filter_le _ _) (by simp)
/-- All references are to objects. -/
def Rk (K : Nat) (x : Hs) : Prop := x.ks.length = K ∧ ∀ o ∈ ph.obs x, ∀ v ∈ o.2.2, v.1 = 2 → v.2 ∈ x.tk
theorem Slo_tk {k : Int} {q a : Nat} (S : Slo x k q z a) : z.tk = bm.rising (x.tk ++ [(a : Int)]) := by
  rcases S with ⟨_, p, N, m, _, _, _, _, _, rfl⟩ | ⟨_, p, m, f, rest, _, _, rfl⟩ | ⟨_, _, p, m, f, rest, _, _, _, _, rfl⟩ | ⟨_, _, _, p, m, m0, n0, f, rest, _, _, _, _, rfl⟩
  all_goals rfl
theorem rk_slo (V : Iv x) (s8 : x.cnt < 1099511627776) {k : Int} {q a : Nat} (hk : 0 ≤ k ∧ k < x.T) (S : Slo x k q z a) {k0 : Nat} (R : Rk k0 x) : Rk k0 z := by
  obtain ⟨V1, K1, M1, T1⟩ := Slo_iv V s8 hk S
  have tk := Slo_tk S
  have q7 := Slo_le S
  obtain ⟨R0, R⟩ := R
  refine ⟨?_, ?_⟩
  · rw [← R0]
    clear V1 K1 M1 T1 tk
    rcases S with ⟨_, p, N, m, _, _, _, _, _, rfl⟩ | ⟨_, p, m, f, rest, _, _, rfl⟩ | ⟨_, _, p, m, f, rest, _, _, _, _, rfl⟩ | ⟨_, _, _, p, m, m0, n0, f, rest, _, _, _, _, rfl⟩
    · show (pg.spanN x.ks p N).length = _; exact pg.spanN_length _ _ _
    · rfl
    · rfl
    · show (x.ks.set p _).length = _; exact List.length_set
  intro o ho v hv h2
  rw [ph.obs_made V V1 K1 M1 tk (by omega), ph.insq_mem] at ho
  rw [tk, bm.mem_rising, List.mem_append]
  rcases ho with rfl | ho
  · have := (List.mem_replicate.1 hv).2
    rw [this] at h2
    exact absurd h2 (by decide)
  · exact .inl (R o ho v hv h2)
theorem rk_set {k0 : Nat} (R : Rk k0 x) {i j : Nat} {b : Int} {o : ph.Ob3} (hi : (ph.obs x)[i]? = some o) (hb : b ∈ x.tk) (htk : z.tk = x.tk) (hks : z.ks = x.ks) (OS : ph.obs z = (ph.obs x).modify i fun o' => (o'.1, o'.2.1, o.2.2.set j (2, b))) : Rk k0 z := by
  obtain ⟨R0, R⟩ := R
  refine ⟨by rw [hks]; exact R0, ?_⟩
  intro u hu v hv h2
  rw [OS] at hu
  rw [htk]
  obtain ⟨m, hm, e⟩ := List.mem_iff_getElem.1 hu
  rw [List.getElem_modify] at e
  have hm' : m < (ph.obs x).length := by rw [List.length_modify] at hm; exact hm
  by_cases h : i = m
  · rw [if_pos h] at e
    rw [← e] at hv
    rcases List.mem_or_eq_of_mem_set hv with h3 | h3
    · exact R o (List.mem_of_getElem? hi) v h3 h2
    · rw [h3]; exact hb
  · rw [if_neg h] at e
    exact R _ (e ▸ List.getElem_mem hm') v hv h2
/-- An object is made, or not: both say the same. -/
theorem slow_both (V : Iv x) (x1 : x.T = 1) (hl : x.tk.length ≤ 2048) (s8 : x.cnt + 1 < 1099511627776) (q : Int) :
    ∃ (v1 v2 : Int) (z : Hs), z.T = 1 ∧ z.cnt ≤ x.cnt + 1 ∧ Iv z ∧ (∀ k0, Rk k0 x → Rk k0 z) ∧ (∀ W bs, Wm w0 B I g r t N c H M x s n y s2 p bs W → Calls Tryz.prog 24 #[.pointer (some ⟨I.S, 0, none⟩), .int .i64 0, .int .i64 q] W fun e w' => e = .returned (.tuple #[.int .i64 v1, .int .i64 v2]) ∧ Wm w0 B I g r t N c H M z s n y s2 p bs w') ∧
      ∀ W bs, Wm w0 B I g r t N c H M z s n (ph.toq x) s2 p bs W → Calls Tryz.prog 29 #[.pointer (some ⟨H, 0, none⟩), .int .i64 0, .int .i64 q] W fun e w' => e = .returned (.tuple #[.int .i64 v1, .int .i64 v2]) ∧ Wm w0 B I g r t N c H M z s n (ph.toq z) s2 p bs w' := by
  have s8' : x.cnt < 1099511627776 := by omega
  by_cases hq : 0 ≤ q ∧ q ≤ 127
  · obtain ⟨k, rfl⟩ : ∃ k : Nat, q = k := ⟨q.toNat, by omega⟩
    rcases Slo_dec V (t := 0) (n := k) (by omega) (by omega) with ⟨z, a, S⟩ | S
    · obtain ⟨V1, K1, M1, T1⟩ := Slo_iv V s8' (by omega) S
      exact ⟨a, 0, z, by omega, by have := M1.cnt; omega, V1, fun _ => rk_slo V s8' (by omega) S, fun W bs h => h.store V1 (by rw [M1.cnt]; omega) fun H V => Slo_prog H V s8' (by omega) S, fun W bs h => h.heap (fls_127 z) fun K h => ph.rSlo (t := 0) h V (by omega) s8' hl (by omega) S⟩
    · exact ⟨0, 10, x, x1, by omega, V, fun _ => id, fun W bs h => h.store V s8' fun H V => (Sno_prog H V (by omega) S).mono fun e w' ⟨k1, k2⟩ => ⟨k1, H.new k2, Gr.new k2⟩, fun W bs h => h.heap (fls_127 x) fun K h => ph.rSno (t := 0) h V (by omega) s8' hl (by omega) S⟩
  · exact ⟨0, 4, x, x1, by omega, V, fun _ => id, fun W bs h => h.store V s8' fun H V => (Slow_range H (t := 0) (n := q) (by omega)).mono fun e w' ⟨k1, k2⟩ => ⟨k1, H.new k2, Gr.new k2⟩, fun W bs h => h.heap (fls_127 x) fun K h => by
      have hP := h
      obtain ⟨V, vk, vs, vo, os, h⟩ := h
      exact (ph.rSlow_range h 0 (by omega)).mono fun e w' ⟨k1, k2⟩ => ph.Pa.same hP k2 k1⟩
/-- A field refers to an object now: of both. -/
theorem set_both (V : Iv x) (x1 : x.T = 1) (hl : x.tk.length ≤ 2048) (s8 : x.cnt < 1099511627776) {a b : Int} {i j : Nat} {o : ph.Ob3} (hz : ph.Fnd (ph.obs x) a i) (hi : (ph.obs x)[i]? = some o) (ho : o.1 = a) (hj : j < o.2.2.length) (hb : b ∈ x.tk) :
    ∃ z : Hs, z.T = 1 ∧ z.cnt = x.cnt ∧ Iv z ∧ (∀ k0, Rk k0 x → Rk k0 z) ∧ (∀ W bs, Wm w0 B I g r t N c H M x s n (ph.toq x) s2 p bs W → Calls Tryz.prog 31 #[.pointer (some ⟨H, 0, none⟩), .int .i64 a, .int .i64 j, .agg #[.int .i64 2, .int .i64 b]] W fun e w' => e = .returned (.tuple #[]) ∧ Wm w0 B I g r t N c H M x s n (ph.toq z) s2 p bs w') ∧
      ∀ W bs, Wm w0 B I g r t N c H M x s n (ph.toq z) s2 p bs W → Calls Tryz.prog 25 #[.pointer (some ⟨I.S, 0, none⟩), .int .i64 a, .int .i64 j, .agg #[.int .i64 2, .int .i64 b]] W fun e w' => e = .returned (.bool true) ∧ Wm w0 B I g r t N c H M z s n (ph.toq z) s2 p bs w' := by
  have ha : a ∈ x.tk := by
    have := ph.obs_at (List.mem_of_getElem? hi)
    rwa [ho] at this
  obtain ⟨s0, m, l1, l2, l3, l4⟩ := V.live a ha
  have ra := ph.tk_range V ha
  have hbt := hb
  have hb := ph.tk_range V hb
  obtain ⟨A, rfl⟩ : ∃ A : Nat, a = A := ⟨a.toNat, by omega⟩
  have hob : Ob x A s0 m := ⟨ha, by rw [Int.toNat_natCast] at l4; exact l4, l2, by omega⟩
  have oe : o.2.2 = tc.fls x A := by
    obtain ⟨b', _, e⟩ := ph.obs_mem.1 (List.mem_of_getElem? hi)
    rw [e] at ho ⊢
    rw [← ho]
  have fl := (tc.fls_ob hob).1
  have hv0 : wd.chk 2 b = 0 := by simp [wd.chk]; omega
  have hv : wd.vb 2 b = true := by unfold wd.vb; rw [hv0]; rfl
  have hw := wd.wd_back hv0
  have hwr : -9223372036854775808 ≤ wd.wd 2 b ∧ wd.wd 2 b ≤ 9223372036854775807 := by
    unfold wd.wd; rw [if_pos hv0, if_neg (by decide)]; omega
  have jm : j < m := by rw [oe, fl] at hj; exact hj
  have OS := ph.obs_stored V hob l3 l1 jm hwr hi ho
  obtain ⟨V1, K1, _⟩ := V.stored hob l3 jm hwr l1
  refine ⟨x.stored (A + 1 + j) (wd.wd 2 b), x1, rfl, V1, fun _ R => rk_set R hi hbt rfl rfl (OS.trans (by unfold tc.rdv; rw [hw.1, hw.2.1])), fun W bs h => h.heap (fls_127 _) fun K h => ?_, fun W bs h => h.store V1 s8 fun H V => Set_yes H hob jm l3 hv⟩
  obtain ⟨VV, vk, vs, vo, os, h⟩ := h
  have E : ph.toq (x.stored (A + 1 + j) (wd.wd 2 b)) = { ph.toq x with ob := (ph.obs x).modify i fun o' => (o'.1, o'.2.1, o.2.2.set j (2, b)) } := by
    show (⟨x.ks, x.fr, x.own, x.T, x.cnt, ph.obs (x.stored (A + 1 + j) (wd.wd 2 b))⟩ : ph.Hq) = _
    rw [OS]
    unfold tc.rdv
    rw [hw.1, hw.2.1]
    rfl
  rw [E]
  exact ph.rSet_any h hz hi (show o.2.2.length = m by rw [oe, fl]) jm (by omega) (by show (ph.obs x).length ≤ 4096; unfold ph.obs; rw [List.length_map]; omega)
end
end Go.Proofs.YtacjleladjgkeaaGreatDoor.tr

/- The statement's own step, kinds 1, 3, 4 and a unit. (Printed by wip/tools/genTrG.py.) -/
namespace Go.Proofs.YtacjleladjgkeaaGreatDoor.tr
open Go.ChangeShapes Go.WideShapes Go.ChangeAt Go.RowKit gen calls cls geos ce st sh
set_option linter.unusedVariables false
set_option maxHeartbeats 16000000
set_option maxRecDepth 100000
/-- What a step leaves. -/
def StA (w0 : World) (B : Nat) (I : Ids) (g r t N c H M : Nat) (x : Hs) (s : Ps) (p k : Int) (e : Ending) (w' : World) : Prop :=
  e = .returned (.bool true) ∧ ∃ (z : Hs) (s' : Ps) (p' : Int), Wm w0 B I g r t N c H M z s' (tc.left N p') (ph.toq z) s' p' [] w' ∧ (-1 ≤ p' ∧ p' < N) ∧ z.T = 1 ∧ z.cnt ≤ x.cnt + 1 ∧ (∀ k0, Rk k0 x → Rk k0 z) ∧ (k ≤ 2 → tc.Ts.idle ⟨s, p⟩ = true → s' = s ∧ p' = p)
section
variable {w0 W W' : World} {B b : Nat} {I : Ids} {x x' z : Hs} {L L' K K' J J' X : List Nat} {g r t N c n n' H M F : Nat} {s s' s2 s3 : Ps} {y y' : ph.Hq} {p p' : Int} {v : Value} {e : Ending} {bs : Bxs} {args : Array Value}
theorem Wm.un (h : Wm w0 B I g r t N c H M x s n y s2 p bs W) : Wm w0 B I g r t N c H M x s n y s2 p [] W := by
  obtain ⟨L, K, J, h1, h2⟩ := h
  exact .start h1
/-- The boxed call's cells. -/
def opo (k q i j : Int) : Obj := .cells #[.int .i64 k, .int .i64 q, .int .i64 i, .int .i64 j] 29 (0, 0)
theorem op_cells {k q i j : Int} (h : W.heap[b]? = some (opo k q i j)) : W.cell? ⟨b, 0, none⟩ = some (.int .i64 k) ∧ W.cell? ⟨b, 1, none⟩ = some (.int .i64 q) ∧ W.cell? ⟨b, 2, none⟩ = some (.int .i64 i) ∧ W.cell? ⟨b, 3, none⟩ = some (.int .i64 j) :=
  ⟨by rw [cell_of_row W b 0 _ _ _ h]; rfl, by rw [cell_of_row W b 1 _ _ _ h]; rfl, by rw [cell_of_row W b 2 _ _ _ h]; rfl, by rw [cell_of_row W b 3 _ _ _ h]; rfl⟩
theorem pk_any (h : Wm w0 B I g r t N c H M x s n (ph.toq x) s2 p bs W) (hl : x.tk.length ≤ 2048) (i : Int) :
    Calls Tryz.prog 12 #[.pointer (some ⟨H, 0, none⟩), .int .i64 i] W fun e w' => (∃ a, e = .returned (.int .i64 a) ∧ (a = -1 ∨ a ∈ x.tk)) ∧ Wm w0 B I g r t N c H M x s n (ph.toq x) s2 p bs w' := by
  have hW := h
  obtain ⟨L, K, J, h1, h2⟩ := h
  refine (pick_any h1.gp.pl (by show (ph.obs x).length ≤ 4096; unfold ph.obs; rw [List.length_map]; omega) i).mono fun e w' ⟨⟨a, k1, k2⟩, k3⟩ => ⟨⟨a, k1, k2.imp id ?_⟩, hW.new k3⟩
  rintro ⟨o, ho, rfl⟩
  exact ph.obs_at ho
/-- The world's cells and the boxed call's. -/
theorem Wm.all {k q i j : Int} (h : Wm w0 B I g r t N c H M x s n y s2 p ((b, opo k q i j) :: bs) W) : (W.cell? ⟨B, 0, none⟩ = some (.pointer (some ⟨I.S, 0, none⟩)) ∧ W.cell? ⟨B, 1, none⟩ = some (.pointer (some ⟨g, 0, none⟩)) ∧ W.cell? ⟨B, 2, none⟩ = some (.pointer (some ⟨t, 0, none⟩)) ∧ W.cell? ⟨B, 3, none⟩ = some (.pointer (some ⟨H, 0, none⟩)) ∧ W.cell? ⟨B, 4, none⟩ = some (.pointer (some ⟨M, 0, none⟩)) ∧ W.cell? ⟨B, 5, none⟩ = some (.int .i64 N) ∧ W.cell? ⟨B, 6, none⟩ = some (.int .i64 c)) ∧ W.cell? ⟨b, 0, none⟩ = some (.int .i64 k) ∧ W.cell? ⟨b, 1, none⟩ = some (.int .i64 q) ∧ W.cell? ⟨b, 2, none⟩ = some (.int .i64 i) ∧ W.cell? ⟨b, 3, none⟩ = some (.int .i64 j) :=
  ⟨h.cells, op_cells (h.at_ (q := (b, opo k q i j)) (by simp))⟩
theorem step1 (h : Wp w0 W B I x L g r s t N c n K H (ph.toq x) J M s p) (hn : n = tc.left N p) (hr : -1 ≤ p ∧ p < N) (x1 : x.T = 1) (s8 : x.cnt + 1 < 1099511627776) (q i j : Int) : Calls Tryz.prog 9 #[.pointer (some ⟨B, 0, none⟩), .agg #[.int .i64 1, .int .i64 q, .int .i64 i, .int .i64 j]] W (StA w0 B I g r t N c H M x s p 1) := by
  obtain ⟨o, ho⟩ : ∃ o, o = opo 1 q i j := ⟨_, rfl⟩
  obtain ⟨b, hb⟩ : ∃ b, b = W.heap.size := ⟨_, rfl⟩
  obtain ⟨W1, hW1⟩ : ∃ W1, W1 = W.alloc (opo 1 q i j) := ⟨_, rfl⟩
  subst ho
  have V := h.tw.iv
  have hl := tk_len h.tw.sr
  have S1 := Lib.hid (show Wm w0 B I g r t N c H M x s n (ph.toq x) s p [(b, opo 1 q i j)] W1 by rw [hW1]; exact (Wm.start h).box _ hb)
  have PK := Lib.hid (fun a W2 (h : Wm w0 B I g r t N c H M x s n (ph.toq x) s p [(b, opo 1 q i j)] W2) => pk_any h hl a)
  obtain ⟨v1, v2, z, z1, z2, z3, z4, P1, P2⟩ := slow_both (w0 := w0) (B := B) (I := I) (g := g) (r := r) (t := t) (N := N) (c := c) (H := H) (M := M) (s := s) (n := n) (y := ph.toq x) (s2 := s) (p := p) V x1 hl s8 q
  have P1 := Lib.hid P1
  have P2 := Lib.hid P2
  have ZZ := Lib.hid (⟨z1, z2, z4⟩ : _ ∧ _ ∧ _)
  clear z1 z2 z3 z4
  obtain ⟨⟨c10, c11, c12, c13, c14, c15, c16⟩, b10, b11, b12, b13⟩ := S1.out.all
  have TX := Lib.hid x1
  have HN := Lib.hid hn
  have HR := Lib.hid hr
  have SX := Lib.hid s8
  clear h V hl hn hr x1 s8
  go_enter Tryz.func9, Tryz.ntmps9
  go_upto_region 1 with fail
  have hW2 : W.alloc (.cells #[.int .i64 1, .int .i64 q, .int .i64 i, .int .i64 j] 29) = W1 := hW1.symm
  rw [hW2, ← hb]
  clear hW1 hW2 hb
  go_wp2
  go_region_held3 (fun W2 => W2.cell? ⟨B, 3, none⟩ = some (.pointer (some ⟨H, 0, none⟩)) ∧ W2.cell? ⟨b, 2, none⟩ = some (.int .i64 i) ∧ W2.cell? ⟨b, 3, none⟩ = some (.int .i64 j)) (first | exact ⟨c33, b32, b33⟩ | exact ⟨c23, b22, b23⟩ | exact ⟨c13, b12, b13⟩ | go_keep) (first
    | (have mark := S2; go_at_call 12; (with_reducible refine (PK.out _ _ (by first | exact S2.out | exact S2.out.new (gr.grown_drew _ _) | exact S2.out.new (li.grown_drewN _ _ _))).mono ?_); rintro e w3 ⟨⟨a2, rfl, ha2⟩, h⟩; have S3 := Lib.hid h; obtain ⟨⟨c30, c31, c32, c33, c34, c35, c36⟩, b30, b31, b32, b33⟩ := S3.out.all; clear h)
    | (go_at_call 12; (with_reducible refine (PK.out _ _ (by first | exact S1.out | exact S1.out.new (gr.grown_drew _ _) | exact S1.out.new (li.grown_drewN _ _ _))).mono ?_); rintro e w2 ⟨⟨a1, rfl, ha1⟩, h⟩; have S2 := Lib.hid h; obtain ⟨⟨c20, c21, c22, c23, c24, c25, c26⟩, b20, b21, b22, b23⟩ := S2.out.all; clear h))
  all_goals
    clear c10 c11 c12 c13 c14 c15 c16 b10 b11 b12 b13 c20 c21 c22 c23 c24 c25 c26 b20 b21 b22 b23
    go_wp2
    go_region_held3 (fun W2 => W2.cell? ⟨B, 0, none⟩ = some (.pointer (some ⟨I.S, 0, none⟩)) ∧ W2.cell? ⟨b, 1, none⟩ = some (.int .i64 q)) (first | exact ⟨c40, b41⟩ | exact ⟨c30, b31⟩ | go_keep) (first
      | (go_at_call 24; (with_reducible refine (P1.out _ _ (by first | exact S3.out | exact S3.out.new (gr.grown_drew _ _) | exact S3.out.new (li.grown_drewN _ _ _))).mono ?_); rintro e w4 ⟨rfl, h⟩; have S4 := Lib.hid h; obtain ⟨⟨c40, c41, c42, c43, c44, c45, c46⟩, b40, b41, b42, b43⟩ := S4.out.all; clear h))
    all_goals
      go_wp2
      go_region_held3 (fun W2 => W2.cell? ⟨B, 3, none⟩ = some (.pointer (some ⟨H, 0, none⟩)) ∧ W2.cell? ⟨b, 1, none⟩ = some (.int .i64 q)) (first | exact ⟨c53, b51⟩ | exact ⟨c43, b41⟩ | go_keep) (first
        | (go_at_call 29; (with_reducible refine (P2.out _ _ (by first | exact S4.out | exact S4.out.new (gr.grown_drew _ _) | exact S4.out.new (li.grown_drewN _ _ _))).mono ?_); rintro e w5 ⟨rfl, h⟩; have S5 := Lib.hid h; obtain ⟨⟨c50, c51, c52, c53, c54, c55, c56⟩, b50, b51, b52, b53⟩ := S5.out.all; clear h))
      all_goals
        go_wp2
        go_ret
        refine ⟨by simp, z, s, p, ?_, HR.out, ZZ.out.1, ZZ.out.2.1, ZZ.out.2.2, fun _ _ => ⟨rfl, rfl⟩⟩
        rw [← HN.out]
        first | exact S5.out.un | exact (S5.out.new (gr.grown_drew _ _)).un | exact (S5.out.new (li.grown_drewN _ _ _)).un
theorem step3 (h : Wp w0 W B I x L g r s t N c n K H (ph.toq x) J M s p) (hn : n = tc.left N p) (hr : -1 ≤ p ∧ p < N) (x1 : x.T = 1) (s8 : x.cnt + 1 < 1099511627776) (q i j : Int) : Calls Tryz.prog 9 #[.pointer (some ⟨B, 0, none⟩), .agg #[.int .i64 3, .int .i64 q, .int .i64 i, .int .i64 j]] W (StA w0 B I g r t N c H M x s p 3) := by
  obtain ⟨o, ho⟩ : ∃ o, o = opo 3 q i j := ⟨_, rfl⟩
  obtain ⟨b, hb⟩ : ∃ b, b = W.heap.size := ⟨_, rfl⟩
  obtain ⟨W1, hW1⟩ : ∃ W1, W1 = W.alloc (opo 3 q i j) := ⟨_, rfl⟩
  subst ho
  have V := h.tw.iv
  have hl := tk_len h.tw.sr
  have S1 := Lib.hid (show Wm w0 B I g r t N c H M x s n (ph.toq x) s p [(b, opo 3 q i j)] W1 by rw [hW1]; exact (Wm.start h).box _ hb)
  have PK := Lib.hid (fun a W2 (h : Wm w0 B I g r t N c H M x s n (ph.toq x) s p [(b, opo 3 q i j)] W2) => pk_any h hl a)
  have P1 := Lib.hid (fun a W2 (h : Wm w0 B I g r t N c H M x s n (ph.toq x) s p [(b, opo 3 q i j)] W2) => h.grey fun L h => Shade_any h a)
  have P2 := Lib.hid (fun a W2 (h : Wm w0 B I g r t N c H M x (s.shade r a) n (ph.toq x) s p [(b, opo 3 q i j)] W2) => h.plain fun K J h => rShade_any h.bk a)
  obtain ⟨⟨c10, c11, c12, c13, c14, c15, c16⟩, b10, b11, b12, b13⟩ := S1.out.all
  have TX := Lib.hid x1
  have HN := Lib.hid hn
  have HR := Lib.hid hr
  have SX := Lib.hid s8
  clear h V hl hn hr x1 s8
  go_enter Tryz.func9, Tryz.ntmps9
  go_upto_region 1 with fail
  have hW2 : W.alloc (.cells #[.int .i64 3, .int .i64 q, .int .i64 i, .int .i64 j] 29) = W1 := hW1.symm
  rw [hW2, ← hb]
  clear hW1 hW2 hb
  go_wp2
  go_region_held3 (fun W2 => W2.cell? ⟨B, 3, none⟩ = some (.pointer (some ⟨H, 0, none⟩)) ∧ W2.cell? ⟨b, 2, none⟩ = some (.int .i64 i) ∧ W2.cell? ⟨b, 3, none⟩ = some (.int .i64 j)) (first | exact ⟨c33, b32, b33⟩ | exact ⟨c23, b22, b23⟩ | exact ⟨c13, b12, b13⟩ | go_keep) (first
    | (have mark := S2; go_at_call 12; (with_reducible refine (PK.out _ _ (by first | exact S2.out | exact S2.out.new (gr.grown_drew _ _) | exact S2.out.new (li.grown_drewN _ _ _))).mono ?_); rintro e w3 ⟨⟨a2, rfl, ha2⟩, h⟩; have S3 := Lib.hid h; obtain ⟨⟨c30, c31, c32, c33, c34, c35, c36⟩, b30, b31, b32, b33⟩ := S3.out.all; clear h)
    | (go_at_call 12; (with_reducible refine (PK.out _ _ (by first | exact S1.out | exact S1.out.new (gr.grown_drew _ _) | exact S1.out.new (li.grown_drewN _ _ _))).mono ?_); rintro e w2 ⟨⟨a1, rfl, ha1⟩, h⟩; have S2 := Lib.hid h; obtain ⟨⟨c20, c21, c22, c23, c24, c25, c26⟩, b20, b21, b22, b23⟩ := S2.out.all; clear h))
  all_goals
    clear c10 c11 c12 c13 c14 c15 c16 b10 b11 b12 b13 c20 c21 c22 c23 c24 c25 c26 b20 b21 b22 b23
    generalize newb s.ws a1 = d at *
    go_wp2
    go_region_held3 (fun W2 => W2.cell? ⟨B, 1, none⟩ = some (.pointer (some ⟨g, 0, none⟩)) ∧ W2.cell? ⟨B, 4, none⟩ = some (.pointer (some ⟨M, 0, none⟩))) (first | exact ⟨c51, c54⟩ | exact ⟨c41, c44⟩ | exact ⟨c31, c34⟩ | go_keep) (first
      | (go_at_call 13; (with_reducible refine (P1.out _ _ (by first | exact S3.out | exact S3.out.new (gr.grown_drew _ _) | exact S3.out.new (li.grown_drewN _ _ _))).mono ?_); rintro e w4 ⟨rfl, h⟩; have S4 := Lib.hid h; obtain ⟨⟨c40, c41, c42, c43, c44, c45, c46⟩, b40, b41, b42, b43⟩ := S4.out.all; clear h)
      | (go_at_call 32; (with_reducible refine (P2.out _ _ (by first | exact S4.out | exact S4.out.new (gr.grown_drew _ _) | exact S4.out.new (li.grown_drewN _ _ _))).mono ?_); rintro e w5 ⟨rfl, h⟩; have S5 := Lib.hid h; obtain ⟨⟨c50, c51, c52, c53, c54, c55, c56⟩, b50, b51, b52, b53⟩ := S5.out.all; clear h))
    all_goals
      go_wp2
      go_ret
      refine ⟨by simp, x, s.shade r a1, p, ?_, HR.out, TX.out, by omega, fun _ => id, fun h => absurd h (by decide)⟩
      rw [← HN.out]
      first | exact S5.out.un | exact (S5.out.new (gr.grown_drew _ _)).un | exact (S5.out.new (li.grown_drewN _ _ _)).un
theorem step4 (h : Wp w0 W B I x L g r s t N c n K H (ph.toq x) J M s p) (hn : n = tc.left N p) (hr : -1 ≤ p ∧ p < N) (x1 : x.T = 1) (s8 : x.cnt + 1 < 1099511627776) (q i j : Int) : Calls Tryz.prog 9 #[.pointer (some ⟨B, 0, none⟩), .agg #[.int .i64 4, .int .i64 q, .int .i64 i, .int .i64 j]] W (StA w0 B I g r t N c H M x s p 4) := by
  obtain ⟨o, ho⟩ : ∃ o, o = opo 4 q i j := ⟨_, rfl⟩
  obtain ⟨b, hb⟩ : ∃ b, b = W.heap.size := ⟨_, rfl⟩
  obtain ⟨W1, hW1⟩ : ∃ W1, W1 = W.alloc (opo 4 q i j) := ⟨_, rfl⟩
  subst ho
  have V := h.tw.iv
  have hl := tk_len h.tw.sr
  have S1 := Lib.hid (show Wm w0 B I g r t N c H M x s n (ph.toq x) s p [(b, opo 4 q i j)] W1 by rw [hW1]; exact (Wm.start h).box _ hb)
  have PK := Lib.hid (fun a W2 (h : Wm w0 B I g r t N c H M x s n (ph.toq x) s p [(b, opo 4 q i j)] W2) => pk_any h hl a)
  have P1 := Lib.hid (fun a W2 (h : Wm w0 B I g r t N c H M x s n (ph.toq x) s p [(b, opo 4 q i j)] W2) => h.grey fun L h => Black_any h a)
  have P2 := Lib.hid (fun a W2 (h : Wm w0 B I g r t N c H M x (s.black a) n (ph.toq x) s p [(b, opo 4 q i j)] W2) => h.plain fun K J h => rBlack_any h.bk a)
  obtain ⟨⟨c10, c11, c12, c13, c14, c15, c16⟩, b10, b11, b12, b13⟩ := S1.out.all
  have TX := Lib.hid x1
  have HN := Lib.hid hn
  have HR := Lib.hid hr
  have SX := Lib.hid s8
  clear h V hl hn hr x1 s8
  go_enter Tryz.func9, Tryz.ntmps9
  go_upto_region 1 with fail
  have hW2 : W.alloc (.cells #[.int .i64 4, .int .i64 q, .int .i64 i, .int .i64 j] 29) = W1 := hW1.symm
  rw [hW2, ← hb]
  clear hW1 hW2 hb
  go_wp2
  go_region_held3 (fun W2 => W2.cell? ⟨B, 3, none⟩ = some (.pointer (some ⟨H, 0, none⟩)) ∧ W2.cell? ⟨b, 2, none⟩ = some (.int .i64 i) ∧ W2.cell? ⟨b, 3, none⟩ = some (.int .i64 j)) (first | exact ⟨c33, b32, b33⟩ | exact ⟨c23, b22, b23⟩ | exact ⟨c13, b12, b13⟩ | go_keep) (first
    | (have mark := S2; go_at_call 12; (with_reducible refine (PK.out _ _ (by first | exact S2.out | exact S2.out.new (gr.grown_drew _ _) | exact S2.out.new (li.grown_drewN _ _ _))).mono ?_); rintro e w3 ⟨⟨a2, rfl, ha2⟩, h⟩; have S3 := Lib.hid h; obtain ⟨⟨c30, c31, c32, c33, c34, c35, c36⟩, b30, b31, b32, b33⟩ := S3.out.all; clear h)
    | (go_at_call 12; (with_reducible refine (PK.out _ _ (by first | exact S1.out | exact S1.out.new (gr.grown_drew _ _) | exact S1.out.new (li.grown_drewN _ _ _))).mono ?_); rintro e w2 ⟨⟨a1, rfl, ha1⟩, h⟩; have S2 := Lib.hid h; obtain ⟨⟨c20, c21, c22, c23, c24, c25, c26⟩, b20, b21, b22, b23⟩ := S2.out.all; clear h))
  all_goals
    clear c10 c11 c12 c13 c14 c15 c16 b10 b11 b12 b13 c20 c21 c22 c23 c24 c25 c26 b20 b21 b22 b23
    generalize newb s.ws a1 = d at *
    go_wp2
    go_region_held3 (fun W2 => W2.cell? ⟨B, 1, none⟩ = some (.pointer (some ⟨g, 0, none⟩)) ∧ W2.cell? ⟨B, 4, none⟩ = some (.pointer (some ⟨M, 0, none⟩))) (first | exact ⟨c51, c54⟩ | exact ⟨c41, c44⟩ | exact ⟨c31, c34⟩ | go_keep) (first
      | (go_at_call 33; (with_reducible refine (P1.out _ _ (by first | exact S3.out | exact S3.out.new (gr.grown_drew _ _) | exact S3.out.new (li.grown_drewN _ _ _))).mono ?_); rintro e w4 ⟨rfl, h⟩; have S4 := Lib.hid h; obtain ⟨⟨c40, c41, c42, c43, c44, c45, c46⟩, b40, b41, b42, b43⟩ := S4.out.all; clear h)
      | (go_at_call 34; (with_reducible refine (P2.out _ _ (by first | exact S4.out | exact S4.out.new (gr.grown_drew _ _) | exact S4.out.new (li.grown_drewN _ _ _))).mono ?_); rintro e w5 ⟨rfl, h⟩; have S5 := Lib.hid h; obtain ⟨⟨c50, c51, c52, c53, c54, c55, c56⟩, b50, b51, b52, b53⟩ := S5.out.all; clear h))
    all_goals
      go_wp2
      go_ret
      refine ⟨by simp, x, s.black a1, p, ?_, HR.out, TX.out, by omega, fun _ => id, fun h => absurd h (by decide)⟩
      rw [← HN.out]
      first | exact S5.out.un | exact (S5.out.new (gr.grown_drew _ _)).un | exact (S5.out.new (li.grown_drewN _ _ _)).un
end
end Go.Proofs.YtacjleladjgkeaaGreatDoor.tr

/- The statement's own step: a unit. (Printed by wip/tools/genTrH.py.) -/
namespace Go.Proofs.YtacjleladjgkeaaGreatDoor.tr
open Go.ChangeShapes Go.WideShapes Go.ChangeAt Go.RowKit gen calls cls geos ce st sh
set_option linter.unusedVariables false
set_option maxHeartbeats 16000000
set_option maxRecDepth 100000
section
variable {w0 W W' : World} {B b : Nat} {I : Ids} {x x' z : Hs} {L L' K K' J J' X : List Nat} {g r t N c n n' H M F : Nat} {s s' s2 s3 : Ps} {y y' : ph.Hq} {p p' : Int} {v : Value} {e : Ending} {bs : Bxs} {args : Array Value}
theorem yi (V : Iv x) (hl : x.tk.length ≤ 2048) : Yi (ph.toq x) := ⟨fun o ho => ph.tk_range V (ph.obs_at ho), by show (ph.obs x).length ≤ 2048; unfold ph.obs; rw [List.length_map]; omega⟩
theorem idle_same {F : Int → Option (List tc.Va)} {G : Int → List Int} {z : tc.Ts} (h : tc.Ts.idle z = true) : tc.Ts.unit r N c F G z = z := by
  unfold tc.Ts.idle at h
  simp only [Bool.and_eq_true, decide_eq_true_eq, Bool.not_eq_true'] at h
  obtain ⟨⟨h1, h2⟩, h3⟩ := h
  unfold tc.Ts.unit
  rw [if_neg (by simp [h1]), if_neg (by omega), if_neg (by simp [h3])]
theorem unit_wm (h : Wm w0 B I g r t N c H M x s n y s2 p bs W) (hn : n = tc.left N p) (hr : -1 ≤ p ∧ p < N) (hT : bm.Tab w0) {u : tc.Ts} (hu : u = tc.Ts.unit r N c (tc.flo x) (tc.inp x) ⟨s, p⟩) :
    Calls Tryz.prog 14 #[.pointer (some ⟨t, 0, none⟩)] W fun e w' => e = .returned (.bool (!tc.Ts.idle ⟨s, p⟩)) ∧ (-1 ≤ u.p ∧ u.p < N) ∧ Wm w0 B I g r t N c H M x u.s (tc.left N u.p) y s2 p bs w' := by
  subst hu
  obtain ⟨L, K, J, h1, h2⟩ := h
  have h0 : I.s ≠ 0 := by
    have e1 := h1.lo.1 I.s (by simp [Ids.all])
    have e2 := hT.1
    omega
  refine (tc.Unit_any h1.tw hn hr (fun W3 hg => hT.kept (Gr.grown h1.gr hg h1.lo.2.1) (by simp)) h0).mono fun e w' ⟨k1, k2, k3⟩ => ⟨k2, k1, ?_⟩
  obtain ⟨L2, k4, k5, k6⟩ := h1.trace k3
  exact ⟨L2, K, J, k4, h2.gr k6 (.inr (.inl fun q hq => hq)) k5 (fun q => .inl) (fun q => .inl)⟩
theorem runit_wm (h : Wm w0 B I g r t N c H M x s' n (ph.toq x) s p bs W) (V : Iv x) (hl : x.tk.length ≤ 2048) (hr : -1 ≤ p ∧ p < N) {u : tc.Ts} (hu : u = tc.Ts.unit r N c (tc.flo x) (tc.inp x) ⟨s, p⟩) :
    Calls Tryz.prog 36 #[.pointer (some ⟨M, 0, none⟩), .pointer (some ⟨H, 0, none⟩), .int .i64 N, .int .i64 c] W fun e w' => e = .returned (.bool (!tc.Ts.idle ⟨s, p⟩)) ∧ Wm w0 B I g r t N c H M x s' n (ph.toq x) u.s u.p bs w' := by
  subst hu
  have hW := h
  obtain ⟨L, K, J, h1, h2⟩ := h
  have e1 : fq (ph.toq x).ob = tc.flo x := funext fun a => fq_obs x a
  have e2 : ph.inq (ph.toq x).ob = tc.inp x := funext fun a => inq_obs x a
  refine hW.plain fun K J h => ?_
  have := rUnit_any h (yi V hl) h1.tw.n1 h1.tw.c1 hr
  rwa [e1, e2] at this
theorem idle_wm (h : Wm w0 B I g r t N c H M x s n y s2 p bs W) (hn : n = tc.left N p) (hr : -1 ≤ p ∧ p < N) : Calls Tryz.prog 18 #[.pointer (some ⟨t, 0, none⟩)] W fun e w' => e = .returned (.bool (tc.Ts.idle ⟨s, p⟩)) ∧ Wm w0 B I g r t N c H M x s n y s2 p bs w' := by
  have hW := h
  obtain ⟨L, K, J, h1, h2⟩ := h
  exact (tc.Idle_any h1.tw hn hr).mono fun e w' ⟨k1, k2⟩ => ⟨k1, by subst k2; exact hW⟩
theorem ridle_wm (h : Wm w0 B I g r t N c H M x s n y s2 p bs W) : Calls Tryz.prog 35 #[.pointer (some ⟨M, 0, none⟩)] W fun e w' => e = .returned (.bool (tc.Ts.idle ⟨s2, p⟩)) ∧ Wm w0 B I g r t N c H M x s n y s2 p bs w' := by
  have hW := h
  obtain ⟨L, K, J, h1, h2⟩ := h
  exact (rIdle_any h1.gp.bk).mono fun e w' ⟨k1, k2⟩ => ⟨k1, by subst k2; exact hW⟩
theorem step0 (h : Wp w0 W B I x L g r s t N c n K H (ph.toq x) J M s p) (hn : n = tc.left N p) (hr : -1 ≤ p ∧ p < N) (x1 : x.T = 1) (s8 : x.cnt + 1 < 1099511627776) (hT : bm.Tab w0) (k q i j : Int) (hk : ¬ (1 ≤ k ∧ k ≤ 4)) : Calls Tryz.prog 9 #[.pointer (some ⟨B, 0, none⟩), .agg #[.int .i64 k, .int .i64 q, .int .i64 i, .int .i64 j]] W (StA w0 B I g r t N c H M x s p k) := by
  obtain ⟨o, ho⟩ : ∃ o, o = opo k q i j := ⟨_, rfl⟩
  obtain ⟨b, hb⟩ : ∃ b, b = W.heap.size := ⟨_, rfl⟩
  obtain ⟨W1, hW1⟩ : ∃ W1, W1 = W.alloc (opo k q i j) := ⟨_, rfl⟩
  subst ho
  have V := h.tw.iv
  have hl := tk_len h.tw.sr
  have S1 := Lib.hid (show Wm w0 B I g r t N c H M x s n (ph.toq x) s p [(b, opo k q i j)] W1 by rw [hW1]; exact (Wm.start h).box _ hb)
  have PK := Lib.hid (fun a W2 (h : Wm w0 B I g r t N c H M x s n (ph.toq x) s p [(b, opo k q i j)] W2) => pk_any h hl a)
  obtain ⟨u, hu⟩ : ∃ u, u = tc.Ts.unit r N c (tc.flo x) (tc.inp x) ⟨s, p⟩ := ⟨_, rfl⟩
  have P0 := Lib.hid (fun W2 (h : Wm w0 B I g r t N c H M x s n (ph.toq x) s p [(b, opo k q i j)] W2) => ridle_wm h)
  have P1 := Lib.hid (fun W2 (h : Wm w0 B I g r t N c H M x s n (ph.toq x) s p [(b, opo k q i j)] W2) => idle_wm h hn hr)
  have P2 := Lib.hid (fun W2 (h : Wm w0 B I g r t N c H M x s n (ph.toq x) s p [(b, opo k q i j)] W2) => unit_wm h hn hr hT hu)
  have P3 := Lib.hid (fun W2 (h : Wm w0 B I g r t N c H M x u.s (tc.left N u.p) (ph.toq x) s p [(b, opo k q i j)] W2) => runit_wm h V hl hr hu)
  have Q := Lib.hid (show tc.Ts.idle ⟨s, p⟩ = true → u.s = s ∧ u.p = p from fun h => by rw [hu, idle_same h]; exact ⟨rfl, rfl⟩)
  generalize tc.Ts.idle ⟨s, p⟩ = d at P0 P1 P2 P3
  have t1 : (k == 1) = false := by simp; omega
  have t2 : (k == 2) = false := by simp; omega
  have t3 : (k == 3) = false := by simp; omega
  have t4 : (k == 4) = false := by simp; omega
  clear hu hk hT
  obtain ⟨⟨c10, c11, c12, c13, c14, c15, c16⟩, b10, b11, b12, b13⟩ := S1.out.all
  have TX := Lib.hid x1
  have HN := Lib.hid hn
  have HR := Lib.hid hr
  have SX := Lib.hid s8
  clear h V hl hn hr x1 s8
  go_enter Tryz.func9, Tryz.ntmps9
  go_upto_region 1 with fail
  have hW2 : W.alloc (.cells #[.int .i64 k, .int .i64 q, .int .i64 i, .int .i64 j] 29) = W1 := hW1.symm
  rw [hW2, ← hb]
  clear hW1 hW2 hb
  go_wp2
  go_region_held3 (fun W2 => W2.cell? ⟨B, 3, none⟩ = some (.pointer (some ⟨H, 0, none⟩)) ∧ W2.cell? ⟨b, 2, none⟩ = some (.int .i64 i) ∧ W2.cell? ⟨b, 3, none⟩ = some (.int .i64 j)) (first | exact ⟨c33, b32, b33⟩ | exact ⟨c23, b22, b23⟩ | exact ⟨c13, b12, b13⟩ | go_keep) (first
    | (have mark := S2; go_at_call 12; (with_reducible refine (PK.out _ _ (by first | exact S2.out | exact S2.out.new (gr.grown_drew _ _) | exact S2.out.new (li.grown_drewN _ _ _))).mono ?_); rintro e w3 ⟨⟨a2, rfl, ha2⟩, h⟩; have S3 := Lib.hid h; obtain ⟨⟨c30, c31, c32, c33, c34, c35, c36⟩, b30, b31, b32, b33⟩ := S3.out.all; clear h)
    | (go_at_call 12; (with_reducible refine (PK.out _ _ (by first | exact S1.out | exact S1.out.new (gr.grown_drew _ _) | exact S1.out.new (li.grown_drewN _ _ _))).mono ?_); rintro e w2 ⟨⟨a1, rfl, ha1⟩, h⟩; have S2 := Lib.hid h; obtain ⟨⟨c20, c21, c22, c23, c24, c25, c26⟩, b20, b21, b22, b23⟩ := S2.out.all; clear h))
  all_goals
    clear c10 c11 c12 c13 c14 c15 c16 b10 b11 b12 b13 c20 c21 c22 c23 c24 c25 c26 b20 b21 b22 b23
    go_wp2_with (go_at_call 35; (with_reducible refine (P0.out _ (by first | exact S3.out | exact S3.out.new (gr.grown_drew _ _) | exact S3.out.new (li.grown_drewN _ _ _))).mono ?_); rintro e w4 ⟨rfl, h⟩; have S4 := Lib.hid h; obtain ⟨⟨c40, c41, c42, c43, c44, c45, c46⟩, b40, b41, b42, b43⟩ := S4.out.all; clear h)
    go_region_held3 (fun W2 => W2.cell? ⟨B, 2, none⟩ = some (.pointer (some ⟨t, 0, none⟩)) ∧ W2.cell? ⟨B, 3, none⟩ = some (.pointer (some ⟨H, 0, none⟩)) ∧ W2.cell? ⟨B, 4, none⟩ = some (.pointer (some ⟨M, 0, none⟩)) ∧ W2.cell? ⟨B, 5, none⟩ = some (.int .i64 N) ∧ W2.cell? ⟨B, 6, none⟩ = some (.int .i64 c)) (first | exact ⟨c72, c73, c74, c75, c76⟩ | exact ⟨c62, c63, c64, c65, c66⟩ | exact ⟨c52, c53, c54, c55, c56⟩ | exact ⟨c42, c43, c44, c45, c46⟩ | go_keep) (first
      | (go_at_call 18; (with_reducible refine (P1.out _ (by first | exact S4.out | exact S4.out.new (gr.grown_drew _ _) | exact S4.out.new (li.grown_drewN _ _ _))).mono ?_); rintro e w5 ⟨rfl, h⟩; have S5 := Lib.hid h; obtain ⟨⟨c50, c51, c52, c53, c54, c55, c56⟩, b50, b51, b52, b53⟩ := S5.out.all; clear h)
      | (go_at_call 14; (with_reducible refine (P2.out _ (by first | exact S5.out | exact S5.out.new (gr.grown_drew _ _) | exact S5.out.new (li.grown_drewN _ _ _))).mono ?_); rintro e w6 ⟨rfl, hur, h⟩; have S6 := Lib.hid h; obtain ⟨⟨c60, c61, c62, c63, c64, c65, c66⟩, b60, b61, b62, b63⟩ := S6.out.all; clear h)
      | (go_at_call 36; (with_reducible refine (P3.out _ (by first | exact S6.out | exact S6.out.new (gr.grown_drew _ _) | exact S6.out.new (li.grown_drewN _ _ _))).mono ?_); rintro e w7 ⟨rfl, h⟩; have S7 := Lib.hid h; obtain ⟨⟨c70, c71, c72, c73, c74, c75, c76⟩, b70, b71, b72, b73⟩ := S7.out.all; clear h))
    all_goals
      go_wp2
      go_ret
      refine ⟨by simp, x, u.s, u.p, ?_, hur, TX.out, by omega, fun _ => id, fun _ h => Q.out h⟩
      first | exact S7.out.un | exact (S7.out.new (gr.grown_drew _ _)).un | exact (S7.out.new (li.grown_drewN _ _ _)).un
end
end Go.Proofs.YtacjleladjgkeaaGreatDoor.tr

/- The statement's own step: a field; all. (Printed by wip/tools/genTrH.py.) -/
namespace Go.Proofs.YtacjleladjgkeaaGreatDoor.tr
open Go.ChangeShapes Go.WideShapes Go.ChangeAt Go.RowKit gen calls cls geos ce st sh
set_option linter.unusedVariables false
set_option maxHeartbeats 16000000
set_option maxRecDepth 100000
section
variable {w0 W W' : World} {B b : Nat} {I : Ids} {x x' z : Hs} {L L' K K' J J' X : List Nat} {g r t N c n n' H M F : Nat} {s s' s2 s3 : Ps} {y y' : ph.Hq} {p p' : Int} {v : Value} {e : Ending} {bs : Bxs} {args : Array Value}
theorem fields_wm (h : Wm w0 B I g r t N c H M x s n (ph.toq x) s2 p bs W) (V : Iv x) (a : Int) :
    Calls Tryz.prog 30 #[.pointer (some ⟨H, 0, none⟩), .int .i64 a] W fun e w' => (∃ A m c ok, e = .returned (.tuple #[.slice A m c, .bool ok]) ∧ m ≤ 127 ∧ (ok = true → ∃ (i : Nat) (o : ph.Ob3), ph.Fnd (ph.obs x) a i ∧ (ph.obs x)[i]? = some o ∧ o.1 = a ∧ o.2.2.length = m)) ∧ Wm w0 B I g r t N c H M x s n (ph.toq x) s2 p bs w' := by
  have hW := h
  obtain ⟨L, K, J, h1, h2⟩ := h
  rcases fq_cases (ph.toq x).ob a with ⟨e1, e2⟩ | ⟨i, o, e1, e2, e3, e4⟩
  · exact (fields_no h1.gp.pl e2).mono fun e w' ⟨k1, k2⟩ => ⟨⟨_, _, _, _, k1, by omega, fun h => absurd h (by decide)⟩, by subst k2; exact hW⟩
  · exact (fields_yes h1.gp.pl e2 e3).mono fun e w' ⟨A, c', k1, k2, _⟩ => ⟨⟨_, _, _, _, k1, fls_127 x o (List.mem_of_getElem? e3), fun _ => ⟨i, o, e2, e3, e4, rfl⟩⟩, by subst k2; exact hW⟩
/-- What was made since lies apart. -/
theorem Wm.box2 (h : Wm w0 B I g r t N c H M x s n y s2 p bs W) (hg : W.grownBy W' none) {o : Obj} {b2 : Nat} (hb : W.heap.size ≤ b2) (ho : W'.heap[b2]? = some o) : Wm w0 B I g r t N c H M x s n y s2 p ((b2, o) :: bs) W' := by
  have h' := h.new hg
  obtain ⟨L, K, J, h1, h2⟩ := h
  obtain ⟨l1, l2, l3, l4, l5⟩ := wlt h1
  refine ⟨L, K, J, h1.new hg, fun q hq => ?_⟩
  rcases List.mem_cons.1 hq with rfl | hq
  · exact ⟨ho, fun hm => by have := l1 _ hm; omega, fun hm => by have := l2 _ hm; omega, fun hm => by have := l3 _ hm; omega, fun hm => by have := l4 _ hm; omega, by show b2 ≠ B; omega⟩
  · exact (h2.gr (X := []) (Gr.new hg) (.inl (by simp)) (fun q => .inl) (fun q => .inl) (fun q => .inl)) q hq
/-- A boxed value. -/
def vbo (a : Int) : Obj := .cells #[.int .i64 2, .int .i64 a] 64 (0, 0)
theorem vbo_cells {a : Int} {d : Nat} (h : W.heap[d]? = some (vbo a)) : W.cell? ⟨d, 0, none⟩ = some (.int .i64 2) ∧ W.cell? ⟨d, 1, none⟩ = some (.int .i64 a) := ⟨by rw [cell_of_row W d 0 _ _ _ h]; rfl, by rw [cell_of_row W d 1 _ _ _ h]; rfl⟩
theorem Wm.all5 {k q i j a : Int} {d : Nat} (h : Wm w0 B I g r t N c H M x s n y s2 p [(d, vbo a), (b, opo k q i j)] W) : (W.cell? ⟨B, 0, none⟩ = some (.pointer (some ⟨I.S, 0, none⟩)) ∧ W.cell? ⟨B, 1, none⟩ = some (.pointer (some ⟨g, 0, none⟩)) ∧ W.cell? ⟨B, 2, none⟩ = some (.pointer (some ⟨t, 0, none⟩)) ∧ W.cell? ⟨B, 3, none⟩ = some (.pointer (some ⟨H, 0, none⟩)) ∧ W.cell? ⟨B, 4, none⟩ = some (.pointer (some ⟨M, 0, none⟩)) ∧ W.cell? ⟨B, 5, none⟩ = some (.int .i64 N) ∧ W.cell? ⟨B, 6, none⟩ = some (.int .i64 c)) ∧ (W.cell? ⟨b, 0, none⟩ = some (.int .i64 k) ∧ W.cell? ⟨b, 1, none⟩ = some (.int .i64 q) ∧ W.cell? ⟨b, 2, none⟩ = some (.int .i64 i) ∧ W.cell? ⟨b, 3, none⟩ = some (.int .i64 j)) ∧ W.cell? ⟨d, 0, none⟩ = some (.int .i64 2) ∧ W.cell? ⟨d, 1, none⟩ = some (.int .i64 a) :=
  ⟨h.cells, op_cells (h.at_ (q := (b, opo k q i j)) (by simp)), vbo_cells (h.at_ (q := (d, vbo a)) (by simp))⟩
theorem step2 (h : Wp w0 W B I x L g r s t N c n K H (ph.toq x) J M s p) (hn : n = tc.left N p) (hr : -1 ≤ p ∧ p < N) (x1 : x.T = 1) (s8 : x.cnt + 1 < 1099511627776) (q i j : Int) : Calls Tryz.prog 9 #[.pointer (some ⟨B, 0, none⟩), .agg #[.int .i64 2, .int .i64 q, .int .i64 i, .int .i64 j]] W (StA w0 B I g r t N c H M x s p 2) := by
  obtain ⟨o, ho⟩ : ∃ o, o = opo 2 q i j := ⟨_, rfl⟩
  obtain ⟨b, hb⟩ : ∃ b, b = W.heap.size := ⟨_, rfl⟩
  obtain ⟨W1, hW1⟩ : ∃ W1, W1 = W.alloc (opo 2 q i j) := ⟨_, rfl⟩
  subst ho
  have V := h.tw.iv
  have hl := tk_len h.tw.sr
  have S1 := Lib.hid (show Wm w0 B I g r t N c H M x s n (ph.toq x) s p [(b, opo 2 q i j)] W1 by rw [hW1]; exact (Wm.start h).box _ hb)
  have PK := Lib.hid (fun a W2 (h : Wm w0 B I g r t N c H M x s n (ph.toq x) s p [(b, opo 2 q i j)] W2) => pk_any h hl a)
  have P0 := Lib.hid (fun a W2 (h : Wm w0 B I g r t N c H M x s n (ph.toq x) s p [(b, opo 2 q i j)] W2) => fields_wm h V a)
  have P1 := Lib.hid (fun a e i jn o hz hi ho hj hb => set_both (w0 := w0) (B := B) (I := I) (g := g) (r := r) (t := t) (N := N) (c := c) (H := H) (M := M) (s := s) (n := n) (s2 := s) (p := p) V x1 hl (by omega) (a := a) (b := e) (i := i) (j := jn) (o := o) hz hi ho hj hb)
  have RG := Lib.hid (fun a (h : a ∈ x.tk) => ph.tk_range V h)
  obtain ⟨⟨c10, c11, c12, c13, c14, c15, c16⟩, b10, b11, b12, b13⟩ := S1.out.all
  have TX := Lib.hid x1
  have HN := Lib.hid hn
  have HR := Lib.hid hr
  have SX := Lib.hid s8
  clear h V hl hn hr x1 s8
  go_enter Tryz.func9, Tryz.ntmps9
  go_upto_region 1 with fail
  have hW2 : W.alloc (.cells #[.int .i64 2, .int .i64 q, .int .i64 i, .int .i64 j] 29) = W1 := hW1.symm
  rw [hW2, ← hb]
  clear hW1 hW2 hb
  go_wp2
  go_region_held3 (fun W2 => W2.cell? ⟨B, 3, none⟩ = some (.pointer (some ⟨H, 0, none⟩)) ∧ W2.cell? ⟨b, 2, none⟩ = some (.int .i64 i) ∧ W2.cell? ⟨b, 3, none⟩ = some (.int .i64 j)) (first | exact ⟨c33, b32, b33⟩ | exact ⟨c23, b22, b23⟩ | exact ⟨c13, b12, b13⟩ | go_keep) (first
    | (have mark := S2; go_at_call 12; (with_reducible refine (PK.out _ _ (by first | exact S2.out | exact S2.out.new (gr.grown_drew _ _) | exact S2.out.new (li.grown_drewN _ _ _))).mono ?_); rintro e w3 ⟨⟨a2, rfl, ha2⟩, h⟩; have S3 := Lib.hid h; obtain ⟨⟨c30, c31, c32, c33, c34, c35, c36⟩, b30, b31, b32, b33⟩ := S3.out.all; clear h)
    | (go_at_call 12; (with_reducible refine (PK.out _ _ (by first | exact S1.out | exact S1.out.new (gr.grown_drew _ _) | exact S1.out.new (li.grown_drewN _ _ _))).mono ?_); rintro e w2 ⟨⟨a1, rfl, ha1⟩, h⟩; have S2 := Lib.hid h; obtain ⟨⟨c20, c21, c22, c23, c24, c25, c26⟩, b20, b21, b22, b23⟩ := S2.out.all; clear h))
  all_goals
    clear c10 c11 c12 c13 c14 c15 c16 b10 b11 b12 b13 c20 c21 c22 c23 c24 c25 c26 b20 b21 b22 b23
    go_upto_region 8 with (go_at_call 30; (with_reducible refine (P0.out _ _ (by first | exact S3.out | exact S3.out.new (gr.grown_drew _ _) | exact S3.out.new (li.grown_drewN _ _ _))).mono ?_); rintro e w4 ⟨⟨A, m, c', ok, rfl, hm, ho⟩, h⟩; have S4 := Lib.hid h; obtain ⟨⟨c40, c41, c42, c43, c44, c45, c46⟩, b40, b41, b42, b43⟩ := S4.out.all; clear h)
    have OK := Lib.hid ho
    have A2 := Lib.hid ha2
    clear ho ha1 ha2 c30 c31 c32 c33 c34 c35 c36 b30 b31 b32 b33
    by_cases g1 : ok = false
    · subst g1
      go_wp2
      go_ret
      exact ⟨by simp, x, s, p, by rw [← HN.out]; exact S4.out.un, HR.out, TX.out, by omega, fun _ => id, fun _ _ => ⟨rfl, rfl⟩⟩
    obtain rfl : ok = true := by simpa using g1
    by_cases g2 : a2 < 0
    · go_wp2
      go_ret
      exact ⟨by simp, x, s, p, by rw [← HN.out]; exact S4.out.un, HR.out, TX.out, by omega, fun _ => id, fun _ _ => ⟨rfl, rfl⟩⟩
    have t2 : decide (a2 < 0) = false := decide_eq_false g2
    by_cases g3 : q < 0
    · go_wp2
      go_ret
      exact ⟨by simp, x, s, p, by rw [← HN.out]; exact S4.out.un, HR.out, TX.out, by omega, fun _ => id, fun _ _ => ⟨rfl, rfl⟩⟩
    have t3 : decide (q < 0) = false := decide_eq_false g3
    by_cases g4 : (m : Int) ≤ q
    · go_wp2
      go_ret
      exact ⟨by simp, x, s, p, by rw [← HN.out]; exact S4.out.un, HR.out, TX.out, by omega, fun _ => id, fun _ _ => ⟨rfl, rfl⟩⟩
    have t4 : decide ((m : Int) ≤ q) = false := decide_eq_false g4
    obtain ⟨jn, rfl⟩ : ∃ jn : Nat, q = jn := ⟨q.toNat, by omega⟩
    obtain ⟨i1, o1, o2, o3, o4, o5⟩ := OK.out rfl
    have rb : a2 ∈ x.tk := by
      rcases A2.out with e | e
      · omega
      · exact e
    obtain ⟨z, z1, z2, z3, z4, P2, P3⟩ := P1.out a1 a2 i1 jn o1 o2 o3 o4 (by omega) rb
    have P2 := Lib.hid P2
    have P3 := Lib.hid P3
    have ZZ := Lib.hid (⟨z1, z2, z4⟩ : _ ∧ _ ∧ _)
    clear o2 o3 o4 o5 rb z1 z2 z3 z4 P0 P1 PK
    have hd : w4.heap.size = w4.heap.size := rfl
    generalize hd1 : w4.heap.size = d at hd
    have S5 := Lib.hid (show Wm w0 B I g r t N c H M x s n (ph.toq x) s p [(d, vbo a2), (b, opo 2 jn i j)] (w4.alloc (vbo a2)) from S4.out.box _ hd1.symm)
    go_upto_region 11 with fail
    have hW5 : w4.alloc (.cells #[.int .i64 2, .int .i64 a2] 64) = w4.alloc (vbo a2) := rfl
    rw [hW5]
    generalize w4.alloc (vbo a2) = w5 at S5
    clear hd hW5 hd1 c40 c41 c42 c43 c44 c45 c46 b40 b41 b42 b43 S4 g1 g2 g3 g4 t2 t3 t4 OK A2 RG hm
    obtain ⟨⟨c50, c51, c52, c53, c54, c55, c56⟩, ⟨b50, b51, b52, b53⟩, d50, d51⟩ := S5.out.all5
    go_wp2
    go_region_held3 (fun W2 => W2.cell? ⟨B, 3, none⟩ = some (.pointer (some ⟨H, 0, none⟩)) ∧ W2.cell? ⟨b, 1, none⟩ = some (.int .i64 jn) ∧ W2.cell? ⟨d, 0, none⟩ = some (.int .i64 2) ∧ W2.cell? ⟨d, 1, none⟩ = some (.int .i64 a2)) (first | exact ⟨c63, b61, d60, d61⟩ | exact ⟨c53, b51, d50, d51⟩ | go_keep) (first
      | (go_at_call 31; (with_reducible refine (P2.out _ _ (by first | exact S5.out | exact S5.out.new (gr.grown_drew _ _) | exact S5.out.new (li.grown_drewN _ _ _))).mono ?_); rintro e w6 ⟨rfl, h⟩; have S6 := Lib.hid h; obtain ⟨⟨c60, c61, c62, c63, c64, c65, c66⟩, ⟨b60, b61, b62, b63⟩, d60, d61⟩ := S6.out.all5; clear h))
    all_goals
      go_wp2
      go_region_held3 (fun W2 => W2.cell? ⟨B, 0, none⟩ = some (.pointer (some ⟨I.S, 0, none⟩)) ∧ W2.cell? ⟨b, 1, none⟩ = some (.int .i64 jn) ∧ W2.cell? ⟨d, 0, none⟩ = some (.int .i64 2) ∧ W2.cell? ⟨d, 1, none⟩ = some (.int .i64 a2)) (first | exact ⟨c70, b71, d70, d71⟩ | exact ⟨c60, b61, d60, d61⟩ | go_keep) (first
        | (go_at_call 25; (with_reducible refine (P3.out _ _ (by first | exact S6.out | exact S6.out.new (gr.grown_drew _ _) | exact S6.out.new (li.grown_drewN _ _ _))).mono ?_); rintro e w7 ⟨rfl, h⟩; have S7 := Lib.hid h; obtain ⟨⟨c70, c71, c72, c73, c74, c75, c76⟩, ⟨b70, b71, b72, b73⟩, d70, d71⟩ := S7.out.all5; clear h))
      all_goals
        go_wp2
        go_ret
        refine ⟨by simp, z, s, p, ?_, HR.out, ZZ.out.1, by have := ZZ.out.2.1; omega, ZZ.out.2.2, fun _ _ => ⟨rfl, rfl⟩⟩
        rw [← HN.out]
        first | exact S7.out.un | exact (S7.out.new (gr.grown_drew _ _)).un | exact (S7.out.new (li.grown_drewN _ _ _)).un
end
end Go.Proofs.YtacjleladjgkeaaGreatDoor.tr

/- The statement's own step, whatever it is; its beginning. -/
namespace Go.Proofs.YtacjleladjgkeaaGreatDoor.tr
open Go.ChangeShapes Go.WideShapes Go.ChangeAt Go.RowKit gen calls cls geos ce st sh
set_option linter.unusedVariables false
set_option maxHeartbeats 8000000
set_option maxRecDepth 100000
/-- All that stands between two steps. -/
def Ru (w0 : World) (B : Nat) (I : Ids) (g r t N c H M : Nat) (x : Hs) (s : Ps) (p : Int) (W : World) : Prop :=
  (∃ L K J, Wp w0 W B I x L g r s t N c (tc.left N p) K H (ph.toq x) J M s p) ∧ (-1 ≤ p ∧ p < N) ∧ x.T = 1
section
variable {w0 W W' : World} {B : Nat} {I : Ids} {x x' : Hs} {g r t N c H M : Nat} {s s' : Ps} {p p' : Int}
theorem Ru.new (h : Ru w0 B I g r t N c H M x s p W) (hg : W.grownBy W' none) : Ru w0 B I g r t N c H M x s p W' := by
  obtain ⟨⟨L, K, J, h1⟩, h2, h3⟩ := h
  exact ⟨⟨L, K, J, h1.new hg⟩, h2, h3⟩
theorem Ru.grown (h : Ru w0 B I g r t N c H M x s p W) : w0.grownBy W none := by
  obtain ⟨⟨L, K, J, h1⟩, h2, h3⟩ := h
  exact h1.gr
theorem Ru.step (h : Ru w0 B I g r t N c H M x s p W) (s8 : x.cnt + 1 < 1099511627776) (hT : bm.Tab w0) (k q i j : Int) :
    Calls Tryz.prog 9 #[.pointer (some ⟨B, 0, none⟩), .agg #[.int .i64 k, .int .i64 q, .int .i64 i, .int .i64 j]] W fun e w' => e = .returned (.bool true) ∧ ∃ x' s' p', Ru w0 B I g r t N c H M x' s' p' w' ∧ x'.cnt ≤ x.cnt + 1 ∧ (∀ k0, Rk k0 x → Rk k0 x') ∧ (k ≤ 2 → tc.Ts.idle ⟨s, p⟩ = true → s' = s ∧ p' = p) := by
  obtain ⟨⟨L, K, J, h1⟩, h2, h3⟩ := h
  have main : Calls Tryz.prog 9 #[.pointer (some ⟨B, 0, none⟩), .agg #[.int .i64 k, .int .i64 q, .int .i64 i, .int .i64 j]] W (StA w0 B I g r t N c H M x s p k) := by
    by_cases k1 : k = 1
    · subst k1; exact step1 h1 rfl h2 h3 s8 q i j
    by_cases k2 : k = 2
    · subst k2; exact step2 h1 rfl h2 h3 s8 q i j
    by_cases k3 : k = 3
    · subst k3; exact step3 h1 rfl h2 h3 s8 q i j
    by_cases k4 : k = 4
    · subst k4; exact step4 h1 rfl h2 h3 s8 q i j
    exact step0 h1 rfl h2 h3 s8 hT k q i j (by omega)
  refine main.mono fun e w' ⟨e1, z, s', p', ⟨L2, K2, J2, m1, _⟩, m2, m3, m4, m5, m6⟩ => ⟨e1, z, s', p', ⟨⟨L2, K2, J2, m1⟩, m2, m3⟩, m4, m5, m6⟩
end
theorem begin_any {w0 w : World} (hg0 : w0.grownBy w none) (n1 n2 n3 : Int) {N c r : Nat} (hN : bm.near n1 1 64 = N) (hN2 : 1 ≤ N ∧ N ≤ 64) (hc : bm.near n3 1 16 = c) (hc2 : 1 ≤ c ∧ c ≤ 16) (hr : sk.near n2 1 256 = r) (hr2 : 1 ≤ r ∧ r ≤ 256) :
    Calls Tryz.prog 7 #[.int .i64 n1, .int .i64 n2, .int .i64 n3] w fun e w' => ∃ B I g t H M, e = .returned (.pointer (some ⟨B, 0, none⟩)) ∧ Ru w0 B I g r t N c H M (ph.x0 N) none0 (-1) w' := by
  have C1 := Lib.hid (fun w => near_any n1 1 64 w)
  have C2 := Lib.hid (fun w => near_any n3 1 16 w)
  rw [hN] at C1
  rw [hc] at C2
  have NS := Lib.hid (fun w => st.New_any N 1 N 1 (pnear_id hN2.2) (by decide) w)
  have NG := Lib.hid (fun w => sh.New_any n2 r hr hr2.1 hr2.2 w)
  have NT := Lib.hid (fun pS qg W => tnew_any pS qg N c (near_id hN2) (near_id hc2) W)
  have NH := Lib.hid (fun w => ph.rNew_any N N (pnear_id hN2.2) w)
  have NM := Lib.hid (fun w => rNew_any n2 r hr hr2.2 w)
  have HN := Lib.hid hN2
  have HC := Lib.hid hc2
  have G0 := Lib.hid hg0
  clear hN hN2 hc hc2 hr hr2 hg0
  go_enter Tryz.func7, Tryz.ntmps7
  go_wp2_with (first
    | (have mark := NS1; go_at_call 11; (with_reducible refine (C2.out _).mono ?_); rintro e w' ⟨rfl, rfl⟩)
    | (go_at_call 11; (with_reducible refine (C1.out _).mono ?_); rintro e w' ⟨rfl, rfl⟩; have NS1 := Lib.hid True.intro)
    | (go_at_call 22; (with_reducible refine (NS.out _).mono ?_); rintro e w1 ⟨I, rfl, hs, hl, hg⟩; have H1 := Lib.hid (show Sr w1 I (ph.x0 N) from hs); have G1 := Lib.hid hg; have O1 := Lib.hid hl; clear hs hl hg)
    | (go_at_call 23; (with_reducible refine (NG.out _).mono ?_); rintro e w2 ⟨g, L, rfl, hs, hl, hg⟩; have H2 := Lib.hid hs; have O2 := Lib.hid hl; have G2 := Lib.hid hg; clear hs hl hg)
    | (go_at_call 20; (with_reducible refine (NT.out _ _ _).mono ?_); rintro e w3 ⟨rfl, hs, hg⟩; have H3 := Lib.hid hs; have G3 := Lib.hid hg; clear hs hg)
    | (go_at_call 27; (with_reducible refine (NH.out _).mono ?_); rintro e w4 ⟨H, K, rfl, hs, hl, hg⟩; have H4 := Lib.hid hs; have O4 := Lib.hid hl; have G4 := Lib.hid hg; clear hs hl hg)
    | (go_at_call 28; (with_reducible refine (NM.out _).mono ?_); rintro e w5 ⟨M, J, rfl, hs, hl, hg⟩; have H5 := Lib.hid hs; have O5 := Lib.hid hl; have G5 := Lib.hid hg; clear hs hl hg))
  go_ret
  have h1 := H1.out
  have h2 := H2.out
  have h3 : tc.Tc w3 w2.heap.size I.S g N c 0 := H3.out
  have h4 := H4.out
  have h5 := H5.out
  have g6 := World.grownBy_alloc w5 (.cells (wcs I.S g w2.heap.size H M N c) 40 (0, 0)) none
  have k1 := h1.lt
  have k2 := h2.lt
  have k3 := h3.lt
  have k4 := h4.lt
  have k5 := h5.lt
  have o1 := O1.out
  have o2 := O2.out
  have o4 := O4.out
  have o5 := O5.out
  have s0 := G0.out.size
  have s1 := G1.out.size
  have s2 := G2.out.size
  have s3 := G3.out.size
  have s4 := G4.out.size
  have s5 := G5.out.size
  have iv : Iv (ph.x0 N) := ⟨Ok.new N HN.out.2, fun b hb => by simp [ph.x0] at hb, fun o ho => by simp [ph.x0] at ho, ca.Good.nil _⟩
  have tl : ∀ q, q ∈ w2.heap.size :: L → w1.heap.size ≤ q ∧ q < w3.heap.size := fun q hq => by
    rcases List.mem_cons.1 hq with rfl | hq
    · omega
    · have := o2 q hq; have := k2 q hq; omega
  refine ⟨w5.heap.size, I, g, w2.heap.size, H, M, rfl, ⟨L, K, J, ?_⟩, ⟨by omega, by have := HN.out; omega⟩, rfl⟩
  refine ⟨⟨h1.new (G2.out.trans (G3.out.trans (G4.out.trans (G5.out.trans g6)))), iv, h2.new (G3.out.trans (G4.out.trans (G5.out.trans g6))), h3.gr (M := []) (Gr.new (G4.out.trans (G5.out.trans g6))) (by simp), fun q hq hm => (by have := o2 q hq; have := k1 q hm; omega), by show (0 : Nat) < 1099511627776; omega, HN.out, HC.out, Nat.zero_le _⟩,
    ⟨h4.new (G5.out.trans g6), h5.new g6, fun q hq hm => (by have := o5 q hq; have := k4 q hm; omega), fun o ho => by cases ho⟩, heap_alloc_new _ _, fun q hq => ?_, fun q hq => ?_, ⟨fun hm => ?_, fun hm => ?_⟩, ⟨fun q hq => ?_, fun q hq => ?_, fun q hq => ?_, fun q hq => ?_, ?_⟩, G0.out.trans (G1.out.trans (G2.out.trans (G3.out.trans (G4.out.trans (G5.out.trans g6)))))⟩
  · have := k1 q hq
    exact ⟨fun hm => by have := o4 q hm; omega, fun hm => by have := o5 q hm; omega, by omega⟩
  · have := tl q hq
    exact ⟨fun hm => by have := o4 q hm; omega, fun hm => by have := o5 q hm; omega, by omega⟩
  · have := k4 _ hm; omega
  · have := k5 _ hm; omega
  · have := o1 q hq; omega
  · have := tl q hq; omega
  · have := o4 q hq; omega
  · have := o5 q hq; omega
  · omega
end Go.Proofs.YtacjleladjgkeaaGreatDoor.tr
