/- Joined: SwF, SwG, SwH. -/
import Derived.Test.YtfloleflcoiidaaGreatDoorSxC
import Derived.BigQuiet
/- The statement's own steps: what both sides do, and what is kept. -/
namespace Go.Proofs.YtfloleflcoiidaaGreatDoor.sw
open Go.ChangeShapes Go.WideShapes Go.ChangeAt Go.RowKit gen calls cls geos ce st sh
set_option linter.unusedVariables false
set_option maxHeartbeats 8000000
set_option maxRecDepth 100000
/-- The objects' list in memory. -/
structure Oo (W : World) (H : Nat) (tk : List Int) (A : Option Addr) (c : Nat) : Prop where
  cell : W.cell? ⟨H, 111, none⟩ = some (.slice A tk.length c)
  le : tk.length ≤ c
  max : c ≤ maxLen
  at_ : ∀ i, i < tk.length → ∃ b, A = some ⟨b, 0, none⟩ ∧ b < W.heap.size ∧ W.cell? ⟨b, i * 3, none⟩ = some (.int .i64 (tk.getD i 0))
/-- What both sides' steps leave, of what is by lists. -/
structure Kk (k : Int) (N : Nat) (x : Hs) (s : Ps) (c f : Nat) (z : Hs) (s' : Ps) (c' f' : Nat) : Prop where
  T : z.T = 1
  len : z.ks.length = x.ks.length
  cnt : z.cnt ≤ x.cnt + 1
  cN : c' ≤ N
  ff : f ≤ 2048 * c → f' ≤ 2048 * c'
  just : k ≤ 3 → c = N → (∀ a, isb s.ws a = true → a ∈ x.tk) → c' = N ∧ ∀ a, isb s'.ws a = true → a ∈ z.tk
def StA (w0 : World) (B : Nat) (I : Ids) (g r t N H M : Nat) (x : Hs) (s : Ps) (c f : Nat) (k : Int) (e : Ending) (w' : World) : Prop :=
  e = .returned (.bool true) ∧ ∃ (z : Hs) (s' : Ps) (c' f' : Nat), Wm w0 B I g r t N H M z s' c' f' (ph.toq z) s' c' f' [] w' ∧ Kk k N x s c f z s' c' f'
section
variable {w0 W W' : World} {B b : Nat} {I : Ids} {x x' z : Hs} {L L' K K' J J' X : List Nat} {g r t N c c' c2 f f' f2 c3 f3 n n' H M F : Nat} {s s' s2 s3 : Ps} {y y' : ph.Hq} {v : Value} {e : Ending} {bs : Bxs} {args : Array Value} {o : Obj}
theorem Ws.objs (h : Ws w0 W B I x L g r s t N c f K H (ph.toq z) J M s2 c2 f2 bs) : ∃ A d, Oo W H z.tk A d := by
  obtain ⟨V, vk, vs, vo, os, h⟩ := h.gp.pl
  obtain ⟨A, d, e1, n1, n2⟩ := h.shape
  have hl : (ph.toq z).ob.length = z.tk.length := by show (ph.obs z).length = _; unfold ph.obs; rw [List.length_map]
  rw [hl] at e1 n1
  refine ⟨A, d, by rw [h.cO, e1], n1, n2, fun i hi => ?_⟩
  obtain ⟨o, p, b, c', f1, f2, f3, f4, f5, f6, f7, f8, g0, _⟩ := h.at_ (i := i) (by rw [hl]; exact hi)
  rw [e1] at f4
  injection f4 with f4 _ _
  have : o = (z.tk[i], z.xs.getD z.tk[i].toNat 0 / 128, tc.fls z z.tk[i]) := by
    have h1 : (ph.obs z)[i]? = some o := f1
    unfold ph.obs at h1
    rw [List.getElem?_map, List.getElem?_eq_getElem hi] at h1
    injection h1 with h1
    exact h1.symm
  refine ⟨b, f4, f6, ?_⟩
  rw [g0, this]
  show some (Value.int .i64 z.tk[i]) = _
  rw [List.getD_eq_getElem?_getD, List.getElem?_eq_getElem hi]
  rfl
theorem Wm.objs (h : Wm w0 B I g r t N H M x s c f (ph.toq z) s2 c2 f2 bs W) : ∃ A d, Oo W H z.tk A d := by
  obtain ⟨L, K, J, h⟩ := h
  exact h.objs
theorem Oo.new {tk : List Int} {A : Option Addr} {d : Nat} (h : Oo W H tk A d) (hg : W.grownBy W' none) : Oo W' H tk A d :=
  ⟨hg.cell h.cell (by simp), h.le, h.max, fun i hi => by
    obtain ⟨b, h1, h2, h3⟩ := h.at_ i hi
    exact ⟨b, h1, Nat.lt_of_lt_of_le h2 hg.size, hg.cell h3 (by simp)⟩⟩
theorem Slo_tk {k : Int} {q a : Nat} (S : Slo x k q z a) : z.tk = bm.rising (x.tk ++ [(a : Int)]) := by
  rcases S with ⟨_, p, N, m, _, _, _, _, _, rfl⟩ | ⟨_, p, m, f, rest, _, _, rfl⟩ | ⟨_, _, p, m, f, rest, _, _, _, _, rfl⟩ | ⟨_, _, _, p, m, m0, n0, f, rest, _, _, _, _, rfl⟩
  all_goals rfl
theorem Slo_len {k : Int} {q a : Nat} (S : Slo x k q z a) : z.ks.length = x.ks.length := by
  rcases S with ⟨_, p, N, m, _, _, _, _, _, rfl⟩ | ⟨_, p, m, f, rest, _, _, rfl⟩ | ⟨_, _, p, m, f, rest, _, _, _, _, rfl⟩ | ⟨_, _, _, p, m, m0, n0, f, rest, _, _, _, _, rfl⟩
  · show (pg.spanN x.ks p N).length = _; exact pg.spanN_length _ _ _
  · rfl
  · rfl
  · show (x.ks.set p _).length = _; exact List.length_set
/-- An object is made, or not: both say the same. -/
theorem slow_both (V : Iv x) (x1 : x.T = 1) (hl : x.tk.length ≤ 2048) (s8 : x.cnt + 1 < 1099511627776) (q : Int) :
    ∃ (v1 v2 : Int) (z : Hs), z.T = 1 ∧ z.cnt ≤ x.cnt + 1 ∧ z.ks.length = x.ks.length ∧ (∀ a ∈ x.tk, a ∈ z.tk) ∧ Iv z ∧ (∀ W bs, Wm w0 B I g r t N H M x s c f y s2 c2 f2 bs W → Calls Tryz.prog 23 #[.pointer (some ⟨I.S, 0, none⟩), .int .i64 0, .int .i64 q] W fun e w' => e = .returned (.tuple #[.int .i64 v1, .int .i64 v2]) ∧ Wm w0 B I g r t N H M z s c f y s2 c2 f2 bs w') ∧
      ∀ W bs, Wm w0 B I g r t N H M z s c f (ph.toq x) s2 c2 f2 bs W → Calls Tryz.prog 30 #[.pointer (some ⟨H, 0, none⟩), .int .i64 0, .int .i64 q] W fun e w' => e = .returned (.tuple #[.int .i64 v1, .int .i64 v2]) ∧ Wm w0 B I g r t N H M z s c f (ph.toq z) s2 c2 f2 bs w' := by
  have s8' : x.cnt < 1099511627776 := by omega
  by_cases hq : 0 ≤ q ∧ q ≤ 127
  · obtain ⟨k, rfl⟩ : ∃ k : Nat, q = k := ⟨q.toNat, by omega⟩
    rcases Slo_dec V (t := 0) (n := k) (by omega) (by omega) with ⟨z, a, S⟩ | S
    · obtain ⟨V1, K1, M1, T1⟩ := Slo_iv V s8' (by omega) S
      exact ⟨a, 0, z, by omega, by have := M1.cnt; omega, Slo_len S, fun b hb => by rw [Slo_tk S, bm.mem_rising]; simp [hb], V1, fun W bs h => h.store V1 (by rw [M1.cnt]; omega) fun H => Slo_prog H V s8' (by omega) S, fun W bs h => h.heap (obs_few z) fun K h => ph.rSlo (t := 0) h V (by omega) s8' hl (by omega) S⟩
    · exact ⟨0, 10, x, x1, by omega, rfl, fun _ => id, V, fun W bs h => h.store V s8' fun H => (Sno_prog H V (by omega) S).mono fun e w' ⟨k1, k2⟩ => ⟨k1, H.new k2, Gr.new k2⟩, fun W bs h => h.heap (obs_few x) fun K h => ph.rSno (t := 0) h V (by omega) s8' hl (by omega) S⟩
  · exact ⟨0, 4, x, x1, by omega, rfl, fun _ => id, V, fun W bs h => h.store V s8' fun H => (Slow_range H (t := 0) (n := q) (by omega)).mono fun e w' ⟨k1, k2⟩ => ⟨k1, H.new k2, Gr.new k2⟩, fun W bs h => h.heap (obs_few x) fun K h => by
      have hP := h
      obtain ⟨V, vk, vs, vo, os, h⟩ := h
      exact (ph.rSlow_range h 0 (by omega)).mono fun e w' ⟨k1, k2⟩ => ph.Pa.same hP k2 k1⟩
/-- The thread has left: both say the same. -/
theorem dsteps_tk (ps : List Int) : ∀ (x : Hs) (k : Nat), (ps.foldl dstep (x, k)).1.tk = x.tk ∧ (ps.foldl dstep (x, k)).1.ks.length = x.ks.length ∧ (ps.foldl dstep (x, k)).1.cnt = x.cnt ∧ (ps.foldl dstep (x, k)).1.T = x.T := by
  induction ps with
  | nil => intro x k; exact ⟨rfl, rfl, rfl, rfl⟩
  | cons p ps ih =>
    intro x k
    rw [List.foldl_cons]
    obtain ⟨h1, h2, h3, h4⟩ := ih (dstep (x, k) p).1 (dstep (x, k) p).2
    have e3 : (dstep (x, k) p).1.cnt = x.cnt := by unfold dstep; split <;> rfl
    have e4 : (dstep (x, k) p).1.T = x.T := by unfold dstep; split <;> rfl
    exact ⟨h1.trans (dstep_tk _ _ _), h2.trans (dstep_len _ _ _), h3.trans e3, h4.trans e4⟩
theorem quit_both (V : Iv x) (x1 : x.T = 1) (hl : x.tk.length ≤ 2048) (s8 : x.cnt < 1099511627776) :
    ∃ (v1 : Int) (z : Hs), z.T = 1 ∧ z.cnt = x.cnt ∧ z.ks.length = x.ks.length ∧ z.tk = x.tk ∧ Iv z ∧ (∀ W bs, Wm w0 B I g r t N H M x s c f y s2 c2 f2 bs W → Calls Tryz.prog 32 #[.pointer (some ⟨I.S, 0, none⟩), .int .i64 0] W fun e w' => e = .returned (.int .i64 v1) ∧ Wm w0 B I g r t N H M z s c f y s2 c2 f2 bs w') ∧
      ∀ W bs, Wm w0 B I g r t N H M z s c f (ph.toq x) s2 c2 f2 bs W → Calls Tryz.prog 33 #[.pointer (some ⟨H, 0, none⟩), .int .i64 0] W fun e w' => e = .returned (.int .i64 v1) ∧ Wm w0 B I g r t N H M z s c f (ph.toq z) s2 c2 f2 bs w' := by
  obtain ⟨V1, K1, c1, t1⟩ := Iv.drps (x.pgs 0) (x.left 0) 0 (V.left 0) (left_none V 0)
  obtain ⟨d1, d2, d3, d4⟩ := dsteps_tk (x.pgs 0) (x.left 0) 0
  exact ⟨_, (drps (x.left 0) (x.pgs 0)).1, d4.trans x1, d3, d2, d1, V1, fun W bs h => h.store V1 (show (drps (x.left 0) (x.pgs 0)).1.cnt < _ by unfold drps; rw [d3]; exact s8) fun H => Quit_any H 0, fun W bs h => h.heap (obs_few _) fun K h => ph.rQuit_d (t := 0) h V (by omega) (by omega)⟩
/-- The boxed call's cells. -/
def opo (k q i : Int) : Obj := .cells #[.int .i64 k, .int .i64 q, .int .i64 i] 29 (0, 0)
theorem op_cells {k q i : Int} (h : W.heap[b]? = some (opo k q i)) : W.cell? ⟨b, 0, none⟩ = some (.int .i64 k) ∧ W.cell? ⟨b, 1, none⟩ = some (.int .i64 q) ∧ W.cell? ⟨b, 2, none⟩ = some (.int .i64 i) :=
  ⟨by rw [cell_of_row W b 0 _ _ _ h]; rfl, by rw [cell_of_row W b 1 _ _ _ h]; rfl, by rw [cell_of_row W b 2 _ _ _ h]; rfl⟩
/-- The world's cells and the boxed call's. -/
theorem Wm.all {k q i : Int} (h : Wm w0 B I g r t N H M x s c f y s2 c2 f2 ((b, opo k q i) :: bs) W) : (W.cell? ⟨B, 0, none⟩ = some (.pointer (some ⟨I.S, 0, none⟩)) ∧ W.cell? ⟨B, 1, none⟩ = some (.pointer (some ⟨g, 0, none⟩)) ∧ W.cell? ⟨B, 2, none⟩ = some (.pointer (some ⟨t, 0, none⟩)) ∧ W.cell? ⟨B, 3, none⟩ = some (.pointer (some ⟨H, 0, none⟩)) ∧ W.cell? ⟨B, 4, none⟩ = some (.pointer (some ⟨M, 0, none⟩)) ∧ W.cell? ⟨B, 5, none⟩ = some (.int .i64 N) ∧ W.cell? ⟨B, 6, none⟩ = some (.int .i64 c2) ∧ W.cell? ⟨B, 7, none⟩ = some (.int .i64 f2)) ∧ W.cell? ⟨b, 0, none⟩ = some (.int .i64 k) ∧ W.cell? ⟨b, 1, none⟩ = some (.int .i64 q) ∧ W.cell? ⟨b, 2, none⟩ = some (.int .i64 i) := by
  obtain ⟨a0, a1, a2, a3, a4, a5, a6, a7, _⟩ := h.cells
  exact ⟨⟨a0, a1, a2, a3, a4, a5, a6, a7⟩, op_cells (h.at_ (q := (b, opo k q i)) (by simp))⟩
end
end Go.Proofs.YtfloleflcoiidaaGreatDoor.sw

/- The statement's own steps: an object is made, or marked; the thread leaves; the sweeper starts. -/
namespace Go.Proofs.YtfloleflcoiidaaGreatDoor.sw
open Go.ChangeShapes Go.WideShapes Go.ChangeAt Go.RowKit gen calls cls geos ce st sh
set_option linter.unusedVariables false
set_option maxHeartbeats 8000000
set_option maxRecDepth 100000
section
variable {w0 W W' : World} {B b : Nat} {I : Ids} {x x' z : Hs} {L L' K K' J J' X : List Nat} {g r t N c c' c2 f f' f2 c3 f3 n n' H M F : Nat} {s s' s2 s3 : Ps} {y y' : ph.Hq} {v : Value} {e : Ending} {bs : Bxs} {args : Array Value} {o : Obj}
theorem mkd_isb {ws : List Nat} (h : bm.Fine 2048 ws) {z a : Int} (hb : isb (mkd ws z) a = true) : isb ws a = true ∨ a = z := by
  rcases sh.ways ws z with ⟨h1, h2, _, h4, _⟩ | ⟨i, rfl, hi, ⟨hb', h2, _, h4, _⟩ | ⟨hb', h2, _, h4, _⟩⟩
  · rw [h4] at hb; exact .inl hb
  · rw [h4] at hb; exact .inl hb
  · rw [h4] at hb
    unfold isb at hb ⊢
    rw [bm.bit_put _ _ _ (by have := h.1; omega)] at hb
    simp only [Bool.and_eq_true, decide_eq_true_eq, Bool.or_eq_true] at hb ⊢
    obtain ⟨⟨h5, h6⟩, h7 | h7⟩ := hb
    · exact .inl ⟨⟨h5, h6⟩, h7⟩
    · exact .inr (by omega)
theorem step1 (h : Wm w0 B I g r t N H M x s c f (ph.toq x) s c f [] W) (x1 : x.T = 1) (s8 : x.cnt + 1 < 1099511627776) (q i : Int) : Calls Tryz.prog 9 #[.pointer (some ⟨B, 0, none⟩), .agg #[.int .i64 1, .int .i64 q, .int .i64 i]] W (StA w0 B I g r t N H M x s c f 1) := by
  obtain ⟨b, hb⟩ : ∃ b, b = W.heap.size := ⟨_, rfl⟩
  obtain ⟨W1, hW1⟩ : ∃ W1, W1 = W.alloc (opo 1 q i) := ⟨_, rfl⟩
  have V : Iv x := by obtain ⟨L, K, J, h⟩ := h; exact h.sp.iv
  have hl : x.tk.length ≤ 2048 := by obtain ⟨L, K, J, h⟩ := h; exact tk_few h.sp.sr
  have cN : c ≤ N := by obtain ⟨L, K, J, h⟩ := h; exact h.sp.cN
  have S1 := Lib.hid (show Wm w0 B I g r t N H M x s c f (ph.toq x) s c f [(b, opo 1 q i)] W1 by rw [hW1]; exact h.box _ hb)
  obtain ⟨⟨c10, c11, c12, c13, c14, c15, c16, c17⟩, b10, b11, b12⟩ := S1.out.all
  obtain ⟨A, d, OB⟩ := S1.out.objs
  have o1 := OB.cell
  have od := OB.le
  have om := OB.max
  unfold maxLen at om
  obtain ⟨v1, v2, z, z1, z2, z3, z4, z5, P1, P2⟩ := slow_both (w0 := w0) (B := B) (I := I) (g := g) (r := r) (t := t) (N := N) (H := H) (M := M) (s := s) (c := c) (f := f) (y := ph.toq x) (s2 := s) (c2 := c) (f2 := f) V x1 hl s8 q
  have P1 := Lib.hid P1
  have P2 := Lib.hid P2
  have KK := Lib.hid (show Kk 1 N x s c f z s c f from ⟨z1, z3, z2, cN, id, fun _ h1 h2 => ⟨h1, fun a h3 => z4 a (h2 a h3)⟩⟩)
  clear h V hl x1 s8 OB z1 z2 z3 z4 z5 cN
  go_enter Tryz.func9, Tryz.ntmps9
  go_upto_region 1 with fail
  have hW2 : W.alloc (.cells #[.int .i64 1, .int .i64 q, .int .i64 i] 29) = W1 := hW1.symm
  rw [hW2, ← hb]
  clear hW1 hW2 hb
  go_wp2
  go_region_held3 (fun W2 => W2.cell? ⟨B, 0, none⟩ = some (.pointer (some ⟨I.S, 0, none⟩)) ∧ W2.cell? ⟨b, 1, none⟩ = some (.int .i64 q)) (first | exact ⟨c20, b21⟩ | exact ⟨c10, b11⟩ | go_keep) (first
    | (go_at_call 23; (with_reducible refine (P1.out _ _ (by first | exact S1.out | exact S1.out.new (gr.grown_drew _ _) | exact S1.out.new (li.grown_drewN _ _ _))).mono ?_); rintro e w2 ⟨rfl, h⟩; have S2 := Lib.hid h; obtain ⟨⟨c20, c21, c22, c23, c24, c25, c26, c27⟩, b20, b21, b22⟩ := S2.out.all; clear h))
  all_goals
    go_wp2
    go_region_held3 (fun W2 => W2.cell? ⟨B, 3, none⟩ = some (.pointer (some ⟨H, 0, none⟩)) ∧ W2.cell? ⟨b, 1, none⟩ = some (.int .i64 q)) (first | exact ⟨c33, b31⟩ | exact ⟨c23, b21⟩ | go_keep) (first
      | (go_at_call 30; (with_reducible refine (P2.out _ _ (by first | exact S2.out | exact S2.out.new (gr.grown_drew _ _) | exact S2.out.new (li.grown_drewN _ _ _))).mono ?_); rintro e w3 ⟨rfl, h⟩; have S3 := Lib.hid h; obtain ⟨⟨c30, c31, c32, c33, c34, c35, c36, c37⟩, b30, b31, b32⟩ := S3.out.all; clear h))
    all_goals
      go_wp2
      go_ret
      refine ⟨by simp, z, s, c, f, ?_, KK.out⟩
      first | exact S3.out.un | exact (S3.out.new (gr.grown_drew _ _)).un | exact (S3.out.new (li.grown_drewN _ _ _)).un
theorem step3 (h : Wm w0 B I g r t N H M x s c f (ph.toq x) s c f [] W) (x1 : x.T = 1) (s8 : x.cnt + 1 < 1099511627776) (q i : Int) : Calls Tryz.prog 9 #[.pointer (some ⟨B, 0, none⟩), .agg #[.int .i64 3, .int .i64 q, .int .i64 i]] W (StA w0 B I g r t N H M x s c f 3) := by
  obtain ⟨b, hb⟩ : ∃ b, b = W.heap.size := ⟨_, rfl⟩
  obtain ⟨W1, hW1⟩ : ∃ W1, W1 = W.alloc (opo 3 q i) := ⟨_, rfl⟩
  have V : Iv x := by obtain ⟨L, K, J, h⟩ := h; exact h.sp.iv
  have hl : x.tk.length ≤ 2048 := by obtain ⟨L, K, J, h⟩ := h; exact tk_few h.sp.sr
  have cN : c ≤ N := by obtain ⟨L, K, J, h⟩ := h; exact h.sp.cN
  have S1 := Lib.hid (show Wm w0 B I g r t N H M x s c f (ph.toq x) s c f [(b, opo 3 q i)] W1 by rw [hW1]; exact h.box _ hb)
  obtain ⟨⟨c10, c11, c12, c13, c14, c15, c16, c17⟩, b10, b11, b12⟩ := S1.out.all
  obtain ⟨A, d, OB⟩ := S1.out.objs
  have o1 := OB.cell
  have od := OB.le
  have om := OB.max
  unfold maxLen at om
  obtain ⟨v1, z, z1, z2, z3, z4, z5, P1, P2⟩ := quit_both (w0 := w0) (B := B) (I := I) (g := g) (r := r) (t := t) (N := N) (H := H) (M := M) (s := s) (c := c) (f := f) (y := ph.toq x) (s2 := s) (c2 := c) (f2 := f) V x1 hl (by omega)
  have P1 := Lib.hid P1
  have P2 := Lib.hid P2
  have KK := Lib.hid (show Kk 3 N x s c f z s c f from ⟨z1, z3, by omega, cN, id, fun _ h1 h2 => ⟨h1, fun a h3 => by rw [z4]; exact h2 a h3⟩⟩)
  clear h V hl x1 s8 OB z1 z2 z3 z4 z5 cN
  go_enter Tryz.func9, Tryz.ntmps9
  go_upto_region 1 with fail
  have hW2 : W.alloc (.cells #[.int .i64 3, .int .i64 q, .int .i64 i] 29) = W1 := hW1.symm
  rw [hW2, ← hb]
  clear hW1 hW2 hb
  go_wp2
  go_region_held3 (fun W2 => W2.cell? ⟨B, 0, none⟩ = some (.pointer (some ⟨I.S, 0, none⟩)) ∧ W2.cell? ⟨B, 3, none⟩ = some (.pointer (some ⟨H, 0, none⟩))) (first | exact ⟨c30, c33⟩ | exact ⟨c20, c23⟩ | exact ⟨c10, c13⟩ | go_keep) (first
    | (go_at_call 32; (with_reducible refine (P1.out _ _ (by first | exact S1.out | exact S1.out.new (gr.grown_drew _ _) | exact S1.out.new (li.grown_drewN _ _ _))).mono ?_); rintro e w2 ⟨rfl, h⟩; have S2 := Lib.hid h; obtain ⟨⟨c20, c21, c22, c23, c24, c25, c26, c27⟩, b20, b21, b22⟩ := S2.out.all; clear h)
    | (go_at_call 33; (with_reducible refine (P2.out _ _ (by first | exact S2.out | exact S2.out.new (gr.grown_drew _ _) | exact S2.out.new (li.grown_drewN _ _ _))).mono ?_); rintro e w3 ⟨rfl, h⟩; have S3 := Lib.hid h; obtain ⟨⟨c30, c31, c32, c33, c34, c35, c36, c37⟩, b30, b31, b32⟩ := S3.out.all; clear h))
  all_goals
    go_wp2
    go_ret
    refine ⟨by simp, z, s, c, f, ?_, KK.out⟩
    first | exact S3.out.un | exact (S3.out.new (gr.grown_drew _ _)).un | exact (S3.out.new (li.grown_drewN _ _ _)).un
theorem step4 (h : Wm w0 B I g r t N H M x s c f (ph.toq x) s c f [] W) (x1 : x.T = 1) (s8 : x.cnt + 1 < 1099511627776) (q i : Int) : Calls Tryz.prog 9 #[.pointer (some ⟨B, 0, none⟩), .agg #[.int .i64 4, .int .i64 q, .int .i64 i]] W (StA w0 B I g r t N H M x s c f 4) := by
  obtain ⟨b, hb⟩ : ∃ b, b = W.heap.size := ⟨_, rfl⟩
  obtain ⟨W1, hW1⟩ : ∃ W1, W1 = W.alloc (opo 4 q i) := ⟨_, rfl⟩
  have V : Iv x := by obtain ⟨L, K, J, h⟩ := h; exact h.sp.iv
  have hl : x.tk.length ≤ 2048 := by obtain ⟨L, K, J, h⟩ := h; exact tk_few h.sp.sr
  have cN : c ≤ N := by obtain ⟨L, K, J, h⟩ := h; exact h.sp.cN
  have S1 := Lib.hid (show Wm w0 B I g r t N H M x s c f (ph.toq x) s c f [(b, opo 4 q i)] W1 by rw [hW1]; exact h.box _ hb)
  obtain ⟨⟨c10, c11, c12, c13, c14, c15, c16, c17⟩, b10, b11, b12⟩ := S1.out.all
  obtain ⟨A, d, OB⟩ := S1.out.objs
  have o1 := OB.cell
  have od := OB.le
  have om := OB.max
  unfold maxLen at om
  have P1 := Lib.hid (fun bs W2 (h : Wm w0 B I g r t N H M x s c f (ph.toq x) s c f bs W2) => (show Calls Tryz.prog 13 #[.pointer (some ⟨t, 0, none⟩)] W2 fun e w' => e = .returned (.tuple #[]) ∧ Wm w0 B I g r t N H M x s 0 0 (ph.toq x) s c f bs w' from
    h.prog fun L K J h => (Start_any h.sp.so).mono fun e w' ⟨k1, k2, k3⟩ => ⟨k1, L, fun q hq => .inl hq, h.sp.box k3 k2 (Nat.zero_le _) (Nat.zero_le _), wr_t k3⟩))
  have KK := Lib.hid (show Kk 4 N x s c f x s 0 0 from ⟨x1, rfl, by omega, Nat.zero_le _, fun _ => Nat.zero_le _, fun h => absurd h (by decide)⟩)
  clear h V hl x1 s8 OB cN
  go_enter Tryz.func9, Tryz.ntmps9
  go_upto_region 1 with fail
  have hW2 : W.alloc (.cells #[.int .i64 4, .int .i64 q, .int .i64 i] 29) = W1 := hW1.symm
  rw [hW2, ← hb]
  clear hW1 hW2 hb
  go_wp2_with (go_at_call 13; (with_reducible refine (P1.out _ _ S1.out).mono ?_); rintro e w2 ⟨rfl, h⟩; have S2 := Lib.hid h; obtain ⟨d0, d1, d2, d3, d4, d5, d6, d7, dz⟩ := h.cells; have z6 := dz 6; have S3 := Lib.hid (show Wm w0 B I g r t N H M x s 0 0 (ph.toq x) s 0 f [(b, opo 4 q i)] (w2.setCell ⟨B, 6, none⟩ (.int .i64 0)) from (h.set 0).1); have S4 := Lib.hid (show Wm w0 B I g r t N H M x s 0 0 (ph.toq x) s 0 0 [(b, opo 4 q i)] ((w2.setCell ⟨B, 6, none⟩ (.int .i64 0)).setCell ⟨B, 7, none⟩ (.int .i64 0)) from ((h.set 0).1.set 0).2); obtain ⟨e0, e1, e2, e3, e4, e5, e6, e7, ez⟩ := S3.out.cells; have z7 := ez 7; clear h dz ez)
  go_ret
  exact ⟨rfl, x, s, 0, 0, S4.out.un, KK.out⟩
theorem step2 (h : Wm w0 B I g r t N H M x s c f (ph.toq x) s c f [] W) (x1 : x.T = 1) (s8 : x.cnt + 1 < 1099511627776) (q i : Int) : Calls Tryz.prog 9 #[.pointer (some ⟨B, 0, none⟩), .agg #[.int .i64 2, .int .i64 q, .int .i64 i]] W (StA w0 B I g r t N H M x s c f 2) := by
  obtain ⟨b, hb⟩ : ∃ b, b = W.heap.size := ⟨_, rfl⟩
  obtain ⟨W1, hW1⟩ : ∃ W1, W1 = W.alloc (opo 2 q i) := ⟨_, rfl⟩
  have V : Iv x := by obtain ⟨L, K, J, h⟩ := h; exact h.sp.iv
  have hl : x.tk.length ≤ 2048 := by obtain ⟨L, K, J, h⟩ := h; exact tk_few h.sp.sr
  have cN : c ≤ N := by obtain ⟨L, K, J, h⟩ := h; exact h.sp.cN
  have S1 := Lib.hid (show Wm w0 B I g r t N H M x s c f (ph.toq x) s c f [(b, opo 2 q i)] W1 by rw [hW1]; exact h.box _ hb)
  obtain ⟨⟨c10, c11, c12, c13, c14, c15, c16, c17⟩, b10, b11, b12⟩ := S1.out.all
  obtain ⟨A, d, OB⟩ := S1.out.objs
  have o1 := OB.cell
  have od := OB.le
  have om := OB.max
  unfold maxLen at om
  have P1 := Lib.hid (fun a W2 (h : Wm w0 B I g r t N H M x s c f (ph.toq x) s c f [(b, opo 2 q i)] W2) => h.grey fun L h => Black_any h a)
  have P2 := Lib.hid (fun a W2 (h : Wm w0 B I g r t N H M x (s.black a) c f (ph.toq x) s c f [(b, opo 2 q i)] W2) => h.marks fun J h => rBlack_any h a)
  have K0 := Lib.hid (show Kk 2 N x s c f x s c f from ⟨x1, rfl, by omega, cN, id, fun _ h1 h2 => ⟨h1, h2⟩⟩)
  have KA := Lib.hid (fun a (ha : a ∈ x.tk) => (show Kk 2 N x s c f x (s.black a) c f from ⟨x1, rfl, by omega, cN, id, fun _ h1 h2 => ⟨h1, fun b hb => by
    have fi : bm.Fine 2048 s.ws := by obtain ⟨L, K, J, h⟩ := h; exact h.sp.gy.fine
    rcases mkd_isb fi hb with e | e
    · exact h2 b e
    · rw [e]; exact ha⟩⟩))
  obtain ⟨n, hn⟩ : ∃ n, x.tk.length = n := ⟨_, rfl⟩
  have AT := Lib.hid (fun j (hj : j < n) => OB.at_ j (by omega))
  have GM := Lib.hid (fun j (hj : j < n) => li.getD_mem (xs := x.tk) (k := j) (by omega) 0)
  rw [hn] at o1 od hl
  have n2 : (n : Int) ≤ 2048 := by omega
  have od : (n : Int) ≤ d := by omega
  clear h V x1 s8 OB cN hn
  by_cases h0 : n = 0
  · subst h0
    go_enter Tryz.func9, Tryz.ntmps9
    go_upto_region 1 with fail
    have hW2 : W.alloc (.cells #[.int .i64 2, .int .i64 q, .int .i64 i] 29) = W1 := hW1.symm
    rw [hW2, ← hb]
    clear hW1 hW2 hb
    go_wp2
    go_ret
    refine ⟨rfl, x, s, c, f, ?_, K0.out⟩
    first | exact S1.out.un | exact (S1.out.new (gr.grown_drew _ _)).un | exact (S1.out.new (li.grown_drewN _ _ _)).un
  · have t1 : ((n : Int) == 0) = false := by simp; omega
    by_cases h1 : i < 0
    · have t2 : decide (i < 0) = true := decide_eq_true h1
      clear h0 h1
      go_enter Tryz.func9, Tryz.ntmps9
      go_upto_region 1 with fail
      have hW2 : W.alloc (.cells #[.int .i64 2, .int .i64 q, .int .i64 i] 29) = W1 := hW1.symm
      rw [hW2, ← hb]
      clear hW1 hW2 hb
      go_wp2
      go_ret
      refine ⟨rfl, x, s, c, f, ?_, K0.out⟩
      first | exact S1.out.un | exact (S1.out.new (gr.grown_drew _ _)).un | exact (S1.out.new (li.grown_drewN _ _ _)).un
    · have t2 : decide (i < 0) = false := decide_eq_false h1
      have i0 : 0 ≤ i := by omega
      have s2 : (1 : Int) ≤ n := by omega
      have nz : ¬ ((n : Int) = 0) := by omega
      obtain ⟨j, hj⟩ : ∃ j : Nat, i % (n : Int) = j := ⟨(i % (n : Int)).toNat, by have := Int.emod_nonneg i nz; omega⟩
      have hj2 : (j : Int) < n := by rw [← hj]; exact Int.emod_lt_of_pos i (by omega)
      have tm : i.tmod (n : Int) = j := by rw [Int.tmod_eq_emod_of_nonneg i0]; exact hj
      obtain ⟨bo, rfl, f6, g0⟩ := AT.out j (by omega)
      have FO := Lib.hid (GM.out j (by omega))
      generalize x.tk.getD j 0 = a at *
      have j0 : (0 : Int) ≤ j := by omega
      clear h0 h1
      go_enter Tryz.func9, Tryz.ntmps9
      go_upto_region 1 with fail
      have hW2 : W.alloc (.cells #[.int .i64 2, .int .i64 q, .int .i64 i] 29) = W1 := hW1.symm
      rw [hW2, ← hb]
      clear hW1 hW2 hb
      go_wp2
      go_quiet (fail)
      go_wp2
      go_region_held3 (fun W2 => W2.cell? ⟨B, 1, none⟩ = some (.pointer (some ⟨g, 0, none⟩)) ∧ W2.cell? ⟨B, 4, none⟩ = some (.pointer (some ⟨M, 0, none⟩))) (first | exact ⟨c31, c34⟩ | exact ⟨c21, c24⟩ | exact ⟨c11, c14⟩ | go_keep) (first
        | (go_at_call 24; (with_reducible refine (P1.out _ _ (by first | exact S1.out | exact S1.out.new (gr.grown_drew _ _) | exact S1.out.new (li.grown_drewN _ _ _) | exact (S1.out.new (li.grown_drewN _ _ _)).new (gr.grown_drew _ _))).mono ?_); rintro e w2 ⟨rfl, h⟩; have S2 := Lib.hid h; obtain ⟨⟨c20, c21, c22, c23, c24, c25, c26, c27⟩, b20, b21, b22⟩ := S2.out.all; clear h)
        | (go_at_call 31; (with_reducible refine (P2.out _ _ (by first | exact S2.out | exact S2.out.new (gr.grown_drew _ _) | exact S2.out.new (li.grown_drewN _ _ _))).mono ?_); rintro e w3 ⟨rfl, h⟩; have S3 := Lib.hid h; obtain ⟨⟨c30, c31, c32, c33, c34, c35, c36, c37⟩, b30, b31, b32⟩ := S3.out.all; clear h))
      all_goals
        go_wp2
        go_ret
        refine ⟨by simp, x, s.black a, c, f, ?_, KA.out a FO.out⟩
        first | exact S3.out.un | exact (S3.out.new (gr.grown_drew _ _)).un | exact (S3.out.new (li.grown_drewN _ _ _)).un
end
end Go.Proofs.YtfloleflcoiidaaGreatDoor.sw

/- The statement's own step, whatever it is; its beginning. -/
namespace Go.Proofs.YtfloleflcoiidaaGreatDoor.sw
open Go.ChangeShapes Go.WideShapes Go.ChangeAt Go.RowKit gen calls cls geos ce st sh
set_option linter.unusedVariables false
set_option maxHeartbeats 8000000
set_option maxRecDepth 100000
/-- All that stands between two steps. -/
def Ru (w0 : World) (B : Nat) (I : Ids) (g r t N H M : Nat) (x : Hs) (s : Ps) (c f : Nat) (W : World) : Prop :=
  Wm w0 B I g r t N H M x s c f (ph.toq x) s c f [] W ∧ x.T = 1 ∧ x.ks.length = N ∧ f ≤ 2048 * c
section
variable {w0 W W' : World} {B b : Nat} {I : Ids} {x x' z : Hs} {L L' K K' J J' X : List Nat} {g r t N c c' c2 f f' f2 c3 f3 n n' H M F : Nat} {s s' s2 s3 : Ps} {y y' : ph.Hq} {v : Value} {e : Ending} {bs : Bxs} {args : Array Value} {o : Obj}
theorem step0 (h : Wm w0 B I g r t N H M x s c f (ph.toq x) s c f [] W) (x1 : x.T = 1) (hT : bm.Tab w0) (hf : f ≤ 2048 * c) {k : Int} (hk : k ≠ 1 ∧ k ≠ 2 ∧ k ≠ 3 ∧ k ≠ 4) (q i : Int) : Calls Tryz.prog 9 #[.pointer (some ⟨B, 0, none⟩), .agg #[.int .i64 k, .int .i64 q, .int .i64 i]] W (StA w0 B I g r t N H M x s c f k) := by
  obtain ⟨b, hb⟩ : ∃ b, b = W.heap.size := ⟨_, rfl⟩
  obtain ⟨W1, hW1⟩ : ∃ W1, W1 = W.alloc (opo k q i) := ⟨_, rfl⟩
  have V : Iv x := by obtain ⟨L, K, J, h⟩ := h; exact h.sp.iv
  have fi : bm.Fine 2048 s.ws := by obtain ⟨L, K, J, h⟩ := h; exact h.sp.gy.fine
  have hl : x.tk.length ≤ 2048 := by obtain ⟨L, K, J, h⟩ := h; exact tk_few h.sp.sr
  have cN : c ≤ N := by obtain ⟨L, K, J, h⟩ := h; exact h.sp.cN
  have N64 : N ≤ 64 := by obtain ⟨L, K, J, h⟩ := h; exact h.sp.n1.2
  have S1 := Lib.hid (show Wm w0 B I g r t N H M x s c f (ph.toq x) s c f [(b, opo k q i)] W1 by rw [hW1]; exact h.box _ hb)
  obtain ⟨⟨c10, c11, c12, c13, c14, c15, c16, c17⟩, b10, b11, b12⟩ := S1.out.all
  obtain ⟨A, d, OB⟩ := S1.out.objs
  have o1 := OB.cell
  have od := OB.le
  have om := OB.max
  unfold maxLen at om
  have t1 : (k == 1) = false := by simpa using hk.1
  have t2 : (k == 2) = false := by simpa using hk.2.1
  have t3 : (k == 3) = false := by simpa using hk.2.2.1
  have t4 : (k == 4) = false := by simpa using hk.2.2.2
  have UN := Lib.hid (show Calls Tryz.prog 34 #[.pointer (some ⟨B, 0, none⟩)] W1 (StA w0 B I g r t N H M x s c f k) from by
    by_cases hc : c = N
    · subst hc
      exact (wunit_done S1.out).mono fun e w' ⟨k1, k2⟩ => ⟨k1, x, s, c, f, (S1.out.new k2).un, ⟨x1, rfl, by omega, cN, id, fun _ h1 h2 => ⟨rfl, h2⟩⟩⟩
    · refine (wunit_next S1.out (by omega) hT (by omega) (by omega)).mono fun e w' ⟨k1, k2⟩ => ⟨k1, _, _, _, _, k2.un, ?_⟩
      have P := pz_unit (z := ⟨x, s, f⟩) V fi c
      have e1 := P.f
      have e2 := List.length_filter_le (fun b => !isb s.ws b) (tc.inp x c)
      have e3 := List.length_filter_le (fun a => decide (a / 32 = (c : Int))) x.tk
      have e4 : (unit ⟨x, s, f⟩ c).f = f + ((tc.inp x c).filter fun b => !isb s.ws b).length := e1
      have e5 : (tc.inp x c).length ≤ 2048 := by unfold tc.inp; omega
      exact ⟨P.T.trans x1, P.len, by have := P.cnt; show _ ≤ x.cnt + 1; rw [this]; exact Nat.le_succ _, by omega, fun _ => by omega, fun _ h1 => absurd h1 hc⟩)
  clear h V hl OB cN N64 x1 fi hf hT hk
  go_enter Tryz.func9, Tryz.ntmps9
  go_upto_region 1 with fail
  have hW2 : W.alloc (.cells #[.int .i64 k, .int .i64 q, .int .i64 i] 29) = W1 := hW1.symm
  rw [hW2, ← hb]
  clear hW1 hW2 hb
  go_wp2_with (go_at_call 34; (with_reducible refine UN.out.mono ?_); rintro e w2 ⟨rfl, h⟩; have S2 := Lib.hid h; clear h)
  go_ret
  exact ⟨rfl, S2.out⟩
theorem Ru.new (h : Ru w0 B I g r t N H M x s c f W) (hg : W.grownBy W' none) : Ru w0 B I g r t N H M x s c f W' := ⟨h.1.new hg, h.2⟩
theorem Ru.grown (h : Ru w0 B I g r t N H M x s c f W) : w0.grownBy W none := h.1.grown
/-- What a step leaves. -/
def RuA (w0 : World) (B : Nat) (I : Ids) (g r t N H M : Nat) (x : Hs) (s : Ps) (c f : Nat) (k : Int) (e : Ending) (w' : World) : Prop :=
  e = .returned (.bool true) ∧ ∃ x' s' c' f', Ru w0 B I g r t N H M x' s' c' f' w' ∧ x'.cnt ≤ x.cnt + 1 ∧ (k ≤ 3 → c = N → (∀ a, isb s.ws a = true → a ∈ x.tk) → c' = N ∧ ∀ a, isb s'.ws a = true → a ∈ x'.tk)
theorem Ru.step (h : Ru w0 B I g r t N H M x s c f W) (s8 : x.cnt + 1 < 1099511627776) (hT : bm.Tab w0) (k q i : Int) :
    Calls Tryz.prog 9 #[.pointer (some ⟨B, 0, none⟩), .agg #[.int .i64 k, .int .i64 q, .int .i64 i]] W (RuA w0 B I g r t N H M x s c f k) := by
  obtain ⟨h1, x1, hn, hf⟩ := h
  have main : Calls Tryz.prog 9 #[.pointer (some ⟨B, 0, none⟩), .agg #[.int .i64 k, .int .i64 q, .int .i64 i]] W (StA w0 B I g r t N H M x s c f k) := by
    by_cases k1 : k = 1
    · subst k1; exact step1 h1 x1 s8 q i
    by_cases k2 : k = 2
    · subst k2; exact step2 h1 x1 s8 q i
    by_cases k3 : k = 3
    · subst k3; exact step3 h1 x1 s8 q i
    by_cases k4 : k = 4
    · subst k4; exact step4 h1 x1 s8 q i
    exact step0 h1 x1 hT hf ⟨k1, k2, k3, k4⟩ q i
  exact main.mono fun e w' ⟨e1, z, s', c', f', m1, m2⟩ => ⟨e1, z, s', c', f', ⟨m1, m2.T, m2.len.trans hn, m2.ff hf⟩, m2.cnt, m2.just⟩
end
theorem near_any (n a b : Int) (w : World) : Calls Tryz.prog 27 #[.int .i64 n, .int .i64 a, .int .i64 b] w fun e w' => e = .returned (.int .i64 (bm.near n a b)) ∧ w = w' := by
  unfold bm.near
  by_cases h1 : n < a
  · rw [if_pos h1]
    go_enter Tryz.func27, Tryz.ntmps27
    go_wp2
    go_ret
    exact ⟨rfl, rfl⟩
  · rw [if_neg h1]
    by_cases h2 : b < n
    · rw [if_pos h2]
      go_enter Tryz.func27, Tryz.ntmps27
      go_wp2
      go_ret
      exact ⟨rfl, rfl⟩
    · rw [if_neg h2]
      go_enter Tryz.func27, Tryz.ntmps27
      go_wp2
      go_ret
      exact ⟨rfl, rfl⟩
theorem near_nat (n : Int) {b : Nat} (hb : 1 ≤ b) : ∃ k : Nat, bm.near n 1 b = k ∧ 1 ≤ k ∧ k ≤ b := by
  unfold bm.near
  split
  · exact ⟨1, rfl, by omega, by omega⟩
  · split
    · exact ⟨b, rfl, by omega, by omega⟩
    · exact ⟨n.toNat, by omega, by omega, by omega⟩
theorem near_id {k b : Nat} (h : 1 ≤ k ∧ k ≤ b) : bm.near (k : Int) 1 (b : Int) = k := by unfold bm.near; rw [if_neg (by omega), if_neg (by omega)]
theorem pnear_id {k b : Nat} (h : k ≤ b) : pg.near (k : Int) 0 (b : Int) = k := by unfold pg.near; rw [if_neg (by omega), if_neg (by omega)]
theorem few_any (A : Option Addr) (n c : Nat) (w : World) (hn : n ≤ c) (hc : c ≤ maxLen) (hA : 0 < n → ∃ ad, A = some ad) :
    Calls Tryz.prog 8 #[.slice A n c] w fun e w' => (∃ m c', m ≤ 60 ∧ m ≤ n ∧ e = .returned (.slice A m c')) ∧ w = w' := by
  unfold maxLen at hc
  by_cases h : 60 < n
  · obtain ⟨ad, rfl⟩ := hA (by omega)
    clear hA
    have l1 : (60 : Int) ≤ c := by omega
    go_enter Tryz.func8, Tryz.ntmps8
    go_wp2
    all_goals
      go_ret
      exact ⟨⟨60, _, by omega, by omega, rfl⟩, rfl⟩
  · clear hA
    go_enter Tryz.func8, Tryz.ntmps8
    go_wp2
    go_ret
    exact ⟨⟨n, _, by omega, by omega, rfl⟩, rfl⟩
theorem begin_any {w0 w : World} (hg0 : w0.grownBy w none) (n1 : Int) {N : Nat} (hN : bm.near n1 1 64 = N) (hN2 : 1 ≤ N ∧ N ≤ 64) :
    Calls Tryz.prog 7 #[.int .i64 n1] w fun e w' => ∃ B I g t H M, e = .returned (.pointer (some ⟨B, 0, none⟩)) ∧ Ru w0 B I g 1 t N H M (ph.x0 N) none0 N 0 w' := by
  have C1 := Lib.hid (fun w => near_any n1 1 64 w)
  rw [hN] at C1
  have NS := Lib.hid (fun w => st.New_any N 1 N 1 (pnear_id hN2.2) (by decide) w)
  have NG := Lib.hid (fun w => sh.New_any 1 1 (by decide) (by decide) (by decide) w)
  have NT := Lib.hid (fun pS qg W => New_any pS qg N (near_id hN2) W)
  have NH := Lib.hid (fun w => ph.rNew_any N N (pnear_id hN2.2) w)
  have NM := Lib.hid (fun w => rNew_any 1 1 (by decide) (by decide) w)
  have HN := Lib.hid hN2
  have G0 := Lib.hid hg0
  clear hN hN2 hg0
  go_enter Tryz.func7, Tryz.ntmps7
  go_wp2_with (first
    | (go_at_call 27; (with_reducible refine (C1.out _).mono ?_); rintro e w' ⟨rfl, rfl⟩)
    | (go_at_call 21; (with_reducible refine (NS.out _).mono ?_); rintro e w1 ⟨I, rfl, hs, hl, hg⟩; have H1 := Lib.hid (show Sr w1 I (ph.x0 N) from hs); have G1 := Lib.hid hg; have O1 := Lib.hid hl; clear hs hl hg)
    | (go_at_call 22; (with_reducible refine (NG.out _).mono ?_); rintro e w2 ⟨g, L, rfl, hs, hl, hg⟩; have H2 := Lib.hid hs; have O2 := Lib.hid hl; have G2 := Lib.hid hg; clear hs hl hg)
    | (go_at_call 18; (with_reducible refine (NT.out _ _ _).mono ?_); rintro e w3 ⟨rfl, hs, hg⟩; have H3 := Lib.hid hs; have G3 := Lib.hid hg; clear hs hg)
    | (go_at_call 28; (with_reducible refine (NH.out _).mono ?_); rintro e w4 ⟨H, K, rfl, hs, hl, hg⟩; have H4 := Lib.hid hs; have O4 := Lib.hid hl; have G4 := Lib.hid hg; clear hs hl hg)
    | (go_at_call 29; (with_reducible refine (NM.out _).mono ?_); rintro e w5 ⟨M, J, rfl, hs, hl, hg⟩; have H5 := Lib.hid hs; have O5 := Lib.hid hl; have G5 := Lib.hid hg; clear hs hl hg))
  go_ret
  have h1 := H1.out
  have h2 := H2.out
  have h3 : So w3 w2.heap.size I.S g N N 0 := H3.out
  have h4 := H4.out
  have h5 := H5.out
  have g6 := World.grownBy_alloc w5 (.cells (wcs I.S g w2.heap.size H M N N 0) 38 (0, 0)) none
  have k1 := h1.lt
  have k2 := h2.lt
  have k3 := h3.lt
  have k4 := h4.lt
  have k5 := h5.lt
  have o1 := O1.out
  have o2 := O2.out
  have o4 := O4.out
  have o5 := O5.out
  have s0 := G0.out.size
  have s1 := G1.out.size
  have s2 := G2.out.size
  have s3 := G3.out.size
  have s4 := G4.out.size
  have s5 := G5.out.size
  have iv : Iv (ph.x0 N) := ⟨Ok.new N HN.out.2, fun b hb => by simp [ph.x0] at hb, fun o ho => by simp [ph.x0] at ho, ca.Good.nil _⟩
  have tl : ∀ q, q ∈ w2.heap.size :: L → w1.heap.size ≤ q ∧ q < w3.heap.size := fun q hq => by
    rcases List.mem_cons.1 hq with rfl | hq
    · omega
    · have := o2 q hq; have := k2 q hq; omega
  refine ⟨w5.heap.size, I, g, w2.heap.size, H, M, rfl, ⟨L, K, J, ?_⟩, rfl, by simp [ph.x0], Nat.zero_le _⟩
  refine ⟨⟨h1.new (G2.out.trans (G3.out.trans (G4.out.trans (G5.out.trans g6)))), iv, h2.new (G3.out.trans (G4.out.trans (G5.out.trans g6))), h3.new (G4.out.trans (G5.out.trans g6)), fun q hq hm => (by have := o2 q hq; have := k1 q hm; omega), by show (0 : Nat) < 1099511627776; omega, HN.out, Nat.le_refl _, Nat.zero_le _⟩,
    ⟨h4.new (G5.out.trans g6), h5.new g6, fun q hq hm => (by have := o5 q hq; have := k4 q hm; omega), fun o ho => by cases ho⟩, heap_alloc_new _ _, fun q hq => ?_, fun q hq => ?_, ⟨fun hm => ?_, fun hm => ?_⟩, ⟨fun q hq => ?_, fun q hq => ?_, fun q hq => ?_, fun q hq => ?_, ?_⟩, G0.out.trans (G1.out.trans (G2.out.trans (G3.out.trans (G4.out.trans (G5.out.trans g6))))), fun q hq => by cases hq⟩
  · have := k1 q hq
    exact ⟨fun hm => by have := o4 q hm; omega, fun hm => by have := o5 q hm; omega, by omega⟩
  · have := tl q hq
    exact ⟨fun hm => by have := o4 q hm; omega, fun hm => by have := o5 q hm; omega, by omega⟩
  · have := k4 _ hm; omega
  · have := k5 _ hm; omega
  · have := o1 q hq; omega
  · have := tl q hq; omega
  · have := o4 q hq; omega
  · have := o5 q hq; omega
  · omega
end Go.Proofs.YtfloleflcoiidaaGreatDoor.sw
