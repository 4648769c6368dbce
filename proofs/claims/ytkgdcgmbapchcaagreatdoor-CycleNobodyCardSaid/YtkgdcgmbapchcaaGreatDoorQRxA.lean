/- Texts that this claim stands on. -/
import Derived.Deep.MidRow
import Derived.Test.YtkgdcgmbapchcaaGreatDoorQRoX
import Derived.Test.YtkgdcgmbapchcaaGreatDoorQCyF
import Derived.Test.YtkgdcgmbapchcaaGreatDoorQSxB
namespace Go.Proofs.YtkgdcgmbapchcaaGreatDoor.rx
end Go.Proofs.YtkgdcgmbapchcaaGreatDoor.rx
namespace Go.Proofs.YtkgdcgmbapchcaaGreatDoor.cy
open Go.ChangeShapes Go.WideShapes Go.ChangeAt Go.RowKit gen calls cls geos ce st sh
set_option linter.unusedVariables false
set_option maxHeartbeats 4000000
set_option maxRecDepth 100000
structure Cb where
  B : Nat
  I : Ids
  g : Nat
  t : Nat
  v : Nat
  e : Nat
  b : Nat
def hc (rt : List (List Va)) : List Value := rt.flatMap ro.rc
def hd7 (c : Cb) (gl : Nat) : List Value := [.pointer (some ⟨c.I.S, 0, none⟩), .pointer (some ⟨c.g, 0, none⟩), .pointer (some ⟨c.t, 0, none⟩), .pointer (some ⟨c.v, 0, none⟩), .int .i64 gl, .pointer (some ⟨c.e, 0, none⟩), .pointer (some ⟨c.b, 0, none⟩)]
def bxc (c : Cb) (gl : Nat) (rt : List (List Va)) (ph cy un : Nat) : List Value := hd7 c gl ++ (hc rt ++ [.int .i64 ph, .int .i64 cy, .int .i64 un])
def Rl (rt : List (List Va)) : Prop := rt.length = 8 ∧ ∀ l ∈ rt, l.length ≤ 16
theorem hc_len : ∀ rt : List (List Va), (∀ l ∈ rt, l.length ≤ 16) → (hc rt).length = 33 * rt.length
  | [], _ => rfl
  | l :: rt, h => by
    show (ro.rc l ++ hc rt).length = _
    rw [List.length_append, ro.rc_length (h l (by simp)), hc_len rt (fun m hm => h m (by simp [hm])), List.length_cons]
    omega
section
variable {c : Cb} {gl : Nat} {rt : List (List Va)} {ph cy un : Nat}
theorem bx_low {i : Nat} (hi : i < 7) : (bxc c gl rt ph cy un)[i]? = (hd7 c gl)[i]? := by
  unfold bxc
  rw [List.getElem?_append_left (show i < 7 from hi)]
theorem bx_end (h : Rl rt) (j : Nat) : (bxc c gl rt ph cy un)[271 + j]? = [Value.int .i64 ph, .int .i64 cy, .int .i64 un][j]? := by
  unfold bxc
  have l := hc_len rt h.2
  rw [h.1] at l
  rw [List.getElem?_append_right (show 7 ≤ 271 + j by omega), show 271 + j - (hd7 c gl).length = 264 + j from by show 271 + j - 7 = _; omega, List.getElem?_append_right (by omega), l, show 264 + j - 33 * 8 = j by omega]
theorem bx_set (h : Rl rt) (j : Nat) (hj : j < 3) (v : Value) : (bxc c gl rt ph cy un).set (271 + j) v = hd7 c gl ++ (hc rt ++ [Value.int .i64 ph, .int .i64 cy, .int .i64 un].set j v) := by
  have l := hc_len rt h.2
  rw [h.1] at l
  unfold bxc
  rw [List.set_append_right _ _ (show (hd7 c gl).length ≤ 271 + j by show 7 ≤ _; omega), show 271 + j - (hd7 c gl).length = 264 + j from by show 271 + j - 7 = _; omega, List.set_append_right _ _ (by omega), l, show 264 + j - 33 * 8 = j by omega]
end
theorem off_all {w : World} {I : Ids} {x : Hs} {B : Nat} (H : Sr w I x) {cs : Array Value} {t : TypeId} {z : Nat × Nat} (b : w.heap[B]? = some (.cells cs t z))
    (ht : t = 65 ∨ t = 128 ∨ t = 153 ∨ t = 160) : B ∉ I.all := by
  obtain ⟨ws, H0, _⟩ := H.hp
  obtain ⟨D, C⟩ := H.at_
  obtain ⟨zs, t1, t2, _⟩ := H0.tab
  obtain ⟨m1, m2, _⟩ := H0.mem
  obtain ⟨s1, _⟩ := H0.set
  obtain ⟨es, clock, hb, _⟩ := C.own
  have nm : ∀ x t f, Obj.map es clock ≠ .cells x t f := fun _ _ _ e => by cases e
  have a1 : B ≠ I.S := ce.ty_ne b H.box (by rcases ht with rfl | rfl | rfl | rfl <;> decide)
  have a2 : B ≠ I.c := ce.ty_ne b H0.cel (by rcases ht with rfl | rfl | rfl | rfl <;> decide)
  have a3 : B ≠ I.h := ce.ty_ne b H0.hea (by rcases ht with rfl | rfl | rfl | rfl <;> decide)
  have a4 : B ≠ I.g := ce.ty_ne b t1 (by rcases ht with rfl | rfl | rfl | rfl <;> decide)
  have a5 : B ≠ I.r := ce.ty_ne b t2 (by rcases ht with rfl | rfl | rfl | rfl <;> decide)
  have a6 : B ≠ I.m := ce.ty_ne b m1 (by rcases ht with rfl | rfl | rfl | rfl <;> decide)
  have a7 : B ≠ I.q := ce.ty_ne b m2 (by rcases ht with rfl | rfl | rfl | rfl <;> decide)
  have a8 : B ≠ I.s := ce.ty_ne b s1 (by rcases ht with rfl | rfl | rfl | rfl <;> decide)
  have a9 : B ≠ I.C := ce.ty_ne b C.box (by rcases ht with rfl | rfl | rfl | rfl <;> decide)
  have a10 : B ≠ I.mb := map_ne b hb nm
  simp only [Ids.all, List.mem_cons, List.not_mem_nil, or_false]
  omega
theorem off_buf {w : World} {K : List Nat} {g B : Nat} {ls : List (List Int)} (H : bf.Bf w K g ls) {cs : Array Value} {t : TypeId} {z : Nat × Nat} (b : w.heap[B]? = some (.cells cs t z))
    (h1 : t ≠ 131) (h2 : t ≠ 41) (h3 : t ≠ 3) : B ∉ K := fun hm => by
  obtain ⟨R, us, h, rfl⟩ := H
  rcases bf.ks_of hm with rfl | rfl | ⟨i, hi, e⟩
  · exact ce.ty_ne b h.box h1 rfl
  · exact ce.ty_ne b h.row h2 rfl
  · refine (h.each i (by rw [← h.len]; exact hi)).off b (fun cs' z' e2 => ?_) e
    injection e2 with _ e2 _
    exact h3 e2
structure Cw (w : World) (k : Kn) (c : Cb) (L K : List Nat) (σ : Cy) : Prop where
  tw : tc.Tw w c.I σ.x L c.g k.r σ.s c.t k.N k.c (tc.left k.N σ.p)
  so : sw.So w c.v c.I.S c.g k.N σ.q σ.f
  rg : ep.Rg w c.e true σ.e σ.th
  bf : bf.Bf w K c.b σ.bf
  bx : w.heap[c.B]? = some (.cells (bxc c k.gl σ.rt σ.ph σ.cy σ.un).toArray 65 (0, 0))
  rl : Rl σ.rt
  kI : ∀ q, q ∈ K → q ∉ c.I.all
  kL : ∀ q, q ∈ K → q ∉ L
def al (c : Cb) (L K : List Nat) : List Nat := c.B :: c.t :: c.v :: c.e :: (L ++ (K ++ c.I.all))
theorem in_al {c : Cb} {L K : List Nat} {q : Nat} : q ∈ al c L K ↔ q = c.B ∨ q = c.t ∨ q = c.v ∨ q = c.e ∨ q ∈ L ∨ q ∈ K ∨ q ∈ c.I.all := by
  unfold al
  rw [List.mem_cons, List.mem_cons, List.mem_cons, List.mem_cons, List.mem_append, List.mem_append]
structure Dj (c : Cb) (L K : List Nat) : Prop where
  LI : ∀ q, q ∈ L → q ∉ c.I.all
  KI : ∀ q, q ∈ K → q ∉ c.I.all
  KL : ∀ q, q ∈ K → q ∉ L
  t : c.t ∉ c.I.all ∧ c.t ∉ L ∧ c.t ∉ K
  v : c.v ∉ c.I.all ∧ c.v ∉ L ∧ c.v ∉ K
  e : c.e ∉ c.I.all ∧ c.e ∉ L ∧ c.e ∉ K
  B : c.B ∉ c.I.all ∧ c.B ∉ L ∧ c.B ∉ K
  ne : c.t ≠ c.v ∧ c.t ≠ c.e ∧ c.t ≠ c.B ∧ c.v ≠ c.e ∧ c.v ≠ c.B ∧ c.e ≠ c.B
section
variable {w w' : World} {k : Kn} {c : Cb} {L L' K K' M : List Nat} {σ : Cy}
theorem Cw.dj (h : Cw w k c L K σ) : Dj c L K := by
  have S := h.tw.sr
  have G := h.tw.gy
  refine ⟨h.tw.ap, h.kI, h.kL, ⟨off_all S h.tw.tc (by simp), h.tw.tL, off_buf h.bf h.tw.tc (by decide) (by decide) (by decide)⟩,
    ⟨off_all S h.so (by simp), G.off h.so (by decide) (by decide) (by decide) (by decide), off_buf h.bf h.so (by decide) (by decide) (by decide)⟩,
    ⟨off_all S h.rg.1 (by simp), G.off h.rg.1 (by decide) (by decide) (by decide) (by decide), off_buf h.bf h.rg.1 (by decide) (by decide) (by decide)⟩,
    ⟨off_all S h.bx (by simp), G.off h.bx (by decide) (by decide) (by decide) (by decide), off_buf h.bf h.bx (by decide) (by decide) (by decide)⟩,
    ce.ty_ne h.tw.tc h.so (by decide), ce.ty_ne h.tw.tc h.rg.1 (by decide), ce.ty_ne h.tw.tc h.bx (by decide), ce.ty_ne h.so h.rg.1 (by decide), ce.ty_ne h.so h.bx (by decide), ce.ty_ne h.rg.1 h.bx (by decide)⟩
theorem Cw.lt (h : Cw w k c L K σ) : ∀ q, q ∈ al c L K → q < w.heap.size := fun q hq => by
  rcases in_al.1 hq with rfl | rfl | rfl | rfl | hq | hq | hq
  · exact (Array.getElem?_eq_some_iff.1 h.bx).1
  · exact h.tw.tc.lt
  · exact h.so.lt
  · exact h.rg.lt
  · exact h.tw.gy.lt q hq
  · exact h.bf.lt q hq
  · exact h.tw.sr.lt q hq
theorem rg_gr {g e : Nat} {b : Bool} {m : List Int} (h : ep.Rg w g b e m) (hg : Gr M w w') (hM : g ∉ M) : ep.Rg w' g b e m := ⟨hg.heap h.1 hM, h.2⟩
theorem bf_gr {g : Nat} {ls : List (List Int)} (h : bf.Bf w K g ls) (hg : Gr M w w') (hM : ∀ q, q ∈ K → q ∉ M) : bf.Bf w' K g ls := h.gr ⟨hg.os, hg.tape, hg.output, hg.size, hg.block⟩ hM
theorem Cw.gr (h : Cw w k c L K σ) (hg : Gr M w w') (hM : ∀ q, q ∈ al c L K → q ∉ M) : Cw w' k c L K σ :=
  ⟨h.tw.gr hg (fun q hq hm => hM q (in_al.2 (by simp [hm])) hq) (fun q hq hm => hM q (in_al.2 (by simp [hm])) hq) (fun hm => hM _ (in_al.2 (by simp)) hm), h.so.gr hg (fun hm => hM _ (in_al.2 (by simp)) hm), rg_gr h.rg hg (fun hm => hM _ (in_al.2 (by simp)) hm), bf_gr h.bf hg (fun q hq hm => hM q (in_al.2 (by simp [hq])) hm), hg.heap h.bx (fun hm => hM _ (in_al.2 (by simp)) hm), h.rl, h.kI, h.kL⟩
theorem Cw.new (h : Cw w k c L K σ) (hg : w.grownBy w' none) : Cw w' k c L K σ := h.gr (M := []) (.new hg) (by simp)
theorem Cw.trace (h : Cw w k c L K σ) {x' : Hs} {s' : Ps} {p' : Int} (hL : ∀ q, q ∈ L' → q ∈ L ∨ w.heap.size ≤ q) (ht : tc.Tw w' c.I x' L' c.g k.r s' c.t k.N k.c (tc.left k.N p')) (hg : Gr M w w') (hM : ∀ q, q ∈ M → q = c.t ∨ q ∈ L ∨ q ∈ c.I.all) : Cw w' k c L' K { σ with x := x', s := s', p := p' } := by
  have D := h.dj
  have lt := h.lt
  have out : ∀ q, q ≠ c.t → q ∉ L → q ∉ c.I.all → q ∉ M := fun q h1 h2 h3 hm => by
    rcases hM q hm with e | e | e
    · exact h1 e
    · exact h2 e
    · exact h3 e
  exact ⟨ht, h.so.gr hg (out _ D.ne.1.symm D.v.2.1 D.v.1), rg_gr h.rg hg (out _ D.ne.2.1.symm D.e.2.1 D.e.1), bf_gr h.bf hg (fun q hq => out _ (fun e => D.t.2.2 (e ▸ hq)) (D.KL q hq) (D.KI q hq)), hg.heap h.bx (out _ D.ne.2.2.1.symm D.B.2.1 D.B.1), h.rl, h.kI, fun q hq hm => (hL q hm).elim (D.KL q hq) fun e => by have := lt q (in_al.2 (by simp [hq])); omega⟩
theorem Cw.grey (h : Cw w k c L K σ) {s' : Ps} (hL : ∀ q, q ∈ L' → q ∈ L ∨ w.heap.size ≤ q) (hs : Gy w' L' c.g k.r s') (hg : Gr L w w') : Cw w' k c L' K { σ with s := s' } :=
  h.trace hL (h.tw.grey hL hs hg) hg fun q hq => .inr (.inl hq)
theorem Cw.sp (h : Cw w k c L K σ) (hq : σ.q ≤ k.N) (hf : σ.f ≤ 1000000) : sw.Sp w c.I σ.x L c.g k.r σ.s c.v k.N σ.q σ.f := ⟨h.tw.sr, h.tw.iv, h.tw.gy, h.so, h.tw.ap, h.tw.s8, h.tw.n1, hq, hf⟩
theorem Cw.sweep (h : Cw w k c L K σ) {x' : Hs} {s' : Ps} {q' f' : Nat} (hL : ∀ q, q ∈ L' → q ∈ L ∨ w.heap.size ≤ q) (hs : sw.Sp w' c.I x' L' c.g k.r s' c.v k.N q' f') (hg : Gr (sw.wr c.v L c.I) w w') : Cw w' k c L' K { σ with x := x', s := s', q := q', f := f' } := by
  have D := h.dj
  have lt := h.lt
  have sub : ∀ q, q ∈ c.I.L → q ∈ c.I.all := fun q hq => sw.IL_all hq
  have out : ∀ q, q ≠ c.v → q ∉ L → q ∉ c.I.all → q ∉ sw.wr c.v L c.I := fun q h1 h2 h3 hm => by
    rcases sw.in_wr.1 hm with e | e | e
    · exact h1 e
    · exact h2 e
    · exact h3 (sub q e)
  have tw' : tc.Tw w' c.I x' L' c.g k.r s' c.t k.N k.c (tc.left k.N σ.p) := ⟨hs.sr, hs.iv, hs.gy, h.tw.tc.gr hg (out _ D.ne.1 D.t.2.1 D.t.1), hs.ap, hs.s8, h.tw.n1, h.tw.c1, h.tw.nn⟩
  exact ⟨tw', hs.so, rg_gr h.rg hg (out _ D.ne.2.2.2.1.symm D.e.2.1 D.e.1), bf_gr h.bf hg (fun q hq => out _ (fun e => D.v.2.2 (e ▸ hq)) (D.KL q hq) (D.KI q hq)), hg.heap h.bx (out _ D.ne.2.2.2.2.1.symm D.B.2.1 D.B.1), h.rl, h.kI, fun q hq hm => (hL q hm).elim (D.KL q hq) fun e => by have := lt q (in_al.2 (by simp [hq])); omega⟩
theorem Cw.sweeper (h : Cw w k c L K σ) {q' f' : Nat} (hs : sw.So w' c.v c.I.S c.g k.N q' f') (hg : Gr [c.v] w w') : Cw w' k c L K { σ with q := q', f := f' } := by
  have D := h.dj
  have out : ∀ q, q ≠ c.v → q ∉ [c.v] := fun q h1 hm => h1 (by simpa using hm)
  exact ⟨h.tw.gr hg (fun q hq hm => by simp at hq; subst hq; exact D.v.1 hm) (fun q hq hm => by simp at hq; subst hq; exact D.v.2.1 hm) (out _ D.ne.1), hs, rg_gr h.rg hg (out _ D.ne.2.2.2.1.symm), bf_gr h.bf hg (fun q hq => out _ (fun e => D.v.2.2 (e ▸ hq))), hg.heap h.bx (out _ D.ne.2.2.2.2.1.symm), h.rl, h.kI, h.kL⟩
theorem Cw.reg (h : Cw w k c L K σ) {e' : Nat} {th' : List Int} (hs : ep.Rg w' c.e true e' th') (hg : Gr [c.e] w w') : Cw w' k c L K { σ with e := e', th := th' } := by
  have D := h.dj
  have out : ∀ q, q ≠ c.e → q ∉ [c.e] := fun q h1 hm => h1 (by simpa using hm)
  exact ⟨h.tw.gr hg (fun q hq hm => by simp at hq; subst hq; exact D.e.1 hm) (fun q hq hm => by simp at hq; subst hq; exact D.e.2.1 hm) (out _ D.ne.2.1), h.so.gr hg (out _ D.ne.2.2.2.1), hs, bf_gr h.bf hg (fun q hq => out _ (fun e => D.e.2.2 (e ▸ hq))), hg.heap h.bx (out _ D.ne.2.2.2.2.2.symm), h.rl, h.kI, h.kL⟩
theorem Cw.bufs (h : Cw w k c L K σ) {bf' : List (List Int)} (hK : ∀ q, q ∈ K' → q ∈ K ∨ w.heap.size ≤ q) (hs : bf.Bf w' K' c.b bf') (hg : Gr K w w') : Cw w' k c L K' { σ with bf := bf' } := by
  have D := h.dj
  have lt := h.lt
  exact ⟨h.tw.gr hg (fun q hq hm => D.KI q hq hm) (fun q hq hm => D.KL q hq hm) D.t.2.2, h.so.gr hg D.v.2.2, rg_gr h.rg hg D.e.2.2, hs, hg.heap h.bx D.B.2.2, h.rl, fun q hq hm => (hK q hq).elim (fun e => D.KI q e hm) (fun e => by have := lt q (in_al.2 (by simp [hm])); omega), fun q hq hm => (hK q hq).elim (fun e => D.KL q e hm) (fun e => by have := lt q (in_al.2 (by simp [hm])); omega)⟩
theorem Cw.box (h : Cw w k c L K σ) {rt : List (List Va)} {ph cc un : Nat} (hr : Rl rt) (hb : w'.heap[c.B]? = some (.cells (bxc c k.gl rt ph cc un).toArray 65 (0, 0))) (hg : Gr [c.B] w w') : Cw w' k c L K { σ with rt := rt, ph := ph, cy := cc, un := un } := by
  have D := h.dj
  have out : ∀ q, q ≠ c.B → q ∉ [c.B] := fun q h1 hm => h1 (by simpa using hm)
  exact ⟨h.tw.gr hg (fun q hq hm => by simp at hq; subst hq; exact D.B.1 hm) (fun q hq hm => by simp at hq; subst hq; exact D.B.2.1 hm) (out _ D.ne.2.2.1), h.so.gr hg (out _ D.ne.2.2.2.2.1), rg_gr h.rg hg (out _ D.ne.2.2.2.2.2), bf_gr h.bf hg (fun q hq => out _ (fun e => D.B.2.2 (e ▸ hq))), hb, hr, h.kI, h.kL⟩
end
end Go.Proofs.YtkgdcgmbapchcaaGreatDoor.cy
