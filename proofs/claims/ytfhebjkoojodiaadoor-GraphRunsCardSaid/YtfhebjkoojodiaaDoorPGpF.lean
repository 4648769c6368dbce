/- Texts that this claim stands on. -/
import Derived.Test.YtfhebjkoojodiaaDoorPGpB
namespace Go.Proofs.YtfhebjkoojodiaaDoor.gp
open Go.ChangeShapes Go.WideShapes Go.ChangeAt Go.RowKit gen va cd
set_option linter.unusedVariables false
set_option maxHeartbeats 1000000
set_option maxRecDepth 100000
theorem own_ty {w : World} {base n s : Nat} {e : TypeId} {v : Value} {xs : List Value} (h : w.ownsRow base e s v n xs) : ∀ q, v.ownBlock = some q → ∃ cs, w.heap[q]? = some (.cells cs e (0, 0)) := fun q hq => by
  rcases h.2 with ⟨rfl, _⟩ | ⟨g, cap, cur, rfl, _, hg, _⟩
  · cases hq
  · injection hq with hq
    subst hq
    exact ⟨cur, hg⟩
theorem ty_ne' {w : World} {a b : Nat} {x y : Array Value} {t u : TypeId} {f k : Nat × Nat} (h1 : w.heap[a]? = some (.cells x t f)) (h2 : w.heap[b]? = some (.cells y u k)) (h : t ≠ u) : a ≠ b := by
  rintro rfl
  have := h1.symm.trans h2
  injection this with this
  injection this with _ e _
  exact h e
def Gans (w : World) (K : List Nat) (g : Nat) (cf : Nat → Int) (σ : Gs) (w' : World) : Prop := ∃ K', Gw w' K' g cf σ ∧ gr.Gr K w w' ∧ ∀ k, k ∈ K' → k ∈ K ∨ w.heap.size ≤ k
section
variable {w w' : World} {K K' : List Nat} {g : Nat} {cf : Nat → Int} {σ : Gs} {R : Nat} {A : Option Addr} {nc : Nat} {vs : Nat → Value} {bs : Nat → Nat}
theorem GwI.thread (h : GwI w K g cf σ R A nc vs bs) (hg : gr.Gr [R] w w') {t : Nat} (ht : t < σ.N) {b : Bool} {B : Option Addr} {n k : Nat} {m : List Va}
    (hrow : ∃ cs : Array Value, w'.heap[R]? = some (.cells cs 76 (0, 0)) ∧ ∀ s, s < σ.N → cs[s * 2]? = some (.bool (upd σ.lv t b s)) ∧ cs[s * 2 + 1]? = some (upd vs t (.slice B n k) s))
    (hr : Rv w' w'.heap.size B n k m) (hB : B = none → n = 0 ∧ k = 0) (hb : ∀ ad, B = some ad → ad.block ∈ K' ∧ (∃ cs fz, w'.heap[ad.block]? = some (.cells cs 57 fz)) ∧ ∀ i, i < σ.M → ad.block ≠ bs i)
    (hK : ∀ q, q ∈ K → q ∈ K') (lt : ∀ q, q ∈ K' → q < w'.heap.size) (ok : Gs.Ok { σ with lv := upd σ.lv t b, hd := upd σ.hd t m }) :
    GwI w' K' g cf { σ with lv := upd σ.lv t b, hd := upd σ.hd t m } R A nc (upd vs t (.slice B n k)) bs := by
  obtain ⟨cs, b1, b2⟩ := h.box
  obtain ⟨cr, r1, r2⟩ := h.row
  have no : ∀ {q : Nat} {cs : Array Value} {e : TypeId} {f : Nat × Nat}, w.heap[q]? = some (.cells cs e f) → e ≠ 76 → q ∉ [R] := fun hq he hm => by
    rw [List.mem_singleton] at hm
    exact ty_ne' hq r1 he hm
  refine ⟨⟨cs, hg.heap b1 (no b1 (by decide)), b2⟩, hrow, fun s hs => ?_, gr.own_gr h.own hg (fun q hq => by obtain ⟨c1, c2⟩ := own_ty h.own q hq; exact no c2 (by decide)), fun i hi => hg.heap (h.node i hi) (no (h.node i hi) (by decide)), h.apart, hK _ h.kg, hK _ h.kR, fun q hq => hK _ (h.kA q hq), fun i hi => hK _ (h.kb i hi), lt, h.cq, ok⟩
  by_cases e : s = t
  · subst e
    refine ⟨B, n, k, upd_same _ _ _, ?_, hB, hb⟩
    show Rv w' w'.heap.size B n k (upd σ.hd s m s)
    rw [upd_same]
    exact hr
  · obtain ⟨A', n', k', e1, hr1, ha1, hb1⟩ := h.held s hs
    refine ⟨A', n', k', by rw [upd_else _ _ e]; exact e1, ?_, ha1, fun ad ead => ?_⟩
    · show Rv w' w'.heap.size A' n' k' (upd σ.hd t m s)
      rw [upd_else _ _ e]
      exact rv_gr hr1 hg hg.size (fun ad ead => by obtain ⟨_, ⟨c1, f1, c2⟩, _⟩ := hb1 ad ead; exact no c2 (by decide))
    · obtain ⟨h1, ⟨c1, f1, c2⟩, h3⟩ := hb1 ad ead
      exact ⟨hK _ h1, ⟨c1, f1, hg.heap c2 (no c2 (by decide))⟩, h3⟩
theorem GwI.hset (h : GwI w K g cf σ R A nc vs bs) {t : Nat} (ht : t < σ.N) {B : Option Addr} {n k : Nat} {m : List Va} (hr : Rv w w.heap.size B n k m) (hB : B = none → n = 0 ∧ k = 0)
    (hb : ∀ ad, B = some ad → ad.block ∈ K' ∧ (∃ cs fz, w.heap[ad.block]? = some (.cells cs 57 fz)) ∧ ∀ i, i < σ.M → ad.block ≠ bs i) (hK : ∀ q, q ∈ K → q ∈ K') (lt : ∀ q, q ∈ K' → q < w.heap.size)
    (hm : m.length ≤ 16) (hv : ∀ v, v ∈ m → v.1 = 2 → 0 ≤ v.2 ∧ v.2 < σ.M) (hl : σ.lv t = true) :
    GwI (w.setCell ⟨R, t * 2 + 1, none⟩ (.slice B n k)) K' g cf { σ with hd := upd σ.hd t m } R A nc (upd vs t (.slice B n k)) bs := by
  obtain ⟨cr, r1, r2⟩ := h.row
  have e3 := heap_setCell_same w R (t * 2 + 1) _ _ (.slice B n k) r1
  have GS : gr.Gr [R] w (w.setCell ⟨R, t * 2 + 1, none⟩ (.slice B n k)) := .one (gr.grown_set _ _ _ _) (by simp)
  have no : ∀ {q : Nat} {cs : Array Value} {e : TypeId} {f : Nat × Nat}, w.heap[q]? = some (.cells cs e f) → e ≠ 76 → q ∉ [R] := fun hq he hm => by
    rw [List.mem_singleton] at hm
    exact ty_ne' hq r1 he hm
  have elv : upd σ.lv t true = σ.lv := by
    funext s
    by_cases e : s = t
    · subst e; rw [upd_same, hl]
    · rw [upd_else _ _ e]
  have ok : Gs.Ok { σ with lv := upd σ.lv t true, hd := upd σ.hd t m } := by
    have o := h.ok
    refine ⟨o.n, o.n0, o.q1, o.q2, o.m0, o.m, fun s => ?_, o.nl, fun s v hs => ?_, o.nr, fun s hs => ?_⟩
    · show (upd σ.hd t m s).length ≤ 16
      by_cases e : s = t
      · subst e; rw [upd_same]; exact hm
      · rw [upd_else _ _ e]; exact o.hl s
    · have hs' : v ∈ upd σ.hd t m s := hs
      by_cases e : s = t
      · subst e; rw [upd_same] at hs'; exact hv v hs'
      · rw [upd_else _ _ e] at hs'; exact o.hr s v hs'
    · have hs' : upd σ.lv t true s = false := hs
      show upd σ.hd t m s = []
      by_cases e : s = t
      · subst e; rw [upd_same] at hs'; cases hs'
      · rw [upd_else _ _ e] at hs' ⊢; exact o.dead s hs'
  have := h.thread GS ht (b := true) (B := B) (n := n) (k := k) (m := m) (K' := K') ⟨_, e3, fun s hs => ?_⟩ (rv_gr hr GS GS.size (fun ad e => by obtain ⟨_, ⟨c1, f1, c2⟩, _⟩ := hb ad e; exact no c2 (by decide))) hB
    (fun ad e => by obtain ⟨p1, ⟨c1, f1, c2⟩, p3⟩ := hb ad e; exact ⟨p1, ⟨c1, f1, GS.heap c2 (no c2 (by decide))⟩, p3⟩) hK (fun q hq => by have := lt q hq; simpa using this) ok
  · rw [elv] at this
    exact this
  · obtain ⟨q1, q2⟩ := r2 s hs
    rw [elv]
    refine ⟨?_, ?_⟩
    · rw [Array.getElem?_setIfInBounds_ne (by omega)]
      exact q1
    · by_cases e : s = t
      · subst e
        rw [upd_same, Array.getElem?_setIfInBounds_self_of_lt (Array.getElem?_eq_some_iff.1 q2).1]
      · rw [upd_else _ _ e, Array.getElem?_setIfInBounds_ne (by omega)]
        exact q2
end
end Go.Proofs.YtfhebjkoojodiaaDoor.gp
namespace Go.Proofs.YtfhebjkoojodiaaDoor.gp
open Go.ChangeShapes Go.WideShapes Go.ChangeAt Go.RowKit gen va cd
set_option linter.unusedVariables false
set_option maxHeartbeats 1000000
set_option maxRecDepth 100000
section
variable {w : World} {K : List Nat} {g : Nat} {cf : Nat → Int} {σ : Gs}
theorem setA (w : World) (B : Nat) (v0 v1 v2 v3 v4 : Value) : w.grownBy (((((w.setCell ⟨B, 0, none⟩ v0).setCell ⟨B, 1, none⟩ v1).setCell ⟨B, 2, none⟩ v2).setCell ⟨B, 3, none⟩ v3).setCell ⟨B, 4, none⟩ v4) (some B) :=
  ((((gr.grown_set _ _ _ _).trans (gr.grown_set _ _ _ _)).trans (gr.grown_set _ _ _ _)).trans (gr.grown_set _ _ _ _)).trans (gr.grown_set _ _ _ _)
theorem hold_full (h : Gw w K g cf σ) {t : Nat} (ht : t < σ.N) (v1 v2 : Int) (hl : (σ.hd t).length < 16) (hv : v1 = 2 → 0 ≤ v2 ∧ v2 < σ.M) (live : σ.lv t = true) :
    Calls Tryd.prog 45 #[.pointer (some ⟨g, 0, none⟩), .int .i64 (t : Int), .agg #[.int .i64 v1, .int .i64 v2]] w
      fun e w' => e = .returned (.agg #[.int .i64 0, .int .i64 v1, .int .i64 v2, .int .i64 0, .int .i64 0]) ∧ Gans w K g cf { σ with hd := upd σ.hd t (σ.hd t ++ [(v1, v2)]) } w' ∧ w'.heap[g]? = w.heap[g]? := by
  obtain ⟨R, A, nc, vs, bs, h⟩ := h
  obtain ⟨w0, hw0⟩ : ∃ w0, w0 = (w.alloc (.cells #[.int .i64 v1, .int .i64 v2] 57)).alloc (.cells #[.int .i64 0, .int .i64 0, .int .i64 0, .int .i64 0, .int .i64 0] 36) := ⟨_, rfl⟩
  have G0 := Lib.hid (show w.grownBy w0 none by rw [hw0]; exact (grown_alloc _ _).trans (grown_alloc _ _))
  have z0 : w0.heap.size = w.heap.size + 2 := by rw [hw0]; simp
  have b0 : w0.cell? ⟨w.heap.size, 0, none⟩ = some (.int .i64 v1) := by rw [hw0]; simp [go_sem]
  have b1 : w0.cell? ⟨w.heap.size, 1, none⟩ = some (.int .i64 v2) := by rw [hw0]; simp [go_sem]
  have B0 := Lib.hid b0
  have B1 := Lib.hid b1
  have AZ := Lib.hid (show ∀ j, j < 5 → w0.cell? ⟨w.heap.size + 1, j, none⟩ = some (.int .i64 0) ∧ w0.frozen? ⟨w.heap.size + 1, j, none⟩ = false by
    intro j hj
    rw [hw0]
    have hj' : j = 0 ∨ j = 1 ∨ j = 2 ∨ j = 3 ∨ j = 4 := by omega
    rcases hj' with rfl | rfl | rfl | rfl | rfl <;> simp [go_sem])
  have HW := Lib.hid hw0
  have h0 := h.new G0.out
  have x10 := h0.c10
  obtain ⟨B, m, kk, hm, hm16, t1, hr, hB⟩ := h0.hv ht
  have hN := h.ok.n
  have i1 : (0 : Int) ≤ (t : Int) := by omega
  have i2 : (t : Int) < (σ.N : Int) := by omega
  have rl := h.lt R h.kR
  have n1 : ¬ (R = w.heap.size) := by omega
  have n2 : ¬ (w.heap.size = R) := by omega
  have n3 : ¬ (R = w.heap.size + 1) := by omega
  have n4 : ¬ (w.heap.size + 1 = R) := by omega
  have H := Lib.hid h
  have HB := Lib.hid hB
  have HR := Lib.hid hr
  have HM := Lib.hid hm
  have HL := Lib.hid hl
  have LV := Lib.hid live
  have HV := Lib.hid hv
  have ok := Lib.hid h.ok
  have L0 := Lib.hid (va.Lv.nil w0 w0.heap.size)
  rw [hw0] at x10 t1
  have ZE := Lib.hid (show (w.alloc (.cells #[.int .i64 v1, .int .i64 v2] 57)).heap.size = w.heap.size + 1 by simp)
  clear h h0 hr hB hw0 live hv hm hl b0 b1
  go_enter Tryd.func45, Tryd.ntmps45
  go_wp2_with (first
    | (rw [← HW.out]; refine append_vas rfl (.tmp 8) (.tmp 16) rfl w0.heap.size _ [] rfl L0.out B m kk _ (σ.hd t) rfl HB.out HR.out (by have := HM.out; have := HL.out; simp; omega) (Nat.le_refl _) ?_; intro A1 N1 k1 w1 hn1 own1 gr1; have L1 := Lib.hid (show Lv w1 w0.heap.size (.slice A1 N1 k1) (σ.hd t) from own1); have G1 := Lib.hid (show w0.grownBy w1 none from gr1); have GA := Lib.hid (grown_alloc w1 (.cells #[.int .i64 v1, .int .i64 v2] 57)); have y0 := G1.out.cell B0.out (by simp); have y1 := G1.out.cell B1.out (by simp); clear hn1 own1 gr1 x10 t1)
    | (refine append_vas rfl (.tmp 18) (.tmp 20) rfl w0.heap.size _ (σ.hd t) rfl (L1.out.new GA.out) (some ⟨w1.heap.size, 0, none⟩) 1 1 _ [(v1, v2)] rfl (by simp) (Rv.one (by simp [go_sem]) (by simp [go_sem])) (by have := HL.out; omega) (by have := G1.out.size; simp; omega) ?_; intro A2 N2 k2 w2 hn2 own2 gr2; have L2 := Lib.hid own2; have G2 := Lib.hid ((G1.out.trans GA.out).andThen gr2 (fun q hq => .inl (L1.out.from_ q hq))); have H2 := Lib.hid (H.out.new (G0.out.trans G2.out)); have HN2 := Lib.hid hn2; have x10 := H2.out.c10; have t1 := H2.out.t1 ht; have fR := H2.out.freeR (t * 2 + 1); clear y0 y1; have y0 := G2.out.cell B0.out (by simp); have y1 := G2.out.cell B1.out (by simp); have AZ2 := Lib.hid (fun j hj => (show w2.cell? ⟨w.heap.size + 1, j, none⟩ = some (.int .i64 0) ∧ w2.frozen? ⟨w.heap.size + 1, j, none⟩ = false from ⟨G2.out.cell (AZ.out j hj).1 (by simp), gr.Gr.frozen (L := []) (.new G2.out) (AZ.out j hj).2 (by rw [z0]; simp) (by simp)⟩)); obtain ⟨a0, f0⟩ := AZ2.out 0 (by omega); obtain ⟨a1, f1⟩ := AZ2.out 1 (by omega); obtain ⟨a2, f2⟩ := AZ2.out 2 (by omega); obtain ⟨a3, f3⟩ := AZ2.out 3 (by omega); obtain ⟨a4, f4⟩ := AZ2.out 4 (by omega); clear hn2 own2 gr2))
  refine bodyPost_ret (v := .agg #[.int .i64 0, .int .i64 v1, .int .i64 v2, .int .i64 0, .int .i64 0]) (by simp [results, Tryd.results45, go_sem, a0, a1, a2, a3, a4]) rfl ⟨rfl, ?_⟩
  rcases L2.out.2 with ⟨e, _⟩ | ⟨q, cap, cur, e, hb, hq, _⟩
  · injection e with _ e2 _
    have := HN2.out
    simp at this
    omega
  · injection e with e1 e2 e3
    subst e1 e3
    have ql : w.heap.size + 2 ≤ q := by omega
    have S := H2.out.hset ht (K' := q :: K) (L2.out.rv HN2.out) (fun e => by cases e) (fun ad e => by
      injection e with e
      subst e
      exact ⟨by simp, ⟨cur, (0, 0), hq⟩, fun i hi e => by have := H.out.lt _ (H.out.kb i hi); have e' : q = bs i := e; omega⟩) (fun x hx => List.mem_cons_of_mem _ hx)
      (fun x hx => by rcases List.mem_cons.1 hx with rfl | hx; (exact (Array.getElem?_eq_some_iff.1 hq).1); (exact H2.out.lt x hx)) (by have := HL.out; simp; omega)
      (fun v hv => by
        rcases List.mem_append.1 hv with hv | hv
        · exact ok.out.hr t v hv
        · rw [List.mem_singleton] at hv
          subst hv
          exact HV.out) LV.out
    refine ⟨⟨q :: K, ⟨R, A, nc, _, bs, S.gr (L := [w.heap.size + 1]) (.one (setA _ _ _ _ _ _ _) (by simp)) (fun x hx hm => ?_)⟩, ?_, fun x hx => ?_⟩, ?_⟩
    · rw [List.mem_singleton] at hm
      rcases List.mem_cons.1 hx with rfl | hx
      · omega
      · have := H.out.lt x hx
        omega
    · have g1 : gr.Gr K w w2 := .new (G0.out.trans G2.out)
      have g2 := g1.trans (.one (gr.grown_set w2 R (t * 2 + 1) (.slice (some ⟨q, 0, none⟩) N2 k2)) H.out.kR)
      exact g2.own (M := [w.heap.size + 1]) (.one (setA _ _ _ _ _ _ _) (by simp)) (fun x hx => .inr (by rw [List.mem_singleton] at hx; omega))
    · rcases List.mem_cons.1 hx with rfl | hx
      · exact .inr (by omega)
      · exact .inl hx
    · obtain ⟨c1, c2, _⟩ := H.out.box
      obtain ⟨c3, c4, _⟩ := H.out.row
      have gR : g ≠ R := ty_ne' c2 c4 (by decide)
      have gl := H.out.lt g H.out.kg
      have g1 : gr.Gr [R, w.heap.size + 1] w _ := ((gr.Gr.new (G0.out.trans G2.out)).trans (.one (gr.grown_set w2 R (t * 2 + 1) (.slice (some ⟨q, 0, none⟩) N2 k2)) (by simp))).trans (.one (setA _ (w.heap.size + 1) (.int .i64 0) (.int .i64 v1) (.int .i64 v2) (.int .i64 0) (.int .i64 0)) (by simp))
      exact g1.block g gl (by simp; omega)
theorem hold_any (h : Gw w K g cf σ) {t : Nat} (ht : t < σ.N) (v1 v2 : Int) (hl : (σ.hd t).length < 16) (hv : v1 = 2 → 0 ≤ v2 ∧ v2 < σ.M) (live : σ.lv t = true) :
    Calls Tryd.prog 45 #[.pointer (some ⟨g, 0, none⟩), .int .i64 (t : Int), .agg #[.int .i64 v1, .int .i64 v2]] w
      fun e w' => e = .returned (.agg #[.int .i64 0, .int .i64 v1, .int .i64 v2, .int .i64 0, .int .i64 0]) ∧ Gans w K g cf { σ with hd := upd σ.hd t (σ.hd t ++ [(v1, v2)]) } w' :=
  (hold_full h ht v1 v2 hl hv live).mono fun e w' ⟨h1, h2, _⟩ => ⟨h1, h2⟩
end
end Go.Proofs.YtfhebjkoojodiaaDoor.gp
