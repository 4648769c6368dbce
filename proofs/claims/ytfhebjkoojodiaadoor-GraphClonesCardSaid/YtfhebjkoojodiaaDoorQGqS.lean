/- Texts that this claim stands on. -/
import Derived.Test.YtfhebjkoojodiaaDoorQGqR
import Derived.Test.YtfhebjkoojodiaaDoorQGqQ
namespace Go.Proofs.YtfhebjkoojodiaaDoor.gq
open Go.ChangeShapes Go.WideShapes Go.ChangeAt Go.RowKit gen va cd gp
set_option linter.unusedVariables false
set_option linter.unusedSimpArgs false
set_option maxHeartbeats 2000000
set_option maxRecDepth 100000
def Hv (w : World) (A : Option Addr) (n : Nat) (vs : List Va) : Prop := vs.length = n ∧ (n = 0 ∨ ∃ q off, ∃ cs : Array Value, A = some ⟨q, off, none⟩ ∧ w.heap[q]? = some (.cells cs 57 (0, 0)) ∧ ∀ f, f < n → cs[off + f * 2]? = some (.int .i64 (vs.getD f (0, 0)).1) ∧ cs[off + f * 2 + 1]? = some (.int .i64 (vs.getD f (0, 0)).2))
theorem Hv.kept {w w' : World} {A : Option Addr} {n : Nat} {vs : List Va} (h : Hv w A n vs) (hk : ∀ (q : Nat) (cs : Array Value), w.heap[q]? = some (Obj.cells cs 57 (0, 0)) → w'.heap[q]? = some (Obj.cells cs 57 (0, 0))) : Hv w' A n vs :=
  ⟨h.1, h.2.imp id (fun ⟨q, off, cs, e, h1, h2⟩ => ⟨q, off, cs, e, hk _ _ h1, h2⟩)⟩
theorem Hv.at_ {w : World} {A : Option Addr} {n k : Nat} {vs : List Va} (h : Hv w A n vs) (hk : k < n) {x1 x2 : Int} (hx : vs.getD k (0, 0) = (x1, x2)) : ∃ q off, A = some ⟨q, off, none⟩ ∧ w.cell? ⟨q, off + k * 2, none⟩ = some (.int .i64 x1) ∧ w.cell? ⟨q, off + k * 2 + 1, none⟩ = some (.int .i64 x2) := by
  rcases h.2 with h0 | ⟨q, off, cs, e, h1, h2⟩
  · omega
  · have := h2 k hk
    rw [hx] at this
    exact ⟨q, off, e, (cell_of_row w q _ _ _ _ h1).trans this.1, (cell_of_row w q _ _ _ _ h1).trans this.2⟩
structure Ms (w : World) (b Bm Bw base M : Nat) (p : List Int × (Nat → Bool)) : Prop where
  mb : w.heap[Bm]? = some (.cells #[.slice (some ⟨b, 0, none⟩) M M] 77 (0, 0))
  wb : ∃ v, w.heap[Bw]? = some (.cells #[v] 98 (0, 0)) ∧ Nx w base v p.1
  bb : Bb w b M p.2
section
variable {w w' w00 : World} {b Bm Bw base M : Nat} {p : List Int × (Nat → Bool)}
theorem Ms.new (h : Ms w b Bm Bw base M p) (hg : w.grownBy w' none) : Ms w' b Bm Bw base M p := by
  obtain ⟨v, h1, h2⟩ := h.wb
  have k : ∀ {q : Nat} {o : Obj}, w.heap[q]? = some o → w'.heap[q]? = some o := fun hq => gr.Gr.heap (L := []) (.new hg) hq (by simp)
  exact ⟨k h.mb, ⟨v, k h1, h2.kept hg (by simp)⟩, h.bb.kept hg (by simp)⟩
theorem nx_ty {v : Value} {L : List Int} (h : Nx w base v L) : ∀ q, v.ownBlock = some q → base ≤ q ∧ ∃ cs, w.heap[q]? = some (.cells cs 2 (0, 0)) := fun q hq => by
  obtain ⟨A, n, c, rfl, hn, ho, _⟩ := h
  exact ⟨(gr.own_lt ho q hq).1, own_ty ho q hq⟩
theorem one_cell {B : Nat} {v : Value} {t : TypeId} (h : w.heap[B]? = some (.cells #[v] t (0, 0))) : w.cell? ⟨B, 0, none⟩ = some v ∧ w.frozen? ⟨B, 0, none⟩ = false := ⟨(cell_of_row w B 0 _ _ _ h).trans rfl, frozen_of_row w B 0 _ _ h⟩
theorem mem_ownv {v : Value} {k : Nat} (hk : k ∈ v.ownBlock.toList) : v.ownBlock = some k := by
  cases e : v.ownBlock with
  | none => rw [e] at hk; cases hk
  | some x =>
    rw [e] at hk
    obtain rfl : k = x := by simpa using hk
    rfl
theorem Ms.push (h : Ms w b Bm Bw base M p) {v : Value} (hv : w.heap[Bw]? = some (.cells #[v] 98 (0, 0))) {y : Nat} (hy : y < M) {w3 : World} {v3 : Value} {X : World} (hX : (w.setCell ⟨b, y, none⟩ (.bool true)).grownBy X none) (hN : Nx w3 base v3 (p.1 ++ [(y : Int)])) (hg : X.grownBy w3 v.ownBlock) (hvN : Nx w base v p.1) :
    (w3.cell? ⟨Bw, 0, none⟩ = some v ∧ w3.frozen? ⟨Bw, 0, none⟩ = false) ∧ Ms (w3.setCell ⟨Bw, 0, none⟩ v3) b Bm Bw base M (p.1 ++ [(y : Int)], upd p.2 y true) ∧ gr.Gr (b :: Bw :: v.ownBlock.toList) w (w3.setCell ⟨Bw, 0, none⟩ v3) := by
  have t1 := ty_ne' h.bb h.mb (by decide)
  have t2 := ty_ne' h.bb hv (by decide)
  have t3 := ty_ne' h.mb hv (by decide)
  have ow := nx_ty hvN
  have s1 := h.bb.set hy
  have GS : gr.Gr [b] w (w.setCell ⟨b, y, none⟩ (.bool true)) := .one (gr.grown_set _ _ _ _) (by simp)
  have k1 : ∀ {q : Nat} {cs : Array Value} {e : TypeId} {z : Nat × Nat}, w.heap[q]? = some (.cells cs e z) → q ≠ b → e ≠ 2 → w3.heap[q]? = some (.cells cs e z) := fun {q cs e z} hq h1 h2 => by
    have e1 := gr.Gr.heap (L := []) (.new hX) (GS.heap hq (by simpa using h1)) (by simp)
    refine (hg.block q (Array.getElem?_eq_some_iff.1 e1).1 (fun e => ?_)).trans e1
    obtain ⟨_, c1, c2⟩ := ow q e.symm
    exact ty_ne' hq c2 h2 rfl
  have b3 : Bb w3 b M (upd p.2 y true) := by
    have e1 := gr.Gr.heap (L := []) (.new hX) s1 (by simp)
    refine (hg.block b (Array.getElem?_eq_some_iff.1 e1).1 (fun e => ?_)).trans e1
    obtain ⟨_, c1, c2⟩ := ow b e.symm
    exact ty_ne' h.bb c2 (by decide) rfl
  have w3b := k1 hv (Ne.symm t2) (by decide)
  have m3b := k1 h.mb (Ne.symm t1) (by decide)
  have e3 := heap_setCell_same w3 Bw 0 _ _ v3 w3b
  have G3 : w3.grownBy (w3.setCell ⟨Bw, 0, none⟩ v3) (some Bw) := gr.grown_set _ _ _ _
  refine ⟨one_cell w3b, ⟨?_, ⟨v3, e3, ?_⟩, b3.kept G3 (fun e => by injection e with e; exact t2 e.symm)⟩, ?_⟩
  · exact (G3.block Bm (Array.getElem?_eq_some_iff.1 m3b).1 (fun e => by injection e with e; exact t3 e)).trans m3b
  · obtain ⟨A3, n3, c3, rfl, q1, q2, q3⟩ := hN
    have hno : (Value.slice A3 n3 c3).ownBlock = none ∨ (Value.slice A3 n3 c3).ownBlock ≠ some Bw := by
      cases e : (Value.slice A3 n3 c3).ownBlock with
      | none => exact .inl rfl
      | some q =>
        refine .inr (fun e2 => ?_)
        injection e2 with e2
        subst e2
        obtain ⟨c1, c2⟩ := own_ty q2 q e
        exact ty_ne' c2 w3b (by decide) rfl
    have q4 := World.ownsRow.kept q2 G3 hno
    obtain ⟨A4, c4, e4, hr4⟩ := Rd.of_own q4
    injection e4 with e5 e6 e7
    subst e5 e7
    exact ⟨A3, n3, c3, rfl, q1, q4, hr4⟩
  · have g1 : gr.Gr (b :: Bw :: v.ownBlock.toList) w w3 := ((GS.mono (fun k hk => by simp at hk; simp [hk])).made hX).trans (.of hg (fun q hq => by rw [hq]; simp))
    exact g1.trans (.one G3 (by simp))
theorem meet_any {σ : Gs} (h : Ms w b Bm Bw base σ.M p) (G : w00.grownBy w none) (lb : w00.heap.size ≤ b) (lw : w00.heap.size ≤ Bw) (lbase : w00.heap.size ≤ base) (hbb : b < base) (hbw : Bw < base) (hbase : base ≤ w.heap.size) (hM : σ.M ≤ 1000) {vs : List Va} (hW : Wt σ p) (hv : Vld σ vs) {A : Option Addr} {n c : Nat} (hr : Hv w A n vs) (hn : n ≤ 1000) :
    Calls Tryd.prog 61 #[.slice A n c, .pointer (some ⟨Bm, 0, none⟩), .pointer (some ⟨Bw, 0, none⟩)] w
      fun e w' => e = .returned (.tuple #[]) ∧ Ms w' b Bm Bw base σ.M (metl p vs) ∧ w00.grownBy w' none ∧ w.heap.size ≤ w'.heap.size := by
  have HM := Lib.hid h
  have HG := Lib.hid G
  have HW := Lib.hid hW
  have HVL := Lib.hid hv
  have HV := Lib.hid hr
  have LB := Lib.hid (And.intro lb (And.intro lw lbase))
  clear h G hW hv hr lb lw lbase
  go_enter Tryd.func61, Tryd.ntmps61
  go_wp2
  go_loopw [8] (fun x wr => ∃ k : Nat, k ≤ n ∧ x = .int .i64 (k : Int) ∧ Ms wr b Bm Bw base σ.M (metl p (vs.take k)) ∧ w00.grownBy wr none ∧ w.heap.size ≤ wr.heap.size ∧ Hv wr A n vs) (fun x _ => n - (intOf x).toNat)
  case atStart => exact ⟨0, Nat.zero_le _, rfl, by simpa [metl] using HM.out, HG.out, Nat.le_refl _, HV.out⟩
  case round =>
    obtain ⟨k, hk, rfl, hm, hg, hs, hh⟩ := hrel
    have MX := Lib.hid hm
    have GX := Lib.hid hg
    have SX := Lib.hid hs
    have VX := Lib.hid hh
    by_cases hlt : k < n
    · have hlen := hh.1
      obtain ⟨⟨x1, x2⟩, hx⟩ : ∃ x, vs.getD k (0, 0) = x := ⟨_, rfl⟩
      obtain ⟨q, off, rfl, c0, c1⟩ := hh.at_ hlt hx
      have TK := Lib.hid (show metl p (vs.take (k + 1)) = met1 (metl p (vs.take k)) (x1, x2) by rw [va.take_more (by omega), metl_snoc, hx])
      have hval := HVL.out (x1, x2) (by rw [← hx]; exact va.getD_mem (by omega))
      have wt := (HW.out.metl (vs.take k) (fun v hv => HVL.out v (List.mem_of_mem_take hv))).1
      have WX := Lib.hid wt
      obtain ⟨p1, hp1⟩ : ∃ p1, metl p (vs.take k) = p1 := ⟨_, rfl⟩
      rw [hp1] at MX TK WX
      obtain ⟨v, hv1, hv2⟩ := MX.out.wb
      have l1 : (0 : Int) ≤ (k : Int) := by omega
      have l2 : (k : Int) < (n : Int) := by omega
      clear hm hg hs hh hx wt hp1
      by_cases h2 : x1 = 2
      · subst h2
        obtain ⟨v0, v1, v2⟩ := hval rfl
        dsimp only at v0 v1 v2
        obtain ⟨y, rfl⟩ : ∃ y : Nat, x2 = (y : Int) := ⟨x2.toNat, by omega⟩
        have GA := Lib.hid (grown_alloc wr (.cells #[.int .i64 2, .int .i64 (y : Int)] 57))
        have MA := Lib.hid (MX.out.new GA.out)
        have yM : y < σ.M := by omega
        have l3 : (0 : Int) ≤ (y : Int) := by omega
        have l4 : (y : Int) < (σ.M : Int) := by omega
        have ey : ((y : Int)).toNat = y := by omega
        obtain ⟨m0, m1⟩ := one_cell MA.out.mb
        have y0 := MA.out.bb.at_ yM
        have y1 := MA.out.bb.free y
        cases hmy : p1.2 y with
        | true =>
          rw [hmy] at y0
          have TE := Lib.hid (show met1 p1 (2, (y : Int)) = p1 by unfold met1; rw [if_neg (fun e => by have e3 := e.2; dsimp only at e3; rw [ey, hmy] at e3; cases e3)])
          clear hval v0 v1 v2
          go_wp2
          exact ⟨⟨k + 1, by omega, by go_num, by rw [TK.out, TE.out]; exact MA.out, GX.out.trans GA.out, by simpa using Nat.le_succ_of_le SX.out, VX.out.kept (fun q cs e => gr.Gr.heap (L := []) (.new GA.out) e (by simp))⟩, by simp [intOf]; omega⟩
        | false =>
          rw [hmy] at y0
          have TE := Lib.hid (show met1 p1 (2, (y : Int)) = (p1.1 ++ [(y : Int)], upd p1.2 y true) by unfold met1; dsimp only; rw [ey, if_pos ⟨rfl, hmy⟩])
          obtain ⟨Av, nv, cv, rfl, rfl, -⟩ := hv2.split
          have hvA := gr.Gr.heap (L := []) (.new GA.out) hv1 (by simp)
          obtain ⟨z0, z1⟩ := one_cell hvA
          obtain ⟨z2, z3⟩ := one_cell hv1
          have y2 := MX.out.bb.at_ yM
          have y3 := MX.out.bb.free y
          rw [hmy] at y2
          have n1 : b ≠ Bw := ty_ne' MX.out.bb hv1 (by decide)
          have n1' := n1.symm
          have lsz := SX.out
          have n2 : b ≠ wr.heap.size := by omega
          have n2' := n2.symm
          have HVA := Lib.hid hvA
          have NA := Lib.hid (hv2.kept GA.out (by simp))
          have HL := Lib.hid (show p1.1.length ≤ 1048575 by have := WX.out.bd; omega)
          have CZ := Lib.hid (fun (wr : World) => (show (((wr.alloc (.cells #[.int .i64 2, .int .i64 (y : Int)] 57)).setCell ⟨b, y, none⟩ (.bool true)).alloc (.cells #[.int .i64 (y : Int)] 2)).cell? ⟨wr.heap.size + 1, 0, none⟩ = some (.int .i64 (y : Int)) from by
            have e : ((wr.alloc (.cells #[.int .i64 2, .int .i64 (y : Int)] 57)).setCell ⟨b, y, none⟩ (.bool true)).heap.size = wr.heap.size + 1 := by simp
            rw [← e]
            exact (cell_of_row _ _ _ _ _ _ (heap_alloc_new _ _)).trans rfl))
          clear hval v0 v1 v2 hv1 hv2 hvA
          go_wp2_with (refine append_nx rfl (.tmp 27) (.tmp 30) rfl base _ _ rfl ((NA.out.kept (gr.grown_set _ b y (.bool true)) (fun q e => by injection e; omega)).kept (grown_alloc _ (.cells #[.int .i64 (y : Int)] 2)) (by simp)) (wr.heap.size + 1) (y : Int) (by first | rfl | simp) (CZ.out wr) HL.out (by simp; omega) ?_; intro A3 n3 c3 w3 hn3 hg3 hb3; have C3 := Lib.hid (MA.out.push HVA.out yM (grown_alloc _ (.cells #[.int .i64 (y : Int)] 2)) hn3 hg3 NA.out); obtain ⟨q0, q1⟩ := C3.out.1; have P3 := Lib.hid hb3; clear hn3 hg3 hb3)
          have GT := (GX.out.trans GA.out)
          refine ⟨⟨k + 1, by omega, by go_num, by rw [TK.out, TE.out]; exact C3.out.2.1, C3.out.2.2.grown GT (fun q hq => ?_), ?_, VX.out.kept (fun q cs e => ?_)⟩, by simp [intOf]; omega⟩
          · obtain ⟨l1, l2, l3⟩ := LB.out
            rcases List.mem_cons.1 hq with rfl | hq
            · exact l1
            · rcases List.mem_cons.1 hq with rfl | hq
              · exact l2
              · have := P3.out q (mem_ownv hq); omega
          · have := C3.out.2.2.size
            simp at this ⊢
            omega
          · refine C3.out.2.2.heap (gr.Gr.heap (L := []) (.new GA.out) e (by simp)) (fun hm => ?_)
            rcases List.mem_cons.1 hm with rfl | hm
            · exact ty_ne' e MX.out.bb (by decide) rfl
            · rcases List.mem_cons.1 hm with rfl | hm
              · exact ty_ne' (gr.Gr.heap (L := []) (.new GA.out) e (by simp)) HVA.out (by decide) rfl
              · obtain ⟨_, c1, c2⟩ := nx_ty NA.out q (mem_ownv hm)
                exact ty_ne' (gr.Gr.heap (L := []) (.new GA.out) e (by simp)) c2 (by decide) rfl
      · have e2 : (x1 == 2) = false := by simpa using h2
        have GA := Lib.hid (grown_alloc wr (.cells #[.int .i64 x1, .int .i64 x2] 57))
        have MA := Lib.hid (MX.out.new GA.out)
        have TE := Lib.hid (show met1 p1 (x1, x2) = p1 by unfold met1; rw [if_neg (fun e => h2 e.1)])
        go_wp2
        exact ⟨⟨k + 1, by omega, by go_num, by rw [TK.out, TE.out]; exact MA.out, GX.out.trans GA.out, by simpa using Nat.le_succ_of_le SX.out, VX.out.kept (fun q cs e => gr.Gr.heap (L := []) (.new GA.out) e (by simp))⟩, by simp [intOf]; omega⟩
    · have ek : k = n := by omega
      subst ek
      go_wp2
      go_end0
      exact ⟨rfl, by have e := MX.out; rwa [List.take_of_length_le (by have := VX.out.1; omega)] at e, GX.out, SX.out⟩
end
end Go.Proofs.YtfhebjkoojodiaaDoor.gq
