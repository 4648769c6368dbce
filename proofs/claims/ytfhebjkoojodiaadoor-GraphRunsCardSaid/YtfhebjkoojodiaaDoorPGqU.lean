/- Texts that this claim stands on. -/
import Derived.Test.YtfhebjkoojodiaaDoorPGqL
import Derived.Test.YtfhebjkoojodiaaDoorPGqS
namespace Go.Proofs.YtfhebjkoojodiaaDoor.gq
open Go.ChangeShapes Go.WideShapes Go.ChangeAt Go.RowKit gen va cd gp
set_option linter.unusedVariables false
set_option linter.unusedSimpArgs false
set_option maxHeartbeats 2000000
set_option maxRecDepth 100000
section
variable {w : World} {K : List Nat} {g : Nat} {σ : Gs} {R tc : Nat} {A : Option Addr} {nc : Nat} {vs : Nat → Value} {bs : Nat → Nat}
theorem hv_vc {w : World} {q : Nat} {m : List Va} (h : w.heap[q]? = some (.cells (vc m).toArray 57 (0, 0))) : Hv w (some ⟨q, 0, none⟩) m.length m := by
  refine ⟨rfl, .inr ⟨q, 0, _, rfl, h, fun f hf => ?_⟩⟩
  obtain ⟨a1, a2⟩ := vc_at m f hf
  rw [Nat.zero_add, List.getElem?_toArray, List.getElem?_toArray, Nat.mul_comm]
  exact ⟨a1, a2⟩
theorem PwI.hvn (h : PwI w K g σ R tc A nc vs bs) {i : Nat} (hi : i < σ.M) {b : Nat} (hb : 0 < (σ.nd i).length → b = bs i) : Hv w (some ⟨b, 0, none⟩) (σ.nd i).length (σ.nd i) := by
  refine ⟨rfl, ?_⟩
  by_cases h0 : (σ.nd i).length = 0
  · exact .inl h0
  · obtain ⟨n1, cn, n2, n3⟩ := h.node i hi (by omega)
    obtain rfl := hb (by omega)
    exact .inr ⟨bs i, 0, cn, rfl, n2, fun f hf => by rw [Nat.zero_add]; exact n3 f hf⟩
def upt (σ : Gs) : Nat → List Int × (Nat → Bool)
  | 0 => metl ([], fun _ => false) [(2, 0)]
  | t + 1 => metl (upt σ t) (σ.hd t)
theorem upt_all {σ : Gs} (ok : σ.Ok) : ∀ t, t ≤ σ.N → Wt σ (upt σ t) ∧ (∀ i, i < σ.M → (upt σ t).2 i = true → Dn σ (upt σ t) i) ∧ (upt σ t).2 0 = true ∧ ∀ s, s < t → ∀ v, v ∈ σ.hd s → v.1 = 2 → (upt σ t).2 v.2.toNat = true
  | 0, _ => by
    obtain ⟨w0, d0⟩ := wt_start ok
    obtain ⟨w1, a1, b1, c1⟩ := w0.metl _ (vld_zero σ ok)
    exact ⟨w1, all_done w0 (vld_zero σ ok) d0, a1 (2, 0) (List.mem_singleton.2 rfl) rfl, fun s hs => by omega⟩
  | t + 1, ht => by
    obtain ⟨w0, d0, z0, h0⟩ := upt_all ok t (by omega)
    obtain ⟨w1, a1, b1, c1⟩ := w0.metl _ (vld_held ok (show t < σ.N by omega))
    refine ⟨w1, all_done w0 (vld_held ok (show t < σ.N by omega)) d0, metl_grows _ _ _ z0, fun s hs v hv e => ?_⟩
    by_cases es : s = t
    · subst es
      exact a1 v hv e
    · exact metl_grows _ _ _ (h0 s (by omega) v hv e)
def rdm (w : World) (b n : Nat) : Bool := match w.cell? ⟨b, n, none⟩ with
  | some (.bool x) => x
  | _ => false
def rdl (w : World) (B : Nat) : Nat := match w.cell? ⟨B, 0, none⟩ with
  | some (.slice _ n _) => n
  | _ => 0
def msz (w : World) (b Bw M : Nat) : Nat := 2 * un (rdm w b) M + rdl w Bw
theorem Ms.msz {w : World} {b Bm Bw base M : Nat} {p : List Int × (Nat → Bool)} (h : Ms w b Bm Bw base M p) : gq.msz w b Bw M = 2 * un p.2 M + p.1.length := by
  obtain ⟨v, h1, h2⟩ := h.wb
  obtain ⟨A, n, c, rfl, rfl, _⟩ := h2.split
  have e1 : rdl w Bw = p.1.length := by unfold rdl; rw [(one_cell h1).1]
  have e2 : un (rdm w b) M = un p.2 M := un_congr (fun n hn => by unfold rdm; rw [h.bb.at_ hn])
  unfold gq.msz
  rw [e1, e2]
theorem nx_take {w : World} {base : Nat} {A : Option Addr} {n c : Nat} {L : List Int} {z : Int} (h : Nx w base (.slice A n c) (L ++ [z])) : n = L.length + 1 ∧ L.length ≤ c ∧ L.length + 1 ≤ c ∧ Nx w base (.slice A L.length c) L := by
  obtain ⟨A', n', c', e, hn, ho, hr⟩ := h
  injection e with e1 e2 e3
  subst e1 e2 e3
  rw [List.length_append, List.length_singleton] at hn
  subst hn
  rcases ho.2 with ⟨e, h0⟩ | ⟨q, cap, cur, e, hb, hg, q1, q2, q3, q4⟩
  · omega
  · injection e with e1 e2 e3
    subst e1 e3
    have ho2 : w.ownsRow base 2 1 (.slice (some ⟨q, 0, none⟩) L.length c) L.length (L.map (Value.int .i64)) := by
      refine ⟨by simp, .inr ⟨q, c, cur, rfl, hb, hg, by omega, q2, q3, ?_⟩⟩
      have := congrArg (List.take (L.length * 1)) q4
      rw [List.take_take, show min (L.length * 1) ((L.length + 1) * 1) = L.length * 1 by omega] at this
      rw [this]
      simp
    obtain ⟨A2, c2, e2, hr2⟩ := Rd.of_own ho2
    injection e2 with e4 e5 e6
    subst e4 e6
    exact ⟨rfl, by omega, q1, _, _, _, rfl, rfl, ho2, hr2⟩
theorem Ms.less {w : World} {b Bm Bw base M : Nat} {L : List Int} {z : Int} {m : Nat → Bool} (h : Ms w b Bm Bw base M (L ++ [z], m)) {A : Option Addr} {n c : Nat} (hv : w.heap[Bw]? = some (.cells #[.slice A n c] 98 (0, 0))) (hn : Nx w base (.slice A n c) (L ++ [z])) : Ms (w.setCell ⟨Bw, 0, none⟩ (.slice A L.length c)) b Bm Bw base M (L, m) := by
  have t2 := ty_ne' h.bb hv (by decide)
  have t3 := ty_ne' h.mb hv (by decide)
  have G3 : w.grownBy (w.setCell ⟨Bw, 0, none⟩ (.slice A L.length c)) (some Bw) := gr.grown_set _ _ _ _
  obtain ⟨_, _, _, hx⟩ := nx_take hn
  refine ⟨(G3.block Bm (Array.getElem?_eq_some_iff.1 h.mb).1 (fun e => by injection e with e; exact t3 e)).trans h.mb, ⟨_, heap_setCell_same w Bw 0 _ _ _ hv, ?_⟩, h.bb.kept G3 (fun e => by injection e with e; exact t2 e.symm)⟩
  obtain ⟨A3, n3, c3, e, q1, q2, q3⟩ := hx
  injection e with e1 e2 e3
  subst e1 e2 e3
  have hno : (Value.slice A L.length c).ownBlock = none ∨ (Value.slice A L.length c).ownBlock ≠ some Bw := by
    cases e : (Value.slice A L.length c).ownBlock with
    | none => exact .inl rfl
    | some q =>
      refine .inr (fun e2 => ?_)
      injection e2 with e2
      subst e2
      obtain ⟨c1, c2⟩ := own_ty q2 q e
      exact ty_ne' c2 hv (by decide) rfl
  have q4 := World.ownsRow.kept q2 G3 hno
  obtain ⟨A4, c4, e4, hr4⟩ := Rd.of_own q4
  injection e4 with e5 e6 e7
  subst e5 e7
  exact ⟨_, _, _, rfl, rfl, q4, hr4⟩
theorem preached_any (h : PwI w K g σ R tc A nc vs bs) : Calls Tryd.prog 48 #[.pointer (some ⟨g, 0, none⟩)] w
    fun e w' => ∃ m, e = .returned (.slice (some ⟨w.heap.size, 0, none⟩) σ.M σ.M) ∧ Bb w' w.heap.size σ.M m ∧ (∀ n, n < σ.M → (m n = true ↔ Rch σ n)) ∧ w.grownBy w' none := by
  have ok := h.ok
  have mk := make_bs σ.M (by have := ok.m; omega)
  have H := Lib.hid h
  have OK := Lib.hid ok
  have x2 := h.c2
  have hM := ok.m
  have hN := ok.n
  have gl := h.lt g h.kg
  obtain ⟨cb, hcb⟩ : ∃ cb, (bm σ.M (fun _ => false)).toArray = cb := ⟨_, rfl⟩
  rw [hcb] at mk
  obtain ⟨w1, hw1⟩ : ∃ w1, w1 = ((w.alloc (.cells cb 4)).alloc (.cells #[.slice (some ⟨w.heap.size, 0, none⟩) σ.M σ.M] 77)).alloc (.cells #[.slice none 0 0] 98) := ⟨_, rfl⟩
  have G1 := Lib.hid (show w.grownBy w1 none by rw [hw1]; exact ((grown_alloc _ _).trans (grown_alloc _ _)).trans (grown_alloc _ _))
  have s1 : w1.heap.size = w.heap.size + 3 := by rw [hw1]; simp
  have M1 := Lib.hid (show Ms w1 w.heap.size (w.heap.size + 1) (w.heap.size + 1 + 1) (w.heap.size + 3) σ.M ([], fun _ => false) by
    have e0 : (w.alloc (.cells cb 4)).heap.size = w.heap.size + 1 := by simp
    have e1 : ((w.alloc (.cells cb 4)).alloc (.cells #[.slice (some ⟨w.heap.size, 0, none⟩) σ.M σ.M] 77)).heap.size = w.heap.size + 1 + 1 := by simp
    refine ⟨?_, ⟨.slice none 0 0, ?_, ⟨none, 0, 0, rfl, rfl, World.ownsRow_nil _ _ _ _, ?_⟩⟩, ?_⟩
    · rw [hw1, ← e0]
      exact heap_two (w.alloc (.cells cb 4)) _ _
    · rw [hw1, ← e1]
      exact heap_alloc_new _ _
    · obtain ⟨A', c', e, hr'⟩ := Rd.of_own (xs := []) (World.ownsRow_nil w1 0 2 1)
      injection e with e1 e2 e3
      subst e1 e3
      exact hr'
    · unfold Bb
      rw [hw1, hcb]
      exact gr.Gr.heap (L := []) (.new (grown_alloc _ _)) (heap_two w _ _) (by simp))
  have HW := Lib.hid hw1
  clear h hcb hw1 ok
  go_enter Tryd.func48, Tryd.ntmps48
  go_wp2_with (first
    | (rw [← HW.out]; go_at_call 34; (with_reducible refine (reference_any 0 _).mono ?_); rintro e w2 ⟨rfl, hg⟩; have G2 := Lib.hid (G1.out.trans (hg.trans (grown_alloc w2 (.cells #[.int .i64 2, .int .i64 0] 57)))); have M2 := Lib.hid ((M1.out.new hg).new (grown_alloc w2 (.cells #[.int .i64 2, .int .i64 0] 57))); have Z2 := Lib.hid hg.size; have V2 := Lib.hid (show Hv (w2.alloc (.cells #[.int .i64 2, .int .i64 0] 57)) (some ⟨w2.heap.size, 0, none⟩) 1 [(2, 0)] from hv_vc (m := [(2, 0)]) (heap_alloc_new w2 _)); clear hg)
    | (go_at_call 61; (with_reducible refine (meet_any (c := 1) (w00 := w) M2.out G2.out (Nat.le_refl _) (by omega) (by omega) (by omega) (by omega) (by have := Z2.out; simp; omega) hM (wt_start OK.out).1 (vld_zero σ OK.out) V2.out (by omega)).mono ?_); rintro e w3 ⟨rfl, hm, hg, hs⟩; have M3 := Lib.hid (show Ms w3 w.heap.size (w.heap.size + 1) (w.heap.size + 1 + 1) (w.heap.size + 3) σ.M (upt σ 0) from hm); have G3 := Lib.hid hg; have S3 := Lib.hid (show w.heap.size + 3 ≤ w3.heap.size by have := Z2.out; simp at hs; omega); have x1 := (H.out.new hg).c1; clear hm hg hs))
  go_loopw [26] (fun x wr => ∃ t : Nat, t ≤ σ.N ∧ x = .int .i64 (t : Int) ∧ Ms wr w.heap.size (w.heap.size + 1) (w.heap.size + 1 + 1) (w.heap.size + 3) σ.M (upt σ t) ∧ w.grownBy wr none ∧ w.heap.size + 3 ≤ wr.heap.size) (fun x _ => σ.N - (intOf x).toNat)
  case atStart => exact ⟨0, Nat.zero_le _, rfl, M3.out, G3.out, S3.out⟩
  case round =>
    obtain ⟨t, ht, rfl, hm, hg, hs⟩ := hrel
    have MX := Lib.hid hm
    have GX := Lib.hid hg
    have SX := Lib.hid hs
    by_cases hlt : t < σ.N
    · have TWX := Lib.hid ((H.out.new hg).tw hlt)
      have l16 := OK.out.hl t
      have l1 : (0 : Int) ≤ (t : Int) := by omega
      have l2 : (t : Int) < (σ.N : Int) := by omega
      obtain ⟨wt, -⟩ := upt_all OK.out t ht
      have WT := Lib.hid wt
      have VL := Lib.hid (vld_held OK.out hlt)
      clear hm hg hs x1
      go_wp2_with (first
        | (refine wpList_get_th TWX.out rfl (.tmp 28) rfl rfl ?_; intro cs hcs; have CS := Lib.hid hcs; clear hcs)
        | (refine wpList_box_th CS.out rfl (.tmp 7) (.tmp 29) rfl wr.heap.size rfl rfl (heap_alloc_new _ _) (by kernel_rfl) ?_; intro X hX hgX; have TX := Lib.hid hX; have G4 := Lib.hid (li.grown_new (grown_alloc wr _) hgX (Nat.le_refl _)); clear hX hgX)
        | (go_at_call 47; (with_reducible refine (all_any TX.out l16).mono ?_); rintro e w4 ⟨rfl, hh, hg2⟩; have HH := Lib.hid (hv_vc hh); have G5 := Lib.hid (G4.out.trans hg2); clear hh hg2)
        | (go_at_call 61; (with_reducible refine (meet_any (c := (σ.hd t).length) (w00 := w) (MX.out.new G5.out) (GX.out.trans G5.out) (Nat.le_refl _) (by omega) (by omega) (by omega) (by omega) (by have := SX.out; have := G5.out.size; omega) hM WT.out VL.out HH.out (by omega)).mono ?_); rintro e w5 ⟨rfl, hm, hg, hs⟩; have M6 := Lib.hid hm; have G6 := Lib.hid hg; have S6 := Lib.hid hs; clear hm hg hs))
      exact ⟨⟨t + 1, by omega, by go_num, M6.out, G6.out, by have := SX.out; have := G5.out.size; have := S6.out; omega⟩, by simp [intOf]; omega⟩
    · have et : t = σ.N := by omega
      subst et
      obtain ⟨wt, dn, z0, hh⟩ := upt_all OK.out σ.N (Nat.le_refl _)
      have WT := Lib.hid wt
      have DN := Lib.hid dn
      have Z0 := Lib.hid z0
      have HH := Lib.hid hh
      clear hm hg hs wt dn z0 hh x1
      go_wp2
      go_loopw [8] (fun _ wq => ∃ p, Ms wq w.heap.size (w.heap.size + 1) (w.heap.size + 1 + 1) (w.heap.size + 3) σ.M p ∧ Wt σ p ∧ (∀ i, i < σ.M → p.2 i = true → Dn σ p i) ∧ p.2 0 = true ∧ (∀ s, s < σ.N → ∀ v, v ∈ σ.hd s → v.1 = 2 → p.2 v.2.toNat = true) ∧ w.grownBy wq none ∧ w.heap.size + 3 ≤ wq.heap.size) (fun _ wq => gq.msz wq w.heap.size (w.heap.size + 1 + 1) σ.M)
      case atStart => exact ⟨_, MX.out, WT.out, DN.out, Z0.out, HH.out, GX.out, SX.out⟩
      case round =>
        obtain ⟨⟨L, m⟩, hm, wt, dn, z0, hh, hg, hs⟩ := hrel
        have MS := Lib.hid hm.msz
        have MY := Lib.hid hm
        have GY := Lib.hid hg
        have SY := Lib.hid hs
        have WY := Lib.hid wt
        have DY := Lib.hid dn
        have ZY := Lib.hid z0
        have HY := Lib.hid hh
        obtain ⟨v, hv1, hv2⟩ := hm.wb
        obtain ⟨x3, -⟩ := one_cell hm.mb
        rcases List.eq_nil_or_concat L with rfl | ⟨L', z, rfl⟩
        · obtain ⟨Av, nv, cv, rfl, rfl, -⟩ := hv2.split
          obtain ⟨x4, x5⟩ := one_cell hv1
          dsimp only [List.length_nil] at x4
          clear hm hg hs wt dn z0 hh hv1 hv2
          go_wp2
          go_ret
          exact ⟨rfl, m, MY.out.bb, wt_end OK.out WY.out DY.out ZY.out HY.out, GY.out⟩
        · rw [List.concat_eq_append] at *
          obtain ⟨sz1, sz2, -⟩ := wt.st z (List.mem_append_right _ (List.mem_singleton.2 rfl))
          obtain ⟨n, rfl⟩ : ∃ n : Nat, z = (n : Int) := ⟨z.toNat, by omega⟩
          obtain ⟨t1, t2, t3, t4, t5, t6⟩ := take_one OK.out wt dn
          obtain ⟨Av, nv, cv, rfl, rfl, hrd⟩ := hv2.split
          obtain ⟨-, n1, n2, -⟩ := nx_take hv2
          obtain ⟨wb, off, rfl, q0⟩ := hrd.at_ (k := L'.length) (by simp)
          have q0' : wr.cell? ⟨wb, off + L'.length, none⟩ = some (.int .i64 (n : Int)) := by
            rw [q0]
            simp [List.getD_eq_getElem?_getD]
          obtain ⟨x4, x5⟩ := one_cell hv1
          have hw := H.out.new hg
          have x2 := hw.c2
          obtain ⟨a, bq, cq, rfl, y1, y2, y3, y4⟩ := hw.nv t1
          have LS := Lib.hid (hm.less hv1 hv2)
          have nl := OK.out.nl n
          have la : a < w.heap.size := by
            obtain ⟨a', _, _, e, h2, _⟩ := H.out.nv t1
            injection e with e
            injection e with e
            rw [e]
            exact World.block_lt_of_cell? w ⟨a', n, none⟩ h2
          have GL := Lib.hid (show w.grownBy (wr.setCell ⟨w.heap.size + 1 + 1, 0, none⟩ (.slice (some ⟨wb, off, none⟩) L'.length cv)) none from li.grown_new hg (gr.grown_set _ _ _ _) (by omega))
          have HVN := Lib.hid ((H.out.new GL.out).hvn t1 y4)
          have WL := Lib.hid t3
          have VN := Lib.hid t2
          have W4 := Lib.hid t4
          have D5 := Lib.hid t5
          have M6 := Lib.hid t6
          have hl : (L' ++ [(n : Int)]).length = L'.length + 1 := by simp
          have BD := Lib.hid wt.bd
          have ML := Lib.hid (show gq.msz wr w.heap.size (w.heap.size + 1 + 1) σ.M = 2 * un m σ.M + (L'.length + 1) by rw [MS.out]; show 2 * un m σ.M + (L' ++ [(n : Int)]).length = _; rw [hl])
          have lb : L'.length ≤ 1000 := by have := wt.bd; dsimp only at this; rw [hl] at this; omega
          rw [hl] at x4
          have e1 : ((L'.length + 1 : Nat) : Int) - 1 = (L'.length : Int) := by omega
          have e2 : IntKind.i64.wrap (((L'.length + 1 : Nat) : Int) - 1) = (L'.length : Int) := by rw [e1]; exact IntWalk.i64_in _ (by omega)
          have e3 : IntKind.i64.wrap (L'.length : Int) = (L'.length : Int) := IntWalk.i64_in _ (by omega)
          have l1 : (0 : Int) ≤ (L'.length : Int) := by omega
          have l2 : (L'.length : Int) < ((L'.length + 1 : Nat) : Int) := by omega
          have l3 : (L'.length : Int) ≤ (cv : Int) := by omega
          have l4 : (0 : Int) ≤ (n : Int) := by omega
          have l5 : (n : Int) < (σ.M : Int) := by omega
          have n3 : g ≠ w.heap.size + 1 + 1 := by omega
          have n4 : a ≠ w.heap.size + 1 + 1 := by omega
          have n5 := n3.symm
          have n6 := n4.symm
          clear hm hg hs wt dn z0 hh hv1 hv2 t2 t3 t4 t5 t6 hw hrd hl q0
          go_wp2_with (first
            | (go_at_call 61; (with_reducible refine (meet_any (w00 := w) LS.out GL.out (Nat.le_refl _) (by omega) (by omega) (by omega) (by omega) (by have := SY.out; simp; omega) hM WL.out VN.out HVN.out (by omega)).mono ?_); rintro e w5 ⟨rfl, hm, hg, hs⟩; have M7 := Lib.hid hm; have G7 := Lib.hid hg; have S7 := Lib.hid hs; clear hm hg hs))
          refine ⟨⟨_, M7.out, W4.out, D5.out, metl_grows _ _ _ ZY.out, fun s hs v hv e => metl_grows _ _ _ (HY.out s hs v hv e), G7.out, by have := SY.out; have := S7.out; simp at this; omega⟩, ?_⟩
          rw [M7.out.msz, ML.out]
          have := M6.out
          simp only [List.length_append, List.length_singleton] at this
          exact this
end
end Go.Proofs.YtfhebjkoojodiaaDoor.gq
