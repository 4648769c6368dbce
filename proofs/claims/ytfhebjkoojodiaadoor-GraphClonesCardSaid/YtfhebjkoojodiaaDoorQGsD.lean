/- Texts that this claim stands on. -/
import Derived.Test.YtfhebjkoojodiaaDoorQGqX
namespace Go.Proofs.YtfhebjkoojodiaaDoor.gq
open Go.ChangeShapes Go.WideShapes Go.ChangeAt Go.RowKit gen va cd gp
set_option linter.unusedVariables false
set_option linter.unusedSimpArgs false
set_option maxHeartbeats 2000000
set_option maxRecDepth 100000
theorem Tc.same {cs cs' : Array Value} {o : Nat} {m : List Va} {b : Bool} (h : Tc cs o m b) (e : ∀ j, j < 34 → cs'[o + j]? = cs[o + j]?) : Tc cs' o m b := by
  obtain ⟨h0, h1, h2⟩ := h
  refine ⟨(e 0 (by omega)).trans h0, (e 33 (by omega)).trans h1, fun j hj => ?_⟩
  obtain ⟨x, y, q1, q2, q3⟩ := h2 j hj
  refine ⟨x, y, ?_, ?_, q3⟩
  · rw [show o + 1 + j * 2 = o + (1 + j * 2) by omega, e _ (by omega), show o + (1 + j * 2) = o + 1 + j * 2 by omega]
    exact q1
  · rw [show o + 1 + j * 2 + 1 = o + (1 + j * 2 + 1) by omega, e _ (by omega), show o + (1 + j * 2 + 1) = o + 1 + j * 2 + 1 by omega]
    exact q2
theorem eql_nil_th : ∀ (w : World) (a : Option Addr) (n c : Nat), (binOp .eql 58 (.slice a n c) (.slice none 0 0)).run Tryd.prog w = .ok (.bool a.isNone) w := fun w a n c => Lib.run_eql_slice_nil w _ _ a n c 0 0 Tryd.underlying58
theorem thclone_any {w : World} {R n c : Nat} {cr : Array Value} {hd : Nat → List Va} {lv : Nat → Bool} (hR : w.heap[R]? = some (.cells cr 84 (0, 0))) (ht : ∀ t, t < n → Tc cr (t * 34) (hd t) (lv t)) (h0 : 0 < n) (hn : n ≤ 64) :
    Calls Tryd.prog 32 #[.slice (some ⟨R, 0, none⟩) n c] w
    fun e w' => ∃ R2 c2, e = .returned (.slice (some ⟨R2, 0, none⟩) n c2) ∧ n ≤ c2 ∧ c2 ≤ maxLen ∧ (∃ cs : Array Value, w'.heap[R2]? = some (.cells cs 84 (0, 0)) ∧ ∀ t, t < n → Tc cs (t * 34) (hd t) (lv t)) ∧ w.heap.size ≤ R2 ∧ w.grownBy w' none := by
  have Q := eql_nil_th
  have sz : n * 34 ≤ cr.size := by
    have := (Array.getElem?_eq_some_iff.1 (ht (n - 1) (by omega)).2.1).1
    omega
  have at_ : ∀ j, j < n * 34 → (cr.toList.take (n * 34))[j]? = cr[j]? := fun j hj => by
    rw [List.getElem?_take, if_pos hj]
    simp
  have hl : (cr.toList.take (n * 34)).length = n * 34 := by rw [List.length_take, Array.length_toList]; omega
  have O := Lib.hid (World.ownsRow_lit (base := w.heap.size) (e := 84) (size := 34) w #[] 0 (Nat.le_refl _) (by simp [maxLen]) rfl)
  have G := Lib.hid (World.grownBy_alloc w (.cells #[] 84) none)
  obtain ⟨i0, hi, hz0, hz1, hz2⟩ := info_parts info_th3
  have h1 : ∀ u ∈ cr.toList.take (n * 34), u.oneCell' = true := fun u hu => by
    obtain ⟨j, hj, rfl⟩ := List.mem_iff_getElem.1 hu
    rw [hl] at hj
    obtain ⟨v, e1, e2⟩ := tc_one (ht (j / 34) (by omega)) (j := j % 34) (by omega)
    have e3 := at_ j hj
    rw [show j / 34 * 34 + j % 34 = j by omega] at e1
    rw [e1, List.getElem?_eq_getElem (by rw [hl]; exact hj)] at e3
    injection e3 with e3
    rw [e3]
    exact e2
  have hnews : ∀ j u, (cr.toList.take (n * 34))[j]? = some u → (w.alloc (.cells #[] 84)).cell? ((⟨R, 0, none⟩ : Addr).add j) = some u := fun j u hj => by
    have hj' : j < n * 34 := by have := (List.getElem?_eq_some_iff.1 hj).1; omega
    have := (gr.Gr.new (grown_alloc w (.cells #[] 84))).heap (L := []) hR (by simp)
    have e : ((⟨R, 0, none⟩ : Addr).add j) = ⟨R, j, none⟩ := by
      simp [Addr.add]
      exact fun h => h.symm
    rw [e, cell_of_row _ R _ _ _ _ this, ← at_ j hj']
    exact hj
  obtain ⟨news, hnw⟩ : ∃ news, cr.toList.take (n * 34) = news := ⟨_, rfl⟩
  rw [hnw] at at_ hl h1 hnews
  have H1 := Lib.hid h1
  have HN := Lib.hid hnews
  have HT := Lib.hid ht
  have AT := Lib.hid at_
  clear hR ht at_ h1 hnews hnw
  go_enter Tryd.func32, Tryd.ntmps32
  go_wp2_with (refine wpList_append_own _ rfl (.tmp 5) (.tmp 6) 58 rfl w.heap.size 84 i0 (.agg zc.toArray) 34 272 Tryd.underlying58 hi hz0 hz1 hz2 zc_size (by omega) _ 0 [] rfl O.out ⟨R, 0, none⟩ n c news rfl hl HN.out H1.out (by unfold maxLen; omega) (by omega) (by simp) ?_; intro v' w2 own1 gr1 nil1; have OWN1 := Lib.hid own1; have GR1 := Lib.hid (li.grown_new G.out gr1 (Nat.le_refl _)); clear own1 gr1 nil1)
  go_ret
  have o := OWN1.out
  rcases o.2 with ⟨e, h0'⟩ | ⟨R2, cap, cur, e, hb, hg, q1, q2, q3, q4⟩
  · omega
  · refine ⟨R2, cap, by rw [e, Nat.zero_add]; rfl, by omega, q2, ⟨cur, hg, fun t ht => (HT.out t ht).same (fun j hj => ?_)⟩, hb, GR1.out⟩
    have hj' : t * 34 + j < n * 34 := by
      have : (t + 1) * 34 ≤ n * 34 := Nat.mul_le_mul_right _ ht
      omega
    have q5 := AT.out _ hj'
    rw [List.nil_append, Nat.zero_add] at q4
    rw [← q5, ← q4, List.getElem?_take, if_pos hj']
    simp
theorem sclone_some {w : World} {ad : Addr} {n c B : Nat} {l : List Va} (h : Rv w B (some ad) n c l) (hm : n ≤ 100000) : Calls Tryd.prog 33 #[.slice (some ad) n c] w
    fun e w' => ∃ b c2, e = .returned (.slice (some ⟨b, 0, none⟩) l.length c2) ∧ Lv w' w.heap.size (.slice (some ⟨b, 0, none⟩) l.length c2) l ∧ w.grownBy w' none := by
  have Q := eql_nil_va
  have hn := h.1
  obtain ⟨i0, hi, hz0, hz1, hz2⟩ := info_parts info_va
  have O := Lib.hid (World.ownsRow_lit (base := w.heap.size) (e := 57) (size := 2) w #[] 0 (Nat.le_refl _) (by simp [maxLen]) rfl)
  have G := Lib.hid (World.grownBy_alloc w (.cells #[] 57) none)
  have HC := Lib.hid ((h.made G.out).cells ad rfl)
  clear h
  go_enter Tryd.func33, Tryd.ntmps33
  go_wp2_with (refine wpList_append_own _ rfl (.tmp 5) (.tmp 6) 53 rfl w.heap.size 57 i0 (.agg #[.int .i64 0, .int .i64 0]) 2 16 Tryd.underlying53 hi hz0 hz1 hz2 rfl (by omega) _ 0 [] rfl O.out ad n c (vc l) rfl (by rw [vc_length, hn]; omega) HC.out (vc_one l) (by unfold maxLen; omega) (by omega) (by simp) ?_; intro v' w2 own1 gr1 nil1; have OWN1 := Lib.hid own1; have NIL := Lib.hid nil1; have GR1 := Lib.hid (li.grown_new G.out gr1 (Nat.le_refl _)); clear own1 gr1 nil1)
  go_ret
  have o := OWN1.out
  rw [List.nil_append, Nat.zero_add] at o
  have o2 : Lv w2 w.heap.size v' l := by unfold Lv; rw [hn]; exact o
  rcases o.2 with ⟨e, h0'⟩ | ⟨b, cap, cur, e, hb, hg, q1, q2, q3, q4⟩
  · have := (NIL.out.1 e).1
    cases this
  · subst e
    subst hn
    exact ⟨b, cap, rfl, o2, GR1.out⟩
structure Cl (w : World) (B h : Nat) (σ : Gs) (R tc i : Nat) (A : Option Addr) (nc : Nat) (vs : Nat → Value) (bs : Nat → Nat) : Prop where
  box : w.heap[h]? = some (.cells #[.int .i64 σ.q, .slice (some ⟨R, 0, none⟩) σ.N tc, .slice A i nc] 60 (0, 0))
  row : ∃ cs : Array Value, w.heap[R]? = some (.cells cs 84 (0, 0)) ∧ ∀ t, t < σ.N → Tc cs (t * 34) (σ.hd t) (σ.lv t)
  tcN : σ.N ≤ tc ∧ tc ≤ maxLen
  own : w.ownsRow B 53 1 (.slice A i nc) i ((List.range i).map vs)
  ent : ∀ j, j < i → ∃ c, vs j = .slice (some ⟨bs j, 0, none⟩) (σ.nd j).length c ∧ Lv w B (vs j) (σ.nd j)
  up : ∀ j k, j < k → k < i → bs j < bs k
  hB : B ≤ h
  RB : B ≤ R
section
variable {w : World} {B h : Nat} {σ : Gs} {R tc i : Nat} {A : Option Addr} {nc : Nat} {vs : Nat → Value} {bs : Nat → Nat}
theorem Cl.fin (p : Cl w B h σ R tc σ.M A nc vs bs) (ok : σ.Ok) : ∃ K, PwI w K h σ R tc A nc vs bs ∧ ∀ k, k ∈ K → B ≤ k := by
  have big : ∀ j, j < σ.M → B ≤ bs j ∧ bs j < w.heap.size ∧ ∃ cs : Array Value, w.heap[bs j]? = some (.cells cs 57 (0, 0)) ∧ ∀ f, f < (σ.nd j).length → cs[f * 2]? = some (.int .i64 ((σ.nd j).getD f (0, 0)).1) ∧ cs[f * 2 + 1]? = some (.int .i64 ((σ.nd j).getD f (0, 0)).2) := fun j hj => by
    obtain ⟨c, e, l⟩ := p.ent j hj
    rw [e] at l
    refine ⟨l.from_ _ rfl, l.lt _ rfl, ?_⟩
    rcases l.2 with ⟨e1, e2⟩ | ⟨q, cap, cur, e1, hb, hg, q1, q2, q3, q4⟩
    · cases e1
    · injection e1 with e3 e4 e5
      injection e3 with e3
      injection e3 with e3
      subst e3
      refine ⟨cur, hg, fun f hf => ?_⟩
      obtain ⟨a1, a2⟩ := vc_at (σ.nd j) f hf
      have t1 : ∀ x, x < (σ.nd j).length * 2 → cur[x]? = (vc (σ.nd j))[x]? := fun x hx => by
        rw [← q4, List.getElem?_take, if_pos hx]
        simp
      rw [t1 _ (by omega), t1 _ (by omega), Nat.mul_comm]
      exact ⟨a1, a2⟩
  obtain ⟨cr, r1, r2⟩ := p.row
  have hA : ∀ q, (Value.slice A σ.M nc).ownBlock = some q → B ≤ q ∧ q < w.heap.size := fun q hq => by
    obtain ⟨ca, ha⟩ := own_ty p.own q hq
    refine ⟨?_, (Array.getElem?_eq_some_iff.1 ha).1⟩
    rcases p.own.2 with ⟨e, _⟩ | ⟨g, cap, cur, e, hb, _⟩
    · rw [e] at hq; cases hq
    · rw [e] at hq
      injection hq with hq
      subst hq
      exact hb
  refine ⟨h :: R :: ((Value.slice A σ.M nc).ownBlock.toList ++ (List.range σ.M).map bs), ⟨⟨_, p.box, rfl, rfl, rfl⟩, ⟨cr, r1, r2⟩, p.tcN, own_mono p.own (Nat.zero_le _), fun j hj => ?_, fun j hj h0 => ⟨?_, (big j hj).2.2⟩, fun j k hj hk _ _ e => ?_, by simp, by simp, fun q hq => by rw [hq]; simp, fun k hk => ?_, ok⟩, fun k hk => ?_⟩
  · obtain ⟨c, e, l⟩ := p.ent j hj
    rw [e] at l
    obtain ⟨A', N', k', e1, e2, e3, e4⟩ := l.shape
    injection e1 with e5 e6 e7
    subst e7
    exact ⟨_, c, e, by omega, e4, bs j, rfl, fun _ => rfl⟩
  · simp
    exact .inr (.inr (.inr ⟨j, hj, rfl⟩))
  · rcases Nat.lt_trichotomy j k with e1 | e1 | e1
    · have := p.up j k e1 hk; omega
    · exact e1
    · have := p.up k j e1 hj; omega
  · simp at hk
    rcases hk with rfl | rfl | hk | ⟨j, hj, rfl⟩
    · exact (Array.getElem?_eq_some_iff.1 p.box).1
    · exact (Array.getElem?_eq_some_iff.1 r1).1
    · exact (hA k hk).2
    · exact (big j hj).2.1
  · simp at hk
    rcases hk with rfl | rfl | hk | ⟨j, hj, rfl⟩
    · exact p.hB
    · exact p.RB
    · exact (hA k hk).1
    · exact (big j hj).1
theorem Cl.cut (p : Cl w B h σ R tc i A nc vs bs) {W1 X w1 : World} (hB : B ≤ w.heap.size) {b c : Nat} (g0 : w.grownBy W1 none) {D : Nat} (lD : w.heap.size ≤ D) (lb : Lv W1 D (.slice (some ⟨b, 0, none⟩) (σ.nd i).length c) (σ.nd i)) (hX : W1.grownBy X none)
    {g3 c3 : Nat} (own1 : w1.ownsRow B 53 1 (.slice (some ⟨g3, 0, none⟩) (i + 1) c3) (i + 1) (((List.range i).map vs) ++ [.slice (some ⟨b, 0, none⟩) (σ.nd i).length c])) (gr1 : X.grownBy w1 (Value.slice A i nc).ownBlock) :
    (w1.cell? ⟨h, 2, none⟩ = some (.slice A i nc) ∧ w1.frozen? ⟨h, 2, none⟩ = false) ∧ (∃ A' nc' vs' bs', Cl (w1.setCell ⟨h, 2, none⟩ (.slice (some ⟨g3, 0, none⟩) (i + 1) c3)) B h σ R tc (i + 1) A' nc' vs' bs') ∧ (∀ w0 : World, w0.heap.size = B → w0.grownBy w none → w0.grownBy (w1.setCell ⟨h, 2, none⟩ (.slice (some ⟨g3, 0, none⟩) (i + 1) c3)) none) := by
  have GX : w.grownBy X none := g0.trans hX
  have hbX := (gr.Gr.new GX).heap (L := []) p.box (by simp)
  have no : ∀ {q : Nat} {cs : Array Value} {e : TypeId} {fz : Nat × Nat}, X.heap[q]? = some (.cells cs e fz) → e ≠ 53 → (some q : Option Nat) ≠ (Value.slice A i nc).ownBlock := fun {q cs e fz} hq he hm => by
    obtain ⟨c1, h1⟩ := own_ty p.own q hm.symm
    have h2 := (gr.Gr.new GX).heap (L := []) h1 (by simp)
    exact ty_ne' hq h2 he rfl
  have b1 : w1.heap[h]? = some (.cells #[.int .i64 σ.q, .slice (some ⟨R, 0, none⟩) σ.N tc, .slice A i nc] 60 (0, 0)) := (gr1.block h (Array.getElem?_eq_some_iff.1 hbX).1 (no hbX (by decide))).trans hbX
  have e3 := heap_setCell_same w1 h 2 _ _ (.slice (some ⟨g3, 0, none⟩) (i + 1) c3) b1
  have GS : w1.grownBy (w1.setCell ⟨h, 2, none⟩ (.slice (some ⟨g3, 0, none⟩) (i + 1) c3)) (some h) := gr.grown_set _ _ _ _
  have sG := GS.size
  have s1 := gr1.size
  have sX := hX.size
  have s0 := g0.size
  have lvX : ∀ {D : Nat} {v : Value} {m : List Va}, Lv X D v m → Lv (w1.setCell ⟨h, 2, none⟩ (.slice (some ⟨g3, 0, none⟩) (i + 1) c3)) D v m := fun {D v m} l => by
    have l1 : Lv w1 D v m := l.kept gr1 (by
      cases e : v.ownBlock with
      | none => exact .inl rfl
      | some q =>
        refine .inr (fun e2 => ?_)
        obtain ⟨c1, h1⟩ := own_ty l q e
        exact no h1 (by decide) e2)
    exact l1.kept GS (.inr (l1.off b1 (fun cs z e => by injection e with _ e _; exact absurd e (by decide))))
  refine ⟨⟨?_, frozen_of_row w1 h 2 _ _ b1⟩, ⟨some ⟨g3, 0, none⟩, c3, upd vs i (.slice (some ⟨b, 0, none⟩) (σ.nd i).length c), upd bs i b, ?_⟩, fun w0 e0 hw0 => ?_⟩
  · rw [cell_of_row w1 h _ _ _ _ b1]
    rfl
  · obtain ⟨cr, r1, r2⟩ := p.row
    have rX := (gr.Gr.new GX).heap (L := []) r1 (by simp)
    have rw1 := (gr1.block R (Array.getElem?_eq_some_iff.1 rX).1 (no rX (by decide))).trans rX
    have bi : D ≤ b := lb.from_ _ rfl
    refine ⟨by rw [e3]; rfl, ⟨cr, (GS.block R (Array.getElem?_eq_some_iff.1 rw1).1 (fun e => by injection e with e; exact ty_ne' rw1 b1 (by decide) e)).trans rw1, r2⟩, p.tcN, ?_, fun j hj => ?_, fun j k hjk hk => ?_, p.hB, p.RB⟩
    · have em : (List.range (i + 1)).map (upd vs i (.slice (some ⟨b, 0, none⟩) (σ.nd i).length c)) = ((List.range i).map vs) ++ [.slice (some ⟨b, 0, none⟩) (σ.nd i).length c] := by
        rw [List.range_succ, List.map_append, List.map_singleton, upd_same]
        congr 1
        apply List.map_congr_left
        intro j hj
        exact upd_else _ _ (by have := List.mem_range.1 hj; omega)
      rw [em]
      exact World.ownsRow.kept own1 GS (.inr (fun e => by
        injection e with e
        obtain ⟨c1, h1⟩ := own_ty own1 g3 rfl
        exact ty_ne' h1 b1 (by decide) e))
    · by_cases ej : j = i
      · subst ej
        rw [upd_same, upd_same]
        exact ⟨c, rfl, (lvX (lb.new hX)).mono (by omega)⟩
      · rw [upd_else _ _ ej, upd_else _ _ ej]
        obtain ⟨c', e1, l1⟩ := p.ent j (by omega)
        exact ⟨c', e1, lvX (l1.new GX)⟩
    · rw [upd_else _ _ (show j ≠ i by omega)]
      by_cases ek : k = i
      · subst ek
        rw [upd_same]
        obtain ⟨c', e1, l1⟩ := p.ent j hjk
        rw [e1] at l1
        have : bs j < w.heap.size := l1.lt _ rfl
        omega
      · rw [upd_else _ _ ek]
        exact p.up j k hjk (by omega)
  · have fr : ∀ q, (Value.slice A i nc).ownBlock = some q → w0.heap.size ≤ q := fun q hq => by
      rcases p.own.2 with ⟨e, _⟩ | ⟨g, cap, cur, e, hb, _⟩
      · rw [e] at hq; cases hq
      · rw [e] at hq
        injection hq with hq
        subst hq
        rw [e0]
        exact hb
    exact li.grown_new ((hw0.trans GX).andThen gr1 (fun q hq => .inl (fr q hq))) GS (by have := p.hB; omega)
end
section
variable {w : World} {K : List Nat} {g : Nat} {σ : Gs} {R tc : Nat} {A : Option Addr} {nc : Nat} {vs : Nat → Value} {bs : Nat → Nat}
theorem wp_append_nv {w : World} {o : Oper} {a : Act} {K : Act → World → Prop} {Q : Exit → Act → World → Prop} (s x : Operand) (ho : o.op = .call { callee := .builtin .append, args := #[s, x], argTypes := #[42, 42] })
    (base : Nat) (v : Value) (n : Nat) (xs : List Value) (hs : a.eval s = v) (hown : w.ownsRow base 53 1 v n xs) (b : Nat) (z : Value) (hx : a.eval x = .slice (some ⟨b, 0, none⟩) 1 1)
    (hz : w.cell? ⟨b, 0, none⟩ = some z) (h1z : z.oneCell' = true) (hm : n ≤ 1048576) (hbase : base ≤ w.heap.size)
    (h : ∀ g c' w', w'.ownsRow base 53 1 (.slice (some ⟨g, 0, none⟩) (n + 1) c') (n + 1) (xs ++ [z]) → w.grownBy w' v.ownBlock → (v.ownBlock = some g ∨ w.heap.size ≤ g) → K (a.put o.dst (.slice (some ⟨g, 0, none⟩) (n + 1) c')) w') :
    Oper.wp Tryd.prog o a w K Q := by
  obtain ⟨i0, hi, hz0, hz1, hz2⟩ := info_parts info_nv
  refine wp_append_lies w s x 42 ho base 53 i0 (.slice none 0 0) 1 24 Tryd.underlying42 hi hz0 hz1 hz2 rfl (by omega) v n xs hs hown ⟨b, 0, none⟩ 1 1 [z] hx rfl
    (fun j u hj => ?_) (fun u hu => by simp at hu; subst hu; exact h1z) (by omega) (by unfold maxLen; omega) (by omega) hbase _ rfl (fun g c' w' h1 h2 h3 h4 => ?_)
  · match j, hj with
    | 0, hj => simp at hj; subst hj; simpa [Addr.add] using hz
  · exact h g c' w' h1 h2 (h3.elim .inl (fun e => .inr (Nat.le_of_eq e.symm)))
theorem Clone_no (g : Option Addr) (MX : Calls Tryd.prog 28 #[.pointer g] w fun e w' => e = .returned (.bool false) ∧ w = w') : Calls Tryd.prog 18 #[.pointer g] w fun e w' => e = .returned (.pointer none) ∧ w = w' := by
  have MA := Lib.hid MX
  clear MX
  go_enter Tryd.func18, Tryd.ntmps18
  go_wp2_with (first
    | (go_at_call 28; (with_reducible refine MA.out.mono ?_); rintro e w1 ⟨rfl, hw⟩; subst hw))
  go_ret
  exact ⟨rfl, rfl⟩
theorem Clone_any (h : PwI w K g σ R tc A nc vs bs) : Calls Tryd.prog 18 #[.pointer (some ⟨g, 0, none⟩)] w
    fun e w' => ∃ h K' R' tc' A' nc' vs' bs', e = .returned (.pointer (some ⟨h, 0, none⟩)) ∧ PwI w' K' h σ R' tc' A' nc' vs' bs' ∧ (∀ k, k ∈ K' → w.heap.size ≤ k) ∧ w.grownBy w' none := by
  have H := Lib.hid h
  have OK := Lib.hid h.ok
  have MA := Lib.hid (made_yes h)
  have x0 := h.c0
  have x1 := h.c1
  have hM := h.ok.m
  have hN := h.ok.n
  have hN0 := h.ok.n0
  have TH := Lib.hid (fun W (hg : w.grownBy W none) => (show Calls Tryd.prog 32 #[.slice (some ⟨R, 0, none⟩) σ.N tc] W _ from by
    obtain ⟨cr, r1, r2⟩ := (h.new hg).row
    exact thclone_any r1 r2 hN0 (by omega)))
  clear h
  go_enter Tryd.func18, Tryd.ntmps18
  go_wp2_with (first
    | (go_at_call 28; (with_reducible refine MA.out.mono ?_); rintro e w1 ⟨rfl, hw⟩; subst hw))
  go_region_held3 (fun W => W.cell? ⟨g, 0, none⟩ = some (.int .i64 σ.q) ∧ W.cell? ⟨g, 1, none⟩ = some (.slice (some ⟨R, 0, none⟩) σ.N tc)) (first | go_keep | with_reducible exact ⟨r0, r1⟩) (first
    | (go_at_call 32; (with_reducible refine (TH.out _ (gr.grown_drew _ _)).mono ?_); rintro e w2 ⟨R2, c2, rfl, q1, q2, hrow, hR2, hg⟩; have ROW := Lib.hid hrow; have G2 := Lib.hid ((gr.grown_drew w none).trans hg); have r0 := G2.out.cell x0 (by simp); have r1 := G2.out.cell x1 (by simp); have LR := Lib.hid (show w.heap.size ≤ R2 from hR2); clear hrow hg hR2))
  obtain ⟨hh, hhh⟩ : ∃ hh, hh = w2.heap.size := ⟨_, rfl⟩
  obtain ⟨w3, hw3⟩ : ∃ w3, w3 = w2.alloc (.cells #[.int .i64 σ.q, .slice (some ⟨R2, 0, none⟩) σ.N c2, .slice none 0 0] 60) := ⟨_, rfl⟩
  have G3 := Lib.hid (show w.grownBy w3 none by rw [hw3]; exact G2.out.trans (grown_alloc _ _))
  have C3 := Lib.hid (show Cl w3 w.heap.size hh σ R2 c2 0 none 0 vs bs by
    obtain ⟨cs, e1, e2⟩ := ROW.out
    refine ⟨by rw [hw3, hhh]; exact heap_alloc_new _ _, ⟨cs, ?_, e2⟩, ⟨q1, q2⟩, World.ownsRow_nil _ _ _ _, fun j hj => by omega, fun j k _ hk => by omega, by rw [hhh]; exact G2.out.size, LR.out⟩
    rw [hw3]
    exact gr.Gr.heap (L := []) (.new (grown_alloc _ _)) e1 (by simp))
  have x2 := (H.out.new G3.out).c2
  rw [← hw3, ← hhh]
  clear hw3 hhh r0 r1 x0 x1
  go_wp2
  go_loopw [25] (fun x wr => ∃ i : Nat, i ≤ σ.M ∧ x = .int .i64 (i : Int) ∧ w.grownBy wr none ∧ ∃ A' nc' vs' bs', Cl wr w.heap.size hh σ R2 c2 i A' nc' vs' bs') (fun x _ => σ.M - (intOf x).toNat)
  case atStart => exact ⟨0, Nat.zero_le _, rfl, G3.out, _, _, _, _, C3.out⟩
  case round =>
    obtain ⟨i, hi, rfl, hg, A0, nc0, vs0, bs0, hc⟩ := hrel
    have GX := Lib.hid hg
    have CX := Lib.hid hc
    by_cases hlt : i < σ.M
    · have hq := H.out.new hg
      obtain ⟨a, bq, cq, rfl, y1, y2, y3, y4⟩ := hq.nv hlt
      have RV := Lib.hid (fun W (hg : w.grownBy W none) => (H.out.new hg).rv hlt y2 y3 y4)
      have nl := OK.out.nl i
      have l1 : (0 : Int) ≤ (i : Int) := by omega
      have l2 : (i : Int) < (σ.M : Int) := by omega
      have x3 : wr.cell? ⟨hh, 2, none⟩ = some (.slice A0 i nc0) := by
        rw [cell_of_row wr hh _ _ _ _ hc.box]
        rfl
      have OWN := Lib.hid (fun W (hg : wr.grownBy W none) => gr.own_gr (L := []) CX.out.own (.new hg) (fun _ _ => by simp))
      have SX := hg.size
      clear hg hc hq x2
      go_wp2
      -- REGION7
      refine wp_region_held_drew (S := fun _ => True) (by kernel_rfl) trivial (fun _ => ?_)
      refine wpAnyH_take (i := 0) (v := ?v1) rfl (by kernel_rfl) (by kernel_rfl) (by kernel_rfl) (fun _ _ _ h => h) (Or.inl ⟨by rfl, ?hy1⟩) trivial ?rest1
      case hy1 =>
        intro W hS; go_simp; (try with_reducible rfl)
      try simp only [Act.put, List.setIfInBounds_toArray, List.set_cons_zero, List.set_cons_succ]
      refine wpAnyH_take (i := 1) (v := ?v2) rfl (by kernel_rfl) (by kernel_rfl) (by kernel_rfl) (fun _ _ _ h => h) (Or.inl ⟨by rfl, ?hy2⟩) trivial ?rest2
      case hy2 =>
        intro W hS; go_simp; (try with_reducible rfl)
      try simp only [Act.put, List.setIfInBounds_toArray, List.set_cons_zero, List.set_cons_succ]
      refine wpAnyH_take (i := 2) (v := ?v3) rfl (by kernel_rfl) (by kernel_rfl) (by kernel_rfl) (fun _ _ _ h => h) (Or.inl ⟨by rfl, ?hy3⟩) trivial ?rest3
      case hy3 =>
        intro W hS; go_simp; (try with_reducible rfl)
      try simp only [Act.put, List.setIfInBounds_toArray, List.set_cons_zero, List.set_cons_succ]
      refine wpAnyH_take (i := 3) (v := ?v4) rfl (by kernel_rfl) (by kernel_rfl) (by kernel_rfl) (fun _ _ _ h => h) (Or.inl ⟨by rfl, ?hy4⟩) trivial ?rest4
      case hy4 =>
        intro W hS; go_simp; (try with_reducible rfl)
      try simp only [Act.put, List.setIfInBounds_toArray, List.set_cons_zero, List.set_cons_succ]
      refine wpAnyH_take (i := 5) (v := ?v5) rfl (by kernel_rfl) (by kernel_rfl) (by kernel_rfl) (fun _ _ _ h => h) (Or.inl ⟨by rfl, ?hy5⟩) trivial ?rest5
      case hy5 =>
        intro W hS; go_simp; (try with_reducible rfl)
      try simp only [Act.put, List.setIfInBounds_toArray, List.set_cons_zero, List.set_cons_succ]
      refine wpAnyH_ready (rs := [4, 6]) (by kernel_rfl) (by simp) (AllReadyH.cons rfl (fun K hK => ?_) (AllReadyH.cons rfl (fun K hK => ?_) AllReadyH.nil))
      · skip
        go_simp
        refine hK.out _ _ trivial (fun _ => ?_)
        clear hK K
        try simp only [Act.put, List.setIfInBounds_toArray, List.set_cons_zero, List.set_cons_succ]
        refine wpAnyH_ready (rs := [6]) (by kernel_rfl) (by simp) (AllReadyH.cons rfl (fun K hK => ?_) AllReadyH.nil)
        go_simp
        go_at_call 33; (with_reducible refine (sclone_some (RV.out _ (GX.out.trans (gr.grown_drew _ _))) (by omega)).mono ?_); rintro e w4 ⟨b, c4, rfl, hl, hg⟩; have L4 := Lib.hid hl; have G4 := Lib.hid ((gr.grown_drew wr none).trans hg); have x4 := G4.out.cell x3 (by simp); clear hl hg
        refine hK.out _ _ trivial (fun _ => ?_)
        clear hK K
        try simp only [Act.put, List.setIfInBounds_toArray, List.set_cons_zero, List.set_cons_succ]
        refine wpAnyH_ready (rs := [7]) (by kernel_rfl) (by simp) (AllReadyH.cons rfl (fun K hK => ?_) AllReadyH.nil)
        go_simp
        refine hK.out _ _ trivial (fun _ => ?_)
        clear hK K
        try simp only [Act.put, List.setIfInBounds_toArray, List.set_cons_zero, List.set_cons_succ]
        refine wpAnyH_ready (rs := [8]) (by kernel_rfl) (by simp) (AllReadyH.cons rfl (fun K hK => ?_) AllReadyH.nil)
        refine wp_append_nv (.tmp 33) (.tmp 36) (by rfl) w.heap.size (.slice A0 i nc0) i _ (by rfl) (OWN.out _ (G4.out.trans (grown_alloc _ _))) w4.heap.size (.slice (some ⟨b, 0, none⟩) (σ.nd i).length c4) (by rfl) (by go_simp) rfl (by omega) (by have := G4.out.size; simp; omega) ?_; intro g3 c3 w5 own1 gr1 li1; have C5 := Lib.hid (CX.out.cut SX G4.out (D := wr.heap.size) (Nat.le_refl _) L4.out (grown_alloc _ _) own1 gr1); obtain ⟨x5, f5⟩ := C5.out.1; clear own1 gr1 li1
        refine hK.out _ _ trivial (fun _ => ?_)
        clear hK K
        try simp only [Act.put, List.setIfInBounds_toArray, List.set_cons_zero, List.set_cons_succ]
        refine wpAnyH_take (i := 9) (v := ?v6) rfl (by kernel_rfl) (by kernel_rfl) (by kernel_rfl) (fun _ _ _ h => h) (Or.inl ⟨by rfl, ?hy6⟩) trivial ?rest6
        case hy6 =>
          intro W hS; go_simp; (try with_reducible rfl)
        try simp only [Act.put, List.setIfInBounds_toArray, List.set_cons_zero, List.set_cons_succ]
        refine wpAnyH_take (i := 10) (v := ?v7) rfl (by kernel_rfl) (by kernel_rfl) (by kernel_rfl) (fun _ _ _ h => h) (Or.inl ⟨by rfl, ?hy7⟩) trivial ?rest7
        case hy7 =>
          intro W hS; go_simp; (try with_reducible rfl)
        try simp only [Act.put, List.setIfInBounds_toArray, List.set_cons_zero, List.set_cons_succ]
        refine wpAnyH_ready (rs := [11]) (by kernel_rfl) (by simp) (AllReadyH.cons rfl (fun K hK => ?_) AllReadyH.nil)
        go_simp
        refine hK.out _ _ trivial (fun _ => ?_)
        clear hK K
        try simp only [Act.put, List.setIfInBounds_toArray, List.set_cons_zero, List.set_cons_succ]
        refine wpAnyH_done (by kernel_rfl) ?_ _
        go_wp2
        obtain ⟨A9, nc9, vs9, bs9, p9⟩ := C5.out.2.1
        exact ⟨⟨i + 1, by omega, by go_num, C5.out.2.2 w rfl GX.out, A9, nc9, vs9, bs9, p9⟩, by simp [intOf]; omega⟩
      · skip
        go_simp
        go_at_call 33; (with_reducible refine (sclone_some (RV.out _ (GX.out.trans (gr.grown_drew _ _))) (by omega)).mono ?_); rintro e w4 ⟨b, c4, rfl, hl, hg⟩; have L4 := Lib.hid hl; have G4 := Lib.hid ((gr.grown_drew wr none).trans hg); have x4 := G4.out.cell x3 (by simp); clear hl hg
        refine hK.out _ _ trivial (fun _ => ?_)
        clear hK K
        try simp only [Act.put, List.setIfInBounds_toArray, List.set_cons_zero, List.set_cons_succ]
        refine wpAnyH_ready (rs := [4, 7]) (by kernel_rfl) (by simp) (AllReadyH.cons rfl (fun K hK => ?_) (AllReadyH.cons rfl (fun K hK => ?_) AllReadyH.nil))
        · skip
          go_simp
          refine hK.out _ _ trivial (fun _ => ?_)
          clear hK K
          try simp only [Act.put, List.setIfInBounds_toArray, List.set_cons_zero, List.set_cons_succ]
          refine wpAnyH_ready (rs := [7]) (by kernel_rfl) (by simp) (AllReadyH.cons rfl (fun K hK => ?_) AllReadyH.nil)
          go_simp
          refine hK.out _ _ trivial (fun _ => ?_)
          clear hK K
          try simp only [Act.put, List.setIfInBounds_toArray, List.set_cons_zero, List.set_cons_succ]
          refine wpAnyH_ready (rs := [8]) (by kernel_rfl) (by simp) (AllReadyH.cons rfl (fun K hK => ?_) AllReadyH.nil)
          refine wp_append_nv (.tmp 33) (.tmp 36) (by rfl) w.heap.size (.slice A0 i nc0) i _ (by rfl) (OWN.out _ (G4.out.trans (grown_alloc _ _))) w4.heap.size (.slice (some ⟨b, 0, none⟩) (σ.nd i).length c4) (by rfl) (by go_simp) rfl (by omega) (by have := G4.out.size; simp; omega) ?_; intro g3 c3 w5 own1 gr1 li1; have C5 := Lib.hid (CX.out.cut SX G4.out (D := wr.heap.size) (Nat.le_refl _) L4.out (grown_alloc _ _) own1 gr1); obtain ⟨x5, f5⟩ := C5.out.1; clear own1 gr1 li1
          refine hK.out _ _ trivial (fun _ => ?_)
          clear hK K
          try simp only [Act.put, List.setIfInBounds_toArray, List.set_cons_zero, List.set_cons_succ]
          refine wpAnyH_take (i := 9) (v := ?v8) rfl (by kernel_rfl) (by kernel_rfl) (by kernel_rfl) (fun _ _ _ h => h) (Or.inl ⟨by rfl, ?hy8⟩) trivial ?rest8
          case hy8 =>
            intro W hS; go_simp; (try with_reducible rfl)
          try simp only [Act.put, List.setIfInBounds_toArray, List.set_cons_zero, List.set_cons_succ]
          refine wpAnyH_take (i := 10) (v := ?v9) rfl (by kernel_rfl) (by kernel_rfl) (by kernel_rfl) (fun _ _ _ h => h) (Or.inl ⟨by rfl, ?hy9⟩) trivial ?rest9
          case hy9 =>
            intro W hS; go_simp; (try with_reducible rfl)
          try simp only [Act.put, List.setIfInBounds_toArray, List.set_cons_zero, List.set_cons_succ]
          refine wpAnyH_ready (rs := [11]) (by kernel_rfl) (by simp) (AllReadyH.cons rfl (fun K hK => ?_) AllReadyH.nil)
          go_simp
          refine hK.out _ _ trivial (fun _ => ?_)
          clear hK K
          try simp only [Act.put, List.setIfInBounds_toArray, List.set_cons_zero, List.set_cons_succ]
          refine wpAnyH_done (by kernel_rfl) ?_ _
          go_wp2
          obtain ⟨A9, nc9, vs9, bs9, p9⟩ := C5.out.2.1
          exact ⟨⟨i + 1, by omega, by go_num, C5.out.2.2 w rfl GX.out, A9, nc9, vs9, bs9, p9⟩, by simp [intOf]; omega⟩
        · skip
          go_simp
          refine hK.out _ _ trivial (fun _ => ?_)
          clear hK K
          try simp only [Act.put, List.setIfInBounds_toArray, List.set_cons_zero, List.set_cons_succ]
          refine wpAnyH_ready (rs := [4]) (by kernel_rfl) (by simp) (AllReadyH.cons rfl (fun K hK => ?_) AllReadyH.nil)
          have x7 := (grown_alloc w4 (.cells #[.slice (some ⟨b, 0, none⟩) (σ.nd i).length c4] 53)).cell x4 (by simp)
          go_simp
          refine hK.out _ _ trivial (fun _ => ?_)
          clear hK K
          try simp only [Act.put, List.setIfInBounds_toArray, List.set_cons_zero, List.set_cons_succ]
          refine wpAnyH_ready (rs := [8]) (by kernel_rfl) (by simp) (AllReadyH.cons rfl (fun K hK => ?_) AllReadyH.nil)
          refine wp_append_nv (.tmp 33) (.tmp 36) (by rfl) w.heap.size (.slice A0 i nc0) i _ (by rfl) (OWN.out _ (G4.out.trans (grown_alloc _ _))) w4.heap.size (.slice (some ⟨b, 0, none⟩) (σ.nd i).length c4) (by rfl) (by go_simp) rfl (by omega) (by have := G4.out.size; simp; omega) ?_; intro g3 c3 w5 own1 gr1 li1; have C5 := Lib.hid (CX.out.cut SX G4.out (D := wr.heap.size) (Nat.le_refl _) L4.out (grown_alloc _ _) own1 gr1); obtain ⟨x5, f5⟩ := C5.out.1; clear own1 gr1 li1
          refine hK.out _ _ trivial (fun _ => ?_)
          clear hK K
          try simp only [Act.put, List.setIfInBounds_toArray, List.set_cons_zero, List.set_cons_succ]
          refine wpAnyH_take (i := 9) (v := ?v10) rfl (by kernel_rfl) (by kernel_rfl) (by kernel_rfl) (fun _ _ _ h => h) (Or.inl ⟨by rfl, ?hy10⟩) trivial ?rest10
          case hy10 =>
            intro W hS; go_simp; (try with_reducible rfl)
          try simp only [Act.put, List.setIfInBounds_toArray, List.set_cons_zero, List.set_cons_succ]
          refine wpAnyH_take (i := 10) (v := ?v11) rfl (by kernel_rfl) (by kernel_rfl) (by kernel_rfl) (fun _ _ _ h => h) (Or.inl ⟨by rfl, ?hy11⟩) trivial ?rest11
          case hy11 =>
            intro W hS; go_simp; (try with_reducible rfl)
          try simp only [Act.put, List.setIfInBounds_toArray, List.set_cons_zero, List.set_cons_succ]
          refine wpAnyH_ready (rs := [11]) (by kernel_rfl) (by simp) (AllReadyH.cons rfl (fun K hK => ?_) AllReadyH.nil)
          go_simp
          refine hK.out _ _ trivial (fun _ => ?_)
          clear hK K
          try simp only [Act.put, List.setIfInBounds_toArray, List.set_cons_zero, List.set_cons_succ]
          refine wpAnyH_done (by kernel_rfl) ?_ _
          go_wp2
          obtain ⟨A9, nc9, vs9, bs9, p9⟩ := C5.out.2.1
          exact ⟨⟨i + 1, by omega, by go_num, C5.out.2.2 w rfl GX.out, A9, nc9, vs9, bs9, p9⟩, by simp [intOf]; omega⟩
    · have ei : i = σ.M := by omega
      subst ei
      clear hg hc
      go_wp2
      go_ret
      obtain ⟨K', p1, p2⟩ := CX.out.fin OK.out
      exact ⟨hh, K', _, _, _, _, _, _, rfl, p1, p2, GX.out⟩
end
end Go.Proofs.YtfhebjkoojodiaaDoor.gq
