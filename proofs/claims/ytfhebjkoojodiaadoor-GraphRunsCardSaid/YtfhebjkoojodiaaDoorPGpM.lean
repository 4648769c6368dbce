/- Texts that this claim stands on. -/
import Derived.Deep.DeepCutAuto
import Derived.Test.YtfhebjkoojodiaaDoorPGpL
namespace Go.Proofs.YtfhebjkoojodiaaDoor.gp
open Go.ChangeShapes Go.WideShapes Go.ChangeAt Go.RowKit gen va cd
set_option linter.unusedVariables false
set_option maxHeartbeats 1000000
set_option maxRecDepth 100000
theorem info_nv : (Tryd.prog.info? 53).map (fun i => (i.zero, i.size, i.bytes)) = some (some (.slice none 0 0), 1, 24) := by kernel_rfl
theorem step_append_nv {w : World} {ops : Array Oper} {o : Oper} {a : Act} {K : Act → World → Prop} {Q : Exit → Act → World → Prop} {E : Prop} (hgd : o.guard = none) (s x : Operand) (ho : o.op = .call { callee := .builtin .append, args := #[s, x], argTypes := #[42, 42] })
    (base : Nat) (v : Value) (n : Nat) (xs : List Value) (hs : a.eval s = v) (hown : w.ownsRow base 53 1 v n xs) (b : Nat) (z : Value) (hx : a.eval x = .slice (some ⟨b, 0, none⟩) 1 1)
    (hz : w.cell? ⟨b, 0, none⟩ = some z) (h1z : z.oneCell' = true) (hm : n ≤ 1048576) (hbase : base ≤ w.heap.size)
    (h : ∀ g c' w', w'.ownsRow base 53 1 (.slice (some ⟨g, 0, none⟩) (n + 1) c') (n + 1) (xs ++ [z]) → w.grownBy w' v.ownBlock → (v.ownBlock = some g ∨ w.heap.size ≤ g) → K (a.put o.dst (.slice (some ⟨g, 0, none⟩) (n + 1) c')) w') :
    if Region.wanted o (yielded ops a.tmps) = true then Oper.wp Tryd.prog o a w K Q else E := by
  obtain ⟨i0, hi, hz0, hz1, hz2⟩ := info_parts info_nv
  refine step_append_lies w hgd s x 42 ho base 53 i0 (.slice none 0 0) 1 24 Tryd.underlying42 hi hz0 hz1 hz2 rfl (by omega) v n xs hs hown ⟨b, 0, none⟩ 1 1 [z] hx rfl
    (fun j u hj => ?_) (fun u hu => by simp at hu; subst hu; exact h1z) (by omega) (by unfold maxLen; omega) (by omega) hbase _ rfl (fun g c' w' h1 h2 h3 h4 => ?_)
  · match j, hj with
    | 0, hj => simp at hj; subst hj; simpa [Addr.add] using hz
  · exact h g c' w' h1 h2 (h3.elim .inl (fun e => .inr (Nat.le_of_eq e.symm)))
structure Cut3 (w : World) (K : List Nat) (g : Nat) (cf : Nat → Int) (σ : Gs) (t i f j c n : Int) (wc : World) : Prop where
  gw : ∃ K1, Gw wc K1 g cf σ ∧ ∀ k, k ∈ K1 → k ∈ K ∨ w.heap.size + 2 ≤ k
  fr : gr.Gr K w wc
  sz : w.heap.size + 2 ≤ wc.heap.size
  sv : Sv wc w.heap.size 3 t i f j c n
  az : ∀ q, q < 5 → wc.cell? ⟨w.heap.size + 1, q, none⟩ = some (.int .i64 0) ∧ wc.frozen? ⟨w.heap.size + 1, q, none⟩ = false
section
variable {w : World} {K : List Nat} {g : Nat} {cf : Nat → Int} {σ : Gs}
theorem sv_kept {w w' : World} {B : Nat} {k t i f j c n : Int} {row : Option Nat} (h : Sv w B k t i f j c n) (hg : w.grownBy w' row) (hr : some B ≠ row) : Sv w' B k t i f j c n := by
  obtain ⟨h0, h1, h2, h3, h4, h5, h6⟩ := h
  exact ⟨hg.cell h0 hr, hg.cell h1 hr, hg.cell h2 hr, hg.cell h3 hr, hg.cell h4 hr, hg.cell h5 hr, hg.cell h6 hr⟩
theorem heap_two (w : World) (a b : Obj) : ((w.alloc a).alloc b).heap[w.heap.size]? = some a := by
  rw [(grown_alloc (w.alloc a) b).block w.heap.size (by simp) (by simp), heap_alloc_new]
theorem cut3 {R : Nat} {A : Option Addr} {nc : Nat} {vs : Nat → Value} {bs : Nat → Nat} (H : GwI w K g cf σ R A nc vs bs) (hM : σ.M < 1000) {l : Nat} (hL : l ≤ 127) {t i f j c n : Int} {w0 X w1 : World} (G0 : w.grownBy w0 none) (z0 : w0.heap.size = w.heap.size + 2)
    (S0 : Sv w0 w.heap.size 3 t i f j c n) (AZ : ∀ q, q < 5 → w0.cell? ⟨w.heap.size + 1, q, none⟩ = some (.int .i64 0) ∧ w0.frozen? ⟨w.heap.size + 1, q, none⟩ = false) (hX : w0.grownBy X none) (hb : X.heap[w.heap.size + 2]? = some (.cells (vc (List.replicate l (0, 0))).toArray 57 (0, 0)))
    {g3 c3 : Nat} (own1 : w1.ownsRow 0 53 1 (.slice (some ⟨g3, 0, none⟩) (σ.M + 1) c3) (σ.M + 1) (nvs bs σ.nd σ.M ++ [.slice (some ⟨w.heap.size + 2, 0, none⟩) l l])) (gr1 : X.grownBy w1 (Value.slice A σ.M nc).ownBlock) (li1 : (Value.slice A σ.M nc).ownBlock = some g3 ∨ X.heap.size ≤ g3) :
    (w1.cell? ⟨g, 11, none⟩ = some (.slice A σ.M nc) ∧ w1.frozen? ⟨g, 11, none⟩ = false) ∧ Cut3 w K g cf { σ with M := σ.M + 1, nd := upd σ.nd σ.M (List.replicate l (0, 0)) } t i f j c n (w1.setCell ⟨g, 11, none⟩ (.slice (some ⟨g3, 0, none⟩) (σ.M + 1) c3)) := by
  have HX := H.new (G0.trans hX)
  have bX : w.heap.size + 2 < X.heap.size := (Array.getElem?_eq_some_iff.1 hb).1
  have gl := H.lt g H.kg
  obtain ⟨cs, b1, _⟩ := HX.box
  have ow : ∀ q, (Value.slice A σ.M nc).ownBlock = some q → ∃ cs, w.heap[q]? = some (.cells cs 53 (0, 0)) := own_ty H.own
  have owX : ∀ q, (Value.slice A σ.M nc).ownBlock = some q → ∃ cs, X.heap[q]? = some (.cells cs 53 (0, 0)) := own_ty HX.own
  have ol : ∀ q, (Value.slice A σ.M nc).ownBlock = some q → q < w.heap.size := fun q hq => H.lt q (H.kA q hq)
  have ng : (some g : Option Nat) ≠ (Value.slice A σ.M nc).ownBlock := fun e => by
    obtain ⟨c1, c2⟩ := owX g e.symm
    exact ty_ne' c2 b1 (by decide) rfl
  have nl : ∀ q, w.heap.size ≤ q → (some q : Option Nat) ≠ (Value.slice A σ.M nc).ownBlock := fun q hq e => by have := ol q e.symm; omega
  have GX : gr.Gr (Value.slice A σ.M nc).ownBlock.toList w w1 := (gr.Gr.new (G0.trans hX)).trans (.of gr1 (fun q hq => by rw [hq]; simp))
  have b1' := gr1.block g (Array.getElem?_eq_some_iff.1 b1).1 ng
  rw [b1] at b1'
  have hb1 : w1.heap[w.heap.size + 2]? = some (.cells (vc (List.replicate l (0, 0))).toArray 57 (0, 0)) := (gr1.block _ bX (nl _ (by omega))).trans hb
  have g3l : g3 < w1.heap.size := own_ty own1 g3 rfl |>.elim fun _ h => (Array.getElem?_eq_some_iff.1 h).1
  have AD := H.nadd hM hL (L := (Value.slice A σ.M nc).ownBlock.toList) (b := w.heap.size + 2) (K' := g3 :: (w.heap.size + 2) :: K) GX (fun q hq => by
      cases e : (Value.slice A σ.M nc).ownBlock with
      | none => rw [e] at hq; cases hq
      | some x =>
        rw [e] at hq
        obtain rfl : q = x := by simpa using hq
        exact ow q e) hb1 (by omega) own1 (fun q hq => List.mem_cons_of_mem _ (List.mem_cons_of_mem _ hq)) (by simp) (fun q hq => by injection hq with hq; subst hq; simp)
      (fun q hq => by
        rcases List.mem_cons.1 hq with rfl | hq
        · exact g3l
        · rcases List.mem_cons.1 hq with rfl | hq
          · exact (Array.getElem?_eq_some_iff.1 hb1).1
          · exact Nat.lt_of_lt_of_le (H.lt q hq) GX.size)
  have GS := gr.grown_set w1 g 11 (.slice (some ⟨g3, 0, none⟩) (σ.M + 1) c3)
  have e1 : (some w.heap.size : Option Nat) ≠ some g := fun e => by injection e with e; omega
  have e2 : (some (w.heap.size + 1) : Option Nat) ≠ some g := fun e => by injection e with e; omega
  refine ⟨⟨?_, frozen_of_row w1 g 11 _ _ b1'⟩, ⟨⟨_, ⟨R, _, _, vs, _, AD⟩, fun k hk => ?_⟩, ?_, ?_, ?_, fun q hq => ?_⟩⟩
  · have := HX.c11
    exact gr1.cell this ng
  · rcases List.mem_cons.1 hk with rfl | hk
    · rcases li1 with e | e
      · exact .inl (H.kA _ e)
      · exact .inr (by omega)
    · rcases List.mem_cons.1 hk with rfl | hk
      · exact .inr (Nat.le_refl _)
      · exact .inl hk
  · exact (GX.mono (fun k hk => by
      cases e : (Value.slice A σ.M nc).ownBlock with
      | none => rw [e] at hk; cases hk
      | some x =>
        rw [e] at hk
        obtain rfl : k = x := by simpa using hk
        exact H.kA k e)).trans (.one GS H.kg)
  · have := gr1.size
    simp
    omega
  · exact sv_kept (sv_kept (S0.made hX) gr1 (nl _ (Nat.le_refl _))) GS e1
  · refine ⟨GS.cell (gr1.cell (hX.cell (AZ q hq).1 (by simp)) (nl (w.heap.size + 1) (by omega))) e2, ?_⟩
    have x1 := gr.Gr.frozen (L := []) (.new hX) (AZ q hq).2 (by rw [z0]; simp) (by simp)
    have x2 := gr.Gr.frozen (L := (Value.slice A σ.M nc).ownBlock.toList) (.of gr1 (fun q hq => by rw [hq]; simp)) x1 (by simp; omega) (fun hm => by
      cases e : (Value.slice A σ.M nc).ownBlock with
      | none => rw [e] at hm; cases hm
      | some x => rw [e] at hm; exact nl (w.heap.size + 1) (by omega) (by rw [e]; simpa using hm))
    exact gr.Gr.frozen (L := [g]) (.one GS (by simp)) x2 (by have := gr1.size; simp; omega) (fun hm => by simp at hm; omega)
theorem Do_3 (h : Gw w K g cf σ) (t l : Nat) (i f j c : Int) (ht : t < σ.N) (live : σ.lv t = true) (hl : (σ.hd t).length < 16) (hM : σ.M < 1000) (hL : l ≤ 127) :
    Calls Tryd.prog 26 #[.pointer (some ⟨g, 0, none⟩), .agg #[.int .i64 3, .int .i64 (t : Int), .int .i64 i, .int .i64 f, .int .i64 j, .int .i64 c, .int .i64 (l : Int)]] w
      fun e w' => e = Aw 2 (σ.M : Int) ∧ Gans w K g cf { σ with M := σ.M + 1, nd := upd σ.nd σ.M (List.replicate l (0, 0)), hd := upd σ.hd t (σ.hd t ++ [(2, (σ.M : Int))]) } w' := by
  obtain ⟨R, A, nc, vs, bs, h⟩ := h
  obtain ⟨w0, hw0⟩ : ∃ w0, w0 = (w.alloc (.cells #[.int .i64 3, .int .i64 (t : Int), .int .i64 i, .int .i64 f, .int .i64 j, .int .i64 c, .int .i64 (l : Int)] 39)).alloc (.cells #[.int .i64 0, .int .i64 0, .int .i64 0, .int .i64 0, .int .i64 0] 36) := ⟨_, rfl⟩
  have G0 := Lib.hid (show w.grownBy w0 none by rw [hw0]; exact (grown_alloc _ _).trans (grown_alloc _ _))
  have z0 : w0.heap.size = w.heap.size + 2 := by rw [hw0]; simp
  have S0 := Lib.hid (show Sv w0 w.heap.size 3 t i f j c l by rw [hw0]; exact (Sv.new w 39 3 t i f j c l).made (grown_alloc _ _))
  have AZ := Lib.hid (show ∀ j, j < 5 → w0.cell? ⟨w.heap.size + 1, j, none⟩ = some (.int .i64 0) ∧ w0.frozen? ⟨w.heap.size + 1, j, none⟩ = false by
    intro j hj
    rw [hw0]
    have hj' : j = 0 ∨ j = 1 ∨ j = 2 ∨ j = 3 ∨ j = 4 := by omega
    rcases hj' with rfl | rfl | rfl | rfl | rfl <;> simp [go_sem])
  have HW := Lib.hid hw0
  have H := Lib.hid h
  have mk := make_vas l (by omega)
  have OWN := Lib.hid (fun W (hg : w.grownBy W none) => (h.new hg).own)
  have kA := Lib.hid h.kA
  have M8 : σ.M ≤ 1000 := by omega
  have h0 := h.new G0.out
  have x11 := h0.c11
  have f11 := h0.freeG 11
  obtain ⟨s0, s1, s2, s3, s4, s5, s6⟩ := S0.out
  have gl := h.lt g h.kg
  have l1 : (0 : Int) ≤ (l : Int) := by omega
  obtain ⟨cs, hcs⟩ : ∃ cs, (vc (List.replicate l (0, 0))).toArray = cs := ⟨_, rfl⟩
  have CS := Lib.hid hcs
  rw [hcs] at mk
  have x11a := (grown_alloc w0 (.cells cs 57)).cell x11 (by simp)
  have x11b := (grown_alloc _ (.cells #[.slice (some ⟨w.heap.size + 2, 0, none⟩) l l] 53)).cell x11a (by simp)
  clear h h0 hw0 hcs
  go_enter Tryd.func26, Tryd.ntmps26
  go_upto_region 6 with fail
  rw [← HW.out]
  go_cut [4] from 5 (fun v wc => v = .pointer (some ⟨w.heap.size + 1, 0, none⟩) ∧ Cut3 w K g cf { σ with M := σ.M + 1, nd := upd σ.nd σ.M (List.replicate l (0, 0)) } t i f j c l wc)
  case first =>
    go_region_law
      ((refine step_append_nv (by rfl) (.tmp 39) (.tmp 43) (by rfl) 0 (.slice A σ.M nc) σ.M _ (by rfl) (OWN.out _ (G0.out.trans (by first | with_reducible exact ((grown_alloc _ _).trans (grown_alloc _ _)).trans (gr.grown_drew _ _) | exact (grown_alloc _ _).trans (grown_alloc _ _) | exact (gr.grown_drew _ _).trans ((grown_alloc _ _).trans (grown_alloc _ _)) | exact (li.grown_drewN _ _ _).trans ((grown_alloc _ _).trans (grown_alloc _ _))))) (w.heap.size + 2 + 1) (.slice (some ⟨w.heap.size + 2, 0, none⟩) l l) (by rfl) (by go_simp) rfl (by omega) (Nat.zero_le _) ?_; intro g3 c3 w1 own1 gr1 li1; have C3 := Lib.hid (cut3 H.out hM hL G0.out z0 S0.out AZ.out (by first | with_reducible exact ((grown_alloc _ _).trans (grown_alloc _ _)).trans (gr.grown_drew _ _) | with_reducible exact (gr.grown_drew _ _).trans ((grown_alloc _ _).trans (grown_alloc _ _))) (by rw [CS.out, ← z0]; first | exact heap_two w0 _ _ | exact heap_two w0.drew _ _) own1 gr1 li1); obtain ⟨x11', f11'⟩ := C3.out.1; clear own1 gr1 li1))
    all_goals
      go_wp2_with fail
      go_meet
      exact ⟨rfl, C3.out.2⟩
  case rest =>
    obtain ⟨rfl, hc⟩ := hcut
    obtain ⟨⟨K1, hg1, hk1⟩, fr1, sz1, sv1, az1⟩ := hc
    have HM := hg1.ok.m0
    have HG := Lib.hid hg1
    obtain ⟨R1, A1, nc1, vs1, bs1, h1⟩ := hg1
    have y11 := h1.c11
    obtain ⟨c0, c1, c2, c3, c4, c5, c6⟩ := sv1
    have HO := Lib.hid (fun W (hg : wc.grownBy W none) => hold_full (HG.out.new hg) ht 2 (σ.M : Int) hl (fun _ => ⟨by omega, by show (σ.M : Int) < ((σ.M + 1 : Nat) : Int); omega⟩) live)
    have D0 := Lib.hid (show wc.drew.cell? ⟨w.heap.size, 1, none⟩ = some (.int .i64 (t : Int)) ∧ wc.drew.cell? ⟨g, 11, none⟩ = some (.slice A1 (σ.M + 1) nc1) from ⟨c1, y11⟩)
    have GD := Lib.hid (gr.grown_drew wc none)
    have e1 : ((σ.M + 1 : Nat) : Int) - 1 = (σ.M : Int) := by omega
    have e2 : IntKind.i64.wrap (((σ.M + 1 : Nat) : Int) - 1) = (σ.M : Int) := by rw [e1]; exact IntWalk.i64_in _ (by omega)
    have e3 : IntKind.i64.wrap (σ.M : Int) = (σ.M : Int) := IntWalk.i64_in _ (by omega)
    have n5 : ¬ (g = w.heap.size + 1) := by omega
    have n6 : ¬ (w.heap.size + 1 = g) := by omega
    have N1 := Lib.hid (show ∀ q, q ∈ K1 → q ≠ w.heap.size ∧ q ≠ w.heap.size + 1 from fun q hq => by
      rcases hk1 q hq with e | e
      · have := H.out.lt q e; omega
      · omega)
    have FR1 := Lib.hid fr1
    have AZ1 := Lib.hid az1
    clear h1 fr1 az1
    go_wp2_with fail
    go_region_held3 (fun W => W.cell? ⟨w.heap.size, 1, none⟩ = some (.int .i64 (t : Int)) ∧ W.cell? ⟨g, 11, none⟩ = some (.slice A1 (σ.M + 1) nc1)) (first | with_reducible exact D0.out | with_reducible exact D2.out | go_keep) (first
      | (go_at_call 45; (with_reducible refine (HO.out _ GD.out).mono ?_); rintro e w2 ⟨rfl, hG, hgb⟩; obtain ⟨K2, hK1, hK2, hK3⟩ := hG; have GK := Lib.hid (show gr.Gr K1 wc w2 from (gr.Gr.new GD.out).trans hK2); have D2 := Lib.hid (show w2.cell? ⟨w.heap.size, 1, none⟩ = some (.int .i64 (t : Int)) ∧ w2.cell? ⟨g, 11, none⟩ = some (.slice A1 (σ.M + 1) nc1) from ⟨GK.out.cell c1 (fun e => (N1.out _ e).1 rfl), (World.cell?_of_block hgb).trans (GD.out.cell y11 (by simp))⟩); have AZ2 := Lib.hid (fun q hq => (show w2.cell? ⟨w.heap.size + 1, q, none⟩ = some (.int .i64 0) ∧ w2.frozen? ⟨w.heap.size + 1, q, none⟩ = false from ⟨GK.out.cell (AZ1.out q hq).1 (fun e => (N1.out _ e).2 rfl), GK.out.frozen (AZ1.out q hq).2 (by simp; omega) (fun e => (N1.out _ e).2 rfl)⟩)); obtain ⟨a0, f0⟩ := AZ2.out 0 (by omega); obtain ⟨a1, f1⟩ := AZ2.out 1 (by omega); obtain ⟨a2, f2⟩ := AZ2.out 2 (by omega); obtain ⟨a3, f3⟩ := AZ2.out 3 (by omega); obtain ⟨a4, f4⟩ := AZ2.out 4 (by omega); clear hgb))
    go_wp2
    refine bodyPost_ret (v := .agg #[.int .i64 0, .int .i64 2, .int .i64 (σ.M : Int), .int .i64 0, .int .i64 0]) (by simp [results, Tryd.results26, go_sem, a0, a1, a2, a3, a4]) rfl ⟨rfl, ?_⟩
    have NE : ∀ k, k ∈ K2 → k ∉ [w.heap.size + 1] := fun k hk hm => by
      rw [List.mem_singleton] at hm
      rcases hK3 k hk with e | e
      · exact (N1.out k e).2 hm
      · have := GD.out.size; omega
    exact ⟨K2, hK1.gr (.one (setA _ _ _ _ _ _ _) (by simp)) NE, (FR1.out.own GK.out (fun q hq => (hk1 q hq).imp id (fun e => by omega))).own (M := [w.heap.size + 1]) (.one (setA _ _ _ _ _ _ _) (by simp)) (fun x hx => .inr (by rw [List.mem_singleton] at hx; omega)), fun k hk => by
      rcases hK3 k hk with e | e
      · exact (hk1 k e).imp id (fun e => by omega)
      · exact .inr (by have := GD.out.size; omega)⟩
end
end Go.Proofs.YtfhebjkoojodiaaDoor.gp
