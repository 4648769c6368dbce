/- Texts that this claim stands on. -/
import Derived.Test.YtfhebjkoojodiaaDoorQGqH
namespace Go.Proofs.YtfhebjkoojodiaaDoor.gq
open Go.ChangeShapes Go.WideShapes Go.ChangeAt Go.RowKit gen va cd gp
set_option linter.unusedVariables false
set_option linter.unusedSimpArgs false
set_option maxHeartbeats 1000000
set_option maxRecDepth 100000
def AdC (w : World) (g : Nat) (A : Option Addr) (M nc l : Nat) (xs : List Value) (wc : World) : Prop := ∃ a' c' b w1, w1.ownsRow 0 53 1 (.slice (some ⟨a', 0, none⟩) (M + 1) c') (M + 1) (xs ++ [.slice (some ⟨b, 0, none⟩) l l]) ∧
  w1.heap[b]? = some (.cells (vc (List.replicate l (0, 0))).toArray 57 (0, 0)) ∧ w.heap.size < b ∧ ((Value.slice A M nc).ownBlock = some a' ∨ w.heap.size < a') ∧ gr.Gr (Value.slice A M nc).ownBlock.toList w w1 ∧ gr.Gr [w.heap.size] (w1.setCell ⟨g, 2, none⟩ (.slice (some ⟨a', 0, none⟩) (M + 1) c')) wc ∧ (∃ cs, w1.heap[g]? = some (.cells cs 60 (0, 0)))
section
variable {w : World} {K : List Nat} {g : Nat} {σ : Gs} {R tc : Nat} {A : Option Addr} {nc : Nat} {vs : Nat → Value} {bs : Nat → Nat}
theorem add_cut {M l : Nat} {xs : List Value} {cg : Array Value} (hg : w.heap[g]? = some (.cells cg 60 (0, 0))) (hg2 : cg[2]? = some (.slice A M nc)) (ho : ∀ q, (Value.slice A M nc).ownBlock = some q → q < w.heap.size ∧ q ≠ g)
    {w0 X w1 : World} (G0 : w.grownBy w0 none) (z0 : w0.heap.size = w.heap.size + 1) (ZZ : Z2 w0 w.heap.size) (hX : w0.grownBy X none) (hb : X.heap[w.heap.size + 1]? = some (.cells (vc (List.replicate l (0, 0))).toArray 57 (0, 0)))
    {g3 c3 : Nat} (own1 : w1.ownsRow 0 53 1 (.slice (some ⟨g3, 0, none⟩) (M + 1) c3) (M + 1) (xs ++ [.slice (some ⟨w.heap.size + 1, 0, none⟩) l l])) (gr1 : X.grownBy w1 (Value.slice A M nc).ownBlock) (li1 : (Value.slice A M nc).ownBlock = some g3 ∨ X.heap.size ≤ g3) :
    (w1.cell? ⟨g, 2, none⟩ = some (.slice A M nc) ∧ w1.frozen? ⟨g, 2, none⟩ = false) ∧ AdC w g A M nc l xs (w1.setCell ⟨g, 2, none⟩ (.slice (some ⟨g3, 0, none⟩) (M + 1) c3)) ∧ Z2 (w1.setCell ⟨g, 2, none⟩ (.slice (some ⟨g3, 0, none⟩) (M + 1) c3)) w.heap.size ∧ (w1.setCell ⟨g, 2, none⟩ (.slice (some ⟨g3, 0, none⟩) (M + 1) c3)).cell? ⟨g, 2, none⟩ = some (.slice (some ⟨g3, 0, none⟩) (M + 1) c3) ∧ w.heap.size + 1 ≤ (w1.setCell ⟨g, 2, none⟩ (.slice (some ⟨g3, 0, none⟩) (M + 1) c3)).heap.size := by
  have gl : g < w.heap.size := (Array.getElem?_eq_some_iff.1 hg).1
  have hgX := gr.Gr.heap (L := []) (.new (G0.trans hX)) hg (by simp)
  have bX : w.heap.size + 1 < X.heap.size := (Array.getElem?_eq_some_iff.1 hb).1
  have ng : (some g : Option Nat) ≠ (Value.slice A M nc).ownBlock := fun e => (ho g e.symm).2 rfl
  have nl : ∀ q, w.heap.size ≤ q → (some q : Option Nat) ≠ (Value.slice A M nc).ownBlock := fun q hq e => by have := (ho q e.symm).1; omega
  have GX : gr.Gr (Value.slice A M nc).ownBlock.toList w w1 := (gr.Gr.new (G0.trans hX)).trans (.of gr1 (fun q hq => by rw [hq]; simp))
  have b1' := gr1.block g (Array.getElem?_eq_some_iff.1 hgX).1 ng
  rw [hgX] at b1'
  have hb1 : w1.heap[w.heap.size + 1]? = some (.cells (vc (List.replicate l (0, 0))).toArray 57 (0, 0)) := (gr1.block _ bX (nl _ (by omega))).trans hb
  have e3 := heap_setCell_same w1 g 2 _ _ (.slice (some ⟨g3, 0, none⟩) (M + 1) c3) b1'
  have GS := gr.grown_set w1 g 2 (.slice (some ⟨g3, 0, none⟩) (M + 1) c3)
  have ZX := ZZ.new hX (by omega)
  have Z1 : Z2 w1 w.heap.size := ZX.gr (L := (Value.slice A M nc).ownBlock.toList) (.of gr1 (fun q hq => by rw [hq]; simp)) (by omega) (fun hm => by
    cases e : (Value.slice A M nc).ownBlock with
    | none => rw [e] at hm; cases hm
    | some x => rw [e] at hm; exact nl w.heap.size (Nat.le_refl _) (by rw [e]; simpa using hm))
  have sz1 := gr1.size
  refine ⟨⟨?_, frozen_of_row w1 g 2 _ _ b1'⟩, ⟨g3, c3, w.heap.size + 1, w1, own1, hb1, by omega, li1.imp id (fun e => by omega), GX, gr.Gr.refl _ _, ⟨_, b1'⟩⟩, Z1.gr (L := [g]) (.one GS (by simp)) (by omega) (by simp; omega), ?_, by simp; omega⟩
  · rw [cell_of_row w1 g _ _ _ _ b1']
    exact hg2
  · rw [cell_of_row _ g _ _ _ _ e3, Array.getElem?_setIfInBounds_self_of_lt (Array.getElem?_eq_some_iff.1 hg2).1]
theorem add_raw {M : Nat} {xs : List Value} {cg : Array Value} (hg : w.heap[g]? = some (.cells cg 60 (0, 0))) (hg2 : cg[2]? = some (.slice A M nc)) (ho : ∀ q, (Value.slice A M nc).ownBlock = some q → q < w.heap.size ∧ q ≠ g)
    (own : w.ownsRow 0 53 1 (.slice A M nc) M xs) (hM : M < 1000) (l : Nat) (hl : l ≤ 127) :
    Calls Tryd.prog 22 #[.pointer (some ⟨g, 0, none⟩), .int .i64 (l : Int)] w
      fun e w' => e = .returned (.agg #[.int .i64 2, .int .i64 (M : Int)]) ∧ AdC w g A M nc l xs w' := by
  obtain ⟨w0, hw0⟩ : ∃ w0, w0 = w.alloc (.cells #[.int .i64 0, .int .i64 0] 57) := ⟨_, rfl⟩
  have G0 := Lib.hid (show w.grownBy w0 none by rw [hw0]; exact grown_alloc _ _)
  have z0 : w0.heap.size = w.heap.size + 1 := by rw [hw0]; simp
  have ZZ := Lib.hid (show Z2 w0 w.heap.size by rw [hw0]; exact Z2.made rfl)
  have HW := Lib.hid hw0
  have HG := Lib.hid hg
  have HO := Lib.hid ho
  have mk := make_vas l (by omega)
  have OWN := Lib.hid (fun W (hg : w.grownBy W none) => gr.own_gr (L := []) own (.new hg) (fun _ _ => by simp))
  have gl : g < w.heap.size := (Array.getElem?_eq_some_iff.1 hg).1
  have x2 : w0.cell? ⟨g, 2, none⟩ = some (.slice A M nc) := G0.out.cell (by rw [cell_of_row w g _ _ _ _ hg]; exact hg2) (by simp)
  have y2 : w0.frozen? ⟨g, 2, none⟩ = false := gr.Gr.frozen (L := []) (.new G0.out) (frozen_of_row w g 2 _ _ hg) gl (by simp)
  have l1 : (0 : Int) ≤ (l : Int) := by omega
  obtain ⟨cs, hcs⟩ : ∃ cs, (vc (List.replicate l (0, 0))).toArray = cs := ⟨_, rfl⟩
  have CS := Lib.hid hcs
  rw [hcs] at mk
  have x2a := (grown_alloc w0 (.cells cs 57)).cell x2 (by simp)
  have x2b := (grown_alloc _ (.cells #[.slice (some ⟨w.heap.size + 1, 0, none⟩) l l] 53)).cell x2a (by simp)
  clear hw0 hcs hg own ho
  go_enter Tryd.func22, Tryd.ntmps22
  go_upto_region 1 with fail
  rw [← HW.out]
  go_cut [4] from 5 (fun v wc => v = .pointer (some ⟨w.heap.size, 0, none⟩) ∧ AdC w g A M nc l xs wc ∧ Z2 wc w.heap.size ∧ (∃ B c', wc.cell? ⟨g, 2, none⟩ = some (.slice B (M + 1) c')) ∧ w.heap.size + 1 ≤ wc.heap.size)
  case first =>
    go_region_law
      ((refine step_append_nv (by rfl) (.tmp 9) (.tmp 12) (by rfl) 0 (.slice A M nc) M _ (by rfl) (OWN.out _ (G0.out.trans (by first | with_reducible exact ((grown_alloc _ _).trans (grown_alloc _ _)).trans (gr.grown_drew _ _) | exact (grown_alloc _ _).trans (grown_alloc _ _) | exact (gr.grown_drew _ _).trans ((grown_alloc _ _).trans (grown_alloc _ _)) | exact (li.grown_drewN _ _ _).trans ((grown_alloc _ _).trans (grown_alloc _ _))))) (w.heap.size + 1 + 1) (.slice (some ⟨w.heap.size + 1, 0, none⟩) l l) (by rfl) (by go_simp) rfl (by omega) (Nat.zero_le _) ?_; intro g3 c3 w1 own1 gr1 li1; have C3 := Lib.hid (add_cut HG.out hg2 HO.out G0.out z0 ZZ.out (by first | with_reducible exact ((grown_alloc _ _).trans (grown_alloc _ _)).trans (gr.grown_drew _ _) | with_reducible exact (gr.grown_drew _ _).trans ((grown_alloc _ _).trans (grown_alloc _ _))) (by rw [CS.out, ← z0]; first | exact heap_two w0 _ _ | exact heap_two w0.drew _ _) own1 gr1 li1); obtain ⟨x2', f2'⟩ := C3.out.1; clear own1 gr1 li1))
    all_goals
      go_wp2_with fail
      go_meet
      exact ⟨rfl, C3.out.2.1, C3.out.2.2.1, ⟨_, _, C3.out.2.2.2.1⟩, C3.out.2.2.2.2⟩
  case rest =>
    obtain ⟨rfl, hA, hz, ⟨B', c', y2⟩, sz⟩ := hcut
    have e1 : ((M + 1 : Nat) : Int) - 1 = (M : Int) := by omega
    have e2 : IntKind.i64.wrap (((M + 1 : Nat) : Int) - 1) = (M : Int) := by rw [e1]; exact IntWalk.i64_in _ (by omega)
    have e3 : IntKind.i64.wrap (M : Int) = (M : Int) := IntWalk.i64_in _ (by omega)
    have HA := Lib.hid hA
    have HZ := Lib.hid hz
    clear hA hz
    go_wp2_with (first
      | (go_at_call 34; (with_reducible refine (reference_any (M : Int) _).mono ?_); rintro e w2 ⟨rfl, hg⟩; have GG := Lib.hid hg; obtain ⟨a0, a1, f0, f1⟩ := (HZ.out.new hg (by omega)).at_; clear hg))
    refine bodyPost_ret (v := .agg #[.int .i64 2, .int .i64 (M : Int)]) (by simp [results, Tryd.results22, go_sem, a0, a1]) rfl ⟨rfl, ?_⟩
    obtain ⟨a', c2, b, w1, k1, k2, k3, k4, k5, k6, k7⟩ := HA.out
    exact ⟨a', c2, b, w1, k1, k2, k3, k4, k5, (k6.made GG.out).trans (.one (gp.set2 _ _ _ _) (by simp)), k7⟩
theorem mem_own {A : Option Addr} {M nc k : Nat} (hk : k ∈ (Value.slice A M nc).ownBlock.toList) : (Value.slice A M nc).ownBlock = some k := by
  cases e : (Value.slice A M nc).ownBlock with
  | none => rw [e] at hk; cases hk
  | some x =>
    rw [e] at hk
    obtain rfl : k = x := by simpa using hk
    rfl
theorem PwI.nadd (h : PwI w K g σ R tc A nc vs bs) (hM : σ.M < 1000) {l : Nat} (hl : l ≤ 127) {wc : World} (hA : AdC w g A σ.M nc l ((List.range σ.M).map vs) wc) :
    (∃ K' A' nc' vs' bs', PwI wc K' g { σ with M := σ.M + 1, nd := upd σ.nd σ.M (List.replicate l (0, 0)) } R tc A' nc' vs' bs' ∧ ∀ k, k ∈ K' → k ∈ K ∨ w.heap.size ≤ k) ∧ gr.Gr K w wc := by
  obtain ⟨a', c', b, w1, own1, hb, lb, la, G1, G2, cs7, b1'⟩ := hA
  obtain ⟨cs, b1, b2, b3, b4⟩ := h.box
  obtain ⟨cr, r1, r2⟩ := h.row
  have no : ∀ {q : Nat} {cs : Array Value} {e : TypeId} {fz : Nat × Nat}, w.heap[q]? = some (.cells cs e fz) → e ≠ 53 → q ∉ (Value.slice A σ.M nc).ownBlock.toList := fun hq he hm => by
    obtain ⟨c1, h1⟩ := own_ty h.own _ (mem_own hm)
    exact ty_ne' hq h1 he rfl
  have b1w := G1.heap b1 (no b1 (by decide))
  have e3 := heap_setCell_same w1 g 2 _ _ (.slice (some ⟨a', 0, none⟩) (σ.M + 1) c') b1w
  have GS : gr.Gr [g] w1 (w1.setCell ⟨g, 2, none⟩ (.slice (some ⟨a', 0, none⟩) (σ.M + 1) c')) := .one (gr.grown_set _ _ _ _) (by simp)
  have ng : ∀ {q : Nat} {cs : Array Value} {e : TypeId} {fz : Nat × Nat}, w1.heap[q]? = some (.cells cs e fz) → e ≠ 60 → q ∉ [g] := fun hq he hm => by
    rw [List.mem_singleton] at hm
    exact ty_ne' hq b1w he hm
  have kp : ∀ {q : Nat} {cs : Array Value} {e : TypeId} {fz : Nat × Nat}, w.heap[q]? = some (.cells cs e fz) → e ≠ 53 → e ≠ 60 → wc.heap[q]? = some (.cells cs e fz) := fun {q cs e fz} hq h1 h2 => by
    have ql := (Array.getElem?_eq_some_iff.1 hq).1
    exact G2.heap (GS.heap (G1.heap hq (no hq h1)) (ng (G1.heap hq (no hq h1)) h2)) (by simp; omega)
  have gl := h.lt g h.kg
  have bcg : wc.heap[g]? = some (.cells (cs.setIfInBounds 2 (.slice (some ⟨a', 0, none⟩) (σ.M + 1) c')) 60 (0, 0)) := G2.heap e3 (by simp; omega)
  have bb : wc.heap[b]? = some (.cells (vc (List.replicate l (0, 0))).toArray 57 (0, 0)) := G2.heap (GS.heap hb (ng hb (by decide))) (by simp; omega)
  have oA : ∀ q, (Value.slice A σ.M nc).ownBlock = some q → q < w.heap.size := fun q hq => h.lt q (h.kA q hq)
  have nW : a' ≠ w.heap.size := by
    rcases la with e | e
    · have := oA _ e; omega
    · omega
  have own3 : wc.ownsRow 0 53 1 (.slice (some ⟨a', 0, none⟩) (σ.M + 1) c') (σ.M + 1) (((List.range σ.M).map vs) ++ [.slice (some ⟨b, 0, none⟩) l l]) := by
    refine gr.own_gr (gr.own_gr own1 GS (fun q hq => by obtain ⟨c1, c2⟩ := own_ty own1 q hq; exact ng c2 (by decide))) G2 (fun q hq => ?_)
    injection hq with hq
    subst hq
    simp
    exact nW
  have vsu : (List.range (σ.M + 1)).map (upd vs σ.M (.slice (some ⟨b, 0, none⟩) l l)) = ((List.range σ.M).map vs) ++ [.slice (some ⟨b, 0, none⟩) l l] := by
    rw [List.range_succ, List.map_append, List.map_cons, List.map_nil, upd_same]
    congr 1
    apply List.map_congr_left
    intro i hi
    rw [upd_else _ _ (by have := List.mem_range.1 hi; omega)]
  have ll : (List.replicate l ((0, 0) : Va)).length = l := by simp
  have ok : Gs.Ok { σ with M := σ.M + 1, nd := upd σ.nd σ.M (List.replicate l (0, 0)) } := by
    have q := h.ok
    refine ⟨q.n, q.n0, q.q1, q.q2, Nat.succ_pos _, hM, q.hl, fun i => ?_, fun t v hv e => ?_, fun i v hi hv e => ?_, q.dead⟩
    · show (upd σ.nd σ.M (List.replicate l (0, 0)) i).length ≤ 127
      by_cases e : i = σ.M
      · subst e; rw [upd_same]; simpa using hl
      · rw [upd_else _ _ e]; exact q.nl i
    · have := q.hr t v hv e
      exact ⟨this.1, by show v.2 < ((σ.M + 1 : Nat) : Int); omega⟩
    · have hv' : v ∈ upd σ.nd σ.M (List.replicate l (0, 0)) i := hv
      have hi' : i < σ.M + 1 := hi
      by_cases ei : i = σ.M
      · subst ei
        rw [upd_same] at hv'
        have := List.eq_of_mem_replicate hv'
        subst this
        cases e
      · rw [upd_else _ _ ei] at hv'
        have := q.nr i v (by omega) hv' e
        exact ⟨this.1, by show v.2 < ((σ.M + 1 : Nat) : Int); omega⟩
  have GT : gr.Gr K w wc := by
    have g1 : gr.Gr K w (w1.setCell ⟨g, 2, none⟩ (.slice (some ⟨a', 0, none⟩) (σ.M + 1) c')) := (G1.mono (fun k hk => h.kA k (mem_own hk))).trans (GS.mono (fun k hk => by rw [List.mem_singleton] at hk; rw [hk]; exact h.kg))
    exact g1.own G2 (fun q hq => .inr (by simp at hq; omega))
  refine ⟨⟨a' :: b :: K, some ⟨a', 0, none⟩, c', upd vs σ.M (.slice (some ⟨b, 0, none⟩) l l), upd bs σ.M b, ⟨⟨_, bcg, by rw [Array.getElem?_setIfInBounds_ne (by omega)]; exact b2, by rw [Array.getElem?_setIfInBounds_ne (by omega)]; exact b3, by rw [Array.getElem?_setIfInBounds_self_of_lt (Array.getElem?_eq_some_iff.1 b4).1]⟩, ⟨cr, kp r1 (by decide) (by decide), r2⟩, h.tcN, ?_, fun i hi => ?_, fun i hi h0 => ?_, fun i j hi hj h0 h1 e => ?_, by simp [h.kg], by simp [h.kR], fun q hq => by injection hq with hq; subst hq; simp, fun k hk => ?_, ok⟩, fun k hk => ?_⟩, GT⟩
  · show wc.ownsRow 0 _ 1 _ _ ((List.range (σ.M + 1)).map (upd vs σ.M (.slice (some ⟨b, 0, none⟩) l l)))
    rw [vsu]
    exact own3
  · have hi' : i < σ.M + 1 := hi
    show ∃ B c, upd vs σ.M (.slice (some ⟨b, 0, none⟩) l l) i = .slice B (upd σ.nd σ.M (List.replicate l (0, 0)) i).length c ∧ (upd σ.nd σ.M (List.replicate l (0, 0)) i).length ≤ c ∧ c ≤ maxLen ∧ ∃ d, B = some ⟨d, 0, none⟩ ∧ (0 < (upd σ.nd σ.M (List.replicate l (0, 0)) i).length → d = upd bs σ.M b i)
    by_cases e : i = σ.M
    · subst e
      rw [upd_same, upd_same, upd_same, ll]
      exact ⟨_, l, rfl, Nat.le_refl _, by unfold maxLen; omega, b, rfl, fun _ => rfl⟩
    · rw [upd_else _ _ e, upd_else _ _ e, upd_else _ _ e]
      exact h.ent i (by omega)
  · have hi' : i < σ.M + 1 := hi
    have h0' : 0 < (upd σ.nd σ.M (List.replicate l (0, 0)) i).length := h0
    show upd bs σ.M b i ∈ _ ∧ ∃ cs : Array Value, wc.heap[upd bs σ.M b i]? = some (.cells cs 57 (0, 0)) ∧ ∀ f, f < (upd σ.nd σ.M (List.replicate l (0, 0)) i).length → cs[f * 2]? = some (.int .i64 ((upd σ.nd σ.M (List.replicate l (0, 0)) i).getD f (0, 0)).1) ∧ cs[f * 2 + 1]? = some (.int .i64 ((upd σ.nd σ.M (List.replicate l (0, 0)) i).getD f (0, 0)).2)
    by_cases e : i = σ.M
    · subst e
      rw [upd_same, upd_same]
      refine ⟨by simp, _, bb, fun f hf => ?_⟩
      obtain ⟨a1, a2⟩ := vc_at (List.replicate l (0, 0)) f hf
      refine ⟨?_, ?_⟩
      · rw [← Array.getElem?_toList, Nat.mul_comm]; exact a1
      · rw [← Array.getElem?_toList, Nat.mul_comm f 2]; exact a2
    · rw [upd_else _ _ e] at h0' ⊢
      rw [upd_else _ _ e]
      obtain ⟨n1, cn, n2, n3⟩ := h.node i (by omega) h0'
      exact ⟨by simp [n1], cn, kp n2 (by decide) (by decide), n3⟩
  · have hi' : i < σ.M + 1 := hi
    have hj' : j < σ.M + 1 := hj
    have h0' : 0 < (upd σ.nd σ.M (List.replicate l (0, 0)) i).length := h0
    have h1' : 0 < (upd σ.nd σ.M (List.replicate l (0, 0)) j).length := h1
    by_cases ei : i = σ.M
    · by_cases ej : j = σ.M
      · omega
      · subst ei
        rw [upd_else _ _ ej] at h1' e
        rw [upd_same] at e
        have := h.lt _ (h.node j (by omega) h1').1
        omega
    · by_cases ej : j = σ.M
      · subst ej
        rw [upd_else _ _ ei] at h0' e
        rw [upd_same] at e
        have := h.lt _ (h.node i (by omega) h0').1
        omega
      · rw [upd_else _ _ ei] at h0' e
        rw [upd_else _ _ ej] at h1' e
        exact h.apart i j (by omega) (by omega) h0' h1' e
  · rcases List.mem_cons.1 hk with rfl | hk
    · have := own_ty own3 k rfl
      obtain ⟨c1, c2⟩ := this
      exact (Array.getElem?_eq_some_iff.1 c2).1
    · rcases List.mem_cons.1 hk with rfl | hk
      · exact (Array.getElem?_eq_some_iff.1 bb).1
      · exact Nat.lt_of_lt_of_le (h.lt k hk) GT.size
  · rcases List.mem_cons.1 hk with rfl | hk
    · rcases la with e | e
      · exact .inl (h.kA _ e)
      · exact .inr (by omega)
    · rcases List.mem_cons.1 hk with rfl | hk
      · exact .inr (by omega)
      · exact .inl hk
def Pn (w : World) (K : List Nat) (g : Nat) (σ : Gs) (R tc : Nat) (w' : World) : Prop := ∃ K' A nc vs bs, PwI w' K' g σ R tc A nc vs bs ∧ gr.Gr K w w' ∧ ∀ k, k ∈ K' → k ∈ K ∨ w.heap.size ≤ k
theorem add_any (h : PwI w K g σ R tc A nc vs bs) (hM : σ.M < 1000) (l : Nat) (hl : l ≤ 127) : Calls Tryd.prog 22 #[.pointer (some ⟨g, 0, none⟩), .int .i64 (l : Int)] w
      fun e w' => e = .returned (.agg #[.int .i64 2, .int .i64 (σ.M : Int)]) ∧ Pn w K g { σ with M := σ.M + 1, nd := upd σ.nd σ.M (List.replicate l (0, 0)) } R tc w' := by
  obtain ⟨cs, b1, b2, b3, b4⟩ := h.box
  refine (add_raw b1 b4 (fun q hq => ⟨h.lt q (h.kA q hq), fun e => ?_⟩) h.own hM l hl).mono ?_
  · obtain ⟨c1, c2⟩ := own_ty h.own q hq
    exact ty_ne' c2 b1 (by decide) e
  · rintro e w' ⟨rfl, hA⟩
    obtain ⟨⟨K', A', nc', vs', bs', p1, p2⟩, p3⟩ := h.nadd hM hl hA
    exact ⟨rfl, K', A', nc', vs', bs', p1, p3, p2⟩
end
end Go.Proofs.YtfhebjkoojodiaaDoor.gq
