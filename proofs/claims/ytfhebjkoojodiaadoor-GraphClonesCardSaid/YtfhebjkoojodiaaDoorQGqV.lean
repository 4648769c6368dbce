/- Texts that this claim stands on. -/
import Derived.Test.YtfhebjkoojodiaaDoorQGqU
namespace Go.Proofs.YtfhebjkoojodiaaDoor.gq
open Go.ChangeShapes Go.WideShapes Go.ChangeAt Go.RowKit gen va cd gp
set_option linter.unusedVariables false
set_option linter.unusedSimpArgs false
set_option maxHeartbeats 2000000
set_option maxRecDepth 100000
theorem eql_nil_va : ∀ (w : World) (a : Option Addr) (n c : Nat), (binOp .eql 53 (.slice a n c) (.slice none 0 0)).run Tryd.prog w = .ok (.bool a.isNone) w := fun w a n c => Lib.run_eql_slice_nil w _ _ a n c 0 0 Tryd.underlying53
theorem sclone_va {w : World} {ad : Addr} {n c B : Nat} {l : List Va} (h : Rv w B (some ad) n c l) (hm : n ≤ 100000) : Calls Tryd.prog 33 #[.slice (some ad) n c] w
    fun e w' => ∃ x, e = .returned x ∧ Lw w' w.heap.size x l ∧ w.grownBy w' none := by
  have Q := eql_nil_va
  have H := Lib.hid h
  have O := Lib.hid (World.ownsRow_lit (base := w.heap.size) (e := 57) (size := 2) w #[] 0 (Nat.le_refl _) (by simp [maxLen]) rfl)
  have G := Lib.hid (World.grownBy_alloc w (.cells #[] 57) none)
  clear h
  go_enter Tryd.func33, Tryd.ntmps33
  go_wp2_with (refine append_vas rfl (.tmp 5) (.tmp 6) rfl w.heap.size _ [] rfl O.out (some ad) n c B l rfl (fun e => (by cases e)) (H.out.made G.out) (by simp; omega) (by simp) ?_; intro A3 N3 c3 w2 hn3 own1 gr1; have HN3 := Lib.hid hn3; have OWN1 := Lib.hid own1; have GR1 := Lib.hid (li.grown_new G.out gr1 (Nat.le_refl _)); clear hn3 own1 gr1)
  go_ret
  have e := HN3.out
  have o := OWN1.out
  rw [List.nil_append] at e o
  subst e
  exact ⟨_, rfl, ⟨A3, c3, rfl, o⟩, GR1.out⟩
theorem nl_row {w : World} {base : Nat} {v : Value} {ns : List (Int × List Va)} (h : Nl w base v ns) : ∀ q, v.ownBlock = some q → ∃ cs, w.heap[q]? = some (.cells cs 55 (0, 0)) := fun q hq => by
  obtain ⟨xs, ho, _⟩ := h
  exact own_ty ho q hq
theorem own_mono {w : World} {base base' n s : Nat} {e : TypeId} {v : Value} {xs : List Value} (h : w.ownsRow base e s v n xs) (hb : base' ≤ base) : w.ownsRow base' e s v n xs := by
  refine ⟨h.1, ?_⟩
  rcases h.2 with hn | ⟨g, cap, cur, hv, hbg, rest⟩
  · exact .inl hn
  · exact .inr ⟨g, cap, cur, hv, Nat.le_trans hb hbg, rest⟩
theorem Rl.mono {w : World} {base base' : Nat} {v : Value} {rs : List (List Va)} (h : Rl w base v rs) (hb : base' ≤ base) : Rl w base' v rs := by
  obtain ⟨xs, ho, hx⟩ := h
  refine ⟨xs, own_mono ho hb, fun i hi => ?_⟩
  obtain ⟨x, h1, B, c, rfl, h2⟩ := hx i hi
  exact ⟨_, h1, B, c, rfl, h2.mono hb⟩
theorem Nl.mono {w : World} {base base' : Nat} {v : Value} {ns : List (Int × List Va)} (h : Nl w base v ns) (hb : base' ≤ base) : Nl w base' v ns := by
  obtain ⟨xs, ho, hx⟩ := h
  refine ⟨xs, own_mono ho hb, fun i hi => ?_⟩
  obtain ⟨h0, x, h1, B, c, rfl, h2⟩ := hx i hi
  exact ⟨h0, _, h1, B, c, rfl, h2.mono hb⟩
def nds (σ : Gs) (m : Nat → Bool) (k : Nat) : List (Int × List Va) := ((List.range k).filter m).map (fun (i : Nat) => ((i : Int), σ.nd i))
theorem nds_yes {σ : Gs} {m : Nat → Bool} {k : Nat} (h : m k = true) : nds σ m (k + 1) = nds σ m k ++ [((k : Int), σ.nd k)] := by simp [nds, List.range_succ, h]
theorem nds_no {σ : Gs} {m : Nat → Bool} {k : Nat} (h : m k = false) : nds σ m (k + 1) = nds σ m k := by simp [nds, List.range_succ, h]
theorem nds_length (σ : Gs) (m : Nat → Bool) (k : Nat) : (nds σ m k).length ≤ k := by
  have := List.length_filter_le m (List.range k)
  simpa [nds] using this
open Classical in
noncomputable def vns (σ : Gs) : List (Int × List Va) := nds σ (fun i => decide (Rch σ i)) σ.M
open Classical in
theorem nds_vns {σ : Gs} {m : Nat → Bool} (h : ∀ n, n < σ.M → (m n = true ↔ Rch σ n)) : nds σ m σ.M = vns σ := by
  unfold vns nds
  congr 1
  apply List.filter_congr
  intro i hi
  have := h i (List.mem_range.1 hi)
  cases e : m i with
  | true => exact (decide_eq_true (this.1 e)).symm
  | false =>
    symm
    apply decide_eq_false
    intro hr
    rw [this.2 hr] at e
    cases e
section
variable {w : World} {K : List Nat} {g : Nat} {σ : Gs} {R tc : Nat} {A : Option Addr} {nc : Nat} {vs : Nat → Value} {bs : Nat → Nat}
theorem nodes_any (h : PwI w K g σ R tc A nc vs bs) : Calls Tryd.prog 30 #[.pointer (some ⟨g, 0, none⟩)] w
    fun e w' => ∃ v, e = .returned v ∧ Nl w' w.heap.size v (vns σ) ∧ w.grownBy w' none := by
  have H := Lib.hid h
  have hM := h.ok.m
  have OK := Lib.hid h.ok
  have RE := Lib.hid (preached_any h)
  clear h
  go_enter Tryd.func30, Tryd.ntmps30
  go_wp2_with (first
    | (go_at_call 48; (with_reducible refine RE.out.mono ?_); rintro e w1 ⟨m, rfl, hb, hm, hg⟩; have B1 := Lib.hid hb; have M1 := Lib.hid hm; have G1 := Lib.hid hg; clear hb hm hg))
  go_loopw [3, 9] (fun v x wr => ∃ k : Nat, k ≤ σ.M ∧ x = .int .i64 (k : Int) ∧ Nl wr w.heap.size v (nds σ m k) ∧ Bb wr w.heap.size σ.M m ∧ w.grownBy wr none) (fun _ x _ => σ.M - (intOf x).toNat)
  case atStart => exact ⟨0, Nat.zero_le _, rfl, Nl.nil _ _, B1.out, G1.out⟩
  case round =>
    obtain ⟨k, hk, rfl, hr, hb, hg⟩ := hrel
    have NX := Lib.hid hr
    have BX := Lib.hid hb
    have GW := Lib.hid hg
    by_cases hlt : k < σ.M
    · have b0 := hb.at_ hlt
      have hq := H.out.new GW.out
      have x2 := hq.c2
      obtain ⟨a, bq, cq, rfl, y1, y2, y3, y4⟩ := hq.nv hlt
      have RV := Lib.hid (fun W (hg : w.grownBy W none) => (H.out.new hg).rv hlt y2 y3 y4)
      have nl := OK.out.nl k
      have l1 : (0 : Int) ≤ (k : Int) := by omega
      have l2 : (k : Int) < (σ.M : Int) := by omega
      obtain ⟨A0, c0, rfl⟩ := hr.size
      cases hmk : m k with
      | false =>
        rw [hmk] at b0
        clear hr hb hg hq
        go_wp2
        exact ⟨⟨k + 1, by omega, by go_num, by rw [nds_no hmk]; exact NX.out, BX.out, GW.out⟩, by simp [intOf]; omega⟩
      | true =>
        rw [hmk] at b0
        have NS := Lib.hid (nds_yes (σ := σ) hmk)
        have NLn := Lib.hid (nds_length σ m k)
        clear hr hb hg hq hmk
        go_wp2_with (first
          | (go_at_call 33; (with_reducible refine (sclone_va (RV.out _ GW.out) (by omega)).mono ?_); rintro e w2 ⟨x, rfl, hx, hg2⟩; obtain ⟨Bx, cx, rfl, hx⟩ := hx; have G2 := Lib.hid hg2; have LX := Lib.hid hx; clear hx hg2)
          | (refine append_nl rfl (.tmp 15) (.tmp 26) rfl w.heap.size _ (nds σ m k) rfl ((NX.out.new G2.out).new (grown_alloc w2 (.cells #[.int .i64 (k : Int), .slice Bx (σ.nd k).length cx] 55))) w2.heap.size (k : Int) (.slice Bx (σ.nd k).length cx) (σ.nd k) rfl (by simp [go_sem]) (by simp [go_sem]) ⟨_, _, rfl, (LX.out.mono GW.out.size).new (grown_alloc _ _)⟩ (by have := NLn.out; omega) (by have := GW.out.size; have := G2.out.size; simp; omega) ?_; intro v3 w3 h3 g3 f3; have N3 := Lib.hid h3; have B2 := Lib.hid (((BX.out.kept G2.out (by simp)).kept (grown_alloc w2 (.cells #[.int .i64 (k : Int), .slice Bx (σ.nd k).length cx] 55)) (by simp))); have f4 := nl_row (NX.out.new (G2.out.trans (grown_alloc w2 (.cells #[.int .i64 (k : Int), .slice Bx (σ.nd k).length cx] 55)))); have B3 := Lib.hid (B2.out.kept g3 (fun e => by obtain ⟨c1, c2⟩ := f4 _ e; exact ty_ne' c2 B2.out (by decide) rfl)); have G3 := Lib.hid ((GW.out.trans (G2.out.trans (grown_alloc _ _))).andThen g3 (fun j hj => .inl (f3 j hj))); clear h3 g3 f3 f4))
        exact ⟨⟨k + 1, by omega, by go_num, by rw [NS.out]; exact N3.out, B3.out, G3.out⟩, by simp [intOf]; omega⟩
    · have ek : k = σ.M := by omega
      subst ek
      obtain ⟨A0, c0, rfl⟩ := hr.size
      clear hr hb hg
      go_wp2
      go_ret
      exact ⟨_, rfl, by rw [← nds_vns M1.out]; exact NX.out, GW.out⟩
theorem zeroV (w : World) : (w.alloc (.cells #[.slice none 0 0, .slice none 0 0] 45)).cell? ⟨w.heap.size, 0, none⟩ = some (.slice none 0 0) ∧ (w.alloc (.cells #[.slice none 0 0, .slice none 0 0] 45)).cell? ⟨w.heap.size, 1, none⟩ = some (.slice none 0 0) := ⟨by simp [go_sem], by simp [go_sem]⟩
theorem View_any (h : PwI w K g σ R tc A nc vs bs) : Calls Tryd.prog 15 #[.pointer (some ⟨g, 0, none⟩)] w
    fun e w' => ∃ A1 c1 A2 c2, e = .returned (.agg #[.slice A1 σ.N c1, .slice A2 (vns σ).length c2]) ∧ Rl w' w.heap.size (.slice A1 σ.N c1) (rts σ σ.N) ∧ Nl w' w.heap.size (.slice A2 (vns σ).length c2) (vns σ) ∧ w.grownBy w' none := by
  have G0 := Lib.hid (grown_alloc w (.cells #[.slice none 0 0, .slice none 0 0] 45))
  have ZV := Lib.hid (zeroV w)
  have FV := Lib.hid (fun j => (show (w.alloc (.cells #[.slice none 0 0, .slice none 0 0] 45)).frozen? ⟨w.heap.size, j, none⟩ = false from by simp [go_sem]))
  have MA := Lib.hid (fun W (hg : w.grownBy W none) => made_yes (h.new hg))
  have RO := Lib.hid (fun W (hg : w.grownBy W none) => roots_any (h.new hg))
  have NO := Lib.hid (fun W (hg : w.grownBy W none) => nodes_any (h.new hg))
  clear h
  go_enter Tryd.func15, Tryd.ntmps15
  go_wp2_with (first
    | (go_at_call 28; (with_reducible refine (MA.out _ G0.out).mono ?_); rintro e w1 ⟨rfl, hw⟩; subst hw)
    | (go_at_call 29; (with_reducible refine (RO.out _ G0.out).mono ?_); rintro e w1 ⟨v1, rfl, h1, hg⟩; obtain ⟨A1, c1, rfl⟩ := h1.size; have R1 := Lib.hid h1; have N1 := Lib.hid hg; have G1 := Lib.hid (G0.out.trans hg); clear h1 hg)
    | (go_at_call 30; (with_reducible refine (NO.out _ G1.out).mono ?_); rintro e w2 ⟨v2, rfl, h2, hg⟩; obtain ⟨A2, c2, rfl⟩ := h2.size; have R2 := Lib.hid h2; have N2 := Lib.hid (N1.out.trans hg); have G2 := Lib.hid (G1.out.trans hg); have R3 := Lib.hid (R1.out.new hg); have a0 := N2.out.cell ZV.out.1 (by simp); have a1 := N2.out.cell ZV.out.2 (by simp); have f0 := gr.Gr.frozen (L := []) (.new N2.out) (FV.out 0) (by simp) (by simp); have f1 := gr.Gr.frozen (L := []) (.new N2.out) (FV.out 1) (by simp) (by simp); have S2 := Lib.hid (And.intro N1.out.size G1.out.size); clear h2 hg))
  refine bodyPost_ret (v := .agg #[.slice A1 (rts σ σ.N).length c1, .slice A2 (vns σ).length c2]) (by simp [results, Tryd.results15, go_sem, a0, a1]) rfl ?_
  have GS : w2.grownBy ((w2.setCell ⟨w.heap.size, 0, none⟩ (.slice A1 (rts σ σ.N).length c1)).setCell ⟨w.heap.size, 1, none⟩ (.slice A2 (vns σ).length c2)) (some w.heap.size) := (gr.grown_set _ _ _ _).trans (gr.grown_set _ _ _ _)
  refine ⟨A1, c1, A2, c2, by rw [rts_length], ?_, ?_, li.grown_new G2.out GS (Nat.le_refl _)⟩
  · have q := (R3.out.kept GS (fun q e => by injection e with e; subst e; simp)).mono G0.out.size
    rw [rts_length] at q ⊢
    exact q
  · exact (R2.out.kept GS (fun q e => by injection e with e; subst e; have := S2.out; simp at this; omega)).mono (by have := S2.out; omega)
end
end Go.Proofs.YtfhebjkoojodiaaDoor.gq
