/- Texts that this claim stands on. -/
import Derived.Test.YtfhebjkoojodiaaDoorPGqU
import Derived.Test.YtfhebjkoojodiaaDoorPGqP
namespace Go.Proofs.YtfhebjkoojodiaaDoor.gq
open Go.ChangeShapes Go.WideShapes Go.ChangeAt Go.RowKit gen va cd gp
set_option linter.unusedVariables false
set_option linter.unusedSimpArgs false
set_option maxHeartbeats 2000000
set_option maxRecDepth 100000
theorem eql_nil_va : ∀ (w : World) (a : Option Addr) (n c : Nat), (binOp .eql 53 (.slice a n c) (.slice none 0 0)).run Tryd.prog w = .ok (.bool a.isNone) w := fun w a n c => Lib.run_eql_slice_nil w _ _ a n c 0 0 Tryd.underlying53
theorem sclone_va {w : World} {ad : Addr} {n c B : Nat} {l : List Va} (h : Rv w B (some ad) n c l) (hm : n ≤ 100000) : Calls Tryd.prog 33 #[.slice (some ad) n c] w
    fun e w' => ∃ x, e = .returned x ∧ Lw w' w.heap.size x l ∧ w.grownBy w' none := by
  have Q := eql_nil_va
  have H := Lib.hid h
  have O := Lib.hid (World.ownsRow_lit (base := w.heap.size) (e := 57) (size := 2) w #[] 0 (Nat.le_refl _) (by simp [maxLen]) rfl)
  have G := Lib.hid (World.grownBy_alloc w (.cells #[] 57) none)
  clear h
  go_enter Tryd.func33, Tryd.ntmps33
  go_wp2_with (refine append_vas rfl (.tmp 5) (.tmp 6) rfl w.heap.size _ [] rfl O.out (some ad) n c B l rfl (fun e => (by cases e)) (H.out.made G.out) (by simp; omega) (by simp) ?_; intro A3 N3 c3 w2 hn3 own1 gr1; have HN3 := Lib.hid hn3; have OWN1 := Lib.hid own1; have GR1 := Lib.hid (li.grown_new G.out gr1 (Nat.le_refl _)); clear hn3 own1 gr1)
  go_ret
  have e := HN3.out
  have o := OWN1.out
  rw [List.nil_append] at e o
  subst e
  exact ⟨_, rfl, ⟨A3, c3, rfl, o⟩, GR1.out⟩
theorem nl_row {w : World} {base : Nat} {v : Value} {ns : List (Int × List Va)} (h : Nl w base v ns) : ∀ q, v.ownBlock = some q → ∃ cs, w.heap[q]? = some (.cells cs 55 (0, 0)) := fun q hq => by
  obtain ⟨xs, ho, _⟩ := h
  exact own_ty ho q hq
theorem own_mono {w : World} {base base' n s : Nat} {e : TypeId} {v : Value} {xs : List Value} (h : w.ownsRow base e s v n xs) (hb : base' ≤ base) : w.ownsRow base' e s v n xs := by
  refine ⟨h.1, ?_⟩
  rcases h.2 with hn | ⟨g, cap, cur, hv, hbg, rest⟩
  · exact .inl hn
  · exact .inr ⟨g, cap, cur, hv, Nat.le_trans hb hbg, rest⟩
theorem Rl.mono {w : World} {base base' : Nat} {v : Value} {rs : List (List Va)} (h : Rl w base v rs) (hb : base' ≤ base) : Rl w base' v rs := by
  obtain ⟨xs, ho, hx⟩ := h
  refine ⟨xs, own_mono ho hb, fun i hi => ?_⟩
  obtain ⟨x, h1, B, c, rfl, h2⟩ := hx i hi
  exact ⟨_, h1, B, c, rfl, h2.mono hb⟩
theorem Nl.mono {w : World} {base base' : Nat} {v : Value} {ns : List (Int × List Va)} (h : Nl w base v ns) (hb : base' ≤ base) : Nl w base' v ns := by
  obtain ⟨xs, ho, hx⟩ := h
  refine ⟨xs, own_mono ho hb, fun i hi => ?_⟩
  obtain ⟨h0, x, h1, B, c, rfl, h2⟩ := hx i hi
  exact ⟨h0, _, h1, B, c, rfl, h2.mono hb⟩
def nds (σ : Gs) (m : Nat → Bool) (k : Nat) : List (Int × List Va) := ((List.range k).filter m).map (fun (i : Nat) => ((i : Int), σ.nd i))
theorem nds_yes {σ : Gs} {m : Nat → Bool} {k : Nat} (h : m k = true) : nds σ m (k + 1) = nds σ m k ++ [((k : Int), σ.nd k)] := by simp [nds, List.range_succ, h]
theorem nds_no {σ : Gs} {m : Nat → Bool} {k : Nat} (h : m k = false) : nds σ m (k + 1) = nds σ m k := by simp [nds, List.range_succ, h]
theorem nds_length (σ : Gs) (m : Nat → Bool) (k : Nat) : (nds σ m k).length ≤ k := by
  have := List.length_filter_le m (List.range k)
  simpa [nds] using this
open Classical in
noncomputable def vns (σ : Gs) : List (Int × List Va) := nds σ (fun i => decide (Rch σ i)) σ.M
open Classical in
theorem nds_vns {σ : Gs} {m : Nat → Bool} (h : ∀ n, n < σ.M → (m n = true ↔ Rch σ n)) : nds σ m σ.M = vns σ := by
  unfold vns nds
  congr 1
  apply List.filter_congr
  intro i hi
  have := h i (List.mem_range.1 hi)
  cases e : m i with
  | true => exact (decide_eq_true (this.1 e)).symm
  | false =>
    symm
    apply decide_eq_false
    intro hr
    rw [this.2 hr] at e
    cases e
section
variable {w : World} {K : List Nat} {g : Nat} {σ : Gs} {R tc : Nat} {A : Option Addr} {nc : Nat} {vs : Nat → Value} {bs : Nat → Nat}
theorem nodes_any (h : PwI w K g σ R tc A nc vs bs) : Calls Tryd.prog 30 #[.pointer (some ⟨g, 0, none⟩)] w
    fun e w' => ∃ v, e = .returned v ∧ Nl w' w.heap.size v (vns σ) ∧ w.grownBy w' none := by
  have H := Lib.hid h
  have hM := h.ok.m
  have OK := Lib.hid h.ok
  have RE := Lib.hid (preached_any h)
  clear h
  go_enter Tryd.func30, Tryd.ntmps30
  go_wp2_with (first
    | (go_at_call 48; (with_reducible refine RE.out.mono ?_); rintro e w1 ⟨m, rfl, hb, hm, hg⟩; have B1 := Lib.hid hb; have M1 := Lib.hid hm; have G1 := Lib.hid hg; clear hb hm hg))
  go_loopw [3, 9] (fun v x wr => ∃ k : Nat, k ≤ σ.M ∧ x = .int .i64 (k : Int) ∧ Nl wr w.heap.size v (nds σ m k) ∧ Bb wr w.heap.size σ.M m ∧ w.grownBy wr none) (fun _ x _ => σ.M - (intOf x).toNat)
  case atStart => exact ⟨0, Nat.zero_le _, rfl, Nl.nil _ _, B1.out, G1.out⟩
  case round =>
    obtain ⟨k, hk, rfl, hr, hb, hg⟩ := hrel
    have NX := Lib.hid hr
    have BX := Lib.hid hb
    have GW := Lib.hid hg
    by_cases hlt : k < σ.M
    · have b0 := hb.at_ hlt
      have hq := H.out.new GW.out
      have x2 := hq.c2
      obtain ⟨a, bq, cq, rfl, y1, y2, y3, y4⟩ := hq.nv hlt
      have RV := Lib.hid (fun W (hg : w.grownBy W none) => (H.out.new hg).rv hlt y2 y3 y4)
      have nl := OK.out.nl k
      have l1 : (0 : Int) ≤ (k : Int) := by omega
      have l2 : (k : Int) < (σ.M : Int) := by omega
      obtain ⟨A0, c0, rfl⟩ := hr.size
      cases hmk : m k with
      | false =>
        rw [hmk] at b0
        clear hr hb hg hq
        go_wp2
        exact ⟨⟨k + 1, by omega, by go_num, by rw [nds_no hmk]; exact NX.out, BX.out, GW.out⟩, by simp [intOf]; omega⟩
      | true =>
        rw [hmk] at b0
        have NS := Lib.hid (nds_yes (σ := σ) hmk)
        have NLn := Lib.hid (nds_length σ m k)
        clear hr hb hg hq hmk
        go_wp2_with (first
          | (go_at_call 33; (with_reducible refine (sclone_va (RV.out _ GW.out) (by omega)).mono ?_); rintro e w2 ⟨x, rfl, hx, hg2⟩; obtain ⟨Bx, cx, rfl, hx⟩ := hx; have G2 := Lib.hid hg2; have LX := Lib.hid hx; clear hx hg2)
          | (refine append_nl rfl (.tmp 15) (.tmp 26) rfl w.heap.size _ (nds σ m k) rfl ((NX.out.new G2.out).new (grown_alloc w2 (.cells #[.int .i64 (k : Int), .slice Bx (σ.nd k).length cx] 55))) w2.heap.size (k : Int) (.slice Bx (σ.nd k).length cx) (σ.nd k) rfl (by simp [go_sem]) (by simp [go_sem]) ⟨_, _, rfl, (LX.out.mono GW.out.size).new (grown_alloc _ _)⟩ (by have := NLn.out; omega) (by have := GW.out.size; have := G2.out.size; simp; omega) ?_; intro v3 w3 h3 g3 f3; have N3 := Lib.hid h3; have B2 := Lib.hid (((BX.out.kept G2.out (by simp)).kept (grown_alloc w2 (.cells #[.int .i64 (k : Int), .slice Bx (σ.nd k).length cx] 55)) (by simp))); have f4 := nl_row (NX.out.new (G2.out.trans (grown_alloc w2 (.cells #[.int .i64 (k : Int), .slice Bx (σ.nd k).length cx] 55)))); have B3 := Lib.hid (B2.out.kept g3 (fun e => by obtain ⟨c1, c2⟩ := f4 _ e; exact ty_ne' c2 B2.out (by decide) rfl)); have G3 := Lib.hid ((GW.out.trans (G2.out.trans (grown_alloc _ _))).andThen g3 (fun j hj => .inl (f3 j hj))); clear h3 g3 f3 f4))
        exact ⟨⟨k + 1, by omega, by go_num, by rw [NS.out]; exact N3.out, B3.out, G3.out⟩, by simp [intOf]; omega⟩
    · have ek : k = σ.M := by omega
      subst ek
      obtain ⟨A0, c0, rfl⟩ := hr.size
      clear hr hb hg
      go_wp2
      go_ret
      exact ⟨_, rfl, by rw [← nds_vns M1.out]; exact NX.out, GW.out⟩
theorem zeroV (w : World) : (w.alloc (.cells #[.slice none 0 0, .slice none 0 0] 45)).cell? ⟨w.heap.size, 0, none⟩ = some (.slice none 0 0) ∧ (w.alloc (.cells #[.slice none 0 0, .slice none 0 0] 45)).cell? ⟨w.heap.size, 1, none⟩ = some (.slice none 0 0) := ⟨by simp [go_sem], by simp [go_sem]⟩
theorem View_any (h : PwI w K g σ R tc A nc vs bs) : Calls Tryd.prog 15 #[.pointer (some ⟨g, 0, none⟩)] w
    fun e w' => ∃ A1 c1 A2 c2, e = .returned (.agg #[.slice A1 σ.N c1, .slice A2 (vns σ).length c2]) ∧ Rl w' w.heap.size (.slice A1 σ.N c1) (rts σ σ.N) ∧ Nl w' w.heap.size (.slice A2 (vns σ).length c2) (vns σ) ∧ w.grownBy w' none := by
  have G0 := Lib.hid (grown_alloc w (.cells #[.slice none 0 0, .slice none 0 0] 45))
  have ZV := Lib.hid (zeroV w)
  have FV := Lib.hid (fun j => (show (w.alloc (.cells #[.slice none 0 0, .slice none 0 0] 45)).frozen? ⟨w.heap.size, j, none⟩ = false from by simp [go_sem]))
  have MA := Lib.hid (fun W (hg : w.grownBy W none) => made_yes (h.new hg))
  have RO := Lib.hid (fun W (hg : w.grownBy W none) => roots_any (h.new hg))
  have NO := Lib.hid (fun W (hg : w.grownBy W none) => nodes_any (h.new hg))
  clear h
  go_enter Tryd.func15, Tryd.ntmps15
  go_wp2_with (first
    | (go_at_call 28; (with_reducible refine (MA.out _ G0.out).mono ?_); rintro e w1 ⟨rfl, hw⟩; subst hw)
    | (go_at_call 29; (with_reducible refine (RO.out _ G0.out).mono ?_); rintro e w1 ⟨v1, rfl, h1, hg⟩; obtain ⟨A1, c1, rfl⟩ := h1.size; have R1 := Lib.hid h1; have N1 := Lib.hid hg; have G1 := Lib.hid (G0.out.trans hg); clear h1 hg)
    | (go_at_call 30; (with_reducible refine (NO.out _ G1.out).mono ?_); rintro e w2 ⟨v2, rfl, h2, hg⟩; obtain ⟨A2, c2, rfl⟩ := h2.size; have R2 := Lib.hid h2; have N2 := Lib.hid (N1.out.trans hg); have G2 := Lib.hid (G1.out.trans hg); have R3 := Lib.hid (R1.out.new hg); have a0 := N2.out.cell ZV.out.1 (by simp); have a1 := N2.out.cell ZV.out.2 (by simp); have f0 := gr.Gr.frozen (L := []) (.new N2.out) (FV.out 0) (by simp) (by simp); have f1 := gr.Gr.frozen (L := []) (.new N2.out) (FV.out 1) (by simp) (by simp); have S2 := Lib.hid (And.intro N1.out.size G1.out.size); clear h2 hg))
  refine bodyPost_ret (v := .agg #[.slice A1 (rts σ σ.N).length c1, .slice A2 (vns σ).length c2]) (by simp [results, Tryd.results15, go_sem, a0, a1]) rfl ?_
  have GS : w2.grownBy ((w2.setCell ⟨w.heap.size, 0, none⟩ (.slice A1 (rts σ σ.N).length c1)).setCell ⟨w.heap.size, 1, none⟩ (.slice A2 (vns σ).length c2)) (some w.heap.size) := (gr.grown_set _ _ _ _).trans (gr.grown_set _ _ _ _)
  refine ⟨A1, c1, A2, c2, by rw [rts_length], ?_, ?_, li.grown_new G2.out GS (Nat.le_refl _)⟩
  · have q := (R3.out.kept GS (fun q e => by injection e with e; subst e; simp)).mono G0.out.size
    rw [rts_length] at q ⊢
    exact q
  · exact (R2.out.kept GS (fun q e => by injection e with e; subst e; have := S2.out; simp at this; omega)).mono (by have := S2.out; omega)
end
end Go.Proofs.YtfhebjkoojodiaaDoor.gq
namespace Go.Proofs.YtfhebjkoojodiaaDoor.gq
open Go.ChangeShapes Go.WideShapes Go.ChangeAt Go.RowKit gen va cd gp
set_option linter.unusedVariables false
set_option linter.unusedSimpArgs false
set_option maxHeartbeats 2000000
set_option maxRecDepth 100000
def Nz (w : World) (base : Nat) (v : Value) (L : List Int) : Prop := ∃ A n c, v = .slice A n c ∧ n = L.length ∧ w.ownsRow base 3 1 (.slice A n c) n (L.map (Value.int .i64)) ∧ Rd w w.heap.size A n c L
theorem Nz.kept {w w' : World} {base : Nat} {v : Value} {L : List Int} {row : Option Nat} (h : Nz w base v L) (hg : w.grownBy w' row) (hr : ∀ q, row = some q → q < base) : Nz w' base v L := by
  obtain ⟨A, n, c, rfl, hn, ho, _⟩ := h
  have ho' := World.ownsRow.kept ho hg (by
    cases e : (Value.slice A n c).ownBlock with
    | none => exact .inl rfl
    | some q =>
      refine .inr (fun e2 => ?_)
      have h1 := (gr.own_lt ho q e).1
      have h2 := hr q e2.symm
      omega)
  obtain ⟨A', c', e, hr'⟩ := Rd.of_own ho'
  injection e with e1 e2 e3
  subst e1 e3
  exact ⟨A, n, c, rfl, hn, ho', hr'⟩
theorem Nz.split {w : World} {base : Nat} {v : Value} {L : List Int} (h : Nz w base v L) : ∃ A n c, v = .slice A n c ∧ n = L.length ∧ Rd w w.heap.size A n c L := by
  obtain ⟨A, n, c, e, hn, _, hr⟩ := h
  exact ⟨A, n, c, e, hn, hr⟩
theorem append_nz {w : World} {ops : Array Oper} {rest : List Oper} {o : Oper} {a : Act} {Q : Exit → Act → World → Prop} (hgd : o.guard = none) (s x : Operand) (ho : o.op = .call { callee := .builtin .append, args := #[s, x], argTypes := #[61, 61] })
    (base : Nat) (v : Value) (L : List Int) (hs : a.eval s = v) (hN : Nz w base v L) (b : Nat) (z : Int) (hx : a.eval x = .slice (some ⟨b, 0, none⟩) 1 1) (hz : w.cell? ⟨b, 0, none⟩ = some (.int .i64 z)) (hm : L.length ≤ 1048575) (hbase : base ≤ w.heap.size)
    (h : ∀ A' n' c' w', Nz w' base (.slice A' n' c') (L ++ [z]) → w.grownBy w' v.ownBlock → (∀ q, v.ownBlock = some q → base ≤ q) → wpList Tryd.prog ops Q rest (a.put o.dst (.slice A' n' c')) w') : wpList Tryd.prog ops Q (o :: rest) a w := by
  obtain ⟨A, n, c, rfl, hn, hown, hrd⟩ := hN
  obtain ⟨i0, hi, hz0, hz1, hz2⟩ := info_parts li.info_int
  subst hn
  refine wpList_append_rd hgd s x 61 ho base 3 i0 (.int .i64 0) 8 Tryd.underlying61 hi hz0 hz1 hz2 rfl _ _ L hs hown (some ⟨b, 0, none⟩) 1 1 w.heap.size [z] hx ⟨rfl, fun e => (by cases e), fun ad e i hi => ?_⟩ (by unfold maxLen; omega) (by omega) hbase (fun A' c' w' k1 k2 k3 => ?_)
  · injection e with e
    subst e
    obtain rfl : i = 0 := by omega
    exact ⟨World.block_lt_of_cell? _ _ hz, by simpa [Addr.add] using hz⟩
  · exact h A' _ c' w' ⟨A', _, c', rfl, by simp, k1, k2⟩ k3 (fun q hq => (gr.own_lt hown q hq).1)
section
variable {w : World} {K : List Nat} {g : Nat} {σ : Gs} {R tc : Nat} {A : Option Addr} {nc : Nat} {vs : Nat → Value} {bs : Nat → Nat}
def lvs (σ : Gs) (t : Nat) : List Int := ((List.range t).filter σ.lv).map fun (i : Nat) => (i : Int)
theorem lvs_yes {t : Nat} (h : σ.lv t = true) : lvs σ (t + 1) = lvs σ t ++ [(t : Int)] := by simp [lvs, List.range_succ, h]
theorem lvs_no {t : Nat} (h : σ.lv t = false) : lvs σ (t + 1) = lvs σ t := by simp [lvs, List.range_succ, h]
theorem lvs_length (t : Nat) : (lvs σ t).length ≤ t := by
  have := List.length_filter_le σ.lv (List.range t)
  simpa [lvs] using this
theorem Live_any (h : PwI w K g σ R tc A nc vs bs) : Calls Tryd.prog 19 #[.pointer (some ⟨g, 0, none⟩)] w
    fun e w' => ∃ A n c, e = .returned (.slice A n c) ∧ n = (lvs σ σ.N).length ∧ Rd w' w'.heap.size A n c (lvs σ σ.N) ∧ w.grownBy w' none := by
  have H := Lib.hid h
  have MA := Lib.hid (made_yes h)
  have x1 := h.c1
  have hN := h.ok.n
  clear h
  go_enter Tryd.func19, Tryd.ntmps19
  go_wp2_with (first
    | (go_at_call 28; (with_reducible refine MA.out.mono ?_); rintro e w1 ⟨rfl, hw⟩; subst hw))
  go_loopw [3, 14] (fun v x wr => ∃ t : Nat, t ≤ σ.N ∧ x = .int .i64 (t : Int) ∧ Nz wr w.heap.size v (lvs σ t) ∧ w.grownBy wr none) (fun _ x _ => σ.N - (intOf x).toNat)
  case atStart =>
    refine ⟨0, Nat.zero_le _, rfl, ⟨none, 0, 0, rfl, rfl, World.ownsRow_nil _ _ _ _, ?_⟩, World.grownBy.refl _ _⟩
    obtain ⟨A', c', e, hr'⟩ := Rd.of_own (xs := []) (World.ownsRow_nil w 0 3 1)
    injection e with e1 e2 e3
    subst e1 e3
    exact hr'
  case round =>
    obtain ⟨t, ht, rfl, hr, hg⟩ := hrel
    have RX := Lib.hid hr
    have GX := Lib.hid hg
    by_cases hlt : t < σ.N
    · have TWX := Lib.hid ((H.out.new hg).tw hlt)
      have l1 : (0 : Int) ≤ (t : Int) := by omega
      have l2 : (t : Int) < (σ.N : Int) := by omega
      obtain ⟨A0, n0, c0, rfl, rfl, -⟩ := hr.split
      have LL := Lib.hid (lvs_length (σ := σ) t)
      have SX := Lib.hid hg.size
      cases hl : σ.lv t with
      | false =>
        have LV := Lib.hid (lvs_no hl)
        rw [hl] at TWX
        clear hr hg
        go_wp2_with (first
          | (refine wpList_get_th TWX.out rfl (.tmp 17) rfl rfl ?_; intro cs hcs; have CS := Lib.hid hcs; clear hcs)
          | (refine wpList_box_th CS.out rfl (.tmp 5) (.tmp 18) rfl wr.heap.size rfl rfl (heap_alloc_new _ _) (by kernel_rfl) ?_; intro X hX hgX; have y33 := hX.c33; rw [Nat.zero_add] at y33; have G4 := Lib.hid (li.grown_new (grown_alloc wr _) hgX (Nat.le_refl _)); clear hX hgX))
        exact ⟨⟨t + 1, by omega, by go_num, by rw [LV.out]; exact RX.out.kept G4.out (by simp), GX.out.trans G4.out⟩, by simp [intOf]; omega⟩
      | true =>
        have LV := Lib.hid (lvs_yes hl)
        rw [hl] at TWX
        clear hr hg
        go_wp2_with (first
          | (refine wpList_get_th TWX.out rfl (.tmp 17) rfl rfl ?_; intro cs hcs; have CS := Lib.hid hcs; clear hcs)
          | (refine wpList_box_th CS.out rfl (.tmp 5) (.tmp 18) rfl wr.heap.size rfl rfl (heap_alloc_new _ _) (by kernel_rfl) ?_; intro X hX hgX; have y33 := hX.c33; rw [Nat.zero_add] at y33; have G4 := Lib.hid (li.grown_new (grown_alloc wr _) hgX (Nat.le_refl _)); clear hX hgX)
          | (refine append_nz rfl (.tmp 21) (.tmp 23) rfl w.heap.size _ _ rfl ((RX.out.kept G4.out (by simp)).kept (grown_alloc X (.cells #[.int .i64 (t : Int)] 3)) (by simp)) X.heap.size (t : Int) rfl (by simp [go_sem]) (by have := LL.out; omega) (by have := SX.out; have := G4.out.size; simp; omega) ?_; intro A3 n3 c3 w3 hn3 hg3 hb3; have N3 := Lib.hid hn3; have G5 := Lib.hid ((GX.out.trans (G4.out.trans (grown_alloc _ _))).andThen hg3 (fun j hj => .inl (hb3 j hj))); clear hn3 hg3 hb3))
        exact ⟨⟨t + 1, by omega, by go_num, by rw [LV.out]; exact N3.out, G5.out⟩, by simp [intOf]; omega⟩
    · have et : t = σ.N := by omega
      subst et
      obtain ⟨A0, n0, c0, rfl, rfl, hrd⟩ := hr.split
      have RD := Lib.hid hrd
      clear hr hg hrd
      go_wp2
      go_ret
      exact ⟨_, _, _, rfl, rfl, RD.out, GX.out⟩
end
end Go.Proofs.YtfhebjkoojodiaaDoor.gq
