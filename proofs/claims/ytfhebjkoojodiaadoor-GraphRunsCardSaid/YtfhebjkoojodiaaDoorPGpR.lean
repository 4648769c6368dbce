/- Texts that this claim stands on. -/
import Derived.Test.YtfhebjkoojodiaaDoorPGpQ
namespace Go.Proofs.YtfhebjkoojodiaaDoor.gp
open Go.ChangeShapes Go.WideShapes Go.ChangeAt Go.RowKit gen va cd
set_option linter.unusedVariables false
set_option maxHeartbeats 2000000
set_option maxRecDepth 100000
theorem info_b1 : (Tryd.prog.info? 4).map (fun i => (i.zero, i.size, i.bytes)) = some (some (.bool false), 1, 1) := by kernel_rfl
theorem info_i64 : (Tryd.prog.info? 2).map (fun i => (i.zero, i.size, i.bytes)) = some (some (.int .i64 0), 1, 8) := by kernel_rfl
def bm (M : Nat) (m : Nat → Bool) : List Value := (List.range M).map fun n => .bool (m n)
def Bb (w : World) (b M : Nat) (m : Nat → Bool) : Prop := w.heap[b]? = some (.cells (bm M m).toArray 4 (0, 0))
theorem Bb.at_ {w : World} {b M n : Nat} {m : Nat → Bool} (h : Bb w b M m) (hn : n < M) : w.cell? ⟨b, n, none⟩ = some (.bool (m n)) := by
  rw [cell_of_row w b n _ _ _ h]
  simp [bm, hn]
theorem Bb.free {w : World} {b M : Nat} {m : Nat → Bool} (h : Bb w b M m) (n : Nat) : w.frozen? ⟨b, n, none⟩ = false := frozen_of_row w b n _ _ h
theorem Bb.set {w : World} {b M n : Nat} {m : Nat → Bool} (h : Bb w b M m) (hn : n < M) : Bb (w.setCell ⟨b, n, none⟩ (.bool true)) b M (upd m n true) := by
  have e := heap_setCell_same w b n _ _ (.bool true) h
  unfold Bb
  rw [e]
  congr 2
  apply Array.ext'
  apply List.ext_getElem?
  intro i
  simp only [bm, List.setIfInBounds_toArray, List.getElem?_set, List.getElem?_map]
  by_cases ei : n = i
  · subst ei
    simp [hn, upd_same]
  · rw [if_neg ei]
    by_cases hi : i < M
    · simp [hi, upd_else m true (Ne.symm ei)]
    · simp [hi]
theorem Bb.kept {w w' : World} {b M : Nat} {m : Nat → Bool} {row : Option Nat} (h : Bb w b M m) (hg : w.grownBy w' row) (hr : row ≠ some b) : Bb w' b M m := (hg.block b (Array.getElem?_eq_some_iff.1 h).1 (fun e => hr e.symm)).trans h
theorem make_bs (n : Nat) (hn : n ≤ 100000) (w : World) :
    (Instr.makeSlice 77 (.int .i64 (n : Int)) (.int .i64 (n : Int))).run Tryd.prog w = .ok (.slice (some ⟨w.heap.size, 0, none⟩) n n) (w.alloc (.cells (bm n (fun _ => false)).toArray 4)) := by
  obtain ⟨i0, hi, hz0, hz1, hz2⟩ := info_parts info_b1
  have h := run_make (P := Tryd.prog) w 77 4 i0 _ Tryd.underlying77 hi hz0 .i64 .i64 n n (by omega) (Int.le_refl _) (by rw [hz2]; omega) (by omega)
  rw [h]
  simp only [Int.toNat_natCast, hz1, Nat.mul_one]
  have e : madeCells (Value.bool false).cells n = (bm n (fun _ => false)).toArray := by
    apply Array.ext'
    rw [show (Value.bool false).cells = #[.bool false] from rfl, toList_madeCells_one]
    apply List.ext_getElem?
    intro i
    by_cases hi : i < n
    · simp [bm, hi]
    · simp [bm, hi]
  rw [e]
def Nx (w : World) (base : Nat) (v : Value) (L : List Int) : Prop := ∃ A n c, v = .slice A n c ∧ n = L.length ∧ w.ownsRow base 2 1 (.slice A n c) n (L.map (Value.int .i64)) ∧ Rd w w.heap.size A n c L
theorem Nx.kept {w w' : World} {base : Nat} {v : Value} {L : List Int} {row : Option Nat} (h : Nx w base v L) (hg : w.grownBy w' row) (hr : ∀ q, row = some q → q < base) : Nx w' base v L := by
  obtain ⟨A, n, c, rfl, hn, ho, _⟩ := h
  have ho' := World.ownsRow.kept ho hg (by
    cases e : (Value.slice A n c).ownBlock with
    | none => exact .inl rfl
    | some q =>
      refine .inr (fun e2 => ?_)
      have h1 := (gr.own_lt ho q e).1
      have h2 := hr q e2.symm
      omega)
  obtain ⟨A', c', e, hr'⟩ := Rd.of_own ho'
  injection e with e1 e2 e3
  subst e1 e3
  exact ⟨A, n, c, rfl, hn, ho', hr'⟩
theorem Nx.split {w : World} {base : Nat} {v : Value} {L : List Int} (h : Nx w base v L) : ∃ A n c, v = .slice A n c ∧ n = L.length ∧ Rd w w.heap.size A n c L := by
  obtain ⟨A, n, c, e, hn, _, hr⟩ := h
  exact ⟨A, n, c, e, hn, hr⟩
theorem append_nx {w : World} {ops : Array Oper} {rest : List Oper} {o : Oper} {a : Act} {Q : Exit → Act → World → Prop} (hgd : o.guard = none) (s x : Operand) (ho : o.op = .call { callee := .builtin .append, args := #[s, x], argTypes := #[98, 98] })
    (base : Nat) (v : Value) (L : List Int) (hs : a.eval s = v) (hN : Nx w base v L) (b : Nat) (z : Int) (hx : a.eval x = .slice (some ⟨b, 0, none⟩) 1 1) (hz : w.cell? ⟨b, 0, none⟩ = some (.int .i64 z)) (hm : L.length ≤ 1048575) (hbase : base ≤ w.heap.size)
    (h : ∀ A' n' c' w', Nx w' base (.slice A' n' c') (L ++ [z]) → w.grownBy w' v.ownBlock → (∀ q, v.ownBlock = some q → base ≤ q) → wpList Tryd.prog ops Q rest (a.put o.dst (.slice A' n' c')) w') : wpList Tryd.prog ops Q (o :: rest) a w := by
  obtain ⟨A, n, c, rfl, hn, hown, hrd⟩ := hN
  obtain ⟨i0, hi, hz0, hz1, hz2⟩ := info_parts info_i64
  subst hn
  refine wpList_append_rd hgd s x 98 ho base 2 i0 (.int .i64 0) 8 Tryd.underlying98 hi hz0 hz1 hz2 rfl _ _ L hs hown (some ⟨b, 0, none⟩) 1 1 w.heap.size [z] hx ⟨rfl, fun e => (by cases e), fun ad e i hi => ?_⟩ (by unfold maxLen; omega) (by omega) hbase (fun A' c' w' k1 k2 k3 => ?_)
  · injection e with e
    subst e
    obtain rfl : i = 0 := by omega
    exact ⟨World.block_lt_of_cell? _ _ hz, by simpa [Addr.add] using hz⟩
  · exact h A' _ c' w' ⟨A', _, c', rfl, by simp, k1, k2⟩ k3 (fun q hq => (gr.own_lt hown q hq).1)
section
variable {w : World} {K : List Nat} {g : Nat} {cf : Nat → Int} {σ : Gs}
theorem reached_any (h : Gw w K g cf σ) : Calls Tryd.prog 31 #[.pointer (some ⟨g, 0, none⟩)] w
    fun e w' => ∃ m, e = .returned (.slice (some ⟨w.heap.size, 0, none⟩) σ.M σ.M) ∧ Bb w' w.heap.size σ.M m ∧ (∀ n, n < σ.M → (m n = true ↔ Rch σ n)) ∧ w.grownBy w' none := by
  obtain ⟨R, A, nc, vs, bs, h⟩ := h
  have ok := h.ok
  have mk := make_bs σ.M (by have := ok.m; omega)
  have H := Lib.hid h
  have OK := Lib.hid ok
  have x11 := h.c11
  have hM := ok.m
  have hN := ok.n
  have gl := h.lt g h.kg
  obtain ⟨i0, hi, hz0, hz1, hz2⟩ := info_parts info_i64
  obtain ⟨cb, hcb⟩ : ∃ cb, (bm σ.M (fun _ => false)).toArray = cb := ⟨_, rfl⟩
  rw [hcb] at mk
  obtain ⟨w1, hw1⟩ : ∃ w1, w1 = (w.alloc (.cells cb 4)).alloc (.cells #[.int .i64 0] 2) := ⟨_, rfl⟩
  have G1 := Lib.hid (show w.grownBy w1 none by rw [hw1]; exact (grown_alloc _ _).trans (grown_alloc _ _))
  have B1 := Lib.hid (show Bb w1 w.heap.size σ.M (fun _ => false) by rw [hw1]; unfold Bb; rw [hcb]; exact heap_two w _ _)
  have N1 := Lib.hid (show Nx w1 (w.heap.size + 1) (.slice (some ⟨w.heap.size + 1, 0, none⟩) 1 1) [0] by
    rw [hw1]
    have o := World.ownsRow_lit (base := w.heap.size + 1) (e := 2) (size := 1) (w.alloc (.cells cb 4)) #[.int .i64 0] 1 (by simp) (by simp [maxLen]) rfl
    simp at o
    refine ⟨_, _, _, rfl, rfl, o, ?_⟩
    obtain ⟨A', c', e, hr'⟩ := Rd.of_own (xs := [0]) o
    injection e with e1 e2 e3
    subst e1 e3
    exact hr')
  have HW := Lib.hid hw1
  clear h hcb hw1
  go_enter Tryd.func31, Tryd.ntmps31
  go_wp2
  go_loopw [4, 5] (fun v x wr => ∃ t : Nat, t ≤ σ.N ∧ x = .int .i64 (t : Int) ∧ Nx wr (w.heap.size + 1) v (0 :: flat σ t) ∧ Bb wr w.heap.size σ.M (fun _ => false) ∧ w.grownBy wr none) (fun _ x _ => σ.N - (intOf x).toNat)
  case atStart => exact ⟨0, Nat.zero_le _, rfl, by rw [HW.out.symm]; simpa [flat] using N1.out, by rw [HW.out.symm]; exact B1.out, by rw [HW.out.symm]; exact G1.out⟩
  case round =>
    obtain ⟨t, ht, rfl, hn, hb, hg⟩ := hrel
    have NX := Lib.hid hn
    have BX := Lib.hid hb
    have GX := Lib.hid hg
    have hr := H.out.new hg
    have x10 := hr.c10
    have x11 := hr.c11
    clear hn hb hg
    by_cases hlt : t < σ.N
    · have l1 : (0 : Int) ≤ (t : Int) := by omega
      have l2 : (t : Int) < (σ.N : Int) := by omega
      obtain ⟨B, mm, kk, hm, hm16, t1, hrv, hB⟩ := hr.hv hlt
      have HM := Lib.hid hm
      have VT := Lib.hid (show vs t = .slice B mm kk by
        have := hr.t1 hlt
        rw [this] at t1
        injection t1)
      clear hr hm hrv hB
      go_wp2
      go_loopw [4, 7] (fun v x wx => ∃ i : Nat, i ≤ mm ∧ x = .int .i64 (i : Int) ∧ Nx wx (w.heap.size + 1) v (0 :: (flat σ t ++ refs ((σ.hd t).take i))) ∧ Bb wx w.heap.size σ.M (fun _ => false) ∧ w.grownBy wx none) (fun _ x _ => mm - (intOf x).toNat)
      case atStart => exact ⟨0, Nat.zero_le _, rfl, by simpa [refs] using NX.out, BX.out, GX.out⟩
      case round =>
        obtain ⟨i, hi', rfl, hn, hb, hg⟩ := hrel
        obtain ⟨Av, nv, cv, rfl, hnl, -⟩ := hn.split
        have NX := Lib.hid hn
        have BX := Lib.hid hb
        have GX := Lib.hid hg
        have hr := H.out.new hg
        have x10 := hr.c10
        have x11 := hr.c11
        obtain ⟨B', mm', kk', hm', _, t1', hrv, hB⟩ := hr.hv hlt
        have t2' := hr.t1 hlt
        have e1 := VT.out
        rw [t2'] at t1'
        injection t1' with t1'
        rw [e1] at t1'
        injection t1' with eB em ek
        subst eB em ek
        have W1 := hg.size
        have WW := Lib.hid W1
        clear hn hb hg hr t2' hB e1 hm'
        by_cases hil : i < mm
        · obtain ⟨b, off, rfl, q0, q1⟩ := hrv.at_ hil
          have HX := Lib.hid (show (σ.hd t).take (i + 1) = (σ.hd t).take i ++ [(σ.hd t).getD i (0, 0)] by
            rw [List.take_succ_eq_append_getElem (by have := HM.out; omega), List.getD_eq_getElem?_getD, List.getElem?_eq_getElem (by have := HM.out; omega)]
            rfl)
          obtain ⟨x, hx⟩ : ∃ x, x = (σ.hd t).getD i (0, 0) := ⟨_, rfl⟩
          rw [← hx] at q0 q1 HX
          clear hrv hx
          have l3 : (0 : Int) ≤ (i : Int) := by omega
          have l4 : (i : Int) < (mm : Int) := by omega
          by_cases h2 : x.1 = 2
          · have hlen : (0 :: (flat σ t ++ refs ((σ.hd t).take i))).length ≤ 1048575 := by
              have k1 := flat_length OK.out t
              have k2 := refs_length ((σ.hd t).take i)
              have k3 := hm16
              have k4 := hN
              simp only [List.length_cons, List.length_append, List.length_take] at *
              omega
            have HL := Lib.hid hlen
            clear hlen
            go_wp2_with (refine append_nx rfl (.tmp 48) (.tmp 54) rfl (w.heap.size + 1) _ _ rfl (NX.out.kept (grown_alloc _ _) (by simp)) wr.heap.size x.2 rfl (by simp) HL.out (by have := WW.out; simp; omega) ?_; intro A3 n3 c3 w3 hn3 hg3 hb3; have NX3 := Lib.hid hn3; have G3 := Lib.hid hg3; have P3 := Lib.hid hb3; clear hn3 hg3 hb3)
            exact ⟨⟨i + 1, by omega, by go_num, by rw [HX.out, refs_snoc_yes h2]; simpa using NX3.out, (BX.out.kept (grown_alloc _ _) (by simp)).kept G3.out (fun e => by have := P3.out _ e; omega), (GX.out.andThen (grown_alloc _ _) (by simp)).andThen G3.out (fun j hj => .inl (by have := P3.out j hj; omega))⟩, by simp [intOf]; omega⟩
          · go_wp2
            exact ⟨⟨i + 1, by omega, by go_num, by rw [HX.out, refs_snoc_no h2]; exact NX.out, BX.out, GX.out⟩, by simp [intOf]; omega⟩
        · have ei : i = mm := by omega
          subst ei
          go_wp2
          have E := NX.out
          rw [HM.out, List.take_length, ← flat_succ] at E
          exact ⟨⟨t + 1, by omega, by go_num, E, BX.out, GX.out⟩, by simp [intOf]; omega⟩
    · have et : t = σ.N := by omega
      subst et
      have GN0 := Lib.hid (Gone.start OK.out)
      clear hr
      go_wp2
      go_loopw [4, 8] (fun v x wy => ∃ (L : List Int) (k : Nat) (m : Nat → Bool), x = .int .i64 (k : Int) ∧ Gone σ L k m ∧ Nx wy (w.heap.size + 1) v L ∧ Bb wy w.heap.size σ.M m ∧ w.grownBy wy none) (fun _ x _ => 200000 - (intOf x).toNat)
      case atStart => exact ⟨_, 0, _, rfl, GN0.out, NX.out, BX.out, GX.out⟩
      case round =>
        obtain ⟨L, k, m, rfl, gn, hn, hb, hg⟩ := hrel
        obtain ⟨Av, nv, cv, rfl, rfl, hrd⟩ := hn.split
        have NX := Lib.hid hn
        have BX := Lib.hid hb
        have GX := Lib.hid hg
        have GN := Lib.hid gn
        have hk1 := gn.le
        have hbd := gn.bd
        by_cases hkl : k < L.length
        · obtain ⟨b, off, rfl, q0⟩ := hrd.at_ (k := k) (by omega)
          have hok := gn.ok _ (li.getD_mem hkl 0)
          obtain ⟨n, hn'⟩ : ∃ n : Nat, L.getD k 0 = (n : Int) := ⟨(L.getD k 0).toNat, by omega⟩
          have q1 := q0
          rw [hn'] at q1 hok
          have hnM : n < σ.M := by omega
          have b0 := hb.at_ hnM
          have bf := hb.free n
          have l3 : (0 : Int) ≤ (k : Int) := by omega
          have l4 : (k : Int) < (L.length : Int) := by omega
          have l5 : (0 : Int) ≤ (n : Int) := by omega
          have l6 : (n : Int) < (σ.M : Int) := by omega
          cases hmn : m n with
          | true =>
            rw [hmn] at b0
            clear hrd hn hb hg gn q0
            go_wp2
            exact ⟨⟨L, k + 1, m, by go_num, GN.out.old hkl hn' hmn hnM, NX.out, BX.out, GX.out⟩, by simp [intOf]; omega⟩
          | false =>
            rw [hmn] at b0
            have hr := H.out.new hg
            have x11 := hr.c11
            obtain ⟨a, rfl, x12⟩ := hr.nv hnM
            have la : a < w.heap.size := by
              obtain ⟨a', e, h2⟩ := H.out.nv hnM
              injection e with e
              injection e with e
              rw [e]
              exact World.block_lt_of_cell? w ⟨a', n, none⟩ h2
            clear hr hrd hn hb hg gn q0
            go_wp2
            go_loopw [4, 11] (fun v x wx => ∃ i : Nat, i ≤ (σ.nd n).length ∧ x = .int .i64 (i : Int) ∧ Nx wx (w.heap.size + 1) v (L ++ refs ((σ.nd n).take i)) ∧ Bb wx w.heap.size σ.M (upd m n true) ∧ w.grownBy wx none) (fun _ x _ => (σ.nd n).length - (intOf x).toNat)
            case atStart => exact ⟨0, Nat.zero_le _, rfl, by simpa [refs] using NX.out.kept (gr.grown_set wr w.heap.size n (.bool true)) (fun q e => by injection e; omega), BX.out.set hnM, GX.out.andThen (gr.grown_set _ _ _ _) (fun j hj => by injection hj; exact .inl (by omega))⟩
            case round =>
              obtain ⟨i, hi', rfl, hn, hb, hg⟩ := hrel
              obtain ⟨Av, nv, cv, rfl, hnl, -⟩ := hn.split
              have NX := Lib.hid hn
              have BX := Lib.hid hb
              have GX := Lib.hid hg
              have WW := Lib.hid hg.size
              have hr := H.out.new hg
              clear hn hb hg
              have nl := OK.out.nl n
              by_cases hil : i < (σ.nd n).length
              · obtain ⟨q0, q1⟩ := hr.fv hnM hil
                have HX := Lib.hid (show (σ.nd n).take (i + 1) = (σ.nd n).take i ++ [(σ.nd n).getD i (0, 0)] by
                  rw [List.take_succ_eq_append_getElem hil, List.getD_eq_getElem?_getD, List.getElem?_eq_getElem hil]
                  rfl)
                obtain ⟨x, hx⟩ : ∃ x, x = (σ.nd n).getD i (0, 0) := ⟨_, rfl⟩
                rw [← hx] at q0 q1 HX
                clear hr hx
                have l7 : (0 : Int) ≤ (i : Int) := by omega
                have l8 : (i : Int) < ((σ.nd n).length : Int) := by omega
                by_cases h2 : x.1 = 2
                · have hlen : (L ++ refs ((σ.nd n).take i)).length ≤ 1048575 := by
                    have k2 := refs_length ((σ.nd n).take i)
                    simp only [List.length_append, List.length_take] at *
                    omega
                  have HL := Lib.hid hlen
                  clear hlen
                  go_wp2_with (refine append_nx rfl (.tmp 92) (.tmp 98) rfl (w.heap.size + 1) _ _ rfl (NX.out.kept (grown_alloc _ _) (by simp)) wr.heap.size x.2 rfl (by simp) HL.out (by have := WW.out; simp; omega) ?_; intro A3 n3 c3 w3 hn3 hg3 hb3; have NX3 := Lib.hid hn3; have G3 := Lib.hid hg3; have P3 := Lib.hid hb3; clear hn3 hg3 hb3)
                  exact ⟨⟨i + 1, by omega, by go_num, by rw [HX.out, refs_snoc_yes h2]; simpa using NX3.out, (BX.out.kept (grown_alloc _ _) (by simp)).kept G3.out (fun e => by have := P3.out _ e; omega), (GX.out.andThen (grown_alloc _ _) (by simp)).andThen G3.out (fun j hj => .inl (by have := P3.out j hj; omega))⟩, by simp [intOf]; omega⟩
                · go_wp2
                  exact ⟨⟨i + 1, by omega, by go_num, by rw [HX.out, refs_snoc_no h2]; exact NX.out, BX.out, GX.out⟩, by simp [intOf]; omega⟩
              · have ei : i = (σ.nd n).length := by omega
                subst ei
                go_wp2
                have E := NX.out
                rw [List.take_length] at E
                exact ⟨⟨_, k + 1, _, by go_num, GN.out.new OK.out hkl hn' hmn hnM, E, BX.out, GX.out⟩, by simp [intOf]; omega⟩
        · have ek : k = L.length := by omega
          subst ek
          go_wp2
          exact bodyPost_ret (v := .slice (some ⟨w.heap.size, 0, none⟩) σ.M σ.M) (by simp [results, Tryd.results31, go_sem, *]) rfl ⟨m, rfl, BX.out, GN.out.all OK.out, GX.out⟩
end
end Go.Proofs.YtfhebjkoojodiaaDoor.gp
