/- Joined: BoC, BoD, BoE. -/
import Derived.Test.YtfloleflcoiidaaGreatDoorBoX
import Derived.Deep.RegionHeld3
import Derived.Deep.RegionWith
/- What the statement's own heap by lists does: Carve, Large, Drop, Give. -/
namespace Go.Proofs.YtfloleflcoiidaaGreatDoor.bo
open Go.ChangeShapes Go.WideShapes Go.ChangeAt Go.RowKit gen calls cls geos ce
set_option linter.unusedVariables false
set_option maxHeartbeats 4000000
set_option maxRecDepth 100000
section
variable {w w' : World} {V : List Nat} {H : Nat} {vk : Value} {vs tl : List Value} {ks : List Int} {fr : Nat → List Int}
theorem rCarve_none (h : Hh w V H vk vs tl ks fr) (hl : ks.length ≤ 64) (k : Int) (hf : pg.find 1 0 ks = none) :
    Calls Tryz.prog 92 #[.pointer (some ⟨H, 0, none⟩), .int .i64 k] w fun e w' => e = int1 (-1) ∧ w.grownBy w' none := by
  have f := h.h0
  obtain ⟨A, n, c, rfl, hr, ha, hn, hc⟩ := h.kd
  have FD := Lib.hid ((pg.rFind_any (by have := hr.1; omega) hr 1).mono fun e w' ⟨h1, h2⟩ => (⟨h1, h2.symm⟩ : e = int1 (pg.fnd ks 1) ∧ w = w'))
  rw [pg.fnd_none (by omega) hf] at FD
  clear h hl hr ha hf
  go_enter Tryz.func92, Tryz.ntmps92
  go_wp2_with (first
    | (go_at_call 88; (with_reducible refine FD.out.mono ?_); rintro e w' ⟨rfl, rfl⟩))
  go_ret
  exact ⟨rfl, World.grownBy.refl _ _⟩
theorem rCarve_no (h : Hh w V H vk vs tl ks fr) (hl : ks.length ≤ 64) (k : Int) (hk : fits k = true) (hno : ¬ (1 ≤ k ∧ k ≤ 4)) :
    Calls Tryz.prog 92 #[.pointer (some ⟨H, 0, none⟩), .int .i64 k] w fun e w' => e = int1 (-1) ∧ w.grownBy w' none := by
  cases hf : pg.find 1 0 ks with
  | none => exact rCarve_none h hl k hf
  | some p =>
    have f := h.h0
    obtain ⟨A, n, c, rfl, hr, ha, hn, hc⟩ := h.kd
    have FD := Lib.hid ((pg.rFind_any (by have := hr.1; omega) hr 1).mono fun e w' ⟨h1, h2⟩ => (⟨h1, h2.symm⟩ : e = int1 (pg.fnd ks 1) ∧ w = w'))
    rw [pg.fnd_some (by omega) hf] at FD
    have SZ := Lib.hid (fun w => pg.rsz_any k w hk)
    rw [sz_zero hno] at SZ
    have t1 : decide ((p : Int) < 0) = false := by simp
    clear h hl hr ha hf hk hno
    go_enter Tryz.func92, Tryz.ntmps92
    go_wp2_with (first
      | (go_at_call 88; (with_reducible refine FD.out.mono ?_); rintro e w' ⟨rfl, rfl⟩)
      | (go_at_call 87; (with_reducible refine (SZ.out _).mono ?_); rintro e w2 ⟨rfl, hg⟩; have G2 := Lib.hid hg; clear hg))
    go_ret
    exact ⟨rfl, G2.out⟩
theorem from_take (j : Nat) : li.ints (ch.from_ 0 (j + 1)) = li.ints (ch.from_ 0 j) ++ [.int .i64 (j : Int)] := by
  rw [ch.from_more, Nat.zero_add]; simp [li.ints]
theorem rCarve_yes (h : Hh w V H vk vs tl ks fr) (hks : pg.Ks ks) (hl : ks.length ≤ 64) {k : Int} (hk : 1 ≤ k ∧ k ≤ 4) {p n : Nat} (hf : pg.find 1 0 ks = some p) (hn : cl k = n) :
    Calls Tryz.prog 92 #[.pointer (some ⟨H, 0, none⟩), .int .i64 k] w (HhAns (.int .i64 p) V H tl (ks.set p k) (upd fr p (ch.from_ 0 n)) w) := by
  obtain ⟨i0, hi, hz0, hz1, hz2⟩ := info_parts li.info_int
  have E : Hid (i0.zero = some (.int .i64 0) ∧ i0.size = 1 ∧ i0.bytes = 8 ∧ Tryz.prog.info? 3 = some i0) := ⟨hz0, hz1, hz2, hi⟩
  clear hi hz0 hz1 hz2
  have f := h.h0
  obtain ⟨A, m, c, rfl, hr, ha, hm, hc⟩ := h.kd
  have pl := (pg.find_at (n := 1) (by omega) hf).1
  have p64 : p < 64 := by omega
  have FD := Lib.hid ((pg.rFind_any (by have := hr.1; omega) hr 1).mono fun e w' ⟨h1, h2⟩ => (⟨h1, h2.symm⟩ : e = int1 (pg.fnd ks 1) ∧ w = w'))
  rw [pg.fnd_some (by omega) hf] at FD
  have fk : fits k = true := by simp [fits]; omega
  obtain ⟨z, hz, z2, _⟩ := sz_some hk
  have SZ := Lib.hid (fun w => pg.rsz_any k w fk)
  rw [hz] at SZ
  have CL := Lib.hid (fun w => rCells_any k w fk)
  rw [hn] at CL
  have n16 : n ≤ 16 := by have := cl_wide k; omega
  have t1 : decide ((p : Int) < 0) = false := by simp
  have t2 : ((z : Int) == 0) = false := by simp; omega
  have HH := Lib.hid h
  have m64 : m ≤ 64 := by have := hr.1; omega
  have ML := Lib.hid hr.1
  have S1 := Lib.hid (fun W (h1 : Rd W W.heap.size A m c ks) => pg.rSet_any (ks.set p k) m64 h1 p 1 k (by simp [fits]; omega) (by omega) (by rw [List.length_set]; exact hr.1) (fun i hi => by
    rw [pg.set_getD _ _ _ _ pl]
    repeat' split
    all_goals first | rfl | omega))
  have RK := Lib.hid hr
  have HV := Lib.hid h.lt
  have LY := Lib.hid (show (ks.set p k).length = m by rw [List.length_set]; exact hr.1)
  clear h hks hl hr ha hf hk hn hz fk pl
  generalize ks.set p k = ys at *
  go_enter Tryz.func92, Tryz.ntmps92
  go_wp2_with (first
    | (go_at_call 88; (with_reducible refine FD.out.mono ?_); rintro e w' ⟨rfl, rfl⟩)
    | (go_at_call 87; (with_reducible refine (SZ.out _).mono ?_); rintro e w2 ⟨rfl, hg⟩; have G2 := Lib.hid hg; have H2 := Lib.hid (HH.out.new hg); have f2 := H2.out.h0; have R2 := Lib.hid (bm.Rd.below' RK.out (li.grown_below hg) hg.size); clear hg)
    | (go_at_call 100; (with_reducible refine (S1.out _ R2.out).mono ?_); rintro e w3 ⟨A3, c3, rfl, ho, hg⟩; rw [LY.out] at ho ⊢; have G3 := Lib.hid (G2.out.trans hg); have H3 := Lib.hid (H2.out.new hg); have f3 := H3.out.h0; have z3 := H3.out.fz 0; have F3 := Lib.hid (Fx.own (V := V) ho (fun k hk => Nat.lt_of_lt_of_le (HV.out k hk) G2.out.size)); have H4 := Lib.hid (H3.out.kinds F3.out); have G4 := Lib.hid ((Gr.new (L := [H]) G3.out).trans (Gr.set w3 H 0 (.slice A3 m c3) (by simp))); clear ho hg))
  go_loopw [6, 7] (fun v i wr => ∃ (j : Nat) (A' : Option Addr) (c' : Nat), j ≤ n ∧ i = .int .i64 j ∧ v = .slice A' j c' ∧ wr.ownsRow w3.heap.size 3 1 (.slice A' j c') j (li.ints (ch.from_ 0 j)) ∧ (w3.setCell ⟨H, 0, none⟩ (.slice A3 m c3)).grownBy wr none) (fun _ i _ => n - (intOf i).toNat)
  case atStart => exact ⟨0, none, 0, Nat.zero_le _, rfl, rfl, World.ownsRow_nil _ _ _ _, World.grownBy.refl _ _⟩
  case round =>
    obtain ⟨j, A', c', hj, rfl, rfl, ho, hg⟩ := hrel
    have HO := Lib.hid ho
    have HG := Lib.hid hg
    have SZW := Lib.hid (show w3.heap.size ≤ wr.heap.size by have := hg.size; simpa using this)
    clear ho hg
    by_cases hlt : j < n
    · have FT := Lib.hid (from_take j)
      go_wp2_with (first
        | (go_at_call 99; (with_reducible refine (CL.out _).mono ?_); rintro e w5 ⟨rfl, hb⟩; have g5 := pg.below_grown hb; have O5 := Lib.hid (HO.out.kept g5 (by cases (Value.slice A' j c').ownBlock <;> simp)); have G5 := Lib.hid (HG.out.trans g5); have S5 := Lib.hid (Nat.le_trans SZW.out g5.size); clear hb g5)
        | (refine wpList_append_rd rfl (.tmp 36) (.tmp 38) 31 rfl w3.heap.size 3 i0 (.int .i64 0) 8 Tryz.underlying31 E.out.2.2.2 E.out.1 E.out.2.1 E.out.2.2.1 rfl _ j (ch.from_ 0 j) rfl (O5.out.alloc _) (some ⟨w5.heap.size, 0, none⟩) 1 1 _ [(j : Int)] rfl (li.Rd.one _ _ _) (by unfold maxLen; omega) (by omega) (by have := S5.out; simp; omega) ?_; intro A6 c6 w6 own1 rd1 gr1; have OWN1 := Lib.hid own1; have GR1 := Lib.hid gr1; clear own1 gr1 rd1))
      go_roundw
      case rel => exact ⟨j + 1, A6, c6, by omega, by go_num, rfl, by rw [FT.out]; simpa [li.ints] using OWN1.out, li.grown_one G5.out O5.out (by simp) GR1.out⟩
      case measure => simp [intOf]; omega
    · obtain rfl : j = n := by omega
      have H6 := Lib.hid (H4.out.new HG.out)
      obtain ⟨v0, hv0, hf0⟩ := H6.out.fre p p64
      obtain ⟨A0, n0, c0, rfl, _⟩ := hf0
      have HV0 := Lib.hid hv0
      have FX := Lib.hid (Fx.own (V := V) HO.out (fun k hk => Nat.lt_of_lt_of_le (HV.out k hk) G3.out.size))
      clear hv0
      go_wp2_with (first
        | (go_at_call 99; (with_reducible refine (CL.out _).mono ?_); rintro e w5 ⟨rfl, hb⟩; have g5 := pg.below_grown hb; have H8 := Lib.hid (H6.out.new g5); have f8 := H8.out.at HV0.out; have z8 := H8.out.fz (1 + p); have H9 := Lib.hid (H8.out.list p64 (FX.out.new g5)); have G9 := Lib.hid (((G4.out.made HG.out).made g5).trans (Gr.set w5 H (1 + p) (.slice A' j c') (by simp))); clear hb g5))
      go_ret
      exact ⟨_, _, rfl, H9.out, G9.out⟩
end
end Go.Proofs.YtfloleflcoiidaaGreatDoor.bo

/- What the statement's own heap by lists does: Large, Drop, Give. -/
namespace Go.Proofs.YtfloleflcoiidaaGreatDoor.bo
open Go.ChangeShapes Go.WideShapes Go.ChangeAt Go.RowKit gen calls cls geos ce
set_option linter.unusedVariables false
set_option maxHeartbeats 4000000
set_option maxRecDepth 100000
section
variable {w w' : World} {V : List Nat} {H : Nat} {vk : Value} {vs tl : List Value} {ks : List Int} {fr : Nat → List Int}
theorem then_at {K : Act → World → Prop} {Q : Exit → Act → World → Prop} {e : Exit} {a b : Act} {w : World} (h : a = b) (hq : Exit.then K Q e b w) : Exit.then K Q e a w := h ▸ hq
theorem rLarge_no (h : Hh w V H vk vs tl ks fr) (hl : ks.length ≤ 64) (n : Int) (hf : 1 ≤ n → pg.find n 0 ks = none) :
    Calls Tryz.prog 56 #[.pointer (some ⟨H, 0, none⟩), .int .i64 n] w fun e w' => e = int1 (-1) ∧ w.grownBy w' none := by
  have f := h.h0
  obtain ⟨A, m, c, rfl, hr, ha, hm, hc⟩ := h.kd
  have FD := Lib.hid ((pg.rFind_any (by have := hr.1; omega) hr n).mono fun e w' ⟨h1, h2⟩ => (⟨h1, h2.symm⟩ : e = int1 (pg.fnd ks n) ∧ w = w'))
  have e : pg.fnd ks n = -1 := by
    by_cases h1 : 1 ≤ n
    · exact pg.fnd_none h1 (hf h1)
    · unfold pg.fnd; rw [if_pos (by omega)]
  rw [e] at FD
  clear h hl hr ha hf e
  go_enter Tryz.func56, Tryz.ntmps56
  go_wp2_with (first
    | (go_at_call 88; (with_reducible refine FD.out.mono ?_); rintro e w' ⟨rfl, rfl⟩))
  go_ret
  exact ⟨rfl, World.grownBy.refl _ _⟩
theorem rLarge_yes (h : Hh w V H vk vs tl ks fr) (hl : ks.length ≤ 64) {n p a : Nat} (h1 : 1 ≤ n) (hf : pg.find n 0 ks = some p) (ha' : a = p * 32) :
    Calls Tryz.prog 56 #[.pointer (some ⟨H, 0, none⟩), .int .i64 n] w (HhAns (.int .i64 a) V H tl (pg.spanN ks p n) fr w) := by
  have f := h.h0
  obtain ⟨A, m, c, rfl, hr, ha, hm, hc⟩ := h.kd
  have FD := Lib.hid ((pg.rFind_any (by have := hr.1; omega) hr n).mono fun e w' ⟨h1, h2⟩ => (⟨h1, h2.symm⟩ : e = int1 (pg.fnd ks n) ∧ w = w'))
  rw [pg.fnd_some (by omega) hf] at FD
  obtain ⟨hp, _, _, hpn⟩ := pg.find_at (n := n) (by omega) hf
  have t1 : decide ((p : Int) < 0) = false := by simp
  have m64 : m ≤ 64 := by have := hr.1; omega
  have S1 := Lib.hid (pg.rSpan_any m64 hr p n h1 (by have := hr.1; omega))
  have LY := Lib.hid (show (pg.spanN ks p n).length = m by rw [pg.spanN_length]; exact hr.1)
  have HH := Lib.hid h
  have p64 : p < 64 := by omega
  have HA := Lib.hid (show (p : Int) * 32 = a by omega)
  clear h hl hr ha hf h1 ha' hp hpn
  generalize pg.spanN ks p n = ys at *
  go_enter Tryz.func56, Tryz.ntmps56
  go_wp2_with (first
    | (go_at_call 88; (with_reducible refine FD.out.mono ?_); rintro e w' ⟨rfl, rfl⟩)
    | (go_at_call 89; (with_reducible refine S1.out.mono ?_); rintro e w3 ⟨A3, c3, rfl, ho, hg⟩; rw [LY.out] at ho ⊢; have H3 := Lib.hid (HH.out.new hg); have f3 := H3.out.h0; have z3 := H3.out.fz 0; have F3 := Lib.hid (Fx.own (V := V) ho HH.out.lt); have H4 := Lib.hid (H3.out.kinds F3.out); have G4 := Lib.hid ((Gr.new (L := [H]) hg).trans (Gr.set w3 H 0 (.slice A3 m c3) (by simp))); clear ho hg))
  go_ret
  exact ⟨_, _, by rw [HA.out]; rfl, H4.out, G4.out⟩
theorem rDrop_no (h : Hh w V H vk vs tl ks fr) (hks : pg.Ks ks) (hl : ks.length ≤ 64) (p : Int) (hno : 1 ≤ pg.kind ks p ∧ pg.kind ks p ≤ 4 → ((fr p.toNat).length : Int) < cl (pg.kind ks p)) :
    Calls Tryz.prog 63 #[.pointer (some ⟨H, 0, none⟩), .int .i64 p] w fun e w' => e = bool1 false ∧ w.grownBy w' none := by
  have f := h.h0
  obtain ⟨A, n, c, rfl, hr, ha, hn, hc⟩ := h.kd
  have KD := Lib.hid ((pg.rKind_any (by have := hr.1; omega) hr p).mono fun e w' ⟨h1, h2⟩ => (⟨h1, h2.symm⟩ : e = int1 (pg.kind ks p) ∧ w = w'))
  have HH := Lib.hid h
  have KF := Lib.hid (ce.kind_fits hks p)
  rcases Decidable.em (1 ≤ pg.kind ks p ∧ pg.kind ks p ≤ 4) with hk | hk
  · have hno := hno hk
    obtain ⟨P, rfl, p64, _⟩ := ce.there hl (z := p) (by omega)
    obtain ⟨z, hz, z2, _⟩ := sz_some hk
    obtain ⟨v, hv, A2, n2, c2, rfl, hr2, _, hn2, hc2⟩ := h.fre P p64
    rw [Int.toNat_natCast, hr2.1] at hno
    have HV := Lib.hid hv
    have HZ := Lib.hid hz
    obtain ⟨q, hq⟩ : ∃ q, cl (pg.kind ks P) = q := ⟨_, rfl⟩
    rw [hq] at hno
    have HQ := Lib.hid hq
    have t1 : ((z : Int) == 0) = false := by simp; omega
    have t2 : decide ((n2 : Int) < q) = true := by simpa using hno
    have q1 : (0 : Int) ≤ (P : Int) := by omega
    have q2 : (P : Int) < 64 := by omega
    clear h hks hl hr ha hk hz hv hr2 hq hno
    generalize pg.kind ks P = k at *
    go_enter Tryz.func63, Tryz.ntmps63
    have f1 := HH.out.at HV.out
    go_wp2_with (first
      | (go_at_call 98; (with_reducible refine KD.out.mono ?_); rintro e w' ⟨rfl, rfl⟩))
    go_region_held3 (fun W => W.cell? ⟨H, 1 + P, none⟩ = some (.slice A2 n2 c2)) (first | go_keep | exact f2 | exact f3) (first
      | (go_at_call 87; (with_reducible refine (pg.rsz_any _ _ KF.out).mono ?_); rintro e w2 ⟨rfl, hg⟩; rw [HZ.out]; have G2 := Lib.hid ((ch.grown_drew w none).trans hg); have f2 := (HH.out.new G2.out).at HV.out; clear hg)
      | (go_at_call 99; (with_reducible refine (rCells_any _ _ KF.out).mono ?_); rintro e w3 ⟨rfl, hb⟩; rw [HQ.out]; have G3 := Lib.hid (G2.out.trans (pg.below_grown hb)); have f3 := (HH.out.new G3.out).at HV.out; clear hb))
    all_goals
      go_wp2
      go_ret
      exact ⟨rfl, G3.out⟩
  · obtain ⟨q0, hq0⟩ : ∃ q0, sz (pg.kind ks p) = q0 := ⟨_, rfl⟩
    have HZ := Lib.hid hq0
    have t1 : (q0 == 0) = true := by rw [← hq0, sz_zero hk]; rfl
    clear h hks hl hr ha hk hno hq0
    go_enter Tryz.func63, Tryz.ntmps63
    go_wp2_with (first
      | (go_at_call 98; (with_reducible refine KD.out.mono ?_); rintro e w' ⟨rfl, rfl⟩))
    refine wp_region_held_drew (S := fun _ => True) (by kernel_rfl) trivial (fun _ => ?_)
    refine wpAnyH_take (i := 0) (v := .int .i64 (pg.kind ks p)) rfl (by kernel_rfl) (by kernel_rfl) (by kernel_rfl) (fun _ _ _ h => h) (Or.inl ⟨by kernel_rfl, fun _ _ => by rfl⟩) trivial ?_
    refine wpAnyH_ready (rs := [1]) (by kernel_rfl) (by simp) (AllReadyH.cons rfl (fun K hK => ?_) AllReadyH.nil)
    go_simp
    (go_at_call 87; (with_reducible refine (pg.rsz_any _ _ KF.out).mono ?_); rintro e w2 ⟨rfl, hg⟩; rw [HZ.out]; have G2 := Lib.hid ((ch.grown_drew w none).trans hg); clear hg)
    refine hK.out _ _ trivial (fun _ => ?_)
    clear hK K
    refine wpAnyH_take (i := 2) (v := .bool true) rfl (by kernel_rfl) (by kernel_rfl) (by kernel_rfl) (fun _ _ _ h => h) (Or.inl ⟨by kernel_rfl, fun _ _ => by go_simp⟩) trivial ?_
    refine wpAnyH_take (i := 3) (v := .bool true) rfl (by kernel_rfl) (by kernel_rfl) (by kernel_rfl) (fun _ _ _ h => h) (Or.inl ⟨by kernel_rfl, fun _ _ => by kernel_rfl⟩) trivial ?_
    refine wpAnyH_take (i := 4) (v := undef) rfl (by kernel_rfl) (by kernel_rfl) (by kernel_rfl) (fun _ _ _ h => h) (Or.inr ⟨by kernel_rfl, rfl⟩) trivial ?_
    refine wpAnyH_take (i := 5) (v := undef) rfl (by kernel_rfl) (by kernel_rfl) (by kernel_rfl) (fun _ _ _ h => h) (Or.inr ⟨by kernel_rfl, rfl⟩) trivial ?_
    refine wpAnyH_take (i := 6) (v := undef) rfl (by kernel_rfl) (by kernel_rfl) (by kernel_rfl) (fun _ _ _ h => h) (Or.inr ⟨by kernel_rfl, rfl⟩) trivial ?_
    refine wpAnyH_take (i := 7) (v := undef) rfl (by kernel_rfl) (by kernel_rfl) (by kernel_rfl) (fun _ _ _ h => h) (Or.inr ⟨by kernel_rfl, rfl⟩) trivial ?_
    refine wpAnyH_take (i := 8) (v := undef) rfl (by kernel_rfl) (by kernel_rfl) (by kernel_rfl) (fun _ _ _ h => h) (Or.inr ⟨by kernel_rfl, rfl⟩) trivial ?_
    refine wpAnyH_take (i := 9) (v := undef) rfl (by kernel_rfl) (by kernel_rfl) (by kernel_rfl) (fun _ _ _ h => h) (Or.inr ⟨by kernel_rfl, rfl⟩) trivial ?_
    refine wpAnyH_take (i := 10) (v := undef) rfl (by kernel_rfl) (by kernel_rfl) (by kernel_rfl) (fun _ _ _ h => h) (Or.inr ⟨by kernel_rfl, rfl⟩) trivial ?_
    refine wpAnyH_take (i := 11) (v := undef) rfl (by kernel_rfl) (by kernel_rfl) (by kernel_rfl) (fun _ _ _ h => h) (Or.inr ⟨by kernel_rfl, rfl⟩) trivial ?_
    refine wpAnyH_take (i := 12) (v := undef) rfl (by kernel_rfl) (by kernel_rfl) (by kernel_rfl) (fun _ _ _ h => h) (Or.inr ⟨by kernel_rfl, rfl⟩) trivial ?_
    refine wpAnyH_take (i := 13) (v := undef) rfl (by kernel_rfl) (by kernel_rfl) (by kernel_rfl) (fun _ _ _ h => h) (Or.inr ⟨by kernel_rfl, rfl⟩) trivial ?_
    refine wpAnyH_take (i := 14) (v := .bool true) rfl (by kernel_rfl) (by kernel_rfl) (by kernel_rfl) (fun _ _ _ h => h) (Or.inl ⟨by kernel_rfl, fun _ _ => by kernel_rfl⟩) trivial ?_
    refine wpAnyH_done (by kernel_rfl) ?_ _
    refine then_at (b := { tmps := #[.pointer (some ⟨H, 0, none⟩), .int .i64 p, undef, undef, .bool false, .int .i64 (pg.kind ks p), .pointer (some ⟨H, 0, none⟩), .pointer (some ⟨H, 0, none⟩), .pointer (some ⟨H, 0, none⟩), .slice A n c, .int .i64 p, .int .i64 (pg.kind ks p), .int .i64 (pg.kind ks p), .int .i64 q0, .bool true, .bool true, undef, undef, undef, undef, undef, undef, undef, undef, undef, undef, .bool true, undef, undef, undef, undef, undef, undef, undef, undef, undef], defers := [] }) (by kernel_rfl) ?_
    all_goals
      go_wp2
      go_ret
      exact ⟨rfl, G2.out⟩
theorem rDrop_yes (h : Hh w V H vk vs tl ks fr) (hks : pg.Ks ks) (hl : ks.length ≤ 64) {p : Nat} (hk : 1 ≤ pg.kind ks p ∧ pg.kind ks p ≤ 4) (hyes : cl (pg.kind ks p) ≤ (fr p).length) :
    Calls Tryz.prog 63 #[.pointer (some ⟨H, 0, none⟩), .int .i64 p] w (HhAns (.bool true) V H tl (ks.set p 0) fr w) := by
  have f := h.h0
  obtain ⟨P, eP, p64, pl⟩ := ce.there hl (z := (p : Int)) (by omega)
  obtain rfl : p = P := by omega
  obtain ⟨A, n, c, rfl, hr, ha, hn, hc⟩ := h.kd
  have KD := Lib.hid ((pg.rKind_any (by have := hr.1; omega) hr p).mono fun e w' ⟨h1, h2⟩ => (⟨h1, h2.symm⟩ : e = int1 (pg.kind ks p) ∧ w = w'))
  have HH := Lib.hid h
  have KF := Lib.hid (ce.kind_fits hks p)
  obtain ⟨z, hz, z2, _⟩ := sz_some hk
  obtain ⟨v, hv, A2, n2, c2, rfl, hr2, _, hn2, hc2⟩ := h.fre p p64
  rw [hr2.1] at hyes
  have HV := Lib.hid hv
  have HZ := Lib.hid hz
  obtain ⟨q, hq⟩ : ∃ q, cl (pg.kind ks p) = q := ⟨_, rfl⟩
  rw [hq] at hyes
  have HQ := Lib.hid hq
  have t1 : ((z : Int) == 0) = false := by simp; omega
  have t2 : decide ((n2 : Int) < q) = false := by simpa using hyes
  have q1 : (0 : Int) ≤ (p : Int) := by omega
  have q2 : (p : Int) < 64 := by omega
  have n64 : n ≤ 64 := by have := hr.1; omega
  have S1 := Lib.hid (fun W (h1 : Rd W W.heap.size A n c ks) => pg.rSet_any (ks.set p 0) n64 h1 p 1 0 (by simp [fits]; omega) (by omega) (by rw [List.length_set]; exact hr.1) (fun i hi => by
    rw [pg.set_getD _ _ _ _ pl]
    repeat' split
    all_goals first | rfl | omega))
  have LY := Lib.hid (show (ks.set p 0).length = n by rw [List.length_set]; exact hr.1)
  have RK := Lib.hid hr
  clear h hks hl hr ha hk hz hv hr2 hq hyes eP pl
  generalize pg.kind ks p = k at *
  generalize ks.set p 0 = ys at *
  go_enter Tryz.func63, Tryz.ntmps63
  have f1 := HH.out.at HV.out
  go_wp2_with (first
    | (go_at_call 98; (with_reducible refine KD.out.mono ?_); rintro e w' ⟨rfl, rfl⟩))
  go_region_held3 (fun W => W.cell? ⟨H, 1 + p, none⟩ = some (.slice A2 n2 c2)) (first | go_keep | exact f2 | exact f3) (first
    | (go_at_call 87; (with_reducible refine (pg.rsz_any _ _ KF.out).mono ?_); rintro e w2 ⟨rfl, hg⟩; rw [HZ.out]; have G2 := Lib.hid ((ch.grown_drew w none).trans hg); have f2 := (HH.out.new G2.out).at HV.out; clear hg)
    | (go_at_call 99; (with_reducible refine (rCells_any _ _ KF.out).mono ?_); rintro e w3 ⟨rfl, hb⟩; rw [HQ.out]; have G3 := Lib.hid (G2.out.trans (pg.below_grown hb)); have f3 := (HH.out.new G3.out).at HV.out; clear hb))
  all_goals
    have f5 := (HH.out.new G3.out).h0
    have R3 := Lib.hid (bm.Rd.below' RK.out (li.grown_below G3.out) G3.out.size)
    go_wp2_with (first
      | (go_at_call 100; (with_reducible refine (S1.out _ R3.out).mono ?_); rintro e w4 ⟨A3, c3, rfl, ho, hg⟩; rw [LY.out] at ho ⊢; have G4 := Lib.hid (G3.out.trans hg); have H4 := Lib.hid (HH.out.new G4.out); have f4 := H4.out.h0; have z4 := H4.out.fz 0; have F4 := Lib.hid (Fx.own (V := V) ho (fun k hk => Nat.lt_of_lt_of_le (HH.out.lt k hk) G3.out.size)); have H5 := Lib.hid (H4.out.kinds F4.out); have G5 := Lib.hid ((Gr.new (L := [H]) G4.out).trans (Gr.set w4 H 0 (.slice A3 n c3) (by simp))); clear ho hg))
    go_ret
    exact ⟨_, _, rfl, H5.out, G5.out⟩
end
end Go.Proofs.YtfloleflcoiidaaGreatDoor.bo

/- What the statement's own heap by lists does: Give. -/
namespace Go.Proofs.YtfloleflcoiidaaGreatDoor.bo
open Go.ChangeShapes Go.WideShapes Go.ChangeAt Go.RowKit gen calls cls geos ce
set_option linter.unusedVariables false
set_option maxHeartbeats 4000000
set_option maxRecDepth 100000
section
variable {w w' : World} {V : List Nat} {H : Nat} {vk : Value} {vs tl : List Value} {ks : List Int} {fr : Nat → List Int}
abbrev nil0 : Ending := .returned (.tuple #[])
theorem rGive_cell (h : Hh w V H vk vs tl ks fr) (hks : pg.Ks ks) (hl : ks.length ≤ 64) {a P : Nat} {i : Int} (hP : (a : Int) / 32 = P) (hk : 1 ≤ pg.kind ks P ∧ pg.kind ks P ≤ 4) (hi : (a : Int) % 32 / sz (pg.kind ks P) = i) (hf : (fr P).length ≤ 16) :
    Calls Tryz.prog 131 #[.pointer (some ⟨H, 0, none⟩), .int .i64 a] w fun e w' => ∃ vk' vs', e = nil0 ∧ Hh w' V H vk' vs' tl ks (upd fr P (i :: fr P)) ∧ Gr [H] w w' := by
  obtain ⟨i0, hi0, hz0, hz1, hz2⟩ := info_parts li.info_int
  have E : Hid (i0.zero = some (.int .i64 0) ∧ i0.size = 1 ∧ i0.bytes = 8 ∧ Tryz.prog.info? 3 = some i0) := ⟨hz0, hz1, hz2, hi0⟩
  clear hi0 hz0 hz1 hz2
  have f := h.h0
  obtain ⟨P', eP, p64, pl⟩ := ce.there hl (z := (P : Int)) (by omega)
  obtain rfl : P = P' := by omega
  obtain ⟨A, n, c, rfl, hr, ha, hn, hc⟩ := h.kd
  have pn : P < n := by have := hr.1; omega
  obtain ⟨b1, o1, rfl, k0⟩ := hr.at_ (k := P) pn
  rw [← pg.kind_in pl] at k0
  obtain ⟨z, hz, z2, z16⟩ := sz_some hk
  obtain ⟨v, hv, A2, n2, c2, rfl, hr2, _, hn2, hc2⟩ := h.fre P p64
  have n16 : n2 ≤ 16 := by have := hr2.1; omega
  rw [hz] at hi
  have a2 : (a : Int) ≤ 2047 := by omega
  have HZ := Lib.hid hz
  have KF := Lib.hid (ce.kind_fits hks P)
  have t5 : (pg.kind ks P == 5) = false := by simp; omega
  have zz : ¬ (z : Int) = 0 := by omega
  have HH := Lib.hid h
  have HV := Lib.hid hv
  have R2 := Lib.hid hr2
  have a0 : (0 : Int) ≤ a := by omega
  clear hks hl hk h hr hv hr2 hz ha eP pl hf
  generalize pg.kind ks P = k at *
  generalize hfp : fr P = l at *
  have HL := Lib.hid hfp
  clear hfp
  go_enter Tryz.func131, Tryz.ntmps131
  go_wp2_with (first
    | (go_at_call 87; (with_reducible refine (pg.rsz_any _ _ KF.out).mono ?_); rintro e w2 ⟨rfl, hg⟩; rw [HZ.out]; have G2 := Lib.hid hg; clear hg)
    | (have mark := O5; refine wpList_append_rd rfl (.tmp 41) (.tmp 47) 31 rfl w.heap.size 3 i0 (.int .i64 0) 8 Tryz.underlying31 E.out.2.2.2 E.out.1 E.out.2.1 E.out.2.2.1 rfl _ 1 [i] rfl O5.out A2 n2 c2 _ l rfl R5.out (by unfold maxLen; omega) (by omega) G5.out.size ?_; intro A6 c6 w6 own1 rd1 gr1; have O6 := Lib.hid own1; have G6 := Lib.hid (li.grown_own G5.out O5.out gr1 (Nat.le_refl _)); have H6 := Lib.hid (HH.out.new G6.out); have z6 := H6.out.fz (1 + P); have f6 := H6.out.at HV.out; clear own1 gr1 rd1)
    | (refine wpList_append_rd rfl (.tmp 33) (.tmp 39) 31 rfl w.heap.size 3 i0 (.int .i64 0) 8 Tryz.underlying31 E.out.2.2.2 E.out.1 E.out.2.1 E.out.2.2.1 rfl _ 0 [] rfl (World.ownsRow_nil _ _ _ _) (some ⟨w2.heap.size, 0, none⟩) 1 1 _ [i] rfl (li.Rd.one _ _ _) (by unfold maxLen; omega) (by omega) (by have := G2.out.size; simp; omega) ?_; intro A5 c5 w5 own1 rd1 gr1; have O5 := Lib.hid own1; have G5 := Lib.hid (li.grown_one G2.out (World.ownsRow_nil _ w.heap.size 3 1) (Nat.le_refl _) gr1); have R5 := Lib.hid (bm.Rd.below' R2.out (li.grown_below G5.out) G5.out.size); have f5 := (HH.out.new G5.out).at HV.out; clear own1 gr1 rd1))
  go_end0
  have FX := Lib.hid (Fx.own (V := V) (l := i :: l) O6.out HH.out.lt)
  have H7 := Lib.hid (H6.out.list p64 FX.out)
  have G7 := Lib.hid ((Gr.new (L := [H]) G6.out).trans (Gr.set w6 H (1 + P) (.slice A6 (1 + n2) c6) (by simp)))
  exact ⟨_, _, rfl, H7.out, G7.out⟩
theorem any_at {P : Program} {md : Region.Mode} {ops : Array Oper} {Q : Exit → Act → World → Prop} {S : World → Prop} {fuel : Nat} {listed : Array Bool} {a b : Act} {w : World} (h : a = b) (hq : wpAnyH P md ops Q S fuel listed b w) : wpAnyH P md ops Q S fuel listed a w := h ▸ hq
theorem rGive_large (h : Hh w V H vk vs tl ks fr) (hks : pg.Ks ks) (hl : ks.length ≤ 64) {a P : Nat} (hP : (a : Int) / 32 = P) (hk : pg.kind ks P = 5) :
    Calls Tryz.prog 131 #[.pointer (some ⟨H, 0, none⟩), .int .i64 a] w fun e w' => ∃ vk' vs', e = nil0 ∧ Hh w' V H vk' vs' tl (pg.fillN ks P 0 (pg.siz ks P).toNat) fr ∧ Gr [H] w w' := by
  have f := h.h0
  obtain ⟨P', eP, p64, pl⟩ := ce.there hl (z := (P : Int)) (by omega)
  obtain rfl : P = P' := by omega
  obtain ⟨A, n, c, rfl, hr, ha, hn, hc⟩ := h.kd
  have pn : P < n := by have := hr.1; omega
  have RK := Lib.hid hr
  have hr2 := hr
  obtain ⟨b1, o1, rfl, k0⟩ := hr2.at_ (k := P) pn
  rw [← pg.kind_in pl, hk] at k0
  have n64 : n ≤ 64 := by have := hr.1; omega
  have sw := pg.siz_wide ks P
  have SZ := Lib.hid (fun W (hg : w.grownBy W none) => pg.rSiz_any n64 (Nat.le_refl _) (bm.Rd.below' hr (li.grown_below hg) hg.size) hks P)
  have hin := pg.siz_in (xs := ks) (p := P) (by have := siz_ge (ks := ks) (p := P) (by omega); omega)
  obtain ⟨m, hm⟩ : ∃ m, pg.siz ks P = m := ⟨_, rfl⟩
  rw [hm] at SZ sw hin
  have LY := Lib.hid (show (pg.fillN ks P 0 (pg.siz ks P).toNat).length = n by rw [pg.fillN_length]; exact hr.1)
  have S1 := Lib.hid (fun W (h1 : Rd W W.heap.size (some ⟨b1, o1, none⟩) n c ks) => pg.rSet_any (pg.fillN ks P 0 (pg.siz ks P).toNat) n64 h1 P m 0 (by simp [fits]; omega) (by omega) (by rw [pg.fillN_length]; exact hr.1) (fun i hi => by
    rw [pg.fillN_getD _ _ _ _ (by omega), hm]
    repeat' split
    all_goals first | rfl | omega))
  have HH := Lib.hid h
  have a0 : (0 : Int) ≤ a := by omega
  have a2 : (a : Int) ≤ 2047 := by omega
  clear hks hl hk h hr eP pl ha hin sw hm
  generalize pg.fillN ks P 0 (pg.siz ks P).toNat = ys at *
  go_enter Tryz.func131, Tryz.ntmps131
  go_wp2
  refine wp_region_held_drew (S := fun _ => True) (by kernel_rfl) trivial (fun _ => ?_)
  refine wpAnyH_take (i := 0) (v := .pointer (some ⟨H, 0, none⟩)) rfl (by kernel_rfl) (by kernel_rfl) (by kernel_rfl) (fun _ _ _ h => h) (Or.inl ⟨by kernel_rfl, fun _ _ => by rfl⟩) trivial ?_
  refine any_at (b := { tmps := #[.pointer (some ⟨H, 0, none⟩), .int .i64 a, undef, undef, .int .i64 P, .int .i64 5, undef, .int .i64 a, .int .i64 P, .pointer (some ⟨H, 0, none⟩), .pointer (some ⟨H, 0, none⟩), .pointer (some ⟨H, 0, none⟩), .slice (some ⟨b1, o1, none⟩) n c, .int .i64 P, .pointer (some ⟨b1, o1 + P, none⟩), .int .i64 5, .int .i64 5, .bool true, .pointer (some ⟨H, 0, none⟩), undef, undef, undef, undef, undef, undef, undef, undef, undef, undef, undef, undef, undef, undef, undef, undef, undef, undef, undef, undef, undef, undef, undef, undef, undef, undef, undef, undef, undef, undef, undef, undef, undef, undef, undef, undef], defers := [] }) (by kernel_rfl) ?_
  refine wpAnyH_take (i := 1) (v := .pointer (some ⟨H, 0, none⟩)) rfl (by kernel_rfl) (by kernel_rfl) (by kernel_rfl) (fun _ _ _ h => h) (Or.inl ⟨by kernel_rfl, fun _ _ => by rfl⟩) trivial ?_
  refine any_at (b := { tmps := #[.pointer (some ⟨H, 0, none⟩), .int .i64 a, undef, undef, .int .i64 P, .int .i64 5, undef, .int .i64 a, .int .i64 P, .pointer (some ⟨H, 0, none⟩), .pointer (some ⟨H, 0, none⟩), .pointer (some ⟨H, 0, none⟩), .slice (some ⟨b1, o1, none⟩) n c, .int .i64 P, .pointer (some ⟨b1, o1 + P, none⟩), .int .i64 5, .int .i64 5, .bool true, .pointer (some ⟨H, 0, none⟩), .pointer (some ⟨H, 0, none⟩), undef, undef, undef, undef, undef, undef, undef, undef, undef, undef, undef, undef, undef, undef, undef, undef, undef, undef, undef, undef, undef, undef, undef, undef, undef, undef, undef, undef, undef, undef, undef, undef, undef, undef, undef], defers := [] }) (by kernel_rfl) ?_
  refine wpAnyH_take (i := 2) (v := .pointer (some ⟨H, 0, none⟩)) rfl (by kernel_rfl) (by kernel_rfl) (by kernel_rfl) (fun _ _ _ h => h) (Or.inl ⟨by kernel_rfl, fun _ _ => by go_simp⟩) trivial ?_
  refine any_at (b := { tmps := #[.pointer (some ⟨H, 0, none⟩), .int .i64 a, undef, undef, .int .i64 P, .int .i64 5, undef, .int .i64 a, .int .i64 P, .pointer (some ⟨H, 0, none⟩), .pointer (some ⟨H, 0, none⟩), .pointer (some ⟨H, 0, none⟩), .slice (some ⟨b1, o1, none⟩) n c, .int .i64 P, .pointer (some ⟨b1, o1 + P, none⟩), .int .i64 5, .int .i64 5, .bool true, .pointer (some ⟨H, 0, none⟩), .pointer (some ⟨H, 0, none⟩), .pointer (some ⟨H, 0, none⟩), undef, undef, undef, undef, undef, undef, undef, undef, undef, undef, undef, undef, undef, undef, undef, undef, undef, undef, undef, undef, undef, undef, undef, undef, undef, undef, undef, undef, undef, undef, undef, undef, undef, undef], defers := [] }) (by kernel_rfl) ?_
  refine wpAnyH_take (i := 3) (v := .pointer (some ⟨H, 0, none⟩)) rfl (by kernel_rfl) (by kernel_rfl) (by kernel_rfl) (fun _ _ _ h => h) (Or.inl ⟨by kernel_rfl, fun _ _ => by go_simp⟩) trivial ?_
  refine any_at (b := { tmps := #[.pointer (some ⟨H, 0, none⟩), .int .i64 a, undef, undef, .int .i64 P, .int .i64 5, undef, .int .i64 a, .int .i64 P, .pointer (some ⟨H, 0, none⟩), .pointer (some ⟨H, 0, none⟩), .pointer (some ⟨H, 0, none⟩), .slice (some ⟨b1, o1, none⟩) n c, .int .i64 P, .pointer (some ⟨b1, o1 + P, none⟩), .int .i64 5, .int .i64 5, .bool true, .pointer (some ⟨H, 0, none⟩), .pointer (some ⟨H, 0, none⟩), .pointer (some ⟨H, 0, none⟩), .pointer (some ⟨H, 0, none⟩), undef, undef, undef, undef, undef, undef, undef, undef, undef, undef, undef, undef, undef, undef, undef, undef, undef, undef, undef, undef, undef, undef, undef, undef, undef, undef, undef, undef, undef, undef, undef, undef, undef], defers := [] }) (by kernel_rfl) ?_
  refine wpAnyH_take (i := 5) (v := .int .i64 P) rfl (by kernel_rfl) (by kernel_rfl) (by kernel_rfl) (fun _ _ _ h => h) (Or.inl ⟨by kernel_rfl, fun _ _ => by rfl⟩) trivial ?_
  refine any_at (b := { tmps := #[.pointer (some ⟨H, 0, none⟩), .int .i64 a, undef, undef, .int .i64 P, .int .i64 5, undef, .int .i64 a, .int .i64 P, .pointer (some ⟨H, 0, none⟩), .pointer (some ⟨H, 0, none⟩), .pointer (some ⟨H, 0, none⟩), .slice (some ⟨b1, o1, none⟩) n c, .int .i64 P, .pointer (some ⟨b1, o1 + P, none⟩), .int .i64 5, .int .i64 5, .bool true, .pointer (some ⟨H, 0, none⟩), .pointer (some ⟨H, 0, none⟩), .pointer (some ⟨H, 0, none⟩), .pointer (some ⟨H, 0, none⟩), undef, .int .i64 P, undef, undef, undef, undef, undef, undef, undef, undef, undef, undef, undef, undef, undef, undef, undef, undef, undef, undef, undef, undef, undef, undef, undef, undef, undef, undef, undef, undef, undef, undef, undef], defers := [] }) (by kernel_rfl) ?_
  refine wpAnyH_take (i := 6) (v := .pointer (some ⟨H, 0, none⟩)) rfl (by kernel_rfl) (by kernel_rfl) (by kernel_rfl) (fun _ _ _ h => h) (Or.inl ⟨by kernel_rfl, fun _ _ => by rfl⟩) trivial ?_
  refine any_at (b := { tmps := #[.pointer (some ⟨H, 0, none⟩), .int .i64 a, undef, undef, .int .i64 P, .int .i64 5, undef, .int .i64 a, .int .i64 P, .pointer (some ⟨H, 0, none⟩), .pointer (some ⟨H, 0, none⟩), .pointer (some ⟨H, 0, none⟩), .slice (some ⟨b1, o1, none⟩) n c, .int .i64 P, .pointer (some ⟨b1, o1 + P, none⟩), .int .i64 5, .int .i64 5, .bool true, .pointer (some ⟨H, 0, none⟩), .pointer (some ⟨H, 0, none⟩), .pointer (some ⟨H, 0, none⟩), .pointer (some ⟨H, 0, none⟩), undef, .int .i64 P, .pointer (some ⟨H, 0, none⟩), undef, undef, undef, undef, undef, undef, undef, undef, undef, undef, undef, undef, undef, undef, undef, undef, undef, undef, undef, undef, undef, undef, undef, undef, undef, undef, undef, undef, undef, undef], defers := [] }) (by kernel_rfl) ?_
  refine wpAnyH_take (i := 7) (v := .pointer (some ⟨H, 0, none⟩)) rfl (by kernel_rfl) (by kernel_rfl) (by kernel_rfl) (fun _ _ _ h => h) (Or.inl ⟨by kernel_rfl, fun _ _ => by go_simp⟩) trivial ?_
  refine any_at (b := { tmps := #[.pointer (some ⟨H, 0, none⟩), .int .i64 a, undef, undef, .int .i64 P, .int .i64 5, undef, .int .i64 a, .int .i64 P, .pointer (some ⟨H, 0, none⟩), .pointer (some ⟨H, 0, none⟩), .pointer (some ⟨H, 0, none⟩), .slice (some ⟨b1, o1, none⟩) n c, .int .i64 P, .pointer (some ⟨b1, o1 + P, none⟩), .int .i64 5, .int .i64 5, .bool true, .pointer (some ⟨H, 0, none⟩), .pointer (some ⟨H, 0, none⟩), .pointer (some ⟨H, 0, none⟩), .pointer (some ⟨H, 0, none⟩), undef, .int .i64 P, .pointer (some ⟨H, 0, none⟩), .pointer (some ⟨H, 0, none⟩), undef, undef, undef, undef, undef, undef, undef, undef, undef, undef, undef, undef, undef, undef, undef, undef, undef, undef, undef, undef, undef, undef, undef, undef, undef, undef, undef, undef, undef], defers := [] }) (by kernel_rfl) ?_
  refine wpAnyH_take (i := 8) (v := .pointer (some ⟨H, 0, none⟩)) rfl (by kernel_rfl) (by kernel_rfl) (by kernel_rfl) (fun _ _ _ h => h) (Or.inl ⟨by kernel_rfl, fun _ _ => by go_simp⟩) trivial ?_
  refine any_at (b := { tmps := #[.pointer (some ⟨H, 0, none⟩), .int .i64 a, undef, undef, .int .i64 P, .int .i64 5, undef, .int .i64 a, .int .i64 P, .pointer (some ⟨H, 0, none⟩), .pointer (some ⟨H, 0, none⟩), .pointer (some ⟨H, 0, none⟩), .slice (some ⟨b1, o1, none⟩) n c, .int .i64 P, .pointer (some ⟨b1, o1 + P, none⟩), .int .i64 5, .int .i64 5, .bool true, .pointer (some ⟨H, 0, none⟩), .pointer (some ⟨H, 0, none⟩), .pointer (some ⟨H, 0, none⟩), .pointer (some ⟨H, 0, none⟩), undef, .int .i64 P, .pointer (some ⟨H, 0, none⟩), .pointer (some ⟨H, 0, none⟩), .pointer (some ⟨H, 0, none⟩), undef, undef, undef, undef, undef, undef, undef, undef, undef, undef, undef, undef, undef, undef, undef, undef, undef, undef, undef, undef, undef, undef, undef, undef, undef, undef, undef, undef], defers := [] }) (by kernel_rfl) ?_
  refine wpAnyH_take (i := 10) (v := .int .i64 P) rfl (by kernel_rfl) (by kernel_rfl) (by kernel_rfl) (fun _ _ _ h => h) (Or.inl ⟨by kernel_rfl, fun _ _ => by rfl⟩) trivial ?_
  refine any_at (b := { tmps := #[.pointer (some ⟨H, 0, none⟩), .int .i64 a, undef, undef, .int .i64 P, .int .i64 5, undef, .int .i64 a, .int .i64 P, .pointer (some ⟨H, 0, none⟩), .pointer (some ⟨H, 0, none⟩), .pointer (some ⟨H, 0, none⟩), .slice (some ⟨b1, o1, none⟩) n c, .int .i64 P, .pointer (some ⟨b1, o1 + P, none⟩), .int .i64 5, .int .i64 5, .bool true, .pointer (some ⟨H, 0, none⟩), .pointer (some ⟨H, 0, none⟩), .pointer (some ⟨H, 0, none⟩), .pointer (some ⟨H, 0, none⟩), undef, .int .i64 P, .pointer (some ⟨H, 0, none⟩), .pointer (some ⟨H, 0, none⟩), .pointer (some ⟨H, 0, none⟩), undef, .int .i64 P, undef, undef, undef, undef, undef, undef, undef, undef, undef, undef, undef, undef, undef, undef, undef, undef, undef, undef, undef, undef, undef, undef, undef, undef, undef, undef], defers := [] }) (by kernel_rfl) ?_
  refine wpAnyH_ready (rs := [4, 9]) (by kernel_rfl) (by simp) (AllReadyH.cons rfl (fun K hK => ?_) (AllReadyH.cons rfl (fun K hK => ?_) AllReadyH.nil))
  · skip
    go_simp
    refine hK.out _ _ trivial (fun _ => ?_)
    clear hK K
    refine any_at (b := { tmps := #[.pointer (some ⟨H, 0, none⟩), .int .i64 a, undef, undef, .int .i64 P, .int .i64 5, undef, .int .i64 a, .int .i64 P, .pointer (some ⟨H, 0, none⟩), .pointer (some ⟨H, 0, none⟩), .pointer (some ⟨H, 0, none⟩), .slice (some ⟨b1, o1, none⟩) n c, .int .i64 P, .pointer (some ⟨b1, o1 + P, none⟩), .int .i64 5, .int .i64 5, .bool true, .pointer (some ⟨H, 0, none⟩), .pointer (some ⟨H, 0, none⟩), .pointer (some ⟨H, 0, none⟩), .pointer (some ⟨H, 0, none⟩), .slice (some ⟨b1, o1, none⟩) n c, .int .i64 P, .pointer (some ⟨H, 0, none⟩), .pointer (some ⟨H, 0, none⟩), .pointer (some ⟨H, 0, none⟩), undef, .int .i64 P, undef, undef, undef, undef, undef, undef, undef, undef, undef, undef, undef, undef, undef, undef, undef, undef, undef, undef, undef, undef, undef, undef, undef, undef, undef, undef], defers := [] }) (by kernel_rfl) ?_
    refine wpAnyH_ready (rs := [9]) (by kernel_rfl) (by simp) (AllReadyH.cons rfl (fun K hK => ?_) AllReadyH.nil)
    go_simp
    refine hK.out _ _ trivial (fun _ => ?_)
    clear hK K
    refine any_at (b := { tmps := #[.pointer (some ⟨H, 0, none⟩), .int .i64 a, undef, undef, .int .i64 P, .int .i64 5, undef, .int .i64 a, .int .i64 P, .pointer (some ⟨H, 0, none⟩), .pointer (some ⟨H, 0, none⟩), .pointer (some ⟨H, 0, none⟩), .slice (some ⟨b1, o1, none⟩) n c, .int .i64 P, .pointer (some ⟨b1, o1 + P, none⟩), .int .i64 5, .int .i64 5, .bool true, .pointer (some ⟨H, 0, none⟩), .pointer (some ⟨H, 0, none⟩), .pointer (some ⟨H, 0, none⟩), .pointer (some ⟨H, 0, none⟩), .slice (some ⟨b1, o1, none⟩) n c, .int .i64 P, .pointer (some ⟨H, 0, none⟩), .pointer (some ⟨H, 0, none⟩), .pointer (some ⟨H, 0, none⟩), .slice (some ⟨b1, o1, none⟩) n c, .int .i64 P, undef, undef, undef, undef, undef, undef, undef, undef, undef, undef, undef, undef, undef, undef, undef, undef, undef, undef, undef, undef, undef, undef, undef, undef, undef, undef], defers := [] }) (by kernel_rfl) ?_
    refine wpAnyH_ready (rs := [11]) (by kernel_rfl) (by simp) (AllReadyH.cons rfl (fun K hK => ?_) AllReadyH.nil)
    go_simp
    (go_at_call 156; (with_reducible refine (SZ.out _ (ch.grown_drew _ _)).mono ?_); rintro e w2 ⟨rfl, hg⟩; have G2 := Lib.hid ((ch.grown_drew w none).trans hg); have f2 := (HH.out.new G2.out).h0; have R2 := Lib.hid (bm.Rd.below' RK.out (li.grown_below G2.out) G2.out.size); clear hg)
    refine hK.out _ _ trivial (fun _ => ?_)
    clear hK K
    refine any_at (b := { tmps := #[.pointer (some ⟨H, 0, none⟩), .int .i64 a, undef, undef, .int .i64 P, .int .i64 5, undef, .int .i64 a, .int .i64 P, .pointer (some ⟨H, 0, none⟩), .pointer (some ⟨H, 0, none⟩), .pointer (some ⟨H, 0, none⟩), .slice (some ⟨b1, o1, none⟩) n c, .int .i64 P, .pointer (some ⟨b1, o1 + P, none⟩), .int .i64 5, .int .i64 5, .bool true, .pointer (some ⟨H, 0, none⟩), .pointer (some ⟨H, 0, none⟩), .pointer (some ⟨H, 0, none⟩), .pointer (some ⟨H, 0, none⟩), .slice (some ⟨b1, o1, none⟩) n c, .int .i64 P, .pointer (some ⟨H, 0, none⟩), .pointer (some ⟨H, 0, none⟩), .pointer (some ⟨H, 0, none⟩), .slice (some ⟨b1, o1, none⟩) n c, .int .i64 P, .int .i64 m, undef, undef, undef, undef, undef, undef, undef, undef, undef, undef, undef, undef, undef, undef, undef, undef, undef, undef, undef, undef, undef, undef, undef, undef, undef], defers := [] }) (by kernel_rfl) ?_
    refine wpAnyH_ready (rs := [12]) (by kernel_rfl) (by simp) (AllReadyH.cons rfl (fun K hK => ?_) AllReadyH.nil)
    go_simp
    (go_at_call 100; (with_reducible refine (S1.out _ R2.out).mono ?_); rintro e w3 ⟨A3, c3, rfl, ho, hg⟩; rw [LY.out] at ho ⊢; have G3 := Lib.hid (G2.out.trans hg); have H3 := Lib.hid (HH.out.new G3.out); have f3 := H3.out.h0; have z3 := H3.out.fz 0; have F3 := Lib.hid (Fx.own (V := V) ho (fun k hk => Nat.lt_of_lt_of_le (HH.out.lt k hk) G2.out.size)); have H4 := Lib.hid (H3.out.kinds F3.out); have G4 := Lib.hid ((Gr.new (L := [H]) G3.out).trans (Gr.set w3 H 0 (.slice A3 n c3) (by simp))); clear ho hg)
    refine hK.out _ _ trivial (fun _ => ?_)
    clear hK K
    refine any_at (b := { tmps := #[.pointer (some ⟨H, 0, none⟩), .int .i64 a, undef, undef, .int .i64 P, .int .i64 5, undef, .int .i64 a, .int .i64 P, .pointer (some ⟨H, 0, none⟩), .pointer (some ⟨H, 0, none⟩), .pointer (some ⟨H, 0, none⟩), .slice (some ⟨b1, o1, none⟩) n c, .int .i64 P, .pointer (some ⟨b1, o1 + P, none⟩), .int .i64 5, .int .i64 5, .bool true, .pointer (some ⟨H, 0, none⟩), .pointer (some ⟨H, 0, none⟩), .pointer (some ⟨H, 0, none⟩), .pointer (some ⟨H, 0, none⟩), .slice (some ⟨b1, o1, none⟩) n c, .int .i64 P, .pointer (some ⟨H, 0, none⟩), .pointer (some ⟨H, 0, none⟩), .pointer (some ⟨H, 0, none⟩), .slice (some ⟨b1, o1, none⟩) n c, .int .i64 P, .int .i64 m, .slice A3 n c3, undef, undef, undef, undef, undef, undef, undef, undef, undef, undef, undef, undef, undef, undef, undef, undef, undef, undef, undef, undef, undef, undef, undef, undef], defers := [] }) (by kernel_rfl) ?_
    refine wpAnyH_take (i := 13) (v := .pointer (some ⟨H, 0, none⟩)) rfl (by kernel_rfl) (by kernel_rfl) (by kernel_rfl) (fun _ _ _ h => h) (Or.inl ⟨by kernel_rfl, fun _ _ => by go_simp⟩) trivial ?_
    refine any_at (b := { tmps := #[.pointer (some ⟨H, 0, none⟩), .int .i64 a, undef, undef, .int .i64 P, .int .i64 5, undef, .int .i64 a, .int .i64 P, .pointer (some ⟨H, 0, none⟩), .pointer (some ⟨H, 0, none⟩), .pointer (some ⟨H, 0, none⟩), .slice (some ⟨b1, o1, none⟩) n c, .int .i64 P, .pointer (some ⟨b1, o1 + P, none⟩), .int .i64 5, .int .i64 5, .bool true, .pointer (some ⟨H, 0, none⟩), .pointer (some ⟨H, 0, none⟩), .pointer (some ⟨H, 0, none⟩), .pointer (some ⟨H, 0, none⟩), .slice (some ⟨b1, o1, none⟩) n c, .int .i64 P, .pointer (some ⟨H, 0, none⟩), .pointer (some ⟨H, 0, none⟩), .pointer (some ⟨H, 0, none⟩), .slice (some ⟨b1, o1, none⟩) n c, .int .i64 P, .int .i64 m, .slice A3 n c3, .pointer (some ⟨H, 0, none⟩), undef, undef, undef, undef, undef, undef, undef, undef, undef, undef, undef, undef, undef, undef, undef, undef, undef, undef, undef, undef, undef, undef, undef], defers := [] }) (by kernel_rfl) ?_
    refine wpAnyH_take (i := 14) (v := .pointer (some ⟨H, 0, none⟩)) rfl (by kernel_rfl) (by kernel_rfl) (by kernel_rfl) (fun _ _ _ h => h) (Or.inl ⟨by kernel_rfl, fun _ _ => by go_simp⟩) trivial ?_
    refine any_at (b := { tmps := #[.pointer (some ⟨H, 0, none⟩), .int .i64 a, undef, undef, .int .i64 P, .int .i64 5, undef, .int .i64 a, .int .i64 P, .pointer (some ⟨H, 0, none⟩), .pointer (some ⟨H, 0, none⟩), .pointer (some ⟨H, 0, none⟩), .slice (some ⟨b1, o1, none⟩) n c, .int .i64 P, .pointer (some ⟨b1, o1 + P, none⟩), .int .i64 5, .int .i64 5, .bool true, .pointer (some ⟨H, 0, none⟩), .pointer (some ⟨H, 0, none⟩), .pointer (some ⟨H, 0, none⟩), .pointer (some ⟨H, 0, none⟩), .slice (some ⟨b1, o1, none⟩) n c, .int .i64 P, .pointer (some ⟨H, 0, none⟩), .pointer (some ⟨H, 0, none⟩), .pointer (some ⟨H, 0, none⟩), .slice (some ⟨b1, o1, none⟩) n c, .int .i64 P, .int .i64 m, .slice A3 n c3, .pointer (some ⟨H, 0, none⟩), .pointer (some ⟨H, 0, none⟩), undef, undef, undef, undef, undef, undef, undef, undef, undef, undef, undef, undef, undef, undef, undef, undef, undef, undef, undef, undef, undef, undef], defers := [] }) (by kernel_rfl) ?_
    refine wpAnyH_ready (rs := [15]) (by kernel_rfl) (by simp) (AllReadyH.cons rfl (fun K hK => ?_) AllReadyH.nil)
    go_simp
    refine hK.out _ _ trivial (fun _ => ?_)
    clear hK K
    refine wpAnyH_done (by kernel_rfl) ?_ _
    refine then_at (b := { tmps := #[.pointer (some ⟨H, 0, none⟩), .int .i64 a, undef, undef, .int .i64 P, .int .i64 5, undef, .int .i64 a, .int .i64 P, .pointer (some ⟨H, 0, none⟩), .pointer (some ⟨H, 0, none⟩), .pointer (some ⟨H, 0, none⟩), .slice (some ⟨b1, o1, none⟩) n c, .int .i64 P, .pointer (some ⟨b1, o1 + P, none⟩), .int .i64 5, .int .i64 5, .bool true, .pointer (some ⟨H, 0, none⟩), .pointer (some ⟨H, 0, none⟩), .pointer (some ⟨H, 0, none⟩), .pointer (some ⟨H, 0, none⟩), .slice (some ⟨b1, o1, none⟩) n c, .int .i64 P, .pointer (some ⟨H, 0, none⟩), .pointer (some ⟨H, 0, none⟩), .pointer (some ⟨H, 0, none⟩), .slice (some ⟨b1, o1, none⟩) n c, .int .i64 P, .int .i64 m, .slice A3 n c3, .pointer (some ⟨H, 0, none⟩), .pointer (some ⟨H, 0, none⟩), undef, undef, undef, undef, undef, undef, undef, undef, undef, undef, undef, undef, undef, undef, undef, undef, undef, undef, undef, undef, undef, undef], defers := [] }) (by kernel_rfl) ?_
    go_wp2
    refine bodyPost_ret (v := .tuple #[]) ?_ rfl ⟨_, _, rfl, H4.out, G4.out⟩
    simp [results, Tryz.results131, go_sem]
  · skip
    go_simp
    refine hK.out _ _ trivial (fun _ => ?_)
    clear hK K
    refine any_at (b := { tmps := #[.pointer (some ⟨H, 0, none⟩), .int .i64 a, undef, undef, .int .i64 P, .int .i64 5, undef, .int .i64 a, .int .i64 P, .pointer (some ⟨H, 0, none⟩), .pointer (some ⟨H, 0, none⟩), .pointer (some ⟨H, 0, none⟩), .slice (some ⟨b1, o1, none⟩) n c, .int .i64 P, .pointer (some ⟨b1, o1 + P, none⟩), .int .i64 5, .int .i64 5, .bool true, .pointer (some ⟨H, 0, none⟩), .pointer (some ⟨H, 0, none⟩), .pointer (some ⟨H, 0, none⟩), .pointer (some ⟨H, 0, none⟩), undef, .int .i64 P, .pointer (some ⟨H, 0, none⟩), .pointer (some ⟨H, 0, none⟩), .pointer (some ⟨H, 0, none⟩), .slice (some ⟨b1, o1, none⟩) n c, .int .i64 P, undef, undef, undef, undef, undef, undef, undef, undef, undef, undef, undef, undef, undef, undef, undef, undef, undef, undef, undef, undef, undef, undef, undef, undef, undef, undef], defers := [] }) (by kernel_rfl) ?_
    refine wpAnyH_ready (rs := [4, 11]) (by kernel_rfl) (by simp) (AllReadyH.cons rfl (fun K hK => ?_) (AllReadyH.cons rfl (fun K hK => ?_) AllReadyH.nil))
    · skip
      go_simp
      refine hK.out _ _ trivial (fun _ => ?_)
      clear hK K
      refine any_at (b := { tmps := #[.pointer (some ⟨H, 0, none⟩), .int .i64 a, undef, undef, .int .i64 P, .int .i64 5, undef, .int .i64 a, .int .i64 P, .pointer (some ⟨H, 0, none⟩), .pointer (some ⟨H, 0, none⟩), .pointer (some ⟨H, 0, none⟩), .slice (some ⟨b1, o1, none⟩) n c, .int .i64 P, .pointer (some ⟨b1, o1 + P, none⟩), .int .i64 5, .int .i64 5, .bool true, .pointer (some ⟨H, 0, none⟩), .pointer (some ⟨H, 0, none⟩), .pointer (some ⟨H, 0, none⟩), .pointer (some ⟨H, 0, none⟩), .slice (some ⟨b1, o1, none⟩) n c, .int .i64 P, .pointer (some ⟨H, 0, none⟩), .pointer (some ⟨H, 0, none⟩), .pointer (some ⟨H, 0, none⟩), .slice (some ⟨b1, o1, none⟩) n c, .int .i64 P, undef, undef, undef, undef, undef, undef, undef, undef, undef, undef, undef, undef, undef, undef, undef, undef, undef, undef, undef, undef, undef, undef, undef, undef, undef, undef], defers := [] }) (by kernel_rfl) ?_
      refine wpAnyH_ready (rs := [11]) (by kernel_rfl) (by simp) (AllReadyH.cons rfl (fun K hK => ?_) AllReadyH.nil)
      go_simp
      (go_at_call 156; (with_reducible refine (SZ.out _ (ch.grown_drew _ _)).mono ?_); rintro e w2 ⟨rfl, hg⟩; have G2 := Lib.hid ((ch.grown_drew w none).trans hg); have f2 := (HH.out.new G2.out).h0; have R2 := Lib.hid (bm.Rd.below' RK.out (li.grown_below G2.out) G2.out.size); clear hg)
      refine hK.out _ _ trivial (fun _ => ?_)
      clear hK K
      refine any_at (b := { tmps := #[.pointer (some ⟨H, 0, none⟩), .int .i64 a, undef, undef, .int .i64 P, .int .i64 5, undef, .int .i64 a, .int .i64 P, .pointer (some ⟨H, 0, none⟩), .pointer (some ⟨H, 0, none⟩), .pointer (some ⟨H, 0, none⟩), .slice (some ⟨b1, o1, none⟩) n c, .int .i64 P, .pointer (some ⟨b1, o1 + P, none⟩), .int .i64 5, .int .i64 5, .bool true, .pointer (some ⟨H, 0, none⟩), .pointer (some ⟨H, 0, none⟩), .pointer (some ⟨H, 0, none⟩), .pointer (some ⟨H, 0, none⟩), .slice (some ⟨b1, o1, none⟩) n c, .int .i64 P, .pointer (some ⟨H, 0, none⟩), .pointer (some ⟨H, 0, none⟩), .pointer (some ⟨H, 0, none⟩), .slice (some ⟨b1, o1, none⟩) n c, .int .i64 P, .int .i64 m, undef, undef, undef, undef, undef, undef, undef, undef, undef, undef, undef, undef, undef, undef, undef, undef, undef, undef, undef, undef, undef, undef, undef, undef, undef], defers := [] }) (by kernel_rfl) ?_
      refine wpAnyH_ready (rs := [12]) (by kernel_rfl) (by simp) (AllReadyH.cons rfl (fun K hK => ?_) AllReadyH.nil)
      go_simp
      (go_at_call 100; (with_reducible refine (S1.out _ R2.out).mono ?_); rintro e w3 ⟨A3, c3, rfl, ho, hg⟩; rw [LY.out] at ho ⊢; have G3 := Lib.hid (G2.out.trans hg); have H3 := Lib.hid (HH.out.new G3.out); have f3 := H3.out.h0; have z3 := H3.out.fz 0; have F3 := Lib.hid (Fx.own (V := V) ho (fun k hk => Nat.lt_of_lt_of_le (HH.out.lt k hk) G2.out.size)); have H4 := Lib.hid (H3.out.kinds F3.out); have G4 := Lib.hid ((Gr.new (L := [H]) G3.out).trans (Gr.set w3 H 0 (.slice A3 n c3) (by simp))); clear ho hg)
      refine hK.out _ _ trivial (fun _ => ?_)
      clear hK K
      refine any_at (b := { tmps := #[.pointer (some ⟨H, 0, none⟩), .int .i64 a, undef, undef, .int .i64 P, .int .i64 5, undef, .int .i64 a, .int .i64 P, .pointer (some ⟨H, 0, none⟩), .pointer (some ⟨H, 0, none⟩), .pointer (some ⟨H, 0, none⟩), .slice (some ⟨b1, o1, none⟩) n c, .int .i64 P, .pointer (some ⟨b1, o1 + P, none⟩), .int .i64 5, .int .i64 5, .bool true, .pointer (some ⟨H, 0, none⟩), .pointer (some ⟨H, 0, none⟩), .pointer (some ⟨H, 0, none⟩), .pointer (some ⟨H, 0, none⟩), .slice (some ⟨b1, o1, none⟩) n c, .int .i64 P, .pointer (some ⟨H, 0, none⟩), .pointer (some ⟨H, 0, none⟩), .pointer (some ⟨H, 0, none⟩), .slice (some ⟨b1, o1, none⟩) n c, .int .i64 P, .int .i64 m, .slice A3 n c3, undef, undef, undef, undef, undef, undef, undef, undef, undef, undef, undef, undef, undef, undef, undef, undef, undef, undef, undef, undef, undef, undef, undef, undef], defers := [] }) (by kernel_rfl) ?_
      refine wpAnyH_take (i := 13) (v := .pointer (some ⟨H, 0, none⟩)) rfl (by kernel_rfl) (by kernel_rfl) (by kernel_rfl) (fun _ _ _ h => h) (Or.inl ⟨by kernel_rfl, fun _ _ => by go_simp⟩) trivial ?_
      refine any_at (b := { tmps := #[.pointer (some ⟨H, 0, none⟩), .int .i64 a, undef, undef, .int .i64 P, .int .i64 5, undef, .int .i64 a, .int .i64 P, .pointer (some ⟨H, 0, none⟩), .pointer (some ⟨H, 0, none⟩), .pointer (some ⟨H, 0, none⟩), .slice (some ⟨b1, o1, none⟩) n c, .int .i64 P, .pointer (some ⟨b1, o1 + P, none⟩), .int .i64 5, .int .i64 5, .bool true, .pointer (some ⟨H, 0, none⟩), .pointer (some ⟨H, 0, none⟩), .pointer (some ⟨H, 0, none⟩), .pointer (some ⟨H, 0, none⟩), .slice (some ⟨b1, o1, none⟩) n c, .int .i64 P, .pointer (some ⟨H, 0, none⟩), .pointer (some ⟨H, 0, none⟩), .pointer (some ⟨H, 0, none⟩), .slice (some ⟨b1, o1, none⟩) n c, .int .i64 P, .int .i64 m, .slice A3 n c3, .pointer (some ⟨H, 0, none⟩), undef, undef, undef, undef, undef, undef, undef, undef, undef, undef, undef, undef, undef, undef, undef, undef, undef, undef, undef, undef, undef, undef, undef], defers := [] }) (by kernel_rfl) ?_
      refine wpAnyH_take (i := 14) (v := .pointer (some ⟨H, 0, none⟩)) rfl (by kernel_rfl) (by kernel_rfl) (by kernel_rfl) (fun _ _ _ h => h) (Or.inl ⟨by kernel_rfl, fun _ _ => by go_simp⟩) trivial ?_
      refine any_at (b := { tmps := #[.pointer (some ⟨H, 0, none⟩), .int .i64 a, undef, undef, .int .i64 P, .int .i64 5, undef, .int .i64 a, .int .i64 P, .pointer (some ⟨H, 0, none⟩), .pointer (some ⟨H, 0, none⟩), .pointer (some ⟨H, 0, none⟩), .slice (some ⟨b1, o1, none⟩) n c, .int .i64 P, .pointer (some ⟨b1, o1 + P, none⟩), .int .i64 5, .int .i64 5, .bool true, .pointer (some ⟨H, 0, none⟩), .pointer (some ⟨H, 0, none⟩), .pointer (some ⟨H, 0, none⟩), .pointer (some ⟨H, 0, none⟩), .slice (some ⟨b1, o1, none⟩) n c, .int .i64 P, .pointer (some ⟨H, 0, none⟩), .pointer (some ⟨H, 0, none⟩), .pointer (some ⟨H, 0, none⟩), .slice (some ⟨b1, o1, none⟩) n c, .int .i64 P, .int .i64 m, .slice A3 n c3, .pointer (some ⟨H, 0, none⟩), .pointer (some ⟨H, 0, none⟩), undef, undef, undef, undef, undef, undef, undef, undef, undef, undef, undef, undef, undef, undef, undef, undef, undef, undef, undef, undef, undef, undef], defers := [] }) (by kernel_rfl) ?_
      refine wpAnyH_ready (rs := [15]) (by kernel_rfl) (by simp) (AllReadyH.cons rfl (fun K hK => ?_) AllReadyH.nil)
      go_simp
      refine hK.out _ _ trivial (fun _ => ?_)
      clear hK K
      refine wpAnyH_done (by kernel_rfl) ?_ _
      refine then_at (b := { tmps := #[.pointer (some ⟨H, 0, none⟩), .int .i64 a, undef, undef, .int .i64 P, .int .i64 5, undef, .int .i64 a, .int .i64 P, .pointer (some ⟨H, 0, none⟩), .pointer (some ⟨H, 0, none⟩), .pointer (some ⟨H, 0, none⟩), .slice (some ⟨b1, o1, none⟩) n c, .int .i64 P, .pointer (some ⟨b1, o1 + P, none⟩), .int .i64 5, .int .i64 5, .bool true, .pointer (some ⟨H, 0, none⟩), .pointer (some ⟨H, 0, none⟩), .pointer (some ⟨H, 0, none⟩), .pointer (some ⟨H, 0, none⟩), .slice (some ⟨b1, o1, none⟩) n c, .int .i64 P, .pointer (some ⟨H, 0, none⟩), .pointer (some ⟨H, 0, none⟩), .pointer (some ⟨H, 0, none⟩), .slice (some ⟨b1, o1, none⟩) n c, .int .i64 P, .int .i64 m, .slice A3 n c3, .pointer (some ⟨H, 0, none⟩), .pointer (some ⟨H, 0, none⟩), undef, undef, undef, undef, undef, undef, undef, undef, undef, undef, undef, undef, undef, undef, undef, undef, undef, undef, undef, undef, undef, undef], defers := [] }) (by kernel_rfl) ?_
      go_wp2
      refine bodyPost_ret (v := .tuple #[]) ?_ rfl ⟨_, _, rfl, H4.out, G4.out⟩
      simp [results, Tryz.results131, go_sem]
    · skip
      go_simp
      (go_at_call 156; (with_reducible refine (SZ.out _ (ch.grown_drew _ _)).mono ?_); rintro e w2 ⟨rfl, hg⟩; have G2 := Lib.hid ((ch.grown_drew w none).trans hg); have f2 := (HH.out.new G2.out).h0; have R2 := Lib.hid (bm.Rd.below' RK.out (li.grown_below G2.out) G2.out.size); clear hg)
      refine hK.out _ _ trivial (fun _ => ?_)
      clear hK K
      refine any_at (b := { tmps := #[.pointer (some ⟨H, 0, none⟩), .int .i64 a, undef, undef, .int .i64 P, .int .i64 5, undef, .int .i64 a, .int .i64 P, .pointer (some ⟨H, 0, none⟩), .pointer (some ⟨H, 0, none⟩), .pointer (some ⟨H, 0, none⟩), .slice (some ⟨b1, o1, none⟩) n c, .int .i64 P, .pointer (some ⟨b1, o1 + P, none⟩), .int .i64 5, .int .i64 5, .bool true, .pointer (some ⟨H, 0, none⟩), .pointer (some ⟨H, 0, none⟩), .pointer (some ⟨H, 0, none⟩), .pointer (some ⟨H, 0, none⟩), undef, .int .i64 P, .pointer (some ⟨H, 0, none⟩), .pointer (some ⟨H, 0, none⟩), .pointer (some ⟨H, 0, none⟩), .slice (some ⟨b1, o1, none⟩) n c, .int .i64 P, .int .i64 m, undef, undef, undef, undef, undef, undef, undef, undef, undef, undef, undef, undef, undef, undef, undef, undef, undef, undef, undef, undef, undef, undef, undef, undef, undef], defers := [] }) (by kernel_rfl) ?_
      refine wpAnyH_ready (rs := [4]) (by kernel_rfl) (by simp) (AllReadyH.cons rfl (fun K hK => ?_) AllReadyH.nil)
      go_simp
      refine hK.out _ _ trivial (fun _ => ?_)
      clear hK K
      refine any_at (b := { tmps := #[.pointer (some ⟨H, 0, none⟩), .int .i64 a, undef, undef, .int .i64 P, .int .i64 5, undef, .int .i64 a, .int .i64 P, .pointer (some ⟨H, 0, none⟩), .pointer (some ⟨H, 0, none⟩), .pointer (some ⟨H, 0, none⟩), .slice (some ⟨b1, o1, none⟩) n c, .int .i64 P, .pointer (some ⟨b1, o1 + P, none⟩), .int .i64 5, .int .i64 5, .bool true, .pointer (some ⟨H, 0, none⟩), .pointer (some ⟨H, 0, none⟩), .pointer (some ⟨H, 0, none⟩), .pointer (some ⟨H, 0, none⟩), .slice (some ⟨b1, o1, none⟩) n c, .int .i64 P, .pointer (some ⟨H, 0, none⟩), .pointer (some ⟨H, 0, none⟩), .pointer (some ⟨H, 0, none⟩), .slice (some ⟨b1, o1, none⟩) n c, .int .i64 P, .int .i64 m, undef, undef, undef, undef, undef, undef, undef, undef, undef, undef, undef, undef, undef, undef, undef, undef, undef, undef, undef, undef, undef, undef, undef, undef, undef], defers := [] }) (by kernel_rfl) ?_
      refine wpAnyH_ready (rs := [12]) (by kernel_rfl) (by simp) (AllReadyH.cons rfl (fun K hK => ?_) AllReadyH.nil)
      go_simp
      (go_at_call 100; (with_reducible refine (S1.out _ R2.out).mono ?_); rintro e w3 ⟨A3, c3, rfl, ho, hg⟩; rw [LY.out] at ho ⊢; have G3 := Lib.hid (G2.out.trans hg); have H3 := Lib.hid (HH.out.new G3.out); have f3 := H3.out.h0; have z3 := H3.out.fz 0; have F3 := Lib.hid (Fx.own (V := V) ho (fun k hk => Nat.lt_of_lt_of_le (HH.out.lt k hk) G2.out.size)); have H4 := Lib.hid (H3.out.kinds F3.out); have G4 := Lib.hid ((Gr.new (L := [H]) G3.out).trans (Gr.set w3 H 0 (.slice A3 n c3) (by simp))); clear ho hg)
      refine hK.out _ _ trivial (fun _ => ?_)
      clear hK K
      refine any_at (b := { tmps := #[.pointer (some ⟨H, 0, none⟩), .int .i64 a, undef, undef, .int .i64 P, .int .i64 5, undef, .int .i64 a, .int .i64 P, .pointer (some ⟨H, 0, none⟩), .pointer (some ⟨H, 0, none⟩), .pointer (some ⟨H, 0, none⟩), .slice (some ⟨b1, o1, none⟩) n c, .int .i64 P, .pointer (some ⟨b1, o1 + P, none⟩), .int .i64 5, .int .i64 5, .bool true, .pointer (some ⟨H, 0, none⟩), .pointer (some ⟨H, 0, none⟩), .pointer (some ⟨H, 0, none⟩), .pointer (some ⟨H, 0, none⟩), .slice (some ⟨b1, o1, none⟩) n c, .int .i64 P, .pointer (some ⟨H, 0, none⟩), .pointer (some ⟨H, 0, none⟩), .pointer (some ⟨H, 0, none⟩), .slice (some ⟨b1, o1, none⟩) n c, .int .i64 P, .int .i64 m, .slice A3 n c3, undef, undef, undef, undef, undef, undef, undef, undef, undef, undef, undef, undef, undef, undef, undef, undef, undef, undef, undef, undef, undef, undef, undef, undef], defers := [] }) (by kernel_rfl) ?_
      refine wpAnyH_take (i := 13) (v := .pointer (some ⟨H, 0, none⟩)) rfl (by kernel_rfl) (by kernel_rfl) (by kernel_rfl) (fun _ _ _ h => h) (Or.inl ⟨by kernel_rfl, fun _ _ => by go_simp⟩) trivial ?_
      refine any_at (b := { tmps := #[.pointer (some ⟨H, 0, none⟩), .int .i64 a, undef, undef, .int .i64 P, .int .i64 5, undef, .int .i64 a, .int .i64 P, .pointer (some ⟨H, 0, none⟩), .pointer (some ⟨H, 0, none⟩), .pointer (some ⟨H, 0, none⟩), .slice (some ⟨b1, o1, none⟩) n c, .int .i64 P, .pointer (some ⟨b1, o1 + P, none⟩), .int .i64 5, .int .i64 5, .bool true, .pointer (some ⟨H, 0, none⟩), .pointer (some ⟨H, 0, none⟩), .pointer (some ⟨H, 0, none⟩), .pointer (some ⟨H, 0, none⟩), .slice (some ⟨b1, o1, none⟩) n c, .int .i64 P, .pointer (some ⟨H, 0, none⟩), .pointer (some ⟨H, 0, none⟩), .pointer (some ⟨H, 0, none⟩), .slice (some ⟨b1, o1, none⟩) n c, .int .i64 P, .int .i64 m, .slice A3 n c3, .pointer (some ⟨H, 0, none⟩), undef, undef, undef, undef, undef, undef, undef, undef, undef, undef, undef, undef, undef, undef, undef, undef, undef, undef, undef, undef, undef, undef, undef], defers := [] }) (by kernel_rfl) ?_
      refine wpAnyH_take (i := 14) (v := .pointer (some ⟨H, 0, none⟩)) rfl (by kernel_rfl) (by kernel_rfl) (by kernel_rfl) (fun _ _ _ h => h) (Or.inl ⟨by kernel_rfl, fun _ _ => by go_simp⟩) trivial ?_
      refine any_at (b := { tmps := #[.pointer (some ⟨H, 0, none⟩), .int .i64 a, undef, undef, .int .i64 P, .int .i64 5, undef, .int .i64 a, .int .i64 P, .pointer (some ⟨H, 0, none⟩), .pointer (some ⟨H, 0, none⟩), .pointer (some ⟨H, 0, none⟩), .slice (some ⟨b1, o1, none⟩) n c, .int .i64 P, .pointer (some ⟨b1, o1 + P, none⟩), .int .i64 5, .int .i64 5, .bool true, .pointer (some ⟨H, 0, none⟩), .pointer (some ⟨H, 0, none⟩), .pointer (some ⟨H, 0, none⟩), .pointer (some ⟨H, 0, none⟩), .slice (some ⟨b1, o1, none⟩) n c, .int .i64 P, .pointer (some ⟨H, 0, none⟩), .pointer (some ⟨H, 0, none⟩), .pointer (some ⟨H, 0, none⟩), .slice (some ⟨b1, o1, none⟩) n c, .int .i64 P, .int .i64 m, .slice A3 n c3, .pointer (some ⟨H, 0, none⟩), .pointer (some ⟨H, 0, none⟩), undef, undef, undef, undef, undef, undef, undef, undef, undef, undef, undef, undef, undef, undef, undef, undef, undef, undef, undef, undef, undef, undef], defers := [] }) (by kernel_rfl) ?_
      refine wpAnyH_ready (rs := [15]) (by kernel_rfl) (by simp) (AllReadyH.cons rfl (fun K hK => ?_) AllReadyH.nil)
      go_simp
      refine hK.out _ _ trivial (fun _ => ?_)
      clear hK K
      refine wpAnyH_done (by kernel_rfl) ?_ _
      refine then_at (b := { tmps := #[.pointer (some ⟨H, 0, none⟩), .int .i64 a, undef, undef, .int .i64 P, .int .i64 5, undef, .int .i64 a, .int .i64 P, .pointer (some ⟨H, 0, none⟩), .pointer (some ⟨H, 0, none⟩), .pointer (some ⟨H, 0, none⟩), .slice (some ⟨b1, o1, none⟩) n c, .int .i64 P, .pointer (some ⟨b1, o1 + P, none⟩), .int .i64 5, .int .i64 5, .bool true, .pointer (some ⟨H, 0, none⟩), .pointer (some ⟨H, 0, none⟩), .pointer (some ⟨H, 0, none⟩), .pointer (some ⟨H, 0, none⟩), .slice (some ⟨b1, o1, none⟩) n c, .int .i64 P, .pointer (some ⟨H, 0, none⟩), .pointer (some ⟨H, 0, none⟩), .pointer (some ⟨H, 0, none⟩), .slice (some ⟨b1, o1, none⟩) n c, .int .i64 P, .int .i64 m, .slice A3 n c3, .pointer (some ⟨H, 0, none⟩), .pointer (some ⟨H, 0, none⟩), undef, undef, undef, undef, undef, undef, undef, undef, undef, undef, undef, undef, undef, undef, undef, undef, undef, undef, undef, undef, undef, undef], defers := [] }) (by kernel_rfl) ?_
      go_wp2
      refine bodyPost_ret (v := .tuple #[]) ?_ rfl ⟨_, _, rfl, H4.out, G4.out⟩
      simp [results, Tryz.results131, go_sem]
end
end Go.Proofs.YtfloleflcoiidaaGreatDoor.bo
