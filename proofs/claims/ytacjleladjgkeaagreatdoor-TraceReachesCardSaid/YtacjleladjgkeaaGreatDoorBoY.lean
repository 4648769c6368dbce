/- Joined: BoC, BoD. -/
import Derived.Test.YtacjleladjgkeaaGreatDoorBoX
import Derived.Deep.RegionHeld3
import Derived.Deep.RegionWith
/- What the statement's own heap by lists does: Carve, Large, Drop, Give. -/
namespace Go.Proofs.YtacjleladjgkeaaGreatDoor.bo
open Go.ChangeShapes Go.WideShapes Go.ChangeAt Go.RowKit gen calls cls geos ce
set_option linter.unusedVariables false
set_option maxHeartbeats 4000000
set_option maxRecDepth 100000
section
variable {w w' : World} {V : List Nat} {H : Nat} {vk : Value} {vs tl : List Value} {ks : List Int} {fr : Nat → List Int}
theorem rCarve_none (h : Hh w V H vk vs tl ks fr) (hl : ks.length ≤ 64) (k : Int) (hf : pg.find 1 0 ks = none) :
    Calls Tryz.prog 104 #[.pointer (some ⟨H, 0, none⟩), .int .i64 k] w fun e w' => e = int1 (-1) ∧ w.grownBy w' none := by
  have f := h.h0
  obtain ⟨A, n, c, rfl, hr, ha, hn, hc⟩ := h.kd
  have FD := Lib.hid ((pg.rFind_any (by have := hr.1; omega) hr 1).mono fun e w' ⟨h1, h2⟩ => (⟨h1, h2.symm⟩ : e = int1 (pg.fnd ks 1) ∧ w = w'))
  rw [pg.fnd_none (by omega) hf] at FD
  clear h hl hr ha hf
  go_enter Tryz.func104, Tryz.ntmps104
  go_wp2_with (first
    | (go_at_call 100; (with_reducible refine FD.out.mono ?_); rintro e w' ⟨rfl, rfl⟩))
  go_ret
  exact ⟨rfl, World.grownBy.refl _ _⟩
theorem rCarve_no (h : Hh w V H vk vs tl ks fr) (hl : ks.length ≤ 64) (k : Int) (hk : fits k = true) (hno : ¬ (1 ≤ k ∧ k ≤ 4)) :
    Calls Tryz.prog 104 #[.pointer (some ⟨H, 0, none⟩), .int .i64 k] w fun e w' => e = int1 (-1) ∧ w.grownBy w' none := by
  cases hf : pg.find 1 0 ks with
  | none => exact rCarve_none h hl k hf
  | some p =>
    have f := h.h0
    obtain ⟨A, n, c, rfl, hr, ha, hn, hc⟩ := h.kd
    have FD := Lib.hid ((pg.rFind_any (by have := hr.1; omega) hr 1).mono fun e w' ⟨h1, h2⟩ => (⟨h1, h2.symm⟩ : e = int1 (pg.fnd ks 1) ∧ w = w'))
    rw [pg.fnd_some (by omega) hf] at FD
    have SZ := Lib.hid (fun w => pg.rsz_any k w hk)
    rw [sz_zero hno] at SZ
    have t1 : decide ((p : Int) < 0) = false := by simp
    clear h hl hr ha hf hk hno
    go_enter Tryz.func104, Tryz.ntmps104
    go_wp2_with (first
      | (go_at_call 100; (with_reducible refine FD.out.mono ?_); rintro e w' ⟨rfl, rfl⟩)
      | (go_at_call 99; (with_reducible refine (SZ.out _).mono ?_); rintro e w2 ⟨rfl, hg⟩; have G2 := Lib.hid hg; clear hg))
    go_ret
    exact ⟨rfl, G2.out⟩
theorem from_take (j : Nat) : li.ints (ch.from_ 0 (j + 1)) = li.ints (ch.from_ 0 j) ++ [.int .i64 (j : Int)] := by
  rw [ch.from_more, Nat.zero_add]; simp [li.ints]
theorem rCarve_yes (h : Hh w V H vk vs tl ks fr) (hks : pg.Ks ks) (hl : ks.length ≤ 64) {k : Int} (hk : 1 ≤ k ∧ k ≤ 4) {p n : Nat} (hf : pg.find 1 0 ks = some p) (hn : cl k = n) :
    Calls Tryz.prog 104 #[.pointer (some ⟨H, 0, none⟩), .int .i64 k] w (HhAns (.int .i64 p) V H tl (ks.set p k) (upd fr p (ch.from_ 0 n)) w) := by
  obtain ⟨i0, hi, hz0, hz1, hz2⟩ := info_parts li.info_int
  have E : Hid (i0.zero = some (.int .i64 0) ∧ i0.size = 1 ∧ i0.bytes = 8 ∧ Tryz.prog.info? 3 = some i0) := ⟨hz0, hz1, hz2, hi⟩
  clear hi hz0 hz1 hz2
  have f := h.h0
  obtain ⟨A, m, c, rfl, hr, ha, hm, hc⟩ := h.kd
  have pl := (pg.find_at (n := 1) (by omega) hf).1
  have p64 : p < 64 := by omega
  have FD := Lib.hid ((pg.rFind_any (by have := hr.1; omega) hr 1).mono fun e w' ⟨h1, h2⟩ => (⟨h1, h2.symm⟩ : e = int1 (pg.fnd ks 1) ∧ w = w'))
  rw [pg.fnd_some (by omega) hf] at FD
  have fk : fits k = true := by simp [fits]; omega
  obtain ⟨z, hz, z2, _⟩ := sz_some hk
  have SZ := Lib.hid (fun w => pg.rsz_any k w fk)
  rw [hz] at SZ
  have CL := Lib.hid (fun w => rCells_any k w fk)
  rw [hn] at CL
  have n16 : n ≤ 16 := by have := cl_wide k; omega
  have t1 : decide ((p : Int) < 0) = false := by simp
  have t2 : ((z : Int) == 0) = false := by simp; omega
  have HH := Lib.hid h
  have m64 : m ≤ 64 := by have := hr.1; omega
  have ML := Lib.hid hr.1
  have S1 := Lib.hid (fun W (h1 : Rd W W.heap.size A m c ks) => pg.rSet_any (ks.set p k) m64 h1 p 1 k (by simp [fits]; omega) (by omega) (by rw [List.length_set]; exact hr.1) (fun i hi => by
    rw [pg.set_getD _ _ _ _ pl]
    repeat' split
    all_goals first | rfl | omega))
  have RK := Lib.hid hr
  have HV := Lib.hid h.lt
  have LY := Lib.hid (show (ks.set p k).length = m by rw [List.length_set]; exact hr.1)
  clear h hks hl hr ha hf hk hn hz fk pl
  generalize ks.set p k = ys at *
  go_enter Tryz.func104, Tryz.ntmps104
  go_wp2_with (first
    | (go_at_call 100; (with_reducible refine FD.out.mono ?_); rintro e w' ⟨rfl, rfl⟩)
    | (go_at_call 99; (with_reducible refine (SZ.out _).mono ?_); rintro e w2 ⟨rfl, hg⟩; have G2 := Lib.hid hg; have H2 := Lib.hid (HH.out.new hg); have f2 := H2.out.h0; have R2 := Lib.hid (bm.Rd.below' RK.out (li.grown_below hg) hg.size); clear hg)
    | (go_at_call 139; (with_reducible refine (S1.out _ R2.out).mono ?_); rintro e w3 ⟨A3, c3, rfl, ho, hg⟩; rw [LY.out] at ho ⊢; have G3 := Lib.hid (G2.out.trans hg); have H3 := Lib.hid (H2.out.new hg); have f3 := H3.out.h0; have z3 := H3.out.fz 0; have F3 := Lib.hid (Fx.own (V := V) ho (fun k hk => Nat.lt_of_lt_of_le (HV.out k hk) G2.out.size)); have H4 := Lib.hid (H3.out.kinds F3.out); have G4 := Lib.hid ((Gr.new (L := [H]) G3.out).trans (Gr.set w3 H 0 (.slice A3 m c3) (by simp))); clear ho hg))
  go_loopw [6, 7] (fun v i wr => ∃ (j : Nat) (A' : Option Addr) (c' : Nat), j ≤ n ∧ i = .int .i64 j ∧ v = .slice A' j c' ∧ wr.ownsRow w3.heap.size 3 1 (.slice A' j c') j (li.ints (ch.from_ 0 j)) ∧ (w3.setCell ⟨H, 0, none⟩ (.slice A3 m c3)).grownBy wr none) (fun _ i _ => n - (intOf i).toNat)
  case atStart => exact ⟨0, none, 0, Nat.zero_le _, rfl, rfl, World.ownsRow_nil _ _ _ _, World.grownBy.refl _ _⟩
  case round =>
    obtain ⟨j, A', c', hj, rfl, rfl, ho, hg⟩ := hrel
    have HO := Lib.hid ho
    have HG := Lib.hid hg
    have SZW := Lib.hid (show w3.heap.size ≤ wr.heap.size by have := hg.size; simpa using this)
    clear ho hg
    by_cases hlt : j < n
    · have FT := Lib.hid (from_take j)
      go_wp2_with (first
        | (go_at_call 141; (with_reducible refine (CL.out _).mono ?_); rintro e w5 ⟨rfl, hb⟩; have g5 := pg.below_grown hb; have O5 := Lib.hid (HO.out.kept g5 (by cases (Value.slice A' j c').ownBlock <;> simp)); have G5 := Lib.hid (HG.out.trans g5); have S5 := Lib.hid (Nat.le_trans SZW.out g5.size); clear hb g5)
        | (refine wpList_append_rd rfl (.tmp 36) (.tmp 38) 31 rfl w3.heap.size 3 i0 (.int .i64 0) 8 Tryz.underlying31 E.out.2.2.2 E.out.1 E.out.2.1 E.out.2.2.1 rfl _ j (ch.from_ 0 j) rfl (O5.out.alloc _) (some ⟨w5.heap.size, 0, none⟩) 1 1 _ [(j : Int)] rfl (li.Rd.one _ _ _) (by unfold maxLen; omega) (by omega) (by have := S5.out; simp; omega) ?_; intro A6 c6 w6 own1 rd1 gr1; have OWN1 := Lib.hid own1; have GR1 := Lib.hid gr1; clear own1 gr1 rd1))
      go_roundw
      case rel => exact ⟨j + 1, A6, c6, by omega, by go_num, rfl, by rw [FT.out]; simpa [li.ints] using OWN1.out, li.grown_one G5.out O5.out (by simp) GR1.out⟩
      case measure => simp [intOf]; omega
    · obtain rfl : j = n := by omega
      have H6 := Lib.hid (H4.out.new HG.out)
      obtain ⟨v0, hv0, hf0⟩ := H6.out.fre p p64
      obtain ⟨A0, n0, c0, rfl, _⟩ := hf0
      have HV0 := Lib.hid hv0
      have FX := Lib.hid (Fx.own (V := V) HO.out (fun k hk => Nat.lt_of_lt_of_le (HV.out k hk) G3.out.size))
      clear hv0
      go_wp2_with (first
        | (go_at_call 141; (with_reducible refine (CL.out _).mono ?_); rintro e w5 ⟨rfl, hb⟩; have g5 := pg.below_grown hb; have H8 := Lib.hid (H6.out.new g5); have f8 := H8.out.at HV0.out; have z8 := H8.out.fz (1 + p); have H9 := Lib.hid (H8.out.list p64 (FX.out.new g5)); have G9 := Lib.hid (((G4.out.made HG.out).made g5).trans (Gr.set w5 H (1 + p) (.slice A' j c') (by simp))); clear hb g5))
      go_ret
      exact ⟨_, _, rfl, H9.out, G9.out⟩
end
end Go.Proofs.YtacjleladjgkeaaGreatDoor.bo

/- What the statement's own heap by lists does: Large, Drop, Give. -/
namespace Go.Proofs.YtacjleladjgkeaaGreatDoor.bo
open Go.ChangeShapes Go.WideShapes Go.ChangeAt Go.RowKit gen calls cls geos ce
set_option linter.unusedVariables false
set_option maxHeartbeats 4000000
set_option maxRecDepth 100000
section
variable {w w' : World} {V : List Nat} {H : Nat} {vk : Value} {vs tl : List Value} {ks : List Int} {fr : Nat → List Int}
theorem then_at {K : Act → World → Prop} {Q : Exit → Act → World → Prop} {e : Exit} {a b : Act} {w : World} (h : a = b) (hq : Exit.then K Q e b w) : Exit.then K Q e a w := h ▸ hq
theorem rLarge_no (h : Hh w V H vk vs tl ks fr) (hl : ks.length ≤ 64) (n : Int) (hf : 1 ≤ n → pg.find n 0 ks = none) :
    Calls Tryz.prog 62 #[.pointer (some ⟨H, 0, none⟩), .int .i64 n] w fun e w' => e = int1 (-1) ∧ w.grownBy w' none := by
  have f := h.h0
  obtain ⟨A, m, c, rfl, hr, ha, hm, hc⟩ := h.kd
  have FD := Lib.hid ((pg.rFind_any (by have := hr.1; omega) hr n).mono fun e w' ⟨h1, h2⟩ => (⟨h1, h2.symm⟩ : e = int1 (pg.fnd ks n) ∧ w = w'))
  have e : pg.fnd ks n = -1 := by
    by_cases h1 : 1 ≤ n
    · exact pg.fnd_none h1 (hf h1)
    · unfold pg.fnd; rw [if_pos (by omega)]
  rw [e] at FD
  clear h hl hr ha hf e
  go_enter Tryz.func62, Tryz.ntmps62
  go_wp2_with (first
    | (go_at_call 100; (with_reducible refine FD.out.mono ?_); rintro e w' ⟨rfl, rfl⟩))
  go_ret
  exact ⟨rfl, World.grownBy.refl _ _⟩
theorem rLarge_yes (h : Hh w V H vk vs tl ks fr) (hl : ks.length ≤ 64) {n p a : Nat} (h1 : 1 ≤ n) (hf : pg.find n 0 ks = some p) (ha' : a = p * 32) :
    Calls Tryz.prog 62 #[.pointer (some ⟨H, 0, none⟩), .int .i64 n] w (HhAns (.int .i64 a) V H tl (pg.spanN ks p n) fr w) := by
  have f := h.h0
  obtain ⟨A, m, c, rfl, hr, ha, hm, hc⟩ := h.kd
  have FD := Lib.hid ((pg.rFind_any (by have := hr.1; omega) hr n).mono fun e w' ⟨h1, h2⟩ => (⟨h1, h2.symm⟩ : e = int1 (pg.fnd ks n) ∧ w = w'))
  rw [pg.fnd_some (by omega) hf] at FD
  obtain ⟨hp, _, _, hpn⟩ := pg.find_at (n := n) (by omega) hf
  have t1 : decide ((p : Int) < 0) = false := by simp
  have m64 : m ≤ 64 := by have := hr.1; omega
  have S1 := Lib.hid (pg.rSpan_any m64 hr p n h1 (by have := hr.1; omega))
  have LY := Lib.hid (show (pg.spanN ks p n).length = m by rw [pg.spanN_length]; exact hr.1)
  have HH := Lib.hid h
  have p64 : p < 64 := by omega
  have HA := Lib.hid (show (p : Int) * 32 = a by omega)
  clear h hl hr ha hf h1 ha' hp hpn
  generalize pg.spanN ks p n = ys at *
  go_enter Tryz.func62, Tryz.ntmps62
  go_wp2_with (first
    | (go_at_call 100; (with_reducible refine FD.out.mono ?_); rintro e w' ⟨rfl, rfl⟩)
    | (go_at_call 101; (with_reducible refine S1.out.mono ?_); rintro e w3 ⟨A3, c3, rfl, ho, hg⟩; rw [LY.out] at ho ⊢; have H3 := Lib.hid (HH.out.new hg); have f3 := H3.out.h0; have z3 := H3.out.fz 0; have F3 := Lib.hid (Fx.own (V := V) ho HH.out.lt); have H4 := Lib.hid (H3.out.kinds F3.out); have G4 := Lib.hid ((Gr.new (L := [H]) hg).trans (Gr.set w3 H 0 (.slice A3 m c3) (by simp))); clear ho hg))
  go_ret
  exact ⟨_, _, by rw [HA.out]; rfl, H4.out, G4.out⟩
end
end Go.Proofs.YtacjleladjgkeaaGreatDoor.bo
