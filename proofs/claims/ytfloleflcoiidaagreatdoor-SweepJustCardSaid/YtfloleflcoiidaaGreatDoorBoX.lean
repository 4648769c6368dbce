/- Joined: BoA, BoB. -/
import Derived.Test.YtfloleflcoiidaaGreatDoorCeY
/- The statement's own heap by lists, in memory. -/
namespace Go.Proofs.YtfloleflcoiidaaGreatDoor.bo
open Go.ChangeShapes Go.WideShapes Go.ChangeAt Go.RowKit gen calls cls geos ce
set_option linter.unusedVariables false
/-- A list that is read; its row is none of V. -/
def Fx (w : World) (V : List Nat) (v : Value) (l : List Int) : Prop :=
  ∃ A n c, v = .slice A n c ∧ Rd w w.heap.size A n c l ∧ (∀ ad, A = some ad → 0 < n → ad.block ∉ V) ∧ n ≤ c ∧ c ≤ maxLen
theorem Fx.gr {w w' : World} {V L : List Nat} {v : Value} {l : List Int} (h : Fx w V v l) (hg : Gr L w w') (hL : ∀ k, k ∈ L → k ∈ V) : Fx w' V v l := by
  obtain ⟨A, n, c, hv, hr, ha, h1, h2⟩ := h
  refine ⟨A, n, c, hv, ⟨hr.1, hr.2.1, fun ad e i hi => ?_⟩, ha, h1, h2⟩
  have := hr.2.2 ad e i hi
  refine ⟨Nat.lt_of_lt_of_le this.1 hg.size, hg.cell this.2 ?_⟩
  rw [block_of_add]
  exact fun hm => ha ad e (by omega) (hL _ hm)
theorem Fx.new {w w' : World} {V : List Nat} {v : Value} {l : List Int} (h : Fx w V v l) (hg : w.grownBy w' none) : Fx w' V v l := h.gr (L := []) (.new hg) (by simp)
theorem Fx.nil (w : World) (V : List Nat) : Fx w V (.slice none 0 0) [] := ⟨none, 0, 0, rfl, ⟨rfl, fun _ => ⟨rfl, rfl⟩, fun ad e => (by cases e)⟩, fun ad e => (by cases e), Nat.le_refl _, by unfold maxLen; omega⟩
theorem Fx.own {w : World} {V : List Nat} {base n c : Nat} {A : Option Addr} {l : List Int} (h : w.ownsRow base 3 1 (.slice A n c) n (li.ints l)) (hV : ∀ k, k ∈ V → k < base) : Fx w V (.slice A n c) l := by
  refine ⟨A, n, c, rfl, li.rd_own h, fun ad e hn hm => ?_, ?_⟩
  · subst e
    have h1 := own_base h
    rcases h.2 with ⟨e, _⟩ | ⟨g, cap, cur, e, h2, _⟩
    · cases e
    · injection e with e1 e2 e3
      injection e1 with e1
      subst e1
      have := hV _ hm
      simp at this
      omega
  · rcases li.own_or h with ⟨_, h1, h2⟩ | ⟨_, _, h1, h2⟩
    · subst h1; subst h2; exact ⟨Nat.le_refl _, by unfold maxLen; omega⟩
    · exact ⟨h1, h2⟩
/-- Other blocks to keep off. -/
theorem Fx.re {w : World} {V V' : List Nat} {v : Value} {l : List Int} (h : Fx w V v l) (hV : ∀ k, k ∈ V' → k ∈ V ∨ w.heap.size ≤ k) : Fx w V' v l := by
  obtain ⟨A, n, c, hv, hr, ha, h1, h2⟩ := h
  refine ⟨A, n, c, hv, hr, fun ad e hn hm => ?_, h1, h2⟩
  rcases hV _ hm with h3 | h3
  · exact ha ad e hn h3
  · have := (hr.2.2 ad e 0 hn).1; omega
theorem Fx.rest {w : World} {V : List Nat} {b o m c c' : Nat} {A : Option Addr} {x : Int} {l : List Int} (h : Fx w V (.slice (some ⟨b, o, none⟩) (m + 1) c) (x :: l)) (hA : 0 < m → A = some ⟨b, o + 1, none⟩) (hn : A = none → c' = 0) (h1 : m ≤ c') (h2 : c' ≤ maxLen) : Fx w V (.slice A m c') l := by
  obtain ⟨A0, n0, c0, hv, hr, ha, _, _⟩ := h
  injection hv with e1 e2 e3
  subst e1; subst e2; subst e3
  have hl : l.length = m := by have := hr.1; simpa using this
  refine ⟨A, m, c', rfl, ⟨hl, fun e => ?_, fun ad e i hi => ?_⟩, fun ad e hm => ?_, h1, h2⟩
  · rcases Nat.eq_zero_or_pos m with h0 | h0
    · exact ⟨h0, hn e⟩
    · rw [hA h0] at e; cases e
  · rw [hA (by omega)] at e
    injection e with e
    subst e
    have := hr.2.2 _ rfl (i + 1) (by omega)
    rw [Addr.add_lit] at this ⊢
    refine ⟨this.1, ?_⟩
    rw [show o + 1 + i = o + (i + 1) by omega, this.2]
    simp [List.getD_eq_getElem?_getD]
  · rw [hA hm] at e
    injection e with e
    subst e
    exact ha ⟨b, o, none⟩ rfl (by omega)
/-- The heap by lists, at H: its pages' kinds, of each page its free cells; none of their rows is one of V. -/
structure Hh (w : World) (V : List Nat) (H : Nat) (vk : Value) (vs tl : List Value) (ks : List Int) (fr : Nat → List Int) : Prop where
  hea : w.heap[H]? = some (.cells (vk :: (vs ++ tl)).toArray 60 (0, 0))
  vsl : vs.length = 64
  kd : Fx w V vk ks
  fre : ∀ p, p < 64 → ∃ v, vs[p]? = some v ∧ Fx w V v (fr p)
  hV : H ∈ V
  lt : ∀ k, k ∈ V → k < w.heap.size
section
variable {w w' : World} {V : List Nat} {H : Nat} {vk : Value} {vs tl : List Value} {ks : List Int} {fr : Nat → List Int}
theorem Hh.gr {L : List Nat} (h : Hh w V H vk vs tl ks fr) (hg : Gr L w w') (hL : ∀ k, k ∈ L → k ∈ V ∧ k ≠ H) : Hh w' V H vk vs tl ks fr :=
  ⟨hg.heap h.hea (fun hm => (hL _ hm).2 rfl), h.vsl, h.kd.gr hg (fun k hk => (hL k hk).1), fun p hp => by obtain ⟨v, h1, h2⟩ := h.fre p hp; exact ⟨v, h1, h2.gr hg (fun k hk => (hL k hk).1)⟩, h.hV, fun k hk => Nat.lt_of_lt_of_le (h.lt k hk) hg.size⟩
theorem Hh.new (h : Hh w V H vk vs tl ks fr) (hg : w.grownBy w' none) : Hh w' V H vk vs tl ks fr := h.gr (L := []) (.new hg) (by simp)
theorem Hh.drewN (h : Hh w V H vk vs tl ks fr) (n : Nat) : Hh (w.drewN n) V H vk vs tl ks fr := h.new (bm.grown_drewN _ _ _)
theorem Hh.drew (h : Hh w V H vk vs tl ks fr) : Hh w.drew V H vk vs tl ks fr := h.new (ch.grown_drew _ _)
theorem Hh.h0 (h : Hh w V H vk vs tl ks fr) : w.cell? ⟨H, 0, none⟩ = some vk := by rw [cell_of_row w H 0 _ _ _ h.hea]; rfl
theorem Hh.at (h : Hh w V H vk vs tl ks fr) {p : Nat} {v : Value} (hp : vs[p]? = some v) : w.cell? ⟨H, 1 + p, none⟩ = some v := by
  rw [cell_of_row w H (1 + p) _ _ _ h.hea, Nat.add_comm 1 p]
  have : p < vs.length := (List.getElem?_eq_some_iff.1 hp).1
  simp [List.getElem?_append, this]
  exact List.getElem?_eq_some_iff.1 hp |>.2
theorem Hh.fz (h : Hh w V H vk vs tl ks fr) (k : Nat) : w.frozen? ⟨H, k, none⟩ = false := frozen_of_row w H k _ _ h.hea
/-- Kinds written. -/
theorem Hh.kinds {v : Value} {ks' : List Int} (h : Hh w V H vk vs tl ks fr) (hv : Fx w V v ks') : Hh (w.setCell ⟨H, 0, none⟩ v) V H v vs tl ks' fr := by
  have G : Gr [H] w (w.setCell ⟨H, 0, none⟩ v) := .set _ _ _ _ (by simp)
  have hL : ∀ k, k ∈ [H] → k ∈ V := fun k hk => by simp at hk; subst hk; exact h.hV
  refine ⟨?_, h.vsl, hv.gr G hL, fun p hp => by obtain ⟨v, h1, h2⟩ := h.fre p hp; exact ⟨v, h1, h2.gr G hL⟩, h.hV, fun k hk => Nat.lt_of_lt_of_le (h.lt k hk) G.size⟩
  rw [heap_setCell_same w H _ _ _ _ h.hea]
  simp
/-- A page's list written. -/
theorem Hh.list {v : Value} {l : List Int} {p : Nat} (h : Hh w V H vk vs tl ks fr) (hp : p < 64) (hv : Fx w V v l) : Hh (w.setCell ⟨H, 1 + p, none⟩ v) V H vk (vs.set p v) tl ks (upd fr p l) := by
  have G : Gr [H] w (w.setCell ⟨H, 1 + p, none⟩ v) := .set _ _ _ _ (by simp)
  have hL : ∀ k, k ∈ [H] → k ∈ V := fun k hk => by simp at hk; subst hk; exact h.hV
  have vl := h.vsl
  refine ⟨?_, by rw [List.length_set]; exact h.vsl, h.kd.gr G hL, fun i hi => ?_, h.hV, fun k hk => Nat.lt_of_lt_of_le (h.lt k hk) G.size⟩
  · rw [heap_setCell_same w H _ _ _ _ h.hea, List.setIfInBounds_toArray, Nat.add_comm 1 p, List.set_cons_succ, List.set_append_left _ _ (by omega)]
  · by_cases e : i = p
    · subst e
      exact ⟨v, by rw [List.getElem?_set_self (by omega)], by rw [upd_same]; exact hv.gr G hL⟩
    · obtain ⟨v', h1, h2⟩ := h.fre i hi
      exact ⟨v', by rw [List.getElem?_set_ne (by omega)]; exact h1, by rw [upd_other _ _ e]; exact h2.gr G hL⟩
end
end Go.Proofs.YtfloleflcoiidaaGreatDoor.bo

/- What the statement's own heap by lists does. -/
namespace Go.Proofs.YtfloleflcoiidaaGreatDoor.bo
open Go.ChangeShapes Go.WideShapes Go.ChangeAt Go.RowKit gen calls cls geos ce
set_option linter.unusedVariables false
set_option maxHeartbeats 4000000
set_option maxRecDepth 100000
/-- What the heap by lists is behind a call. -/
def HhAns (v : Value) (V : List Nat) (H : Nat) (tl : List Value) (ks : List Int) (fr : Nat → List Int) (w : World) (e : Ending) (w' : World) : Prop :=
  ∃ vk vs, e = .returned v ∧ Hh w' V H vk vs tl ks fr ∧ Gr [H] w w'
/-- How many free cells. -/
def lef (ks : List Int) (fr : Nat → List Int) (p : Int) : Int := if 1 ≤ pg.kind ks p ∧ pg.kind ks p ≤ 4 then (fr p.toNat).length else 0
section
variable {w w' : World} {V : List Nat} {H : Nat} {vk : Value} {vs tl : List Value} {ks : List Int} {fr : Nat → List Int}
theorem sz_zero {k : Int} (h : ¬ (1 ≤ k ∧ k ≤ 4)) : sz k = 0 := sz_no (by omega)
theorem sz_some {k : Int} (h : 1 ≤ k ∧ k ≤ 4) : ∃ z : Nat, sz k = z ∧ 2 ≤ z ∧ z ≤ 16 := by
  obtain ⟨s, c, e1, _, _, _, _, e2, e3⟩ := ch.sz_cl h.1 h.2
  exact ⟨s, e1, by omega, e3⟩
theorem rLeft_any (h : Hh w V H vk vs tl ks fr) (hks : pg.Ks ks) (hl : ks.length ≤ 64) (p : Int) :
    Calls Tryz.prog 125 #[.pointer (some ⟨H, 0, none⟩), .int .i64 p] w fun e w' => e = int1 (lef ks fr p) ∧ w.grownBy w' none := by
  have f := h.h0
  obtain ⟨A, n, c, rfl, hr, ha, hn, hc⟩ := h.kd
  have hn64 : n ≤ 64 := by have := hr.1; omega
  have KD := Lib.hid (fun p => pg.rKind_any hn64 hr p)
  have HH := Lib.hid h
  have KF := Lib.hid (ce.kind_fits hks p)
  rcases Decidable.em (1 ≤ pg.kind ks p ∧ pg.kind ks p ≤ 4) with hk | hk
  · obtain ⟨P, rfl, p64, _⟩ := ce.there hl (z := p) (by omega)
    obtain ⟨z, hz, z2, _⟩ := sz_some hk
    obtain ⟨v, hv, A2, n2, c2, rfl, hr2, _, hn2, hc2⟩ := h.fre P p64
    have e : lef ks fr P = n2 := by unfold lef; rw [if_pos hk, Int.toNat_natCast, hr2.1]
    rw [e]
    have HV := Lib.hid hv
    have HZ := Lib.hid hz
    have t1 : ((z : Int) == 0) = false := by simp; omega
    clear h hks hl hr ha hk hz hv hr2 e
    go_enter Tryz.func125, Tryz.ntmps125
    go_wp2_with (first
      | (go_at_call 98; (with_reducible refine (KD.out _).mono ?_); rintro e w' ⟨rfl, hw⟩; subst hw)
      | (go_at_call 87; (with_reducible refine (pg.rsz_any _ _ KF.out).mono ?_); rintro e w2 ⟨rfl, hg⟩; rw [HZ.out]; have G2 := Lib.hid hg; have f2 := (HH.out.new hg).at HV.out; clear hg))
    go_ret
    exact ⟨rfl, G2.out⟩
  · have e : lef ks fr p = 0 := by unfold lef; rw [if_neg hk]
    rw [e]
    have HZ := Lib.hid (sz_zero hk)
    clear h hks hl hr ha hk e
    go_enter Tryz.func125, Tryz.ntmps125
    go_wp2_with (first
      | (go_at_call 98; (with_reducible refine (KD.out _).mono ?_); rintro e w' ⟨rfl, hw⟩; subst hw)
      | (go_at_call 87; (with_reducible refine (pg.rsz_any _ _ KF.out).mono ?_); rintro e w2 ⟨rfl, hg⟩; rw [HZ.out]; have G2 := Lib.hid hg; clear hg))
    go_ret
    exact ⟨rfl, G2.out⟩
theorem rTake_no (h : Hh w V H vk vs tl ks fr) (hks : pg.Ks ks) (hl : ks.length ≤ 64) (p : Int) (h0 : lef ks fr p = 0) :
    Calls Tryz.prog 90 #[.pointer (some ⟨H, 0, none⟩), .int .i64 p] w fun e w' => e = int1 (-1) ∧ w.grownBy w' none := by
  have L := Lib.hid (rLeft_any h hks hl p)
  rw [h0] at L
  clear h hks hl h0
  go_enter Tryz.func90, Tryz.ntmps90
  go_wp2_with (first
    | (go_at_call 125; (with_reducible refine L.out.mono ?_); rintro e w2 ⟨rfl, hg⟩; have G2 := Lib.hid hg; clear hg))
  go_ret
  exact ⟨rfl, G2.out⟩
theorem rTake_yes (h : Hh w V H vk vs tl ks fr) (hks : pg.Ks ks) (hl : ks.length ≤ 64) {p a z : Nat} {x : Int} {rest : List Int} (hk : 1 ≤ pg.kind ks p ∧ pg.kind ks p ≤ 4) (hfr : fr p = x :: rest) (hx : 0 ≤ x ∧ x < 16) (ha' : (a : Int) = p * 32 + x * z) (hz : sz (pg.kind ks p) = z) :
    Calls Tryz.prog 90 #[.pointer (some ⟨H, 0, none⟩), .int .i64 p] w (HhAns (.int .i64 a) V H tl ks (upd fr p rest) w) := by
  have L := Lib.hid (rLeft_any h hks hl p)
  obtain ⟨P, eP, p64, pl⟩ := ce.there hl (z := (p : Int)) (by omega)
  obtain rfl : p = P := by omega
  have e : lef ks fr p = rest.length + 1 := by unfold lef; rw [if_pos hk, Int.toNat_natCast, hfr]; simp
  rw [e] at L
  obtain ⟨A, n, c, rfl, hr, ha, hn, hc⟩ := h.kd
  obtain ⟨v, hv, hfx⟩ := h.fre p p64
  rw [hfr] at hfx
  have hfx' := hfx
  obtain ⟨A2, n2, c2, rfl, hr2, _, hn2, hc2⟩ := hfx'
  have hlen : rest.length + 1 = n2 := by have := hr2.1; simpa using this
  subst hlen
  obtain ⟨b2, o2, rfl, g0⟩ := hr2.at_ (k := 0) (by omega)
  rw [Nat.add_zero] at g0
  have g0 : w.cell? ⟨b2, o2, none⟩ = some (.int .i64 x) := by simpa using g0
  have KF := Lib.hid (ce.kind_fits hks p)
  have hkd := h.kd
  obtain ⟨b1, o1, rfl, k0⟩ := hr.at_ (k := p) (by have := hr.1; omega)
  rw [← pg.kind_in pl] at k0
  obtain ⟨z', hz', z2, z16⟩ := sz_some hk
  obtain rfl : z = z' := by omega
  have HZ := Lib.hid hz
  have HA := Lib.hid ha'
  have HX := Lib.hid hfx
  have HH := Lib.hid h
  have HV := Lib.hid hv
  have pn : p < n := by have := hr.1; omega
  have VB := Lib.hid (show b1 ≠ H from fun e => ha _ rfl (by omega) (e ▸ h.hV))
  have t1 : ((rest.length : Int) + 1 == 0) = false := by simp; omega
  have x0 := hx.1
  have x16 := hx.2
  have m1 : x * (z : Int) ≤ 256 := Int.le_trans (Int.mul_le_mul_of_nonneg_right (show x ≤ 16 by omega) (by omega)) (by omega)
  have m0 : 0 ≤ x * (z : Int) := Int.mul_nonneg x0 (by omega)
  have hnn : (rest.length + 1 : Nat) ≤ maxLen := Nat.le_trans hn2 hc2
  unfold maxLen at hc2 hnn
  clear hks hl hk hfr hz ha' h hkd hr hv hfx hr2 hx e hz' ha
  generalize pg.kind ks p = k at *
  by_cases hc1 : c2 = 1
  · obtain rfl : rest = [] := List.eq_nil_of_length_eq_zero (by omega)
    subst hc1
    go_enter Tryz.func90, Tryz.ntmps90
    go_wp2_with (first
      | (go_at_call 125; (with_reducible refine L.out.mono ?_); rintro e w2 ⟨rfl, hg⟩; have G2 := Lib.hid hg; have H2 := Lib.hid (HH.out.new hg); have f2 := H2.out.at HV.out; have g2 := hg.cell g0 (by simp); have z2 := H2.out.fz (1 + p); clear hg))
    go_region
    have H3 := Lib.hid ((H2.out.list p64 ((HX.out.new G2.out).rest (A := some ⟨b2, o2, none⟩) (m := 0) (c' := 0) (fun h => absurd h (by omega)) (fun e => (by cases e)) (by omega) (by unfold maxLen; omega))).drew)
    have f4 := H3.out.h0
    have G3 := Lib.hid ((Gr.new (L := [H]) G2.out).trans (((Gr.set (L := [H]) w2 H (1 + p) (.slice (some ⟨b2, o2, none⟩) 0 0) (by simp))).drew))
    have k4 := G3.out.cell k0 (by simp; exact VB.out)
    go_wp2_with (first
      | (go_at_call 87; (with_reducible refine (pg.rsz_any _ _ KF.out).mono ?_); rintro e w5 ⟨rfl, hg⟩; rw [HZ.out]; have H5 := Lib.hid (H3.out.new hg); have G5 := Lib.hid (G3.out.made hg); clear hg))
    go_ret
    exact ⟨_, _, by rw [HA.out]; rfl, H5.out, G5.out⟩
  · have c3 : c2 - 1 ≤ maxLen := by unfold maxLen; omega
    have hm1 : rest.length ≤ c2 - 1 := by omega
    go_enter Tryz.func90, Tryz.ntmps90
    go_wp2_with (first
      | (go_at_call 125; (with_reducible refine L.out.mono ?_); rintro e w2 ⟨rfl, hg⟩; have G2 := Lib.hid hg; have H2 := Lib.hid (HH.out.new hg); have f2 := H2.out.at HV.out; have g2 := hg.cell g0 (by simp); have z2 := H2.out.fz (1 + p); clear hg))
    go_region
    have H3 := Lib.hid ((H2.out.list p64 ((HX.out.new G2.out).rest (A := some ⟨b2, o2 + 1, none⟩) (m := rest.length) (c' := c2 - 1) (fun _ => rfl) (fun e => (by cases e)) hm1 c3)).drew)
    have f4 := H3.out.h0
    have G3 := Lib.hid ((Gr.new (L := [H]) G2.out).trans (((Gr.set (L := [H]) w2 H (1 + p) (.slice (some ⟨b2, o2 + 1, none⟩) rest.length (c2 - 1)) (by simp))).drew))
    have k4 := G3.out.cell k0 (by simp; exact VB.out)
    go_wp2_with (first
      | (go_at_call 87; (with_reducible refine (pg.rsz_any _ _ KF.out).mono ?_); rintro e w5 ⟨rfl, hg⟩; rw [HZ.out]; have H5 := Lib.hid (H3.out.new hg); have G5 := Lib.hid (G3.out.made hg); clear hg))
    go_ret
    exact ⟨_, _, by rw [HA.out]; rfl, H5.out, G5.out⟩
end
end Go.Proofs.YtfloleflcoiidaaGreatDoor.bo
