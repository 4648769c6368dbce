/- Joined: BoA, BoB, BoC, BoD, BoE, BoF, BoG, BoH. -/
import Derived.Test.YtpnhanalnbjapaaDoorCeR
import Derived.Deep.RegionHeld3
import Derived.Deep.RegionWith
/- The statement's own heap by lists, in memory. -/
namespace Go.Proofs.YtpnhanalnbjapaaDoor.bo
open Go.ChangeShapes Go.WideShapes Go.ChangeAt Go.RowKit gen calls cls geos ce
set_option linter.unusedVariables false
/-- A list that is read; its row is none of V. -/
def Fx (w : World) (V : List Nat) (v : Value) (l : List Int) : Prop :=
  ∃ A n c, v = .slice A n c ∧ Rd w w.heap.size A n c l ∧ (∀ ad, A = some ad → 0 < n → ad.block ∉ V) ∧ n ≤ c ∧ c ≤ maxLen
theorem Fx.gr {w w' : World} {V L : List Nat} {v : Value} {l : List Int} (h : Fx w V v l) (hg : Gr L w w') (hL : ∀ k, k ∈ L → k ∈ V) : Fx w' V v l := by
  obtain ⟨A, n, c, hv, hr, ha, h1, h2⟩ := h
  refine ⟨A, n, c, hv, ⟨hr.1, hr.2.1, fun ad e i hi => ?_⟩, ha, h1, h2⟩
  have := hr.2.2 ad e i hi
  refine ⟨Nat.lt_of_lt_of_le this.1 hg.size, hg.cell this.2 ?_⟩
  rw [block_of_add]
  exact fun hm => ha ad e (by omega) (hL _ hm)
theorem Fx.new {w w' : World} {V : List Nat} {v : Value} {l : List Int} (h : Fx w V v l) (hg : w.grownBy w' none) : Fx w' V v l := h.gr (L := []) (.new hg) (by simp)
theorem Fx.nil (w : World) (V : List Nat) : Fx w V (.slice none 0 0) [] := ⟨none, 0, 0, rfl, ⟨rfl, fun _ => ⟨rfl, rfl⟩, fun ad e => (by cases e)⟩, fun ad e => (by cases e), Nat.le_refl _, by unfold maxLen; omega⟩
theorem Fx.own {w : World} {V : List Nat} {base n c : Nat} {A : Option Addr} {l : List Int} (h : w.ownsRow base 3 1 (.slice A n c) n (li.ints l)) (hV : ∀ k, k ∈ V → k < base) : Fx w V (.slice A n c) l := by
  refine ⟨A, n, c, rfl, li.rd_own h, fun ad e hn hm => ?_, ?_⟩
  · subst e
    have h1 := own_base h
    rcases h.2 with ⟨e, _⟩ | ⟨g, cap, cur, e, h2, _⟩
    · cases e
    · injection e with e1 e2 e3
      injection e1 with e1
      subst e1
      have := hV _ hm
      simp at this
      omega
  · rcases li.own_or h with ⟨_, h1, h2⟩ | ⟨_, _, h1, h2⟩
    · subst h1; subst h2; exact ⟨Nat.le_refl _, by unfold maxLen; omega⟩
    · exact ⟨h1, h2⟩
/-- Other blocks to keep off. -/
theorem Fx.re {w : World} {V V' : List Nat} {v : Value} {l : List Int} (h : Fx w V v l) (hV : ∀ k, k ∈ V' → k ∈ V ∨ w.heap.size ≤ k) : Fx w V' v l := by
  obtain ⟨A, n, c, hv, hr, ha, h1, h2⟩ := h
  refine ⟨A, n, c, hv, hr, fun ad e hn hm => ?_, h1, h2⟩
  rcases hV _ hm with h3 | h3
  · exact ha ad e hn h3
  · have := (hr.2.2 ad e 0 hn).1; omega
theorem Fx.rest {w : World} {V : List Nat} {b o m c c' : Nat} {A : Option Addr} {x : Int} {l : List Int} (h : Fx w V (.slice (some ⟨b, o, none⟩) (m + 1) c) (x :: l)) (hA : 0 < m → A = some ⟨b, o + 1, none⟩) (hn : A = none → c' = 0) (h1 : m ≤ c') (h2 : c' ≤ maxLen) : Fx w V (.slice A m c') l := by
  obtain ⟨A0, n0, c0, hv, hr, ha, _, _⟩ := h
  injection hv with e1 e2 e3
  subst e1; subst e2; subst e3
  have hl : l.length = m := by have := hr.1; simpa using this
  refine ⟨A, m, c', rfl, ⟨hl, fun e => ?_, fun ad e i hi => ?_⟩, fun ad e hm => ?_, h1, h2⟩
  · rcases Nat.eq_zero_or_pos m with h0 | h0
    · exact ⟨h0, hn e⟩
    · rw [hA h0] at e; cases e
  · rw [hA (by omega)] at e
    injection e with e
    subst e
    have := hr.2.2 _ rfl (i + 1) (by omega)
    rw [Addr.add_lit] at this ⊢
    refine ⟨this.1, ?_⟩
    rw [show o + 1 + i = o + (i + 1) by omega, this.2]
    simp [List.getD_eq_getElem?_getD]
  · rw [hA hm] at e
    injection e with e
    subst e
    exact ha ⟨b, o, none⟩ rfl (by omega)
/-- The heap by lists, at H: its pages' kinds, of each page its free cells; none of their rows is one of V. -/
structure Hh (w : World) (V : List Nat) (H : Nat) (vk : Value) (vs tl : List Value) (ks : List Int) (fr : Nat → List Int) : Prop where
  hea : w.heap[H]? = some (.cells (vk :: (vs ++ tl)).toArray 66 (0, 0))
  vsl : vs.length = 64
  kd : Fx w V vk ks
  fre : ∀ p, p < 64 → ∃ v, vs[p]? = some v ∧ Fx w V v (fr p)
  hV : H ∈ V
  lt : ∀ k, k ∈ V → k < w.heap.size
section
variable {w w' : World} {V : List Nat} {H : Nat} {vk : Value} {vs tl : List Value} {ks : List Int} {fr : Nat → List Int}
theorem Hh.gr {L : List Nat} (h : Hh w V H vk vs tl ks fr) (hg : Gr L w w') (hL : ∀ k, k ∈ L → k ∈ V ∧ k ≠ H) : Hh w' V H vk vs tl ks fr :=
  ⟨hg.heap h.hea (fun hm => (hL _ hm).2 rfl), h.vsl, h.kd.gr hg (fun k hk => (hL k hk).1), fun p hp => by obtain ⟨v, h1, h2⟩ := h.fre p hp; exact ⟨v, h1, h2.gr hg (fun k hk => (hL k hk).1)⟩, h.hV, fun k hk => Nat.lt_of_lt_of_le (h.lt k hk) hg.size⟩
theorem Hh.new (h : Hh w V H vk vs tl ks fr) (hg : w.grownBy w' none) : Hh w' V H vk vs tl ks fr := h.gr (L := []) (.new hg) (by simp)
theorem Hh.drewN (h : Hh w V H vk vs tl ks fr) (n : Nat) : Hh (w.drewN n) V H vk vs tl ks fr := h.new (bm.grown_drewN _ _ _)
theorem Hh.drew (h : Hh w V H vk vs tl ks fr) : Hh w.drew V H vk vs tl ks fr := h.new (ch.grown_drew _ _)
theorem Hh.h0 (h : Hh w V H vk vs tl ks fr) : w.cell? ⟨H, 0, none⟩ = some vk := by rw [cell_of_row w H 0 _ _ _ h.hea]; rfl
theorem Hh.at (h : Hh w V H vk vs tl ks fr) {p : Nat} {v : Value} (hp : vs[p]? = some v) : w.cell? ⟨H, 1 + p, none⟩ = some v := by
  rw [cell_of_row w H (1 + p) _ _ _ h.hea, Nat.add_comm 1 p]
  have : p < vs.length := (List.getElem?_eq_some_iff.1 hp).1
  simp [List.getElem?_append, this]
  exact List.getElem?_eq_some_iff.1 hp |>.2
theorem Hh.fz (h : Hh w V H vk vs tl ks fr) (k : Nat) : w.frozen? ⟨H, k, none⟩ = false := frozen_of_row w H k _ _ h.hea
/-- Kinds written. -/
theorem Hh.kinds {v : Value} {ks' : List Int} (h : Hh w V H vk vs tl ks fr) (hv : Fx w V v ks') : Hh (w.setCell ⟨H, 0, none⟩ v) V H v vs tl ks' fr := by
  have G : Gr [H] w (w.setCell ⟨H, 0, none⟩ v) := .set _ _ _ _ (by simp)
  have hL : ∀ k, k ∈ [H] → k ∈ V := fun k hk => by simp at hk; subst hk; exact h.hV
  refine ⟨?_, h.vsl, hv.gr G hL, fun p hp => by obtain ⟨v, h1, h2⟩ := h.fre p hp; exact ⟨v, h1, h2.gr G hL⟩, h.hV, fun k hk => Nat.lt_of_lt_of_le (h.lt k hk) G.size⟩
  rw [heap_setCell_same w H _ _ _ _ h.hea]
  simp
/-- A page's list written. -/
theorem Hh.list {v : Value} {l : List Int} {p : Nat} (h : Hh w V H vk vs tl ks fr) (hp : p < 64) (hv : Fx w V v l) : Hh (w.setCell ⟨H, 1 + p, none⟩ v) V H vk (vs.set p v) tl ks (upd fr p l) := by
  have G : Gr [H] w (w.setCell ⟨H, 1 + p, none⟩ v) := .set _ _ _ _ (by simp)
  have hL : ∀ k, k ∈ [H] → k ∈ V := fun k hk => by simp at hk; subst hk; exact h.hV
  have vl := h.vsl
  refine ⟨?_, by rw [List.length_set]; exact h.vsl, h.kd.gr G hL, fun i hi => ?_, h.hV, fun k hk => Nat.lt_of_lt_of_le (h.lt k hk) G.size⟩
  · rw [heap_setCell_same w H _ _ _ _ h.hea, List.setIfInBounds_toArray, Nat.add_comm 1 p, List.set_cons_succ, List.set_append_left _ _ (by omega)]
  · by_cases e : i = p
    · subst e
      exact ⟨v, by rw [List.getElem?_set_self (by omega)], by rw [upd_same]; exact hv.gr G hL⟩
    · obtain ⟨v', h1, h2⟩ := h.fre i hi
      exact ⟨v', by rw [List.getElem?_set_ne (by omega)]; exact h1, by rw [upd_other _ _ e]; exact h2.gr G hL⟩
end
end Go.Proofs.YtpnhanalnbjapaaDoor.bo

/- What the statement's own heap by lists does. -/
namespace Go.Proofs.YtpnhanalnbjapaaDoor.bo
open Go.ChangeShapes Go.WideShapes Go.ChangeAt Go.RowKit gen calls cls geos ce
set_option linter.unusedVariables false
set_option maxHeartbeats 4000000
set_option maxRecDepth 100000
/-- What the heap by lists is behind a call. -/
def HhAns (v : Value) (V : List Nat) (H : Nat) (tl : List Value) (ks : List Int) (fr : Nat → List Int) (w : World) (e : Ending) (w' : World) : Prop :=
  ∃ vk vs, e = .returned v ∧ Hh w' V H vk vs tl ks fr ∧ Gr [H] w w'
/-- How many free cells. -/
def lef (ks : List Int) (fr : Nat → List Int) (p : Int) : Int := if 1 ≤ pg.kind ks p ∧ pg.kind ks p ≤ 4 then (fr p.toNat).length else 0
section
variable {w w' : World} {V : List Nat} {H : Nat} {vk : Value} {vs tl : List Value} {ks : List Int} {fr : Nat → List Int}
theorem sz_zero {k : Int} (h : ¬ (1 ≤ k ∧ k ≤ 4)) : sz k = 0 := sz_no (by omega)
theorem sz_some {k : Int} (h : 1 ≤ k ∧ k ≤ 4) : ∃ z : Nat, sz k = z ∧ 2 ≤ z ∧ z ≤ 16 := by
  obtain ⟨s, c, e1, _, _, _, _, e2, e3⟩ := ch.sz_cl h.1 h.2
  exact ⟨s, e1, by omega, e3⟩
theorem rLeft_any (h : Hh w V H vk vs tl ks fr) (hks : pg.Ks ks) (hl : ks.length ≤ 64) (p : Int) :
    Calls Tryd.prog 32 #[.pointer (some ⟨H, 0, none⟩), .int .i64 p] w fun e w' => e = int1 (lef ks fr p) ∧ w.grownBy w' none := by
  have f := h.h0
  obtain ⟨A, n, c, rfl, hr, ha, hn, hc⟩ := h.kd
  have hn64 : n ≤ 64 := by have := hr.1; omega
  have KD := Lib.hid (fun p => pg.rKind_any hn64 hr p)
  have HH := Lib.hid h
  have KF := Lib.hid (ce.kind_fits hks p)
  rcases Decidable.em (1 ≤ pg.kind ks p ∧ pg.kind ks p ≤ 4) with hk | hk
  · obtain ⟨P, rfl, p64, _⟩ := ce.there hl (z := p) (by omega)
    obtain ⟨z, hz, z2, _⟩ := sz_some hk
    obtain ⟨v, hv, A2, n2, c2, rfl, hr2, _, hn2, hc2⟩ := h.fre P p64
    have e : lef ks fr P = n2 := by unfold lef; rw [if_pos hk, Int.toNat_natCast, hr2.1]
    rw [e]
    have HV := Lib.hid hv
    have HZ := Lib.hid hz
    have t1 : ((z : Int) == 0) = false := by simp; omega
    clear h hks hl hr ha hk hz hv hr2 e
    go_enter Tryd.func32, Tryd.ntmps32
    go_wp2_with (first
      | (go_at_call 34; (with_reducible refine (KD.out _).mono ?_); rintro e w' ⟨rfl, hw⟩; subst hw)
      | (go_at_call 69; (with_reducible refine (pg.rsz_any _ _ KF.out).mono ?_); rintro e w2 ⟨rfl, hg⟩; rw [HZ.out]; have G2 := Lib.hid hg; have f2 := (HH.out.new hg).at HV.out; clear hg))
    go_ret
    exact ⟨rfl, G2.out⟩
  · have e : lef ks fr p = 0 := by unfold lef; rw [if_neg hk]
    rw [e]
    have HZ := Lib.hid (sz_zero hk)
    clear h hks hl hr ha hk e
    go_enter Tryd.func32, Tryd.ntmps32
    go_wp2_with (first
      | (go_at_call 34; (with_reducible refine (KD.out _).mono ?_); rintro e w' ⟨rfl, hw⟩; subst hw)
      | (go_at_call 69; (with_reducible refine (pg.rsz_any _ _ KF.out).mono ?_); rintro e w2 ⟨rfl, hg⟩; rw [HZ.out]; have G2 := Lib.hid hg; clear hg))
    go_ret
    exact ⟨rfl, G2.out⟩
theorem rTake_no (h : Hh w V H vk vs tl ks fr) (hks : pg.Ks ks) (hl : ks.length ≤ 64) (p : Int) (h0 : lef ks fr p = 0) :
    Calls Tryd.prog 59 #[.pointer (some ⟨H, 0, none⟩), .int .i64 p] w fun e w' => e = int1 (-1) ∧ w.grownBy w' none := by
  have L := Lib.hid (rLeft_any h hks hl p)
  rw [h0] at L
  clear h hks hl h0
  go_enter Tryd.func59, Tryd.ntmps59
  go_wp2_with (first
    | (go_at_call 32; (with_reducible refine L.out.mono ?_); rintro e w2 ⟨rfl, hg⟩; have G2 := Lib.hid hg; clear hg))
  go_ret
  exact ⟨rfl, G2.out⟩
theorem rTake_yes (h : Hh w V H vk vs tl ks fr) (hks : pg.Ks ks) (hl : ks.length ≤ 64) {p a z : Nat} {x : Int} {rest : List Int} (hk : 1 ≤ pg.kind ks p ∧ pg.kind ks p ≤ 4) (hfr : fr p = x :: rest) (hx : 0 ≤ x ∧ x < 16) (ha' : (a : Int) = p * 32 + x * z) (hz : sz (pg.kind ks p) = z) :
    Calls Tryd.prog 59 #[.pointer (some ⟨H, 0, none⟩), .int .i64 p] w (HhAns (.int .i64 a) V H tl ks (upd fr p rest) w) := by
  have L := Lib.hid (rLeft_any h hks hl p)
  obtain ⟨P, eP, p64, pl⟩ := ce.there hl (z := (p : Int)) (by omega)
  obtain rfl : p = P := by omega
  have e : lef ks fr p = rest.length + 1 := by unfold lef; rw [if_pos hk, Int.toNat_natCast, hfr]; simp
  rw [e] at L
  obtain ⟨A, n, c, rfl, hr, ha, hn, hc⟩ := h.kd
  obtain ⟨v, hv, hfx⟩ := h.fre p p64
  rw [hfr] at hfx
  have hfx' := hfx
  obtain ⟨A2, n2, c2, rfl, hr2, _, hn2, hc2⟩ := hfx'
  have hlen : rest.length + 1 = n2 := by have := hr2.1; simpa using this
  subst hlen
  obtain ⟨b2, o2, rfl, g0⟩ := hr2.at_ (k := 0) (by omega)
  rw [Nat.add_zero] at g0
  have g0 : w.cell? ⟨b2, o2, none⟩ = some (.int .i64 x) := by simpa using g0
  have KF := Lib.hid (ce.kind_fits hks p)
  have hkd := h.kd
  obtain ⟨b1, o1, rfl, k0⟩ := hr.at_ (k := p) (by have := hr.1; omega)
  rw [← pg.kind_in pl] at k0
  obtain ⟨z', hz', z2, z16⟩ := sz_some hk
  obtain rfl : z = z' := by omega
  have HZ := Lib.hid hz
  have HA := Lib.hid ha'
  have HX := Lib.hid hfx
  have HH := Lib.hid h
  have HV := Lib.hid hv
  have pn : p < n := by have := hr.1; omega
  have VB := Lib.hid (show b1 ≠ H from fun e => ha _ rfl (by omega) (e ▸ h.hV))
  have t1 : ((rest.length : Int) + 1 == 0) = false := by simp; omega
  have x0 := hx.1
  have x16 := hx.2
  have m1 : x * (z : Int) ≤ 256 := Int.le_trans (Int.mul_le_mul_of_nonneg_right (show x ≤ 16 by omega) (by omega)) (by omega)
  have m0 : 0 ≤ x * (z : Int) := Int.mul_nonneg x0 (by omega)
  have hnn : (rest.length + 1 : Nat) ≤ maxLen := Nat.le_trans hn2 hc2
  unfold maxLen at hc2 hnn
  clear hks hl hk hfr hz ha' h hkd hr hv hfx hr2 hx e hz' ha
  generalize pg.kind ks p = k at *
  by_cases hc1 : c2 = 1
  · obtain rfl : rest = [] := List.eq_nil_of_length_eq_zero (by omega)
    subst hc1
    go_enter Tryd.func59, Tryd.ntmps59
    go_wp2_with (first
      | (go_at_call 32; (with_reducible refine L.out.mono ?_); rintro e w2 ⟨rfl, hg⟩; have G2 := Lib.hid hg; have H2 := Lib.hid (HH.out.new hg); have f2 := H2.out.at HV.out; have g2 := hg.cell g0 (by simp); have z2 := H2.out.fz (1 + p); clear hg))
    go_region
    have H3 := Lib.hid ((H2.out.list p64 ((HX.out.new G2.out).rest (A := some ⟨b2, o2, none⟩) (m := 0) (c' := 0) (fun h => absurd h (by omega)) (fun e => (by cases e)) (by omega) (by unfold maxLen; omega))).drew)
    have f4 := H3.out.h0
    have G3 := Lib.hid ((Gr.new (L := [H]) G2.out).trans (((Gr.set (L := [H]) w2 H (1 + p) (.slice (some ⟨b2, o2, none⟩) 0 0) (by simp))).drew))
    have k4 := G3.out.cell k0 (by simp; exact VB.out)
    go_wp2_with (first
      | (go_at_call 69; (with_reducible refine (pg.rsz_any _ _ KF.out).mono ?_); rintro e w5 ⟨rfl, hg⟩; rw [HZ.out]; have H5 := Lib.hid (H3.out.new hg); have G5 := Lib.hid (G3.out.made hg); clear hg))
    go_ret
    exact ⟨_, _, by rw [HA.out]; rfl, H5.out, G5.out⟩
  · have c3 : c2 - 1 ≤ maxLen := by unfold maxLen; omega
    have hm1 : rest.length ≤ c2 - 1 := by omega
    go_enter Tryd.func59, Tryd.ntmps59
    go_wp2_with (first
      | (go_at_call 32; (with_reducible refine L.out.mono ?_); rintro e w2 ⟨rfl, hg⟩; have G2 := Lib.hid hg; have H2 := Lib.hid (HH.out.new hg); have f2 := H2.out.at HV.out; have g2 := hg.cell g0 (by simp); have z2 := H2.out.fz (1 + p); clear hg))
    go_region
    have H3 := Lib.hid ((H2.out.list p64 ((HX.out.new G2.out).rest (A := some ⟨b2, o2 + 1, none⟩) (m := rest.length) (c' := c2 - 1) (fun _ => rfl) (fun e => (by cases e)) hm1 c3)).drew)
    have f4 := H3.out.h0
    have G3 := Lib.hid ((Gr.new (L := [H]) G2.out).trans (((Gr.set (L := [H]) w2 H (1 + p) (.slice (some ⟨b2, o2 + 1, none⟩) rest.length (c2 - 1)) (by simp))).drew))
    have k4 := G3.out.cell k0 (by simp; exact VB.out)
    go_wp2_with (first
      | (go_at_call 69; (with_reducible refine (pg.rsz_any _ _ KF.out).mono ?_); rintro e w5 ⟨rfl, hg⟩; rw [HZ.out]; have H5 := Lib.hid (H3.out.new hg); have G5 := Lib.hid (G3.out.made hg); clear hg))
    go_ret
    exact ⟨_, _, by rw [HA.out]; rfl, H5.out, G5.out⟩
end
end Go.Proofs.YtpnhanalnbjapaaDoor.bo

/- What the statement's own heap by lists does: Carve, Large, Drop, Give. -/
namespace Go.Proofs.YtpnhanalnbjapaaDoor.bo
open Go.ChangeShapes Go.WideShapes Go.ChangeAt Go.RowKit gen calls cls geos ce
set_option linter.unusedVariables false
set_option maxHeartbeats 4000000
set_option maxRecDepth 100000
section
variable {w w' : World} {V : List Nat} {H : Nat} {vk : Value} {vs tl : List Value} {ks : List Int} {fr : Nat → List Int}
theorem rCarve_none (h : Hh w V H vk vs tl ks fr) (hl : ks.length ≤ 64) (k : Int) (hf : pg.find 1 0 ks = none) :
    Calls Tryd.prog 58 #[.pointer (some ⟨H, 0, none⟩), .int .i64 k] w fun e w' => e = int1 (-1) ∧ w.grownBy w' none := by
  have f := h.h0
  obtain ⟨A, n, c, rfl, hr, ha, hn, hc⟩ := h.kd
  have FD := Lib.hid ((pg.rFind_any (by have := hr.1; omega) hr 1).mono fun e w' ⟨h1, h2⟩ => (⟨h1, h2.symm⟩ : e = int1 (pg.fnd ks 1) ∧ w = w'))
  rw [pg.fnd_none (by omega) hf] at FD
  clear h hl hr ha hf
  go_enter Tryd.func58, Tryd.ntmps58
  go_wp2_with (first
    | (go_at_call 88; (with_reducible refine FD.out.mono ?_); rintro e w' ⟨rfl, rfl⟩))
  go_ret
  exact ⟨rfl, World.grownBy.refl _ _⟩
theorem rCarve_no (h : Hh w V H vk vs tl ks fr) (hl : ks.length ≤ 64) (k : Int) (hk : fits k = true) (hno : ¬ (1 ≤ k ∧ k ≤ 4)) :
    Calls Tryd.prog 58 #[.pointer (some ⟨H, 0, none⟩), .int .i64 k] w fun e w' => e = int1 (-1) ∧ w.grownBy w' none := by
  cases hf : pg.find 1 0 ks with
  | none => exact rCarve_none h hl k hf
  | some p =>
    have f := h.h0
    obtain ⟨A, n, c, rfl, hr, ha, hn, hc⟩ := h.kd
    have FD := Lib.hid ((pg.rFind_any (by have := hr.1; omega) hr 1).mono fun e w' ⟨h1, h2⟩ => (⟨h1, h2.symm⟩ : e = int1 (pg.fnd ks 1) ∧ w = w'))
    rw [pg.fnd_some (by omega) hf] at FD
    have SZ := Lib.hid (fun w => pg.rsz_any k w hk)
    rw [sz_zero hno] at SZ
    have t1 : decide ((p : Int) < 0) = false := by simp
    clear h hl hr ha hf hk hno
    go_enter Tryd.func58, Tryd.ntmps58
    go_wp2_with (first
      | (go_at_call 88; (with_reducible refine FD.out.mono ?_); rintro e w' ⟨rfl, rfl⟩)
      | (go_at_call 69; (with_reducible refine (SZ.out _).mono ?_); rintro e w2 ⟨rfl, hg⟩; have G2 := Lib.hid hg; clear hg))
    go_ret
    exact ⟨rfl, G2.out⟩
theorem from_take (j : Nat) : li.ints (ch.from_ 0 (j + 1)) = li.ints (ch.from_ 0 j) ++ [.int .i64 (j : Int)] := by
  rw [ch.from_more, Nat.zero_add]; simp [li.ints]
theorem rCarve_yes (h : Hh w V H vk vs tl ks fr) (hks : pg.Ks ks) (hl : ks.length ≤ 64) {k : Int} (hk : 1 ≤ k ∧ k ≤ 4) {p n : Nat} (hf : pg.find 1 0 ks = some p) (hn : cl k = n) :
    Calls Tryd.prog 58 #[.pointer (some ⟨H, 0, none⟩), .int .i64 k] w (HhAns (.int .i64 p) V H tl (ks.set p k) (upd fr p (ch.from_ 0 n)) w) := by
  obtain ⟨i0, hi, hz0, hz1, hz2⟩ := info_parts li.info_int
  have E : Hid (i0.zero = some (.int .i64 0) ∧ i0.size = 1 ∧ i0.bytes = 8 ∧ Tryd.prog.info? 3 = some i0) := ⟨hz0, hz1, hz2, hi⟩
  clear hi hz0 hz1 hz2
  have f := h.h0
  obtain ⟨A, m, c, rfl, hr, ha, hm, hc⟩ := h.kd
  have pl := (pg.find_at (n := 1) (by omega) hf).1
  have p64 : p < 64 := by omega
  have FD := Lib.hid ((pg.rFind_any (by have := hr.1; omega) hr 1).mono fun e w' ⟨h1, h2⟩ => (⟨h1, h2.symm⟩ : e = int1 (pg.fnd ks 1) ∧ w = w'))
  rw [pg.fnd_some (by omega) hf] at FD
  have fk : fits k = true := by simp [fits]; omega
  obtain ⟨z, hz, z2, _⟩ := sz_some hk
  have SZ := Lib.hid (fun w => pg.rsz_any k w fk)
  rw [hz] at SZ
  have CL := Lib.hid (fun w => rCells_any k w fk)
  rw [hn] at CL
  have n16 : n ≤ 16 := by have := cl_wide k; omega
  have t1 : decide ((p : Int) < 0) = false := by simp
  have t2 : ((z : Int) == 0) = false := by simp; omega
  have HH := Lib.hid h
  have m64 : m ≤ 64 := by have := hr.1; omega
  have ML := Lib.hid hr.1
  have S1 := Lib.hid (fun W (h1 : Rd W W.heap.size A m c ks) => pg.rSet_any (ks.set p k) m64 h1 p 1 k (by simp [fits]; omega) (by omega) (by rw [List.length_set]; exact hr.1) (fun i hi => by
    rw [pg.set_getD _ _ _ _ pl]
    repeat' split
    all_goals first | rfl | omega))
  have RK := Lib.hid hr
  have HV := Lib.hid h.lt
  have LY := Lib.hid (show (ks.set p k).length = m by rw [List.length_set]; exact hr.1)
  clear h hks hl hr ha hf hk hn hz fk pl
  generalize ks.set p k = ys at *
  go_enter Tryd.func58, Tryd.ntmps58
  go_wp2_with (first
    | (go_at_call 88; (with_reducible refine FD.out.mono ?_); rintro e w' ⟨rfl, rfl⟩)
    | (go_at_call 69; (with_reducible refine (SZ.out _).mono ?_); rintro e w2 ⟨rfl, hg⟩; have G2 := Lib.hid hg; have H2 := Lib.hid (HH.out.new hg); have f2 := H2.out.h0; have R2 := Lib.hid (bm.Rd.below' RK.out (li.grown_below hg) hg.size); clear hg)
    | (go_at_call 71; (with_reducible refine (S1.out _ R2.out).mono ?_); rintro e w3 ⟨A3, c3, rfl, ho, hg⟩; rw [LY.out] at ho ⊢; have G3 := Lib.hid (G2.out.trans hg); have H3 := Lib.hid (H2.out.new hg); have f3 := H3.out.h0; have z3 := H3.out.fz 0; have F3 := Lib.hid (Fx.own (V := V) ho (fun k hk => Nat.lt_of_lt_of_le (HV.out k hk) G2.out.size)); have H4 := Lib.hid (H3.out.kinds F3.out); have G4 := Lib.hid ((Gr.new (L := [H]) G3.out).trans (Gr.set w3 H 0 (.slice A3 m c3) (by simp))); clear ho hg))
  go_loopw [6, 7] (fun v i wr => ∃ (j : Nat) (A' : Option Addr) (c' : Nat), j ≤ n ∧ i = .int .i64 j ∧ v = .slice A' j c' ∧ wr.ownsRow w3.heap.size 3 1 (.slice A' j c') j (li.ints (ch.from_ 0 j)) ∧ (w3.setCell ⟨H, 0, none⟩ (.slice A3 m c3)).grownBy wr none) (fun _ i _ => n - (intOf i).toNat)
  case atStart => exact ⟨0, none, 0, Nat.zero_le _, rfl, rfl, World.ownsRow_nil _ _ _ _, World.grownBy.refl _ _⟩
  case round =>
    obtain ⟨j, A', c', hj, rfl, rfl, ho, hg⟩ := hrel
    have HO := Lib.hid ho
    have HG := Lib.hid hg
    have SZW := Lib.hid (show w3.heap.size ≤ wr.heap.size by have := hg.size; simpa using this)
    clear ho hg
    by_cases hlt : j < n
    · have FT := Lib.hid (from_take j)
      go_wp2_with (first
        | (go_at_call 70; (with_reducible refine (CL.out _).mono ?_); rintro e w5 ⟨rfl, hb⟩; have g5 := pg.below_grown hb; have O5 := Lib.hid (HO.out.kept g5 (by cases (Value.slice A' j c').ownBlock <;> simp)); have G5 := Lib.hid (HG.out.trans g5); have S5 := Lib.hid (Nat.le_trans SZW.out g5.size); clear hb g5)
        | (refine wpList_append_rd rfl (.tmp 36) (.tmp 38) 30 rfl w3.heap.size 3 i0 (.int .i64 0) 8 Tryd.underlying30 E.out.2.2.2 E.out.1 E.out.2.1 E.out.2.2.1 rfl _ j (ch.from_ 0 j) rfl (O5.out.alloc _) (some ⟨w5.heap.size, 0, none⟩) 1 1 _ [(j : Int)] rfl (li.Rd.one _ _ _) (by unfold maxLen; omega) (by omega) (by have := S5.out; simp; omega) ?_; intro A6 c6 w6 own1 rd1 gr1; have OWN1 := Lib.hid own1; have GR1 := Lib.hid gr1; clear own1 gr1 rd1))
      go_roundw
      case rel => exact ⟨j + 1, A6, c6, by omega, by go_num, rfl, by rw [FT.out]; simpa [li.ints] using OWN1.out, li.grown_one G5.out O5.out (by simp) GR1.out⟩
      case measure => simp [intOf]; omega
    · obtain rfl : j = n := by omega
      have H6 := Lib.hid (H4.out.new HG.out)
      obtain ⟨v0, hv0, hf0⟩ := H6.out.fre p p64
      obtain ⟨A0, n0, c0, rfl, _⟩ := hf0
      have HV0 := Lib.hid hv0
      have FX := Lib.hid (Fx.own (V := V) HO.out (fun k hk => Nat.lt_of_lt_of_le (HV.out k hk) G3.out.size))
      clear hv0
      go_wp2_with (first
        | (go_at_call 70; (with_reducible refine (CL.out _).mono ?_); rintro e w5 ⟨rfl, hb⟩; have g5 := pg.below_grown hb; have H8 := Lib.hid (H6.out.new g5); have f8 := H8.out.at HV0.out; have z8 := H8.out.fz (1 + p); have H9 := Lib.hid (H8.out.list p64 (FX.out.new g5)); have G9 := Lib.hid (((G4.out.made HG.out).made g5).trans (Gr.set w5 H (1 + p) (.slice A' j c') (by simp))); clear hb g5))
      go_ret
      exact ⟨_, _, rfl, H9.out, G9.out⟩
end
end Go.Proofs.YtpnhanalnbjapaaDoor.bo

/- What the statement's own heap by lists does: Large, Drop, Give. -/
namespace Go.Proofs.YtpnhanalnbjapaaDoor.bo
open Go.ChangeShapes Go.WideShapes Go.ChangeAt Go.RowKit gen calls cls geos ce
set_option linter.unusedVariables false
set_option maxHeartbeats 4000000
set_option maxRecDepth 100000
section
variable {w w' : World} {V : List Nat} {H : Nat} {vk : Value} {vs tl : List Value} {ks : List Int} {fr : Nat → List Int}
theorem then_at {K : Act → World → Prop} {Q : Exit → Act → World → Prop} {e : Exit} {a b : Act} {w : World} (h : a = b) (hq : Exit.then K Q e b w) : Exit.then K Q e a w := h ▸ hq
theorem rLarge_no (h : Hh w V H vk vs tl ks fr) (hl : ks.length ≤ 64) (n : Int) (hf : 1 ≤ n → pg.find n 0 ks = none) :
    Calls Tryd.prog 61 #[.pointer (some ⟨H, 0, none⟩), .int .i64 n] w fun e w' => e = int1 (-1) ∧ w.grownBy w' none := by
  have f := h.h0
  obtain ⟨A, m, c, rfl, hr, ha, hm, hc⟩ := h.kd
  have FD := Lib.hid ((pg.rFind_any (by have := hr.1; omega) hr n).mono fun e w' ⟨h1, h2⟩ => (⟨h1, h2.symm⟩ : e = int1 (pg.fnd ks n) ∧ w = w'))
  have e : pg.fnd ks n = -1 := by
    by_cases h1 : 1 ≤ n
    · exact pg.fnd_none h1 (hf h1)
    · unfold pg.fnd; rw [if_pos (by omega)]
  rw [e] at FD
  clear h hl hr ha hf e
  go_enter Tryd.func61, Tryd.ntmps61
  go_wp2_with (first
    | (go_at_call 88; (with_reducible refine FD.out.mono ?_); rintro e w' ⟨rfl, rfl⟩))
  go_ret
  exact ⟨rfl, World.grownBy.refl _ _⟩
theorem rLarge_yes (h : Hh w V H vk vs tl ks fr) (hl : ks.length ≤ 64) {n p a : Nat} (h1 : 1 ≤ n) (hf : pg.find n 0 ks = some p) (ha' : a = p * 32) :
    Calls Tryd.prog 61 #[.pointer (some ⟨H, 0, none⟩), .int .i64 n] w (HhAns (.int .i64 a) V H tl (pg.spanN ks p n) fr w) := by
  have f := h.h0
  obtain ⟨A, m, c, rfl, hr, ha, hm, hc⟩ := h.kd
  have FD := Lib.hid ((pg.rFind_any (by have := hr.1; omega) hr n).mono fun e w' ⟨h1, h2⟩ => (⟨h1, h2.symm⟩ : e = int1 (pg.fnd ks n) ∧ w = w'))
  rw [pg.fnd_some (by omega) hf] at FD
  obtain ⟨hp, _, _, hpn⟩ := pg.find_at (n := n) (by omega) hf
  have t1 : decide ((p : Int) < 0) = false := by simp
  have m64 : m ≤ 64 := by have := hr.1; omega
  have S1 := Lib.hid (pg.rSpan_any m64 hr p n h1 (by have := hr.1; omega))
  have LY := Lib.hid (show (pg.spanN ks p n).length = m by rw [pg.spanN_length]; exact hr.1)
  have HH := Lib.hid h
  have p64 : p < 64 := by omega
  have HA := Lib.hid (show (p : Int) * 32 = a by omega)
  clear h hl hr ha hf h1 ha' hp hpn
  generalize pg.spanN ks p n = ys at *
  go_enter Tryd.func61, Tryd.ntmps61
  go_wp2_with (first
    | (go_at_call 88; (with_reducible refine FD.out.mono ?_); rintro e w' ⟨rfl, rfl⟩)
    | (go_at_call 90; (with_reducible refine S1.out.mono ?_); rintro e w3 ⟨A3, c3, rfl, ho, hg⟩; rw [LY.out] at ho ⊢; have H3 := Lib.hid (HH.out.new hg); have f3 := H3.out.h0; have z3 := H3.out.fz 0; have F3 := Lib.hid (Fx.own (V := V) ho HH.out.lt); have H4 := Lib.hid (H3.out.kinds F3.out); have G4 := Lib.hid ((Gr.new (L := [H]) hg).trans (Gr.set w3 H 0 (.slice A3 m c3) (by simp))); clear ho hg))
  go_ret
  exact ⟨_, _, by rw [HA.out]; rfl, H4.out, G4.out⟩
theorem rDrop_no (h : Hh w V H vk vs tl ks fr) (hks : pg.Ks ks) (hl : ks.length ≤ 64) (p : Int) (hno : 1 ≤ pg.kind ks p ∧ pg.kind ks p ≤ 4 → ((fr p.toNat).length : Int) < cl (pg.kind ks p)) :
    Calls Tryd.prog 28 #[.pointer (some ⟨H, 0, none⟩), .int .i64 p] w fun e w' => e = bool1 false ∧ w.grownBy w' none := by
  have f := h.h0
  obtain ⟨A, n, c, rfl, hr, ha, hn, hc⟩ := h.kd
  have KD := Lib.hid ((pg.rKind_any (by have := hr.1; omega) hr p).mono fun e w' ⟨h1, h2⟩ => (⟨h1, h2.symm⟩ : e = int1 (pg.kind ks p) ∧ w = w'))
  have HH := Lib.hid h
  have KF := Lib.hid (ce.kind_fits hks p)
  rcases Decidable.em (1 ≤ pg.kind ks p ∧ pg.kind ks p ≤ 4) with hk | hk
  · have hno := hno hk
    obtain ⟨P, rfl, p64, _⟩ := ce.there hl (z := p) (by omega)
    obtain ⟨z, hz, z2, _⟩ := sz_some hk
    obtain ⟨v, hv, A2, n2, c2, rfl, hr2, _, hn2, hc2⟩ := h.fre P p64
    rw [Int.toNat_natCast, hr2.1] at hno
    have HV := Lib.hid hv
    have HZ := Lib.hid hz
    obtain ⟨q, hq⟩ : ∃ q, cl (pg.kind ks P) = q := ⟨_, rfl⟩
    rw [hq] at hno
    have HQ := Lib.hid hq
    have t1 : ((z : Int) == 0) = false := by simp; omega
    have t2 : decide ((n2 : Int) < q) = true := by simpa using hno
    have q1 : (0 : Int) ≤ (P : Int) := by omega
    have q2 : (P : Int) < 64 := by omega
    clear h hks hl hr ha hk hz hv hr2 hq hno
    generalize pg.kind ks P = k at *
    go_enter Tryd.func28, Tryd.ntmps28
    have f1 := HH.out.at HV.out
    go_wp2_with (first
      | (go_at_call 34; (with_reducible refine KD.out.mono ?_); rintro e w' ⟨rfl, rfl⟩))
    go_region_held3 (fun W => W.cell? ⟨H, 1 + P, none⟩ = some (.slice A2 n2 c2)) (first | go_keep | exact f2 | exact f3) (first
      | (go_at_call 69; (with_reducible refine (pg.rsz_any _ _ KF.out).mono ?_); rintro e w2 ⟨rfl, hg⟩; rw [HZ.out]; have G2 := Lib.hid ((ch.grown_drew w none).trans hg); have f2 := (HH.out.new G2.out).at HV.out; clear hg)
      | (go_at_call 70; (with_reducible refine (rCells_any _ _ KF.out).mono ?_); rintro e w3 ⟨rfl, hb⟩; rw [HQ.out]; have G3 := Lib.hid (G2.out.trans (pg.below_grown hb)); have f3 := (HH.out.new G3.out).at HV.out; clear hb))
    all_goals
      go_wp2
      go_ret
      exact ⟨rfl, G3.out⟩
  · obtain ⟨q0, hq0⟩ : ∃ q0, sz (pg.kind ks p) = q0 := ⟨_, rfl⟩
    have HZ := Lib.hid hq0
    have t1 : (q0 == 0) = true := by rw [← hq0, sz_zero hk]; rfl
    clear h hks hl hr ha hk hno hq0
    go_enter Tryd.func28, Tryd.ntmps28
    go_wp2_with (first
      | (go_at_call 34; (with_reducible refine KD.out.mono ?_); rintro e w' ⟨rfl, rfl⟩))
    refine wp_region_held_drew (S := fun _ => True) (by kernel_rfl) trivial (fun _ => ?_)
    refine wpAnyH_take (i := 0) (v := .int .i64 (pg.kind ks p)) rfl (by kernel_rfl) (by kernel_rfl) (by kernel_rfl) (fun _ _ _ h => h) (Or.inl ⟨by kernel_rfl, fun _ _ => by rfl⟩) trivial ?_
    refine wpAnyH_ready (rs := [1]) (by kernel_rfl) (by simp) (AllReadyH.cons rfl (fun K hK => ?_) AllReadyH.nil)
    go_simp
    (go_at_call 69; (with_reducible refine (pg.rsz_any _ _ KF.out).mono ?_); rintro e w2 ⟨rfl, hg⟩; rw [HZ.out]; have G2 := Lib.hid ((ch.grown_drew w none).trans hg); clear hg)
    refine hK.out _ _ trivial (fun _ => ?_)
    clear hK K
    refine wpAnyH_take (i := 2) (v := .bool true) rfl (by kernel_rfl) (by kernel_rfl) (by kernel_rfl) (fun _ _ _ h => h) (Or.inl ⟨by kernel_rfl, fun _ _ => by go_simp⟩) trivial ?_
    refine wpAnyH_take (i := 3) (v := .bool true) rfl (by kernel_rfl) (by kernel_rfl) (by kernel_rfl) (fun _ _ _ h => h) (Or.inl ⟨by kernel_rfl, fun _ _ => by kernel_rfl⟩) trivial ?_
    refine wpAnyH_take (i := 4) (v := undef) rfl (by kernel_rfl) (by kernel_rfl) (by kernel_rfl) (fun _ _ _ h => h) (Or.inr ⟨by kernel_rfl, rfl⟩) trivial ?_
    refine wpAnyH_take (i := 5) (v := undef) rfl (by kernel_rfl) (by kernel_rfl) (by kernel_rfl) (fun _ _ _ h => h) (Or.inr ⟨by kernel_rfl, rfl⟩) trivial ?_
    refine wpAnyH_take (i := 6) (v := undef) rfl (by kernel_rfl) (by kernel_rfl) (by kernel_rfl) (fun _ _ _ h => h) (Or.inr ⟨by kernel_rfl, rfl⟩) trivial ?_
    refine wpAnyH_take (i := 7) (v := undef) rfl (by kernel_rfl) (by kernel_rfl) (by kernel_rfl) (fun _ _ _ h => h) (Or.inr ⟨by kernel_rfl, rfl⟩) trivial ?_
    refine wpAnyH_take (i := 8) (v := undef) rfl (by kernel_rfl) (by kernel_rfl) (by kernel_rfl) (fun _ _ _ h => h) (Or.inr ⟨by kernel_rfl, rfl⟩) trivial ?_
    refine wpAnyH_take (i := 9) (v := undef) rfl (by kernel_rfl) (by kernel_rfl) (by kernel_rfl) (fun _ _ _ h => h) (Or.inr ⟨by kernel_rfl, rfl⟩) trivial ?_
    refine wpAnyH_take (i := 10) (v := undef) rfl (by kernel_rfl) (by kernel_rfl) (by kernel_rfl) (fun _ _ _ h => h) (Or.inr ⟨by kernel_rfl, rfl⟩) trivial ?_
    refine wpAnyH_take (i := 11) (v := undef) rfl (by kernel_rfl) (by kernel_rfl) (by kernel_rfl) (fun _ _ _ h => h) (Or.inr ⟨by kernel_rfl, rfl⟩) trivial ?_
    refine wpAnyH_take (i := 12) (v := undef) rfl (by kernel_rfl) (by kernel_rfl) (by kernel_rfl) (fun _ _ _ h => h) (Or.inr ⟨by kernel_rfl, rfl⟩) trivial ?_
    refine wpAnyH_take (i := 13) (v := undef) rfl (by kernel_rfl) (by kernel_rfl) (by kernel_rfl) (fun _ _ _ h => h) (Or.inr ⟨by kernel_rfl, rfl⟩) trivial ?_
    refine wpAnyH_take (i := 14) (v := .bool true) rfl (by kernel_rfl) (by kernel_rfl) (by kernel_rfl) (fun _ _ _ h => h) (Or.inl ⟨by kernel_rfl, fun _ _ => by kernel_rfl⟩) trivial ?_
    refine wpAnyH_done (by kernel_rfl) ?_ _
    refine then_at (b := { tmps := #[.pointer (some ⟨H, 0, none⟩), .int .i64 p, undef, undef, .bool false, .int .i64 (pg.kind ks p), .pointer (some ⟨H, 0, none⟩), .pointer (some ⟨H, 0, none⟩), .pointer (some ⟨H, 0, none⟩), .slice A n c, .int .i64 p, .int .i64 (pg.kind ks p), .int .i64 (pg.kind ks p), .int .i64 q0, .bool true, .bool true, undef, undef, undef, undef, undef, undef, undef, undef, undef, undef, .bool true, undef, undef, undef, undef, undef, undef, undef, undef, undef], defers := [] }) (by kernel_rfl) ?_
    all_goals
      go_wp2
      go_ret
      exact ⟨rfl, G2.out⟩
theorem rDrop_yes (h : Hh w V H vk vs tl ks fr) (hks : pg.Ks ks) (hl : ks.length ≤ 64) {p : Nat} (hk : 1 ≤ pg.kind ks p ∧ pg.kind ks p ≤ 4) (hyes : cl (pg.kind ks p) ≤ (fr p).length) :
    Calls Tryd.prog 28 #[.pointer (some ⟨H, 0, none⟩), .int .i64 p] w (HhAns (.bool true) V H tl (ks.set p 0) fr w) := by
  have f := h.h0
  obtain ⟨P, eP, p64, pl⟩ := ce.there hl (z := (p : Int)) (by omega)
  obtain rfl : p = P := by omega
  obtain ⟨A, n, c, rfl, hr, ha, hn, hc⟩ := h.kd
  have KD := Lib.hid ((pg.rKind_any (by have := hr.1; omega) hr p).mono fun e w' ⟨h1, h2⟩ => (⟨h1, h2.symm⟩ : e = int1 (pg.kind ks p) ∧ w = w'))
  have HH := Lib.hid h
  have KF := Lib.hid (ce.kind_fits hks p)
  obtain ⟨z, hz, z2, _⟩ := sz_some hk
  obtain ⟨v, hv, A2, n2, c2, rfl, hr2, _, hn2, hc2⟩ := h.fre p p64
  rw [hr2.1] at hyes
  have HV := Lib.hid hv
  have HZ := Lib.hid hz
  obtain ⟨q, hq⟩ : ∃ q, cl (pg.kind ks p) = q := ⟨_, rfl⟩
  rw [hq] at hyes
  have HQ := Lib.hid hq
  have t1 : ((z : Int) == 0) = false := by simp; omega
  have t2 : decide ((n2 : Int) < q) = false := by simpa using hyes
  have q1 : (0 : Int) ≤ (p : Int) := by omega
  have q2 : (p : Int) < 64 := by omega
  have n64 : n ≤ 64 := by have := hr.1; omega
  have S1 := Lib.hid (fun W (h1 : Rd W W.heap.size A n c ks) => pg.rSet_any (ks.set p 0) n64 h1 p 1 0 (by simp [fits]; omega) (by omega) (by rw [List.length_set]; exact hr.1) (fun i hi => by
    rw [pg.set_getD _ _ _ _ pl]
    repeat' split
    all_goals first | rfl | omega))
  have LY := Lib.hid (show (ks.set p 0).length = n by rw [List.length_set]; exact hr.1)
  have RK := Lib.hid hr
  clear h hks hl hr ha hk hz hv hr2 hq hyes eP pl
  generalize pg.kind ks p = k at *
  generalize ks.set p 0 = ys at *
  go_enter Tryd.func28, Tryd.ntmps28
  have f1 := HH.out.at HV.out
  go_wp2_with (first
    | (go_at_call 34; (with_reducible refine KD.out.mono ?_); rintro e w' ⟨rfl, rfl⟩))
  go_region_held3 (fun W => W.cell? ⟨H, 1 + p, none⟩ = some (.slice A2 n2 c2)) (first | go_keep | exact f2 | exact f3) (first
    | (go_at_call 69; (with_reducible refine (pg.rsz_any _ _ KF.out).mono ?_); rintro e w2 ⟨rfl, hg⟩; rw [HZ.out]; have G2 := Lib.hid ((ch.grown_drew w none).trans hg); have f2 := (HH.out.new G2.out).at HV.out; clear hg)
    | (go_at_call 70; (with_reducible refine (rCells_any _ _ KF.out).mono ?_); rintro e w3 ⟨rfl, hb⟩; rw [HQ.out]; have G3 := Lib.hid (G2.out.trans (pg.below_grown hb)); have f3 := (HH.out.new G3.out).at HV.out; clear hb))
  all_goals
    have f5 := (HH.out.new G3.out).h0
    have R3 := Lib.hid (bm.Rd.below' RK.out (li.grown_below G3.out) G3.out.size)
    go_wp2_with (first
      | (go_at_call 71; (with_reducible refine (S1.out _ R3.out).mono ?_); rintro e w4 ⟨A3, c3, rfl, ho, hg⟩; rw [LY.out] at ho ⊢; have G4 := Lib.hid (G3.out.trans hg); have H4 := Lib.hid (HH.out.new G4.out); have f4 := H4.out.h0; have z4 := H4.out.fz 0; have F4 := Lib.hid (Fx.own (V := V) ho (fun k hk => Nat.lt_of_lt_of_le (HH.out.lt k hk) G3.out.size)); have H5 := Lib.hid (H4.out.kinds F4.out); have G5 := Lib.hid ((Gr.new (L := [H]) G4.out).trans (Gr.set w4 H 0 (.slice A3 n c3) (by simp))); clear ho hg))
    go_ret
    exact ⟨_, _, rfl, H5.out, G5.out⟩
end
end Go.Proofs.YtpnhanalnbjapaaDoor.bo

/- What the statement's own heap by lists does: Give. -/
namespace Go.Proofs.YtpnhanalnbjapaaDoor.bo
open Go.ChangeShapes Go.WideShapes Go.ChangeAt Go.RowKit gen calls cls geos ce
set_option linter.unusedVariables false
set_option maxHeartbeats 4000000
set_option maxRecDepth 100000
section
variable {w w' : World} {V : List Nat} {H : Nat} {vk : Value} {vs tl : List Value} {ks : List Int} {fr : Nat → List Int}
abbrev nil0 : Ending := .returned (.tuple #[])
theorem rGive_cell (h : Hh w V H vk vs tl ks fr) (hks : pg.Ks ks) (hl : ks.length ≤ 64) {a P : Nat} {i : Int} (hP : (a : Int) / 32 = P) (hk : 1 ≤ pg.kind ks P ∧ pg.kind ks P ≤ 4) (hi : (a : Int) % 32 / sz (pg.kind ks P) = i) (hf : (fr P).length ≤ 16) :
    Calls Tryd.prog 63 #[.pointer (some ⟨H, 0, none⟩), .int .i64 a] w fun e w' => ∃ vk' vs', e = nil0 ∧ Hh w' V H vk' vs' tl ks (upd fr P (i :: fr P)) ∧ Gr [H] w w' := by
  obtain ⟨i0, hi0, hz0, hz1, hz2⟩ := info_parts li.info_int
  have E : Hid (i0.zero = some (.int .i64 0) ∧ i0.size = 1 ∧ i0.bytes = 8 ∧ Tryd.prog.info? 3 = some i0) := ⟨hz0, hz1, hz2, hi0⟩
  clear hi0 hz0 hz1 hz2
  have f := h.h0
  obtain ⟨P', eP, p64, pl⟩ := ce.there hl (z := (P : Int)) (by omega)
  obtain rfl : P = P' := by omega
  obtain ⟨A, n, c, rfl, hr, ha, hn, hc⟩ := h.kd
  have pn : P < n := by have := hr.1; omega
  obtain ⟨b1, o1, rfl, k0⟩ := hr.at_ (k := P) pn
  rw [← pg.kind_in pl] at k0
  obtain ⟨z, hz, z2, z16⟩ := sz_some hk
  obtain ⟨v, hv, A2, n2, c2, rfl, hr2, _, hn2, hc2⟩ := h.fre P p64
  have n16 : n2 ≤ 16 := by have := hr2.1; omega
  rw [hz] at hi
  have a2 : (a : Int) ≤ 2047 := by omega
  have HZ := Lib.hid hz
  have KF := Lib.hid (ce.kind_fits hks P)
  have t5 : (pg.kind ks P == 5) = false := by simp; omega
  have zz : ¬ (z : Int) = 0 := by omega
  have HH := Lib.hid h
  have HV := Lib.hid hv
  have R2 := Lib.hid hr2
  have a0 : (0 : Int) ≤ a := by omega
  clear hks hl hk h hr hv hr2 hz ha eP pl hf
  generalize pg.kind ks P = k at *
  generalize hfp : fr P = l at *
  have HL := Lib.hid hfp
  clear hfp
  go_enter Tryd.func63, Tryd.ntmps63
  go_wp2_with (first
    | (go_at_call 69; (with_reducible refine (pg.rsz_any _ _ KF.out).mono ?_); rintro e w2 ⟨rfl, hg⟩; rw [HZ.out]; have G2 := Lib.hid hg; clear hg)
    | (have mark := O5; refine wpList_append_rd rfl (.tmp 41) (.tmp 47) 30 rfl w.heap.size 3 i0 (.int .i64 0) 8 Tryd.underlying30 E.out.2.2.2 E.out.1 E.out.2.1 E.out.2.2.1 rfl _ 1 [i] rfl O5.out A2 n2 c2 _ l rfl R5.out (by unfold maxLen; omega) (by omega) G5.out.size ?_; intro A6 c6 w6 own1 rd1 gr1; have O6 := Lib.hid own1; have G6 := Lib.hid (li.grown_own G5.out O5.out gr1 (Nat.le_refl _)); have H6 := Lib.hid (HH.out.new G6.out); have z6 := H6.out.fz (1 + P); have f6 := H6.out.at HV.out; clear own1 gr1 rd1)
    | (refine wpList_append_rd rfl (.tmp 33) (.tmp 39) 30 rfl w.heap.size 3 i0 (.int .i64 0) 8 Tryd.underlying30 E.out.2.2.2 E.out.1 E.out.2.1 E.out.2.2.1 rfl _ 0 [] rfl (World.ownsRow_nil _ _ _ _) (some ⟨w2.heap.size, 0, none⟩) 1 1 _ [i] rfl (li.Rd.one _ _ _) (by unfold maxLen; omega) (by omega) (by have := G2.out.size; simp; omega) ?_; intro A5 c5 w5 own1 rd1 gr1; have O5 := Lib.hid own1; have G5 := Lib.hid (li.grown_one G2.out (World.ownsRow_nil _ w.heap.size 3 1) (Nat.le_refl _) gr1); have R5 := Lib.hid (bm.Rd.below' R2.out (li.grown_below G5.out) G5.out.size); have f5 := (HH.out.new G5.out).at HV.out; clear own1 gr1 rd1))
  go_end0
  have FX := Lib.hid (Fx.own (V := V) (l := i :: l) O6.out HH.out.lt)
  have H7 := Lib.hid (H6.out.list p64 FX.out)
  have G7 := Lib.hid ((Gr.new (L := [H]) G6.out).trans (Gr.set w6 H (1 + P) (.slice A6 (1 + n2) c6) (by simp)))
  exact ⟨_, _, rfl, H7.out, G7.out⟩
theorem any_at {P : Program} {md : Region.Mode} {ops : Array Oper} {Q : Exit → Act → World → Prop} {S : World → Prop} {fuel : Nat} {listed : Array Bool} {a b : Act} {w : World} (h : a = b) (hq : wpAnyH P md ops Q S fuel listed b w) : wpAnyH P md ops Q S fuel listed a w := h ▸ hq
theorem rGive_large (h : Hh w V H vk vs tl ks fr) (hks : pg.Ks ks) (hl : ks.length ≤ 64) {a P : Nat} (hP : (a : Int) / 32 = P) (hk : pg.kind ks P = 5) :
    Calls Tryd.prog 63 #[.pointer (some ⟨H, 0, none⟩), .int .i64 a] w fun e w' => ∃ vk' vs', e = nil0 ∧ Hh w' V H vk' vs' tl (pg.fillN ks P 0 (pg.siz ks P).toNat) fr ∧ Gr [H] w w' := by
  have f := h.h0
  obtain ⟨P', eP, p64, pl⟩ := ce.there hl (z := (P : Int)) (by omega)
  obtain rfl : P = P' := by omega
  obtain ⟨A, n, c, rfl, hr, ha, hn, hc⟩ := h.kd
  have pn : P < n := by have := hr.1; omega
  have RK := Lib.hid hr
  have hr2 := hr
  obtain ⟨b1, o1, rfl, k0⟩ := hr2.at_ (k := P) pn
  rw [← pg.kind_in pl, hk] at k0
  have n64 : n ≤ 64 := by have := hr.1; omega
  have sw := pg.siz_wide ks P
  have SZ := Lib.hid (fun W (hg : w.grownBy W none) => pg.rSiz_any n64 (Nat.le_refl _) (bm.Rd.below' hr (li.grown_below hg) hg.size) hks P)
  have hin := pg.siz_in (xs := ks) (p := P) (by have := siz_ge (ks := ks) (p := P) (by omega); omega)
  obtain ⟨m, hm⟩ : ∃ m, pg.siz ks P = m := ⟨_, rfl⟩
  rw [hm] at SZ sw hin
  have LY := Lib.hid (show (pg.fillN ks P 0 (pg.siz ks P).toNat).length = n by rw [pg.fillN_length]; exact hr.1)
  have S1 := Lib.hid (fun W (h1 : Rd W W.heap.size (some ⟨b1, o1, none⟩) n c ks) => pg.rSet_any (pg.fillN ks P 0 (pg.siz ks P).toNat) n64 h1 P m 0 (by simp [fits]; omega) (by omega) (by rw [pg.fillN_length]; exact hr.1) (fun i hi => by
    rw [pg.fillN_getD _ _ _ _ (by omega), hm]
    repeat' split
    all_goals first | rfl | omega))
  have HH := Lib.hid h
  have a0 : (0 : Int) ≤ a := by omega
  have a2 : (a : Int) ≤ 2047 := by omega
  clear hks hl hk h hr eP pl ha hin sw hm
  generalize pg.fillN ks P 0 (pg.siz ks P).toNat = ys at *
  go_enter Tryd.func63, Tryd.ntmps63
  go_wp2
  refine wp_region_held_drew (S := fun _ => True) (by kernel_rfl) trivial (fun _ => ?_)
  refine wpAnyH_take (i := 0) (v := .pointer (some ⟨H, 0, none⟩)) rfl (by kernel_rfl) (by kernel_rfl) (by kernel_rfl) (fun _ _ _ h => h) (Or.inl ⟨by kernel_rfl, fun _ _ => by rfl⟩) trivial ?_
  refine any_at (b := { tmps := #[.pointer (some ⟨H, 0, none⟩), .int .i64 a, undef, undef, .int .i64 P, .int .i64 5, undef, .int .i64 a, .int .i64 P, .pointer (some ⟨H, 0, none⟩), .pointer (some ⟨H, 0, none⟩), .pointer (some ⟨H, 0, none⟩), .slice (some ⟨b1, o1, none⟩) n c, .int .i64 P, .pointer (some ⟨b1, o1 + P, none⟩), .int .i64 5, .int .i64 5, .bool true, .pointer (some ⟨H, 0, none⟩), undef, undef, undef, undef, undef, undef, undef, undef, undef, undef, undef, undef, undef, undef, undef, undef, undef, undef, undef, undef, undef, undef, undef, undef, undef, undef, undef, undef, undef, undef, undef, undef, undef, undef, undef, undef], defers := [] }) (by kernel_rfl) ?_
  refine wpAnyH_take (i := 1) (v := .pointer (some ⟨H, 0, none⟩)) rfl (by kernel_rfl) (by kernel_rfl) (by kernel_rfl) (fun _ _ _ h => h) (Or.inl ⟨by kernel_rfl, fun _ _ => by rfl⟩) trivial ?_
  refine any_at (b := { tmps := #[.pointer (some ⟨H, 0, none⟩), .int .i64 a, undef, undef, .int .i64 P, .int .i64 5, undef, .int .i64 a, .int .i64 P, .pointer (some ⟨H, 0, none⟩), .pointer (some ⟨H, 0, none⟩), .pointer (some ⟨H, 0, none⟩), .slice (some ⟨b1, o1, none⟩) n c, .int .i64 P, .pointer (some ⟨b1, o1 + P, none⟩), .int .i64 5, .int .i64 5, .bool true, .pointer (some ⟨H, 0, none⟩), .pointer (some ⟨H, 0, none⟩), undef, undef, undef, undef, undef, undef, undef, undef, undef, undef, undef, undef, undef, undef, undef, undef, undef, undef, undef, undef, undef, undef, undef, undef, undef, undef, undef, undef, undef, undef, undef, undef, undef, undef, undef], defers := [] }) (by kernel_rfl) ?_
  refine wpAnyH_take (i := 2) (v := .pointer (some ⟨H, 0, none⟩)) rfl (by kernel_rfl) (by kernel_rfl) (by kernel_rfl) (fun _ _ _ h => h) (Or.inl ⟨by kernel_rfl, fun _ _ => by go_simp⟩) trivial ?_
  refine any_at (b := { tmps := #[.pointer (some ⟨H, 0, none⟩), .int .i64 a, undef, undef, .int .i64 P, .int .i64 5, undef, .int .i64 a, .int .i64 P, .pointer (some ⟨H, 0, none⟩), .pointer (some ⟨H, 0, none⟩), .pointer (some ⟨H, 0, none⟩), .slice (some ⟨b1, o1, none⟩) n c, .int .i64 P, .pointer (some ⟨b1, o1 + P, none⟩), .int .i64 5, .int .i64 5, .bool true, .pointer (some ⟨H, 0, none⟩), .pointer (some ⟨H, 0, none⟩), .pointer (some ⟨H, 0, none⟩), undef, undef, undef, undef, undef, undef, undef, undef, undef, undef, undef, undef, undef, undef, undef, undef, undef, undef, undef, undef, undef, undef, undef, undef, undef, undef, undef, undef, undef, undef, undef, undef, undef, undef], defers := [] }) (by kernel_rfl) ?_
  refine wpAnyH_take (i := 3) (v := .pointer (some ⟨H, 0, none⟩)) rfl (by kernel_rfl) (by kernel_rfl) (by kernel_rfl) (fun _ _ _ h => h) (Or.inl ⟨by kernel_rfl, fun _ _ => by go_simp⟩) trivial ?_
  refine any_at (b := { tmps := #[.pointer (some ⟨H, 0, none⟩), .int .i64 a, undef, undef, .int .i64 P, .int .i64 5, undef, .int .i64 a, .int .i64 P, .pointer (some ⟨H, 0, none⟩), .pointer (some ⟨H, 0, none⟩), .pointer (some ⟨H, 0, none⟩), .slice (some ⟨b1, o1, none⟩) n c, .int .i64 P, .pointer (some ⟨b1, o1 + P, none⟩), .int .i64 5, .int .i64 5, .bool true, .pointer (some ⟨H, 0, none⟩), .pointer (some ⟨H, 0, none⟩), .pointer (some ⟨H, 0, none⟩), .pointer (some ⟨H, 0, none⟩), undef, undef, undef, undef, undef, undef, undef, undef, undef, undef, undef, undef, undef, undef, undef, undef, undef, undef, undef, undef, undef, undef, undef, undef, undef, undef, undef, undef, undef, undef, undef, undef, undef], defers := [] }) (by kernel_rfl) ?_
  refine wpAnyH_take (i := 5) (v := .int .i64 P) rfl (by kernel_rfl) (by kernel_rfl) (by kernel_rfl) (fun _ _ _ h => h) (Or.inl ⟨by kernel_rfl, fun _ _ => by rfl⟩) trivial ?_
  refine any_at (b := { tmps := #[.pointer (some ⟨H, 0, none⟩), .int .i64 a, undef, undef, .int .i64 P, .int .i64 5, undef, .int .i64 a, .int .i64 P, .pointer (some ⟨H, 0, none⟩), .pointer (some ⟨H, 0, none⟩), .pointer (some ⟨H, 0, none⟩), .slice (some ⟨b1, o1, none⟩) n c, .int .i64 P, .pointer (some ⟨b1, o1 + P, none⟩), .int .i64 5, .int .i64 5, .bool true, .pointer (some ⟨H, 0, none⟩), .pointer (some ⟨H, 0, none⟩), .pointer (some ⟨H, 0, none⟩), .pointer (some ⟨H, 0, none⟩), undef, .int .i64 P, undef, undef, undef, undef, undef, undef, undef, undef, undef, undef, undef, undef, undef, undef, undef, undef, undef, undef, undef, undef, undef, undef, undef, undef, undef, undef, undef, undef, undef, undef, undef], defers := [] }) (by kernel_rfl) ?_
  refine wpAnyH_take (i := 6) (v := .pointer (some ⟨H, 0, none⟩)) rfl (by kernel_rfl) (by kernel_rfl) (by kernel_rfl) (fun _ _ _ h => h) (Or.inl ⟨by kernel_rfl, fun _ _ => by rfl⟩) trivial ?_
  refine any_at (b := { tmps := #[.pointer (some ⟨H, 0, none⟩), .int .i64 a, undef, undef, .int .i64 P, .int .i64 5, undef, .int .i64 a, .int .i64 P, .pointer (some ⟨H, 0, none⟩), .pointer (some ⟨H, 0, none⟩), .pointer (some ⟨H, 0, none⟩), .slice (some ⟨b1, o1, none⟩) n c, .int .i64 P, .pointer (some ⟨b1, o1 + P, none⟩), .int .i64 5, .int .i64 5, .bool true, .pointer (some ⟨H, 0, none⟩), .pointer (some ⟨H, 0, none⟩), .pointer (some ⟨H, 0, none⟩), .pointer (some ⟨H, 0, none⟩), undef, .int .i64 P, .pointer (some ⟨H, 0, none⟩), undef, undef, undef, undef, undef, undef, undef, undef, undef, undef, undef, undef, undef, undef, undef, undef, undef, undef, undef, undef, undef, undef, undef, undef, undef, undef, undef, undef, undef, undef], defers := [] }) (by kernel_rfl) ?_
  refine wpAnyH_take (i := 7) (v := .pointer (some ⟨H, 0, none⟩)) rfl (by kernel_rfl) (by kernel_rfl) (by kernel_rfl) (fun _ _ _ h => h) (Or.inl ⟨by kernel_rfl, fun _ _ => by go_simp⟩) trivial ?_
  refine any_at (b := { tmps := #[.pointer (some ⟨H, 0, none⟩), .int .i64 a, undef, undef, .int .i64 P, .int .i64 5, undef, .int .i64 a, .int .i64 P, .pointer (some ⟨H, 0, none⟩), .pointer (some ⟨H, 0, none⟩), .pointer (some ⟨H, 0, none⟩), .slice (some ⟨b1, o1, none⟩) n c, .int .i64 P, .pointer (some ⟨b1, o1 + P, none⟩), .int .i64 5, .int .i64 5, .bool true, .pointer (some ⟨H, 0, none⟩), .pointer (some ⟨H, 0, none⟩), .pointer (some ⟨H, 0, none⟩), .pointer (some ⟨H, 0, none⟩), undef, .int .i64 P, .pointer (some ⟨H, 0, none⟩), .pointer (some ⟨H, 0, none⟩), undef, undef, undef, undef, undef, undef, undef, undef, undef, undef, undef, undef, undef, undef, undef, undef, undef, undef, undef, undef, undef, undef, undef, undef, undef, undef, undef, undef, undef], defers := [] }) (by kernel_rfl) ?_
  refine wpAnyH_take (i := 8) (v := .pointer (some ⟨H, 0, none⟩)) rfl (by kernel_rfl) (by kernel_rfl) (by kernel_rfl) (fun _ _ _ h => h) (Or.inl ⟨by kernel_rfl, fun _ _ => by go_simp⟩) trivial ?_
  refine any_at (b := { tmps := #[.pointer (some ⟨H, 0, none⟩), .int .i64 a, undef, undef, .int .i64 P, .int .i64 5, undef, .int .i64 a, .int .i64 P, .pointer (some ⟨H, 0, none⟩), .pointer (some ⟨H, 0, none⟩), .pointer (some ⟨H, 0, none⟩), .slice (some ⟨b1, o1, none⟩) n c, .int .i64 P, .pointer (some ⟨b1, o1 + P, none⟩), .int .i64 5, .int .i64 5, .bool true, .pointer (some ⟨H, 0, none⟩), .pointer (some ⟨H, 0, none⟩), .pointer (some ⟨H, 0, none⟩), .pointer (some ⟨H, 0, none⟩), undef, .int .i64 P, .pointer (some ⟨H, 0, none⟩), .pointer (some ⟨H, 0, none⟩), .pointer (some ⟨H, 0, none⟩), undef, undef, undef, undef, undef, undef, undef, undef, undef, undef, undef, undef, undef, undef, undef, undef, undef, undef, undef, undef, undef, undef, undef, undef, undef, undef, undef, undef], defers := [] }) (by kernel_rfl) ?_
  refine wpAnyH_take (i := 10) (v := .int .i64 P) rfl (by kernel_rfl) (by kernel_rfl) (by kernel_rfl) (fun _ _ _ h => h) (Or.inl ⟨by kernel_rfl, fun _ _ => by rfl⟩) trivial ?_
  refine any_at (b := { tmps := #[.pointer (some ⟨H, 0, none⟩), .int .i64 a, undef, undef, .int .i64 P, .int .i64 5, undef, .int .i64 a, .int .i64 P, .pointer (some ⟨H, 0, none⟩), .pointer (some ⟨H, 0, none⟩), .pointer (some ⟨H, 0, none⟩), .slice (some ⟨b1, o1, none⟩) n c, .int .i64 P, .pointer (some ⟨b1, o1 + P, none⟩), .int .i64 5, .int .i64 5, .bool true, .pointer (some ⟨H, 0, none⟩), .pointer (some ⟨H, 0, none⟩), .pointer (some ⟨H, 0, none⟩), .pointer (some ⟨H, 0, none⟩), undef, .int .i64 P, .pointer (some ⟨H, 0, none⟩), .pointer (some ⟨H, 0, none⟩), .pointer (some ⟨H, 0, none⟩), undef, .int .i64 P, undef, undef, undef, undef, undef, undef, undef, undef, undef, undef, undef, undef, undef, undef, undef, undef, undef, undef, undef, undef, undef, undef, undef, undef, undef, undef], defers := [] }) (by kernel_rfl) ?_
  refine wpAnyH_ready (rs := [4, 9]) (by kernel_rfl) (by simp) (AllReadyH.cons rfl (fun K hK => ?_) (AllReadyH.cons rfl (fun K hK => ?_) AllReadyH.nil))
  · skip
    go_simp
    refine hK.out _ _ trivial (fun _ => ?_)
    clear hK K
    refine any_at (b := { tmps := #[.pointer (some ⟨H, 0, none⟩), .int .i64 a, undef, undef, .int .i64 P, .int .i64 5, undef, .int .i64 a, .int .i64 P, .pointer (some ⟨H, 0, none⟩), .pointer (some ⟨H, 0, none⟩), .pointer (some ⟨H, 0, none⟩), .slice (some ⟨b1, o1, none⟩) n c, .int .i64 P, .pointer (some ⟨b1, o1 + P, none⟩), .int .i64 5, .int .i64 5, .bool true, .pointer (some ⟨H, 0, none⟩), .pointer (some ⟨H, 0, none⟩), .pointer (some ⟨H, 0, none⟩), .pointer (some ⟨H, 0, none⟩), .slice (some ⟨b1, o1, none⟩) n c, .int .i64 P, .pointer (some ⟨H, 0, none⟩), .pointer (some ⟨H, 0, none⟩), .pointer (some ⟨H, 0, none⟩), undef, .int .i64 P, undef, undef, undef, undef, undef, undef, undef, undef, undef, undef, undef, undef, undef, undef, undef, undef, undef, undef, undef, undef, undef, undef, undef, undef, undef, undef], defers := [] }) (by kernel_rfl) ?_
    refine wpAnyH_ready (rs := [9]) (by kernel_rfl) (by simp) (AllReadyH.cons rfl (fun K hK => ?_) AllReadyH.nil)
    go_simp
    refine hK.out _ _ trivial (fun _ => ?_)
    clear hK K
    refine any_at (b := { tmps := #[.pointer (some ⟨H, 0, none⟩), .int .i64 a, undef, undef, .int .i64 P, .int .i64 5, undef, .int .i64 a, .int .i64 P, .pointer (some ⟨H, 0, none⟩), .pointer (some ⟨H, 0, none⟩), .pointer (some ⟨H, 0, none⟩), .slice (some ⟨b1, o1, none⟩) n c, .int .i64 P, .pointer (some ⟨b1, o1 + P, none⟩), .int .i64 5, .int .i64 5, .bool true, .pointer (some ⟨H, 0, none⟩), .pointer (some ⟨H, 0, none⟩), .pointer (some ⟨H, 0, none⟩), .pointer (some ⟨H, 0, none⟩), .slice (some ⟨b1, o1, none⟩) n c, .int .i64 P, .pointer (some ⟨H, 0, none⟩), .pointer (some ⟨H, 0, none⟩), .pointer (some ⟨H, 0, none⟩), .slice (some ⟨b1, o1, none⟩) n c, .int .i64 P, undef, undef, undef, undef, undef, undef, undef, undef, undef, undef, undef, undef, undef, undef, undef, undef, undef, undef, undef, undef, undef, undef, undef, undef, undef, undef], defers := [] }) (by kernel_rfl) ?_
    refine wpAnyH_ready (rs := [11]) (by kernel_rfl) (by simp) (AllReadyH.cons rfl (fun K hK => ?_) AllReadyH.nil)
    go_simp
    (go_at_call 74; (with_reducible refine (SZ.out _ (ch.grown_drew _ _)).mono ?_); rintro e w2 ⟨rfl, hg⟩; have G2 := Lib.hid ((ch.grown_drew w none).trans hg); have f2 := (HH.out.new G2.out).h0; have R2 := Lib.hid (bm.Rd.below' RK.out (li.grown_below G2.out) G2.out.size); clear hg)
    refine hK.out _ _ trivial (fun _ => ?_)
    clear hK K
    refine any_at (b := { tmps := #[.pointer (some ⟨H, 0, none⟩), .int .i64 a, undef, undef, .int .i64 P, .int .i64 5, undef, .int .i64 a, .int .i64 P, .pointer (some ⟨H, 0, none⟩), .pointer (some ⟨H, 0, none⟩), .pointer (some ⟨H, 0, none⟩), .slice (some ⟨b1, o1, none⟩) n c, .int .i64 P, .pointer (some ⟨b1, o1 + P, none⟩), .int .i64 5, .int .i64 5, .bool true, .pointer (some ⟨H, 0, none⟩), .pointer (some ⟨H, 0, none⟩), .pointer (some ⟨H, 0, none⟩), .pointer (some ⟨H, 0, none⟩), .slice (some ⟨b1, o1, none⟩) n c, .int .i64 P, .pointer (some ⟨H, 0, none⟩), .pointer (some ⟨H, 0, none⟩), .pointer (some ⟨H, 0, none⟩), .slice (some ⟨b1, o1, none⟩) n c, .int .i64 P, .int .i64 m, undef, undef, undef, undef, undef, undef, undef, undef, undef, undef, undef, undef, undef, undef, undef, undef, undef, undef, undef, undef, undef, undef, undef, undef, undef], defers := [] }) (by kernel_rfl) ?_
    refine wpAnyH_ready (rs := [12]) (by kernel_rfl) (by simp) (AllReadyH.cons rfl (fun K hK => ?_) AllReadyH.nil)
    go_simp
    (go_at_call 71; (with_reducible refine (S1.out _ R2.out).mono ?_); rintro e w3 ⟨A3, c3, rfl, ho, hg⟩; rw [LY.out] at ho ⊢; have G3 := Lib.hid (G2.out.trans hg); have H3 := Lib.hid (HH.out.new G3.out); have f3 := H3.out.h0; have z3 := H3.out.fz 0; have F3 := Lib.hid (Fx.own (V := V) ho (fun k hk => Nat.lt_of_lt_of_le (HH.out.lt k hk) G2.out.size)); have H4 := Lib.hid (H3.out.kinds F3.out); have G4 := Lib.hid ((Gr.new (L := [H]) G3.out).trans (Gr.set w3 H 0 (.slice A3 n c3) (by simp))); clear ho hg)
    refine hK.out _ _ trivial (fun _ => ?_)
    clear hK K
    refine any_at (b := { tmps := #[.pointer (some ⟨H, 0, none⟩), .int .i64 a, undef, undef, .int .i64 P, .int .i64 5, undef, .int .i64 a, .int .i64 P, .pointer (some ⟨H, 0, none⟩), .pointer (some ⟨H, 0, none⟩), .pointer (some ⟨H, 0, none⟩), .slice (some ⟨b1, o1, none⟩) n c, .int .i64 P, .pointer (some ⟨b1, o1 + P, none⟩), .int .i64 5, .int .i64 5, .bool true, .pointer (some ⟨H, 0, none⟩), .pointer (some ⟨H, 0, none⟩), .pointer (some ⟨H, 0, none⟩), .pointer (some ⟨H, 0, none⟩), .slice (some ⟨b1, o1, none⟩) n c, .int .i64 P, .pointer (some ⟨H, 0, none⟩), .pointer (some ⟨H, 0, none⟩), .pointer (some ⟨H, 0, none⟩), .slice (some ⟨b1, o1, none⟩) n c, .int .i64 P, .int .i64 m, .slice A3 n c3, undef, undef, undef, undef, undef, undef, undef, undef, undef, undef, undef, undef, undef, undef, undef, undef, undef, undef, undef, undef, undef, undef, undef, undef], defers := [] }) (by kernel_rfl) ?_
    refine wpAnyH_take (i := 13) (v := .pointer (some ⟨H, 0, none⟩)) rfl (by kernel_rfl) (by kernel_rfl) (by kernel_rfl) (fun _ _ _ h => h) (Or.inl ⟨by kernel_rfl, fun _ _ => by go_simp⟩) trivial ?_
    refine any_at (b := { tmps := #[.pointer (some ⟨H, 0, none⟩), .int .i64 a, undef, undef, .int .i64 P, .int .i64 5, undef, .int .i64 a, .int .i64 P, .pointer (some ⟨H, 0, none⟩), .pointer (some ⟨H, 0, none⟩), .pointer (some ⟨H, 0, none⟩), .slice (some ⟨b1, o1, none⟩) n c, .int .i64 P, .pointer (some ⟨b1, o1 + P, none⟩), .int .i64 5, .int .i64 5, .bool true, .pointer (some ⟨H, 0, none⟩), .pointer (some ⟨H, 0, none⟩), .pointer (some ⟨H, 0, none⟩), .pointer (some ⟨H, 0, none⟩), .slice (some ⟨b1, o1, none⟩) n c, .int .i64 P, .pointer (some ⟨H, 0, none⟩), .pointer (some ⟨H, 0, none⟩), .pointer (some ⟨H, 0, none⟩), .slice (some ⟨b1, o1, none⟩) n c, .int .i64 P, .int .i64 m, .slice A3 n c3, .pointer (some ⟨H, 0, none⟩), undef, undef, undef, undef, undef, undef, undef, undef, undef, undef, undef, undef, undef, undef, undef, undef, undef, undef, undef, undef, undef, undef, undef], defers := [] }) (by kernel_rfl) ?_
    refine wpAnyH_take (i := 14) (v := .pointer (some ⟨H, 0, none⟩)) rfl (by kernel_rfl) (by kernel_rfl) (by kernel_rfl) (fun _ _ _ h => h) (Or.inl ⟨by kernel_rfl, fun _ _ => by go_simp⟩) trivial ?_
    refine any_at (b := { tmps := #[.pointer (some ⟨H, 0, none⟩), .int .i64 a, undef, undef, .int .i64 P, .int .i64 5, undef, .int .i64 a, .int .i64 P, .pointer (some ⟨H, 0, none⟩), .pointer (some ⟨H, 0, none⟩), .pointer (some ⟨H, 0, none⟩), .slice (some ⟨b1, o1, none⟩) n c, .int .i64 P, .pointer (some ⟨b1, o1 + P, none⟩), .int .i64 5, .int .i64 5, .bool true, .pointer (some ⟨H, 0, none⟩), .pointer (some ⟨H, 0, none⟩), .pointer (some ⟨H, 0, none⟩), .pointer (some ⟨H, 0, none⟩), .slice (some ⟨b1, o1, none⟩) n c, .int .i64 P, .pointer (some ⟨H, 0, none⟩), .pointer (some ⟨H, 0, none⟩), .pointer (some ⟨H, 0, none⟩), .slice (some ⟨b1, o1, none⟩) n c, .int .i64 P, .int .i64 m, .slice A3 n c3, .pointer (some ⟨H, 0, none⟩), .pointer (some ⟨H, 0, none⟩), undef, undef, undef, undef, undef, undef, undef, undef, undef, undef, undef, undef, undef, undef, undef, undef, undef, undef, undef, undef, undef, undef], defers := [] }) (by kernel_rfl) ?_
    refine wpAnyH_ready (rs := [15]) (by kernel_rfl) (by simp) (AllReadyH.cons rfl (fun K hK => ?_) AllReadyH.nil)
    go_simp
    refine hK.out _ _ trivial (fun _ => ?_)
    clear hK K
    refine wpAnyH_done (by kernel_rfl) ?_ _
    refine then_at (b := { tmps := #[.pointer (some ⟨H, 0, none⟩), .int .i64 a, undef, undef, .int .i64 P, .int .i64 5, undef, .int .i64 a, .int .i64 P, .pointer (some ⟨H, 0, none⟩), .pointer (some ⟨H, 0, none⟩), .pointer (some ⟨H, 0, none⟩), .slice (some ⟨b1, o1, none⟩) n c, .int .i64 P, .pointer (some ⟨b1, o1 + P, none⟩), .int .i64 5, .int .i64 5, .bool true, .pointer (some ⟨H, 0, none⟩), .pointer (some ⟨H, 0, none⟩), .pointer (some ⟨H, 0, none⟩), .pointer (some ⟨H, 0, none⟩), .slice (some ⟨b1, o1, none⟩) n c, .int .i64 P, .pointer (some ⟨H, 0, none⟩), .pointer (some ⟨H, 0, none⟩), .pointer (some ⟨H, 0, none⟩), .slice (some ⟨b1, o1, none⟩) n c, .int .i64 P, .int .i64 m, .slice A3 n c3, .pointer (some ⟨H, 0, none⟩), .pointer (some ⟨H, 0, none⟩), undef, undef, undef, undef, undef, undef, undef, undef, undef, undef, undef, undef, undef, undef, undef, undef, undef, undef, undef, undef, undef, undef], defers := [] }) (by kernel_rfl) ?_
    go_wp2
    refine bodyPost_ret (v := .tuple #[]) ?_ rfl ⟨_, _, rfl, H4.out, G4.out⟩
    simp [results, Tryd.results63, go_sem]
  · skip
    go_simp
    refine hK.out _ _ trivial (fun _ => ?_)
    clear hK K
    refine any_at (b := { tmps := #[.pointer (some ⟨H, 0, none⟩), .int .i64 a, undef, undef, .int .i64 P, .int .i64 5, undef, .int .i64 a, .int .i64 P, .pointer (some ⟨H, 0, none⟩), .pointer (some ⟨H, 0, none⟩), .pointer (some ⟨H, 0, none⟩), .slice (some ⟨b1, o1, none⟩) n c, .int .i64 P, .pointer (some ⟨b1, o1 + P, none⟩), .int .i64 5, .int .i64 5, .bool true, .pointer (some ⟨H, 0, none⟩), .pointer (some ⟨H, 0, none⟩), .pointer (some ⟨H, 0, none⟩), .pointer (some ⟨H, 0, none⟩), undef, .int .i64 P, .pointer (some ⟨H, 0, none⟩), .pointer (some ⟨H, 0, none⟩), .pointer (some ⟨H, 0, none⟩), .slice (some ⟨b1, o1, none⟩) n c, .int .i64 P, undef, undef, undef, undef, undef, undef, undef, undef, undef, undef, undef, undef, undef, undef, undef, undef, undef, undef, undef, undef, undef, undef, undef, undef, undef, undef], defers := [] }) (by kernel_rfl) ?_
    refine wpAnyH_ready (rs := [4, 11]) (by kernel_rfl) (by simp) (AllReadyH.cons rfl (fun K hK => ?_) (AllReadyH.cons rfl (fun K hK => ?_) AllReadyH.nil))
    · skip
      go_simp
      refine hK.out _ _ trivial (fun _ => ?_)
      clear hK K
      refine any_at (b := { tmps := #[.pointer (some ⟨H, 0, none⟩), .int .i64 a, undef, undef, .int .i64 P, .int .i64 5, undef, .int .i64 a, .int .i64 P, .pointer (some ⟨H, 0, none⟩), .pointer (some ⟨H, 0, none⟩), .pointer (some ⟨H, 0, none⟩), .slice (some ⟨b1, o1, none⟩) n c, .int .i64 P, .pointer (some ⟨b1, o1 + P, none⟩), .int .i64 5, .int .i64 5, .bool true, .pointer (some ⟨H, 0, none⟩), .pointer (some ⟨H, 0, none⟩), .pointer (some ⟨H, 0, none⟩), .pointer (some ⟨H, 0, none⟩), .slice (some ⟨b1, o1, none⟩) n c, .int .i64 P, .pointer (some ⟨H, 0, none⟩), .pointer (some ⟨H, 0, none⟩), .pointer (some ⟨H, 0, none⟩), .slice (some ⟨b1, o1, none⟩) n c, .int .i64 P, undef, undef, undef, undef, undef, undef, undef, undef, undef, undef, undef, undef, undef, undef, undef, undef, undef, undef, undef, undef, undef, undef, undef, undef, undef, undef], defers := [] }) (by kernel_rfl) ?_
      refine wpAnyH_ready (rs := [11]) (by kernel_rfl) (by simp) (AllReadyH.cons rfl (fun K hK => ?_) AllReadyH.nil)
      go_simp
      (go_at_call 74; (with_reducible refine (SZ.out _ (ch.grown_drew _ _)).mono ?_); rintro e w2 ⟨rfl, hg⟩; have G2 := Lib.hid ((ch.grown_drew w none).trans hg); have f2 := (HH.out.new G2.out).h0; have R2 := Lib.hid (bm.Rd.below' RK.out (li.grown_below G2.out) G2.out.size); clear hg)
      refine hK.out _ _ trivial (fun _ => ?_)
      clear hK K
      refine any_at (b := { tmps := #[.pointer (some ⟨H, 0, none⟩), .int .i64 a, undef, undef, .int .i64 P, .int .i64 5, undef, .int .i64 a, .int .i64 P, .pointer (some ⟨H, 0, none⟩), .pointer (some ⟨H, 0, none⟩), .pointer (some ⟨H, 0, none⟩), .slice (some ⟨b1, o1, none⟩) n c, .int .i64 P, .pointer (some ⟨b1, o1 + P, none⟩), .int .i64 5, .int .i64 5, .bool true, .pointer (some ⟨H, 0, none⟩), .pointer (some ⟨H, 0, none⟩), .pointer (some ⟨H, 0, none⟩), .pointer (some ⟨H, 0, none⟩), .slice (some ⟨b1, o1, none⟩) n c, .int .i64 P, .pointer (some ⟨H, 0, none⟩), .pointer (some ⟨H, 0, none⟩), .pointer (some ⟨H, 0, none⟩), .slice (some ⟨b1, o1, none⟩) n c, .int .i64 P, .int .i64 m, undef, undef, undef, undef, undef, undef, undef, undef, undef, undef, undef, undef, undef, undef, undef, undef, undef, undef, undef, undef, undef, undef, undef, undef, undef], defers := [] }) (by kernel_rfl) ?_
      refine wpAnyH_ready (rs := [12]) (by kernel_rfl) (by simp) (AllReadyH.cons rfl (fun K hK => ?_) AllReadyH.nil)
      go_simp
      (go_at_call 71; (with_reducible refine (S1.out _ R2.out).mono ?_); rintro e w3 ⟨A3, c3, rfl, ho, hg⟩; rw [LY.out] at ho ⊢; have G3 := Lib.hid (G2.out.trans hg); have H3 := Lib.hid (HH.out.new G3.out); have f3 := H3.out.h0; have z3 := H3.out.fz 0; have F3 := Lib.hid (Fx.own (V := V) ho (fun k hk => Nat.lt_of_lt_of_le (HH.out.lt k hk) G2.out.size)); have H4 := Lib.hid (H3.out.kinds F3.out); have G4 := Lib.hid ((Gr.new (L := [H]) G3.out).trans (Gr.set w3 H 0 (.slice A3 n c3) (by simp))); clear ho hg)
      refine hK.out _ _ trivial (fun _ => ?_)
      clear hK K
      refine any_at (b := { tmps := #[.pointer (some ⟨H, 0, none⟩), .int .i64 a, undef, undef, .int .i64 P, .int .i64 5, undef, .int .i64 a, .int .i64 P, .pointer (some ⟨H, 0, none⟩), .pointer (some ⟨H, 0, none⟩), .pointer (some ⟨H, 0, none⟩), .slice (some ⟨b1, o1, none⟩) n c, .int .i64 P, .pointer (some ⟨b1, o1 + P, none⟩), .int .i64 5, .int .i64 5, .bool true, .pointer (some ⟨H, 0, none⟩), .pointer (some ⟨H, 0, none⟩), .pointer (some ⟨H, 0, none⟩), .pointer (some ⟨H, 0, none⟩), .slice (some ⟨b1, o1, none⟩) n c, .int .i64 P, .pointer (some ⟨H, 0, none⟩), .pointer (some ⟨H, 0, none⟩), .pointer (some ⟨H, 0, none⟩), .slice (some ⟨b1, o1, none⟩) n c, .int .i64 P, .int .i64 m, .slice A3 n c3, undef, undef, undef, undef, undef, undef, undef, undef, undef, undef, undef, undef, undef, undef, undef, undef, undef, undef, undef, undef, undef, undef, undef, undef], defers := [] }) (by kernel_rfl) ?_
      refine wpAnyH_take (i := 13) (v := .pointer (some ⟨H, 0, none⟩)) rfl (by kernel_rfl) (by kernel_rfl) (by kernel_rfl) (fun _ _ _ h => h) (Or.inl ⟨by kernel_rfl, fun _ _ => by go_simp⟩) trivial ?_
      refine any_at (b := { tmps := #[.pointer (some ⟨H, 0, none⟩), .int .i64 a, undef, undef, .int .i64 P, .int .i64 5, undef, .int .i64 a, .int .i64 P, .pointer (some ⟨H, 0, none⟩), .pointer (some ⟨H, 0, none⟩), .pointer (some ⟨H, 0, none⟩), .slice (some ⟨b1, o1, none⟩) n c, .int .i64 P, .pointer (some ⟨b1, o1 + P, none⟩), .int .i64 5, .int .i64 5, .bool true, .pointer (some ⟨H, 0, none⟩), .pointer (some ⟨H, 0, none⟩), .pointer (some ⟨H, 0, none⟩), .pointer (some ⟨H, 0, none⟩), .slice (some ⟨b1, o1, none⟩) n c, .int .i64 P, .pointer (some ⟨H, 0, none⟩), .pointer (some ⟨H, 0, none⟩), .pointer (some ⟨H, 0, none⟩), .slice (some ⟨b1, o1, none⟩) n c, .int .i64 P, .int .i64 m, .slice A3 n c3, .pointer (some ⟨H, 0, none⟩), undef, undef, undef, undef, undef, undef, undef, undef, undef, undef, undef, undef, undef, undef, undef, undef, undef, undef, undef, undef, undef, undef, undef], defers := [] }) (by kernel_rfl) ?_
      refine wpAnyH_take (i := 14) (v := .pointer (some ⟨H, 0, none⟩)) rfl (by kernel_rfl) (by kernel_rfl) (by kernel_rfl) (fun _ _ _ h => h) (Or.inl ⟨by kernel_rfl, fun _ _ => by go_simp⟩) trivial ?_
      refine any_at (b := { tmps := #[.pointer (some ⟨H, 0, none⟩), .int .i64 a, undef, undef, .int .i64 P, .int .i64 5, undef, .int .i64 a, .int .i64 P, .pointer (some ⟨H, 0, none⟩), .pointer (some ⟨H, 0, none⟩), .pointer (some ⟨H, 0, none⟩), .slice (some ⟨b1, o1, none⟩) n c, .int .i64 P, .pointer (some ⟨b1, o1 + P, none⟩), .int .i64 5, .int .i64 5, .bool true, .pointer (some ⟨H, 0, none⟩), .pointer (some ⟨H, 0, none⟩), .pointer (some ⟨H, 0, none⟩), .pointer (some ⟨H, 0, none⟩), .slice (some ⟨b1, o1, none⟩) n c, .int .i64 P, .pointer (some ⟨H, 0, none⟩), .pointer (some ⟨H, 0, none⟩), .pointer (some ⟨H, 0, none⟩), .slice (some ⟨b1, o1, none⟩) n c, .int .i64 P, .int .i64 m, .slice A3 n c3, .pointer (some ⟨H, 0, none⟩), .pointer (some ⟨H, 0, none⟩), undef, undef, undef, undef, undef, undef, undef, undef, undef, undef, undef, undef, undef, undef, undef, undef, undef, undef, undef, undef, undef, undef], defers := [] }) (by kernel_rfl) ?_
      refine wpAnyH_ready (rs := [15]) (by kernel_rfl) (by simp) (AllReadyH.cons rfl (fun K hK => ?_) AllReadyH.nil)
      go_simp
      refine hK.out _ _ trivial (fun _ => ?_)
      clear hK K
      refine wpAnyH_done (by kernel_rfl) ?_ _
      refine then_at (b := { tmps := #[.pointer (some ⟨H, 0, none⟩), .int .i64 a, undef, undef, .int .i64 P, .int .i64 5, undef, .int .i64 a, .int .i64 P, .pointer (some ⟨H, 0, none⟩), .pointer (some ⟨H, 0, none⟩), .pointer (some ⟨H, 0, none⟩), .slice (some ⟨b1, o1, none⟩) n c, .int .i64 P, .pointer (some ⟨b1, o1 + P, none⟩), .int .i64 5, .int .i64 5, .bool true, .pointer (some ⟨H, 0, none⟩), .pointer (some ⟨H, 0, none⟩), .pointer (some ⟨H, 0, none⟩), .pointer (some ⟨H, 0, none⟩), .slice (some ⟨b1, o1, none⟩) n c, .int .i64 P, .pointer (some ⟨H, 0, none⟩), .pointer (some ⟨H, 0, none⟩), .pointer (some ⟨H, 0, none⟩), .slice (some ⟨b1, o1, none⟩) n c, .int .i64 P, .int .i64 m, .slice A3 n c3, .pointer (some ⟨H, 0, none⟩), .pointer (some ⟨H, 0, none⟩), undef, undef, undef, undef, undef, undef, undef, undef, undef, undef, undef, undef, undef, undef, undef, undef, undef, undef, undef, undef, undef, undef], defers := [] }) (by kernel_rfl) ?_
      go_wp2
      refine bodyPost_ret (v := .tuple #[]) ?_ rfl ⟨_, _, rfl, H4.out, G4.out⟩
      simp [results, Tryd.results63, go_sem]
    · skip
      go_simp
      (go_at_call 74; (with_reducible refine (SZ.out _ (ch.grown_drew _ _)).mono ?_); rintro e w2 ⟨rfl, hg⟩; have G2 := Lib.hid ((ch.grown_drew w none).trans hg); have f2 := (HH.out.new G2.out).h0; have R2 := Lib.hid (bm.Rd.below' RK.out (li.grown_below G2.out) G2.out.size); clear hg)
      refine hK.out _ _ trivial (fun _ => ?_)
      clear hK K
      refine any_at (b := { tmps := #[.pointer (some ⟨H, 0, none⟩), .int .i64 a, undef, undef, .int .i64 P, .int .i64 5, undef, .int .i64 a, .int .i64 P, .pointer (some ⟨H, 0, none⟩), .pointer (some ⟨H, 0, none⟩), .pointer (some ⟨H, 0, none⟩), .slice (some ⟨b1, o1, none⟩) n c, .int .i64 P, .pointer (some ⟨b1, o1 + P, none⟩), .int .i64 5, .int .i64 5, .bool true, .pointer (some ⟨H, 0, none⟩), .pointer (some ⟨H, 0, none⟩), .pointer (some ⟨H, 0, none⟩), .pointer (some ⟨H, 0, none⟩), undef, .int .i64 P, .pointer (some ⟨H, 0, none⟩), .pointer (some ⟨H, 0, none⟩), .pointer (some ⟨H, 0, none⟩), .slice (some ⟨b1, o1, none⟩) n c, .int .i64 P, .int .i64 m, undef, undef, undef, undef, undef, undef, undef, undef, undef, undef, undef, undef, undef, undef, undef, undef, undef, undef, undef, undef, undef, undef, undef, undef, undef], defers := [] }) (by kernel_rfl) ?_
      refine wpAnyH_ready (rs := [4]) (by kernel_rfl) (by simp) (AllReadyH.cons rfl (fun K hK => ?_) AllReadyH.nil)
      go_simp
      refine hK.out _ _ trivial (fun _ => ?_)
      clear hK K
      refine any_at (b := { tmps := #[.pointer (some ⟨H, 0, none⟩), .int .i64 a, undef, undef, .int .i64 P, .int .i64 5, undef, .int .i64 a, .int .i64 P, .pointer (some ⟨H, 0, none⟩), .pointer (some ⟨H, 0, none⟩), .pointer (some ⟨H, 0, none⟩), .slice (some ⟨b1, o1, none⟩) n c, .int .i64 P, .pointer (some ⟨b1, o1 + P, none⟩), .int .i64 5, .int .i64 5, .bool true, .pointer (some ⟨H, 0, none⟩), .pointer (some ⟨H, 0, none⟩), .pointer (some ⟨H, 0, none⟩), .pointer (some ⟨H, 0, none⟩), .slice (some ⟨b1, o1, none⟩) n c, .int .i64 P, .pointer (some ⟨H, 0, none⟩), .pointer (some ⟨H, 0, none⟩), .pointer (some ⟨H, 0, none⟩), .slice (some ⟨b1, o1, none⟩) n c, .int .i64 P, .int .i64 m, undef, undef, undef, undef, undef, undef, undef, undef, undef, undef, undef, undef, undef, undef, undef, undef, undef, undef, undef, undef, undef, undef, undef, undef, undef], defers := [] }) (by kernel_rfl) ?_
      refine wpAnyH_ready (rs := [12]) (by kernel_rfl) (by simp) (AllReadyH.cons rfl (fun K hK => ?_) AllReadyH.nil)
      go_simp
      (go_at_call 71; (with_reducible refine (S1.out _ R2.out).mono ?_); rintro e w3 ⟨A3, c3, rfl, ho, hg⟩; rw [LY.out] at ho ⊢; have G3 := Lib.hid (G2.out.trans hg); have H3 := Lib.hid (HH.out.new G3.out); have f3 := H3.out.h0; have z3 := H3.out.fz 0; have F3 := Lib.hid (Fx.own (V := V) ho (fun k hk => Nat.lt_of_lt_of_le (HH.out.lt k hk) G2.out.size)); have H4 := Lib.hid (H3.out.kinds F3.out); have G4 := Lib.hid ((Gr.new (L := [H]) G3.out).trans (Gr.set w3 H 0 (.slice A3 n c3) (by simp))); clear ho hg)
      refine hK.out _ _ trivial (fun _ => ?_)
      clear hK K
      refine any_at (b := { tmps := #[.pointer (some ⟨H, 0, none⟩), .int .i64 a, undef, undef, .int .i64 P, .int .i64 5, undef, .int .i64 a, .int .i64 P, .pointer (some ⟨H, 0, none⟩), .pointer (some ⟨H, 0, none⟩), .pointer (some ⟨H, 0, none⟩), .slice (some ⟨b1, o1, none⟩) n c, .int .i64 P, .pointer (some ⟨b1, o1 + P, none⟩), .int .i64 5, .int .i64 5, .bool true, .pointer (some ⟨H, 0, none⟩), .pointer (some ⟨H, 0, none⟩), .pointer (some ⟨H, 0, none⟩), .pointer (some ⟨H, 0, none⟩), .slice (some ⟨b1, o1, none⟩) n c, .int .i64 P, .pointer (some ⟨H, 0, none⟩), .pointer (some ⟨H, 0, none⟩), .pointer (some ⟨H, 0, none⟩), .slice (some ⟨b1, o1, none⟩) n c, .int .i64 P, .int .i64 m, .slice A3 n c3, undef, undef, undef, undef, undef, undef, undef, undef, undef, undef, undef, undef, undef, undef, undef, undef, undef, undef, undef, undef, undef, undef, undef, undef], defers := [] }) (by kernel_rfl) ?_
      refine wpAnyH_take (i := 13) (v := .pointer (some ⟨H, 0, none⟩)) rfl (by kernel_rfl) (by kernel_rfl) (by kernel_rfl) (fun _ _ _ h => h) (Or.inl ⟨by kernel_rfl, fun _ _ => by go_simp⟩) trivial ?_
      refine any_at (b := { tmps := #[.pointer (some ⟨H, 0, none⟩), .int .i64 a, undef, undef, .int .i64 P, .int .i64 5, undef, .int .i64 a, .int .i64 P, .pointer (some ⟨H, 0, none⟩), .pointer (some ⟨H, 0, none⟩), .pointer (some ⟨H, 0, none⟩), .slice (some ⟨b1, o1, none⟩) n c, .int .i64 P, .pointer (some ⟨b1, o1 + P, none⟩), .int .i64 5, .int .i64 5, .bool true, .pointer (some ⟨H, 0, none⟩), .pointer (some ⟨H, 0, none⟩), .pointer (some ⟨H, 0, none⟩), .pointer (some ⟨H, 0, none⟩), .slice (some ⟨b1, o1, none⟩) n c, .int .i64 P, .pointer (some ⟨H, 0, none⟩), .pointer (some ⟨H, 0, none⟩), .pointer (some ⟨H, 0, none⟩), .slice (some ⟨b1, o1, none⟩) n c, .int .i64 P, .int .i64 m, .slice A3 n c3, .pointer (some ⟨H, 0, none⟩), undef, undef, undef, undef, undef, undef, undef, undef, undef, undef, undef, undef, undef, undef, undef, undef, undef, undef, undef, undef, undef, undef, undef], defers := [] }) (by kernel_rfl) ?_
      refine wpAnyH_take (i := 14) (v := .pointer (some ⟨H, 0, none⟩)) rfl (by kernel_rfl) (by kernel_rfl) (by kernel_rfl) (fun _ _ _ h => h) (Or.inl ⟨by kernel_rfl, fun _ _ => by go_simp⟩) trivial ?_
      refine any_at (b := { tmps := #[.pointer (some ⟨H, 0, none⟩), .int .i64 a, undef, undef, .int .i64 P, .int .i64 5, undef, .int .i64 a, .int .i64 P, .pointer (some ⟨H, 0, none⟩), .pointer (some ⟨H, 0, none⟩), .pointer (some ⟨H, 0, none⟩), .slice (some ⟨b1, o1, none⟩) n c, .int .i64 P, .pointer (some ⟨b1, o1 + P, none⟩), .int .i64 5, .int .i64 5, .bool true, .pointer (some ⟨H, 0, none⟩), .pointer (some ⟨H, 0, none⟩), .pointer (some ⟨H, 0, none⟩), .pointer (some ⟨H, 0, none⟩), .slice (some ⟨b1, o1, none⟩) n c, .int .i64 P, .pointer (some ⟨H, 0, none⟩), .pointer (some ⟨H, 0, none⟩), .pointer (some ⟨H, 0, none⟩), .slice (some ⟨b1, o1, none⟩) n c, .int .i64 P, .int .i64 m, .slice A3 n c3, .pointer (some ⟨H, 0, none⟩), .pointer (some ⟨H, 0, none⟩), undef, undef, undef, undef, undef, undef, undef, undef, undef, undef, undef, undef, undef, undef, undef, undef, undef, undef, undef, undef, undef, undef], defers := [] }) (by kernel_rfl) ?_
      refine wpAnyH_ready (rs := [15]) (by kernel_rfl) (by simp) (AllReadyH.cons rfl (fun K hK => ?_) AllReadyH.nil)
      go_simp
      refine hK.out _ _ trivial (fun _ => ?_)
      clear hK K
      refine wpAnyH_done (by kernel_rfl) ?_ _
      refine then_at (b := { tmps := #[.pointer (some ⟨H, 0, none⟩), .int .i64 a, undef, undef, .int .i64 P, .int .i64 5, undef, .int .i64 a, .int .i64 P, .pointer (some ⟨H, 0, none⟩), .pointer (some ⟨H, 0, none⟩), .pointer (some ⟨H, 0, none⟩), .slice (some ⟨b1, o1, none⟩) n c, .int .i64 P, .pointer (some ⟨b1, o1 + P, none⟩), .int .i64 5, .int .i64 5, .bool true, .pointer (some ⟨H, 0, none⟩), .pointer (some ⟨H, 0, none⟩), .pointer (some ⟨H, 0, none⟩), .pointer (some ⟨H, 0, none⟩), .slice (some ⟨b1, o1, none⟩) n c, .int .i64 P, .pointer (some ⟨H, 0, none⟩), .pointer (some ⟨H, 0, none⟩), .pointer (some ⟨H, 0, none⟩), .slice (some ⟨b1, o1, none⟩) n c, .int .i64 P, .int .i64 m, .slice A3 n c3, .pointer (some ⟨H, 0, none⟩), .pointer (some ⟨H, 0, none⟩), undef, undef, undef, undef, undef, undef, undef, undef, undef, undef, undef, undef, undef, undef, undef, undef, undef, undef, undef, undef, undef, undef], defers := [] }) (by kernel_rfl) ?_
      go_wp2
      refine bodyPost_ret (v := .tuple #[]) ?_ rfl ⟨_, _, rfl, H4.out, G4.out⟩
      simp [results, Tryd.results63, go_sem]
end
end Go.Proofs.YtpnhanalnbjapaaDoor.bo

/- The statement's own book, in memory: size, base. -/
namespace Go.Proofs.YtpnhanalnbjapaaDoor.bo
open Go.ChangeShapes Go.WideShapes Go.ChangeAt Go.RowKit gen calls cls geos ce
set_option linter.unusedVariables false
set_option maxHeartbeats 4000000
set_option maxRecDepth 100000
/-- Blocks that the book's lists keep off. -/
def Av (X : List Nat) (bk H : Nat) (vt : Value) : List Nat := bk :: H :: (vt.ownBlock.toList ++ X)
/-- The book, at bk: its heap by lists, what is taken, the words. X: what the program writes. -/
structure Bk (w : World) (X : List Nat) (bk H : Nat) (vk : Value) (vs tl : List Value) (vt : Value) (ks : List Int) (fr : Nat → List Int) (tk bw : List Int) : Prop where
  box : w.heap[bk]? = some (.cells (.pointer (some ⟨H, 0, none⟩) :: vt :: bw.map (Value.int .i64)).toArray 33 (0, 0))
  bwl : bw.length = 2048
  own : w.ownsRow 0 3 1 vt tk.length (li.ints tk)
  hh : Hh w (Av X bk H vt) H vk vs tl ks fr
  vx : ∀ t, vt.ownBlock = some t → t ∉ X ∧ t ≠ bk ∧ t ≠ H
  bx : bk ∉ X ∧ H ∉ X ∧ bk ≠ H
section
variable {w w' : World} {X : List Nat} {bk H : Nat} {vk vt : Value} {vs tl : List Value} {ks tk bw : List Int} {fr : Nat → List Int}
theorem own_gr {L : List Nat} {base n : Nat} {t : TypeId} {v : Value} {xs : List Value} (h : w.ownsRow base t 1 v n xs) (hg : Gr L w w') (hL : ∀ q, v.ownBlock = some q → q ∉ L) : w'.ownsRow base t 1 v n xs := by
  refine ⟨h.1, ?_⟩
  rcases h.2 with hn | ⟨g, cap, cur, rfl, hb, hgg, rest⟩
  · exact .inl hn
  · exact .inr ⟨g, cap, cur, rfl, hb, hg.heap hgg (hL g rfl), rest⟩
theorem Bk.gr {L : List Nat} (B : Bk w X bk H vk vs tl vt ks fr tk bw) (hg : Gr L w w') (hL : ∀ k, k ∈ L → k ∈ X) : Bk w' X bk H vk vs tl vt ks fr tk bw :=
  ⟨hg.heap B.box (fun h => B.bx.1 (hL _ h)), B.bwl, own_gr B.own hg (fun q hq hm => (B.vx q hq).1 (hL _ hm)), B.hh.gr hg (fun k hk => ⟨by simp [Av]; exact .inr (.inr (.inr (hL k hk))), fun e => B.bx.2.1 (e ▸ hL k hk)⟩), B.vx, B.bx⟩
theorem Bk.new (B : Bk w X bk H vk vs tl vt ks fr tk bw) (hg : w.grownBy w' none) : Bk w' X bk H vk vs tl vt ks fr tk bw := B.gr (L := []) (.new hg) (by simp)
theorem Bk.b0 (B : Bk w X bk H vk vs tl vt ks fr tk bw) : w.cell? ⟨bk, 0, none⟩ = some (.pointer (some ⟨H, 0, none⟩)) := by rw [cell_of_row w bk 0 _ _ _ B.box]; rfl
theorem Bk.b1 (B : Bk w X bk H vk vs tl vt ks fr tk bw) : w.cell? ⟨bk, 1, none⟩ = some vt := by rw [cell_of_row w bk 1 _ _ _ B.box]; rfl
theorem Bk.wat (B : Bk w X bk H vk vs tl vt ks fr tk bw) {i : Nat} (hi : i < 2048) : w.cell? ⟨bk, 2 + i, none⟩ = some (.int .i64 (bw.getD i 0)) := by
  rw [cell_of_row w bk (2 + i) _ _ _ B.box, show 2 + i = i + 1 + 1 by omega]
  have := B.bwl
  simp [this, hi]
theorem Bk.fz (B : Bk w X bk H vk vs tl vt ks fr tk bw) (k : Nat) : w.frozen? ⟨bk, k, none⟩ = false := frozen_of_row w bk k _ _ B.box
theorem Bk.rd (B : Bk w X bk H vk vs tl vt ks fr tk bw) : ∃ A c, vt = .slice A tk.length c ∧ Rd w w.heap.size A tk.length c tk := Rd.of_own B.own
theorem size_any (B : Bk w X bk H vk vs tl vt ks fr tk bw) (hks : pg.Ks ks) (hl : ks.length ≤ 64) (a : Nat) (a2 : a ≤ 2047) :
    Calls Tryd.prog 38 #[.pointer (some ⟨bk, 0, none⟩), .int .i64 a] w fun e w' => e = int1 (bz ks a) ∧ w.grownBy w' none := by
  have f0 := B.b0
  have f1 := B.hh.h0
  obtain ⟨P, hP⟩ : ∃ P : Nat, (a : Int) / 32 = P := ⟨a / 32, by omega⟩
  obtain ⟨A, n, c, rfl, hr, ha, hn, hc⟩ := B.hh.kd
  have n64 : n ≤ 64 := by have := hr.1; omega
  have KD := Lib.hid ((pg.rKind_any n64 hr P).mono fun e w' ⟨h1, h2⟩ => (⟨h1, h2.symm⟩ : e = int1 (pg.kind ks P) ∧ w = w'))
  have SZ := Lib.hid (pg.rSiz_any n64 (Nat.le_refl _) hr hks P)
  have sw := pg.siz_wide ks P
  have KF := Lib.hid (ce.kind_fits hks P)
  have ez : bz ks a = if pg.kind ks P = 5 then 32 * pg.siz ks P else sz (pg.kind ks P) := by unfold bz; rw [hP]
  rw [ez]
  have a3 : (a : Int) ≤ 2047 := by omega
  have a0 : (0 : Int) ≤ a := by omega
  have sl : pg.siz ks P ≤ 64 := by omega
  have s0 : 0 ≤ pg.siz ks P := sw.1
  clear B hks hl hr ha ez sw
  generalize pg.siz ks P = m at *
  generalize pg.kind ks P = k at *
  by_cases h5 : k = 5
  · rw [if_pos h5]
    have t1 : (k == 5) = true := by simpa using h5
    clear h5
    go_enter Tryd.func38, Tryd.ntmps38
    go_wp2_with (first
      | (go_at_call 34; (with_reducible refine KD.out.mono ?_); rintro e w' ⟨rfl, rfl⟩)
      | (go_at_call 74; (with_reducible refine SZ.out.mono ?_); rintro e w2 ⟨rfl, hg⟩; have G2 := Lib.hid hg; clear hg))
    go_ret
    exact ⟨rfl, G2.out⟩
  · rw [if_neg h5]
    have t1 : (k == 5) = false := by simpa using h5
    clear h5
    go_enter Tryd.func38, Tryd.ntmps38
    go_wp2_with (first
      | (go_at_call 34; (with_reducible refine KD.out.mono ?_); rintro e w' ⟨rfl, rfl⟩)
      | (go_at_call 69; (with_reducible refine (pg.rsz_any _ _ KF.out).mono ?_); rintro e w2 ⟨rfl, hg⟩; have G2 := Lib.hid hg; clear hg))
    go_ret
    exact ⟨rfl, G2.out⟩
/-- None of the first ones has it. -/
def Out (ks tk : List Int) (x : Int) (k : Nat) : Prop := ∀ j, j < k → ¬ (tk.getD j 0 ≤ x ∧ x < tk.getD j 0 + bz ks (tk.getD j 0))
theorem Out.more {ks tk : List Int} {x a : Int} {k : Nat} (h : Out ks tk x k) (ha : tk.getD k 0 = a) (hn : ¬ (a ≤ x ∧ x < a + bz ks a)) : Out ks tk x (k + 1) := fun j hj => by
  by_cases e : j = k
  · subst e; rw [ha]; exact hn
  · exact h j (by omega)
theorem base_any (B : Bk w X bk H vk vs tl vt ks fr tk bw) {xs cs : List Int} {fr0 : Nat → List Int} (O : Ok ks xs cs tk fr0) (x : Int) (hx : fits x = true) (hn2 : tk.length ≤ 2048) :
    Calls Tryd.prog 29 #[.pointer (some ⟨bk, 0, none⟩), .int .i64 x] w fun e w' => e = int1 (bs ks tk x) ∧ w.grownBy w' none := by
  obtain ⟨A, c, rfl, hr⟩ := B.rd
  obtain ⟨n, hn⟩ : ∃ n, tk.length = n := ⟨_, rfl⟩
  have HB := Lib.hid B
  have HR := Lib.hid hr
  have HO := Lib.hid O
  have hl := O.len
  have hfw := O.few
  obtain ⟨x1, x2⟩ := fits_iff.mp hx
  rw [hn] at HB HR
  have SZ := Lib.hid (fun W (hg : w.grownBy W none) a a2 => size_any (B.new hg) O.kds O.few a a2)
  have EL := Lib.hid (fun k (hk : k < n) => (show ∃ a : Nat, tk.getD k 0 = a ∧ (a : Int) ∈ tk ∧ a ≤ 2047 ∧ (a : Int) + bz ks a ≤ 2048 ∧ 0 < bz ks a by
    have hk' : k < tk.length := by omega
    have ha : tk.getD k 0 ∈ tk := by rw [List.getD_eq_getElem?_getD, List.getElem?_eq_getElem hk']; exact List.getElem_mem hk'
    generalize tk.getD k 0 = a at ha
    have h1 := bz_in O ha
    have h2 := bz_pos O ha
    exact ⟨a.toNat, by omega, by rw [show ((a.toNat : Nat) : Int) = a by omega]; exact ha, by omega, by rw [show ((a.toNat : Nat) : Int) = a by omega]; omega, by rw [show ((a.toNat : Nat) : Int) = a by omega]; omega⟩))
  have HN := Lib.hid hn
  have n2 : n ≤ 2048 := by omega
  clear B hr O hl hfw hx
  go_enter Tryd.func29, Tryd.ntmps29
  go_wp2
  go_loopw [5] (fun i wr => ∃ k : Nat, k ≤ n ∧ i = .int .i64 k ∧ Out ks tk x k ∧ w.grownBy wr none) (fun i _ => n - (intOf i).toNat)
  case atStart => exact ⟨0, Nat.zero_le _, rfl, fun j hj => absurd hj (by omega), World.grownBy.refl _ _⟩
  case round =>
    obtain ⟨k, hk, rfl, hout, hg⟩ := hrel
    have GR := Lib.hid hg
    have OU := Lib.hid hout
    clear hg hout
    have f0 := (HB.out.new GR.out).b0
    have f1 := (HB.out.new GR.out).b1
    by_cases hlt : k < n
    · obtain ⟨a, ea, ha, a2, a3, a4⟩ := EL.out k hlt
      obtain ⟨b, off, rfl, g0⟩ := (bm.Rd.below' HR.out (li.grown_below GR.out) GR.out.size).at_ hlt
      rw [ea] at g0
      have EA := Lib.hid ea
      have HA := Lib.hid ha
      obtain ⟨z, hz⟩ : ∃ z, bz ks a = z := ⟨_, rfl⟩
      rw [hz] at a3 a4
      have ZZ := Lib.hid hz
      clear ea ha hz
      by_cases h1 : (a : Int) ≤ x
      · by_cases h2 : x < (a : Int) + z
        · have RS := Lib.hid (show bs ks tk x = a from base_in HO.out HA.out h1 (by rw [ZZ.out]; exact h2))
          go_wp2_with (first
            | (go_at_call 38; (with_reducible refine (SZ.out _ GR.out a a2).mono ?_); rintro e w2 ⟨rfl, hg⟩; rw [ZZ.out]; have G2 := Lib.hid (GR.out.trans hg); clear hg))
          go_ret
          exact ⟨by rw [RS.out]; rfl, G2.out⟩
        · go_wp2_with (first
            | (go_at_call 38; (with_reducible refine (SZ.out _ GR.out a a2).mono ?_); rintro e w2 ⟨rfl, hg⟩; rw [ZZ.out]; have G2 := Lib.hid (GR.out.trans hg); clear hg))
          go_roundw
          case rel => exact ⟨k + 1, by omega, by go_num, OU.out.more EA.out (by rw [ZZ.out]; omega), G2.out⟩
          case measure => simp [intOf]; omega
      · go_wp2
        go_roundw
        case rel => exact ⟨k + 1, by omega, by go_num, OU.out.more EA.out (by omega), GR.out⟩
        case measure => simp [intOf]; omega
    · have RS := Lib.hid (show bs ks tk x = -1 from base_out HO.out fun a ha => by
        obtain ⟨j, hj, rfl⟩ := List.mem_iff_getElem.1 ha
        have := OU.out j (by have := HN.out; omega)
        rwa [List.getD_eq_getElem?_getD, List.getElem?_eq_getElem hj] at this)
      go_wp2
      go_ret
      exact ⟨by rw [RS.out]; rfl, GR.out⟩
end
end Go.Proofs.YtpnhanalnbjapaaDoor.bo

/- The statement's own book, in memory: put. -/
namespace Go.Proofs.YtpnhanalnbjapaaDoor.bo
open Go.ChangeShapes Go.WideShapes Go.ChangeAt Go.RowKit gen calls cls geos ce
set_option linter.unusedVariables false
set_option maxHeartbeats 4000000
set_option maxRecDepth 100000
/-- The book's cells. -/
def bcs (H : Nat) (vt : Value) (bw : List Int) : Array Value := (.pointer (some ⟨H, 0, none⟩) :: vt :: bw.map (Value.int .i64)).toArray
/-- What a call on the book writes. -/
def Wr (bk : Nat) (vt : Value) : List Nat := bk :: vt.ownBlock.toList
section
variable {w w' : World} {X : List Nat} {bk H : Nat} {vk vt vt' : Value} {vs tl : List Value} {ks tk tk' bw bw' : List Int} {fr : Nat → List Int}
theorem Bk.relist (B : Bk w X bk H vk vs tl vt ks fr tk bw) {base : Nat} (hg : Gr (Wr bk vt) w w') (hbox : w'.heap[bk]? = some (.cells (bcs H vt' bw') 33 (0, 0))) (hl : bw'.length = 2048)
    (ho : w'.ownsRow base 3 1 vt' tk'.length (li.ints tk')) (hb : w.heap.size ≤ base) : Bk w' X bk H vk vs tl vt' ks fr tk' bw' := by
  have nb : ∀ t, vt'.ownBlock = some t → w.heap.size ≤ t ∧ t < w'.heap.size := fun t ht => by have := ho.lt t ht; omega
  have XL : ∀ k, k ∈ X → k < w.heap.size := fun k hk => B.hh.lt k (by simp [Av]; exact .inr (.inr (.inr hk)))
  have bL : bk < w.heap.size := pg.lt_of_heap B.box
  have HL : H < w.heap.size := pg.lt_of_heap B.hh.hea
  have WL : ∀ k, k ∈ Wr bk vt → k ∈ Av X bk H vt := fun k hk => by
    simp [Wr] at hk; simp [Av]
    rcases hk with h | h
    · exact .inl h
    · exact .inr (.inr (.inl h))
  have FX : ∀ {v : Value} {l : List Int}, Fx w (Av X bk H vt) v l → Fx w' (Av X bk H vt') v l := fun {v l} h => by
    have h1 : Fx w (Av X bk H vt ++ Av X bk H vt') v l := h.re fun k hk => by
      rcases List.mem_append.1 hk with h1 | h1
      · exact .inl h1
      · simp [Av] at h1 ⊢
        rcases h1 with h2 | h2 | h2 | h2
        · exact .inl (.inl h2)
        · exact .inl (.inr (.inl h2))
        · exact .inr (nb k h2).1
        · exact .inl (.inr (.inr (.inr h2)))
    have h2 := h1.gr hg (fun k hk => List.mem_append.2 (.inl (WL k hk)))
    exact h2.re fun k hk => .inl (List.mem_append.2 (.inr hk))
  have HW : H ∉ Wr bk vt := fun hm => by
    simp [Wr] at hm
    rcases hm with h | h
    · exact B.bx.2.2 h.symm
    · exact (B.vx H h).2.2 rfl
  refine ⟨hbox, hl, own_base0 ho, ⟨hg.heap B.hh.hea HW, B.hh.vsl, FX B.hh.kd, fun p hp => by obtain ⟨v, h1, h2⟩ := B.hh.fre p hp; exact ⟨v, h1, FX h2⟩, by simp [Av], fun k hk => ?_⟩, fun t ht => ?_, B.bx⟩
  · simp [Av] at hk
    have := hg.size
    rcases hk with h | h | h | h
    · omega
    · omega
    · exact (nb k h).2
    · have := XL k h; omega
  · have := (nb t ht).1
    exact ⟨fun h => by have := XL t h; omega, by omega, by omega⟩
where own_base0 {w : World} {base n : Nat} {v : Value} {xs : List Value} (h : w.ownsRow base 3 1 v n xs) : w.ownsRow 0 3 1 v n xs := li.own_mono h (Nat.zero_le _)
/-- A word written. -/
theorem Bk.word (B : Bk w X bk H vk vs tl vt ks fr tk bw) {i : Nat} (hi : i < 2048) (v : Int) : Bk (w.setCell ⟨bk, 2 + i, none⟩ (.int .i64 v)) X bk H vk vs tl vt ks fr tk (bw.set i v) := by
  have G : Gr [bk] w (w.setCell ⟨bk, 2 + i, none⟩ (.int .i64 v)) := .set _ _ _ _ (by simp)
  have hb := B.bwl
  refine ⟨?_, by rw [List.length_set]; exact hb, own_gr B.own G (fun q hq => by simp; exact (B.vx q hq).2.1), B.hh.gr G (fun k hk => by simp at hk; subst hk; exact ⟨by simp [Av], B.bx.2.2⟩), B.vx, B.bx⟩
  rw [heap_setCell_same w bk _ _ _ _ B.box, show 2 + i = i + 1 + 1 by omega]
  simp [List.map_set]
theorem box_list (h : w.heap[bk]? = some (.cells (bcs H vt bw) 33 (0, 0))) (v : Value) : (w.setCell ⟨bk, 1, none⟩ v).heap[bk]? = some (.cells (bcs H v bw) 33 (0, 0)) := by
  rw [heap_setCell_same w bk _ _ _ _ h]
  simp [bcs]
theorem gr_append {w w1 : World} {bk : Nat} {o : Obj} {v : Value} (h : (w.alloc o).grownBy w1 v.ownBlock) : Gr (Wr bk v) w w1 :=
  (Gr.new (World.grownBy_alloc w o none)).trans (.of h fun q hq => by simp [Wr, hq])
theorem Bk.box_append {w1 : World} {o : Obj} (B : Bk w X bk H vk vs tl vt ks fr tk bw) (h : (w.alloc o).grownBy w1 vt.ownBlock) : w1.heap[bk]? = some (.cells (bcs H vt bw) 33 (0, 0)) := by
  have hb := pg.lt_of_heap B.box
  rw [h.block bk (by simp; omega) (fun e => (B.vx bk e.symm).2.1 rfl), Below.heap_alloc w o bk hb]
  exact B.box
theorem own_ne {n base : Nat} {v : Value} {xs : List Value} {cs : Array Value} (ho : w.ownsRow base 3 1 v n xs) (hb : w.heap[bk]? = some (.cells cs 33 (0, 0))) : ∀ q, v.ownBlock = some q → q ≠ bk := fun q hq => by
  rcases ho.2 with ⟨rfl, _⟩ | ⟨g, cap, cur, rfl, _, hg, _⟩
  · cases hq
  · injection hq with hq
    subst hq
    exact ty_ne hg hb (by decide)
theorem rd_other {n c B : Nat} {A : Option Addr} {xs : List Int} (h : Rd w B A n c xs) (hne : ∀ q, (Value.slice A n c).ownBlock = some q → q ≠ bk) (k : Nat) (v : Value) : Rd (w.setCell ⟨bk, k, none⟩ v) B A n c xs :=
  ⟨h.1, h.2.1, fun ad e i hi => ⟨(h.2.2 ad e i hi).1, (Gr.set (L := [bk]) w bk k v (by simp)).cell (h.2.2 ad e i hi).2 (by rw [block_of_add]; simp; exact hne _ (by subst e; rfl))⟩⟩
theorem c1_of (h : w.heap[bk]? = some (.cells (bcs H vt bw) 33 (0, 0))) : w.cell? ⟨bk, 1, none⟩ = some vt ∧ w.frozen? ⟨bk, 1, none⟩ = false := ⟨by rw [cell_of_row w bk 1 _ _ _ h]; rfl, frozen_of_row w bk 1 _ _ h⟩
theorem put_any (B : Bk w X bk H vk vs tl vt ks fr tk bw) (hks : pg.Ks ks) (hl : ks.length ≤ 64) (a n : Nat) (hn : bz ks a = n) (han : a + n ≤ 2048) (h0 : 0 < n) (ht : tk.length ≤ 2048) :
    Calls Tryd.prog 62 #[.pointer (some ⟨bk, 0, none⟩), .int .i64 a] w fun e w' => ∃ vt', e = nil0 ∧ Bk w' X bk H vk vs tl vt' ks fr (bm.rising (tk ++ [(a : Int)])) (mm.fillN bw a 0 n) ∧ Gr (Wr bk vt) w w' ∧ ∀ t, vt'.ownBlock = some t → w.heap.size ≤ t := by
  obtain ⟨i0, hi0, hz0, hz1, hz2⟩ := info_parts li.info_int
  have E : Hid (i0.zero = some (.int .i64 0) ∧ i0.size = 1 ∧ i0.bytes = 8 ∧ Tryd.prog.info? 3 = some i0) := ⟨hz0, hz1, hz2, hi0⟩
  clear hi0 hz0 hz1 hz2
  obtain ⟨A, c, rfl, hr⟩ := B.rd
  obtain ⟨m, hm⟩ : ∃ m, tk.length = m := ⟨_, rfl⟩
  have f1 := B.b1
  have z1 := B.fz 1
  have HB := Lib.hid B
  have HN := Lib.hid hn
  have a2 : a ≤ 2047 := by omega
  rw [hm] at f1 HB ht ⊢
  have HM := Lib.hid hm
  have OW := Lib.hid (hm ▸ B.own)
  have SZ := Lib.hid (fun W vt' tk' bw' (hB : Bk W X bk H vk vs tl vt' ks fr tk' bw') => size_any hB hks hl a a2)
  clear B hr hn hm hks hl
  go_enter Tryd.func62, Tryd.ntmps62
  go_wp2_with (first
    | (refine wpList_append_rd rfl (.tmp 9) (.tmp 11) 30 rfl 0 3 i0 (.int .i64 0) 8 Tryd.underlying30 E.out.2.2.2 E.out.1 E.out.2.1 E.out.2.2.1 rfl _ m tk rfl (OW.out.alloc _) (some ⟨w.heap.size, 0, none⟩) 1 1 _ [(a : Int)] rfl (li.Rd.one _ _ _) (by unfold maxLen; omega) (by omega) (Nat.zero_le _) ?_; intro A1 c1 w1 own1 rd1 gr1; have G1 := Lib.hid (gr_append (bk := bk) (v := .slice A m c) gr1); have hb1 := HB.out.box_append (vt := .slice A m c) gr1; have X1 := Lib.hid hb1; obtain ⟨q1, q2⟩ := c1_of hb1; have X2 := Lib.hid (box_list hb1 (.slice A1 (m + 1) c1)); have R2 := Lib.hid (rd_other rd1 (own_ne own1 hb1) 1 (.slice A1 (m + 1) c1)); have S2 := Lib.hid (show w1.heap.size = (w1.setCell ⟨bk, 1, none⟩ (.slice A1 (m + 1) c1)).heap.size by simp); clear own1 gr1 rd1 hb1)
    | (go_at_call 91; (with_reducible refine (bm.Rising_any (B := 0) (by omega) (by rw [← S2.out]; exact R2.out)).mono ?_); rintro e w3 ⟨A3, c3, rfl, ho, hg⟩; have hb3 := (Gr.new (L := []) hg).heap X2.out (by simp); obtain ⟨q3, q4⟩ := c1_of hb3; have X4 := Lib.hid (box_list hb3 (.slice A3 (bm.rising (tk ++ [(a : Int)])).length c3)); have O4 := Lib.hid (own_gr ho (Gr.set (L := [bk]) w3 bk 1 (.slice A3 (bm.rising (tk ++ [(a : Int)])).length c3) (by simp)) (fun q hq => by simp; exact own_ne ho hb3 q hq)); have G4 := Lib.hid ((G1.out.trans (Gr.set w1 bk 1 (.slice A1 (m + 1) c1) (by simp [Wr]))).trans ((Gr.new hg).trans (Gr.set w3 bk 1 (.slice A3 (bm.rising (tk ++ [(a : Int)])).length c3) (by simp [Wr])))); clear ho hg hb3))
  have B4 := Lib.hid (HB.out.relist G4.out X4.out HB.out.bwl O4.out (by have := G1.out.size; have := S2.out; omega))
  have LT := Lib.hid (show ∀ t, (Value.slice A3 (bm.rising (tk ++ [(a : Int)])).length c3).ownBlock = some t → w.heap.size ≤ t from fun t ht => by have := (O4.out.lt t ht).1; have := G1.out.size; have := S2.out; omega)
  generalize hv : Value.slice A3 (bm.rising (tk ++ [(a : Int)])).length c3 = v4 at *
  generalize hw4 : w3.setCell ⟨bk, 1, none⟩ v4 = w4 at *
  clear X4 O4 q3 q4 hv hw4
  generalize ht4 : bm.rising (tk ++ [(a : Int)]) = tk4 at *
  have HT4 := Lib.hid ht4
  clear ht4
  go_loopw [4] (fun i wr => ∃ k : Nat, k ≤ n ∧ i = .int .i64 k ∧ Bk wr X bk H vk vs tl v4 ks fr tk4 (mm.fillN bw a 0 k) ∧ Gr (Wr bk (.slice A m c)) w wr) (fun i _ => n - (intOf i).toNat)
  case atStart => exact ⟨0, Nat.zero_le _, rfl, B4.out, G4.out⟩
  case round =>
    obtain ⟨k, hk, rfl, hb, hg⟩ := hrel
    have BR := Lib.hid hb
    have GR := Lib.hid hg
    clear hb hg
    by_cases hlt : k < n
    · go_wp2_with (first
        | (go_at_call 38; (with_reducible refine (SZ.out _ _ _ _ BR.out).mono ?_); rintro e w5 ⟨rfl, hg⟩; rw [HN.out]; have B5 := Lib.hid (BR.out.new hg); have G5 := Lib.hid (GR.out.made hg); have y5 := B5.out.wat (i := a + k) (by omega); have z5 := B5.out.fz (2 + (a + k)); clear hg))
      go_roundw
      case rel => exact ⟨k + 1, by omega, by go_num, B5.out.word (i := a + k) (by omega) 0, G5.out.trans (Gr.set w5 bk (2 + (a + k)) (.int .i64 0) (by simp [Wr]))⟩
      case measure => simp [intOf]; omega
    · obtain rfl : k = n := by omega
      go_wp2_with (first
        | (go_at_call 38; (with_reducible refine (SZ.out _ _ _ _ BR.out).mono ?_); rintro e w5 ⟨rfl, hg⟩; rw [HN.out]; have B5 := Lib.hid (BR.out.new hg); have G5 := Lib.hid (GR.out.made hg); clear hg))
      go_end0
      exact ⟨_, rfl, by rw [HT4.out]; exact B5.out, G5.out, LT.out⟩
end
end Go.Proofs.YtpnhanalnbjapaaDoor.bo

/- The statement's own book, in memory: gone. -/
namespace Go.Proofs.YtpnhanalnbjapaaDoor.bo
open Go.ChangeShapes Go.WideShapes Go.ChangeAt Go.RowKit gen calls cls geos ce
set_option linter.unusedVariables false
set_option maxHeartbeats 4000000
set_option maxRecDepth 100000
section
variable {w w' : World} {X : List Nat} {bk H : Nat} {vk vt vk' : Value} {vs vs' tl : List Value} {ks ks' tk bw : List Int} {fr fr' : Nat → List Int}
/-- The heap by lists written. -/
theorem Bk.heap (B : Bk w X bk H vk vs tl vt ks fr tk bw) (h : Hh w' (Av X bk H vt) H vk' vs' tl ks' fr') (hg : Gr [H] w w') : Bk w' X bk H vk' vs' tl vt ks' fr' tk bw :=
  ⟨hg.heap B.box (by simp; exact B.bx.2.2), B.bwl, own_gr B.own hg (fun q hq => by simp; exact (B.vx q hq).2.2), h, B.vx, B.bx⟩
theorem gone_any (B : Bk w X bk H vk vs tl vt ks fr tk bw) (a : Int) (ht : tk.length ≤ 2048)
    (hG : ∀ W V, Hh W V H vk vs tl ks fr → Calls Tryd.prog 63 #[.pointer (some ⟨H, 0, none⟩), .int .i64 a] W fun e w' => ∃ vk' vs', e = nil0 ∧ Hh w' V H vk' vs' tl ks' fr' ∧ Gr [H] W w') :
    Calls Tryd.prog 25 #[.pointer (some ⟨bk, 0, none⟩), .int .i64 a] w fun e w' => ∃ vt' vk' vs', e = nil0 ∧ Bk w' X bk H vk' vs' tl vt' ks' fr' (tk.filter fun y => decide (y ≠ a)) bw ∧ Gr (H :: Wr bk vt) w w' ∧ ∀ t, vt'.ownBlock = some t → w.heap.size ≤ t := by
  obtain ⟨i0, hi0, hz0, hz1, hz2⟩ := info_parts li.info_int
  have E : Hid (i0.zero = some (.int .i64 0) ∧ i0.size = 1 ∧ i0.bytes = 8 ∧ Tryd.prog.info? 3 = some i0) := ⟨hz0, hz1, hz2, hi0⟩
  clear hi0 hz0 hz1 hz2
  obtain ⟨A, c, rfl, hr⟩ := B.rd
  obtain ⟨m, hm⟩ : ∃ m, tk.length = m := ⟨_, rfl⟩
  have HB := Lib.hid B
  have HR := Lib.hid hr
  rw [hm] at HB HR ht ⊢
  have HM := Lib.hid hm
  have GV := Lib.hid hG
  obtain ⟨p, hp⟩ : ∃ p : Int → Bool, p = fun y => decide (y ≠ a) := ⟨_, rfl⟩
  rw [← hp]
  have HP := Lib.hid hp
  clear B hr hm hG hp
  go_enter Tryd.func25, Tryd.ntmps25
  go_wp2
  go_loopw [4, 5] (fun v i wr => ∃ (k m2 : Nat) (A' : Option Addr) (c' : Nat), k ≤ m ∧ i = .int .i64 k ∧ v = .slice A' m2 c' ∧ m2 = ((tk.take k).filter p).length ∧ wr.ownsRow w.heap.size 3 1 (.slice A' m2 c') m2 (li.ints ((tk.take k).filter p)) ∧ w.grownBy wr none) (fun _ i _ => m - (intOf i).toNat)
  case atStart => exact ⟨0, 0, none, 0, Nat.zero_le _, rfl, rfl, by simp, World.ownsRow_nil _ _ _ _, World.grownBy.refl _ _⟩
  case round =>
    obtain ⟨k, m2, A', c', hk, rfl, rfl, hm2, ho, hg⟩ := hrel
    have HO := Lib.hid ho
    have HG := Lib.hid hg
    have HM2 := Lib.hid hm2
    have f1 := (HB.out.new HG.out).b1
    have l2 : m2 ≤ 2048 := by rw [hm2]; exact Nat.le_trans (List.length_filter_le _ _) (by rw [List.length_take]; omega)
    clear ho hg hm2
    by_cases hlt : k < m
    · obtain ⟨b, off, rfl, g0⟩ := (bm.Rd.below' HR.out (li.grown_below HG.out) HG.out.size).at_ hlt
      have FM := Lib.hid (bm.filter_more (xs := tk) (k := k) (by rw [HM.out]; exact hlt) p)
      generalize tk.getD k 0 = x at g0 FM
      generalize (tk.take k).filter p = out at HO HM2 FM
      by_cases hx : x = a
      · have t1 : (x != a) = false := by simpa using hx
        have FM2 := Lib.hid (show (tk.take (k + 1)).filter p = out by rw [FM.out, HP.out, hx]; simp)
        clear hx
        go_wp2
        go_roundw
        case rel => exact ⟨k + 1, m2, A', c', by omega, by go_num, rfl, by rw [FM2.out]; exact HM2.out, by rw [FM2.out]; exact HO.out, HG.out⟩
        case measure => simp [intOf]; omega
      · have t1 : (x != a) = true := by simpa using hx
        have FM2 := Lib.hid (show (tk.take (k + 1)).filter p = out ++ [x] by rw [FM.out, HP.out]; simp [hx])
        clear hx
        go_wp2_with (first
          | (refine wpList_append_rd rfl (.tmp 24) (.tmp 32) 30 rfl w.heap.size 3 i0 (.int .i64 0) 8 Tryd.underlying30 E.out.2.2.2 E.out.1 E.out.2.1 E.out.2.2.1 rfl _ m2 out rfl (HO.out.alloc _) (some ⟨wr.heap.size, 0, none⟩) 1 1 _ [x] rfl (li.Rd.one _ _ _) (by unfold maxLen; omega) (by omega) (by have := HG.out.size; simp; omega) ?_; intro A3 c3 w2 own1 rd1 gr1; have OWN1 := Lib.hid own1; have G1 := Lib.hid (li.grown_one HG.out HO.out (Nat.le_refl _) gr1); clear own1 gr1 rd1))
        go_roundw
        case rel => exact ⟨k + 1, m2 + 1, A3, c3, by omega, by go_num, rfl, by rw [FM2.out]; simp [HM2.out], by rw [FM2.out]; exact OWN1.out, G1.out⟩
        case measure => simp [intOf]; omega
    · obtain rfl : k = m := by omega
      have TK := Lib.hid (show tk.take k = tk by rw [List.take_of_length_le (by rw [HM.out]; exact Nat.le_refl _)])
      rw [TK.out] at HO HM2
      have BR := Lib.hid (HB.out.new HG.out)
      have z1 := BR.out.fz 1
      have X2 := Lib.hid (box_list (show wr.heap[bk]? = some (.cells (bcs H (.slice A k c) bw) 33 (0, 0)) from BR.out.box) (.slice A' m2 c'))
      have O2 := Lib.hid (own_gr HO.out (Gr.set (L := [bk]) wr bk 1 (.slice A' m2 c') (by simp)) (fun q hq => by simp; exact own_ne HO.out BR.out.box q hq))
      have G2 := Lib.hid ((Gr.new (L := Wr bk (.slice A k c)) HG.out).trans (Gr.set wr bk 1 (.slice A' m2 c') (by simp [Wr])))
      have B2 := Lib.hid (HB.out.relist (tk' := tk.filter p) G2.out X2.out HB.out.bwl (by rw [← HM2.out]; exact O2.out) (Nat.le_refl _))
      have f2 := B2.out.b0
      go_wp2_with (first
        | (go_at_call 63; (with_reducible refine (GV.out _ _ B2.out.hh).mono ?_); rintro e w5 ⟨vk5, vs5, rfl, hh, hg⟩; have B5 := Lib.hid (B2.out.heap hh hg); have G5 := Lib.hid ((G2.out.mono (M := H :: Wr bk (.slice A k c)) (fun q hq => by simp; exact .inr hq)).trans (hg.mono (fun q hq => by simp at hq; simp [hq]))); clear hh hg))
      go_end0
      exact ⟨_, _, _, rfl, B5.out, G5.out, fun t ht => (O2.out.lt t ht).1⟩
end
end Go.Proofs.YtpnhanalnbjapaaDoor.bo
