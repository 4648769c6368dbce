/- Joined: TgI, TgJ, TgK. -/
import Derived.Test.YtacjleladjgkeaaGreatDoorTgY
import Derived.Test.YtacjleladjgkeaaGreatDoorPhX
import Derived.Deep.DeepCutAuto
/- The plain grey over the plain heap: its page, Idle, shade, entry. -/
namespace Go.Proofs.YtacjleladjgkeaaGreatDoor.sh
open Go.ChangeShapes Go.WideShapes Go.ChangeAt Go.RowKit gen li en gr
set_option linter.unusedVariables false
set_option maxHeartbeats 8000000
set_option maxRecDepth 100000
section
variable {pp : Int} {w w' W w1 : World} {M r B : Nat} {J J' L K V : List Nat} {s s' : Ps} {v v' : Value} {e : Ending}
theorem Bo.c3 (h : Bo pp w M r v s) : w.cell? ⟨M, 2051, none⟩ = some (.int .i64 pp) := by rw [cell_of_row w M 2051 _ _ _ h.ob]; exact rcs_end 3
theorem Bo.put_page (h : Bo pp w M r v s) (p' : Int) : Bo p' (w.setCell ⟨M, 2051, none⟩ (.int .i64 p')) M r v s ∧ Gr (js M v) w (w.setCell ⟨M, 2051, none⟩ (.int .i64 p')) := by
  have G := grown_set w M 2051 (.int .i64 p')
  refine ⟨⟨?_, h.li.kept G (.inr h.off), h.hi, h.fit, h.fi⟩, Gr.one G (js_of.2 (.inl rfl))⟩
  rw [heap_setCell_same w M 2051 _ _ (.int .i64 p') h.ob]
  have := rcs_set (pp := pp) (ws := s.ws) (v := v) (r := r) (b := s.b) 3 (.int .i64 p')
  rw [this]
  rfl
theorem Ba.after {p' : Int} (hJ : ∀ q, q ∈ J' → q ∈ J ∨ w.heap.size ≤ q) (hg : Gr J w w1) (h : Ba p' J' M r v s w1 e w') : Ba p' J M r v s w e w' := by
  obtain ⟨h1, J2, h2, h3, h4⟩ := h
  exact ⟨h1, J2, fun q hq => (h2 q hq).elim (hJ q) (fun e => .inr (Nat.le_trans hg.size e)), h3, hg.own h4 hJ⟩
theorem Ba.same (h : Bk pp w J M r s) (hg : w.grownBy w' none) : Ba pp J M r v s w (.returned v) w' := ⟨rfl, J, fun q hq => .inl hq, h.new hg, Gr.new hg⟩
theorem rIdle_any (h : Bk pp w J M r s) : Calls Tryz.prog 35 #[.pointer (some ⟨M, 0, none⟩)] w fun e w' => e = .returned (.bool (tc.Ts.idle ⟨s, pp⟩)) ∧ w = w' := by
  obtain ⟨v, h, _⟩ := h
  obtain ⟨A, n, c, e, hn, _, _⟩ := h.li.shape
  have c0 := h.c0
  have c2 := h.c2
  have c3 := h.c3
  have hf := h.fit
  have hh := h.hi
  subst e
  by_cases hm : s.m = []
  · obtain rfl : n = 0 := by rw [hn, hm]; rfl
    by_cases hp : pp < 0
    · have E := Lib.hid (show tc.Ts.idle ⟨s, pp⟩ = !s.b by unfold tc.Ts.idle; simp [hm, hp])
      have t1 : decide (pp < 0) = true := decide_eq_true hp
      generalize s.b = b at *
      clear h hn hm hp hf
      go_enter Tryz.func35, Tryz.ntmps35
      go_wp2
      go_ret
      exact ⟨by rw [E.out]; rfl, rfl⟩
    · have E := Lib.hid (show tc.Ts.idle ⟨s, pp⟩ = false by unfold tc.Ts.idle; simp [hp])
      have t1 : decide (pp < 0) = false := decide_eq_false hp
      clear h hn hm hp hf
      go_enter Tryz.func35, Tryz.ntmps35
      go_wp2
      go_ret
      exact ⟨by rw [E.out]; rfl, rfl⟩
  · have E := Lib.hid (show tc.Ts.idle ⟨s, pp⟩ = false by unfold tc.Ts.idle; simp [hm])
    have n0 : 0 < n := by rw [hn]; exact List.length_pos_iff.2 hm
    have n1 : n ≤ 256 := by omega
    have t1 : ((n : Int) == 0) = false := by simp; omega
    clear h hn hm hf hh
    go_enter Tryz.func35, Tryz.ntmps35
    go_wp2
    go_ret
    exact ⟨by rw [E.out]; rfl, rfl⟩
/-- A list that is read stays where nothing of it is written. -/
theorem rv_gr {B' n c : Nat} {A : Option Addr} {m : List (Int × Int)} (h : va.Rv w B' A n c m) (hg : Gr L w w') (hL : ∀ ad, A = some ad → 0 < n → ad.block ∉ L) : va.Rv w' B' A n c m := by
  refine ⟨h.1, h.2.1, h.2.2.1, fun i hi => ?_⟩
  obtain ⟨b, off, e, hb, h1, h2⟩ := h.2.2.2 i hi
  have := hL _ e (by omega)
  exact ⟨b, off, e, hb, hg.cell h1 this, hg.cell h2 this⟩
/-- A part of it. -/
theorem rv_cut {B' n c f k : Nat} {A : Option Addr} {m : List (Int × Int)} (h : va.Rv w B' A n c m) (hk : f + k ≤ n) (h0 : 0 < k) : ∃ b o, A = some ⟨b, o, none⟩ ∧ va.Rv w B' (some ⟨b, o + f * 2, none⟩) k (c - f) ((m.drop f).take k) := by
  obtain ⟨b, o, e, _, _⟩ := h.at_ (i := f) (by omega)
  subst e
  have hl := h.1
  have hc := h.2.1
  have hc2 := h.2.2.1
  refine ⟨b, o, rfl, by rw [List.length_take, List.length_drop]; omega, by omega, by omega, fun i hi => ?_⟩
  obtain ⟨b', off, e, hb, h1, h2⟩ := h.2.2.2 (f + i) (by omega)
  injection e with e
  injection e with e1 e2
  subst e1 e2
  have eg : ((m.drop f).take k).getD i (0, 0) = m.getD (f + i) (0, 0) := by simp [List.getD_eq_getElem?_getD, hi]
  rw [eg]
  exact ⟨b, o + f * 2, rfl, hb, by rw [show o + f * 2 + i * 2 = o + (f + i) * 2 by omega]; exact h1, by rw [show o + f * 2 + i * 2 + 1 = o + (f + i) * 2 + 1 by omega]; exact h2⟩
theorem rshade_any (h : Bk pp w J M r s) {B' n c : Nat} {A : Option Addr} {m : List (Int × Int)} (hr : va.Rv w B' A n c m) (hJ : ∀ ad, A = some ad → 0 < n → ad.block ∉ J) (hn : n ≤ 127) (hlt : ∀ ad, A = some ad → 0 < n → ad.block < w.heap.size) :
    Calls Tryz.prog 73 #[.pointer (some ⟨M, 0, none⟩), .slice A n c] w (Ba pp J M r (.tuple #[]) (tc.shl r s m) w) := by
  have HB := Lib.hid h
  have HR := Lib.hid hr
  have HJ := Lib.hid hJ
  have HL := Lib.hid hlt
  have TM := Lib.hid (fun k (hk : k < n) => va.take_more (m := m) (i := k) (by have := hr.1; omega))
  have FU := Lib.hid (show m.take n = m by rw [List.take_of_length_le (by have := hr.1; omega)])
  have hc := hr.2.1
  have hc2 := hr.2.2.1
  unfold maxLen at hc2
  clear h hr hJ hlt
  go_enter Tryz.func73, Tryz.ntmps73
  go_wp2
  go_loopw [4] (fun i wr => ∃ (k : Nat) (J1 : List Nat), k ≤ n ∧ i = .int .i64 k ∧ (∀ q, q ∈ J1 → q ∈ J ∨ w.heap.size ≤ q) ∧ Bk pp wr J1 M r (tc.shl r s (m.take k)) ∧ Gr J w wr) (fun i _ => n - (intOf i).toNat)
  case atStart => exact ⟨0, J, Nat.zero_le _, rfl, fun q hq => .inl hq, by rw [List.take_zero]; exact HB.out, Gr.refl _ _⟩
  case round =>
    obtain ⟨k, J1, hk, rfl, hj1, hb1, hg1⟩ := hrel
    have HJ1 := Lib.hid hj1
    have HB1 := Lib.hid hb1
    have HG1 := Lib.hid hg1
    clear hj1 hb1 hg1
    by_cases hlt : k < n
    · obtain ⟨b1, o1, e, g1, g2⟩ := (rv_gr HR.out HG1.out HJ.out).at_ hlt
      have M1 := Lib.hid (TM.out k hlt)
      have BL := Lib.hid (HL.out _ e (by omega))
      have l1 : (0 : Int) ≤ (k : Int) := by omega
      have l2 : (k : Int) < n := by omega
      subst e
      generalize m.getD k (0, 0) = x at *
      obtain ⟨x1, x2⟩ := x
      dsimp only at g1 g2
      by_cases hx : x1 = 2
      · subst hx
        have SH := Lib.hid (rShade_any HB1.out x2)
        have FIN := Lib.hid (show tc.shl r s (m.take (k + 1)) = (tc.shl r s (m.take k)).shade r x2 by rw [M1.out, tc.shl_add]; rfl)
        clear M1
        go_wp2_with (go_at_call 32; (with_reducible refine SH.out.mono ?_); rintro e2 w2 ⟨rfl, hb⟩; have R2 := Lib.hid (Ba.after (v := .bool true) (e := .returned (.bool true)) HJ1.out HG1.out ⟨rfl, hb⟩); clear hb)
        go_roundw
        case rel =>
          obtain ⟨_, J5, p1, p2, p3⟩ := R2.out
          exact ⟨k + 1, J5, by omega, by go_num, p1, by rw [FIN.out]; exact p2, p3⟩
        case measure => first | (simp [intOf]; done) | (simp [intOf]; omega)
      · have t1 : (x1 == 2) = false := by simpa using hx
        have FIN := Lib.hid (show tc.shl r s (m.take (k + 1)) = tc.shl r s (m.take k) by rw [M1.out, tc.shl_add]; exact if_neg hx)
        clear hx M1
        go_wp2
        go_roundw
        case rel => exact ⟨k + 1, J1, by omega, by go_num, HJ1.out, by rw [FIN.out]; exact HB1.out, HG1.out⟩
        case measure => first | (simp [intOf]; done) | (simp [intOf]; omega)
    · obtain rfl : k = n := by omega
      go_wp2
      go_end0
      have := HB1.out
      rw [FU.out] at this
      exact ⟨rfl, J1, HJ1.out, this, HG1.out⟩
end
end Go.Proofs.YtacjleladjgkeaaGreatDoor.sh

/- The plain grey over the plain heap: entry, Unit. -/
namespace Go.Proofs.YtacjleladjgkeaaGreatDoor.sh
open Go.ChangeShapes Go.WideShapes Go.ChangeAt Go.RowKit gen li en gr
set_option linter.unusedVariables false
set_option maxHeartbeats 8000000
set_option maxRecDepth 100000
/-- The fields of an object by lists. -/
def fq (l : List ph.Ob3) (a : Int) : Option (List (Int × Int)) := (l.find? fun o => decide (o.1 = a)).map (·.2.2)
theorem fq_cases : ∀ (l : List ph.Ob3) (a : Int), (fq l a = none ∧ ph.Fnd l a (-1)) ∨ ∃ (i : Nat) (o : ph.Ob3), fq l a = some o.2.2 ∧ ph.Fnd l a i ∧ l[i]? = some o ∧ o.1 = a
  | [], a => .inl ⟨rfl, .inl ⟨rfl, fun j o h => by simp at h⟩⟩
  | x :: l, a => by
    by_cases hx : x.1 = a
    · exact .inr ⟨0, x, by simp [fq, hx], .inr ⟨0, rfl, ⟨x, rfl, hx⟩, fun j o h => absurd h (by omega)⟩, rfl, hx⟩
    · rcases fq_cases l a with ⟨h1, h2⟩ | ⟨i, o, h1, h2, h3, h4⟩
      · refine .inl ⟨by unfold fq at h1 ⊢; rw [List.find?_cons_of_neg (by simpa using hx)]; exact h1, .inl ⟨rfl, fun j o ho => ?_⟩⟩
        match j, ho with
        | 0, ho => simp at ho; subst ho; exact hx
        | j + 1, ho =>
          rcases h2 with ⟨_, h2⟩ | ⟨i, h2, _⟩
          · exact h2 j o (by simpa using ho)
          · omega
      · refine .inr ⟨i + 1, o, by unfold fq at h1 ⊢; rw [List.find?_cons_of_neg (by simpa using hx)]; exact h1, .inr ⟨i + 1, rfl, ⟨o, by simpa using h3, h4⟩, fun j o2 hj ho => ?_⟩, by simpa using h3, h4⟩
        match j, ho with
        | 0, ho => simp at ho; subst ho; exact hx
        | j + 1, ho =>
          rcases h2 with ⟨h2, _⟩ | ⟨i', h2, _, h5⟩
          · omega
          · obtain rfl : i = i' := by omega
            exact h5 j o2 (by omega) (by simpa using ho)
section
variable {pp : Int} {w w' W w1 : World} {M r B H : Nat} {J J' L K V : List Nat} {s s' : Ps} {v v' : Value} {e : Ending} {y : ph.Hq}
/-- The plain grey and the plain heap, apart. -/
structure Gp (w : World) (K : List Nat) (H : Nat) (y : ph.Hq) (J : List Nat) (M r : Nat) (s : Ps) (pp : Int) : Prop where
  pl : ph.Pl w K H y
  bk : Bk pp w J M r s
  ap : ∀ q, q ∈ J → q ∉ K
  few : ∀ o ∈ y.ob, o.2.2.length ≤ 127
theorem Gp.new (h : Gp w K H y J M r s pp) (hg : w.grownBy w' none) : Gp w' K H y J M r s pp := ⟨h.pl.new hg, h.bk.new hg, h.ap, h.few⟩
theorem Gp.grey {p' : Int} (h : Gp w K H y J M r s pp) (hJ : ∀ q, q ∈ J' → q ∈ J ∨ w.heap.size ≤ q) (hb : Bk p' w' J' M r s') (hg : Gr J w w') : Gp w' K H y J' M r s' p' :=
  ⟨h.pl.gr hg h.ap, hb, fun q hq hm => by
    rcases hJ q hq with e | e
    · exact h.ap q e hm
    · have := h.pl.lt q hm; omega, h.few⟩
theorem fields_no (h : ph.Pl w K H y) {a : Int} (hz : ph.Fnd y.ob a (-1)) : Calls Tryz.prog 30 #[.pointer (some ⟨H, 0, none⟩), .int .i64 a] w fun e w' => e = .returned (.tuple #[.slice none 0 0, .bool false]) ∧ w = w' := by
  obtain ⟨V, vk, vs, vo, os, h⟩ := h
  exact ph.rFields_no h hz
theorem fields_yes (h : ph.Pl w K H y) {a : Int} {i : Nat} {o : ph.Ob3} (hz : ph.Fnd y.ob a i) (hi : y.ob[i]? = some o) : Calls Tryz.prog 30 #[.pointer (some ⟨H, 0, none⟩), .int .i64 a] w (ph.FieldsAns K o.2.2 w) := by
  obtain ⟨V, vk, vs, vo, os, h⟩ := h
  exact ph.rFields_yes h hz hi
theorem fields_n (h : ph.Pl w K H y) {a : Int} {i n : Nat} {o : ph.Ob3} (hz : ph.Fnd y.ob a i) (hi : y.ob[i]? = some o) (hn : o.2.2.length = n) : Calls Tryz.prog 30 #[.pointer (some ⟨H, 0, none⟩), .int .i64 a] w fun e w' => ∃ A c, e = .returned (.tuple #[.slice A n c, .bool true]) ∧ w = w' ∧ va.Rv w w.heap.size A n c o.2.2 ∧ ∀ ad, A = some ad → 0 < n → ad.block ∈ K := by
  subst hn
  exact fields_yes h hz hi
theorem entry_no (h : Gp w K H y J M r s pp) (e1 e2 c : Int) (hn : (∃ i : Nat, ∃ o, ph.Fnd y.ob e1 i ∧ y.ob[i]? = some o ∧ (e2 < 0 ∨ (o.2.2.length : Int) ≤ e2)) ∨ ph.Fnd y.ob e1 (-1)) :
    Calls Tryz.prog 71 #[.pointer (some ⟨M, 0, none⟩), .pointer (some ⟨H, 0, none⟩), .agg #[.int .i64 e1, .int .i64 e2], .int .i64 c] w fun e w' => e = .returned (.tuple #[]) ∧ w.grownBy w' none := by
  have G0 := Lib.hid (World.grownBy_alloc w (.cells #[.int .i64 e1, .int .i64 e2] 115) none)
  obtain ⟨b0, b1, _⟩ := (Ep.made w e1 e2).f
  rcases hn with ⟨i, o, hz, hi, hr⟩ | hz
  · have hf := h.few o (List.mem_of_getElem? hi)
    obtain ⟨n, hn⟩ : ∃ n, o.2.2.length = n := ⟨_, rfl⟩
    rw [hn] at hr hf
    have FD := Lib.hid (fun W (hg : w.grownBy W none) => fields_n (h.pl.new hg) hz hi hn)
    clear h hz hi hn
    by_cases h2 : e2 < 0
    · have t1 : decide (e2 < 0) = true := decide_eq_true h2
      clear hr h2
      go_enter Tryz.func71, Tryz.ntmps71
      go_wp2_with (go_at_call 30; (with_reducible refine (FD.out _ G0.out).mono ?_); rintro e3 w3 ⟨A, c4, rfl, rfl, _⟩)
      refine bodyPost_ret (results_none rfl _ _ _) rfl ?_
      exact ⟨rfl, G0.out⟩
    · have t1 : decide (e2 < 0) = false := decide_eq_false h2
      have t2 : (n : Int) ≤ e2 := by omega
      have t3 : (n : Int) ≤ 127 := by omega
      clear hr h2
      go_enter Tryz.func71, Tryz.ntmps71
      go_wp2_with (go_at_call 30; (with_reducible refine (FD.out _ G0.out).mono ?_); rintro e3 w3 ⟨A, c4, rfl, rfl, _⟩)
      refine bodyPost_ret (results_none rfl _ _ _) rfl ?_
      exact ⟨rfl, G0.out⟩
  · have FD := Lib.hid (fun W (hg : w.grownBy W none) => fields_no (h.pl.new hg) hz)
    clear h hz
    go_enter Tryz.func71, Tryz.ntmps71
    go_wp2_with (go_at_call 30; (with_reducible refine (FD.out _ G0.out).mono ?_); rintro e3 w3 ⟨rfl, rfl⟩)
    refine bodyPost_ret (results_none rfl _ _ _) rfl ?_
    exact ⟨rfl, G0.out⟩
theorem entry_yes (h : Gp w K H y J M r s pp) {a : Int} {f c i n : Nat} {o : ph.Ob3} (hz : ph.Fnd y.ob a i) (hi : y.ob[i]? = some o) (hn : o.2.2.length = n) (hf : f < n) (hc : 1 ≤ c ∧ c ≤ 16) :
    Calls Tryz.prog 71 #[.pointer (some ⟨M, 0, none⟩), .pointer (some ⟨H, 0, none⟩), .agg #[.int .i64 a, .int .i64 f], .int .i64 c] w (Ba pp J M r (.tuple #[]) (tc.shl r (if f + c < n then s.push r (a, (f : Int) + c) else s) ((o.2.2.drop f).take c)) w) := by
  have G0 := Lib.hid (World.grownBy_alloc w (.cells #[.int .i64 a, .int .i64 f] 115) none)
  have EB := Lib.hid (fun W (hg : (w.alloc (.cells #[.int .i64 a, .int .i64 f] 115)).grownBy W none) => ((Ep.made w a f).new hg).f)
  obtain ⟨b0, b1, _⟩ := (Ep.made w a f).f
  have FD := Lib.hid (fun W (hg : w.grownBy W none) => fields_n (h.pl.new hg) hz hi hn)
  have fw := h.few o (List.mem_of_getElem? hi)
  have KL := Lib.hid h.pl.lt
  have AP := Lib.hid h.ap
  have HB := Lib.hid (fun W (hg : w.grownBy W none) => h.bk.new hg)
  have JL := Lib.hid h.bk.lt
  generalize o.2.2 = l at *
  rw [hn] at fw
  have f0 : (0 : Int) ≤ f := by omega
  have fn : (f : Int) < n := by omega
  have n8 : (n : Int) ≤ 127 := by omega
  have c0 : (1 : Int) ≤ c := by omega
  have c1 : (c : Int) ≤ 16 := by omega
  have t1 : decide ((f : Int) < 0) = false := by simp
  have t2 : ¬ ((n : Int) ≤ f) := by omega
  have LL := Lib.hid hn
  clear h hz hi hn
  by_cases hfc : f + c < n
  · rw [if_pos hfc]
    have t3 : (c : Int) < n - f := by omega
    have PU := Lib.hid (fun W (hg : w.grownBy W none) => rPush_any (HB.out W hg) a ((f : Int) + c))
    have SH := Lib.hid (fun W J1 (hb : Bk pp W J1 M r (s.push r (a, (f : Int) + c))) A2 c2 (hr : va.Rv W (w.alloc (.cells #[.int .i64 a, .int .i64 f] 115)).heap.size A2 c c2 ((l.drop f).take c)) h1 h2 => rshade_any hb hr h1 (by omega) h2)
    have t4 : (f : Int) ≤ (f : Int) + c := by omega
    have t5 : (f : Int) + c ≤ n := by omega
    go_enter Tryz.func71, Tryz.ntmps71
    go_wp2_with (first
      | (go_at_call 30; (with_reducible refine (FD.out _ G0.out).mono ?_); rintro e3 w3 ⟨A, c4, rfl, hw, hr, hk⟩; subst hw; obtain ⟨b, o2, rfl, hcut⟩ := rv_cut (f := f) (k := c) hr (by omega) (by omega); have BK := Lib.hid (hk _ rfl (by omega)); have CUT := Lib.hid hcut; have cc := hr.2.1; have cc2 := hr.2.2.1; unfold maxLen at cc2; have bK := KL.out _ (hk _ rfl (by omega)); clear hr hk hcut)
      | (go_at_call 68; (with_reducible refine (PU.out _ G0.out).mono ?_); rintro e4 w4 ⟨rfl, J4, h1, h2, h3⟩; have HJ4 := Lib.hid (show ∀ q, q ∈ J4 → q ∈ J ∨ w.heap.size ≤ q from fun q hq => (h1 q hq).imp id (fun e => Nat.le_trans G0.out.size e)); have B4 := Lib.hid h2; have G4 := Lib.hid h3; obtain ⟨d0, d1, _⟩ := (Ep.gr (Ep.made w a f) h3 (fun hm => by have := JL.out _ hm; omega)).f; have RV4 := Lib.hid (rv_gr CUT.out h3 (fun ad e _ => by injection e with e; subst e; exact fun hm => absurd BK.out (AP.out _ hm))); have NJ4 := Lib.hid (show b ∉ J4 from fun hm => (HJ4.out b hm).elim (fun hm => absurd BK.out (AP.out _ hm)) (fun e => by omega)); have SB4 := Lib.hid (show b < w4.heap.size from Nat.lt_of_lt_of_le bK (Nat.le_trans G0.out.size h3.size)); clear h1 h2 h3)
      | (go_at_call 73; (with_reducible refine (SH.out _ _ B4.out _ _ RV4.out (fun ad e _ => by injection e with e; subst e; exact NJ4.out) (fun ad e _ => by injection e with e; subst e; exact SB4.out)).mono ?_); rintro e5 w5 ⟨rfl, h5⟩; have R5 := Lib.hid h5; clear h5))
    go_end0
    exact Ba.after (fun q hq => (HJ4.out q hq)) ((Gr.new G0.out).trans G4.out) ⟨rfl, R5.out⟩
  · rw [if_neg hfc]
    have t3 : ¬ ((c : Int) < n - f) := by omega
    have TW := Lib.hid (show (l.drop f).take (n - f) = (l.drop f).take c by rw [List.take_of_length_le (by rw [List.length_drop]; have := LL.out; omega), List.take_of_length_le (by rw [List.length_drop]; have := LL.out; omega)])
    have SH := Lib.hid (fun W (hg : w.grownBy W none) A2 c2 (hr : va.Rv W (w.alloc (.cells #[.int .i64 a, .int .i64 f] 115)).heap.size A2 (n - f) c2 ((l.drop f).take (n - f))) h1 h2 => rshade_any (HB.out W hg) hr h1 (by omega) h2)
    rw [TW.out] at SH
    have e1 : ((n - f : Nat) : Int) = (n : Int) - f := by omega
    go_enter Tryz.func71, Tryz.ntmps71
    go_wp2_with (first
      | (go_at_call 30; (with_reducible refine (FD.out _ G0.out).mono ?_); rintro e3 w3 ⟨A, c4, rfl, hw, hr, hk⟩; subst hw; obtain ⟨b, o2, rfl, hcut⟩ := rv_cut (f := f) (k := n - f) hr (by omega) (by omega); rw [TW.out] at hcut; have BK := Lib.hid (hk _ rfl (by omega)); have CUT := Lib.hid hcut; have cc := hr.2.1; have cc2 := hr.2.2.1; unfold maxLen at cc2; have bK := KL.out _ (hk _ rfl (by omega)); clear hr hk hcut)
      | (go_at_call 73; (with_reducible refine (SH.out _ G0.out _ _ CUT.out (fun ad e _ => by injection e with e; subst e; exact fun hm => absurd BK.out (AP.out _ hm)) (fun ad e _ => by injection e with e; subst e; exact Nat.lt_of_lt_of_le bK G0.out.size)).mono ?_); rintro e5 w5 ⟨rfl, h5⟩; have R5 := Lib.hid h5; clear h5))
    go_end0
    exact Ba.after (fun q hq => .inl hq) (Gr.new G0.out) ⟨rfl, R5.out⟩
end
end Go.Proofs.YtacjleladjgkeaaGreatDoor.sh

/- The plain grey over the plain heap: Unit. -/
namespace Go.Proofs.YtacjleladjgkeaaGreatDoor.sh
open Go.ChangeShapes Go.WideShapes Go.ChangeAt Go.RowKit gen li en gr
set_option linter.unusedVariables false
set_option maxHeartbeats 8000000
set_option maxRecDepth 100000
section
variable {pp : Int} {w w' W w1 : World} {M r B H N c : Nat} {J J' L K V : List Nat} {s s' : Ps} {v v' : Value} {e : Ending} {y : ph.Hq}
theorem entry_any (h : Gp w K H y J M r s pp) (e1 e2 : Int) (hc : 1 ≤ c ∧ c ≤ 16) :
    Calls Tryz.prog 71 #[.pointer (some ⟨M, 0, none⟩), .pointer (some ⟨H, 0, none⟩), .agg #[.int .i64 e1, .int .i64 e2], .int .i64 c] w (Ba pp J M r (.tuple #[]) (tc.ent r c (fq y.ob) s (e1, e2)) w) := by
  rcases fq_cases y.ob e1 with ⟨h1, h2⟩ | ⟨i, o, h1, h2, h3, h4⟩
  · have E : tc.ent r c (fq y.ob) s (e1, e2) = s := by unfold tc.ent; dsimp only; rw [h1]
    rw [E]
    exact (entry_no h e1 e2 c (.inr h2)).mono fun e w' ⟨k1, k2⟩ => by subst k1; exact Ba.same h.bk k2
  · by_cases hr : 0 ≤ e2 ∧ e2 < o.2.2.length
    · obtain ⟨f, rfl⟩ : ∃ f : Nat, e2 = f := ⟨e2.toNat, by omega⟩
      have E : tc.ent r c (fq y.ob) s (e1, (f : Int)) = tc.shl r (if f + c < o.2.2.length then s.push r (e1, (f : Int) + c) else s) ((o.2.2.drop f).take c) := by
        unfold tc.ent
        dsimp only
        rw [h1]
        dsimp only
        rw [if_pos hr, Int.toNat_natCast]
        by_cases hh : f + c < o.2.2.length
        · rw [if_pos hh, if_pos (by omega)]
        · rw [if_neg hh, if_neg (by omega)]
      rw [E]
      exact entry_yes h h2 h3 rfl (by omega) hc
    · have E : tc.ent r c (fq y.ob) s (e1, e2) = s := by
        unfold tc.ent
        dsimp only
        rw [h1]
        dsimp only
        rw [if_neg hr]
      rw [E]
      exact (entry_no h e1 e2 c (.inl ⟨i, o, h2, h3, by omega⟩)).mono fun e w' ⟨k1, k2⟩ => by subst k1; exact Ba.same h.bk k2
/-- What a unit of the plain one leaves. -/
def Va2 (z : tc.Ts) (b : Bool) (J : List Nat) (M r : Nat) (w : World) (e : Ending) (w' : World) : Prop := Ba z.p J M r (.bool b) z.s w e w'
theorem rUnit_none (h : Gp w K H y J M r s pp) (hi : tc.Ts.idle ⟨s, pp⟩ = true) (N c : Int) :
    Calls Tryz.prog 36 #[.pointer (some ⟨M, 0, none⟩), .pointer (some ⟨H, 0, none⟩), .int .i64 N, .int .i64 c] w (Ba pp J M r (.bool false) s w) := by
  have ID := Lib.hid (rIdle_any h.bk)
  rw [hi] at ID
  have BK := Lib.hid h.bk
  clear h hi
  go_enter Tryz.func36, Tryz.ntmps36
  go_wp2_with (go_at_call 35; (with_reducible refine ID.out.mono ?_); rintro e w' ⟨rfl, rfl⟩)
  go_ret
  exact Ba.same BK.out (World.grownBy.refl _ _)
theorem rUnit_take (h : Gp w K H y J M r s pp) (hm : s.m ≠ []) (hc : 1 ≤ c ∧ c ≤ 16) (N : Int) :
    Calls Tryz.prog 36 #[.pointer (some ⟨M, 0, none⟩), .pointer (some ⟨H, 0, none⟩), .int .i64 N, .int .i64 c] w (Ba pp J M r (.bool true) (tc.ent r c (fq y.ob) s.pop (top s.m)) w) := by
  have ID := Lib.hid (rIdle_any h.bk)
  rw [show tc.Ts.idle ⟨s, pp⟩ = false by unfold tc.Ts.idle; simp [hm]] at ID
  have PO := Lib.hid (rPop_any h.bk)
  rw [decide_eq_true hm] at PO
  obtain ⟨⟨e1, e2⟩, he⟩ : ∃ e, top s.m = e := ⟨_, rfl⟩
  rw [he] at PO ⊢
  have EN := Lib.hid (fun W J1 (h1 : Gp W K H y J1 M r s.pop pp) => entry_any h1 e1 e2 hc)
  have HG := Lib.hid h
  clear h hm he hc
  go_enter Tryz.func36, Tryz.ntmps36
  go_wp2_with (first
    | (go_at_call 35; (with_reducible refine ID.out.mono ?_); rintro e w' ⟨rfl, rfl⟩)
    | (go_at_call 70; (with_reducible refine PO.out.mono ?_); rintro e w2 ⟨rfl, J2, h1, h2, h3⟩; have G2 := Lib.hid (World.grownBy_alloc w2 (.cells #[.int .i64 e1, .int .i64 e2] 115) none); have HJ2 := Lib.hid h1; have T2 := Lib.hid ((HG.out.grey h1 h2 h3).new G2.out); have R2 := Lib.hid ((show ce.Gr J w w2 from h3).made G2.out); obtain ⟨b0, b1, _⟩ := (Ep.made w2 e1 e2).f; clear h1 h2 h3)
    | (go_at_call 71; (with_reducible refine (EN.out _ _ T2.out).mono ?_); rintro e5 w5 ⟨rfl, h5⟩; have R5 := Lib.hid h5; clear h5))
  go_ret
  exact Ba.after (fun q hq => HJ2.out q hq) R2.out ⟨rfl, R5.out⟩
end
end Go.Proofs.YtacjleladjgkeaaGreatDoor.sh
