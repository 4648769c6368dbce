/- Joined: TgI, TgJ, TgL. -/
import Derived.Test.YtfloleflcoiidaaGreatDoorTgX
import Derived.Test.YtfloleflcoiidaaGreatDoorPhX
import Derived.Deep.DeepCutAuto
/- The plain grey over the plain heap: its page, Idle, shade, entry. -/
namespace Go.Proofs.YtfloleflcoiidaaGreatDoor.sh
open Go.ChangeShapes Go.WideShapes Go.ChangeAt Go.RowKit gen li en gr
set_option linter.unusedVariables false
set_option maxHeartbeats 8000000
set_option maxRecDepth 100000
section
variable {pp : Int} {w w' W w1 : World} {M r B : Nat} {J J' L K V : List Nat} {s s' : Ps} {v v' : Value} {e : Ending}
theorem Bo.c3 (h : Bo pp w M r v s) : w.cell? ⟨M, 2051, none⟩ = some (.int .i64 pp) := by rw [cell_of_row w M 2051 _ _ _ h.ob]; exact rcs_end 3
theorem Bo.put_page (h : Bo pp w M r v s) (p' : Int) : Bo p' (w.setCell ⟨M, 2051, none⟩ (.int .i64 p')) M r v s ∧ Gr (js M v) w (w.setCell ⟨M, 2051, none⟩ (.int .i64 p')) := by
  have G := grown_set w M 2051 (.int .i64 p')
  refine ⟨⟨?_, h.li.kept G (.inr h.off), h.hi, h.fit, h.fi⟩, Gr.one G (js_of.2 (.inl rfl))⟩
  rw [heap_setCell_same w M 2051 _ _ (.int .i64 p') h.ob]
  have := rcs_set (pp := pp) (ws := s.ws) (v := v) (r := r) (b := s.b) 3 (.int .i64 p')
  rw [this]
  rfl
theorem Ba.after {p' : Int} (hJ : ∀ q, q ∈ J' → q ∈ J ∨ w.heap.size ≤ q) (hg : Gr J w w1) (h : Ba p' J' M r v s w1 e w') : Ba p' J M r v s w e w' := by
  obtain ⟨h1, J2, h2, h3, h4⟩ := h
  exact ⟨h1, J2, fun q hq => (h2 q hq).elim (hJ q) (fun e => .inr (Nat.le_trans hg.size e)), h3, hg.own h4 hJ⟩
theorem Ba.same (h : Bk pp w J M r s) (hg : w.grownBy w' none) : Ba pp J M r v s w (.returned v) w' := ⟨rfl, J, fun q hq => .inl hq, h.new hg, Gr.new hg⟩
/-- A list that is read stays where nothing of it is written. -/
theorem rv_gr {B' n c : Nat} {A : Option Addr} {m : List (Int × Int)} (h : va.Rv w B' A n c m) (hg : Gr L w w') (hL : ∀ ad, A = some ad → 0 < n → ad.block ∉ L) : va.Rv w' B' A n c m := by
  refine ⟨h.1, h.2.1, h.2.2.1, fun i hi => ?_⟩
  obtain ⟨b, off, e, hb, h1, h2⟩ := h.2.2.2 i hi
  have := hL _ e (by omega)
  exact ⟨b, off, e, hb, hg.cell h1 this, hg.cell h2 this⟩
/-- A part of it. -/
theorem rv_cut {B' n c f k : Nat} {A : Option Addr} {m : List (Int × Int)} (h : va.Rv w B' A n c m) (hk : f + k ≤ n) (h0 : 0 < k) : ∃ b o, A = some ⟨b, o, none⟩ ∧ va.Rv w B' (some ⟨b, o + f * 2, none⟩) k (c - f) ((m.drop f).take k) := by
  obtain ⟨b, o, e, _, _⟩ := h.at_ (i := f) (by omega)
  subst e
  have hl := h.1
  have hc := h.2.1
  have hc2 := h.2.2.1
  refine ⟨b, o, rfl, by rw [List.length_take, List.length_drop]; omega, by omega, by omega, fun i hi => ?_⟩
  obtain ⟨b', off, e, hb, h1, h2⟩ := h.2.2.2 (f + i) (by omega)
  injection e with e
  injection e with e1 e2
  subst e1 e2
  have eg : ((m.drop f).take k).getD i (0, 0) = m.getD (f + i) (0, 0) := by simp [List.getD_eq_getElem?_getD, hi]
  rw [eg]
  exact ⟨b, o + f * 2, rfl, hb, by rw [show o + f * 2 + i * 2 = o + (f + i) * 2 by omega]; exact h1, by rw [show o + f * 2 + i * 2 + 1 = o + (f + i) * 2 + 1 by omega]; exact h2⟩
end
end Go.Proofs.YtfloleflcoiidaaGreatDoor.sh

/- The plain grey over the plain heap: entry, Unit. -/
namespace Go.Proofs.YtfloleflcoiidaaGreatDoor.sh
open Go.ChangeShapes Go.WideShapes Go.ChangeAt Go.RowKit gen li en gr
set_option linter.unusedVariables false
set_option maxHeartbeats 8000000
set_option maxRecDepth 100000
/-- The fields of an object by lists. -/
def fq (l : List ph.Ob3) (a : Int) : Option (List (Int × Int)) := (l.find? fun o => decide (o.1 = a)).map (·.2.2)
theorem fq_cases : ∀ (l : List ph.Ob3) (a : Int), (fq l a = none ∧ ph.Fnd l a (-1)) ∨ ∃ (i : Nat) (o : ph.Ob3), fq l a = some o.2.2 ∧ ph.Fnd l a i ∧ l[i]? = some o ∧ o.1 = a
  | [], a => .inl ⟨rfl, .inl ⟨rfl, fun j o h => by simp at h⟩⟩
  | x :: l, a => by
    by_cases hx : x.1 = a
    · exact .inr ⟨0, x, by simp [fq, hx], .inr ⟨0, rfl, ⟨x, rfl, hx⟩, fun j o h => absurd h (by omega)⟩, rfl, hx⟩
    · rcases fq_cases l a with ⟨h1, h2⟩ | ⟨i, o, h1, h2, h3, h4⟩
      · refine .inl ⟨by unfold fq at h1 ⊢; rw [List.find?_cons_of_neg (by simpa using hx)]; exact h1, .inl ⟨rfl, fun j o ho => ?_⟩⟩
        match j, ho with
        | 0, ho => simp at ho; subst ho; exact hx
        | j + 1, ho =>
          rcases h2 with ⟨_, h2⟩ | ⟨i, h2, _⟩
          · exact h2 j o (by simpa using ho)
          · omega
      · refine .inr ⟨i + 1, o, by unfold fq at h1 ⊢; rw [List.find?_cons_of_neg (by simpa using hx)]; exact h1, .inr ⟨i + 1, rfl, ⟨o, by simpa using h3, h4⟩, fun j o2 hj ho => ?_⟩, by simpa using h3, h4⟩
        match j, ho with
        | 0, ho => simp at ho; subst ho; exact hx
        | j + 1, ho =>
          rcases h2 with ⟨h2, _⟩ | ⟨i', h2, _, h5⟩
          · omega
          · obtain rfl : i = i' := by omega
            exact h5 j o2 (by omega) (by simpa using ho)
section
variable {pp : Int} {w w' W w1 : World} {M r B H : Nat} {J J' L K V : List Nat} {s s' : Ps} {v v' : Value} {e : Ending} {y : ph.Hq}
/-- The plain grey and the plain heap, apart. -/
structure Gp (w : World) (K : List Nat) (H : Nat) (y : ph.Hq) (J : List Nat) (M r : Nat) (s : Ps) (pp : Int) : Prop where
  pl : ph.Pl w K H y
  bk : Bk pp w J M r s
  ap : ∀ q, q ∈ J → q ∉ K
  few : ∀ o ∈ y.ob, o.2.2.length ≤ 127
theorem Gp.new (h : Gp w K H y J M r s pp) (hg : w.grownBy w' none) : Gp w' K H y J M r s pp := ⟨h.pl.new hg, h.bk.new hg, h.ap, h.few⟩
theorem Gp.grey {p' : Int} (h : Gp w K H y J M r s pp) (hJ : ∀ q, q ∈ J' → q ∈ J ∨ w.heap.size ≤ q) (hb : Bk p' w' J' M r s') (hg : Gr J w w') : Gp w' K H y J' M r s' p' :=
  ⟨h.pl.gr hg h.ap, hb, fun q hq hm => by
    rcases hJ q hq with e | e
    · exact h.ap q e hm
    · have := h.pl.lt q hm; omega, h.few⟩
end
end Go.Proofs.YtfloleflcoiidaaGreatDoor.sh

/- The plain grey over the plain heap: Unit that looks at a page. (Printed by genTgL.py.) -/
namespace Go.Proofs.YtfloleflcoiidaaGreatDoor.sh
open Go.ChangeShapes Go.WideShapes Go.ChangeAt Go.RowKit gen li en gr
set_option linter.unusedVariables false
set_option maxHeartbeats 16000000
set_option maxRecDepth 100000
section
variable {pp : Int} {w w' W w1 : World} {M r B H N c : Nat} {J J' L K V : List Nat} {s s' : Ps} {v v' : Value} {e : Ending} {y : ph.Hq}
/-- The plain heap's objects: where they lie, no address twice. -/
structure Yi (y : ph.Hq) : Prop where
  at_ : ∀ o ∈ y.ob, 0 ≤ o.1 ∧ o.1 ≤ 2047
  few : y.ob.length ≤ 2048
theorem inq_ob {l : List ph.Ob3} {p a : Int} (h : a ∈ ph.inq l p) : ∃ o ∈ l, o.1 = a := by
  unfold ph.inq at h
  rw [List.mem_map] at h
  obtain ⟨o, h1, h2⟩ := h
  exact ⟨o, (List.mem_filter.1 h1).1, h2⟩
theorem fq_some {l : List ph.Ob3} {a : Int} (h : ∃ o ∈ l, o.1 = a) : ∃ (i : Nat) (o : ph.Ob3), fq l a = some o.2.2 ∧ ph.Fnd l a i ∧ l[i]? = some o ∧ o.1 = a := by
  rcases fq_cases l a with ⟨_, h2⟩ | h2
  · rcases h2 with ⟨_, h2⟩ | ⟨i, h2, _⟩
    · obtain ⟨o, ho, e⟩ := h
      obtain ⟨j, hj, e2⟩ := List.mem_iff_getElem.1 ho
      exact absurd e (h2 j o (by rw [List.getElem?_eq_getElem hj, e2]))
    · omega
  · exact h2
theorem isb_nat (ws : List Nat) {a : Nat} (h : a < 2048) : isb ws a = bm.bit ws a := by
  unfold isb
  rw [decide_eq_true (by omega), decide_eq_true (by omega), Int.toNat_natCast]
  rfl
theorem lokq_yes {F : Int → Option (List (Int × Int))} {a : Int} {l : List (Int × Int)} (h1 : isb s.ws a = true) (h2 : F a = some l) : tc.lok r F s a = tc.shl r s l := by unfold tc.lok; rw [if_pos h1, h2]; rfl
theorem lokq_no {F : Int → Option (List (Int × Int))} {a : Int} (h1 : isb s.ws a = false) : tc.lok r F s a = s := by unfold tc.lok; rw [if_neg (by rw [h1]; decide)]
theorem rIn_pl (h : ph.Pl w K H y) (Y : Yi y) (p : Int) : Calls Tryz.prog 101 #[.pointer (some ⟨H, 0, none⟩), .int .i64 p] w (li.ListAns (ph.inq y.ob p) w) := by
  obtain ⟨V, vk, vs, vo, os, h⟩ := h
  exact ph.rIn_any h Y.at_ Y.few p
theorem rIn_n (h : ph.Pl w K H y) (Y : Yi y) {p : Int} {n : Nat} (hn : (ph.inq y.ob p).length = n) : Calls Tryz.prog 101 #[.pointer (some ⟨H, 0, none⟩), .int .i64 p] w fun e w' => ∃ A c, e = .returned (.slice A n c) ∧ w'.ownsRow w.heap.size 3 1 (.slice A n c) n (li.ints (ph.inq y.ob p)) ∧ w.grownBy w' none := by
  subst hn
  exact rIn_pl h Y p
theorem Bk.cells (h : Bk pp w J M r s) : w.cell? ⟨M, 2051, none⟩ = some (.int .i64 pp) ∧ (∀ k, w.frozen? ⟨M, k, none⟩ = false) ∧ M < w.heap.size ∧ (∀ i : Nat, i < 2048 → w.cell? ⟨M, i, none⟩ = some (.bool (bm.bit s.ws i))) ∧ w.cell? ⟨M, 2050, none⟩ = some (.bool s.b) := by
  obtain ⟨v, h, _⟩ := h
  exact ⟨h.c3, h.free, h.lt, fun i hi => h.mark hi, h.c2⟩
theorem Bk.page (h : Bk pp w J M r s) (p' : Int) : Bk p' (w.setCell ⟨M, 2051, none⟩ (.int .i64 p')) J M r s ∧ Gr J w (w.setCell ⟨M, 2051, none⟩ (.int .i64 p')) := by
  obtain ⟨v, h, rfl⟩ := h
  obtain ⟨h1, h2⟩ := h.put_page p'
  exact ⟨⟨v, h1, rfl⟩, h2⟩
theorem Bk.over (h : Bk pp w J M r s) (b : Bool) : Bk pp (w.setCell ⟨M, 2050, none⟩ (.bool b)) J M r ⟨s.ws, s.m, b⟩ ∧ Gr J w (w.setCell ⟨M, 2050, none⟩ (.bool b)) := by
  obtain ⟨v, h, rfl⟩ := h
  obtain ⟨h1, h2⟩ := h.put_over b
  exact ⟨⟨v, h1, rfl⟩, h2⟩
theorem Gp.bk' {p' : Int} (h : Gp w K H y J M r s pp) (hb : Bk p' w' J M r s') (hg : Gr J w w') : Gp w' K H y J M r s' p' := h.grey (fun q hq => .inl hq) hb hg
end
end Go.Proofs.YtfloleflcoiidaaGreatDoor.sh
