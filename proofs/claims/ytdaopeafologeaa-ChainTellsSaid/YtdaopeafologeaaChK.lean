/- What ChainTells holds against each other: the answers of All and walk, as one. -/
import Derived.Test.YtdaopeafologeaaChH
namespace Go.Proofs.Ytdaopeafologeaa.ch
open Go.ChangeShapes Go.WideShapes Go.ChangeAt Go.RowKit gen calls cls geos mm
set_option linter.unusedVariables false

/-- A list and whether it is told. -/
def ToldAns (b : Bool) (l : List Int) (w : World) (e : Ending) (w' : World) : Prop := (∃ A c, e = .returned (.tuple #[.slice A l.length c, .bool b]) ∧ Rd w' w'.heap.size A l.length c l) ∧ w.grownBy w' none
theorem told_none {w w' : World} {e : Ending} (he : e = none2) (hg : w.grownBy w' none) : ToldAns false [] w e w' :=
  ⟨⟨none, 0, he, rfl, fun _ => ⟨rfl, rfl⟩, fun _ e => by cases e⟩, hg⟩
theorem AllAns.told {xs : List Int} {p k f : Int} {n : Nat} {w w' : World} {e : Ending} (h : AllAns xs p k f n w e w') : (Whole xs p k f n → ToldAns true (outs xs p k f n) w e w') ∧ (¬ Whole xs p k f n → ToldAns false [] w e w') := by
  obtain ⟨⟨hw, A, c, rfl, ho⟩ | ⟨hw, he⟩, hg⟩ := h
  · refine ⟨fun _ => ⟨⟨A, c, ?_, ?_⟩, hg⟩, fun h => absurd hw h⟩
    · rw [outs_length]
    · rw [outs_length]; exact li.rd_own ho
  · exact ⟨fun h => absurd h hw, fun _ => told_none he hg⟩
theorem walk_neg {w : World} {A : Option Addr} {m c : Nat} (p k f n : Int) (hk : fits k = true) (hn : n < 0) :
    Calls Try.prog 23 #[.slice A m c, .int .i64 p, .int .i64 k, .agg #[.int .i64 f, .int .i64 n]] w fun e w' => e = none2 ∧ w.grownBy w' none := by
  have HK := Lib.hid hk
  have G0 := Lib.hid (World.grownBy_alloc w (.cells #[.int .i64 f, .int .i64 n] 28) none)
  have C0 := Lib.hid (Box.new w f n rfl)
  clear hk
  go_enter Try.func23, Try.ntmps23
  go_wp2_with (first
    | (go_at_call 11; (with_reducible refine (rCells_g _ _ HK.out).mono ?_); rintro e w1 ⟨rfl, hg1⟩; have G1 := Lib.hid (G0.out.trans hg1); obtain ⟨x0, x1, x2, x3⟩ := (C0.out.kept hg1 (by simp)).two; clear hg1))
  go_loopw [11, 12, 13] (fun v t i wr => v = .slice none 0 0 ∧ i = .int .i64 0 ∧ t = .int .i64 f ∧ wr = w1) (fun _ _ i _ => 0)
  case atStart => exact ⟨rfl, rfl, rfl, rfl⟩
  case round =>
    obtain ⟨rfl, rfl, rfl, rfl⟩ := hrel
    go_wp2
    go_ret2
    exact ⟨rfl, G1.out⟩
/-- All and walk tell the same. -/
theorem tell_all {xs : List Int} (P : Nat) (k f n : Int) (hb : Bd xs) (hk : fits k = true) (hn : fits n = true) (hf : fits f = true) (hx : xs.length ≤ 64) (hy : thk xs.length P k = true) :
    ∃ (B : Bool) (l : List Int), l.length ≤ 16 ∧
      (∀ (g r : Nat) (w : World), MemAt w g r xs → Calls Try.prog 14 #[.pointer (some ⟨g, 0, none⟩), .int .i64 P, .int .i64 k, .agg #[.int .i64 f, .int .i64 n]] w (ToldAns B l w)) ∧
      (∀ (A : Option Addr) (m c : Nat) (w : World), Rd w w.heap.size A m c xs → Calls Try.prog 23 #[.slice A m c, .int .i64 P, .int .i64 k, .agg #[.int .i64 f, .int .i64 n]] w (ToldAns B l w)) := by
  obtain ⟨p0, p1, k0, k1, hl⟩ := thk_iff.mp hy
  have hp : fits (P : Int) = true := fits_iff.mpr (by omega)
  by_cases h0 : n < 0
  · refine ⟨false, [], by simp, fun g r w h => ?_, fun A m c w h => ?_⟩
    · exact (All_not P k f n h hp hk (.inr h0)).mono fun e w' ⟨he, hg⟩ => told_none he hg
    · exact (walk_neg P k f n hk h0).mono fun e w' ⟨he, hg⟩ => told_none he hg
  · obtain ⟨n, rfl⟩ : ∃ q : Nat, n = q := ⟨n.toNat, by omega⟩
    by_cases hw : Whole xs P k f n
    · refine ⟨true, outs xs P k f n, by rw [outs_length]; exact hw.1.few, fun g r w h => ?_, fun A m c w h => ?_⟩
      · exact (All_any P k f n h hb hp hk hn hy).mono fun e w' h => h.told.1 hw
      · exact (walk_any P k f n h hb (by have := h.1; omega) (by have := h.1; omega) hk hn hf).mono fun e w' h => h.told.1 hw
    · refine ⟨false, [], by simp, fun g r w h => ?_, fun A m c w h => ?_⟩
      · exact (All_any P k f n h hb hp hk hn hy).mono fun e w' h => h.told.2 hw
      · exact (walk_any P k f n h hb (by have := h.1; omega) (by have := h.1; omega) hk hn hf).mono fun e w' h => h.told.2 hw
theorem link_z {w : World} {A : Option Addr} {n c : Nat} {xs : List Int} (p : Nat) (k i : Int) (h : Rd w w.heap.size A n c xs) (hb : Bd xs) (hn : n ≤ 64) (hp : p * 32 + 32 ≤ n) (h0 : 0 ≤ i) (hi : i < cl k) :
    Calls Try.prog 24 #[.slice A n c, .int .i64 p, .int .i64 k, .int .i64 i] w fun e w' => e = .returned (.int .i64 (lk xs p k i)) ∧ w.grownBy w' none := by
  obtain ⟨a, rfl⟩ : ∃ a : Nat, i = a := ⟨i.toNat, by omega⟩
  exact link_any p k a h hb hn hp hi
theorem move_all (xs : List Int) : moveN (List.replicate xs.length 0) xs 0 0 xs.length = xs := by
  refine ext_getD (by rw [moveN_length]; simp) (fun i hi => ?_)
  rw [moveN_length, List.length_replicate] at hi
  rw [moveN_getD _ _ _ _ _ (by simp)]
  rw [if_pos (by omega)]
  congr 1
  omega
theorem Bd.take {xs : List Int} (h : Bd xs) (n : Nat) : Bd (xs.take n) := fun i => by
  rw [List.getD_eq_getElem?_getD, List.getElem?_take]
  split
  · rw [← List.getD_eq_getElem?_getD]; exact h i
  · simp
/-- Behind the cut of a long list. -/
def Told (w : World) (f n : Int) (v : Value) (wx : World) : Prop := ∃ A m c ys, v = .slice A m c ∧ m ≤ 64 ∧ Rd wx wx.heap.size A m c ys ∧ Bd ys ∧ w.grownBy wx none ∧ Box wx w.heap.size f n
theorem rd_head {w : World} {B n c c' k : Nat} {ad : Addr} {xs : List Int} (h : Rd w B (some ad) n c xs) (hk : k ≤ n) : Rd w B (some ad) k c' (xs.take k) := by
  refine ⟨by rw [List.length_take, h.1]; omega, fun e => (by cases e), fun a e i hi => ?_⟩
  have := h.2.2 a e i (by omega)
  rw [show (xs.take k).getD i 0 = xs.getD i 0 by simp [List.getD_eq_getElem?_getD, hi]]
  exact this
/-- What Take answers, as one. -/
theorem take_uni {xs : List Int} (p k f n : Int) (hb : Bd xs) (hp : fits p = true) (hk : fits k = true) (hn : fits n = true) :
    ∃ (a b c : Int), (∀ (g r : Nat) (w : World), MemAt w g r xs → Calls Try.prog 16 #[.pointer (some ⟨g, 0, none⟩), .int .i64 p, .int .i64 k, .agg #[.int .i64 f, .int .i64 n]] w fun e w' => e = ansT a b c (tk xs p k f n) ∧ w.grownBy w' none) ∧ (tk xs p k f n = true → a = f ∧ b = lk xs p k f ∧ c = n - 1) := by
  cases ht : tk xs p k f n with
  | true => exact ⟨f, lk xs p k f, n - 1, fun g r w h => Take_yes h hb p k f n hp hk hn ht, fun _ => ⟨rfl, rfl, rfl⟩⟩
  | false => exact ⟨0, 0, 0, fun g r w h => Take_no p k f n h hb hp hk hn ht, fun h => by cases h⟩
end Go.Proofs.Ytdaopeafologeaa.ch
