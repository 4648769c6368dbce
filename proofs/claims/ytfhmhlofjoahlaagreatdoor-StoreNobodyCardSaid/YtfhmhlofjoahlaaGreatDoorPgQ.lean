/- Joined: PgE, PgF, PgG. -/
import Derived.Test.YtfhmhlofjoahlaaGreatDoorPgD
import Derived.Test.YtfhmhlofjoahlaaGreatDoorGenC
/- What layer 9's Take and Span do. -/
namespace Go.Proofs.YtfhmhlofjoahlaaGreatDoor.pg
open Go.ChangeShapes Go.WideShapes Go.ChangeAt Go.RowKit gen calls cls li
set_option linter.unusedVariables false

theorem lowest_some {g r : Nat} {xs : List Int} {w : World} (h : Tab w g r xs) {n : Int} (hn : 1 ≤ n) {p : Nat} (hf : find n 0 xs = some p) :
    Calls Tryz.prog 121 #[.pointer (some ⟨g, 0, none⟩), .int .i64 n] w fun e w' => e = .returned (.tuple #[.int .i64 p, .bool true]) ∧ Tab w' g r xs ∧ w.grownBy w' none := by
  have := lowest_any h n hn
  rw [hf] at this
  exact this.mono fun e w' ⟨h1, h2⟩ => ⟨h1, h.kept h2 (by simp) (by simp), h2⟩
theorem lowest_none {g r : Nat} {xs : List Int} {w : World} (h : Tab w g r xs) {n : Int} (hn : 1 ≤ n) (hf : find n 0 xs = none) :
    Calls Tryz.prog 121 #[.pointer (some ⟨g, 0, none⟩), .int .i64 n] w fun e w' => e = .returned (.tuple #[.int .i64 0, .bool false]) ∧ w.grownBy w' none := by
  have := lowest_any h n hn
  rw [hf] at this
  exact this
theorem Take_small_no {q : Option Addr} (k : Int) (w : World) (hk : fits k = true) (h : ¬ (1 ≤ k ∧ k ≤ 4)) :
    Calls Tryz.prog 104 #[.pointer q, .int .i64 k] w fun e w' => e = .returned (.tuple #[.int .i64 0, .bool false]) ∧ w = w' := by
  have HS := Lib.hid (fun w => small_no w hk h)
  clear hk h
  go_enter Tryz.func104, Tryz.ntmps104
  go_wp2_with (go_at_call 107; (with_reducible refine (HS.out _).mono ?_); rintro e w' ⟨rfl, rfl⟩)
  go_ret2
  exact ⟨rfl, rfl⟩
theorem Take_none {q : Option Addr} {k : Int} {w : World} (h : 1 ≤ k ∧ k ≤ 4) (hl : Calls Tryz.prog 121 #[.pointer q, .int .i64 1] w fun e w' => e = .returned (.tuple #[.int .i64 0, .bool false]) ∧ w.grownBy w' none) :
    Calls Tryz.prog 104 #[.pointer q, .int .i64 k] w fun e w' => e = .returned (.tuple #[.int .i64 0, .bool false]) ∧ w.grownBy w' none := by
  have HS := Lib.hid (fun w => small_yes w h)
  have HL := Lib.hid hl
  clear h hl
  go_enter Tryz.func104, Tryz.ntmps104
  go_wp2_with (first
    | (go_at_call 107; (with_reducible refine (HS.out _).mono ?_); rintro e w' ⟨rfl, rfl⟩)
    | (go_at_call 121; (with_reducible refine HL.out.mono ?_); rintro e w' ⟨rfl, hg⟩; have HG := Lib.hid hg; clear hg))
  go_ret2
  exact ⟨rfl, HG.out⟩
theorem Take_some {g r : Nat} {xs : List Int} {k : Int} {w : World} (h : Tab w g r xs) (hk : 1 ≤ k ∧ k ≤ 4) {p : Nat} (hf : find 1 0 xs = some p) :
    Calls Tryz.prog 104 #[.pointer (some ⟨g, 0, none⟩), .int .i64 k] w fun e w' => e = .returned (.tuple #[.int .i64 p, .bool true]) ∧ Tab w' g r (xs.set p k) ∧ w.grownBy w' (some r) := by
  have HS := Lib.hid (fun w => small_yes w hk)
  have HL := Lib.hid (lowest_some h (n := 1) (by omega) hf)
  have hp := (find_at (n := 1) (by omega) hf).1
  have hl := h.le
  have hp' := Lib.hid hp
  clear h hk hf
  go_enter Tryz.func104, Tryz.ntmps104
  go_wp2_with (first
    | (go_at_call 107; (with_reducible refine (HS.out _).mono ?_); rintro e w' ⟨rfl, rfl⟩)
    | (go_at_call 121; (with_reducible refine HL.out.mono ?_); rintro e w1 ⟨rfl, ht, hg⟩; have HT := Lib.hid ht; have HG := Lib.hid hg; clear hg; obtain ⟨c, hc1, hc2, f⟩ := ht.field; have d := ht.word hp; have fr := ht.free p; clear ht; generalize hn : xs.length = n at *))
  go_ret2
  have := HT.out.set (by rw [hn]; exact hp) k
  exact ⟨rfl, this.1, li.grown_then HG.out this.2⟩

theorem Span_below {q : Option Addr} {n : Int} (w : World) (h : n < 1) :
    Calls Tryz.prog 102 #[.pointer q, .int .i64 n] w fun e w' => e = .returned (.tuple #[.int .i64 0, .bool false]) ∧ w = w' := by
  go_enter Tryz.func102, Tryz.ntmps102
  go_wp2
  go_ret2
  exact ⟨rfl, rfl⟩
theorem Span_none {q : Option Addr} {n : Int} {w : World} (h : 1 ≤ n) (hl : Calls Tryz.prog 121 #[.pointer q, .int .i64 n] w fun e w' => e = .returned (.tuple #[.int .i64 0, .bool false]) ∧ w.grownBy w' none) :
    Calls Tryz.prog 102 #[.pointer q, .int .i64 n] w fun e w' => e = .returned (.tuple #[.int .i64 0, .bool false]) ∧ w.grownBy w' none := by
  have HL := Lib.hid hl
  clear hl
  go_enter Tryz.func102, Tryz.ntmps102
  go_wp2_with (go_at_call 121; (with_reducible refine HL.out.mono ?_); rintro e w' ⟨rfl, hg⟩; have HG := Lib.hid hg; clear hg)
  go_ret2
  exact ⟨rfl, HG.out⟩
theorem Span_some {g r : Nat} {xs : List Int} {n : Nat} {w : World} (h : Tab w g r xs) (hn : 1 ≤ n) {p : Nat} (hf : find n 0 xs = some p) :
    Calls Tryz.prog 102 #[.pointer (some ⟨g, 0, none⟩), .int .i64 n] w fun e w' => e = .returned (.tuple #[.int .i64 p, .bool true]) ∧ Tab w' g r (spanN xs p n) ∧ w.grownBy w' (some r) := by
  have HL := Lib.hid (lowest_some h (by omega) hf)
  obtain ⟨hp, _, _, hpn⟩ := find_at (n := n) (by omega) hf
  have hl := h.le
  have HP := Lib.hid (show p + n ≤ xs.length by omega)
  have HPL := Lib.hid hp
  have l1 : (1 : Int) ≤ n := by omega
  have l2 : p + n ≤ 64 := by omega
  clear h hf hpn
  go_enter Tryz.func102, Tryz.ntmps102
  go_wp2_with (first
    | (go_at_call 121; (with_reducible refine HL.out.mono ?_); rintro e w1 ⟨rfl, ht, hg⟩; have HT := Lib.hid ht; have HG := Lib.hid hg; clear hg; obtain ⟨c, hc1, hc2, f⟩ := ht.field; have d := ht.word hp; have fr := ht.free p; clear ht; generalize hm : xs.length = m at *))
  go_loopw [8] (fun i wr => ∃ k : Nat, k + 1 ≤ n ∧ i = .int .i64 ((k + 1 : Nat) : Int) ∧ Tab wr g r (fillN (xs.set p 5) (p + 1) 6 k) ∧ w1.grownBy wr (some r)) (fun i _ => n - (intOf i).toNat)
  case atStart =>
    have := HT.out.set (by rw [hm]; exact hp) 5
    exact ⟨0, by omega, rfl, this.1, this.2⟩
  case round =>
    obtain ⟨k, hk, rfl, ht, hg⟩ := hrel
    have HT2 := Lib.hid ht
    have HG2 := Lib.hid hg
    have hlen : (fillN (xs.set p 5) (p + 1) 6 k).length = m := by rw [fillN_length, List.length_set, hm]
    by_cases hlt : k + 1 < n
    · obtain ⟨c2, hc3, hc4, f2⟩ := ht.field
      have d2 := ht.word (k := p + (k + 1)) (by rw [hlen]; have := HP.out; omega)
      have fr2 := ht.free (p + (k + 1))
      have l3 : p + (k + 1) < m := by have := HP.out; omega
      rw [hlen] at f2 hc3
      have E := Lib.hid hlen
      generalize (fillN (xs.set p 5) (p + 1) 6 k).getD (p + (k + 1)) 0 = y at d2
      clear ht hg hlen f d fr
      go_wp2
      go_roundw
      case rel =>
        have := HT2.out.set (k := p + (k + 1)) (by rw [E.out]; exact l3) 6
        refine ⟨k + 1, by omega, by go_num, ?_, HG2.out.trans this.2⟩
        rw [fillN, show p + 1 + k = p + (k + 1) by omega]
        exact this.1
      case measure => simp [intOf]; omega
    · obtain rfl : n = k + 1 := by omega
      clear ht hg hlen f d fr
      go_wp2
      go_ret2
      exact ⟨rfl, HT2.out, li.grown_then HG.out HG2.out⟩
end Go.Proofs.YtfhmhlofjoahlaaGreatDoor.pg

/- What the plain answers on lists of kinds (scutageref09) do when they are called. -/
namespace Go.Proofs.YtfhmhlofjoahlaaGreatDoor.pg
open Go.ChangeShapes Go.WideShapes Go.ChangeAt Go.RowKit gen calls cls li
set_option linter.unusedVariables false

theorem Rd.grown {w w' : World} {A : Option Addr} {n c B : Nat} {xs : List Int} (h : Rd w B A n c xs) (hg : w.grownBy w' none) (hB : B ≤ w.heap.size) : Rd w' B A n c xs := h.below ((grown_below hg).mono hB)
/-- Where so many are free; -1: nowhere. -/
def fnd (xs : List Int) (n : Int) : Int := if n < 1 then -1 else match find n 0 xs with
  | none => -1
  | some p => p
theorem fnd_none {xs : List Int} {n : Int} (hn : 1 ≤ n) (h : find n 0 xs = none) : fnd xs n = -1 := by unfold fnd; rw [if_neg (by omega), h]
theorem fnd_some {xs : List Int} {n : Int} (hn : 1 ≤ n) {p : Nat} (h : find n 0 xs = some p) : fnd xs n = p := by unfold fnd; rw [if_neg (by omega), h]
end Go.Proofs.YtfhmhlofjoahlaaGreatDoor.pg

/- What the plain answers that make lists (Set, Span, New) do, and the law's few. -/
namespace Go.Proofs.YtfhmhlofjoahlaaGreatDoor.pg
open Go.ChangeShapes Go.WideShapes Go.ChangeAt Go.RowKit gen calls cls li
set_option linter.unusedVariables false

end Go.Proofs.YtfhmhlofjoahlaaGreatDoor.pg
