/- What each function of layer 7 (geo) does when it is called: pages, how far in, ends, bases, cells and their addresses. -/
import Derived.Test.YtfhmhlofjoahlaaGreatDoorCsQ
import Derived.OwnWalk
namespace Go.Proofs.YtfhmhlofjoahlaaGreatDoor.geos
open Go.ChangeShapes Go.WideShapes Go.ChangeAt Go.RowKit calls cls
set_option linter.unusedVariables false

/-- The page that address a is in. -/
def pgOf (a : Int) : Int := if a < 0 ∨ 2047 < a then -1 else a / 32
/-- How far it stands from that page's first address. -/
def ofOf (a : Int) : Int := if a < 0 ∨ 2047 < a then -1 else a % 32
/-- Whether n pages are all there, from p on. -/
def enk (p n : Int) : Bool := decide (0 ≤ p) && decide (1 ≤ n) && decide (p + n ≤ 64)
def enf (p n : Int) : Int := if enk p n = true then p * 32 else 0
def enl (p n : Int) : Int := if enk p n = true then p * 32 + n * 32 - 1 else 0
/-- Where the cell begins that a is in. -/
def bsOf (k a : Int) : Int := if sz k = 0 ∨ a < 0 ∨ 2047 < a then -1 else a - a % sz k
/-- Whether a cell begins at a, and which. -/
def cek (k a : Int) : Bool := !(sz k == 0) && decide (0 ≤ a) && decide (a ≤ 2047) && (a % sz k == 0)
def cei (k a : Int) : Int := if cek k a = true then a % 32 / sz k else 0
/-- Whether there is a cell i of page p, and its address. -/
def atk (p k i : Int) : Bool := decide (0 ≤ p) && decide (p ≤ 63) && decide (0 ≤ i) && decide (i < cl k)
def ata (p k i : Int) : Int := if atk p k i = true then p * 32 + i * sz k else 0

theorem pgOf_yes {a : Int} (h0 : 0 ≤ a) (h1 : a ≤ 2047) : pgOf a = a / 32 := by unfold pgOf; rw [if_neg (by omega)]
theorem pgOf_no {a : Int} (h : a < 0 ∨ 2047 < a) : pgOf a = -1 := by unfold pgOf; rw [if_pos h]
theorem ofOf_yes {a : Int} (h0 : 0 ≤ a) (h1 : a ≤ 2047) : ofOf a = a % 32 := by unfold ofOf; rw [if_neg (by omega)]
theorem ofOf_no {a : Int} (h : a < 0 ∨ 2047 < a) : ofOf a = -1 := by unfold ofOf; rw [if_pos h]
theorem enk_iff {p n : Int} : enk p n = true ↔ (0 ≤ p ∧ 1 ≤ n ∧ p + n ≤ 64) := by simp [enk, and_assoc]
theorem enk_no {p n : Int} (h : ¬ (0 ≤ p ∧ 1 ≤ n ∧ p + n ≤ 64)) : enk p n = false := by rw [← Bool.not_eq_true, enk_iff]; exact h
theorem bsOf_yes {k a : Int} (hk : sz k ≠ 0) (h0 : 0 ≤ a) (h1 : a ≤ 2047) : bsOf k a = a - a % sz k := by unfold bsOf; rw [if_neg (by omega)]
theorem bsOf_no {k a : Int} (h : sz k = 0 ∨ a < 0 ∨ 2047 < a) : bsOf k a = -1 := by unfold bsOf; rw [if_pos h]
theorem cek_iff {k a : Int} : cek k a = true ↔ (sz k ≠ 0 ∧ 0 ≤ a ∧ a ≤ 2047 ∧ a % sz k = 0) := by simp [cek, and_assoc]
theorem cek_no {k a : Int} (h : ¬ (sz k ≠ 0 ∧ 0 ≤ a ∧ a ≤ 2047 ∧ a % sz k = 0)) : cek k a = false := by rw [← Bool.not_eq_true, cek_iff]; exact h
theorem atk_iff {p k i : Int} : atk p k i = true ↔ (0 ≤ p ∧ p ≤ 63 ∧ 0 ≤ i ∧ i < cl k) := by simp [atk, and_assoc]
theorem atk_no {p k i : Int} (h : ¬ (0 ≤ p ∧ p ≤ 63 ∧ 0 ≤ i ∧ i < cl k)) : atk p k i = false := by rw [← Bool.not_eq_true, atk_iff]; exact h
theorem small {k : Int} (h : 1 ≤ k) (h2 : k ≤ 4) : k = 1 ∨ k = 2 ∨ k = 3 ∨ k = 4 := by omega
theorem cl_small {k i : Int} (h0 : 0 ≤ i) (h : i < cl k) : k = 1 ∨ k = 2 ∨ k = 3 ∨ k = 4 := by
  by_cases c : k < 1 ∨ 4 < k
  · rw [cl_no c] at h; omega
  · omega
theorem sz_small {k : Int} (h : sz k ≠ 0) : k = 1 ∨ k = 2 ∨ k = 3 ∨ k = 4 := by
  by_cases c : k < 1 ∨ 4 < k
  · exact absurd (sz_no c) h
  · omega

theorem there_any (a : Int) (w : World) :
    Calls Tryz.prog 67 #[.int .i64 a] w fun e w' => e = .returned (.bool (decide (0 ≤ a) && decide (a ≤ 2047))) ∧ w = w' := by
  by_cases h0 : 0 ≤ a
  · by_cases h1 : a ≤ 2047
    · have e : (decide (0 ≤ a) && decide (a ≤ 2047)) = true := by simp; omega
      rw [e]
      have d : decide (a < 2048) = true := by simp; omega
      clear e
      go_enter Tryz.func67, Tryz.ntmps67
      go_wp2
      go_ret
      exact ⟨by simp, rfl⟩
    · have e : (decide (0 ≤ a) && decide (a ≤ 2047)) = false := by simp; omega
      rw [e]
      have d : decide (a < 2048) = false := by simp; omega
      clear e
      go_enter Tryz.func67, Tryz.ntmps67
      go_wp2
      go_ret
      exact ⟨by simp, rfl⟩
  · have e : (decide (0 ≤ a) && decide (a ≤ 2047)) = false := by simp; omega
    rw [e]
    clear e
    go_enter Tryz.func67, Tryz.ntmps67
    go_wp2
    go_ret
    exact ⟨rfl, rfl⟩
theorem there_yes {a : Int} (h0 : 0 ≤ a) (h1 : a ≤ 2047) : (decide (0 ≤ a) && decide (a ≤ 2047)) = true := by simp; omega
theorem there_no {a : Int} (h : a < 0 ∨ 2047 < a) : (decide (0 ≤ a) && decide (a ≤ 2047)) = false := by simp; omega

theorem page_any (a : Int) (w : World) :
    Calls Tryz.prog 35 #[.int .i64 a] w fun e w' => e = .returned (.int .i64 (pgOf a)) ∧ w = w' := by
  by_cases h : a < 0 ∨ 2047 < a
  · rw [pgOf_no h]
    have t := there_no h
    clear h
    go_enter Tryz.func35, Tryz.ntmps35
    go_wp2_with (go_at_call 67; (with_reducible refine (there_any _ _).mono ?_); rintro e w' ⟨rfl, rfl⟩; rw [t])
    go_ret
    exact ⟨rfl, rfl⟩
  · have h0 : 0 ≤ a := by omega
    have h1 : a ≤ 2047 := by omega
    rw [pgOf_yes h0 h1]
    have t := there_yes h0 h1
    clear h
    go_enter Tryz.func35, Tryz.ntmps35
    go_wp2_with (go_at_call 67; (with_reducible refine (there_any _ _).mono ?_); rintro e w' ⟨rfl, rfl⟩; rw [t])
    go_ret
    exact ⟨rfl, rfl⟩

theorem off_any (a : Int) (w : World) :
    Calls Tryz.prog 87 #[.int .i64 a] w fun e w' => e = .returned (.int .i64 (ofOf a)) ∧ w = w' := by
  by_cases h : a < 0 ∨ 2047 < a
  · rw [ofOf_no h]
    have t := there_no h
    clear h
    go_enter Tryz.func87, Tryz.ntmps87
    go_wp2_with (go_at_call 67; (with_reducible refine (there_any _ _).mono ?_); rintro e w' ⟨rfl, rfl⟩; rw [t])
    go_ret
    exact ⟨rfl, rfl⟩
  · have h0 : 0 ≤ a := by omega
    have h1 : a ≤ 2047 := by omega
    rw [ofOf_yes h0 h1]
    have t := there_yes h0 h1
    clear h
    go_enter Tryz.func87, Tryz.ntmps87
    go_wp2_with (go_at_call 67; (with_reducible refine (there_any _ _).mono ?_); rintro e w' ⟨rfl, rfl⟩; rw [t])
    go_ret
    exact ⟨rfl, rfl⟩

theorem ret3 {a b c d : Int} {x : Bool} (h : a = c) (h2 : b = d) : Ending.returned (.tuple #[.int .i64 a, .int .i64 b, .bool x]) = .returned (.tuple #[.int .i64 c, .int .i64 d, .bool x]) := by rw [h, h2]
theorem ends_any (p n : Int) (w : World) (hp : fits p = true) (hn : fits n = true) :
    Calls Tryz.prog 93 #[.int .i64 p, .int .i64 n] w fun e w' => e = .returned (.tuple #[.int .i64 (enf p n), .int .i64 (enl p n), .bool (enk p n)]) ∧ w = w' := by
  obtain ⟨p1, p2⟩ := fits_iff.mp hp
  obtain ⟨n1, n2⟩ := fits_iff.mp hn
  clear hp hn
  by_cases h : 0 ≤ p ∧ 1 ≤ n ∧ p + n ≤ 64
  · have k := enk_iff.mpr h
    obtain ⟨h0, h1, h2⟩ := h
    unfold enf enl
    rw [k, if_pos rfl, if_pos rfl]
    clear k p1 p2 n1 n2
    go_enter Tryz.func93, Tryz.ntmps93
    go_wp2
    go_ret3
    exact ⟨rfl, rfl⟩
  · have k := enk_no h
    unfold enf enl
    rw [k, if_neg (by simp), if_neg (by simp)]
    clear k
    by_cases h0 : n < 1
    · go_enter Tryz.func93, Tryz.ntmps93
      go_wp2
      go_ret3
      exact ⟨rfl, rfl⟩
    by_cases h1 : p < 0
    · go_enter Tryz.func93, Tryz.ntmps93
      go_wp2
      go_ret3
      exact ⟨rfl, rfl⟩
    have h2 : 64 - n < p := by omega
    clear h
    go_enter Tryz.func93, Tryz.ntmps93
    go_wp2
    go_ret3
    exact ⟨rfl, rfl⟩

theorem base_any (k a : Int) (w : World) (hk : fits k = true) :
    Calls Tryz.prog 86 #[.int .i64 k, .int .i64 a] w fun e w' => e = .returned (.int .i64 (bsOf k a)) ∧ w = w' := by
  have K := Lib.hid hk
  by_cases hz : sz k = 0
  · rw [bsOf_no (.inl hz)]
    clear hk
    go_enter Tryz.func86, Tryz.ntmps86
    go_wp2_with (go_at_call 47; (with_reducible refine (size_any _ _ K.out).mono ?_); rintro e w' ⟨rfl, rfl⟩; rw [hz])
    go_ret
    exact ⟨rfl, rfl⟩
  by_cases h : a < 0 ∨ 2047 < a
  · rw [bsOf_no (.inr h)]
    have t := there_no h
    have d : (sz k == 0) = false := by simpa using hz
    clear hk h
    go_enter Tryz.func86, Tryz.ntmps86
    go_wp2_with (first
      | (go_at_call 47; (with_reducible refine (size_any _ _ K.out).mono ?_); rintro e w' ⟨rfl, rfl⟩)
      | (go_at_call 67; (with_reducible refine (there_any _ _).mono ?_); rintro e w' ⟨rfl, rfl⟩; rw [t]))
    go_ret
    exact ⟨rfl, rfl⟩
  have h0 : 0 ≤ a := by omega
  have h1 : a ≤ 2047 := by omega
  have t := there_yes h0 h1
  have o := ofOf_yes h0 h1
  have b := bsOf_yes hz h0 h1
  rw [b]
  clear b hk h
  rcases sz_small hz with rfl | rfl | rfl | rfl
  all_goals
    clear hz
    go_enter Tryz.func86, Tryz.ntmps86
    go_wp2_with (first
      | (go_at_call 47; (with_reducible refine (size_any _ _ K.out).mono ?_); rintro e w' ⟨rfl, rfl⟩; simp only [sz])
      | (go_at_call 67; (with_reducible refine (there_any _ _).mono ?_); rintro e w' ⟨rfl, rfl⟩; rw [t])
      | (go_at_call 87; (with_reducible refine (off_any _ _).mono ?_); rintro e w' ⟨rfl, rfl⟩; rw [o]))
    go_ret
    exact ⟨ret1 (by simp [sz]), rfl⟩

theorem cell_any (k a : Int) (w : World) (hk : fits k = true) :
    Calls Tryz.prog 57 #[.int .i64 k, .int .i64 a] w fun e w' => e = .returned (.tuple #[.int .i64 (cei k a), .bool (cek k a)]) ∧ w = w' := by
  have K := Lib.hid hk
  by_cases h : a < 0 ∨ 2047 < a
  · have c : cek k a = false := cek_no (by omega)
    unfold cei
    rw [c, if_neg (by simp)]
    have t := there_no h
    clear hk h c
    go_enter Tryz.func57, Tryz.ntmps57
    go_wp2_with (go_at_call 67; (with_reducible refine (there_any _ _).mono ?_); rintro e w' ⟨rfl, rfl⟩; rw [t])
    go_ret2
    exact ⟨rfl, rfl⟩
  have h0 : 0 ≤ a := by omega
  have h1 : a ≤ 2047 := by omega
  have t := there_yes h0 h1
  have o := ofOf_yes h0 h1
  by_cases hz : sz k = 0
  · have c : cek k a = false := cek_no (by omega)
    unfold cei
    rw [c, if_neg (by simp)]
    have b := bsOf_no (a := a) (.inl hz)
    clear hk h c hz
    go_enter Tryz.func57, Tryz.ntmps57
    go_wp2_with (first
      | (go_at_call 67; (with_reducible refine (there_any _ _).mono ?_); rintro e w' ⟨rfl, rfl⟩; rw [t])
      | (go_at_call 86; (with_reducible refine (base_any _ _ _ K.out).mono ?_); rintro e w' ⟨rfl, rfl⟩; rw [b]))
    go_ret2
    exact ⟨rfl, rfl⟩
  have b := bsOf_yes hz h0 h1
  by_cases m : a % sz k = 0
  · have c : cek k a = true := cek_iff.mpr ⟨hz, h0, h1, m⟩
    unfold cei
    rw [c, if_pos rfl]
    rw [m, Int.sub_zero] at b
    clear hk h c m
    rcases sz_small hz with rfl | rfl | rfl | rfl
    all_goals
      clear hz
      go_enter Tryz.func57, Tryz.ntmps57
      go_wp2_with (first
        | (go_at_call 47; (with_reducible refine (size_any _ _ K.out).mono ?_); rintro e w' ⟨rfl, rfl⟩; simp only [sz])
        | (go_at_call 67; (with_reducible refine (there_any _ _).mono ?_); rintro e w' ⟨rfl, rfl⟩; rw [t])
        | (go_at_call 86; (with_reducible refine (base_any _ _ _ K.out).mono ?_); rintro e w' ⟨rfl, rfl⟩; rw [b])
        | (go_at_call 87; (with_reducible refine (off_any _ _).mono ?_); rintro e w' ⟨rfl, rfl⟩; rw [o]))
      go_ret2
      exact ⟨rfl, rfl⟩
  · have c : cek k a = false := cek_no (by omega)
    unfold cei
    rw [c, if_neg (by simp)]
    generalize a % sz k = r at b m
    have d : (a - r != a) = true := by simp; omega
    clear hk h c hz m
    go_enter Tryz.func57, Tryz.ntmps57
    go_wp2_with (first
      | (go_at_call 67; (with_reducible refine (there_any _ _).mono ?_); rintro e w' ⟨rfl, rfl⟩; rw [t])
      | (go_at_call 86; (with_reducible refine (base_any _ _ _ K.out).mono ?_); rintro e w' ⟨rfl, rfl⟩; rw [b]))
    go_ret2
    exact ⟨rfl, rfl⟩

theorem at_any (p k i : Int) (w : World) (hp : fits p = true) (hk : fits k = true) :
    Calls Tryz.prog 74 #[.int .i64 p, .int .i64 k, .int .i64 i] w fun e w' => e = .returned (.tuple #[.int .i64 (ata p k i), .bool (atk p k i)]) ∧ w = w' := by
  have K := Lib.hid hk
  have P := Lib.hid hp
  have C := cl_wide k
  clear hk hp
  by_cases h0 : i < 0
  · have c : atk p k i = false := atk_no (by omega)
    unfold ata
    rw [c, if_neg (by simp)]
    clear c C
    go_enter Tryz.func74, Tryz.ntmps74
    go_wp2
    go_ret2
    exact ⟨rfl, rfl⟩
  by_cases h1 : cl k ≤ i
  · have c : atk p k i = false := atk_no (by omega)
    unfold ata
    rw [c, if_neg (by simp)]
    clear c
    go_enter Tryz.func74, Tryz.ntmps74
    go_wp2_with (go_at_call 48; (with_reducible refine (cells_any _ _ K.out).mono ?_); rintro e w' ⟨rfl, rfl⟩)
    go_ret2
    exact ⟨rfl, rfl⟩
  have f1 : fits 1 = true := by simp [fits]
  by_cases h2 : 0 ≤ p ∧ p ≤ 63
  · have c : atk p k i = true := atk_iff.mpr (by omega)
    unfold ata
    rw [c, if_pos rfl]
    have q : enk p 1 = true := enk_iff.mpr (by omega)
    have q1 : enf p 1 = p * 32 := by unfold enf; rw [if_pos q]
    have q2 : enl p 1 = p * 32 + 1 * 32 - 1 := by unfold enl; rw [if_pos q]
    obtain ⟨h2, h3⟩ := h2
    have sm := cl_small (i := i) (k := k) (by omega) (by omega)
    clear c f1
    rcases sm with rfl | rfl | rfl | rfl
    all_goals
      simp only [cl] at h1 C
      go_enter Tryz.func74, Tryz.ntmps74
      go_wp2_with (first
        | (go_at_call 48; (with_reducible refine (cells_any _ _ K.out).mono ?_); rintro e w' ⟨rfl, rfl⟩; simp only [cl])
        | (go_at_call 93; (with_reducible refine (ends_any _ _ _ P.out (by simp [fits])).mono ?_); rintro e w' ⟨rfl, rfl⟩; rw [q, q1, q2])
        | (go_at_call 47; (with_reducible refine (size_any _ _ K.out).mono ?_); rintro e w' ⟨rfl, rfl⟩; simp only [sz]))
      go_ret2
      exact ⟨rfl, rfl⟩
  · have c : atk p k i = false := atk_no (by omega)
    unfold ata
    rw [c, if_neg (by simp)]
    have q : enk p 1 = false := enk_no (by omega)
    have q1 : enf p 1 = 0 := by unfold enf; rw [if_neg (by simp [q])]
    have q2 : enl p 1 = 0 := by unfold enl; rw [if_neg (by simp [q])]
    have d : decide (cl k ≤ i) = false := by simp; omega
    clear c h2
    go_enter Tryz.func74, Tryz.ntmps74
    go_wp2_with (first
      | (go_at_call 48; (with_reducible refine (cells_any _ _ K.out).mono ?_); rintro e w' ⟨rfl, rfl⟩)
      | (go_at_call 93; (with_reducible refine (ends_any _ _ _ P.out f1).mono ?_); rintro e w' ⟨rfl, rfl⟩; rw [q, q1, q2]))
    go_ret2
    exact ⟨rfl, rfl⟩
end Go.Proofs.YtfhmhlofjoahlaaGreatDoor.geos
