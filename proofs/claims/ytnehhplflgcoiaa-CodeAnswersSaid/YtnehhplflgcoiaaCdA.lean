/- Layer 24, plain: a number's octets, the number of octets; which fields a step's kind has, and why a step may not be. -/
import Derived.Test.YtnehhplflgcoiaaYbA
import Derived.Lib.Hide
import Derived.IntWalk
namespace Go.Proofs.Ytnehhplflgcoiaa.cd
open Go.ChangeShapes Go.WideShapes Go.ChangeAt Go.RowKit gen yb
set_option linter.unusedVariables false

/-- The octet of a number. -/
def b8 (n : Int) : UInt8 := UInt8.ofNat (n % 256).toNat
theorem b8_nat (n : Int) : ((b8 n).toNat : Int) = n % 256 := by
  unfold b8
  rw [UInt8.toNat_ofNat']
  omega
theorem b8_eq {n m : Int} (h : n % 256 = m % 256) : b8 n = b8 m := by unfold b8; rw [h]
theorem b8_back (b : UInt8) : b8 (b.toNat : Int) = b := by
  have h := b.toNat_lt
  apply UInt8.toNat_inj.1
  have := b8_nat (b.toNat : Int)
  omega
/-- The last k octets of a number, the highest first. -/
def be (n : Int) : Nat → List UInt8
  | 0 => []
  | k + 1 => b8 (n / 256 ^ k) :: be n k
theorem be_length (n : Int) : ∀ k, (be n k).length = k
  | 0 => rfl
  | k + 1 => by simp [be, be_length n k]
theorem pow_pos' (k : Nat) : (0 : Int) < 256 ^ k := Int.pow_pos (by decide)
theorem be_add (n j : Int) : ∀ k i, be (n + 256 ^ (k + i) * j) k = be n k := by
  intro k
  induction k with
  | zero => intro i; rfl
  | succ k ih =>
    intro i
    have e : n + 256 ^ (k + 1 + i) * j = n + 256 ^ k * (256 * (256 ^ i * j)) := by
      rw [show k + 1 + i = k + (1 + i) by omega, Int.pow_add, Int.pow_add]
      simp [Int.mul_assoc]
    unfold be
    congr 1
    · apply b8_eq
      rw [e, Int.add_mul_ediv_left _ _ (by have := pow_pos' k; omega)]
      omega
    · rw [show k + 1 + i = k + (i + 1) by omega]
      exact ih (i + 1)
theorem be_wrap (n : Int) : be (IntKind.i64.wrap n) 8 = be n 8 := by
  obtain ⟨j, hj⟩ : ∃ j : Int, IntKind.i64.wrap n = n + 256 ^ (8 + 0) * j := by
    rw [IntKind.wrap_i64]
    refine ⟨-((n + 9223372036854775808) / 18446744073709551616), ?_⟩
    rw [show (256 : Int) ^ (8 + 0) = 18446744073709551616 by decide]
    omega
  rw [hj]
  exact be_add n j 8 0
/-- The number of octets, the highest first. -/
def val (m : List UInt8) : Nat := m.foldl (fun a b => 256 * a + b.toNat) 0
theorem val_snoc (m : List UInt8) (b : UInt8) : val (m ++ [b]) = 256 * val m + b.toNat := by simp [val]
theorem val_from (m : List UInt8) : ∀ a : Nat, m.foldl (fun a b => 256 * a + b.toNat) a = 256 ^ m.length * a + val m := by
  induction m with
  | nil => intro a; simp [val]
  | cons x m ih =>
    intro a
    simp only [val, List.foldl_cons, List.length_cons]
    rw [ih, ih (256 * 0 + x.toNat), Nat.pow_succ, Nat.mul_add, Nat.mul_assoc, Nat.mul_zero, Nat.zero_add]
    omega
theorem val_cons (x : UInt8) (m : List UInt8) : val (x :: m) = 256 ^ m.length * x.toNat + val m := by
  have := val_from m (256 * 0 + x.toNat)
  simp only [val, List.foldl_cons]
  rw [this]
  simp [val]
theorem val_lt (m : List UInt8) : val m < 256 ^ m.length := by
  induction m with
  | nil => simp [val]
  | cons x m ih =>
    rw [val_cons, List.length_cons, Nat.pow_succ]
    have h := x.toNat_lt
    have : 256 ^ m.length * x.toNat ≤ 256 ^ m.length * 255 := Nat.mul_le_mul_left _ (by omega)
    omega
theorem emod_two (n a : Int) (ha : 0 < a) : n % (a * 256) = a * (n / a % 256) + n % a := by
  have h1 := Int.mul_ediv_add_emod n a
  have h2 := Int.mul_ediv_add_emod (n / a) 256
  have h3 := Int.mul_ediv_add_emod n (a * 256)
  rw [← Int.ediv_ediv_of_nonneg (by omega : 0 ≤ a)] at h3
  have h4 : a * (n / a) = a * (256 * (n / a / 256)) + a * (n / a % 256) := by rw [← Int.mul_add, h2]
  rw [Int.mul_assoc] at h3
  omega
theorem val_be (n : Int) : ∀ k, (val (be n k) : Int) = n % 256 ^ k
  | 0 => by simp [be, val]
  | k + 1 => by
    unfold be
    rw [val_cons, be_length, Int.pow_succ, emod_two n _ (pow_pos' k)]
    have h := val_be n k
    have h2 := b8_nat (n / 256 ^ k)
    rw [Int.natCast_add, Int.natCast_mul, h2, h]
    simp
theorem be_val (m : List UInt8) : be (val m : Int) m.length = m := by
  induction m with
  | nil => rfl
  | cons x m ih =>
    rw [List.length_cons]
    unfold be
    have h := val_lt m
    have hx := x.toNat_lt
    have e : ((val (x :: m) : Nat) : Int) = (val m : Int) + 256 ^ (m.length + 0) * (x.toNat : Int) := by
      rw [val_cons, Int.natCast_add, Int.natCast_mul]
      simp
      omega
    congr 1
    · rw [e, Nat.add_zero, Int.add_mul_ediv_left _ _ (by have := pow_pos' m.length; omega)]
      have hp : ((256 ^ m.length : Nat) : Int) = 256 ^ m.length := by simp
      have h2 : (val m : Int) / 256 ^ m.length = 0 := Int.ediv_eq_zero_of_lt (by omega) (by omega)
      rw [h2, Int.zero_add]
      exact b8_back x
    · rw [e, be_add]
      exact ih
theorem val_be_small (n : Int) (k : Nat) (h0 : 0 ≤ n) (h1 : n < 256 ^ k) : (val (be n k) : Int) = n := by
  rw [val_be, Int.emod_eq_of_lt h0 h1]
theorem wrap_val_be (n : Int) (h0 : -9223372036854775808 ≤ n) (h1 : n ≤ 9223372036854775807) : IntKind.i64.wrap (val (be n 8) : Int) = n := by
  rw [val_be, IntKind.wrap_i64, show (256 : Int) ^ 8 = 18446744073709551616 by decide]
  omega
theorem wrap_val_lt (m : List UInt8) (h : m.length ≤ 2) : IntKind.i64.wrap (val m : Int) = (val m : Int) := by
  have h1 := val_lt m
  have h2 : 256 ^ m.length ≤ 256 ^ 2 := Nat.pow_le_pow_right (by omega) h
  rw [IntKind.wrap_i64]
  omega
/-- Which fields a kind has: Kind, T, I, F, J, Cost, N. -/
def hs (k : Int) : List Bool :=
  if k = 3 ∨ k = 15 then [true, true, false, false, false, true, true]
  else if k = 4 ∨ k = 13 then [true, true, false, false, false, false, true]
  else if k = 7 ∨ k = 12 then [true, true, true, false, false, false, false]
  else if k = 9 then [true, true, true, true, false, false, false]
  else if k = 10 then [true, true, true, true, true, false, false]
  else if k = 11 then [true, true, true, false, true, false, false]
  else if k = 16 then [true, false, false, false, false, false, true]
  else if k = 17 then [true, false, false, false, false, false, false]
  else [true, true, false, false, false, false, false]
theorem hs_length (k : Int) : (hs k).length = 7 := by unfold hs; repeat' split <;> try rfl
theorem hs_zero (k : Int) : (hs k).getD 0 false = true := by unfold hs; repeat' split <;> try rfl
/-- A number that is not one octet's. -/
def out (l : List Int) (j : Nat) : Bool := decide (l.getD j 0 < 0) || decide (255 < l.getD j 0)
def odd (l : List Int) (k : Int) (j : Nat) : Bool := (l.getD j 0 != 0) && !((hs k).getD j false)
/-- Why a step may not be. -/
def chk (k : Int) (l : List Int) (n : Int) : Int :=
  if k < 1 ∨ 17 < k then 12 else if (List.range 6).any (out l) = true then 4 else if (List.range 6).any (odd l k) = true ∨ (n ≠ 0 ∧ (hs k).getD 6 false = false) then 16 else 0
section
variable {k n : Int} {l : List Int}
theorem chk_12 (h : k < 1 ∨ 17 < k) : chk k l n = 12 := if_pos h
theorem any_6 {p : Nat → Bool} {j : Nat} (hj : j < 6) (h : p j = true) : (List.range 6).any p = true := List.any_eq_true.2 ⟨j, List.mem_range.2 hj, h⟩
theorem none_6 {p : Nat → Bool} (h : ∀ j, j < 6 → p j = false) : ¬ (List.range 6).any p = true := fun e => by
  obtain ⟨j, hj, h1⟩ := List.any_eq_true.1 e
  rw [h j (List.mem_range.1 hj)] at h1
  cases h1
theorem chk_4 (h1 : 1 ≤ k) (h2 : k ≤ 17) {j : Nat} (hj : j < 6) (h : out l j = true) : chk k l n = 4 := by
  unfold chk
  rw [if_neg (by omega), if_pos (any_6 hj h)]
theorem chk_16 (h1 : 1 ≤ k) (h2 : k ≤ 17) (h : ∀ j, j < 6 → out l j = false) {j : Nat} (hj : j < 6) (ho : odd l k j = true) : chk k l n = 16 := by
  unfold chk
  rw [if_neg (by omega), if_neg (none_6 h), if_pos (.inl (any_6 hj ho))]
theorem chk_16n (h1 : 1 ≤ k) (h2 : k ≤ 17) (h : ∀ j, j < 6 → out l j = false) (hn : n ≠ 0) (ho : (hs k).getD 6 false = false) : chk k l n = 16 := by
  unfold chk
  rw [if_neg (by omega), if_neg (none_6 h), if_pos (.inr ⟨hn, ho⟩)]
theorem chk_0 (h1 : 1 ≤ k) (h2 : k ≤ 17) (h : ∀ j, j < 6 → out l j = false) (ho : ∀ j, j < 6 → odd l k j = false) (hn : n = 0 ∨ (hs k).getD 6 false = true) : chk k l n = 0 := by
  unfold chk
  rw [if_neg (by omega), if_neg (none_6 h), if_neg (fun e => ?_)]
  rcases e with e | ⟨e1, e2⟩
  · exact none_6 ho e
  · rcases hn with h | h
    · exact e1 h
    · rw [h] at e2; cases e2
theorem chk_fine (h : chk k l n = 0) : 1 ≤ k ∧ k ≤ 17 ∧ ∀ j, j < 6 → 0 ≤ l.getD j 0 ∧ l.getD j 0 ≤ 255 := by
  unfold chk at h
  split at h
  · omega
  · split at h
    · omega
    · rename_i h1 h2
      refine ⟨by omega, by omega, fun j hj => ?_⟩
      have h3 : out l j = false := by
        cases e : out l j with
        | false => rfl
        | true => exact absurd (any_6 hj e) h2
      unfold out at h3
      generalize l.getD j 0 = x at h3 ⊢
      simp at h3
      omega
theorem chk_i64 : -100 ≤ chk k l n ∧ chk k l n ≤ 100 := by
  unfold chk
  repeat' split <;> try omega
end
end Go.Proofs.Ytnehhplflgcoiaa.cd
