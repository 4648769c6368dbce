/- Numbers alone: a set's words, its bits and its numbers; counting a word's bits as the library does; lists that rise. -/
import Derived.Lib.TrailingZeros
import Derived.Below
namespace Go.Proofs.YtokjpibaaioehaaDoor.bm
open Go

/-! ### Counting bits -/
/-- How many of the k lowest bits are set. -/
def pop : Nat → Nat → Nat
  | 0, _ => 0
  | k + 1, x => x % 2 + pop k (x / 2)
theorem pop_le (k x : Nat) : pop k x ≤ k := by
  induction k generalizing x with
  | zero => exact Nat.le_refl _
  | succ k ih => have := ih (x / 2); simp only [pop]; omega
theorem pop_add (j k x : Nat) : pop (j + k) x = pop j x + pop k (x / 2 ^ j) := by
  induction j generalizing x with
  | zero => simp [pop]
  | succ j ih =>
    rw [Nat.add_right_comm]
    simp only [pop]
    rw [ih, Nat.div_div_eq_div_mul, Nat.pow_succ, Nat.mul_comm 2]
    omega
theorem pop_mod (k x : Nat) : pop k (x % 2 ^ k) = pop k x := by
  induction k generalizing x with
  | zero => rfl
  | succ k ih =>
    simp only [pop]
    have h1 : x % 2 ^ (k + 1) % 2 = x % 2 := by rw [Nat.pow_succ, Nat.mul_comm]; exact Nat.mod_mul_right_mod _ _ _
    have h2 : x % 2 ^ (k + 1) / 2 = x / 2 % 2 ^ k := by rw [Nat.pow_succ, Nat.mul_comm]; exact Nat.mod_mul_right_div_self _ _ _
    rw [h1, h2, ih]
theorem filter_pop (k x : Nat) : ((List.range k).filter x.testBit).length = pop k x := by
  induction k generalizing x with
  | zero => rfl
  | succ k ih =>
    rw [List.range_succ_eq_map, List.filter_cons, List.filter_map]
    have e : (x.testBit ∘ Nat.succ) = (x / 2).testBit := by funext i; simp [Function.comp, Nat.testBit_succ]
    rw [e]
    simp only [pop]
    rw [← ih (x / 2)]
    have h2 : x % 2 = 0 ∨ x % 2 = 1 := by omega
    rcases h2 with h2 | h2
    · simp [Nat.testBit_zero, h2]
    · simp [Nat.testBit_zero, h2]; omega

/-- A function of each of n octets. -/
def each (f : Nat → Nat) : Nat → Nat → Nat
  | 0, _ => 0
  | n + 1, x => f (x % 256) + 256 * each f n (x / 256)
/-- n octets, each c. -/
def rep (c : Nat) : Nat → Nat
  | 0 => 0
  | n + 1 => c + 256 * rep c n
theorem and_split (y c d : Nat) (hc : c < 256) : y &&& (c + 256 * d) = (y % 256 &&& c) + 256 * (y / 256 &&& d) := by
  have hd : (c + 256 * d) % 256 = c := by omega
  have he : (c + 256 * d) / 256 = d := by omega
  have h1 := Nat.and_mod_two_pow (a := y) (b := c + 256 * d) (n := 8)
  have h2 := Nat.and_div_two_pow (a := y) (b := c + 256 * d) (n := 8)
  simp only [show (2 : Nat) ^ 8 = 256 from rfl, hd, he] at h1 h2
  omega
theorem and_each (c n x : Nat) (hc : c < 256) : x &&& rep c n = each (fun a => a &&& c) n x := by
  induction n generalizing x with
  | zero => simp [rep, each]
  | succ n ih => simp only [rep, each]; rw [and_split _ _ _ hc, ih]
/-- A shift to the right, the bits that came from the next octet taken away. -/
theorem shr_each (s c : Nat) (hc : c < 256) (hs : 0 < s) (t : Nat) (hst : s * t = 256) (h : ∀ a b, a < 256 → b < s → (a / s + t * b) &&& c = a / s &&& c) (n x : Nat) :
    x / s &&& rep c n = each (fun a => a / s &&& c) n x := by
  induction n generalizing x with
  | zero => simp [rep, each]
  | succ n ih =>
    have ht : 0 < t := by
      rcases Nat.eq_zero_or_pos t with rfl | h0
      · simp at hst
      · exact h0
    have e : x = x % 256 + 256 * (x / 256) := by omega
    have e1 : x / s = x % 256 / s + t * (x / 256) := by
      conv => lhs; rw [e, ← hst, Nat.mul_assoc]
      rw [Nat.add_mul_div_left _ _ hs, hst]
    have e2 : x / 256 = s * (x / 256 / s) + x / 256 % s := (Nat.div_add_mod _ _).symm
    have l1 : x % 256 / s < t := by rw [Nat.div_lt_iff_lt_mul hs, Nat.mul_comm, hst]; omega
    have l2 : x / 256 % s < s := Nat.mod_lt _ hs
    have e3 : x / s = (x % 256 / s + t * (x / 256 % s)) + 256 * (x / 256 / s) := by
      conv => lhs; rw [e1, e2]
      rw [Nat.mul_add, ← Nat.mul_assoc, Nat.mul_comm t s, hst]
      omega
    have l3 : x % 256 / s + t * (x / 256 % s) < 256 := by
      have : t * (x / 256 % s) + t ≤ t * s := by rw [← Nat.mul_succ]; exact Nat.mul_le_mul_left _ l2
      rw [Nat.mul_comm t s, hst] at this
      omega
    simp only [rep, each]
    rw [and_split _ _ _ hc, e3]
    have m : ∀ p q : Nat, p < 256 → (p + 256 * q) % 256 = p ∧ (p + 256 * q) / 256 = q := by omega
    obtain ⟨m1, m2⟩ := m _ (x / 256 / s) l3
    rw [m1, m2, h _ _ (by omega) l2, ih]
theorem add_each (f g : Nat → Nat) (n x : Nat) : each f n x + each g n x = each (fun a => f a + g a) n x := by
  induction n generalizing x with
  | zero => rfl
  | succ n ih => simp only [each]; rw [← ih]; omega
theorem each_each (f g : Nat → Nat) (hf : ∀ a, a < 256 → f a < 256) (n x : Nat) : each g n (each f n x) = each (fun a => g (f a)) n x := by
  induction n generalizing x with
  | zero => rfl
  | succ n ih =>
    simp only [each]
    have l := hf (x % 256) (by omega)
    have e1 : (f (x % 256) + 256 * each f n (x / 256)) % 256 = f (x % 256) := by omega
    have e2 : (f (x % 256) + 256 * each f n (x / 256)) / 256 = each f n (x / 256) := by omega
    rw [e1, e2, ih]
theorem each_congr (f g : Nat → Nat) (h : ∀ a, a < 256 → f a = g a) (n x : Nat) : each f n x = each g n x := by
  induction n generalizing x with
  | zero => rfl
  | succ n ih => simp only [each]; rw [h _ (by omega), ih]
/-- Octets whose halves are at most 4: the halves are put together with no carry. -/
theorem fold_each (f : Nat → Nat) (hf : ∀ a, a < 256 → f a % 16 ≤ 4 ∧ f a / 16 ≤ 4) (n x : Nat) :
    (each f n x / 16 + each f n x) &&& rep 15 n = each (fun a => (f a / 16 + f a) &&& 15) n x ∧ each f n x % 16 ≤ 4 := by
  induction n generalizing x with
  | zero => simp [rep, each]
  | succ n ih =>
    obtain ⟨i1, i2⟩ := ih (x / 256)
    obtain ⟨h1, h2⟩ := hf (x % 256) (by omega)
    simp only [rep, each]
    rw [and_split _ _ _ (by omega)]
    have m1 : ((f (x % 256) + 256 * each f n (x / 256)) / 16 + (f (x % 256) + 256 * each f n (x / 256))) % 256 = f (x % 256) / 16 + f (x % 256) + 16 * (each f n (x / 256) % 16) := by omega
    have m2 : ((f (x % 256) + 256 * each f n (x / 256)) / 16 + (f (x % 256) + 256 * each f n (x / 256))) / 256 = each f n (x / 256) / 16 + each f n (x / 256) := by omega
    rw [m1, m2, i1]
    refine ⟨?_, by omega⟩
    have m3 : (f (x % 256) / 16 + f (x % 256) + 16 * (each f n (x / 256) % 16)) &&& 15 = (f (x % 256) / 16 + f (x % 256)) &&& 15 := by
      have a1 := Nat.and_two_pow_sub_one_eq_mod (f (x % 256) / 16 + f (x % 256) + 16 * (each f n (x / 256) % 16)) 4
      have a2 := Nat.and_two_pow_sub_one_eq_mod (f (x % 256) / 16 + f (x % 256)) 4
      simp only [show (2 : Nat) ^ 4 - 1 = 15 from rfl, show (2 : Nat) ^ 4 = 16 from rfl] at a1 a2
      rw [a1, a2]
      omega
    rw [m3]
/-- What the library's first three steps make of an octet. -/
def o1 (a : Nat) : Nat := (a / 2 &&& 85) + (a &&& 85)
def o2 (a : Nat) : Nat := (o1 a / 4 &&& 51) + (o1 a &&& 51)
theorem o1_lt : ∀ a, a < 256 → o1 a < 256 := by decide +kernel
theorem o2_lt : ∀ a, a < 256 → o2 a % 16 ≤ 4 ∧ o2 a / 16 ≤ 4 := by decide +kernel
theorem o3_pop : ∀ a, a < 256 → (o2 a / 16 + o2 a) &&& 15 = pop 8 a := by decide +kernel
theorem sh1 : ∀ a, a < 256 → ∀ b, b < 2 → (a / 2 + 128 * b) &&& 85 = a / 2 &&& 85 := by decide +kernel
theorem sh2 : ∀ a, a < 256 → ∀ b, b < 4 → (a / 4 + 64 * b) &&& 51 = a / 4 &&& 51 := by decide +kernel
/-- The library's steps, and what they come to. -/
def s1 (x : Nat) : Nat := (x / 2 &&& 6148914691236517205) + (x &&& 6148914691236517205)
def s2 (x : Nat) : Nat := (x / 4 &&& 3689348814741910323) + (x &&& 3689348814741910323)
def s3 (x : Nat) : Nat := (x / 16 + x) &&& 1085102592571150095
theorem s1_each (x : Nat) : s1 x = each o1 8 x := by
  have a := shr_each 2 85 (by omega) (by omega) 128 rfl (fun a b ha hb => sh1 a ha b hb) 8 x
  have b := and_each 85 8 x (by omega)
  rw [show rep 85 8 = 6148914691236517205 from rfl] at a b
  unfold s1 o1
  rw [a, b, add_each]
theorem s2_each (x : Nat) : s2 (s1 x) = each o2 8 x := by
  have a := shr_each 4 51 (by omega) (by omega) 64 rfl (fun a b ha hb => sh2 a ha b hb) 8 (s1 x)
  have b := and_each 51 8 (s1 x) (by omega)
  rw [show rep 51 8 = 3689348814741910323 from rfl] at a b
  unfold s2
  rw [a, b, add_each, s1_each, each_each _ _ o1_lt]
  rfl
theorem s3_each (x : Nat) : s3 (s2 (s1 x)) = each (pop 8) 8 x := by
  have a := (fold_each o2 o2_lt 8 x).1
  rw [show rep 15 8 = 1085102592571150095 from rfl] at a
  unfold s3
  rw [s2_each, a, each_congr _ _ o3_pop]
theorem pop_octets (x : Nat) : ∃ h0 h1 h2 h3 h4 h5 h6 h7, (h0 ≤ 8 ∧ h1 ≤ 8 ∧ h2 ≤ 8 ∧ h3 ≤ 8 ∧ h4 ≤ 8 ∧ h5 ≤ 8 ∧ h6 ≤ 8 ∧ h7 ≤ 8) ∧
    each (pop 8) 8 x = h0 + 256 * (h1 + 256 * (h2 + 256 * (h3 + 256 * (h4 + 256 * (h5 + 256 * (h6 + 256 * h7)))))) ∧ pop 64 x = h0 + h1 + h2 + h3 + h4 + h5 + h6 + h7 := by
  have e : ∀ y, pop 8 (y % 256) = pop 8 y := fun y => pop_mod 8 y
  have p : ∀ k y, pop (8 + k) y = pop 8 y + pop k (y / 256) := fun k y => pop_add 8 k y
  have q : pop 64 x = pop 8 x + (pop 8 (x / 256) + (pop 8 (x / 256 / 256) + (pop 8 (x / 256 / 256 / 256) + (pop 8 (x / 256 / 256 / 256 / 256) + (pop 8 (x / 256 / 256 / 256 / 256 / 256) + (pop 8 (x / 256 / 256 / 256 / 256 / 256 / 256) + pop 8 (x / 256 / 256 / 256 / 256 / 256 / 256 / 256))))))) := by
    rw [← p 8, ← p 16, ← p 24, ← p 32, ← p 40, ← p 48, ← p 56]
  have l := pop_le 8
  rw [q]
  simp only [each, e]
  generalize pop 8 = f at l ⊢
  exact ⟨_, _, _, _, _, _, _, _, ⟨l x, l (x / 256), l (x / 256 / 256), l (x / 256 / 256 / 256), l (x / 256 / 256 / 256 / 256), l (x / 256 / 256 / 256 / 256 / 256), l (x / 256 / 256 / 256 / 256 / 256 / 256), l (x / 256 / 256 / 256 / 256 / 256 / 256 / 256)⟩, by omega, by omega⟩
def s4 (x : Nat) : Nat := x + x / 256
def s5 (x : Nat) : Nat := x + x / 65536
def s6 (x : Nat) : Nat := x + x / 4294967296
theorem steps_plain (h0 h1 h2 h3 h4 h5 h6 h7 y : Nat) (b0 : h0 ≤ 8) (b1 : h1 ≤ 8) (b2 : h2 ≤ 8) (b3 : h3 ≤ 8) (b4 : h4 ≤ 8) (b5 : h5 ≤ 8) (b6 : h6 ≤ 8) (b7 : h7 ≤ 8)
    (hy : y = h0 + 256 * (h1 + 256 * (h2 + 256 * (h3 + 256 * (h4 + 256 * (h5 + 256 * (h6 + 256 * h7))))))) :
    y < 1152921504606846976 ∧ s4 y < 2305843009213693952 ∧ s5 (s4 y) < 4611686018427387904 ∧ s6 (s5 (s4 y)) < 9223372036854775808 ∧ s6 (s5 (s4 y)) % 128 = h0 + h1 + h2 + h3 + h4 + h5 + h6 + h7 := by
  have y0 : y < 1152921504606846976 := by omega
  have y1 : y / 256 = h1 + 256 * (h2 + 256 * (h3 + 256 * (h4 + 256 * (h5 + 256 * (h6 + 256 * h7))))) := by omega
  obtain ⟨z, hz⟩ : ∃ z, z = s4 y := ⟨_, rfl⟩
  have z0 : z = y + y / 256 := hz
  have zl : z < 2305843009213693952 := by omega
  have z2 : z = (h0 + h1) + 256 * ((h1 + h2) + 256 * ((h2 + h3) + 256 * ((h3 + h4) + 256 * ((h4 + h5) + 256 * ((h5 + h6) + 256 * ((h6 + h7) + 256 * h7)))))) := by omega
  rw [← hz]
  clear z0 hz y1 hy
  have z1 : z / 65536 = (h2 + h3) + 256 * ((h3 + h4) + 256 * ((h4 + h5) + 256 * ((h5 + h6) + 256 * ((h6 + h7) + 256 * h7)))) := by omega
  obtain ⟨u, hu⟩ : ∃ u, u = s5 z := ⟨_, rfl⟩
  have u0 : u = z + z / 65536 := hu
  have ul : u < 4611686018427387904 := by omega
  have u2 : u = (h0 + h1 + h2 + h3) + 256 * ((h1 + h2 + h3 + h4) + 256 * ((h2 + h3 + h4 + h5) + 256 * ((h3 + h4 + h5 + h6) + 256 * ((h4 + h5 + h6 + h7) + 256 * ((h5 + h6 + h7) + 256 * ((h6 + h7) + 256 * h7)))))) := by omega
  rw [← hu]
  clear u0 hu z1 z2
  have u1 : u / 4294967296 = (h4 + h5 + h6 + h7) + 256 * ((h5 + h6 + h7) + 256 * ((h6 + h7) + 256 * h7)) := by omega
  have v2 : s6 u = (h0 + h1 + h2 + h3 + h4 + h5 + h6 + h7) + 256 * ((h1 + h2 + h3 + h4 + h5 + h6 + h7) + 256 * ((h2 + h3 + h4 + h5 + h6 + h7) + 256 * ((h3 + h4 + h5 + h6 + h7) + 256 * ((h4 + h5 + h6 + h7) + 256 * ((h5 + h6 + h7) + 256 * ((h6 + h7) + 256 * h7)))))) := by
    show u + u / 4294967296 = _
    omega
  have vl : s6 u < 9223372036854775808 := by
    show u + u / 4294967296 < _
    omega
  refine ⟨y0, zl, ul, vl, ?_⟩
  rw [v2]
  clear v2 vl u1 u2 ul zl y0
  generalize (h1 + h2 + h3 + h4 + h5 + h6 + h7) + 256 * ((h2 + h3 + h4 + h5 + h6 + h7) + 256 * ((h3 + h4 + h5 + h6 + h7) + 256 * ((h4 + h5 + h6 + h7) + 256 * ((h5 + h6 + h7) + 256 * ((h6 + h7) + 256 * h7))))) = r
  omega
/-- The library counts what is to be counted. -/
theorem steps (x : Nat) : s3 (s2 (s1 x)) < 1152921504606846976 ∧ s4 (s3 (s2 (s1 x))) < 2305843009213693952 ∧ s5 (s4 (s3 (s2 (s1 x)))) < 4611686018427387904 ∧ s6 (s5 (s4 (s3 (s2 (s1 x))))) < 9223372036854775808 ∧ s6 (s5 (s4 (s3 (s2 (s1 x))))) % 128 = pop 64 x := by
  obtain ⟨h0, h1, h2, h3, h4, h5, h6, h7, ⟨b0, b1, b2, b3, b4, b5, b6, b7⟩, e1, e2⟩ := pop_octets x
  rw [s3_each, e2]
  exact steps_plain h0 h1 h2 h3 h4 h5 h6 h7 _ b0 b1 b2 b3 b4 b5 b6 b7 e1
end Go.Proofs.YtokjpibaaioehaaDoor.bm
