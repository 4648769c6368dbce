/- Joined: BmM, BmN. -/
import Derived.Lib.TrailingZeros
import Derived.Below
/- Numbers alone: a set's words, its bits and its numbers; counting a word's bits as the library does; lists that rise. -/
namespace Go.Proofs.YtfloleflcoiidaaGreatDoor.bm
open Go

/-! ### Counting bits -/
/-- How many of the k lowest bits are set. -/
def pop : Nat → Nat → Nat
  | 0, _ => 0
  | k + 1, x => x % 2 + pop k (x / 2)
theorem pop_le (k x : Nat) : pop k x ≤ k := by
  induction k generalizing x with
  | zero => exact Nat.le_refl _
  | succ k ih => have := ih (x / 2); simp only [pop]; omega
theorem pop_add (j k x : Nat) : pop (j + k) x = pop j x + pop k (x / 2 ^ j) := by
  induction j generalizing x with
  | zero => simp [pop]
  | succ j ih =>
    rw [Nat.add_right_comm]
    simp only [pop]
    rw [ih, Nat.div_div_eq_div_mul, Nat.pow_succ, Nat.mul_comm 2]
    omega
theorem pop_mod (k x : Nat) : pop k (x % 2 ^ k) = pop k x := by
  induction k generalizing x with
  | zero => rfl
  | succ k ih =>
    simp only [pop]
    have h1 : x % 2 ^ (k + 1) % 2 = x % 2 := by rw [Nat.pow_succ, Nat.mul_comm]; exact Nat.mod_mul_right_mod _ _ _
    have h2 : x % 2 ^ (k + 1) / 2 = x / 2 % 2 ^ k := by rw [Nat.pow_succ, Nat.mul_comm]; exact Nat.mod_mul_right_div_self _ _ _
    rw [h1, h2, ih]
theorem filter_pop (k x : Nat) : ((List.range k).filter x.testBit).length = pop k x := by
  induction k generalizing x with
  | zero => rfl
  | succ k ih =>
    rw [List.range_succ_eq_map, List.filter_cons, List.filter_map]
    have e : (x.testBit ∘ Nat.succ) = (x / 2).testBit := by funext i; simp [Function.comp, Nat.testBit_succ]
    rw [e]
    simp only [pop]
    rw [← ih (x / 2)]
    have h2 : x % 2 = 0 ∨ x % 2 = 1 := by omega
    rcases h2 with h2 | h2
    · simp [Nat.testBit_zero, h2]
    · simp [Nat.testBit_zero, h2]; omega

/-- A function of each of n octets. -/
def each (f : Nat → Nat) : Nat → Nat → Nat
  | 0, _ => 0
  | n + 1, x => f (x % 256) + 256 * each f n (x / 256)
/-- n octets, each c. -/
def rep (c : Nat) : Nat → Nat
  | 0 => 0
  | n + 1 => c + 256 * rep c n
theorem and_split (y c d : Nat) (hc : c < 256) : y &&& (c + 256 * d) = (y % 256 &&& c) + 256 * (y / 256 &&& d) := by
  have hd : (c + 256 * d) % 256 = c := by omega
  have he : (c + 256 * d) / 256 = d := by omega
  have h1 := Nat.and_mod_two_pow (a := y) (b := c + 256 * d) (n := 8)
  have h2 := Nat.and_div_two_pow (a := y) (b := c + 256 * d) (n := 8)
  simp only [show (2 : Nat) ^ 8 = 256 from rfl, hd, he] at h1 h2
  omega
theorem and_each (c n x : Nat) (hc : c < 256) : x &&& rep c n = each (fun a => a &&& c) n x := by
  induction n generalizing x with
  | zero => simp [rep, each]
  | succ n ih => simp only [rep, each]; rw [and_split _ _ _ hc, ih]
/-- A shift to the right, the bits that came from the next octet taken away. -/
theorem shr_each (s c : Nat) (hc : c < 256) (hs : 0 < s) (t : Nat) (hst : s * t = 256) (h : ∀ a b, a < 256 → b < s → (a / s + t * b) &&& c = a / s &&& c) (n x : Nat) :
    x / s &&& rep c n = each (fun a => a / s &&& c) n x := by
  induction n generalizing x with
  | zero => simp [rep, each]
  | succ n ih =>
    have ht : 0 < t := by
      rcases Nat.eq_zero_or_pos t with rfl | h0
      · simp at hst
      · exact h0
    have e : x = x % 256 + 256 * (x / 256) := by omega
    have e1 : x / s = x % 256 / s + t * (x / 256) := by
      conv => lhs; rw [e, ← hst, Nat.mul_assoc]
      rw [Nat.add_mul_div_left _ _ hs, hst]
    have e2 : x / 256 = s * (x / 256 / s) + x / 256 % s := (Nat.div_add_mod _ _).symm
    have l1 : x % 256 / s < t := by rw [Nat.div_lt_iff_lt_mul hs, Nat.mul_comm, hst]; omega
    have l2 : x / 256 % s < s := Nat.mod_lt _ hs
    have e3 : x / s = (x % 256 / s + t * (x / 256 % s)) + 256 * (x / 256 / s) := by
      conv => lhs; rw [e1, e2]
      rw [Nat.mul_add, ← Nat.mul_assoc, Nat.mul_comm t s, hst]
      omega
    have l3 : x % 256 / s + t * (x / 256 % s) < 256 := by
      have : t * (x / 256 % s) + t ≤ t * s := by rw [← Nat.mul_succ]; exact Nat.mul_le_mul_left _ l2
      rw [Nat.mul_comm t s, hst] at this
      omega
    simp only [rep, each]
    rw [and_split _ _ _ hc, e3]
    have m : ∀ p q : Nat, p < 256 → (p + 256 * q) % 256 = p ∧ (p + 256 * q) / 256 = q := by omega
    obtain ⟨m1, m2⟩ := m _ (x / 256 / s) l3
    rw [m1, m2, h _ _ (by omega) l2, ih]
theorem add_each (f g : Nat → Nat) (n x : Nat) : each f n x + each g n x = each (fun a => f a + g a) n x := by
  induction n generalizing x with
  | zero => rfl
  | succ n ih => simp only [each]; rw [← ih]; omega
theorem each_each (f g : Nat → Nat) (hf : ∀ a, a < 256 → f a < 256) (n x : Nat) : each g n (each f n x) = each (fun a => g (f a)) n x := by
  induction n generalizing x with
  | zero => rfl
  | succ n ih =>
    simp only [each]
    have l := hf (x % 256) (by omega)
    have e1 : (f (x % 256) + 256 * each f n (x / 256)) % 256 = f (x % 256) := by omega
    have e2 : (f (x % 256) + 256 * each f n (x / 256)) / 256 = each f n (x / 256) := by omega
    rw [e1, e2, ih]
theorem each_congr (f g : Nat → Nat) (h : ∀ a, a < 256 → f a = g a) (n x : Nat) : each f n x = each g n x := by
  induction n generalizing x with
  | zero => rfl
  | succ n ih => simp only [each]; rw [h _ (by omega), ih]
/-- Octets whose halves are at most 4: the halves are put together with no carry. -/
theorem fold_each (f : Nat → Nat) (hf : ∀ a, a < 256 → f a % 16 ≤ 4 ∧ f a / 16 ≤ 4) (n x : Nat) :
    (each f n x / 16 + each f n x) &&& rep 15 n = each (fun a => (f a / 16 + f a) &&& 15) n x ∧ each f n x % 16 ≤ 4 := by
  induction n generalizing x with
  | zero => simp [rep, each]
  | succ n ih =>
    obtain ⟨i1, i2⟩ := ih (x / 256)
    obtain ⟨h1, h2⟩ := hf (x % 256) (by omega)
    simp only [rep, each]
    rw [and_split _ _ _ (by omega)]
    have m1 : ((f (x % 256) + 256 * each f n (x / 256)) / 16 + (f (x % 256) + 256 * each f n (x / 256))) % 256 = f (x % 256) / 16 + f (x % 256) + 16 * (each f n (x / 256) % 16) := by omega
    have m2 : ((f (x % 256) + 256 * each f n (x / 256)) / 16 + (f (x % 256) + 256 * each f n (x / 256))) / 256 = each f n (x / 256) / 16 + each f n (x / 256) := by omega
    rw [m1, m2, i1]
    refine ⟨?_, by omega⟩
    have m3 : (f (x % 256) / 16 + f (x % 256) + 16 * (each f n (x / 256) % 16)) &&& 15 = (f (x % 256) / 16 + f (x % 256)) &&& 15 := by
      have a1 := Nat.and_two_pow_sub_one_eq_mod (f (x % 256) / 16 + f (x % 256) + 16 * (each f n (x / 256) % 16)) 4
      have a2 := Nat.and_two_pow_sub_one_eq_mod (f (x % 256) / 16 + f (x % 256)) 4
      simp only [show (2 : Nat) ^ 4 - 1 = 15 from rfl, show (2 : Nat) ^ 4 = 16 from rfl] at a1 a2
      rw [a1, a2]
      omega
    rw [m3]
/-- What the library's first three steps make of an octet. -/
def o1 (a : Nat) : Nat := (a / 2 &&& 85) + (a &&& 85)
def o2 (a : Nat) : Nat := (o1 a / 4 &&& 51) + (o1 a &&& 51)
theorem o1_lt : ∀ a, a < 256 → o1 a < 256 := by decide +kernel
theorem o2_lt : ∀ a, a < 256 → o2 a % 16 ≤ 4 ∧ o2 a / 16 ≤ 4 := by decide +kernel
theorem o3_pop : ∀ a, a < 256 → (o2 a / 16 + o2 a) &&& 15 = pop 8 a := by decide +kernel
theorem sh1 : ∀ a, a < 256 → ∀ b, b < 2 → (a / 2 + 128 * b) &&& 85 = a / 2 &&& 85 := by decide +kernel
theorem sh2 : ∀ a, a < 256 → ∀ b, b < 4 → (a / 4 + 64 * b) &&& 51 = a / 4 &&& 51 := by decide +kernel
/-- The library's steps, and what they come to. -/
def s1 (x : Nat) : Nat := (x / 2 &&& 6148914691236517205) + (x &&& 6148914691236517205)
def s2 (x : Nat) : Nat := (x / 4 &&& 3689348814741910323) + (x &&& 3689348814741910323)
def s3 (x : Nat) : Nat := (x / 16 + x) &&& 1085102592571150095
theorem s1_each (x : Nat) : s1 x = each o1 8 x := by
  have a := shr_each 2 85 (by omega) (by omega) 128 rfl (fun a b ha hb => sh1 a ha b hb) 8 x
  have b := and_each 85 8 x (by omega)
  rw [show rep 85 8 = 6148914691236517205 from rfl] at a b
  unfold s1 o1
  rw [a, b, add_each]
theorem s2_each (x : Nat) : s2 (s1 x) = each o2 8 x := by
  have a := shr_each 4 51 (by omega) (by omega) 64 rfl (fun a b ha hb => sh2 a ha b hb) 8 (s1 x)
  have b := and_each 51 8 (s1 x) (by omega)
  rw [show rep 51 8 = 3689348814741910323 from rfl] at a b
  unfold s2
  rw [a, b, add_each, s1_each, each_each _ _ o1_lt]
  rfl
theorem s3_each (x : Nat) : s3 (s2 (s1 x)) = each (pop 8) 8 x := by
  have a := (fold_each o2 o2_lt 8 x).1
  rw [show rep 15 8 = 1085102592571150095 from rfl] at a
  unfold s3
  rw [s2_each, a, each_congr _ _ o3_pop]
theorem pop_octets (x : Nat) : ∃ h0 h1 h2 h3 h4 h5 h6 h7, (h0 ≤ 8 ∧ h1 ≤ 8 ∧ h2 ≤ 8 ∧ h3 ≤ 8 ∧ h4 ≤ 8 ∧ h5 ≤ 8 ∧ h6 ≤ 8 ∧ h7 ≤ 8) ∧
    each (pop 8) 8 x = h0 + 256 * (h1 + 256 * (h2 + 256 * (h3 + 256 * (h4 + 256 * (h5 + 256 * (h6 + 256 * h7)))))) ∧ pop 64 x = h0 + h1 + h2 + h3 + h4 + h5 + h6 + h7 := by
  have e : ∀ y, pop 8 (y % 256) = pop 8 y := fun y => pop_mod 8 y
  have p : ∀ k y, pop (8 + k) y = pop 8 y + pop k (y / 256) := fun k y => pop_add 8 k y
  have q : pop 64 x = pop 8 x + (pop 8 (x / 256) + (pop 8 (x / 256 / 256) + (pop 8 (x / 256 / 256 / 256) + (pop 8 (x / 256 / 256 / 256 / 256) + (pop 8 (x / 256 / 256 / 256 / 256 / 256) + (pop 8 (x / 256 / 256 / 256 / 256 / 256 / 256) + pop 8 (x / 256 / 256 / 256 / 256 / 256 / 256 / 256))))))) := by
    rw [← p 8, ← p 16, ← p 24, ← p 32, ← p 40, ← p 48, ← p 56]
  have l := pop_le 8
  rw [q]
  simp only [each, e]
  generalize pop 8 = f at l ⊢
  exact ⟨_, _, _, _, _, _, _, _, ⟨l x, l (x / 256), l (x / 256 / 256), l (x / 256 / 256 / 256), l (x / 256 / 256 / 256 / 256), l (x / 256 / 256 / 256 / 256 / 256), l (x / 256 / 256 / 256 / 256 / 256 / 256), l (x / 256 / 256 / 256 / 256 / 256 / 256 / 256)⟩, by omega, by omega⟩
def s4 (x : Nat) : Nat := x + x / 256
def s5 (x : Nat) : Nat := x + x / 65536
def s6 (x : Nat) : Nat := x + x / 4294967296
theorem steps_plain (h0 h1 h2 h3 h4 h5 h6 h7 y : Nat) (b0 : h0 ≤ 8) (b1 : h1 ≤ 8) (b2 : h2 ≤ 8) (b3 : h3 ≤ 8) (b4 : h4 ≤ 8) (b5 : h5 ≤ 8) (b6 : h6 ≤ 8) (b7 : h7 ≤ 8)
    (hy : y = h0 + 256 * (h1 + 256 * (h2 + 256 * (h3 + 256 * (h4 + 256 * (h5 + 256 * (h6 + 256 * h7))))))) :
    y < 1152921504606846976 ∧ s4 y < 2305843009213693952 ∧ s5 (s4 y) < 4611686018427387904 ∧ s6 (s5 (s4 y)) < 9223372036854775808 ∧ s6 (s5 (s4 y)) % 128 = h0 + h1 + h2 + h3 + h4 + h5 + h6 + h7 := by
  have y0 : y < 1152921504606846976 := by omega
  have y1 : y / 256 = h1 + 256 * (h2 + 256 * (h3 + 256 * (h4 + 256 * (h5 + 256 * (h6 + 256 * h7))))) := by omega
  obtain ⟨z, hz⟩ : ∃ z, z = s4 y := ⟨_, rfl⟩
  have z0 : z = y + y / 256 := hz
  have zl : z < 2305843009213693952 := by omega
  have z2 : z = (h0 + h1) + 256 * ((h1 + h2) + 256 * ((h2 + h3) + 256 * ((h3 + h4) + 256 * ((h4 + h5) + 256 * ((h5 + h6) + 256 * ((h6 + h7) + 256 * h7)))))) := by omega
  rw [← hz]
  clear z0 hz y1 hy
  have z1 : z / 65536 = (h2 + h3) + 256 * ((h3 + h4) + 256 * ((h4 + h5) + 256 * ((h5 + h6) + 256 * ((h6 + h7) + 256 * h7)))) := by omega
  obtain ⟨u, hu⟩ : ∃ u, u = s5 z := ⟨_, rfl⟩
  have u0 : u = z + z / 65536 := hu
  have ul : u < 4611686018427387904 := by omega
  have u2 : u = (h0 + h1 + h2 + h3) + 256 * ((h1 + h2 + h3 + h4) + 256 * ((h2 + h3 + h4 + h5) + 256 * ((h3 + h4 + h5 + h6) + 256 * ((h4 + h5 + h6 + h7) + 256 * ((h5 + h6 + h7) + 256 * ((h6 + h7) + 256 * h7)))))) := by omega
  rw [← hu]
  clear u0 hu z1 z2
  have u1 : u / 4294967296 = (h4 + h5 + h6 + h7) + 256 * ((h5 + h6 + h7) + 256 * ((h6 + h7) + 256 * h7)) := by omega
  have v2 : s6 u = (h0 + h1 + h2 + h3 + h4 + h5 + h6 + h7) + 256 * ((h1 + h2 + h3 + h4 + h5 + h6 + h7) + 256 * ((h2 + h3 + h4 + h5 + h6 + h7) + 256 * ((h3 + h4 + h5 + h6 + h7) + 256 * ((h4 + h5 + h6 + h7) + 256 * ((h5 + h6 + h7) + 256 * ((h6 + h7) + 256 * h7)))))) := by
    show u + u / 4294967296 = _
    omega
  have vl : s6 u < 9223372036854775808 := by
    show u + u / 4294967296 < _
    omega
  refine ⟨y0, zl, ul, vl, ?_⟩
  rw [v2]
  clear v2 vl u1 u2 ul zl y0
  generalize (h1 + h2 + h3 + h4 + h5 + h6 + h7) + 256 * ((h2 + h3 + h4 + h5 + h6 + h7) + 256 * ((h3 + h4 + h5 + h6 + h7) + 256 * ((h4 + h5 + h6 + h7) + 256 * ((h5 + h6 + h7) + 256 * ((h6 + h7) + 256 * h7))))) = r
  omega
/-- The library counts what is to be counted. -/
theorem steps (x : Nat) : s3 (s2 (s1 x)) < 1152921504606846976 ∧ s4 (s3 (s2 (s1 x))) < 2305843009213693952 ∧ s5 (s4 (s3 (s2 (s1 x)))) < 4611686018427387904 ∧ s6 (s5 (s4 (s3 (s2 (s1 x))))) < 9223372036854775808 ∧ s6 (s5 (s4 (s3 (s2 (s1 x))))) % 128 = pop 64 x := by
  obtain ⟨h0, h1, h2, h3, h4, h5, h6, h7, ⟨b0, b1, b2, b3, b4, b5, b6, b7⟩, e1, e2⟩ := pop_octets x
  rw [s3_each, e2]
  exact steps_plain h0 h1 h2 h3 h4 h5 h6 h7 _ b0 b1 b2 b3 b4 b5 b6 b7 e1
end Go.Proofs.YtfloleflcoiidaaGreatDoor.bm

/- Numbers alone: a set's words, its bits, and its numbers, rising; the least one that is not below another; lists that rise. -/
namespace Go.Proofs.YtfloleflcoiidaaGreatDoor.bm
open Go

/-- Is i in the set that these words are? -/
def bit (ws : List Nat) (i : Nat) : Bool := (ws.getD (i / 64) 0).testBit (i % 64)
/-- Words of a set of numbers below n. -/
def Fine (n : Nat) (ws : List Nat) : Prop := ws.length = 32 ∧ (∀ k, ws.getD k 0 < 18446744073709551616) ∧ (∀ i, bit ws i = true → i < n) ∧ n ≤ 2048
def nums (ws : List Nat) : List Int := ((List.range 2048).filter (bit ws)).map fun i : Nat => (i : Int)
theorem mem_nums {n : Nat} {ws : List Nat} (h : Fine n ws) (z : Int) : z ∈ nums ws ↔ 0 ≤ z ∧ bit ws z.toNat = true := by
  unfold nums
  simp only [List.mem_map, List.mem_filter, List.mem_range]
  constructor
  · rintro ⟨i, ⟨_, h2⟩, rfl⟩
    exact ⟨by omega, by simpa using h2⟩
  · rintro ⟨h1, h2⟩
    have := h.2.2.1 _ h2
    have := h.2.2.2
    exact ⟨z.toNat, ⟨by omega, h2⟩, by omega⟩
theorem mem_nums_lt {n : Nat} {ws : List Nat} (h : Fine n ws) {z : Int} (hz : z ∈ nums ws) : 0 ≤ z ∧ z < n := by
  obtain ⟨h1, h2⟩ := (mem_nums h z).1 hz
  have := h.2.2.1 _ h2
  omega
theorem nums_up (ws : List Nat) : (nums ws).Pairwise (· < ·) := by
  unfold nums
  rw [List.pairwise_map]
  refine List.Pairwise.imp (R := fun a b => a < b) (fun h => by omega) ?_
  exact List.Pairwise.filter _ List.pairwise_lt_range
theorem nums_length (ws : List Nat) : (nums ws).length ≤ 2048 := by
  unfold nums
  rw [List.length_map]
  exact Nat.le_trans (List.length_filter_le _ _) (by simp)
/-- Lists that rise, of the same numbers, are alike. -/
theorem up_eq : ∀ {a b : List Int}, a.Pairwise (· < ·) → b.Pairwise (· < ·) → (∀ z, z ∈ a ↔ z ∈ b) → a = b
  | [], [], _, _, _ => rfl
  | [], y :: b, _, _, h => absurd ((h y).2 (by simp)) (by simp)
  | x :: a, [], _, _, h => absurd ((h x).1 (by simp)) (by simp)
  | x :: a, y :: b, ha, hb, h => by
    rw [List.pairwise_cons] at ha hb
    have e : x = y := by
      have h1 := (h x).1 (by simp)
      have h2 := (h y).2 (by simp)
      rcases List.mem_cons.1 h1 with h1 | h1
      · exact h1
      rcases List.mem_cons.1 h2 with h2 | h2
      · exact h2.symm
      have := hb.1 x h1
      have := ha.1 y h2
      omega
    subst e
    congr 1
    refine up_eq ha.2 hb.2 (fun z => ⟨fun hz => ?_, fun hz => ?_⟩)
    · have := ha.1 z hz
      rcases List.mem_cons.1 ((h z).1 (List.mem_cons_of_mem _ hz)) with h1 | h1
      · omega
      · exact h1
    · have := hb.1 z hz
      rcases List.mem_cons.1 ((h z).2 (List.mem_cons_of_mem _ hz)) with h1 | h1
      · omega
      · exact h1

/-! ### Counted -/
def count (ws : List Nat) (k : Nat) : Nat := ((List.range (64 * k)).filter (bit ws)).length
theorem count_succ (ws : List Nat) (k : Nat) : count ws (k + 1) = count ws k + pop 64 (ws.getD k 0) := by
  unfold count
  rw [Nat.mul_succ, List.range_add, List.filter_append, List.length_append, List.filter_map, List.length_map]
  rw [← filter_pop 64 (ws.getD k 0)]
  refine congrArg (fun n => ((List.range (64 * k)).filter (bit ws)).length + n) (congrArg List.length (List.filter_congr (fun i hi => ?_)))
  have hi := List.mem_range.1 hi
  simp only [Function.comp, bit]
  rw [show (64 * k + i) / 64 = k by omega, show (64 * k + i) % 64 = i by omega]
theorem count_le (ws : List Nat) (k : Nat) : count ws k ≤ 64 * k := by
  unfold count
  exact Nat.le_trans (List.length_filter_le _ _) (by simp)
theorem count_all (ws : List Nat) : count ws 32 = (nums ws).length := by
  unfold count nums
  rw [List.length_map]

/-! ### Put in, taken out -/
def put (ws : List Nat) (i : Nat) : List Nat := ws.set (i / 64) (ws.getD (i / 64) 0 ||| 2 ^ (i % 64))
def cut (ws : List Nat) (i : Nat) : List Nat := ws.set (i / 64) (ws.getD (i / 64) 0 &&& (18446744073709551615 - 2 ^ (i % 64)))
theorem pow_lt (i : Nat) : 2 ^ (i % 64) < 18446744073709551616 := Nat.pow_lt_pow_right (a := 2) (by omega) (show i % 64 < 64 by omega)
theorem getD_set (ws : List Nat) (k j x : Nat) (hk : k < ws.length) : (ws.set k x).getD j 0 = if j = k then x else ws.getD j 0 := by
  simp only [List.getD_eq_getElem?_getD]
  by_cases h : j = k
  · subst h
    rw [if_pos rfl, List.getElem?_set_self hk]
    rfl
  · rw [if_neg h, List.getElem?_set_ne (by omega)]
theorem not_bit (y b : Nat) (hy : y < 18446744073709551616) : (18446744073709551615 - y).testBit b = (decide (b < 64) && !y.testBit b) := by
  have := Nat.testBit_two_pow_sub_succ (n := 64) (x := y) hy b
  rw [← this]
  congr 1
  omega
theorem bit_put (ws : List Nat) (i j : Nat) (hi : i / 64 < ws.length) : bit (put ws i) j = (bit ws j || decide (j = i)) := by
  unfold bit put
  rw [getD_set _ _ _ _ hi]
  by_cases h : j / 64 = i / 64
  · rw [if_pos h, Nat.testBit_or, Nat.testBit_two_pow, h]
    congr 1
    refine decide_eq_decide.2 ⟨fun e => ?_, fun e => by rw [e]⟩
    omega
  · rw [if_neg h, show decide (j = i) = false from decide_eq_false (fun e => h (by rw [e])), Bool.or_false]
theorem bit_cut (ws : List Nat) (i j : Nat) (hi : i / 64 < ws.length) : bit (cut ws i) j = (bit ws j && !decide (j = i)) := by
  unfold bit cut
  rw [getD_set _ _ _ _ hi]
  by_cases h : j / 64 = i / 64
  · rw [if_pos h, Nat.testBit_and, not_bit _ _ (pow_lt i), Nat.testBit_two_pow, h, show decide (j % 64 < 64) = true from decide_eq_true (by omega), Bool.true_and]
    congr 2
    refine decide_eq_decide.2 ⟨fun e => ?_, fun e => by rw [e]⟩
    omega
  · rw [if_neg h, show decide (j = i) = false from decide_eq_false (fun e => h (by rw [e])), Bool.not_false, Bool.and_true]
theorem or_lt (ws : List Nat) (i : Nat) (h : ∀ k, ws.getD k 0 < 18446744073709551616) : ws.getD (i / 64) 0 ||| 2 ^ (i % 64) < 18446744073709551616 := Nat.or_lt_two_pow (n := 64) (h _) (pow_lt i)
theorem and_lt (ws : List Nat) (i y : Nat) (h : ∀ k, ws.getD k 0 < 18446744073709551616) : ws.getD (i / 64) 0 &&& y < 18446744073709551616 := Nat.lt_of_le_of_lt Nat.and_le_left (h _)
theorem Fine.put {n : Nat} {ws : List Nat} (h : Fine n ws) {i : Nat} (hi : i < n) : Fine n (put ws i) := by
  have hl : i / 64 < ws.length := by have := h.1; have := h.2.2.2; omega
  refine ⟨by unfold bm.put; rw [List.length_set]; exact h.1, fun k => ?_, fun j hj => ?_, h.2.2.2⟩
  · unfold bm.put
    rw [getD_set _ _ _ _ hl]
    split
    · exact or_lt ws i h.2.1
    · exact h.2.1 k
  · rw [bit_put _ _ _ hl] at hj
    rcases Bool.or_eq_true_iff.1 hj with h1 | h1
    · exact h.2.2.1 j h1
    · have := of_decide_eq_true h1; omega
theorem Fine.cut {n : Nat} {ws : List Nat} (h : Fine n ws) {i : Nat} (hi : i < n) : Fine n (cut ws i) := by
  have hl : i / 64 < ws.length := by have := h.1; have := h.2.2.2; omega
  refine ⟨by unfold bm.cut; rw [List.length_set]; exact h.1, fun k => ?_, fun j hj => ?_, h.2.2.2⟩
  · unfold bm.cut
    rw [getD_set _ _ _ _ hl]
    split
    · exact and_lt ws i _ h.2.1
    · exact h.2.1 k
  · rw [bit_cut _ _ _ hl] at hj
    exact h.2.2.1 j (Bool.and_eq_true_iff.1 hj).1
def zeros : List Nat := List.replicate 32 0
theorem zeros_at (k : Nat) : zeros.getD k 0 = 0 := by
  unfold zeros
  rw [List.getD_eq_getElem?_getD, List.getElem?_replicate]
  split <;> rfl
theorem bit_zeros (i : Nat) : bit zeros i = false := by unfold bit; rw [zeros_at, Nat.zero_testBit]
theorem Fine.zeros {n : Nat} (h : n ≤ 2048) : Fine n zeros :=
  ⟨by simp [bm.zeros], fun k => (by rw [zeros_at]; omega), fun i hi => (by rw [bit_zeros] at hi; cases hi), h⟩
theorem nums_zeros : nums zeros = [] := by
  unfold nums
  rw [List.filter_eq_nil_iff.2 (fun i _ => by rw [bit_zeros]; simp)]
  rfl
/-- A bit is looked at. -/
theorem look_yes (x b : Nat) (h : x.testBit b = true) : x &&& 2 ^ b = 2 ^ b := by
  refine Nat.eq_of_testBit_eq (fun i => ?_)
  rw [Nat.testBit_and, Nat.testBit_two_pow]
  by_cases e : b = i
  · subst e; simp [h]
  · simp [e]
theorem look_no (x b : Nat) (h : x.testBit b = false) : x &&& 2 ^ b = 0 := by
  refine Nat.eq_of_testBit_eq (fun i => ?_)
  rw [Nat.testBit_and, Nat.testBit_two_pow, Nat.zero_testBit]
  by_cases e : b = i
  · subst e; simp [h]
  · simp [e]

/-! ### Lists that rise -/
def ins (out : List Int) (x : Int) : List Int := if x ∈ out then out else out.takeWhile (fun y => decide (y < x)) ++ x :: out.dropWhile (fun y => decide (y < x))
def rising (l : List Int) : List Int := l.foldl ins []
theorem mem_ins (out : List Int) (x z : Int) : z ∈ ins out x ↔ z ∈ out ∨ z = x := by
  unfold ins
  split
  · rename_i h
    exact ⟨.inl, fun h1 => h1.elim id (fun e => e ▸ h)⟩
  · have e : z ∈ out ↔ z ∈ out.takeWhile (fun y => decide (y < x)) ∨ z ∈ out.dropWhile (fun y => decide (y < x)) := by
      rw [← List.mem_append, List.takeWhile_append_dropWhile]
    rw [List.mem_append, List.mem_cons, e]
    constructor
    · rintro (h | h | h)
      · exact .inl (.inl h)
      · exact .inr h
      · exact .inl (.inr h)
    · rintro ((h | h) | h)
      · exact .inl h
      · exact .inr (.inr h)
      · exact .inr (.inl h)
theorem drop_ge : ∀ {out : List Int} {x : Int}, out.Pairwise (· < ·) → ∀ z ∈ out.dropWhile (fun y => decide (y < x)), x ≤ z
  | [], _, _, z, hz => by simp at hz
  | y :: out, x, h, z, hz => by
    rw [List.pairwise_cons] at h
    by_cases hy : y < x
    · rw [List.dropWhile_cons_of_pos (by simpa using hy)] at hz
      exact drop_ge h.2 z hz
    · rw [List.dropWhile_cons_of_neg (by simpa using hy)] at hz
      rcases List.mem_cons.1 hz with rfl | hz
      · omega
      · have := h.1 z hz; omega
theorem take_lt : ∀ {out : List Int} {x : Int}, ∀ z ∈ out.takeWhile (fun y => decide (y < x)), z < x
  | [], _, z, hz => by simp at hz
  | y :: out, x, z, hz => by
    by_cases hy : y < x
    · rw [List.takeWhile_cons_of_pos (by simpa using hy)] at hz
      rcases List.mem_cons.1 hz with rfl | hz
      · exact hy
      · exact take_lt z hz
    · rw [List.takeWhile_cons_of_neg (by simpa using hy)] at hz
      simp at hz
theorem ins_up {out : List Int} {x : Int} (h : out.Pairwise (· < ·)) : (ins out x).Pairwise (· < ·) := by
  unfold ins
  split
  · exact h
  · rename_i hx
    have hs := h
    rw [← List.takeWhile_append_dropWhile (p := fun y => decide (y < x)) (l := out), List.pairwise_append] at hs
    obtain ⟨h1, h2, h3⟩ := hs
    rw [List.pairwise_append, List.pairwise_cons]
    have g : ∀ z ∈ out.dropWhile (fun y => decide (y < x)), x < z := by
      intro z hz
      have := drop_ge h z hz
      have hne : z ≠ x := fun e => hx (e ▸ (List.dropWhile_sublist (fun y => decide (y < x))).subset hz)
      omega
    refine ⟨h1, ⟨g, h2⟩, fun a ha b hb => ?_⟩
    have := take_lt a ha
    rcases List.mem_cons.1 hb with rfl | hb
    · omega
    · have := g b hb; omega
theorem ins_length (out : List Int) (x : Int) : (ins out x).length ≤ out.length + 1 := by
  unfold ins
  split
  · omega
  · have := congrArg List.length (List.takeWhile_append_dropWhile (p := fun y => decide (y < x)) (l := out))
    rw [List.length_append] at this
    rw [List.length_append, List.length_cons]
    omega
theorem fold_up : ∀ (l : List Int) (out : List Int), out.Pairwise (· < ·) → (l.foldl ins out).Pairwise (· < ·)
  | [], _, h => h
  | _ :: l, _, h => fold_up l _ (ins_up h)
theorem mem_fold : ∀ (l out : List Int) (z : Int), z ∈ l.foldl ins out ↔ z ∈ out ∨ z ∈ l
  | [], _, _ => by simp
  | x :: l, out, z => by rw [List.foldl_cons, mem_fold l, mem_ins, List.mem_cons, or_assoc]
theorem rising_up (l : List Int) : (rising l).Pairwise (· < ·) := fold_up l [] .nil
theorem mem_rising (l : List Int) (z : Int) : z ∈ rising l ↔ z ∈ l := by unfold rising; rw [mem_fold]; simp
theorem nums_put {n : Nat} {ws : List Nat} (h : Fine n ws) {i : Nat} (hi : i < n) : rising (nums ws ++ [(i : Int)]) = nums (put ws i) := by
  refine up_eq (rising_up _) (nums_up _) (fun z => ?_)
  have hl : i / 64 < ws.length := by have := h.1; have := h.2.2.2; omega
  rw [mem_rising, List.mem_append, mem_nums h, mem_nums (h.put hi), bit_put _ _ _ hl, List.mem_singleton, Bool.or_eq_true_iff]
  constructor
  · rintro (⟨h1, h2⟩ | rfl)
    · exact ⟨h1, .inl h2⟩
    · exact ⟨by omega, .inr (decide_eq_true (by omega))⟩
  · rintro ⟨h1, h2 | h2⟩
    · exact .inl ⟨h1, h2⟩
    · have := of_decide_eq_true h2
      exact .inr (by omega)
theorem nums_cut {n : Nat} {ws : List Nat} (h : Fine n ws) {i : Nat} (hi : i < n) : (nums ws).filter (fun z => decide (z ≠ (i : Int))) = nums (cut ws i) := by
  refine up_eq ((nums_up _).filter _) (nums_up _) (fun z => ?_)
  have hl : i / 64 < ws.length := by have := h.1; have := h.2.2.2; omega
  rw [List.mem_filter, mem_nums h, mem_nums (h.cut hi), bit_cut _ _ _ hl, Bool.and_eq_true_iff]
  constructor
  · rintro ⟨⟨h1, h2⟩, h3⟩
    have := of_decide_eq_true h3
    refine ⟨h1, h2, ?_⟩
    rw [show decide (z.toNat = i) = false from decide_eq_false (by omega)]; rfl
  · rintro ⟨h1, h2, h3⟩
    refine ⟨⟨h1, h2⟩, decide_eq_true (fun e => ?_)⟩
    subst e
    simp at h3
theorem filter_all {xs : List Int} {z : Int} (h : z ∉ xs) : xs.filter (fun y => decide (y ≠ z)) = xs := by
  rw [List.filter_eq_self]
  intro y hy
  exact decide_eq_true (fun e => h (e ▸ hy))

/-! ### The next one -/
def nextOf (xs : List Int) (z : Int) : Int := (xs.find? fun x => decide (z ≤ x)).getD (-1)
theorem nextOf_none {xs : List Int} {z : Int} (h : ∀ x ∈ xs, ¬ z ≤ x) : nextOf xs z = -1 := by
  unfold nextOf
  rw [List.find?_eq_none.2 (fun x hx => by simpa using h x hx)]
  rfl
theorem nextOf_some : ∀ {xs : List Int} {z m : Int}, m ∈ xs → z ≤ m → (∀ x ∈ xs, z ≤ x → m ≤ x) → xs.Pairwise (· < ·) → nextOf xs z = m
  | [], _, _, h, _, _, _ => by simp at h
  | x :: xs, z, m, h, hz, hl, hp => by
    rw [List.pairwise_cons] at hp
    unfold nextOf
    by_cases hx : z ≤ x
    · rw [List.find?_cons_of_pos (by simpa using hx)]
      have h1 := hl x (by simp) hx
      rcases List.mem_cons.1 h with rfl | h
      · rfl
      · have := hp.1 m h
        omega
    · rw [List.find?_cons_of_neg (by simpa using hx)]
      rcases List.mem_cons.1 h with rfl | h
      · omega
      · exact nextOf_some h hz (fun y hy => hl y (List.mem_cons_of_mem _ hy)) hp.2
theorem nextOf_first : ∀ {xs : List Int} {z : Int}, (∀ x ∈ xs, z ≤ x) → nextOf xs z = xs.getD 0 (-1)
  | [], _, _ => rfl
  | x :: xs, z, h => by
    unfold nextOf
    rw [List.find?_cons_of_pos (by simpa using h x (by simp))]
    rfl
theorem nextOf_at : ∀ {xs : List Int} (k : Nat), xs.Pairwise (· < ·) → k < xs.length → nextOf xs (xs.getD k 0 + 1) = xs.getD (k + 1) (-1)
  | [], k, _, h => by simp at h
  | x :: xs, 0, hp, _ => by
    rw [List.pairwise_cons] at hp
    unfold nextOf
    rw [List.getD_cons_zero, List.find?_cons_of_neg (by simp; omega), List.getD_cons_succ]
    exact nextOf_first (fun y hy => by have := hp.1 y hy; omega)
  | x :: xs, k + 1, hp, hk => by
    rw [List.pairwise_cons] at hp
    have hk' : k < xs.length := by simpa using hk
    have hm : xs.getD k 0 ∈ xs := by rw [List.getD_eq_getElem?_getD, List.getElem?_eq_getElem hk']; exact List.getElem_mem _
    have := hp.1 _ hm
    rw [List.getD_cons_succ, List.getD_cons_succ]
    unfold nextOf
    rw [List.find?_cons_of_neg (fun e => by have := of_decide_eq_true e; omega)]
    exact nextOf_at k hp.2 hk'
theorem next_found {n : Nat} {ws : List Nat} (h : Fine n ws) {z : Int} {m : Nat} (hb : bit ws m = true) (hz : z ≤ m) (hl : ∀ i : Nat, z ≤ i → i < m → bit ws i = false) : nextOf (nums ws) z = m := by
  refine nextOf_some ((mem_nums h _).2 ⟨by omega, by simpa using hb⟩) hz (fun x hx hzx => ?_) (nums_up _)
  obtain ⟨h1, h2⟩ := (mem_nums h _).1 hx
  apply Int.not_lt.1
  intro hlt
  have := hl x.toNat (by omega) (by omega)
  rw [h2] at this
  cases this
theorem next_none {n : Nat} {ws : List Nat} (h : Fine n ws) {z : Int} (hl : ∀ i : Nat, z ≤ i → bit ws i = false) : nextOf (nums ws) z = -1 := by
  refine nextOf_none (fun x hx hzx => ?_)
  obtain ⟨h1, h2⟩ := (mem_nums h _).1 hx
  have := hl x.toNat (by omega)
  rw [h2] at this
  cases this
/-- A word without its r lowest bits. -/
def high (x r : Nat) : Nat := x &&& (18446744073709551615 - (2 ^ r - 1))
theorem pow_one_lt {r : Nat} (hr : r < 64) : 2 ^ r - 1 < 18446744073709551616 := by
  have := Nat.pow_lt_pow_right (a := 2) (by omega) hr
  omega
theorem high_bit (x r b : Nat) (hr : r < 64) (hb : b < 64) : (high x r).testBit b = (x.testBit b && decide (r ≤ b)) := by
  unfold high
  rw [Nat.testBit_and, not_bit _ _ (pow_one_lt hr), Nat.testBit_two_pow_sub_one, show decide (b < 64) = true from decide_eq_true hb, Bool.true_and]
  congr 1
  by_cases h : b < r
  · rw [decide_eq_true h, decide_eq_false (by omega : ¬ r ≤ b)]; rfl
  · rw [decide_eq_false h, decide_eq_true (by omega : r ≤ b)]; rfl
theorem high_lt (x r : Nat) (hx : x < 18446744073709551616) : high x r < 18446744073709551616 := Nat.lt_of_le_of_lt Nat.and_le_left hx
theorem high_zero (x r b : Nat) (hr : r < 64) (h : high x r = 0) (h1 : r ≤ b) (h2 : b < 64) : x.testBit b = false := by
  have := high_bit x r b hr h2
  rw [h, Nat.zero_testBit, show decide (r ≤ b) = true from decide_eq_true h1, Bool.and_true] at this
  exact this.symm
theorem ctz_bit (x : Nat) (h0 : x ≠ 0) (hx : x < 18446744073709551616) : Lib.ctz 64 x < 64 ∧ x.testBit (Lib.ctz 64 x) = true ∧ ∀ b, b < Lib.ctz 64 x → x.testBit b = false := by
  obtain ⟨m, hm, hk⟩ := Lib.ctzFrom_spec 64 x (by omega) hx
  have e : Lib.ctz 64 x = Lib.ctzFrom 64 x := by simp [Lib.ctz, h0]
  rw [e]
  generalize Lib.ctzFrom 64 x = c at hm hk
  subst hm
  refine ⟨hk, ?_, fun b hb => ?_⟩
  · rw [Nat.mul_comm, Nat.testBit_mul_two_pow]
    simp [Nat.testBit_zero]
  · rw [Nat.mul_comm, Nat.testBit_mul_two_pow]
    simp; omega
theorem high_ctz (x r : Nat) (hr : r < 64) (hx : x < 18446744073709551616) (h0 : high x r ≠ 0) :
    Lib.ctz 64 (high x r) < 64 ∧ x.testBit (Lib.ctz 64 (high x r)) = true ∧ r ≤ Lib.ctz 64 (high x r) ∧ ∀ b, r ≤ b → b < Lib.ctz 64 (high x r) → x.testBit b = false := by
  obtain ⟨h1, h2, h3⟩ := ctz_bit _ h0 (high_lt x r hx)
  rw [high_bit _ _ _ hr h1, Bool.and_eq_true_iff] at h2
  refine ⟨h1, h2.1, of_decide_eq_true h2.2, fun b hb hlt => ?_⟩
  have := h3 b hlt
  rw [high_bit _ _ _ hr (by omega), show decide (r ≤ b) = true from decide_eq_true hb, Bool.and_true] at this
  exact this
end Go.Proofs.YtfloleflcoiidaaGreatDoor.bm
