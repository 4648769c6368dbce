/- Texts that this claim stands on. -/
import Derived.Lib.TrailingZeros
import Derived.Below
namespace Go.Proofs.YtkgdcgmbapchcaaGreatDoor.bm
open Go
def o1 (a : Nat) : Nat := (a / 2 &&& 85) + (a &&& 85)
def o2 (a : Nat) : Nat := (o1 a / 4 &&& 51) + (o1 a &&& 51)
def s1 (x : Nat) : Nat := (x / 2 &&& 6148914691236517205) + (x &&& 6148914691236517205)
end Go.Proofs.YtkgdcgmbapchcaaGreatDoor.bm
namespace Go.Proofs.YtkgdcgmbapchcaaGreatDoor.bm
open Go
def bit (ws : List Nat) (i : Nat) : Bool := (ws.getD (i / 64) 0).testBit (i % 64)
def Fine (n : Nat) (ws : List Nat) : Prop := ws.length = 32 ∧ (∀ k, ws.getD k 0 < 18446744073709551616) ∧ (∀ i, bit ws i = true → i < n) ∧ n ≤ 2048
def nums (ws : List Nat) : List Int := ((List.range 2048).filter (bit ws)).map fun i : Nat => (i : Int)
theorem mem_nums {n : Nat} {ws : List Nat} (h : Fine n ws) (z : Int) : z ∈ nums ws ↔ 0 ≤ z ∧ bit ws z.toNat = true := by
  unfold nums
  simp only [List.mem_map, List.mem_filter, List.mem_range]
  constructor
  · rintro ⟨i, ⟨_, h2⟩, rfl⟩
    exact ⟨by omega, by simpa using h2⟩
  · rintro ⟨h1, h2⟩
    have := h.2.2.1 _ h2
    have := h.2.2.2
    exact ⟨z.toNat, ⟨by omega, h2⟩, by omega⟩
theorem mem_nums_lt {n : Nat} {ws : List Nat} (h : Fine n ws) {z : Int} (hz : z ∈ nums ws) : 0 ≤ z ∧ z < n := by
  obtain ⟨h1, h2⟩ := (mem_nums h z).1 hz
  have := h.2.2.1 _ h2
  omega
theorem nums_up (ws : List Nat) : (nums ws).Pairwise (· < ·) := by
  unfold nums
  rw [List.pairwise_map]
  refine List.Pairwise.imp (R := fun a b => a < b) (fun h => by omega) ?_
  exact List.Pairwise.filter _ List.pairwise_lt_range
theorem nums_length (ws : List Nat) : (nums ws).length ≤ 2048 := by
  unfold nums
  rw [List.length_map]
  exact Nat.le_trans (List.length_filter_le _ _) (by simp)
theorem up_eq : ∀ {a b : List Int}, a.Pairwise (· < ·) → b.Pairwise (· < ·) → (∀ z, z ∈ a ↔ z ∈ b) → a = b
  | [], [], _, _, _ => rfl
  | [], y :: b, _, _, h => absurd ((h y).2 (by simp)) (by simp)
  | x :: a, [], _, _, h => absurd ((h x).1 (by simp)) (by simp)
  | x :: a, y :: b, ha, hb, h => by
    rw [List.pairwise_cons] at ha hb
    have e : x = y := by
      have h1 := (h x).1 (by simp)
      have h2 := (h y).2 (by simp)
      rcases List.mem_cons.1 h1 with h1 | h1
      · exact h1
      rcases List.mem_cons.1 h2 with h2 | h2
      · exact h2.symm
      have := hb.1 x h1
      have := ha.1 y h2
      omega
    subst e
    congr 1
    refine up_eq ha.2 hb.2 (fun z => ⟨fun hz => ?_, fun hz => ?_⟩)
    · have := ha.1 z hz
      rcases List.mem_cons.1 ((h z).1 (List.mem_cons_of_mem _ hz)) with h1 | h1
      · omega
      · exact h1
    · have := hb.1 z hz
      rcases List.mem_cons.1 ((h z).2 (List.mem_cons_of_mem _ hz)) with h1 | h1
      · omega
      · exact h1
def put (ws : List Nat) (i : Nat) : List Nat := ws.set (i / 64) (ws.getD (i / 64) 0 ||| 2 ^ (i % 64))
def cut (ws : List Nat) (i : Nat) : List Nat := ws.set (i / 64) (ws.getD (i / 64) 0 &&& (18446744073709551615 - 2 ^ (i % 64)))
theorem pow_lt (i : Nat) : 2 ^ (i % 64) < 18446744073709551616 := Nat.pow_lt_pow_right (a := 2) (by omega) (show i % 64 < 64 by omega)
theorem getD_set (ws : List Nat) (k j x : Nat) (hk : k < ws.length) : (ws.set k x).getD j 0 = if j = k then x else ws.getD j 0 := by
  simp only [List.getD_eq_getElem?_getD]
  by_cases h : j = k
  · subst h
    rw [if_pos rfl, List.getElem?_set_self hk]
    rfl
  · rw [if_neg h, List.getElem?_set_ne (by omega)]
theorem not_bit (y b : Nat) (hy : y < 18446744073709551616) : (18446744073709551615 - y).testBit b = (decide (b < 64) && !y.testBit b) := by
  have := Nat.testBit_two_pow_sub_succ (n := 64) (x := y) hy b
  rw [← this]
  congr 1
  omega
theorem bit_put (ws : List Nat) (i j : Nat) (hi : i / 64 < ws.length) : bit (put ws i) j = (bit ws j || decide (j = i)) := by
  unfold bit put
  rw [getD_set _ _ _ _ hi]
  by_cases h : j / 64 = i / 64
  · rw [if_pos h, Nat.testBit_or, Nat.testBit_two_pow, h]
    congr 1
    refine decide_eq_decide.2 ⟨fun e => ?_, fun e => by rw [e]⟩
    omega
  · rw [if_neg h, show decide (j = i) = false from decide_eq_false (fun e => h (by rw [e])), Bool.or_false]
theorem bit_cut (ws : List Nat) (i j : Nat) (hi : i / 64 < ws.length) : bit (cut ws i) j = (bit ws j && !decide (j = i)) := by
  unfold bit cut
  rw [getD_set _ _ _ _ hi]
  by_cases h : j / 64 = i / 64
  · rw [if_pos h, Nat.testBit_and, not_bit _ _ (pow_lt i), Nat.testBit_two_pow, h, show decide (j % 64 < 64) = true from decide_eq_true (by omega), Bool.true_and]
    congr 2
    refine decide_eq_decide.2 ⟨fun e => ?_, fun e => by rw [e]⟩
    omega
  · rw [if_neg h, show decide (j = i) = false from decide_eq_false (fun e => h (by rw [e])), Bool.not_false, Bool.and_true]
theorem or_lt (ws : List Nat) (i : Nat) (h : ∀ k, ws.getD k 0 < 18446744073709551616) : ws.getD (i / 64) 0 ||| 2 ^ (i % 64) < 18446744073709551616 := Nat.or_lt_two_pow (n := 64) (h _) (pow_lt i)
theorem and_lt (ws : List Nat) (i y : Nat) (h : ∀ k, ws.getD k 0 < 18446744073709551616) : ws.getD (i / 64) 0 &&& y < 18446744073709551616 := Nat.lt_of_le_of_lt Nat.and_le_left (h _)
theorem Fine.put {n : Nat} {ws : List Nat} (h : Fine n ws) {i : Nat} (hi : i < n) : Fine n (put ws i) := by
  have hl : i / 64 < ws.length := by have := h.1; have := h.2.2.2; omega
  refine ⟨by unfold bm.put; rw [List.length_set]; exact h.1, fun k => ?_, fun j hj => ?_, h.2.2.2⟩
  · unfold bm.put
    rw [getD_set _ _ _ _ hl]
    split
    · exact or_lt ws i h.2.1
    · exact h.2.1 k
  · rw [bit_put _ _ _ hl] at hj
    rcases Bool.or_eq_true_iff.1 hj with h1 | h1
    · exact h.2.2.1 j h1
    · have := of_decide_eq_true h1; omega
theorem Fine.cut {n : Nat} {ws : List Nat} (h : Fine n ws) {i : Nat} (hi : i < n) : Fine n (cut ws i) := by
  have hl : i / 64 < ws.length := by have := h.1; have := h.2.2.2; omega
  refine ⟨by unfold bm.cut; rw [List.length_set]; exact h.1, fun k => ?_, fun j hj => ?_, h.2.2.2⟩
  · unfold bm.cut
    rw [getD_set _ _ _ _ hl]
    split
    · exact and_lt ws i _ h.2.1
    · exact h.2.1 k
  · rw [bit_cut _ _ _ hl] at hj
    exact h.2.2.1 j (Bool.and_eq_true_iff.1 hj).1
def zeros : List Nat := List.replicate 32 0
theorem zeros_at (k : Nat) : zeros.getD k 0 = 0 := by
  unfold zeros
  rw [List.getD_eq_getElem?_getD, List.getElem?_replicate]
  split <;> rfl
theorem bit_zeros (i : Nat) : bit zeros i = false := by unfold bit; rw [zeros_at, Nat.zero_testBit]
theorem Fine.zeros {n : Nat} (h : n ≤ 2048) : Fine n zeros :=
  ⟨by simp [bm.zeros], fun k => (by rw [zeros_at]; omega), fun i hi => (by rw [bit_zeros] at hi; cases hi), h⟩
theorem nums_zeros : nums zeros = [] := by
  unfold nums
  rw [List.filter_eq_nil_iff.2 (fun i _ => by rw [bit_zeros]; simp)]
  rfl
theorem look_yes (x b : Nat) (h : x.testBit b = true) : x &&& 2 ^ b = 2 ^ b := by
  refine Nat.eq_of_testBit_eq (fun i => ?_)
  rw [Nat.testBit_and, Nat.testBit_two_pow]
  by_cases e : b = i
  · subst e; simp [h]
  · simp [e]
theorem look_no (x b : Nat) (h : x.testBit b = false) : x &&& 2 ^ b = 0 := by
  refine Nat.eq_of_testBit_eq (fun i => ?_)
  rw [Nat.testBit_and, Nat.testBit_two_pow, Nat.zero_testBit]
  by_cases e : b = i
  · subst e; simp [h]
  · simp [e]
def ins (out : List Int) (x : Int) : List Int := if x ∈ out then out else out.takeWhile (fun y => decide (y < x)) ++ x :: out.dropWhile (fun y => decide (y < x))
def rising (l : List Int) : List Int := l.foldl ins []
theorem mem_ins (out : List Int) (x z : Int) : z ∈ ins out x ↔ z ∈ out ∨ z = x := by
  unfold ins
  split
  · rename_i h
    exact ⟨.inl, fun h1 => h1.elim id (fun e => e ▸ h)⟩
  · have e : z ∈ out ↔ z ∈ out.takeWhile (fun y => decide (y < x)) ∨ z ∈ out.dropWhile (fun y => decide (y < x)) := by
      rw [← List.mem_append, List.takeWhile_append_dropWhile]
    rw [List.mem_append, List.mem_cons, e]
    constructor
    · rintro (h | h | h)
      · exact .inl (.inl h)
      · exact .inr h
      · exact .inl (.inr h)
    · rintro ((h | h) | h)
      · exact .inl h
      · exact .inr (.inr h)
      · exact .inr (.inl h)
theorem drop_ge : ∀ {out : List Int} {x : Int}, out.Pairwise (· < ·) → ∀ z ∈ out.dropWhile (fun y => decide (y < x)), x ≤ z
  | [], _, _, z, hz => by simp at hz
  | y :: out, x, h, z, hz => by
    rw [List.pairwise_cons] at h
    by_cases hy : y < x
    · rw [List.dropWhile_cons_of_pos (by simpa using hy)] at hz
      exact drop_ge h.2 z hz
    · rw [List.dropWhile_cons_of_neg (by simpa using hy)] at hz
      rcases List.mem_cons.1 hz with rfl | hz
      · omega
      · have := h.1 z hz; omega
theorem take_lt : ∀ {out : List Int} {x : Int}, ∀ z ∈ out.takeWhile (fun y => decide (y < x)), z < x
  | [], _, z, hz => by simp at hz
  | y :: out, x, z, hz => by
    by_cases hy : y < x
    · rw [List.takeWhile_cons_of_pos (by simpa using hy)] at hz
      rcases List.mem_cons.1 hz with rfl | hz
      · exact hy
      · exact take_lt z hz
    · rw [List.takeWhile_cons_of_neg (by simpa using hy)] at hz
      simp at hz
theorem ins_up {out : List Int} {x : Int} (h : out.Pairwise (· < ·)) : (ins out x).Pairwise (· < ·) := by
  unfold ins
  split
  · exact h
  · rename_i hx
    have hs := h
    rw [← List.takeWhile_append_dropWhile (p := fun y => decide (y < x)) (l := out), List.pairwise_append] at hs
    obtain ⟨h1, h2, h3⟩ := hs
    rw [List.pairwise_append, List.pairwise_cons]
    have g : ∀ z ∈ out.dropWhile (fun y => decide (y < x)), x < z := by
      intro z hz
      have := drop_ge h z hz
      have hne : z ≠ x := fun e => hx (e ▸ (List.dropWhile_sublist (fun y => decide (y < x))).subset hz)
      omega
    refine ⟨h1, ⟨g, h2⟩, fun a ha b hb => ?_⟩
    have := take_lt a ha
    rcases List.mem_cons.1 hb with rfl | hb
    · omega
    · have := g b hb; omega
theorem ins_length (out : List Int) (x : Int) : (ins out x).length ≤ out.length + 1 := by
  unfold ins
  split
  · omega
  · have := congrArg List.length (List.takeWhile_append_dropWhile (p := fun y => decide (y < x)) (l := out))
    rw [List.length_append] at this
    rw [List.length_append, List.length_cons]
    omega
theorem fold_up : ∀ (l : List Int) (out : List Int), out.Pairwise (· < ·) → (l.foldl ins out).Pairwise (· < ·)
  | [], _, h => h
  | _ :: l, _, h => fold_up l _ (ins_up h)
theorem mem_fold : ∀ (l out : List Int) (z : Int), z ∈ l.foldl ins out ↔ z ∈ out ∨ z ∈ l
  | [], _, _ => by simp
  | x :: l, out, z => by rw [List.foldl_cons, mem_fold l, mem_ins, List.mem_cons, or_assoc]
theorem rising_up (l : List Int) : (rising l).Pairwise (· < ·) := fold_up l [] .nil
theorem mem_rising (l : List Int) (z : Int) : z ∈ rising l ↔ z ∈ l := by unfold rising; rw [mem_fold]; simp
theorem nums_put {n : Nat} {ws : List Nat} (h : Fine n ws) {i : Nat} (hi : i < n) : rising (nums ws ++ [(i : Int)]) = nums (put ws i) := by
  refine up_eq (rising_up _) (nums_up _) (fun z => ?_)
  have hl : i / 64 < ws.length := by have := h.1; have := h.2.2.2; omega
  rw [mem_rising, List.mem_append, mem_nums h, mem_nums (h.put hi), bit_put _ _ _ hl, List.mem_singleton, Bool.or_eq_true_iff]
  constructor
  · rintro (⟨h1, h2⟩ | rfl)
    · exact ⟨h1, .inl h2⟩
    · exact ⟨by omega, .inr (decide_eq_true (by omega))⟩
  · rintro ⟨h1, h2 | h2⟩
    · exact .inl ⟨h1, h2⟩
    · have := of_decide_eq_true h2
      exact .inr (by omega)
theorem nums_cut {n : Nat} {ws : List Nat} (h : Fine n ws) {i : Nat} (hi : i < n) : (nums ws).filter (fun z => decide (z ≠ (i : Int))) = nums (cut ws i) := by
  refine up_eq ((nums_up _).filter _) (nums_up _) (fun z => ?_)
  have hl : i / 64 < ws.length := by have := h.1; have := h.2.2.2; omega
  rw [List.mem_filter, mem_nums h, mem_nums (h.cut hi), bit_cut _ _ _ hl, Bool.and_eq_true_iff]
  constructor
  · rintro ⟨⟨h1, h2⟩, h3⟩
    have := of_decide_eq_true h3
    refine ⟨h1, h2, ?_⟩
    rw [show decide (z.toNat = i) = false from decide_eq_false (by omega)]; rfl
  · rintro ⟨h1, h2, h3⟩
    refine ⟨⟨h1, h2⟩, decide_eq_true (fun e => ?_)⟩
    subst e
    simp at h3
theorem filter_all {xs : List Int} {z : Int} (h : z ∉ xs) : xs.filter (fun y => decide (y ≠ z)) = xs := by
  rw [List.filter_eq_self]
  intro y hy
  exact decide_eq_true (fun e => h (e ▸ hy))
def nextOf (xs : List Int) (z : Int) : Int := (xs.find? fun x => decide (z ≤ x)).getD (-1)
theorem nextOf_none {xs : List Int} {z : Int} (h : ∀ x ∈ xs, ¬ z ≤ x) : nextOf xs z = -1 := by
  unfold nextOf
  rw [List.find?_eq_none.2 (fun x hx => by simpa using h x hx)]
  rfl
theorem nextOf_some : ∀ {xs : List Int} {z m : Int}, m ∈ xs → z ≤ m → (∀ x ∈ xs, z ≤ x → m ≤ x) → xs.Pairwise (· < ·) → nextOf xs z = m
  | [], _, _, h, _, _, _ => by simp at h
  | x :: xs, z, m, h, hz, hl, hp => by
    rw [List.pairwise_cons] at hp
    unfold nextOf
    by_cases hx : z ≤ x
    · rw [List.find?_cons_of_pos (by simpa using hx)]
      have h1 := hl x (by simp) hx
      rcases List.mem_cons.1 h with rfl | h
      · rfl
      · have := hp.1 m h
        omega
    · rw [List.find?_cons_of_neg (by simpa using hx)]
      rcases List.mem_cons.1 h with rfl | h
      · omega
      · exact nextOf_some h hz (fun y hy => hl y (List.mem_cons_of_mem _ hy)) hp.2
theorem nextOf_first : ∀ {xs : List Int} {z : Int}, (∀ x ∈ xs, z ≤ x) → nextOf xs z = xs.getD 0 (-1)
  | [], _, _ => rfl
  | x :: xs, z, h => by
    unfold nextOf
    rw [List.find?_cons_of_pos (by simpa using h x (by simp))]
    rfl
theorem nextOf_at : ∀ {xs : List Int} (k : Nat), xs.Pairwise (· < ·) → k < xs.length → nextOf xs (xs.getD k 0 + 1) = xs.getD (k + 1) (-1)
  | [], k, _, h => by simp at h
  | x :: xs, 0, hp, _ => by
    rw [List.pairwise_cons] at hp
    unfold nextOf
    rw [List.getD_cons_zero, List.find?_cons_of_neg (by simp; omega), List.getD_cons_succ]
    exact nextOf_first (fun y hy => by have := hp.1 y hy; omega)
  | x :: xs, k + 1, hp, hk => by
    rw [List.pairwise_cons] at hp
    have hk' : k < xs.length := by simpa using hk
    have hm : xs.getD k 0 ∈ xs := by rw [List.getD_eq_getElem?_getD, List.getElem?_eq_getElem hk']; exact List.getElem_mem _
    have := hp.1 _ hm
    rw [List.getD_cons_succ, List.getD_cons_succ]
    unfold nextOf
    rw [List.find?_cons_of_neg (fun e => by have := of_decide_eq_true e; omega)]
    exact nextOf_at k hp.2 hk'
theorem next_found {n : Nat} {ws : List Nat} (h : Fine n ws) {z : Int} {m : Nat} (hb : bit ws m = true) (hz : z ≤ m) (hl : ∀ i : Nat, z ≤ i → i < m → bit ws i = false) : nextOf (nums ws) z = m := by
  refine nextOf_some ((mem_nums h _).2 ⟨by omega, by simpa using hb⟩) hz (fun x hx hzx => ?_) (nums_up _)
  obtain ⟨h1, h2⟩ := (mem_nums h _).1 hx
  apply Int.not_lt.1
  intro hlt
  have := hl x.toNat (by omega) (by omega)
  rw [h2] at this
  cases this
theorem next_none {n : Nat} {ws : List Nat} (h : Fine n ws) {z : Int} (hl : ∀ i : Nat, z ≤ i → bit ws i = false) : nextOf (nums ws) z = -1 := by
  refine nextOf_none (fun x hx hzx => ?_)
  obtain ⟨h1, h2⟩ := (mem_nums h _).1 hx
  have := hl x.toNat (by omega)
  rw [h2] at this
  cases this
def high (x r : Nat) : Nat := x &&& (18446744073709551615 - (2 ^ r - 1))
theorem pow_one_lt {r : Nat} (hr : r < 64) : 2 ^ r - 1 < 18446744073709551616 := by
  have := Nat.pow_lt_pow_right (a := 2) (by omega) hr
  omega
theorem high_bit (x r b : Nat) (hr : r < 64) (hb : b < 64) : (high x r).testBit b = (x.testBit b && decide (r ≤ b)) := by
  unfold high
  rw [Nat.testBit_and, not_bit _ _ (pow_one_lt hr), Nat.testBit_two_pow_sub_one, show decide (b < 64) = true from decide_eq_true hb, Bool.true_and]
  congr 1
  by_cases h : b < r
  · rw [decide_eq_true h, decide_eq_false (by omega : ¬ r ≤ b)]; rfl
  · rw [decide_eq_false h, decide_eq_true (by omega : r ≤ b)]; rfl
theorem high_lt (x r : Nat) (hx : x < 18446744073709551616) : high x r < 18446744073709551616 := Nat.lt_of_le_of_lt Nat.and_le_left hx
theorem high_zero (x r b : Nat) (hr : r < 64) (h : high x r = 0) (h1 : r ≤ b) (h2 : b < 64) : x.testBit b = false := by
  have := high_bit x r b hr h2
  rw [h, Nat.zero_testBit, show decide (r ≤ b) = true from decide_eq_true h1, Bool.and_true] at this
  exact this.symm
theorem ctz_bit (x : Nat) (h0 : x ≠ 0) (hx : x < 18446744073709551616) : Lib.ctz 64 x < 64 ∧ x.testBit (Lib.ctz 64 x) = true ∧ ∀ b, b < Lib.ctz 64 x → x.testBit b = false := by
  obtain ⟨m, hm, hk⟩ := Lib.ctzFrom_spec 64 x (by omega) hx
  have e : Lib.ctz 64 x = Lib.ctzFrom 64 x := by simp [Lib.ctz, h0]
  rw [e]
  generalize Lib.ctzFrom 64 x = c at hm hk
  subst hm
  refine ⟨hk, ?_, fun b hb => ?_⟩
  · rw [Nat.mul_comm, Nat.testBit_mul_two_pow]
    simp [Nat.testBit_zero]
  · rw [Nat.mul_comm, Nat.testBit_mul_two_pow]
    simp; omega
theorem high_ctz (x r : Nat) (hr : r < 64) (hx : x < 18446744073709551616) (h0 : high x r ≠ 0) :
    Lib.ctz 64 (high x r) < 64 ∧ x.testBit (Lib.ctz 64 (high x r)) = true ∧ r ≤ Lib.ctz 64 (high x r) ∧ ∀ b, r ≤ b → b < Lib.ctz 64 (high x r) → x.testBit b = false := by
  obtain ⟨h1, h2, h3⟩ := ctz_bit _ h0 (high_lt x r hx)
  rw [high_bit _ _ _ hr h1, Bool.and_eq_true_iff] at h2
  refine ⟨h1, h2.1, of_decide_eq_true h2.2, fun b hb hlt => ?_⟩
  have := h3 b hlt
  rw [high_bit _ _ _ hr (by omega), show decide (r ≤ b) = true from decide_eq_true hb, Bool.and_true] at this
  exact this
end Go.Proofs.YtkgdcgmbapchcaaGreatDoor.bm
