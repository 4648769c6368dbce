/- A chain as a plain list of free cells: what is taken and given, and what is built; the law's alive. -/
import Derived.Test.YtkkoiglfimibjaaDoorChF
namespace Go.Proofs.YtkkoiglfimibjaaDoor.ch
open Go.ChangeShapes Go.WideShapes Go.ChangeAt Go.RowKit gen calls cls geos mm
set_option linter.unusedVariables false

/-- From f on the words tell just these cells, in order. -/
def Ch (xs : List Int) (p k : Int) : Int → List Int → Prop
  | f, [] => f = cl k
  | f, x :: l => f = x ∧ (0 ≤ x ∧ x < cl k) ∧ x ∉ l ∧ Ch xs p k (lk xs p k x) l
theorem Ch.cells {xs : List Int} {p k : Int} : ∀ {l : List Int} {f : Int}, Ch xs p k f l → ∀ x ∈ l, 0 ≤ x ∧ x < cl k
  | [], _, _ => by simp
  | y :: l, f, h => fun x hx => by
    rcases List.mem_cons.1 hx with rfl | hx
    · exact h.2.1
    · exact Ch.cells h.2.2.2 x hx
theorem Ch.nodup {xs : List Int} {p k : Int} : ∀ {l : List Int} {f : Int}, Ch xs p k f l → l.Nodup
  | [], _, _ => List.nodup_nil
  | y :: l, f, h => List.nodup_cons.2 ⟨h.2.2.1, Ch.nodup h.2.2.2⟩
theorem Ch.few {xs : List Int} {p k f : Int} {l : List Int} (h : Ch xs p k f l) : (l.length : Int) ≤ cl k := by
  obtain ⟨n, hn⟩ : ∃ n : Nat, cl k = n := ⟨(cl k).toNat, by have := cl_wide k; omega⟩
  have := nodup_few n l h.nodup (fun x hx => by have := h.cells x hx; omega)
  omega
theorem Ch.wide {xs : List Int} {p k f : Int} {l : List Int} (h : Ch xs p k f l) : 0 ≤ f ∧ f ≤ cl k := by
  cases l with
  | nil => obtain rfl : f = cl k := h
           exact ⟨(cl_wide k).1, Int.le_refl _⟩
  | cons x l => obtain ⟨rfl, h1, _⟩ := h
                omega
theorem sq_shift (xs : List Int) (p k f : Int) : ∀ j, sq xs p k f (j + 1) = sq xs p k (lk xs p k f) j
  | 0 => rfl
  | j + 1 => by rw [sq, sq_shift xs p k f j]; rfl
theorem outs_shift (xs : List Int) (p k f : Int) (n : Nat) : outs xs p k f (n + 1) = f :: outs xs p k (lk xs p k f) n := by
  unfold outs
  rw [List.range_succ_eq_map, List.map_cons, List.map_map]
  congr 1
  apply List.map_congr_left
  intro j _
  exact sq_shift xs p k f j
theorem Ch.outs {xs : List Int} {p k : Int} : ∀ {l : List Int} {f : Int}, Ch xs p k f l → outs xs p k f l.length = l ∧ sq xs p k f l.length = cl k
  | [], f, h => ⟨rfl, h⟩
  | x :: l, f, h => by
    obtain ⟨rfl, h1, h2, h3⟩ := h
    have ih := Ch.outs h3
    rw [List.length_cons, outs_shift, sq_shift, ih.1, ih.2]
    exact ⟨rfl, rfl⟩
theorem Ch.whole {xs : List Int} {p k f : Int} {l : List Int} (h : Ch xs p k f l) : Whole xs p k f l.length :=
  ⟨⟨by rw [h.outs.1]; exact h.cells, by rw [h.outs.1]; exact h.nodup⟩, h.outs.2⟩
/-- Two cells of a page begin apart. -/
theorem apart {k i j : Int} {p : Nat} (hi : 0 ≤ i ∧ i < cl k) (hj : 0 ≤ j ∧ j < cl k) (h : ((p : Int) * 32 + i * sz k).toNat = ((p : Int) * 32 + j * sz k).toNat) : i = j := by
  have hk := cl_small hi.1 hi.2
  have z1 : sz 1 = 2 := rfl
  have z2 : sz 2 = 4 := rfl
  have z3 : sz 3 = 8 := rfl
  have z4 : sz 4 = 16 := rfl
  rcases hk with rfl | rfl | rfl | rfl
  all_goals
    simp only [z1, z2, z3, z4] at h
    omega
theorem wd_set {xs : List Int} {p : Nat} {k i j : Int} (hi : 0 ≤ i ∧ i < cl k) (hj : 0 ≤ j ∧ j < cl k) (v : Int) (hne : j ≠ i) : wd (xs.set ((p : Int) * 32 + i * sz k).toNat v) p k j = wd xs p k j := by
  unfold wd
  rw [List.getD_eq_getElem?_getD, List.getElem?_set_ne (fun e => hne (apart hj hi e.symm)), ← List.getD_eq_getElem?_getD]
theorem lk_set {xs : List Int} {p : Nat} {k i j : Int} (hi : 0 ≤ i ∧ i < cl k) (hj : 0 ≤ j ∧ j < cl k) (v : Int) (hne : j ≠ i) : lk (xs.set ((p : Int) * 32 + i * sz k).toNat v) p k j = lk xs p k j := by
  unfold lk
  rw [wd_set hi hj v hne]
/-- A write into a cell that is not one of them leaves the chain. -/
theorem Ch.set {xs : List Int} {p : Nat} {k i : Int} (hi : 0 ≤ i ∧ i < cl k) (v : Int) : ∀ {l : List Int} {f : Int}, Ch xs p k f l → i ∉ l → Ch (xs.set ((p : Int) * 32 + i * sz k).toNat v) p k f l
  | [], f, h, _ => h
  | x :: l, f, h, hn => by
    obtain ⟨rfl, h1, h2, h3⟩ := h
    refine ⟨rfl, h1, h2, ?_⟩
    rw [lk_set hi h1 v (fun e => hn (by simp [e]))]
    exact Ch.set hi v h3 (fun e => hn (by simp [e]))
/-- A cell that is given stands ahead. -/
theorem Ch.give {xs : List Int} {p : Nat} {k i f : Int} {l : List Int} (h : Ch xs p k f l) (hi : 0 ≤ i ∧ i < cl k) (hn : i ∉ l) (hx : (p : Int) * 32 + i * sz k < xs.length) : Ch (xs.set ((p : Int) * 32 + i * sz k).toNat (-1 - f)) p k i (i :: l) := by
  have hw := h.wide
  have hs := sz_wide k
  have h0 : 0 ≤ i * sz k := Int.mul_nonneg hi.1 hs.1
  have e : lk (xs.set ((p : Int) * 32 + i * sz k).toNat (-1 - f)) p k i = f := by
    have e1 : wd (xs.set ((p : Int) * 32 + i * sz k).toNat (-1 - f)) p k i = -1 - f := by
      unfold wd
      rw [set_getD _ _ _ _ (by omega), if_pos rfl]
    unfold lk
    rw [e1, if_pos (by omega)]
    omega
  refine ⟨rfl, hi, hn, ?_⟩
  rw [e]
  exact h.set hi _ hn
/-- The cells from j on, m of them. -/
def from_ (j : Nat) : Nat → List Int
  | 0 => []
  | m + 1 => (j : Int) :: from_ (j + 1) m
theorem from_mem {x : Int} : ∀ {m j : Nat}, x ∈ from_ j m → (j : Int) ≤ x ∧ x < j + m
  | 0, j, h => by simp [from_] at h
  | m + 1, j, h => by
    rcases List.mem_cons.1 h with rfl | h
    · omega
    · have := from_mem h
      omega
theorem from_length : ∀ (m j : Nat), (from_ j m).length = m
  | 0, j => rfl
  | m + 1, j => by rw [from_, List.length_cons, from_length m (j + 1)]
theorem from_more : ∀ (m j : Nat), from_ j (m + 1) = from_ j m ++ [((j + m : Nat) : Int)]
  | 0, j => rfl
  | m + 1, j => by
    rw [from_, from_more m (j + 1), from_, List.cons_append, show j + 1 + m = j + (m + 1) by omega]
/-- What was built. -/
theorem built_ch {xs : List Int} {p s c : Nat} {k : Int} (h1 : 1 ≤ k) (h2 : k ≤ 4) (hs : sz k = s) (hc : cl k = c) (hp : p * 32 + 32 ≤ xs.length) : ∀ m j, j + m = c → Ch (builtN xs p s c) p k j (from_ j m)
  | 0, j, h => by show (j : Int) = cl k; omega
  | m + 1, j, h => by
    obtain ⟨s', c', s1, c1, m1, m2, m3, m4, m5⟩ := sz_cl h1 h2
    obtain rfl : s' = s := by omega
    obtain rfl : c' = c := by omega
    have hj : j * s' + s' ≤ 32 := by
      have : (j + 1) * s' ≤ c' * s' := Nat.mul_le_mul_right _ (by omega)
      rw [Nat.add_mul, Nat.one_mul, Nat.mul_comm c'] at this
      omega
    refine ⟨rfl, by omega, fun hm => by have := from_mem hm; omega, ?_⟩
    have e : lk (builtN xs p s' c') p k j = ((j + 1 : Nat) : Int) := by
      have e1 : wd (builtN xs p s' c') p k j = -2 - j := by
        unfold wd
        rw [hs, show ((p : Int) * 32 + (j : Int) * s').toNat = p * 32 + j * s' by
          have : ((j * s' : Nat) : Int) = (j : Int) * s' := by simp
          omega]
        rw [builtN_getD _ _ _ _ m4 (by rw [Nat.mul_comm, m1]; omega) hp, if_pos (by omega), show p * 32 + j * s' - p * 32 = j * s' by omega, Nat.mul_mod_left, Nat.mul_div_cancel _ (by omega), if_pos ⟨rfl, by omega⟩]
      unfold lk
      rw [e1, if_pos (by omega)]
      omega
    rw [e]
    exact built_ch h1 h2 hs hc hp m (j + 1) (by omega)
theorem Bd.set {xs : List Int} (h : Bd xs) (a : Nat) {v : Int} (h1 : -9223372036854775808 ≤ v) (h2 : v ≤ 9223372036854775807) : Bd (xs.set a v) := fun i => by
  by_cases ha : a < xs.length
  · rw [set_getD _ _ _ _ ha]
    split
    · exact ⟨h1, h2⟩
    · exact h i
  · rw [List.set_eq_of_length_le (by omega)]
    exact h i
theorem Bd.fill {xs : List Int} (h : Bd xs) (a n : Nat) {v : Int} (hn : a + n ≤ xs.length) (h1 : -9223372036854775808 ≤ v) (h2 : v ≤ 9223372036854775807) : Bd (fillN xs a v n) := fun i => by
  rw [fillN_getD _ _ _ _ hn]
  split
  · exact ⟨h1, h2⟩
  · exact h i
theorem Bd.zeros (n : Nat) : Bd (List.replicate n 0) := fun i => by
  rw [List.getD_eq_getElem?_getD]
  by_cases h : i < n
  · simp [h]
  · simp [h]
theorem Bd.built {xs : List Int} (h : Bd xs) {p s : Nat} (hs : 2 ≤ s) (hp : p * 32 + 32 ≤ xs.length) (c : Nat) (hc : c * s ≤ 32) : Bd (builtN xs p s c) := fun i => by
  rw [builtN_getD _ _ _ _ hs hc hp]
  split
  · rename_i hi
    split
    · have h3 : (i - p * 32) / s ≤ 32 := Nat.le_trans (Nat.div_le_self _ _) (by omega)
      generalize (i - p * 32) / s = q at h3 ⊢
      omega
    · omega
  · exact h i

/-! ### alive -/
def al : List Int := builtN (List.replicate 64 0) 1 16 2
theorem al_set : al.set 32 (-1 - 1) = al := by decide +kernel
theorem al_bd : Bd al := Bd.built (Bd.zeros 64) (by decide) (by decide) 2 (by decide)
theorem al_ch : Ch al 1 4 0 [0, 1] := built_ch (xs := List.replicate 64 0) (p := 1) (s := 16) (c := 2) (k := 4) (by decide) (by decide) rfl rfl (by decide) 2 0 rfl
theorem al_lk : lk al 1 4 0 = 1 := by decide +kernel
theorem al_tk : tk al 1 4 0 2 = true := by decide +kernel
section
variable {w : World} {g r : Nat}
theorem al_bu (h : MemAt w g r (List.replicate 64 0)) : Calls Tryd.prog 47 #[.pointer (some ⟨g, 0, none⟩), .int .i64 1, .int .i64 4] w fun e w' => e = ansC 0 2 true ∧ MemAt w' g r al ∧ w.grownBy w' (some r) :=
  Build_yes h 1 16 2 4 rfl rfl (by decide)
theorem al_l1 (h : MemAt w g r al) : Calls Tryd.prog 66 #[.pointer (some ⟨g, 0, none⟩), .int .i64 32] w fun e w' => e = .returned (.tuple #[.int .i64 (-2), .bool true]) ∧ w = w' :=
  (show al.getD 32 0 = -2 by decide +kernel) ▸ Load_yes h 32 (by decide +kernel)
theorem al_l2 (h : MemAt w g r al) : Calls Tryd.prog 66 #[.pointer (some ⟨g, 0, none⟩), .int .i64 48] w fun e w' => e = .returned (.tuple #[.int .i64 (-3), .bool true]) ∧ w = w' :=
  (show al.getD 48 0 = -3 by decide +kernel) ▸ Load_yes h 48 (by decide +kernel)
theorem al_ta (h : MemAt w g r al) : Calls Tryd.prog 49 #[.pointer (some ⟨g, 0, none⟩), .int .i64 1, .int .i64 4, .agg #[.int .i64 0, .int .i64 2]] w fun e w' => e = ansT 0 1 1 true ∧ w.grownBy w' none := by
  have := Take_yes h al_bd 1 4 0 2 (by decide) (by decide) (by decide) al_tk
  rw [al_lk] at this
  exact this
theorem al_gi (h : MemAt w g r al) : Calls Tryd.prog 60 #[.pointer (some ⟨g, 0, none⟩), .int .i64 1, .int .i64 4, .agg #[.int .i64 1, .int .i64 1], .int .i64 0] w fun e w' => e = ansC 0 2 true ∧ MemAt w' g r al ∧ w.grownBy w' (some r) := by
  have := Give_yes 1 4 1 1 0 h (by decide) (by decide) (by decide +kernel)
  rw [show ((1 : Int) * 32 + 0 * sz 4).toNat = 32 from rfl, al_set] at this
  exact this
end
theorem rd_two (w : World) (x y : Int) (t : TypeId) {b : Nat} (h : w.heap.size = b) : Rd (w.alloc (.cells #[.int .i64 x, .int .i64 y] t)) (w.alloc (.cells #[.int .i64 x, .int .i64 y] t)).heap.size (some ⟨b, 0, none⟩) 2 2 [x, y] := by
  subst h
  refine ⟨rfl, fun e => (by cases e), fun ad e i hi => ?_⟩
  injection e with e
  subst e
  have : i = 0 ∨ i = 1 := by omega
  rcases this with rfl | rfl
  · exact ⟨by simp, by simp [go_sem]⟩
  · exact ⟨by simp, by rw [Addr.add_lit]; simp [go_sem]⟩
end Go.Proofs.YtkkoiglfimibjaaDoor.ch
