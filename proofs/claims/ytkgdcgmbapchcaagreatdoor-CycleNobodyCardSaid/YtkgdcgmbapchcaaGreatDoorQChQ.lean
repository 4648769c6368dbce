/- Texts that this claim stands on. -/
import Derived.BigQuiet
import Derived.Test.YtkgdcgmbapchcaaGreatDoorQChX
import Derived.Test.YtkgdcgmbapchcaaGreatDoorQGnQ
namespace Go.Proofs.YtkgdcgmbapchcaaGreatDoor.ch
open Go.ChangeShapes Go.WideShapes Go.ChangeAt Go.RowKit gen calls cls geos mm
set_option linter.unusedVariables false
theorem fillN_getD (xs : List Int) (a : Nat) (v : Int) (k : Nat) (h : a + k ≤ xs.length) (i : Nat) : (fillN xs a v k).getD i 0 = if a ≤ i ∧ i < a + k then v else xs.getD i 0 := by
  induction k with
  | zero => rw [if_neg (by omega)]; rfl
  | succ k ih =>
    have ih := ih (by omega)
    have hl := fillN_length xs a v k
    by_cases hi : i = a + k
    · subst hi
      rw [if_pos (by omega)]
      simp only [fillN, List.getD_eq_getElem?_getD]
      rw [List.getElem?_set_self (by omega)]
      simp
    · simp only [fillN, List.getD_eq_getElem?_getD] at ih ⊢
      rw [List.getElem?_set_ne (by omega), ih]
      by_cases h1 : a ≤ i ∧ i < a + k
      · rw [if_pos h1, if_pos (by omega)]
      · rw [if_neg h1, if_neg (by omega)]
theorem set_getD (xs : List Int) (a : Nat) (v : Int) (i : Nat) (h : a < xs.length) : (xs.set a v).getD i 0 = if i = a then v else xs.getD i 0 := by
  by_cases hi : i = a
  · subst hi
    rw [if_pos rfl, List.getD_eq_getElem?_getD, List.getElem?_set_self h]
    rfl
  · rw [if_neg hi, List.getD_eq_getElem?_getD, List.getElem?_set_ne (by omega), ← List.getD_eq_getElem?_getD]
def builtN (xs : List Int) (p s : Nat) : Nat → List Int
  | 0 => fillN xs (p * 32) 0 32
  | j + 1 => (builtN xs p s j).set (p * 32 + j * s) (-1 - ((j : Int) + 1))
theorem builtN_length (xs : List Int) (p s j : Nat) : (builtN xs p s j).length = xs.length := by
  induction j with
  | zero => exact fillN_length _ _ _ _
  | succ j ih => simp [builtN, ih]
theorem builtN_getD (xs : List Int) (p s j : Nat) (hs : 2 ≤ s) (hj : j * s ≤ 32) (h : p * 32 + 32 ≤ xs.length) (i : Nat) :
    (builtN xs p s j).getD i 0 = if p * 32 ≤ i ∧ i < p * 32 + 32 then (if (i - p * 32) % s = 0 ∧ (i - p * 32) / s < j then -2 - (((i - p * 32) / s : Nat) : Int) else 0) else xs.getD i 0 := by
  induction j with
  | zero =>
    rw [builtN, fillN_getD _ _ _ _ h]
    by_cases hi : p * 32 ≤ i ∧ i < p * 32 + 32
    · rw [if_pos hi, if_pos hi, if_neg (fun h => Nat.not_lt_zero _ h.2)]
    · rw [if_neg hi, if_neg hi]
  | succ j ih =>
    have hj1 : j * s + s ≤ 32 := by rw [Nat.add_mul, Nat.one_mul] at hj; exact hj
    have ih := ih (by omega)
    rw [builtN, set_getD _ _ _ _ (by rw [builtN_length]; omega), ih]
    by_cases hi : i = p * 32 + j * s
    · subst hi
      rw [if_pos rfl, if_pos (by omega), show p * 32 + j * s - p * 32 = j * s by omega, Nat.mul_mod_left, Nat.mul_div_cancel _ (by omega), if_pos ⟨rfl, by omega⟩]
      omega
    · rw [if_neg hi]
      by_cases hp : p * 32 ≤ i ∧ i < p * 32 + 32
      · rw [if_pos hp, if_pos hp]
        have e := Nat.div_add_mod (i - p * 32) s
        by_cases hm : (i - p * 32) % s = 0
        · have hne : (i - p * 32) / s ≠ j := by
            intro hh
            rw [hh, hm, Nat.mul_comm] at e
            omega
          by_cases hlt : (i - p * 32) / s < j
          · rw [if_pos ⟨hm, hlt⟩, if_pos ⟨hm, by omega⟩]
          · rw [if_neg (by omega), if_neg (by omega)]
        · rw [if_neg (by omega), if_neg (by omega)]
      · rw [if_neg hp, if_neg hp]
theorem Fill_page {g r : Nat} {xs : List Int} {w : World} (h : MemAt w g r xs) (p : Nat) (hyes : p * 32 + 32 ≤ xs.length) :
    Calls Tryz.prog 281 #[.pointer (some ⟨g, 0, none⟩), .int .i64 ((p : Int) * 32), .int .i64 32, .int .i64 0] w fun e w' => e = .returned (.bool true) ∧ MemAt w' g r (fillN xs (p * 32) 0 32) ∧ w.grownBy w' (some r) := by
  have := Fill_yes h (p * 32) 32 0 hyes
  rw [show ((p * 32 : Nat) : Int) = (p : Int) * 32 by omega] at this
  exact this
theorem Build_yes {g r : Nat} {xs : List Int} {w : World} (h : MemAt w g r xs) (p s c : Nat) (k : Int) (hs : sz k = s) (hc : cl k = c) (hy : thk xs.length p k = true) :
    Calls Tryz.prog 299 #[.pointer (some ⟨g, 0, none⟩), .int .i64 p, .int .i64 k] w fun e w' => e = ansC 0 c true ∧ MemAt w' g r (builtN xs p s c) ∧ w.grownBy w' (some r) := by
  obtain ⟨p0, p1, k0, k1, hl⟩ := thk_iff.mp hy
  have hp : fits p = true := by simp [fits]; omega
  have hk : fits k = true := by simp [fits]; omega
  obtain ⟨s', c', s1, c1, m1, m2, m3, m4, m5⟩ := sz_cl k0 k1
  obtain rfl : s' = s := by omega
  obtain rfl : c' = c := by omega
  have F1 : Hid (fits 1 = true) := by simp [Lib.hid, fits]
  have q : enk p 1 = true := enk_iff.mpr (by omega)
  have q1 : enf p 1 = p * 32 := by unfold enf; rw [if_pos q]
  have q2 : enl p 1 = p * 32 + 1 * 32 - 1 := by unfold enl; rw [if_pos q]
  have HP := Lib.hid hp
  have HK := Lib.hid hk
  have T1 := Lib.hid hy
  have HL := Lib.hid (show p * 32 + 32 ≤ xs.length by omega)
  have G0 := Lib.hid (World.grownBy_alloc w (.cells #[.int .i64 0, .int .i64 0] 194) none)
  have HR := Lib.hid h.lt
  have H := Lib.hid (h.kept G0.out (by simp) (by simp))
  have D0 := Lib.hid (Two.new w 194 0 0 rfl)
  have AT := Lib.hid (fun (j : Nat) (hj : j < c') => at_nat (i := j) p0 p1 (by omega) (by rw [hc]; omega))
  have MU := Lib.hid (fun (j : Nat) (hj : j < c') => show j * s' + s' ≤ 32 by
    have : (j + 1) * s' ≤ c' * s' := Nat.mul_le_mul_right _ (by omega)
    rw [Nat.add_mul, Nat.one_mul, Nat.mul_comm c'] at this
    omega)
  clear hp hk hy h hl m1 k0 k1
  go_enter Tryz.func299, Tryz.ntmps299
  go_wp2_with (first
    | (go_at_call 294; (with_reducible refine (there_any H.out _ _ HP.out HK.out).mono ?_); rintro e w' ⟨rfl, rfl⟩; rw [T1.out])
    | (go_at_call 279; (with_reducible refine (ends_any _ _ _ HP.out F1.out).mono ?_); rintro e w' ⟨rfl, rfl⟩; rw [q, q1, q2])
    | (go_at_call 223; (with_reducible refine (cells_any _ _ HK.out).mono ?_); rintro e w' ⟨rfl, rfl⟩; rw [hc])
    | (go_at_call 281; (with_reducible refine (Fill_page H.out p HL.out).mono ?_); rintro e w2 ⟨rfl, hm, hg⟩; have M2 := Lib.hid hm; have G2 := Lib.hid (grown_then G0.out hg); have D2 := Lib.hid (D0.out.kept hg (by have := HR.out.2; simp; omega)); clear hm hg))
  go_loopw [33] (fun i wr => ∃ j : Nat, j ≤ c' ∧ i = .int .i64 j ∧ MemAt wr g r (builtN xs p s' j) ∧ w.grownBy wr (some r) ∧ Two wr w.heap.size 0 0) (fun i _ => c' - (intOf i).toNat)
  case atStart => exact ⟨0, Nat.zero_le _, rfl, M2.out, G2.out, D2.out⟩
  case round =>
    obtain ⟨j, hj, rfl, hm, hg, hd⟩ := hrel
    have HM := Lib.hid hm
    have HG := Lib.hid hg
    have HD := Lib.hid hd
    obtain ⟨d0, d1, d2, d3⟩ := hd
    clear hm hg
    by_cases hlt : j < c'
    · obtain ⟨e1, a, e2, e3, e4, e5, e6⟩ := AT.out j hlt
      have mu := MU.out j hlt
      have ha : a = p * 32 + j * s' := by rw [s1] at e4; omega
      have HA := Lib.hid (show a < (builtN xs p s' j).length by rw [builtN_length]; have := HL.out; omega)
      have HE := Lib.hid (show (builtN xs p s' j).set a (-1 - ((j : Int) + 1)) = builtN xs p s' (j + 1) by rw [ha]; rfl)
      clear e3 e4 e5 e6 ha mu
      go_wp2_with (first
        | (go_at_call 263; (with_reducible refine (at_any _ _ _ _ HP.out HK.out).mono ?_); rintro e w' ⟨rfl, rfl⟩; rw [e1, e2])
        | (go_at_call 317; (with_reducible refine (tell_any _ _ (by omega) (by omega)).mono ?_); rintro e w' ⟨rfl, rfl⟩)
        | (go_at_call 235; (with_reducible refine (Store_yes HM.out a _ HA.out).mono ?_); rintro e w4 ⟨rfl, hm, hg⟩; have M4 := Lib.hid hm; have G4 := Lib.hid (HG.out.trans hg); have D4 := Lib.hid (HD.out.kept hg (by have := HR.out.2; simp; omega)); clear hm hg))
      go_roundw
      case rel => exact ⟨j + 1, by omega, by go_num, HE.out ▸ M4.out, G4.out, D4.out⟩
      case measure => simp [intOf]; omega
    · obtain rfl : j = c' := by omega
      go_wp2
      refine bodyPost_ret (v := .tuple #[.agg #[.int .i64 0, .int .i64 j], .bool true]) ?_ rfl ⟨rfl, ?_, ?_⟩
      · simp [results, Tryz.results299, go_sem, *]
      · exact (HM.out.setc (by have := HR.out.1; omega) (by have := HR.out.2; omega) _ _).setc (by have := HR.out.1; omega) (by have := HR.out.2; omega) _ _
      · exact grown_setc (grown_setc HG.out (Nat.le_refl _) _ _) (Nat.le_refl _) _ _
end Go.Proofs.YtkgdcgmbapchcaaGreatDoor.ch
namespace Go.Proofs.YtkgdcgmbapchcaaGreatDoor.ch
open Go.ChangeShapes Go.WideShapes Go.ChangeAt Go.RowKit gen calls cls geos mm
set_option linter.unusedVariables false
theorem nodup_few : ∀ (n : Nat) (l : List Int), l.Nodup → (∀ x ∈ l, 0 ≤ x ∧ x < n) → l.length ≤ n
  | 0, l, _, h => by
    cases l with
    | nil => simp
    | cons x l => have := h x (by simp); omega
  | n + 1, l, hd, h => by
    by_cases hm : (n : Int) ∈ l
    · have h1 := nodup_few n (l.erase (n : Int)) (hd.erase _) (fun x hx => by
        have h2 := (hd.mem_erase_iff).1 hx
        have h3 := h x h2.2
        have := h2.1
        omega)
      rw [List.length_erase_of_mem hm] at h1
      omega
    · have h1 := nodup_few n l hd (fun x hx => by
        have h3 := h x hx
        have : x ≠ n := fun e => hm (e ▸ hx)
        omega)
      omega
theorem grown_row {w w1 : World} {B : Nat} (h : w.grownBy w1 (some B)) (k : Nat) (v : Value) : w.grownBy (w1.setCell ⟨B, k, none⟩ v) (some B) :=
  ⟨h.os, h.tape, h.output, by simpa using h.size, fun i hi hne => (heap_setCell_other w1 ⟨B, k, none⟩ i v (by simpa using hne)).trans (h.block i hi hne)⟩
end Go.Proofs.YtkgdcgmbapchcaaGreatDoor.ch
namespace Go.Proofs.YtkgdcgmbapchcaaGreatDoor.ch
open Go.ChangeShapes Go.WideShapes Go.ChangeAt Go.RowKit gen calls cls geos mm
set_option linter.unusedVariables false
end Go.Proofs.YtkgdcgmbapchcaaGreatDoor.ch
namespace Go.Proofs.YtkgdcgmbapchcaaGreatDoor.ch
open Go.ChangeShapes Go.WideShapes Go.ChangeAt Go.RowKit gen calls cls geos mm
set_option linter.unusedVariables false
end Go.Proofs.YtkgdcgmbapchcaaGreatDoor.ch
namespace Go.Proofs.YtkgdcgmbapchcaaGreatDoor.ch
open Go.ChangeShapes Go.WideShapes Go.ChangeAt Go.RowKit gen calls cls geos mm
set_option linter.unusedVariables false
def Ch (xs : List Int) (p k : Int) : Int → List Int → Prop
  | f, [] => f = cl k
  | f, x :: l => f = x ∧ (0 ≤ x ∧ x < cl k) ∧ x ∉ l ∧ Ch xs p k (lk xs p k x) l
theorem Ch.cells {xs : List Int} {p k : Int} : ∀ {l : List Int} {f : Int}, Ch xs p k f l → ∀ x ∈ l, 0 ≤ x ∧ x < cl k
  | [], _, _ => by simp
  | y :: l, f, h => fun x hx => by
    rcases List.mem_cons.1 hx with rfl | hx
    · exact h.2.1
    · exact Ch.cells h.2.2.2 x hx
theorem Ch.nodup {xs : List Int} {p k : Int} : ∀ {l : List Int} {f : Int}, Ch xs p k f l → l.Nodup
  | [], _, _ => List.nodup_nil
  | y :: l, f, h => List.nodup_cons.2 ⟨h.2.2.1, Ch.nodup h.2.2.2⟩
theorem Ch.few {xs : List Int} {p k f : Int} {l : List Int} (h : Ch xs p k f l) : (l.length : Int) ≤ cl k := by
  obtain ⟨n, hn⟩ : ∃ n : Nat, cl k = n := ⟨(cl k).toNat, by have := cl_wide k; omega⟩
  have := nodup_few n l h.nodup (fun x hx => by have := h.cells x hx; omega)
  omega
theorem Ch.wide {xs : List Int} {p k f : Int} {l : List Int} (h : Ch xs p k f l) : 0 ≤ f ∧ f ≤ cl k := by
  cases l with
  | nil => obtain rfl : f = cl k := h
           exact ⟨(cl_wide k).1, Int.le_refl _⟩
  | cons x l => obtain ⟨rfl, h1, _⟩ := h
                omega
theorem apart {k i j : Int} {p : Nat} (hi : 0 ≤ i ∧ i < cl k) (hj : 0 ≤ j ∧ j < cl k) (h : ((p : Int) * 32 + i * sz k).toNat = ((p : Int) * 32 + j * sz k).toNat) : i = j := by
  have hk := cl_small hi.1 hi.2
  have z1 : sz 1 = 2 := rfl
  have z2 : sz 2 = 4 := rfl
  have z3 : sz 3 = 8 := rfl
  have z4 : sz 4 = 16 := rfl
  rcases hk with rfl | rfl | rfl | rfl
  all_goals
    simp only [z1, z2, z3, z4] at h
    omega
theorem wd_set {xs : List Int} {p : Nat} {k i j : Int} (hi : 0 ≤ i ∧ i < cl k) (hj : 0 ≤ j ∧ j < cl k) (v : Int) (hne : j ≠ i) : wd (xs.set ((p : Int) * 32 + i * sz k).toNat v) p k j = wd xs p k j := by
  unfold wd
  rw [List.getD_eq_getElem?_getD, List.getElem?_set_ne (fun e => hne (apart hj hi e.symm)), ← List.getD_eq_getElem?_getD]
theorem lk_set {xs : List Int} {p : Nat} {k i j : Int} (hi : 0 ≤ i ∧ i < cl k) (hj : 0 ≤ j ∧ j < cl k) (v : Int) (hne : j ≠ i) : lk (xs.set ((p : Int) * 32 + i * sz k).toNat v) p k j = lk xs p k j := by
  unfold lk
  rw [wd_set hi hj v hne]
theorem Ch.set {xs : List Int} {p : Nat} {k i : Int} (hi : 0 ≤ i ∧ i < cl k) (v : Int) : ∀ {l : List Int} {f : Int}, Ch xs p k f l → i ∉ l → Ch (xs.set ((p : Int) * 32 + i * sz k).toNat v) p k f l
  | [], f, h, _ => h
  | x :: l, f, h, hn => by
    obtain ⟨rfl, h1, h2, h3⟩ := h
    refine ⟨rfl, h1, h2, ?_⟩
    rw [lk_set hi h1 v (fun e => hn (by simp [e]))]
    exact Ch.set hi v h3 (fun e => hn (by simp [e]))
theorem Ch.give {xs : List Int} {p : Nat} {k i f : Int} {l : List Int} (h : Ch xs p k f l) (hi : 0 ≤ i ∧ i < cl k) (hn : i ∉ l) (hx : (p : Int) * 32 + i * sz k < xs.length) : Ch (xs.set ((p : Int) * 32 + i * sz k).toNat (-1 - f)) p k i (i :: l) := by
  have hw := h.wide
  have hs := sz_wide k
  have h0 : 0 ≤ i * sz k := Int.mul_nonneg hi.1 hs.1
  have e : lk (xs.set ((p : Int) * 32 + i * sz k).toNat (-1 - f)) p k i = f := by
    have e1 : wd (xs.set ((p : Int) * 32 + i * sz k).toNat (-1 - f)) p k i = -1 - f := by
      unfold wd
      rw [set_getD _ _ _ _ (by omega), if_pos rfl]
    unfold lk
    rw [e1, if_pos (by omega)]
    omega
  refine ⟨rfl, hi, hn, ?_⟩
  rw [e]
  exact h.set hi _ hn
def from_ (j : Nat) : Nat → List Int
  | 0 => []
  | m + 1 => (j : Int) :: from_ (j + 1) m
theorem from_mem {x : Int} : ∀ {m j : Nat}, x ∈ from_ j m → (j : Int) ≤ x ∧ x < j + m
  | 0, j, h => by simp [from_] at h
  | m + 1, j, h => by
    rcases List.mem_cons.1 h with rfl | h
    · omega
    · have := from_mem h
      omega
theorem from_length : ∀ (m j : Nat), (from_ j m).length = m
  | 0, j => rfl
  | m + 1, j => by rw [from_, List.length_cons, from_length m (j + 1)]
theorem built_ch {xs : List Int} {p s c : Nat} {k : Int} (h1 : 1 ≤ k) (h2 : k ≤ 4) (hs : sz k = s) (hc : cl k = c) (hp : p * 32 + 32 ≤ xs.length) : ∀ m j, j + m = c → Ch (builtN xs p s c) p k j (from_ j m)
  | 0, j, h => by show (j : Int) = cl k; omega
  | m + 1, j, h => by
    obtain ⟨s', c', s1, c1, m1, m2, m3, m4, m5⟩ := sz_cl h1 h2
    obtain rfl : s' = s := by omega
    obtain rfl : c' = c := by omega
    have hj : j * s' + s' ≤ 32 := by
      have : (j + 1) * s' ≤ c' * s' := Nat.mul_le_mul_right _ (by omega)
      rw [Nat.add_mul, Nat.one_mul, Nat.mul_comm c'] at this
      omega
    refine ⟨rfl, by omega, fun hm => by have := from_mem hm; omega, ?_⟩
    have e : lk (builtN xs p s' c') p k j = ((j + 1 : Nat) : Int) := by
      have e1 : wd (builtN xs p s' c') p k j = -2 - j := by
        unfold wd
        rw [hs, show ((p : Int) * 32 + (j : Int) * s').toNat = p * 32 + j * s' by
          have : ((j * s' : Nat) : Int) = (j : Int) * s' := by simp
          omega]
        rw [builtN_getD _ _ _ _ m4 (by rw [Nat.mul_comm, m1]; omega) hp, if_pos (by omega), show p * 32 + j * s' - p * 32 = j * s' by omega, Nat.mul_mod_left, Nat.mul_div_cancel _ (by omega), if_pos ⟨rfl, by omega⟩]
      unfold lk
      rw [e1, if_pos (by omega)]
      omega
    rw [e]
    exact built_ch h1 h2 hs hc hp m (j + 1) (by omega)
theorem Bd.set {xs : List Int} (h : Bd xs) (a : Nat) {v : Int} (h1 : -9223372036854775808 ≤ v) (h2 : v ≤ 9223372036854775807) : Bd (xs.set a v) := fun i => by
  by_cases ha : a < xs.length
  · rw [set_getD _ _ _ _ ha]
    split
    · exact ⟨h1, h2⟩
    · exact h i
  · rw [List.set_eq_of_length_le (by omega)]
    exact h i
theorem Bd.fill {xs : List Int} (h : Bd xs) (a n : Nat) {v : Int} (hn : a + n ≤ xs.length) (h1 : -9223372036854775808 ≤ v) (h2 : v ≤ 9223372036854775807) : Bd (fillN xs a v n) := fun i => by
  rw [fillN_getD _ _ _ _ hn]
  split
  · exact ⟨h1, h2⟩
  · exact h i
theorem Bd.zeros (n : Nat) : Bd (List.replicate n 0) := fun i => by
  rw [List.getD_eq_getElem?_getD]
  by_cases h : i < n
  · simp [h]
  · simp [h]
theorem Bd.built {xs : List Int} (h : Bd xs) {p s : Nat} (hs : 2 ≤ s) (hp : p * 32 + 32 ≤ xs.length) (c : Nat) (hc : c * s ≤ 32) : Bd (builtN xs p s c) := fun i => by
  rw [builtN_getD _ _ _ _ hs hc hp]
  split
  · rename_i hi
    split
    · have h3 : (i - p * 32) / s ≤ 32 := Nat.le_trans (Nat.div_le_self _ _) (by omega)
      generalize (i - p * 32) / s = q at h3 ⊢
      omega
    · omega
  · exact h i
section
variable {w : World} {g r : Nat}
end
end Go.Proofs.YtkgdcgmbapchcaaGreatDoor.ch
