/- Layer 16's functions that read: all, has, Len, Empty; slices.Index, slices.Contains; a Put that is refused; nobody's. -/
import Derived.Test.YtljahpjdkkennaaBfA
namespace Go.Proofs.Ytljahpjdkkennaa.bf
open Go.ChangeShapes Go.WideShapes Go.ChangeAt Go.RowKit gen li
set_option linter.unusedVariables false
set_option maxHeartbeats 4000000
set_option maxRecDepth 100000

/-- Buffers that nobody made: nil, or empty. -/
def Nb (w : World) (p : Option Addr) : Prop := p = none ∨ ∃ g, p = some ⟨g, 0, none⟩ ∧ w.cell? ⟨g, 0, none⟩ = some (.slice none 0 0)
theorem Nb.nil (w : World) : Nb w none := .inl rfl
theorem Nb.new {w w' : World} {p : Option Addr} (h : Nb w p) (hg : w.grownBy w' none) : Nb w' p := by
  rcases h with h | ⟨g, h, hc⟩
  · exact .inl h
  · exact .inr ⟨g, h, hg.cell hc (by simp)⟩
def hs (n : Nat) (t : Int) : Bool := decide (0 ≤ t ∧ t < (n : Int))
section
variable {w w' : World} {g R : Nat} {us : List Value} {ls : List (List Int)} {p : Option Addr} {K : List Nat}
theorem all_nb (h : Nb w p) : Calls Try.prog 25 #[.pointer p] w fun r w' => r = .returned (.slice none 0 0) ∧ w = w' := by
  rcases h with rfl | ⟨g, rfl, hc⟩
  · go_enter Try.func25, Try.ntmps25
    go_wp2
    go_ret
    exact ⟨rfl, rfl⟩
  · go_enter Try.func25, Try.ntmps25
    go_wp2
    go_ret
    exact ⟨rfl, rfl⟩
theorem all_any (h : Bi w g R us ls) : Calls Try.prog 25 #[.pointer (some ⟨g, 0, none⟩)] w fun r w' => r = .returned (.slice (some ⟨R, 0, none⟩) ls.length ls.length) ∧ w = w' := by
  have c := h.c0
  generalize ls.length = n at c
  clear h
  go_enter Try.func25, Try.ntmps25
  go_wp2
  go_ret
  exact ⟨rfl, rfl⟩
theorem has_nb (h : Nb w p) (t : Int) : Calls Try.prog 22 #[.pointer p, .int .i64 t] w fun r w' => r = .returned (.bool false) ∧ w = w' := by
  have HA := Lib.hid (all_nb h)
  clear h
  by_cases h1 : t < 0
  · have t1 : decide (t ≥ 0) = false := by simpa using h1
    have t1' : decide ((0 : Int) ≤ t) = false := by simpa using h1
    go_enter Try.func22, Try.ntmps22
    go_wp2
    go_ret
    exact ⟨rfl, rfl⟩
  · have t1 : decide ((0 : Int) ≤ t) = true := by simpa using h1
    have t2 : decide (t < (0 : Int)) = false := by simpa using h1
    go_enter Try.func22, Try.ntmps22
    go_wp2_with (go_at_call 25; (with_reducible refine HA.out.mono ?_); rintro r w' ⟨rfl, rfl⟩)
    go_ret
    exact ⟨rfl, rfl⟩
theorem has_any (h : Bi w g R us ls) (t : Int) : Calls Try.prog 22 #[.pointer (some ⟨g, 0, none⟩), .int .i64 t] w fun r w' => r = .returned (.bool (hs ls.length t)) ∧ w = w' := by
  have HA := Lib.hid (all_any h)
  have HH := Lib.hid (show hs ls.length t = decide (0 ≤ t ∧ t < (ls.length : Int)) from rfl)
  generalize hs ls.length t = q at HH
  generalize ls.length = n at HA HH
  clear h
  by_cases h1 : t < 0
  · have t1 : decide (t ≥ 0) = false := by simpa using h1
    have t1' : decide ((0 : Int) ≤ t) = false := by simpa using h1
    go_enter Try.func22, Try.ntmps22
    go_wp2
    go_ret
    exact ⟨by rw [HH.out, decide_eq_false (by omega)]; rfl, rfl⟩
  · have t1 : decide ((0 : Int) ≤ t) = true := by simpa using h1
    by_cases h2 : t < n
    · have t2 : decide (t < (n : Int)) = true := by simpa using h2
      go_enter Try.func22, Try.ntmps22
      go_wp2_with (go_at_call 25; (with_reducible refine HA.out.mono ?_); rintro r w' ⟨rfl, rfl⟩)
      go_ret
      exact ⟨by rw [HH.out, decide_eq_true (by omega)]; rfl, rfl⟩
    · have t2 : decide (t < (n : Int)) = false := by simpa using h2
      go_enter Try.func22, Try.ntmps22
      go_wp2_with (go_at_call 25; (with_reducible refine HA.out.mono ?_); rintro r w' ⟨rfl, rfl⟩)
      go_ret
      exact ⟨by rw [HH.out, decide_eq_false (by omega)]; rfl, rfl⟩
theorem hs_in {n k : Nat} (h : k < n) : hs n k = true := decide_eq_true (by omega)
theorem hs_out {n : Nat} {t : Int} (h : t < 0 ∨ (n : Int) ≤ t) : hs n t = false := decide_eq_false (by omega)
/-! ### Len -/
theorem Len_nb (h : Nb w p) (t : Int) : Calls Try.prog 18 #[.pointer p, .int .i64 t] w fun r w' => r = .returned (.int .i64 0) ∧ w = w' := by
  have HB := Lib.hid (has_nb h t)
  clear h
  go_enter Try.func18, Try.ntmps18
  go_wp2_with (go_at_call 22; (with_reducible refine HB.out.mono ?_); rintro r w' ⟨rfl, rfl⟩)
  go_ret
  exact ⟨rfl, rfl⟩
theorem Len_out (h : Bf w K g ls) (t : Int) (ht : t < 0 ∨ (ls.length : Int) ≤ t) : Calls Try.prog 18 #[.pointer (some ⟨g, 0, none⟩), .int .i64 t] w fun r w' => r = .returned (.int .i64 0) ∧ w = w' := by
  obtain ⟨R, us, h, _⟩ := h
  have HA := has_any h t
  rw [hs_out ht] at HA
  have HB := Lib.hid HA
  clear h HA ht
  go_enter Try.func18, Try.ntmps18
  go_wp2_with (go_at_call 22; (with_reducible refine HB.out.mono ?_); rintro r w' ⟨rfl, rfl⟩)
  go_ret
  exact ⟨rfl, rfl⟩
theorem Len_in (h : Bf w K g ls) (k : Nat) (hk : k < ls.length) : Calls Try.prog 18 #[.pointer (some ⟨g, 0, none⟩), .int .i64 (k : Int)] w fun r w' => r = .returned (.int .i64 ((ls.getD k []).length : Int)) ∧ w = w' := by
  obtain ⟨R, us, h, _⟩ := h
  have HA := has_any h k
  rw [hs_in hk] at HA
  have c0 := h.c0
  have c1 := h.at_ hk
  obtain ⟨A, c, e⟩ := (h.each k hk).shape
  rw [e] at c1
  generalize (ls.getD k []).length = m at c1
  have h8 := h.ok.1
  have HB := Lib.hid HA
  clear h HA e
  generalize ls.length = n at c0 hk h8
  have k0 : (0 : Int) ≤ (k : Int) := by omega
  have k1 : (k : Int) < (n : Int) := by omega
  go_enter Try.func18, Try.ntmps18
  go_wp2_with (go_at_call 22; (with_reducible refine HB.out.mono ?_); rintro r w' ⟨rfl, rfl⟩)
  go_ret
  exact ⟨rfl, rfl⟩
/-! ### Empty -/
theorem empty1_any (A : Option Addr) (m c : Nat) (w : World) : Calls Try.prog 27 #[.slice A m c] w fun r w' => r = .returned (.bool (decide ((0 : Int) < (m : Int)))) ∧ w = w' := by
  go_enter Try.func27, Try.ntmps27
  go_wp2
  go_ret
  exact ⟨by simp, rfl⟩
theorem IndexFunc_nil (w : World) : Calls Try.prog 31 #[.slice none 0 0, .func (.func 27) #[] #[]] w fun e w' => e = .returned (.int .i64 (-1)) ∧ w' = w := by
  go_enter Try.func31, Try.ntmps31
  go_wp2
  go_loopw [8] (fun i wr => i = .int .i64 0 ∧ wr = w) (fun i _ => 0)
  case atStart => exact ⟨rfl, rfl⟩
  case round =>
    obtain ⟨rfl, rfl⟩ := hrel
    go_wp2
    go_ret
    exact ⟨rfl, rfl⟩
theorem IndexFunc_any (h : Bi w g R us ls) : Calls Try.prog 31 #[.slice (some ⟨R, 0, none⟩) ls.length ls.length, .func (.func 27) #[] #[]] w fun e w' => ∃ r : Int, e = .returned (.int .i64 r) ∧ decide (0 ≤ r) = decide (tot ls ≠ 0) ∧ w' = w := by
  have H := Lib.hid h
  obtain ⟨n, hn⟩ : ∃ n, n = ls.length := ⟨_, rfl⟩
  have h8 := h.ok.1
  have HN := Lib.hid hn
  rw [← hn]
  rw [← hn] at h8
  clear h hn
  go_enter Try.func31, Try.ntmps31
  go_wp2
  go_loopw [8] (fun i wr => ∃ k : Nat, k ≤ n ∧ i = .int .i64 k ∧ tot (ls.take k) = 0 ∧ wr = w) (fun i _ => n - (intOf i).toNat)
  case atStart => exact ⟨0, Nat.zero_le _, rfl, by simp [tot], rfl⟩
  case round =>
    obtain ⟨k, hk, rfl, hz, hw⟩ := hrel
    subst hw
    have HZ := Lib.hid hz
    clear hz
    by_cases hlt : k < n
    · have hkl : k < ls.length := by rw [← HN.out]; exact hlt
      have HK := Lib.hid hkl
      have c1 := H.out.at_ hkl
      obtain ⟨A, c, e⟩ := (H.out.each k hkl).shape
      rw [e] at c1
      generalize hm : (ls.getD k []).length = m at c1
      have HM := Lib.hid hm
      have k0 : (0 : Int) ≤ (k : Int) := by omega
      have k1 : (k : Int) < (n : Int) := by omega
      clear e hkl hm
      by_cases he : m = 0
      · have E0 := empty1_any A m c wr
        rw [show decide ((0 : Int) < (m : Int)) = false from decide_eq_false (by omega)] at E0
        have E1 := Lib.hid E0
        clear E0
        have HE := Lib.hid he
        clear he
        go_wp2_with (go_at_call 27; (with_reducible refine E1.out.mono ?_); rintro r w' ⟨rfl, rfl⟩)
        go_roundw
        case rel => exact ⟨k + 1, by omega, by go_num, by rw [tot_more HK.out, HZ.out, HM.out, HE.out], trivial⟩
        case measure => simp [intOf]; omega
      · have E0 := empty1_any A m c wr
        rw [show decide ((0 : Int) < (m : Int)) = true from decide_eq_true (by omega)] at E0
        have E1 := Lib.hid E0
        clear E0
        have HE := Lib.hid he
        clear he
        go_wp2_with (go_at_call 27; (with_reducible refine E1.out.mono ?_); rintro r w' ⟨rfl, rfl⟩)
        go_ret
        exact ⟨k, rfl, by rw [decide_eq_true (tot_zero HK.out (by rw [HM.out]; exact HE.out)), decide_eq_true (by omega)], rfl⟩
    · obtain rfl : k = n := by omega
      go_wp2
      go_ret
      have hz := HZ.out
      rw [tot_all (by rw [HN.out]; exact Nat.le_refl _)] at hz
      exact ⟨-1, rfl, by rw [hz]; rfl, rfl⟩
theorem ContainsFunc_nil (w : World) : Calls Try.prog 26 #[.slice none 0 0, .func (.func 27) #[] #[]] w fun e w' => e = .returned (.bool false) ∧ w' = w := by
  go_enter Try.func26, Try.ntmps26
  go_wp2_with (go_at_call 31; (with_reducible refine (IndexFunc_nil _).mono ?_); rintro r w' ⟨rfl, rfl⟩)
  go_ret
  exact ⟨rfl, rfl⟩
theorem ContainsFunc_any (h : Bi w g R us ls) : Calls Try.prog 26 #[.slice (some ⟨R, 0, none⟩) ls.length ls.length, .func (.func 27) #[] #[]] w fun e w' => e = .returned (.bool (decide (tot ls ≠ 0))) ∧ w' = w := by
  have H := Lib.hid (IndexFunc_any h)
  clear h
  generalize decide (tot ls ≠ 0) = b at *
  generalize ls.length = n at *
  go_enter Try.func26, Try.ntmps26
  go_wp2_with (go_at_call 31; (with_reducible refine H.out.mono ?_); rintro e w' ⟨r, rfl, hr, rfl⟩; subst hr)
  all_goals
    go_ret
    exact ⟨by simp [*], rfl⟩
theorem Empty_nb (h : Nb w p) : Calls Try.prog 16 #[.pointer p] w fun r w' => r = .returned (.bool true) ∧ w = w' := by
  have HA := Lib.hid (all_nb h)
  clear h
  go_enter Try.func16, Try.ntmps16
  go_wp2_with (first
    | (go_at_call 25; (with_reducible refine HA.out.mono ?_); rintro r w' ⟨rfl, rfl⟩)
    | (go_at_call 26; (with_reducible refine (ContainsFunc_nil _).mono ?_); rintro r w' ⟨rfl, rfl⟩))
  go_ret
  exact ⟨rfl, rfl⟩
theorem Empty_any (h : Bf w K g ls) : Calls Try.prog 16 #[.pointer (some ⟨g, 0, none⟩)] w fun r w' => r = .returned (.bool (decide (tot ls = 0))) ∧ w = w' := by
  obtain ⟨R, us, h, _⟩ := h
  have HA := Lib.hid (all_any h)
  have HC := Lib.hid (ContainsFunc_any h)
  have HD := Lib.hid (show (!decide (tot ls ≠ 0)) = decide (tot ls = 0) by by_cases e : tot ls = 0 <;> simp [e])
  clear h
  generalize decide (tot ls ≠ 0) = b at *
  generalize ls.length = n at *
  generalize decide (tot ls = 0) = b2 at *
  go_enter Try.func16, Try.ntmps16
  go_wp2_with (first
    | (go_at_call 25; (with_reducible refine HA.out.mono ?_); rintro r w' ⟨rfl, rfl⟩)
    | (go_at_call 26; (with_reducible refine HC.out.mono ?_); rintro r w' ⟨rfl, rfl⟩))
  go_ret
  exact ⟨by rw [← HD.out]; rfl, rfl⟩
/-! ### slices.Index, slices.Contains -/
theorem Index_any {w : World} {A : Option Addr} {n c B : Nat} {xs : List Int} (hs : n ≤ 4194304) (h : Rd w B A n c xs) (z : Int) :
    Calls Try.prog 30 #[.slice A n c, .int .i64 z] w fun e w' => ∃ r : Int, e = .returned (.int .i64 r) ∧ decide (0 ≤ r) = decide (z ∈ xs) ∧ w' = w := by
  have H := Lib.hid h
  clear h
  go_enter Try.func30, Try.ntmps30
  go_wp2
  go_loopw [8] (fun i wr => ∃ k : Nat, k ≤ n ∧ i = .int .i64 k ∧ z ∉ xs.take k ∧ wr = w) (fun i _ => n - (intOf i).toNat)
  case atStart => exact ⟨0, Nat.zero_le _, rfl, by simp, rfl⟩
  case round =>
    obtain ⟨k, hk, rfl, hz, hw⟩ := hrel
    subst hw
    have HZ := Lib.hid hz
    clear hz
    by_cases hlt : k < n
    · obtain ⟨b1, o1, rfl, g1⟩ := H.out.at_ hlt
      have HM := Lib.hid (li.getD_mem (xs := xs) (k := k) (by rw [H.out.1]; exact hlt) 0)
      have HT := Lib.hid (li.take_more (xs := xs) (k := k) (by rw [H.out.1]; exact hlt) 0)
      generalize xs.getD k 0 = x at g1 HM HT
      by_cases he : z = x
      · subst he
        go_wp2
        go_ret
        exact ⟨k, rfl, by rw [decide_eq_true HM.out]; simp, rfl⟩
      · have he1 : (z == x) = false := by simpa using he
        have HE := Lib.hid he
        clear he
        go_wp2
        go_roundw
        case rel => exact ⟨k + 1, by omega, by go_num, by rw [HT.out, List.mem_append]; exact fun h => h.elim HZ.out (fun h => HE.out (by simpa using h : z = x)), trivial⟩
        case measure => simp [intOf]; omega
    · obtain rfl : k = n := by omega
      go_wp2
      go_ret
      have hz := HZ.out
      rw [List.take_of_length_le (by rw [H.out.1]; omega)] at hz
      exact ⟨-1, rfl, by rw [decide_eq_false hz]; rfl, rfl⟩
theorem Contains_any {w : World} {A : Option Addr} {n c B : Nat} {xs : List Int} (hs : n ≤ 4194304) (h : Rd w B A n c xs) (z : Int) :
    Calls Try.prog 23 #[.slice A n c, .int .i64 z] w fun e w' => e = .returned (.bool (decide (z ∈ xs))) ∧ w' = w := by
  have H := Lib.hid (Index_any hs h z)
  clear h
  generalize decide (z ∈ xs) = b at *
  go_enter Try.func23, Try.ntmps23
  go_wp2_with (go_at_call 30; (with_reducible refine H.out.mono ?_); rintro e w' ⟨r, rfl, hr, rfl⟩; subst hr)
  all_goals
    go_ret
    exact ⟨by simp [*], rfl⟩
/-! ### Put, refused -/
theorem Put_nb (h : Nb w p) (t a : Int) : Calls Try.prog 11 #[.pointer p, .int .i64 t, .int .i64 a] w fun r w' => r = .returned (.bool false) ∧ w = w' := by
  have HB := Lib.hid (has_nb h t)
  clear h
  go_enter Try.func11, Try.ntmps11
  go_wp2_with (go_at_call 22; (with_reducible refine HB.out.mono ?_); rintro r w' ⟨rfl, rfl⟩)
  go_ret
  exact ⟨rfl, rfl⟩
theorem Put_out (h : Bf w K g ls) (t a : Int) (ht : t < 0 ∨ (ls.length : Int) ≤ t) : Calls Try.prog 11 #[.pointer (some ⟨g, 0, none⟩), .int .i64 t, .int .i64 a] w fun r w' => r = .returned (.bool false) ∧ w = w' := by
  obtain ⟨R, us, h, _⟩ := h
  have HA := has_any h t
  rw [hs_out ht] at HA
  have HB := Lib.hid HA
  clear h HA ht
  go_enter Try.func11, Try.ntmps11
  go_wp2_with (go_at_call 22; (with_reducible refine HB.out.mono ?_); rintro r w' ⟨rfl, rfl⟩)
  go_ret
  exact ⟨rfl, rfl⟩
theorem Put_no (h : Bf w K g ls) (k : Nat) (hk : k < ls.length) (a : Int) (ha : a < 0 ∨ 2048 ≤ a ∨ a ∈ ls.getD k []) : Calls Try.prog 11 #[.pointer (some ⟨g, 0, none⟩), .int .i64 (k : Int), .int .i64 a] w fun r w' => r = .returned (.bool false) ∧ w = w' := by
  obtain ⟨R, us, h, _⟩ := h
  have HA := has_any h k
  rw [hs_in hk] at HA
  have c0 := h.c0
  have c1 := h.at_ hk
  obtain ⟨A, c, e⟩ := (h.each k hk).shape
  have HR := h.each k hk
  rw [e] at c1 HR
  have HC := Contains_any (by have := h.ok.le k; omega) (HR.rd rfl) a
  have h8 := h.ok.1
  have HB := Lib.hid HA
  generalize (ls.getD k []).length = m at c1 HC
  clear h HA e HR
  have k0 : (0 : Int) ≤ (k : Int) := by omega
  by_cases a1 : a < 0
  · generalize ls.length = n at c0 hk h8
    have k1 : (k : Int) < (n : Int) := by omega
    have a1' : decide (a < 0) = true := decide_eq_true a1
    clear HC ha
    go_enter Try.func11, Try.ntmps11
    go_wp2_with (go_at_call 22; (with_reducible refine HB.out.mono ?_); rintro r w' ⟨rfl, rfl⟩)
    go_ret
    exact ⟨rfl, rfl⟩
  have a1' : decide (a < 0) = false := decide_eq_false a1
  by_cases a2 : 2048 ≤ a
  · generalize ls.length = n at c0 hk h8
    have k1 : (k : Int) < (n : Int) := by omega
    have a2' : decide (2048 ≤ a) = true := decide_eq_true a2
    clear HC ha
    go_enter Try.func11, Try.ntmps11
    go_wp2_with (go_at_call 22; (with_reducible refine HB.out.mono ?_); rintro r w' ⟨rfl, rfl⟩)
    go_ret
    exact ⟨rfl, rfl⟩
  have a2' : decide (2048 ≤ a) = false := decide_eq_false a2
  rw [show decide (a ∈ ls.getD k []) = true from decide_eq_true (by rcases ha with ha | ha | ha; exact absurd ha a1; exact absurd ha a2; exact ha)] at HC
  generalize ls.length = n at c0 hk h8
  have k1 : (k : Int) < (n : Int) := by omega
  have CO := Lib.hid HC
  clear HC ha
  go_enter Try.func11, Try.ntmps11
  go_wp2_with (first
    | (go_at_call 22; (with_reducible refine HB.out.mono ?_); rintro r w' ⟨rfl, rfl⟩)
    | (go_at_call 23; (with_reducible refine CO.out.mono ?_); rintro r w' ⟨rfl, rfl⟩))
  go_ret
  exact ⟨rfl, rfl⟩
end
end Go.Proofs.Ytljahpjdkkennaa.bf
