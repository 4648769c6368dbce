/- The walk of layer 10's law on what is put. -/
import Derived.Test.YtngicaainjoljaaHdB
namespace Go.Proofs.Ytngicaainjoljaa.hd
open Go.ChangeShapes Go.WideShapes Go.ChangeAt Go.RowKit gen mm
set_option linter.unusedVariables false

theorem fillN_getD (xs : List Int) (a : Nat) (v : Int) (k : Nat) (h : a + k ≤ xs.length) (i : Nat) : (fillN xs a v k).getD i 0 = if a ≤ i ∧ i < a + k then v else xs.getD i 0 := by
  induction k with
  | zero => rw [if_neg (by omega)]; rfl
  | succ k ih =>
    have ih := ih (by omega)
    have hl := fillN_length xs a v k
    by_cases hi : i = a + k
    · subst hi
      rw [if_pos (by omega)]
      simp only [fillN, List.getD_eq_getElem?_getD]
      rw [List.getElem?_set_self (by omega)]
      rfl
    · simp only [fillN, List.getD_eq_getElem?_getD] at ih ⊢
      rw [List.getElem?_set_ne (by omega), ih]
      by_cases h1 : a ≤ i ∧ i < a + k
      · rw [if_pos h1, if_pos (by omega)]
      · rw [if_neg h1, if_neg (by omega)]
theorem fill_all (k : Nat) (v : Int) : fillN (List.replicate k 0) 0 v k = List.replicate k v := by
  refine ext_getD (by rw [fillN_length]; simp) (fun i hi => ?_)
  rw [fillN_length, List.length_replicate] at hi
  rw [fillN_getD _ _ _ _ (by simp), if_pos (by omega)]
  simp [List.getD_eq_getElem?_getD, hi]
theorem Fill_all {g r k : Nat} {w : World} (h : MemAt w g r (List.replicate k 0)) (v : Int) :
    Calls Try.prog 11 #[.pointer (some ⟨g, 0, none⟩), .int .i64 0, .int .i64 k, .int .i64 v] w fun e w' => e = .returned (.bool true) ∧ MemAt w' g r (List.replicate k v) ∧ w.grownBy w' (some r) :=
  (Fill_yes h 0 k v (by simp)).mono fun _ _ ⟨h1, h2, h3⟩ => ⟨h1, by rw [← fill_all]; exact h2, h3⟩
theorem mm_rd_own {w : World} {base n c : Nat} {A : Option Addr} {xs : List Int} (h : w.ownsRow base 2 1 (.slice A n c) n (ints xs)) : Rd w w.heap.size A n c xs := by
  obtain ⟨A', c', e, hr⟩ := Rd.of_own h
  injection e with h1 h2 h3
  subst h1 h3
  exact hr
theorem All_len {g r k : Nat} {xs : List Int} {w : World} (h : MemAt w g r xs) (hk : xs.length = k) :
    Calls Try.prog 15 #[.pointer (some ⟨g, 0, none⟩)] w fun e w' => ∃ A c, e = .returned (.slice A k c) ∧ Rd w' w'.heap.size A k c xs ∧ w.grownBy w' none := by
  subst hk
  exact (All_yes h).mono fun _ _ ⟨A, c, h1, h2, h3⟩ => ⟨A, c, h1, mm_rd_own h2, h3⟩
theorem rep_getD (k i : Nat) (v : Int) (h : i < k) : (List.replicate k v).getD i 0 = v := by simp [List.getD_eq_getElem?_getD, h]
theorem rep_not (k : Nat) (a : Int) : ¬ Obj (List.replicate k (-1)) a := by
  rintro ⟨i, _, h1, h2⟩
  by_cases hi : i < k
  · rw [rep_getD _ _ _ hi] at h1; exact absurd h1.1 (by decide)
  · simp [List.getD_eq_getElem?_getD, hi] at h2
theorem rep_fit (k : Nat) : Fit (List.replicate k (-1)) := by
  intro i
  by_cases hi : i < k
  · rw [rep_getD _ _ _ hi]; omega
  · simp [List.getD_eq_getElem?_getD, hi]
theorem set_at (k a i : Nat) (x : Int) (h : i < k) : ((List.replicate k (-1)).set a x).getD i 0 = if i = a then x else -1 := by
  rw [List.getD_eq_getElem?_getD]
  by_cases hi : i = a
  · subst hi; rw [List.getElem?_set_self (by simpa using h), if_pos rfl]; rfl
  · rw [List.getElem?_set_ne (by omega), if_neg hi]; simp [h]
/-- What is put is read. -/
theorem Read_put {g r k : Nat} {w : World} {a : Nat} {s n : Int} (h : MemAt w g r ((List.replicate k (-1)).set a (s * 128 + n))) (hm : May s n) (hl : (a : Int) + n < k) :
    Calls Try.prog 13 #[.pointer (some ⟨g, 0, none⟩), .int .i64 a] w fun e w' => e = .returned (.tuple #[.int .i64 s, .int .i64 n, .bool true]) ∧ w = w' := by
  obtain ⟨h1, h2, h3, h4⟩ := hm
  have e := set_at k a a (s * 128 + n) (by omega)
  rw [if_pos rfl] at e
  have := Read_yes h a (by rw [e]; constructor <;> omega) (by rw [e]; simp; omega)
  rw [e, got3, show (s * 128 + n) / 128 = s by omega, show (s * 128 + n) % 128 = n by omega] at this
  exact this

set_option maxRecDepth 100000 in
set_option maxHeartbeats 4000000 in
theorem puts_may (k0 a s n i : Int) (k : Nat) (w : World) (hk : near k0 0 300 = k) (hk3 : k ≤ 300) (hm : ¬ May s n) :
    Calls Try.prog 4 #[.int .i64 k0, .int .i64 a, .int .i64 s, .int .i64 n, .int .i64 i] w fun e w' => e = .returned (.bool true) ∧ w.grownBy w' none := by
  have HK := Lib.hid hk
  have HK2 : Hid (near (k : Int) 0 2048 = (k : Nat)) := Lib.hid (near_id k (by omega))
  have HML := Lib.hid (show (List.replicate k (-1)).length = k by simp)
  have HGET := Lib.hid (show ∀ q : Nat, q < k → (List.replicate k (-1)).getD q 0 = -1 from fun q h => rep_getD k q (-1) h)
  clear hk
  have HM := Lib.hid hm
  have HN := Lib.hid (show ¬ (May s n ∧ 0 ≤ a ∧ a + n < (List.replicate k (-1 : Int)).length) from fun h => hm h.1)
  clear hm
  go_enter Try.func4, Try.ntmps4
  go_wp2_with (first
    | (go_at_call 6; (with_reducible refine (alive_any _).mono ?_); rintro e w1 ⟨rfl, hg⟩; have G1 := Lib.hid hg; clear hg)
    | (go_at_call 9; (with_reducible refine (Near_any _ _ _ _).mono ?_); rintro e w' ⟨rfl, rfl⟩; rw [HK.out])
    | (go_at_call 10; (with_reducible refine (New_any _ _ HK2.out _).mono ?_); rintro e w2 ⟨g, r, rfl, hm, hg, hr, hw⟩; have M2 := Lib.hid hm; have G2 := Lib.hid (G1.out.trans hw); have HR := Lib.hid (show w.heap.size ≤ r from Nat.le_trans G1.out.size hr); clear hm hw hg hr)
    | (go_at_call 11; (with_reducible refine (Fill_all M2.out _).mono ?_); rintro e w3 ⟨rfl, hm, hg⟩; have M3 := Lib.hid hm; have G3 := Lib.hid (grown_new G2.out hg HR.out); clear hm hg)
    | (go_at_call 7; (with_reducible refine (Make_no _ _ _ HM.out).mono ?_); rintro e w' ⟨rfl, rfl⟩)
    | (go_at_call 12; (with_reducible refine (Put_no M3.out _ _ _ HN.out).mono ?_); rintro e w' ⟨rfl, rfl⟩)
    | (go_at_call 13; (with_reducible refine (Read_no M3.out (rep_fit k) _ (rep_not k _)).mono ?_); rintro e w' ⟨rfl, rfl⟩)
    | (go_at_call 14; (with_reducible refine (Field_no _ _ _ _ _ _ _ (by omega) (Read_no M3.out (rep_fit k) _ (rep_not k _))).mono ?_); rintro e w' ⟨rfl, rfl⟩)
    | (go_at_call 15; (with_reducible refine (All_len M3.out HML.out).mono ?_); rintro e w5 ⟨A5, c5, rfl, hr5, hg⟩; have R5 := Lib.hid hr5; have G5 := Lib.hid (G3.out.trans hg); clear hr5 hg))
  go_loop [21] (fun v => ∃ q : Nat, q ≤ k ∧ v = .int .i64 q) (fun v => k - (intOf v).toNat)
  case atStart => exact ⟨0, Nat.zero_le _, rfl⟩
  case round =>
    obtain ⟨q, hq, rfl⟩ := hrel
    by_cases hlt : q < k
    · obtain ⟨b1, o1, rfl, g1⟩ := R5.out.at_ hlt
      rw [HGET.out q hlt] at g1
      go_wp2
      go_round
      case rel => exact ⟨q + 1, by omega, by go_num⟩
      case measure => simp [intOf]; omega
    · go_wp2
      go_ret
      exact ⟨rfl, G5.out⟩
set_option maxRecDepth 100000 in
set_option maxHeartbeats 4000000 in
theorem puts_lo (k0 a s n i : Int) (k : Nat) (w : World) (hk : near k0 0 300 = k) (hk3 : k ≤ 300) (hm : May s n) (ha : a < 0) :
    Calls Try.prog 4 #[.int .i64 k0, .int .i64 a, .int .i64 s, .int .i64 n, .int .i64 i] w fun e w' => e = .returned (.bool true) ∧ w.grownBy w' none := by
  have HK := Lib.hid hk
  have HK2 : Hid (near (k : Int) 0 2048 = (k : Nat)) := Lib.hid (near_id k (by omega))
  have HML := Lib.hid (show (List.replicate k (-1)).length = k by simp)
  have HGET := Lib.hid (show ∀ q : Nat, q < k → (List.replicate k (-1)).getD q 0 = -1 from fun q h => rep_getD k q (-1) h)
  clear hk
  have HM := Lib.hid hm
  have HN := Lib.hid (show ¬ (May s n ∧ 0 ≤ a ∧ a + n < (List.replicate k (-1 : Int)).length) from fun h => by have h1 := h.1; have h2 := h.2; rw [List.length_replicate] at h2; unfold May at h1; omega)
  obtain ⟨hm1, hm2, hm3, hm4⟩ := hm
  go_enter Try.func4, Try.ntmps4
  go_wp2_with (first
    | (go_at_call 6; (with_reducible refine (alive_any _).mono ?_); rintro e w1 ⟨rfl, hg⟩; have G1 := Lib.hid hg; clear hg)
    | (go_at_call 9; (with_reducible refine (Near_any _ _ _ _).mono ?_); rintro e w' ⟨rfl, rfl⟩; rw [HK.out])
    | (go_at_call 10; (with_reducible refine (New_any _ _ HK2.out _).mono ?_); rintro e w2 ⟨g, r, rfl, hm, hg, hr, hw⟩; have M2 := Lib.hid hm; have G2 := Lib.hid (G1.out.trans hw); have HR := Lib.hid (show w.heap.size ≤ r from Nat.le_trans G1.out.size hr); clear hm hw hg hr)
    | (go_at_call 11; (with_reducible refine (Fill_all M2.out _).mono ?_); rintro e w3 ⟨rfl, hm, hg⟩; have M3 := Lib.hid hm; have G3 := Lib.hid (grown_new G2.out hg HR.out); clear hm hg)
    | (go_at_call 7; (with_reducible refine (Make_yes _ _ _ HM.out).mono ?_); rintro e w' ⟨rfl, rfl⟩)
    | (go_at_call 12; (with_reducible refine (Put_no M3.out _ _ _ HN.out).mono ?_); rintro e w' ⟨rfl, rfl⟩)
    | (go_at_call 13; (with_reducible refine (Read_no M3.out (rep_fit k) _ (rep_not k _)).mono ?_); rintro e w' ⟨rfl, rfl⟩)
    | (go_at_call 14; (with_reducible refine (Field_no _ _ _ _ _ _ _ (by omega) (Read_no M3.out (rep_fit k) _ (rep_not k _))).mono ?_); rintro e w' ⟨rfl, rfl⟩)
    | (go_at_call 15; (with_reducible refine (All_len M3.out HML.out).mono ?_); rintro e w5 ⟨A5, c5, rfl, hr5, hg⟩; have R5 := Lib.hid hr5; have G5 := Lib.hid (G3.out.trans hg); clear hr5 hg))
  go_loop [21] (fun v => ∃ q : Nat, q ≤ k ∧ v = .int .i64 q) (fun v => k - (intOf v).toNat)
  case atStart => exact ⟨0, Nat.zero_le _, rfl⟩
  case round =>
    obtain ⟨q, hq, rfl⟩ := hrel
    by_cases hlt : q < k
    · obtain ⟨b1, o1, rfl, g1⟩ := R5.out.at_ hlt
      rw [HGET.out q hlt] at g1
      go_wp2
      go_round
      case rel => exact ⟨q + 1, by omega, by go_num⟩
      case measure => simp [intOf]; omega
    · go_wp2
      go_ret
      exact ⟨rfl, G5.out⟩
set_option maxRecDepth 100000 in
set_option maxHeartbeats 4000000 in
theorem puts_hi (k0 a s n i : Int) (k : Nat) (w : World) (hk : near k0 0 300 = k) (hk3 : k ≤ 300) (hm : May s n) (ha : k ≤ a) :
    Calls Try.prog 4 #[.int .i64 k0, .int .i64 a, .int .i64 s, .int .i64 n, .int .i64 i] w fun e w' => e = .returned (.bool true) ∧ w.grownBy w' none := by
  have HK := Lib.hid hk
  have HK2 : Hid (near (k : Int) 0 2048 = (k : Nat)) := Lib.hid (near_id k (by omega))
  have HML := Lib.hid (show (List.replicate k (-1)).length = k by simp)
  have HGET := Lib.hid (show ∀ q : Nat, q < k → (List.replicate k (-1)).getD q 0 = -1 from fun q h => rep_getD k q (-1) h)
  clear hk
  have HM := Lib.hid hm
  have HN := Lib.hid (show ¬ (May s n ∧ 0 ≤ a ∧ a + n < (List.replicate k (-1 : Int)).length) from fun h => by have h1 := h.1; have h2 := h.2; rw [List.length_replicate] at h2; unfold May at h1; omega)
  obtain ⟨hm1, hm2, hm3, hm4⟩ := hm
  go_enter Try.func4, Try.ntmps4
  go_wp2_with (first
    | (go_at_call 6; (with_reducible refine (alive_any _).mono ?_); rintro e w1 ⟨rfl, hg⟩; have G1 := Lib.hid hg; clear hg)
    | (go_at_call 9; (with_reducible refine (Near_any _ _ _ _).mono ?_); rintro e w' ⟨rfl, rfl⟩; rw [HK.out])
    | (go_at_call 10; (with_reducible refine (New_any _ _ HK2.out _).mono ?_); rintro e w2 ⟨g, r, rfl, hm, hg, hr, hw⟩; have M2 := Lib.hid hm; have G2 := Lib.hid (G1.out.trans hw); have HR := Lib.hid (show w.heap.size ≤ r from Nat.le_trans G1.out.size hr); clear hm hw hg hr)
    | (go_at_call 11; (with_reducible refine (Fill_all M2.out _).mono ?_); rintro e w3 ⟨rfl, hm, hg⟩; have M3 := Lib.hid hm; have G3 := Lib.hid (grown_new G2.out hg HR.out); clear hm hg)
    | (go_at_call 7; (with_reducible refine (Make_yes _ _ _ HM.out).mono ?_); rintro e w' ⟨rfl, rfl⟩)
    | (go_at_call 12; (with_reducible refine (Put_no M3.out _ _ _ HN.out).mono ?_); rintro e w' ⟨rfl, rfl⟩)
    | (go_at_call 13; (with_reducible refine (Read_no M3.out (rep_fit k) _ (rep_not k _)).mono ?_); rintro e w' ⟨rfl, rfl⟩)
    | (go_at_call 14; (with_reducible refine (Field_no _ _ _ _ _ _ _ (by omega) (Read_no M3.out (rep_fit k) _ (rep_not k _))).mono ?_); rintro e w' ⟨rfl, rfl⟩)
    | (go_at_call 15; (with_reducible refine (All_len M3.out HML.out).mono ?_); rintro e w5 ⟨A5, c5, rfl, hr5, hg⟩; have R5 := Lib.hid hr5; have G5 := Lib.hid (G3.out.trans hg); clear hr5 hg))
  go_loop [21] (fun v => ∃ q : Nat, q ≤ k ∧ v = .int .i64 q) (fun v => k - (intOf v).toNat)
  case atStart => exact ⟨0, Nat.zero_le _, rfl⟩
  case round =>
    obtain ⟨q, hq, rfl⟩ := hrel
    by_cases hlt : q < k
    · obtain ⟨b1, o1, rfl, g1⟩ := R5.out.at_ hlt
      rw [HGET.out q hlt] at g1
      go_wp2
      go_round
      case rel => exact ⟨q + 1, by omega, by go_num⟩
      case measure => simp [intOf]; omega
    · go_wp2
      go_ret
      exact ⟨rfl, G5.out⟩
set_option maxRecDepth 100000 in
set_option maxHeartbeats 4000000 in
theorem puts_cut (k0 a s n i : Int) (k : Nat) (w : World) (hk : near k0 0 300 = k) (hk3 : k ≤ 300) (hm : May s n) (ha : 0 ≤ a ∧ a < k) (hc : k ≤ a + n) :
    Calls Try.prog 4 #[.int .i64 k0, .int .i64 a, .int .i64 s, .int .i64 n, .int .i64 i] w fun e w' => e = .returned (.bool true) ∧ w.grownBy w' none := by
  have HK := Lib.hid hk
  have HK2 : Hid (near (k : Int) 0 2048 = (k : Nat)) := Lib.hid (near_id k (by omega))
  have HML := Lib.hid (show (List.replicate k (-1)).length = k by simp)
  have HGET := Lib.hid (show ∀ q : Nat, q < k → (List.replicate k (-1)).getD q 0 = -1 from fun q h => rep_getD k q (-1) h)
  clear hk
  have HM := Lib.hid hm
  have HN := Lib.hid (show ¬ (May s n ∧ 0 ≤ a ∧ a + n < (List.replicate k (-1 : Int)).length) from fun h => by have h1 := h.1; have h2 := h.2; rw [List.length_replicate] at h2; unfold May at h1; omega)
  obtain ⟨hm1, hm2, hm3, hm4⟩ := hm
  obtain ⟨ha1, ha2⟩ := ha
  have hc2 : decide (n < (k : Int) - a) = false := decide_eq_false (by omega)
  go_enter Try.func4, Try.ntmps4
  go_wp2_with (first
    | (go_at_call 6; (with_reducible refine (alive_any _).mono ?_); rintro e w1 ⟨rfl, hg⟩; have G1 := Lib.hid hg; clear hg)
    | (go_at_call 9; (with_reducible refine (Near_any _ _ _ _).mono ?_); rintro e w' ⟨rfl, rfl⟩; rw [HK.out])
    | (go_at_call 10; (with_reducible refine (New_any _ _ HK2.out _).mono ?_); rintro e w2 ⟨g, r, rfl, hm, hg, hr, hw⟩; have M2 := Lib.hid hm; have G2 := Lib.hid (G1.out.trans hw); have HR := Lib.hid (show w.heap.size ≤ r from Nat.le_trans G1.out.size hr); clear hm hw hg hr)
    | (go_at_call 11; (with_reducible refine (Fill_all M2.out _).mono ?_); rintro e w3 ⟨rfl, hm, hg⟩; have M3 := Lib.hid hm; have G3 := Lib.hid (grown_new G2.out hg HR.out); clear hm hg)
    | (go_at_call 7; (with_reducible refine (Make_yes _ _ _ HM.out).mono ?_); rintro e w' ⟨rfl, rfl⟩)
    | (go_at_call 12; (with_reducible refine (Put_no M3.out _ _ _ HN.out).mono ?_); rintro e w' ⟨rfl, rfl⟩)
    | (go_at_call 13; (with_reducible refine (Read_no M3.out (rep_fit k) _ (rep_not k _)).mono ?_); rintro e w' ⟨rfl, rfl⟩)
    | (go_at_call 14; (with_reducible refine (Field_no _ _ _ _ _ _ _ (by omega) (Read_no M3.out (rep_fit k) _ (rep_not k _))).mono ?_); rintro e w' ⟨rfl, rfl⟩)
    | (go_at_call 15; (with_reducible refine (All_len M3.out HML.out).mono ?_); rintro e w5 ⟨A5, c5, rfl, hr5, hg⟩; have R5 := Lib.hid hr5; have G5 := Lib.hid (G3.out.trans hg); clear hr5 hg))
  go_loop [21] (fun v => ∃ q : Nat, q ≤ k ∧ v = .int .i64 q) (fun v => k - (intOf v).toNat)
  case atStart => exact ⟨0, Nat.zero_le _, rfl⟩
  case round =>
    obtain ⟨q, hq, rfl⟩ := hrel
    by_cases hlt : q < k
    · obtain ⟨b1, o1, rfl, g1⟩ := R5.out.at_ hlt
      rw [HGET.out q hlt] at g1
      go_wp2
      go_round
      case rel => exact ⟨q + 1, by omega, by go_num⟩
      case measure => simp [intOf]; omega
    · go_wp2
      go_ret
      exact ⟨rfl, G5.out⟩
set_option maxRecDepth 100000 in
set_option maxHeartbeats 4000000 in
theorem puts_f (k0 s n i : Int) (k : Nat) (a : Nat) (w : World) (hk : near k0 0 300 = k) (hk3 : k ≤ 300) (hm : May s n) (hl : (a : Int) + n < k) (hi : 0 ≤ i ∧ i < n) :
    Calls Try.prog 4 #[.int .i64 k0, .int .i64 a, .int .i64 s, .int .i64 n, .int .i64 i] w fun e w' => e = .returned (.bool true) ∧ w.grownBy w' none := by
  have HK := Lib.hid hk
  have HK2 : Hid (near (k : Int) 0 2048 = (k : Nat)) := Lib.hid (near_id k (by omega))
  have HML := Lib.hid (show ((List.replicate k (-1)).set a (s * 128 + n)).length = k by simp)
  have HGET := Lib.hid (show ∀ q : Nat, q < k → ((List.replicate k (-1)).set a (s * 128 + n)).getD q 0 = if q = a then s * 128 + n else -1 from fun q h => set_at k a q _ h)
  clear hk
  have HM := Lib.hid hm
  have HL := Lib.hid hl
  obtain ⟨hm1, hm2, hm3, hm4⟩ := hm
  have hl2 : n < (k : Int) - a := by omega
  have HL2 := Lib.hid (show (a : Int) + n < (List.replicate k (-1 : Int)).length by simpa using hl)
  have HI := Lib.hid (show 0 ≤ i ∧ i < n ∧ n < 128 by omega)
  obtain ⟨hi1, hi2⟩ := hi
  go_enter Try.func4, Try.ntmps4
  go_wp2_with (first
    | (go_at_call 6; (with_reducible refine (alive_any _).mono ?_); rintro e w1 ⟨rfl, hg⟩; have G1 := Lib.hid hg; clear hg)
    | (go_at_call 9; (with_reducible refine (Near_any _ _ _ _).mono ?_); rintro e w' ⟨rfl, rfl⟩; rw [HK.out])
    | (go_at_call 10; (with_reducible refine (New_any _ _ HK2.out _).mono ?_); rintro e w2 ⟨g, r, rfl, hm, hg, hr, hw⟩; have M2 := Lib.hid hm; have G2 := Lib.hid (G1.out.trans hw); have HR := Lib.hid (show w.heap.size ≤ r from Nat.le_trans G1.out.size hr); clear hm hw hg hr)
    | (go_at_call 11; (with_reducible refine (Fill_all M2.out _).mono ?_); rintro e w3 ⟨rfl, hm, hg⟩; have M3 := Lib.hid hm; have G3 := Lib.hid (grown_new G2.out hg HR.out); clear hm hg)
    | (go_at_call 7; (with_reducible refine (Make_yes _ _ _ HM.out).mono ?_); rintro e w' ⟨rfl, rfl⟩)
    | (go_at_call 12; (with_reducible refine (Put_yes M3.out a _ _ HM.out HL2.out).mono ?_); rintro e w4 ⟨rfl, hm, hg⟩; have M4 := Lib.hid hm; have G4 := Lib.hid (grown_new G3.out hg HR.out); clear hm hg)
    | (go_at_call 13; (with_reducible refine (Read_put M4.out HM.out HL.out).mono ?_); rintro e w' ⟨rfl, rfl⟩)
    | (go_at_call 14; (with_reducible refine (Field_yes _ _ _ _ _ _ (by omega) HI.out (Read_put M4.out HM.out HL.out)).mono ?_); rintro e w' ⟨rfl, rfl⟩)
    | (go_at_call 15; (with_reducible refine (All_len M4.out HML.out).mono ?_); rintro e w5 ⟨A5, c5, rfl, hr5, hg⟩; have R5 := Lib.hid hr5; have G5 := Lib.hid (G4.out.trans hg); clear hr5 hg))
  go_loop [21] (fun v => ∃ q : Nat, q ≤ k ∧ v = .int .i64 q) (fun v => k - (intOf v).toNat)
  case atStart => exact ⟨0, Nat.zero_le _, rfl⟩
  case round =>
    obtain ⟨q, hq, rfl⟩ := hrel
    by_cases hlt : q < k
    · obtain ⟨b1, o1, rfl, g1⟩ := R5.out.at_ hlt
      rw [HGET.out q hlt] at g1
      by_cases hqa : q = a
      · subst hqa
        rw [if_pos rfl] at g1
        go_wp2
        go_round
        case rel => exact ⟨q + 1, by omega, by go_num⟩
        case measure => simp [intOf]; omega
      · rw [if_neg hqa] at g1
        have hqb : ((q : Int) == (a : Int)) = false := by simpa using (by omega : ¬ (q : Int) = a)
        go_wp2
        go_round
        case rel => exact ⟨q + 1, by omega, by go_num⟩
        case measure => simp [intOf]; omega
    · go_wp2
      go_ret
      exact ⟨rfl, G5.out⟩
set_option maxRecDepth 100000 in
set_option maxHeartbeats 4000000 in
theorem puts_g (k0 s n i : Int) (k : Nat) (a : Nat) (w : World) (hk : near k0 0 300 = k) (hk3 : k ≤ 300) (hm : May s n) (hl : (a : Int) + n < k) (hi : i < 0) :
    Calls Try.prog 4 #[.int .i64 k0, .int .i64 a, .int .i64 s, .int .i64 n, .int .i64 i] w fun e w' => e = .returned (.bool true) ∧ w.grownBy w' none := by
  have HK := Lib.hid hk
  have HK2 : Hid (near (k : Int) 0 2048 = (k : Nat)) := Lib.hid (near_id k (by omega))
  have HML := Lib.hid (show ((List.replicate k (-1)).set a (s * 128 + n)).length = k by simp)
  have HGET := Lib.hid (show ∀ q : Nat, q < k → ((List.replicate k (-1)).set a (s * 128 + n)).getD q 0 = if q = a then s * 128 + n else -1 from fun q h => set_at k a q _ h)
  clear hk
  have HM := Lib.hid hm
  have HL := Lib.hid hl
  obtain ⟨hm1, hm2, hm3, hm4⟩ := hm
  have hl2 : n < (k : Int) - a := by omega
  have HL2 := Lib.hid (show (a : Int) + n < (List.replicate k (-1 : Int)).length by simpa using hl)
  have HI := Lib.hid (show ¬ (0 ≤ i ∧ i < n) by omega)
  go_enter Try.func4, Try.ntmps4
  go_wp2_with (first
    | (go_at_call 6; (with_reducible refine (alive_any _).mono ?_); rintro e w1 ⟨rfl, hg⟩; have G1 := Lib.hid hg; clear hg)
    | (go_at_call 9; (with_reducible refine (Near_any _ _ _ _).mono ?_); rintro e w' ⟨rfl, rfl⟩; rw [HK.out])
    | (go_at_call 10; (with_reducible refine (New_any _ _ HK2.out _).mono ?_); rintro e w2 ⟨g, r, rfl, hm, hg, hr, hw⟩; have M2 := Lib.hid hm; have G2 := Lib.hid (G1.out.trans hw); have HR := Lib.hid (show w.heap.size ≤ r from Nat.le_trans G1.out.size hr); clear hm hw hg hr)
    | (go_at_call 11; (with_reducible refine (Fill_all M2.out _).mono ?_); rintro e w3 ⟨rfl, hm, hg⟩; have M3 := Lib.hid hm; have G3 := Lib.hid (grown_new G2.out hg HR.out); clear hm hg)
    | (go_at_call 7; (with_reducible refine (Make_yes _ _ _ HM.out).mono ?_); rintro e w' ⟨rfl, rfl⟩)
    | (go_at_call 12; (with_reducible refine (Put_yes M3.out a _ _ HM.out HL2.out).mono ?_); rintro e w4 ⟨rfl, hm, hg⟩; have M4 := Lib.hid hm; have G4 := Lib.hid (grown_new G3.out hg HR.out); clear hm hg)
    | (go_at_call 13; (with_reducible refine (Read_put M4.out HM.out HL.out).mono ?_); rintro e w' ⟨rfl, rfl⟩)
    | (go_at_call 14; (with_reducible refine (Field_no _ _ _ _ _ _ _ HI.out (Read_put M4.out HM.out HL.out)).mono ?_); rintro e w' ⟨rfl, rfl⟩)
    | (go_at_call 15; (with_reducible refine (All_len M4.out HML.out).mono ?_); rintro e w5 ⟨A5, c5, rfl, hr5, hg⟩; have R5 := Lib.hid hr5; have G5 := Lib.hid (G4.out.trans hg); clear hr5 hg))
  go_loop [21] (fun v => ∃ q : Nat, q ≤ k ∧ v = .int .i64 q) (fun v => k - (intOf v).toNat)
  case atStart => exact ⟨0, Nat.zero_le _, rfl⟩
  case round =>
    obtain ⟨q, hq, rfl⟩ := hrel
    by_cases hlt : q < k
    · obtain ⟨b1, o1, rfl, g1⟩ := R5.out.at_ hlt
      rw [HGET.out q hlt] at g1
      by_cases hqa : q = a
      · subst hqa
        rw [if_pos rfl] at g1
        go_wp2
        go_round
        case rel => exact ⟨q + 1, by omega, by go_num⟩
        case measure => simp [intOf]; omega
      · rw [if_neg hqa] at g1
        have hqb : ((q : Int) == (a : Int)) = false := by simpa using (by omega : ¬ (q : Int) = a)
        go_wp2
        go_round
        case rel => exact ⟨q + 1, by omega, by go_num⟩
        case measure => simp [intOf]; omega
    · go_wp2
      go_ret
      exact ⟨rfl, G5.out⟩
set_option maxRecDepth 100000 in
set_option maxHeartbeats 4000000 in
theorem puts_h (k0 s n i : Int) (k : Nat) (a : Nat) (w : World) (hk : near k0 0 300 = k) (hk3 : k ≤ 300) (hm : May s n) (hl : (a : Int) + n < k) (hi : 0 ≤ i ∧ n ≤ i) :
    Calls Try.prog 4 #[.int .i64 k0, .int .i64 a, .int .i64 s, .int .i64 n, .int .i64 i] w fun e w' => e = .returned (.bool true) ∧ w.grownBy w' none := by
  have HK := Lib.hid hk
  have HK2 : Hid (near (k : Int) 0 2048 = (k : Nat)) := Lib.hid (near_id k (by omega))
  have HML := Lib.hid (show ((List.replicate k (-1)).set a (s * 128 + n)).length = k by simp)
  have HGET := Lib.hid (show ∀ q : Nat, q < k → ((List.replicate k (-1)).set a (s * 128 + n)).getD q 0 = if q = a then s * 128 + n else -1 from fun q h => set_at k a q _ h)
  clear hk
  have HM := Lib.hid hm
  have HL := Lib.hid hl
  obtain ⟨hm1, hm2, hm3, hm4⟩ := hm
  have hl2 : n < (k : Int) - a := by omega
  have HL2 := Lib.hid (show (a : Int) + n < (List.replicate k (-1 : Int)).length by simpa using hl)
  have HI := Lib.hid (show ¬ (0 ≤ i ∧ i < n) by omega)
  obtain ⟨hi1, hi2⟩ := hi
  go_enter Try.func4, Try.ntmps4
  go_wp2_with (first
    | (go_at_call 6; (with_reducible refine (alive_any _).mono ?_); rintro e w1 ⟨rfl, hg⟩; have G1 := Lib.hid hg; clear hg)
    | (go_at_call 9; (with_reducible refine (Near_any _ _ _ _).mono ?_); rintro e w' ⟨rfl, rfl⟩; rw [HK.out])
    | (go_at_call 10; (with_reducible refine (New_any _ _ HK2.out _).mono ?_); rintro e w2 ⟨g, r, rfl, hm, hg, hr, hw⟩; have M2 := Lib.hid hm; have G2 := Lib.hid (G1.out.trans hw); have HR := Lib.hid (show w.heap.size ≤ r from Nat.le_trans G1.out.size hr); clear hm hw hg hr)
    | (go_at_call 11; (with_reducible refine (Fill_all M2.out _).mono ?_); rintro e w3 ⟨rfl, hm, hg⟩; have M3 := Lib.hid hm; have G3 := Lib.hid (grown_new G2.out hg HR.out); clear hm hg)
    | (go_at_call 7; (with_reducible refine (Make_yes _ _ _ HM.out).mono ?_); rintro e w' ⟨rfl, rfl⟩)
    | (go_at_call 12; (with_reducible refine (Put_yes M3.out a _ _ HM.out HL2.out).mono ?_); rintro e w4 ⟨rfl, hm, hg⟩; have M4 := Lib.hid hm; have G4 := Lib.hid (grown_new G3.out hg HR.out); clear hm hg)
    | (go_at_call 13; (with_reducible refine (Read_put M4.out HM.out HL.out).mono ?_); rintro e w' ⟨rfl, rfl⟩)
    | (go_at_call 14; (with_reducible refine (Field_no _ _ _ _ _ _ _ HI.out (Read_put M4.out HM.out HL.out)).mono ?_); rintro e w' ⟨rfl, rfl⟩)
    | (go_at_call 15; (with_reducible refine (All_len M4.out HML.out).mono ?_); rintro e w5 ⟨A5, c5, rfl, hr5, hg⟩; have R5 := Lib.hid hr5; have G5 := Lib.hid (G4.out.trans hg); clear hr5 hg))
  go_loop [21] (fun v => ∃ q : Nat, q ≤ k ∧ v = .int .i64 q) (fun v => k - (intOf v).toNat)
  case atStart => exact ⟨0, Nat.zero_le _, rfl⟩
  case round =>
    obtain ⟨q, hq, rfl⟩ := hrel
    by_cases hlt : q < k
    · obtain ⟨b1, o1, rfl, g1⟩ := R5.out.at_ hlt
      rw [HGET.out q hlt] at g1
      by_cases hqa : q = a
      · subst hqa
        rw [if_pos rfl] at g1
        go_wp2
        go_round
        case rel => exact ⟨q + 1, by omega, by go_num⟩
        case measure => simp [intOf]; omega
      · rw [if_neg hqa] at g1
        have hqb : ((q : Int) == (a : Int)) = false := by simpa using (by omega : ¬ (q : Int) = a)
        go_wp2
        go_round
        case rel => exact ⟨q + 1, by omega, by go_num⟩
        case measure => simp [intOf]; omega
    · go_wp2
      go_ret
      exact ⟨rfl, G5.out⟩
theorem HeadPuts_any (k0 a s n i : Int) (w : World) :
    Calls Try.prog 4 #[.int .i64 k0, .int .i64 a, .int .i64 s, .int .i64 n, .int .i64 i] w fun e w' => e = .returned (.bool true) ∧ w.grownBy w' none := by
  obtain ⟨k, hk, hk3⟩ := near_nat k0 300
  by_cases hm : May s n
  · rcases Int.lt_or_le a 0 with h1 | h1
    · exact puts_lo k0 a s n i k w hk hk3 hm h1
    rcases Int.lt_or_le a k with h2 | h2
    · rcases Int.lt_or_le (a + n) k with h3 | h3
      · obtain ⟨a, rfl⟩ : ∃ q : Nat, a = q := ⟨a.toNat, by omega⟩
        rcases Int.lt_or_le i 0 with h4 | h4
        · exact puts_g k0 s n i k a w hk hk3 hm h3 h4
        rcases Int.lt_or_le i n with h5 | h5
        · exact puts_f k0 s n i k a w hk hk3 hm h3 ⟨h4, h5⟩
        · exact puts_h k0 s n i k a w hk hk3 hm h3 ⟨h4, h5⟩
      · exact puts_cut k0 a s n i k w hk hk3 hm ⟨h1, h2⟩ h3
    · exact puts_hi k0 a s n i k w hk hk3 hm h2
  · exact puts_may k0 a s n i k w hk hk3 hm
end Go.Proofs.Ytngicaainjoljaa.hd
