/- What the plain answers on lists of kinds (scutageref09) do when they are called. -/
import Derived.Test.YtkkoiglfimibjaaDoorPgE
namespace Go.Proofs.YtkkoiglfimibjaaDoor.pg
open Go.ChangeShapes Go.WideShapes Go.ChangeAt Go.RowKit gen calls cls li
set_option linter.unusedVariables false

theorem Rd.grown {w w' : World} {A : Option Addr} {n c B : Nat} {xs : List Int} (h : Rd w B A n c xs) (hg : w.grownBy w' none) (hB : B ≤ w.heap.size) : Rd w' B A n c xs := h.below ((grown_below hg).mono hB)
theorem rKind_any {w : World} {A : Option Addr} {n c B : Nat} {xs : List Int} (hs : n ≤ 64) (h : Rd w B A n c xs) (p : Int) :
    Calls Tryd.prog 41 #[.slice A n c, .int .i64 p] w fun e w' => e = .returned (.int .i64 (kind xs p)) ∧ w' = w := by
  have hl := h.1
  by_cases hp : 0 ≤ p ∧ p < n
  · obtain ⟨k, rfl⟩ : ∃ k : Nat, p = k := ⟨p.toNat, by omega⟩
    have hk : k < n := by omega
    rw [kind_in (by omega)]
    obtain ⟨b1, o1, rfl, d⟩ := h.at_ hk
    have l1 : ¬ ((k : Int) < 0) := by omega
    have l2 : ¬ ((n : Int) ≤ (k : Int)) := by omega
    generalize xs.getD k 0 = x at d ⊢
    clear h hp hl
    go_enter Tryd.func41, Tryd.ntmps41
    go_wp2
    go_ret
    exact ⟨rfl, rfl⟩
  · rw [kind_out (by rw [hl]; exact hp)]
    by_cases h1 : p < 0
    · clear h hp hl
      go_enter Tryd.func41, Tryd.ntmps41
      go_wp2
      go_ret
      exact ⟨rfl, rfl⟩
    · have h2 : (n : Int) ≤ p := by omega
      clear h hp hl
      go_enter Tryd.func41, Tryd.ntmps41
      go_wp2
      go_ret
      exact ⟨rfl, rfl⟩
theorem rsz_any (k : Int) (w : World) (h : fits k = true) :
    Calls Tryd.prog 19 #[.int .i64 k] w fun e w' => e = .returned (.int .i64 (sz k)) ∧ w.grownBy w' none :=
  (rSize_any k w h).mono fun e w' ⟨h1, h2⟩ => ⟨h1, below_grown h2⟩
theorem rSiz_any {w : World} {A : Option Addr} {n c B : Nat} {xs : List Int} (hs : n ≤ 64) (hB : B ≤ w.heap.size) (h : Rd w B A n c xs) (hx : Ks xs) (p : Int) :
    Calls Tryd.prog 79 #[.slice A n c, .int .i64 p] w fun e w' => e = .returned (.int .i64 (siz xs p)) ∧ w.grownBy w' none := by
  have hl := h.1
  have hw := kind_wide hx p
  have HS := Lib.hid (rsz_any (kind xs p) w (by simp [fits]; omega))
  have H := Lib.hid h
  have HG := Lib.hid (fun w1 (hg : w.grownBy w1 none) q => rKind_any (p := q) hs (Rd.grown h hg hB))
  clear h
  by_cases h1 : 1 ≤ kind xs p ∧ kind xs p ≤ 4
  · rw [siz_small h1]
    have hz := sz_pos h1
    clear hw h1 hx hl
    go_enter Tryd.func79, Tryd.ntmps79
    go_wp2_with (first
      | (go_at_call 41; (with_reducible refine (rKind_any hs H.out _).mono ?_); rintro e w' ⟨rfl, rfl⟩)
      | (go_at_call 19; (with_reducible refine HS.out.mono ?_); rintro e w1 ⟨rfl, hg⟩; have G := Lib.hid hg; clear hg))
    go_ret
    exact ⟨rfl, G.out⟩
  have hz : sz (kind xs p) = 0 := sz_no (by omega)
  rw [hz] at HS
  by_cases h5 : kind xs p = 5
  · have hin := kind_there (xs := xs) (p := p) (by rw [h5]; decide)
    obtain ⟨q, rfl⟩ : ∃ q : Nat, p = q := ⟨p.toNat, by omega⟩
    have l0 : q < 64 := by omega
    rw [siz_large h5]
    have HL := Lib.hid (fun j => lead_eq (k := 6) (xs := xs) (n := j) (p := q + 1) (by decide))
    have HI := Lib.hid (fun j (hj : kind xs ((q + 1 + j : Nat) : Int) ≠ -1) => show q + 1 + j < 64 by have := kind_there hj; omega)
    have H5 := Lib.hid h5
    rw [h5] at HS
    generalize lead 6 (xs.drop (q + 1)) = m at *
    clear hw h1 hx h5 hin hl hz
    go_enter Tryd.func79, Tryd.ntmps79
    go_wp2_with (first
      | (go_at_call 41; (with_reducible refine (rKind_any hs H.out _).mono ?_); rintro e w' ⟨rfl, rfl⟩; rw [H5.out])
      | (go_at_call 19; (with_reducible refine HS.out.mono ?_); rintro e w1 ⟨rfl, hg⟩; have G := Lib.hid hg; clear hg))
    go_loopw [6] (fun v wr => ∃ j : Nat, j ≤ 64 ∧ v = .int .i64 ((j + 1 : Nat) : Int) ∧ (∀ i, i < j → kind xs ((q + 1 + i : Nat) : Int) = 6) ∧ wr = w1) (fun v _ => 66 - (intOf v).toNat)
    case atStart => exact ⟨0, by omega, rfl, fun i hi => by omega, rfl⟩
    case round =>
      obtain ⟨j, hj, rfl, hi, hw⟩ := hrel
      subst hw
      have HJ := Lib.hid hi
      have HK := Lib.hid (HG.out _ G.out)
      clear hi
      have e1 : ((q + 1 + j : Nat) : Int) = (q : Int) + ((j : Int) + 1) := by omega
      by_cases h6 : kind xs ((q : Int) + ((j : Int) + 1)) = 6
      · have hj2 : q + 1 + j < 64 := HI.out j (by rw [e1, h6]; decide)
        have H6 := Lib.hid h6
        have E1 := Lib.hid e1
        clear h6 e1
        go_wp2_with (go_at_call 41; (with_reducible refine (HK.out _).mono ?_); rintro e w' ⟨rfl, rfl⟩; rw [H6.out])
        go_roundw
        case rel => exact ⟨j + 1, by omega, by go_num, fun i hi => by
          rcases Nat.lt_or_ge i j with c | c
          · exact HJ.out i c
          · obtain rfl : i = j := by omega
            rw [E1.out]
            exact H6.out, trivial⟩
        case measure => simp [intOf]; omega
      · have b6 : (kind xs ((q : Int) + ((j : Int) + 1)) == 6) = false := by simpa using h6
        have HE := Lib.hid (HL.out j HJ.out (by rw [e1]; exact h6))
        clear h6 e1
        go_wp2_with (go_at_call 41; (with_reducible refine (HK.out _).mono ?_); rintro e w' ⟨rfl, rfl⟩)
        go_ret
        exact ⟨by rw [HE.out]; exact ret1 (by omega), G.out⟩
  · have b5 : (kind xs p != 5) = true := by simpa using h5
    rw [siz_none h1 h5]
    clear hw h1 hx h5 hl hz
    go_enter Tryd.func79, Tryd.ntmps79
    go_wp2_with (first
      | (go_at_call 41; (with_reducible refine (rKind_any hs H.out _).mono ?_); rintro e w' ⟨rfl, rfl⟩)
      | (go_at_call 19; (with_reducible refine HS.out.mono ?_); rintro e w1 ⟨rfl, hg⟩; have G := Lib.hid hg; clear hg))
    go_ret
    exact ⟨rfl, G.out⟩
theorem rRun_any {w : World} {A : Option Addr} {n c B : Nat} {xs : List Int} (hs : n ≤ 64) (h : Rd w B A n c xs) (p : Nat) (hp : p ≤ n) :
    Calls Tryd.prog 98 #[.slice A n c, .int .i64 p] w fun e w' => e = .returned (.int .i64 (lead 0 (xs.drop p) : Nat)) ∧ w' = w := by
  have HN := Lib.hid h.1
  have H := Lib.hid h
  have HL := Lib.hid (fun j => lead_eq (k := 0) (xs := xs) (n := j) (p := p) (by decide))
  generalize lead 0 (xs.drop p) = m at *
  clear h
  go_enter Tryd.func98, Tryd.ntmps98
  go_wp2
  go_loopw [5] (fun v wr => ∃ j : Nat, p + j ≤ n ∧ v = .int .i64 j ∧ (∀ i, i < j → kind xs ((p + i : Nat) : Int) = 0) ∧ wr = w) (fun v _ => 66 - (intOf v).toNat)
  case atStart => exact ⟨0, by omega, rfl, fun i hi => by omega, rfl⟩
  case round =>
    obtain ⟨j, hj, rfl, hi, hw⟩ := hrel
    subst hw
    have HJ := Lib.hid hi
    clear hi
    by_cases hlt : p + j < n
    · obtain ⟨b1, o1, rfl, d⟩ := H.out.at_ hlt
      have HK := Lib.hid (kind_in (xs := xs) (p := p + j) (by rw [HN.out]; exact hlt))
      generalize xs.getD (p + j) 0 = x at d HK
      by_cases hx : x = 0
      · have b0 : (x == 0) = true := by simpa using hx
        have HX := Lib.hid hx
        clear hx
        go_wp2
        go_roundw
        case rel => exact ⟨j + 1, by omega, by go_num, fun i hi => by
          rcases Nat.lt_or_ge i j with c | c
          · exact HJ.out i c
          · obtain rfl : i = j := by omega
            rw [HK.out]
            exact HX.out, trivial⟩
        case measure => simp [intOf]; omega
      · have b0 : (x == 0) = false := by simpa using hx
        have HE := Lib.hid (HL.out j HJ.out (by rw [HK.out]; exact hx))
        clear hx
        go_wp2
        go_ret
        exact ⟨by rw [HE.out]; rfl, rfl⟩
    · have HE := Lib.hid (HL.out j HJ.out (by rw [kind_out (by rw [HN.out]; omega)]; decide))
      obtain rfl : n = p + j := by omega
      clear hlt
      go_wp2
      go_ret
      exact ⟨by rw [HE.out]; rfl, rfl⟩
/-- Where so many are free; -1: nowhere. -/
def fnd (xs : List Int) (n : Int) : Int := if n < 1 then -1 else match find n 0 xs with
  | none => -1
  | some p => p
theorem fnd_none {xs : List Int} {n : Int} (hn : 1 ≤ n) (h : find n 0 xs = none) : fnd xs n = -1 := by unfold fnd; rw [if_neg (by omega), h]
theorem fnd_some {xs : List Int} {n : Int} (hn : 1 ≤ n) {p : Nat} (h : find n 0 xs = some p) : fnd xs n = p := by unfold fnd; rw [if_neg (by omega), h]
theorem rFind_any {w : World} {A : Option Addr} {n c B : Nat} {xs : List Int} (hs : n ≤ 64) (h : Rd w B A n c xs) (z : Int) :
    Calls Tryd.prog 94 #[.slice A n c, .int .i64 z] w fun e w' => e = .returned (.int .i64 (fnd xs z)) ∧ w' = w := by
  by_cases hz : z < 1
  · rw [show fnd xs z = -1 by unfold fnd; rw [if_pos hz]]
    go_enter Tryd.func94, Tryd.ntmps94
    go_wp2
    go_ret
    exact ⟨rfl, rfl⟩
  have h1 : 1 ≤ z := by omega
  have HN := Lib.hid h.1
  have HR := Lib.hid (fun p hp => rRun_any hs h p hp)
  have HF := Lib.hid (fun p (hf : find z 0 xs = some p) => fnd_some h1 hf)
  have HF0 := Lib.hid (fun (hf : find z 0 xs = none) => fnd_none h1 hf)
  clear h
  go_enter Tryd.func94, Tryd.ntmps94
  go_wp2
  go_loopw [5] (fun v wr => ∃ p : Nat, p ≤ n ∧ v = .int .i64 p ∧ find z 0 xs = find z p (xs.drop p) ∧ wr = w) (fun v _ => 66 - (intOf v).toNat)
  case atStart => exact ⟨0, by omega, rfl, rfl, rfl⟩
  case round =>
    obtain ⟨p, hp, rfl, hf, hw⟩ := hrel
    subst hw
    have HP := Lib.hid hf
    clear hf
    by_cases hlt : p < n
    · have HD := Lib.hid (drop_at (xs := xs) (p := p) (by rw [HN.out]; exact hlt))
      have HR1 := Lib.hid (HR.out p hp)
      have hll := lead_le 0 (xs.drop p)
      rw [List.length_drop, HN.out] at hll
      by_cases hc : z ≤ (lead 0 (xs.drop p) : Nat)
      · have HE := Lib.hid (HF.out p (by rw [HP.out, HD.out, find, ← HD.out, if_pos hc]))
        generalize lead 0 (xs.drop p) = m at *
        go_wp2_with (go_at_call 98; (with_reducible refine HR1.out.mono ?_); rintro e w' ⟨rfl, rfl⟩)
        go_ret
        exact ⟨by rw [HE.out]; rfl, rfl⟩
      · have HE := Lib.hid (show find z 0 xs = find z (p + 1) (xs.drop (p + 1)) by rw [HP.out, HD.out, find, ← HD.out, if_neg hc])
        generalize lead 0 (xs.drop p) = m at *
        go_wp2_with (go_at_call 98; (with_reducible refine HR1.out.mono ?_); rintro e w' ⟨rfl, rfl⟩)
        go_roundw
        case rel => exact ⟨p + 1, by omega, by go_num, HE.out, trivial⟩
        case measure => simp [intOf]; omega
    · have HE := Lib.hid (HF0.out (by rw [HP.out, List.drop_of_length_le (by rw [HN.out]; omega)]; rfl))
      obtain rfl : p = n := by omega
      go_wp2
      go_ret
      exact ⟨by rw [HE.out]; rfl, rfl⟩
theorem rCount_any {w : World} {A : Option Addr} {n c B : Nat} {xs : List Int} (hs : n ≤ 64) (h : Rd w B A n c xs) :
    Calls Tryd.prog 43 #[.slice A n c] w fun e w' => e = .returned (.int .i64 (zeros xs)) ∧ w' = w := by
  have HN := Lib.hid h.1
  have H := Lib.hid h
  clear h
  go_enter Tryd.func43, Tryd.ntmps43
  go_wp2
  go_loopw [3, 4] (fun s v wr => ∃ p m : Nat, p ≤ n ∧ m ≤ p ∧ s = .int .i64 m ∧ v = .int .i64 p ∧ zeros xs = m + zeros (xs.drop p) ∧ wr = w) (fun _ v _ => 66 - (intOf v).toNat)
  case atStart => exact ⟨0, 0, by omega, by omega, rfl, rfl, by simp, rfl⟩
  case round =>
    obtain ⟨p, m, hp, hm, rfl, rfl, hf, hw⟩ := hrel
    subst hw
    have HP := Lib.hid hf
    clear hf
    by_cases hlt : p < n
    · obtain ⟨b1, o1, rfl, d⟩ := H.out.at_ hlt
      have HE := Lib.hid (show zeros xs = m + ((if xs.getD p 0 = 0 then 1 else 0) + zeros (xs.drop (p + 1))) by rw [HP.out, drop_at (xs := xs) (p := p) (by rw [HN.out]; exact hlt), zeros])
      generalize xs.getD p 0 = x at d HE
      by_cases hx : x = 0
      · subst hx
        go_wp2
        go_roundw
        case rel => exact ⟨p + 1, m + 1, by omega, by omega, by go_num, by go_num, by rw [HE.out]; simp; omega, trivial⟩
        case measure => simp [intOf]; omega
      · have b0 : (x == 0) = false := by simpa using hx
        have HX := Lib.hid hx
        clear hx
        go_wp2
        go_roundw
        case rel => exact ⟨p + 1, m, by omega, by omega, rfl, by go_num, by rw [HE.out, if_neg HX.out]; omega, trivial⟩
        case measure => simp [intOf]; omega
    · have HE := Lib.hid (show zeros xs = m by rw [HP.out, List.drop_of_length_le (by rw [HN.out]; omega)]; simp [zeros])
      obtain rfl : p = n := by omega
      go_wp2
      go_ret
      exact ⟨by rw [HE.out]; rfl, rfl⟩
end Go.Proofs.YtkkoiglfimibjaaDoor.pg
