/- Joined: PgE, PgF, PgG. -/
import Derived.Test.YtpnhanalnbjapaaDoorPgD
import Derived.Test.YtpnhanalnbjapaaDoorGenC
/- What layer 9's Take and Span do. -/
namespace Go.Proofs.YtpnhanalnbjapaaDoor.pg
open Go.ChangeShapes Go.WideShapes Go.ChangeAt Go.RowKit gen calls cls li
set_option linter.unusedVariables false

theorem lowest_some {g r : Nat} {xs : List Int} {w : World} (h : Tab w g r xs) {n : Int} (hn : 1 ≤ n) {p : Nat} (hf : find n 0 xs = some p) :
    Calls Tryd.prog 77 #[.pointer (some ⟨g, 0, none⟩), .int .i64 n] w fun e w' => e = .returned (.tuple #[.int .i64 p, .bool true]) ∧ Tab w' g r xs ∧ w.grownBy w' none := by
  have := lowest_any h n hn
  rw [hf] at this
  exact this.mono fun e w' ⟨h1, h2⟩ => ⟨h1, h.kept h2 (by simp) (by simp), h2⟩
theorem lowest_none {g r : Nat} {xs : List Int} {w : World} (h : Tab w g r xs) {n : Int} (hn : 1 ≤ n) (hf : find n 0 xs = none) :
    Calls Tryd.prog 77 #[.pointer (some ⟨g, 0, none⟩), .int .i64 n] w fun e w' => e = .returned (.tuple #[.int .i64 0, .bool false]) ∧ w.grownBy w' none := by
  have := lowest_any h n hn
  rw [hf] at this
  exact this
theorem Take_small_no {q : Option Addr} (k : Int) (w : World) (hk : fits k = true) (h : ¬ (1 ≤ k ∧ k ≤ 4)) :
    Calls Tryd.prog 41 #[.pointer q, .int .i64 k] w fun e w' => e = .returned (.tuple #[.int .i64 0, .bool false]) ∧ w = w' := by
  have HS := Lib.hid (fun w => small_no w hk h)
  clear hk h
  go_enter Tryd.func41, Tryd.ntmps41
  go_wp2_with (go_at_call 76; (with_reducible refine (HS.out _).mono ?_); rintro e w' ⟨rfl, rfl⟩)
  go_ret2
  exact ⟨rfl, rfl⟩
theorem Take_none {q : Option Addr} {k : Int} {w : World} (h : 1 ≤ k ∧ k ≤ 4) (hl : Calls Tryd.prog 77 #[.pointer q, .int .i64 1] w fun e w' => e = .returned (.tuple #[.int .i64 0, .bool false]) ∧ w.grownBy w' none) :
    Calls Tryd.prog 41 #[.pointer q, .int .i64 k] w fun e w' => e = .returned (.tuple #[.int .i64 0, .bool false]) ∧ w.grownBy w' none := by
  have HS := Lib.hid (fun w => small_yes w h)
  have HL := Lib.hid hl
  clear h hl
  go_enter Tryd.func41, Tryd.ntmps41
  go_wp2_with (first
    | (go_at_call 76; (with_reducible refine (HS.out _).mono ?_); rintro e w' ⟨rfl, rfl⟩)
    | (go_at_call 77; (with_reducible refine HL.out.mono ?_); rintro e w' ⟨rfl, hg⟩; have HG := Lib.hid hg; clear hg))
  go_ret2
  exact ⟨rfl, HG.out⟩
theorem Take_some {g r : Nat} {xs : List Int} {k : Int} {w : World} (h : Tab w g r xs) (hk : 1 ≤ k ∧ k ≤ 4) {p : Nat} (hf : find 1 0 xs = some p) :
    Calls Tryd.prog 41 #[.pointer (some ⟨g, 0, none⟩), .int .i64 k] w fun e w' => e = .returned (.tuple #[.int .i64 p, .bool true]) ∧ Tab w' g r (xs.set p k) ∧ w.grownBy w' (some r) := by
  have HS := Lib.hid (fun w => small_yes w hk)
  have HL := Lib.hid (lowest_some h (n := 1) (by omega) hf)
  have hp := (find_at (n := 1) (by omega) hf).1
  have hl := h.le
  have hp' := Lib.hid hp
  clear h hk hf
  go_enter Tryd.func41, Tryd.ntmps41
  go_wp2_with (first
    | (go_at_call 76; (with_reducible refine (HS.out _).mono ?_); rintro e w' ⟨rfl, rfl⟩)
    | (go_at_call 77; (with_reducible refine HL.out.mono ?_); rintro e w1 ⟨rfl, ht, hg⟩; have HT := Lib.hid ht; have HG := Lib.hid hg; clear hg; obtain ⟨c, hc1, hc2, f⟩ := ht.field; have d := ht.word hp; have fr := ht.free p; clear ht; generalize hn : xs.length = n at *))
  go_ret2
  have := HT.out.set (by rw [hn]; exact hp) k
  exact ⟨rfl, this.1, li.grown_then HG.out this.2⟩

theorem Span_below {q : Option Addr} {n : Int} (w : World) (h : n < 1) :
    Calls Tryd.prog 89 #[.pointer q, .int .i64 n] w fun e w' => e = .returned (.tuple #[.int .i64 0, .bool false]) ∧ w = w' := by
  go_enter Tryd.func89, Tryd.ntmps89
  go_wp2
  go_ret2
  exact ⟨rfl, rfl⟩
theorem Span_none {q : Option Addr} {n : Int} {w : World} (h : 1 ≤ n) (hl : Calls Tryd.prog 77 #[.pointer q, .int .i64 n] w fun e w' => e = .returned (.tuple #[.int .i64 0, .bool false]) ∧ w.grownBy w' none) :
    Calls Tryd.prog 89 #[.pointer q, .int .i64 n] w fun e w' => e = .returned (.tuple #[.int .i64 0, .bool false]) ∧ w.grownBy w' none := by
  have HL := Lib.hid hl
  clear hl
  go_enter Tryd.func89, Tryd.ntmps89
  go_wp2_with (go_at_call 77; (with_reducible refine HL.out.mono ?_); rintro e w' ⟨rfl, hg⟩; have HG := Lib.hid hg; clear hg)
  go_ret2
  exact ⟨rfl, HG.out⟩
theorem Span_some {g r : Nat} {xs : List Int} {n : Nat} {w : World} (h : Tab w g r xs) (hn : 1 ≤ n) {p : Nat} (hf : find n 0 xs = some p) :
    Calls Tryd.prog 89 #[.pointer (some ⟨g, 0, none⟩), .int .i64 n] w fun e w' => e = .returned (.tuple #[.int .i64 p, .bool true]) ∧ Tab w' g r (spanN xs p n) ∧ w.grownBy w' (some r) := by
  have HL := Lib.hid (lowest_some h (by omega) hf)
  obtain ⟨hp, _, _, hpn⟩ := find_at (n := n) (by omega) hf
  have hl := h.le
  have HP := Lib.hid (show p + n ≤ xs.length by omega)
  have HPL := Lib.hid hp
  have l1 : (1 : Int) ≤ n := by omega
  have l2 : p + n ≤ 64 := by omega
  clear h hf hpn
  go_enter Tryd.func89, Tryd.ntmps89
  go_wp2_with (first
    | (go_at_call 77; (with_reducible refine HL.out.mono ?_); rintro e w1 ⟨rfl, ht, hg⟩; have HT := Lib.hid ht; have HG := Lib.hid hg; clear hg; obtain ⟨c, hc1, hc2, f⟩ := ht.field; have d := ht.word hp; have fr := ht.free p; clear ht; generalize hm : xs.length = m at *))
  go_loopw [8] (fun i wr => ∃ k : Nat, k + 1 ≤ n ∧ i = .int .i64 ((k + 1 : Nat) : Int) ∧ Tab wr g r (fillN (xs.set p 5) (p + 1) 6 k) ∧ w1.grownBy wr (some r)) (fun i _ => n - (intOf i).toNat)
  case atStart =>
    have := HT.out.set (by rw [hm]; exact hp) 5
    exact ⟨0, by omega, rfl, this.1, this.2⟩
  case round =>
    obtain ⟨k, hk, rfl, ht, hg⟩ := hrel
    have HT2 := Lib.hid ht
    have HG2 := Lib.hid hg
    have hlen : (fillN (xs.set p 5) (p + 1) 6 k).length = m := by rw [fillN_length, List.length_set, hm]
    by_cases hlt : k + 1 < n
    · obtain ⟨c2, hc3, hc4, f2⟩ := ht.field
      have d2 := ht.word (k := p + (k + 1)) (by rw [hlen]; have := HP.out; omega)
      have fr2 := ht.free (p + (k + 1))
      have l3 : p + (k + 1) < m := by have := HP.out; omega
      rw [hlen] at f2 hc3
      have E := Lib.hid hlen
      generalize (fillN (xs.set p 5) (p + 1) 6 k).getD (p + (k + 1)) 0 = y at d2
      clear ht hg hlen f d fr
      go_wp2
      go_roundw
      case rel =>
        have := HT2.out.set (k := p + (k + 1)) (by rw [E.out]; exact l3) 6
        refine ⟨k + 1, by omega, by go_num, ?_, HG2.out.trans this.2⟩
        rw [fillN, show p + 1 + k = p + (k + 1) by omega]
        exact this.1
      case measure => simp [intOf]; omega
    · obtain rfl : n = k + 1 := by omega
      clear ht hg hlen f d fr
      go_wp2
      go_ret2
      exact ⟨rfl, HT2.out, li.grown_then HG.out HG2.out⟩
end Go.Proofs.YtpnhanalnbjapaaDoor.pg

/- What the plain answers on lists of kinds (scutageref09) do when they are called. -/
namespace Go.Proofs.YtpnhanalnbjapaaDoor.pg
open Go.ChangeShapes Go.WideShapes Go.ChangeAt Go.RowKit gen calls cls li
set_option linter.unusedVariables false

theorem Rd.grown {w w' : World} {A : Option Addr} {n c B : Nat} {xs : List Int} (h : Rd w B A n c xs) (hg : w.grownBy w' none) (hB : B ≤ w.heap.size) : Rd w' B A n c xs := h.below ((grown_below hg).mono hB)
theorem rKind_any {w : World} {A : Option Addr} {n c B : Nat} {xs : List Int} (hs : n ≤ 64) (h : Rd w B A n c xs) (p : Int) :
    Calls Tryd.prog 34 #[.slice A n c, .int .i64 p] w fun e w' => e = .returned (.int .i64 (kind xs p)) ∧ w' = w := by
  have hl := h.1
  by_cases hp : 0 ≤ p ∧ p < n
  · obtain ⟨k, rfl⟩ : ∃ k : Nat, p = k := ⟨p.toNat, by omega⟩
    have hk : k < n := by omega
    rw [kind_in (by omega)]
    obtain ⟨b1, o1, rfl, d⟩ := h.at_ hk
    have l1 : ¬ ((k : Int) < 0) := by omega
    have l2 : ¬ ((n : Int) ≤ (k : Int)) := by omega
    generalize xs.getD k 0 = x at d ⊢
    clear h hp hl
    go_enter Tryd.func34, Tryd.ntmps34
    go_wp2
    go_ret
    exact ⟨rfl, rfl⟩
  · rw [kind_out (by rw [hl]; exact hp)]
    by_cases h1 : p < 0
    · clear h hp hl
      go_enter Tryd.func34, Tryd.ntmps34
      go_wp2
      go_ret
      exact ⟨rfl, rfl⟩
    · have h2 : (n : Int) ≤ p := by omega
      clear h hp hl
      go_enter Tryd.func34, Tryd.ntmps34
      go_wp2
      go_ret
      exact ⟨rfl, rfl⟩
theorem rsz_any (k : Int) (w : World) (h : fits k = true) :
    Calls Tryd.prog 69 #[.int .i64 k] w fun e w' => e = .returned (.int .i64 (sz k)) ∧ w.grownBy w' none :=
  (rSize_any k w h).mono fun e w' ⟨h1, h2⟩ => ⟨h1, below_grown h2⟩
theorem rSiz_any {w : World} {A : Option Addr} {n c B : Nat} {xs : List Int} (hs : n ≤ 64) (hB : B ≤ w.heap.size) (h : Rd w B A n c xs) (hx : Ks xs) (p : Int) :
    Calls Tryd.prog 74 #[.slice A n c, .int .i64 p] w fun e w' => e = .returned (.int .i64 (siz xs p)) ∧ w.grownBy w' none := by
  have hl := h.1
  have hw := kind_wide hx p
  have HS := Lib.hid (rsz_any (kind xs p) w (by simp [fits]; omega))
  have H := Lib.hid h
  have HG := Lib.hid (fun w1 (hg : w.grownBy w1 none) q => rKind_any (p := q) hs (Rd.grown h hg hB))
  clear h
  by_cases h1 : 1 ≤ kind xs p ∧ kind xs p ≤ 4
  · rw [siz_small h1]
    have hz := sz_pos h1
    clear hw h1 hx hl
    go_enter Tryd.func74, Tryd.ntmps74
    go_wp2_with (first
      | (go_at_call 34; (with_reducible refine (rKind_any hs H.out _).mono ?_); rintro e w' ⟨rfl, rfl⟩)
      | (go_at_call 69; (with_reducible refine HS.out.mono ?_); rintro e w1 ⟨rfl, hg⟩; have G := Lib.hid hg; clear hg))
    go_ret
    exact ⟨rfl, G.out⟩
  have hz : sz (kind xs p) = 0 := sz_no (by omega)
  rw [hz] at HS
  by_cases h5 : kind xs p = 5
  · have hin := kind_there (xs := xs) (p := p) (by rw [h5]; decide)
    obtain ⟨q, rfl⟩ : ∃ q : Nat, p = q := ⟨p.toNat, by omega⟩
    have l0 : q < 64 := by omega
    rw [siz_large h5]
    have HL := Lib.hid (fun j => lead_eq (k := 6) (xs := xs) (n := j) (p := q + 1) (by decide))
    have HI := Lib.hid (fun j (hj : kind xs ((q + 1 + j : Nat) : Int) ≠ -1) => show q + 1 + j < 64 by have := kind_there hj; omega)
    have H5 := Lib.hid h5
    rw [h5] at HS
    generalize lead 6 (xs.drop (q + 1)) = m at *
    clear hw h1 hx h5 hin hl hz
    go_enter Tryd.func74, Tryd.ntmps74
    go_wp2_with (first
      | (go_at_call 34; (with_reducible refine (rKind_any hs H.out _).mono ?_); rintro e w' ⟨rfl, rfl⟩; rw [H5.out])
      | (go_at_call 69; (with_reducible refine HS.out.mono ?_); rintro e w1 ⟨rfl, hg⟩; have G := Lib.hid hg; clear hg))
    go_loopw [6] (fun v wr => ∃ j : Nat, j ≤ 64 ∧ v = .int .i64 ((j + 1 : Nat) : Int) ∧ (∀ i, i < j → kind xs ((q + 1 + i : Nat) : Int) = 6) ∧ wr = w1) (fun v _ => 66 - (intOf v).toNat)
    case atStart => exact ⟨0, by omega, rfl, fun i hi => by omega, rfl⟩
    case round =>
      obtain ⟨j, hj, rfl, hi, hw⟩ := hrel
      subst hw
      have HJ := Lib.hid hi
      have HK := Lib.hid (HG.out _ G.out)
      clear hi
      have e1 : ((q + 1 + j : Nat) : Int) = (q : Int) + ((j : Int) + 1) := by omega
      by_cases h6 : kind xs ((q : Int) + ((j : Int) + 1)) = 6
      · have hj2 : q + 1 + j < 64 := HI.out j (by rw [e1, h6]; decide)
        have H6 := Lib.hid h6
        have E1 := Lib.hid e1
        clear h6 e1
        go_wp2_with (go_at_call 34; (with_reducible refine (HK.out _).mono ?_); rintro e w' ⟨rfl, rfl⟩; rw [H6.out])
        go_roundw
        case rel => exact ⟨j + 1, by omega, by go_num, fun i hi => by
          rcases Nat.lt_or_ge i j with c | c
          · exact HJ.out i c
          · obtain rfl : i = j := by omega
            rw [E1.out]
            exact H6.out, trivial⟩
        case measure => simp [intOf]; omega
      · have b6 : (kind xs ((q : Int) + ((j : Int) + 1)) == 6) = false := by simpa using h6
        have HE := Lib.hid (HL.out j HJ.out (by rw [e1]; exact h6))
        clear h6 e1
        go_wp2_with (go_at_call 34; (with_reducible refine (HK.out _).mono ?_); rintro e w' ⟨rfl, rfl⟩)
        go_ret
        exact ⟨by rw [HE.out]; exact ret1 (by omega), G.out⟩
  · have b5 : (kind xs p != 5) = true := by simpa using h5
    rw [siz_none h1 h5]
    clear hw h1 hx h5 hl hz
    go_enter Tryd.func74, Tryd.ntmps74
    go_wp2_with (first
      | (go_at_call 34; (with_reducible refine (rKind_any hs H.out _).mono ?_); rintro e w' ⟨rfl, rfl⟩)
      | (go_at_call 69; (with_reducible refine HS.out.mono ?_); rintro e w1 ⟨rfl, hg⟩; have G := Lib.hid hg; clear hg))
    go_ret
    exact ⟨rfl, G.out⟩
theorem rRun_any {w : World} {A : Option Addr} {n c B : Nat} {xs : List Int} (hs : n ≤ 64) (h : Rd w B A n c xs) (p : Nat) (hp : p ≤ n) :
    Calls Tryd.prog 95 #[.slice A n c, .int .i64 p] w fun e w' => e = .returned (.int .i64 (lead 0 (xs.drop p) : Nat)) ∧ w' = w := by
  have HN := Lib.hid h.1
  have H := Lib.hid h
  have HL := Lib.hid (fun j => lead_eq (k := 0) (xs := xs) (n := j) (p := p) (by decide))
  generalize lead 0 (xs.drop p) = m at *
  clear h
  go_enter Tryd.func95, Tryd.ntmps95
  go_wp2
  go_loopw [5] (fun v wr => ∃ j : Nat, p + j ≤ n ∧ v = .int .i64 j ∧ (∀ i, i < j → kind xs ((p + i : Nat) : Int) = 0) ∧ wr = w) (fun v _ => 66 - (intOf v).toNat)
  case atStart => exact ⟨0, by omega, rfl, fun i hi => by omega, rfl⟩
  case round =>
    obtain ⟨j, hj, rfl, hi, hw⟩ := hrel
    subst hw
    have HJ := Lib.hid hi
    clear hi
    by_cases hlt : p + j < n
    · obtain ⟨b1, o1, rfl, d⟩ := H.out.at_ hlt
      have HK := Lib.hid (kind_in (xs := xs) (p := p + j) (by rw [HN.out]; exact hlt))
      generalize xs.getD (p + j) 0 = x at d HK
      by_cases hx : x = 0
      · have b0 : (x == 0) = true := by simpa using hx
        have HX := Lib.hid hx
        clear hx
        go_wp2
        go_roundw
        case rel => exact ⟨j + 1, by omega, by go_num, fun i hi => by
          rcases Nat.lt_or_ge i j with c | c
          · exact HJ.out i c
          · obtain rfl : i = j := by omega
            rw [HK.out]
            exact HX.out, trivial⟩
        case measure => simp [intOf]; omega
      · have b0 : (x == 0) = false := by simpa using hx
        have HE := Lib.hid (HL.out j HJ.out (by rw [HK.out]; exact hx))
        clear hx
        go_wp2
        go_ret
        exact ⟨by rw [HE.out]; rfl, rfl⟩
    · have HE := Lib.hid (HL.out j HJ.out (by rw [kind_out (by rw [HN.out]; omega)]; decide))
      obtain rfl : n = p + j := by omega
      clear hlt
      go_wp2
      go_ret
      exact ⟨by rw [HE.out]; rfl, rfl⟩
/-- Where so many are free; -1: nowhere. -/
def fnd (xs : List Int) (n : Int) : Int := if n < 1 then -1 else match find n 0 xs with
  | none => -1
  | some p => p
theorem fnd_none {xs : List Int} {n : Int} (hn : 1 ≤ n) (h : find n 0 xs = none) : fnd xs n = -1 := by unfold fnd; rw [if_neg (by omega), h]
theorem fnd_some {xs : List Int} {n : Int} (hn : 1 ≤ n) {p : Nat} (h : find n 0 xs = some p) : fnd xs n = p := by unfold fnd; rw [if_neg (by omega), h]
theorem rFind_any {w : World} {A : Option Addr} {n c B : Nat} {xs : List Int} (hs : n ≤ 64) (h : Rd w B A n c xs) (z : Int) :
    Calls Tryd.prog 88 #[.slice A n c, .int .i64 z] w fun e w' => e = .returned (.int .i64 (fnd xs z)) ∧ w' = w := by
  by_cases hz : z < 1
  · rw [show fnd xs z = -1 by unfold fnd; rw [if_pos hz]]
    go_enter Tryd.func88, Tryd.ntmps88
    go_wp2
    go_ret
    exact ⟨rfl, rfl⟩
  have h1 : 1 ≤ z := by omega
  have HN := Lib.hid h.1
  have HR := Lib.hid (fun p hp => rRun_any hs h p hp)
  have HF := Lib.hid (fun p (hf : find z 0 xs = some p) => fnd_some h1 hf)
  have HF0 := Lib.hid (fun (hf : find z 0 xs = none) => fnd_none h1 hf)
  clear h
  go_enter Tryd.func88, Tryd.ntmps88
  go_wp2
  go_loopw [5] (fun v wr => ∃ p : Nat, p ≤ n ∧ v = .int .i64 p ∧ find z 0 xs = find z p (xs.drop p) ∧ wr = w) (fun v _ => 66 - (intOf v).toNat)
  case atStart => exact ⟨0, by omega, rfl, rfl, rfl⟩
  case round =>
    obtain ⟨p, hp, rfl, hf, hw⟩ := hrel
    subst hw
    have HP := Lib.hid hf
    clear hf
    by_cases hlt : p < n
    · have HD := Lib.hid (drop_at (xs := xs) (p := p) (by rw [HN.out]; exact hlt))
      have HR1 := Lib.hid (HR.out p hp)
      have hll := lead_le 0 (xs.drop p)
      rw [List.length_drop, HN.out] at hll
      by_cases hc : z ≤ (lead 0 (xs.drop p) : Nat)
      · have HE := Lib.hid (HF.out p (by rw [HP.out, HD.out, find, ← HD.out, if_pos hc]))
        generalize lead 0 (xs.drop p) = m at *
        go_wp2_with (go_at_call 95; (with_reducible refine HR1.out.mono ?_); rintro e w' ⟨rfl, rfl⟩)
        go_ret
        exact ⟨by rw [HE.out]; rfl, rfl⟩
      · have HE := Lib.hid (show find z 0 xs = find z (p + 1) (xs.drop (p + 1)) by rw [HP.out, HD.out, find, ← HD.out, if_neg hc])
        generalize lead 0 (xs.drop p) = m at *
        go_wp2_with (go_at_call 95; (with_reducible refine HR1.out.mono ?_); rintro e w' ⟨rfl, rfl⟩)
        go_roundw
        case rel => exact ⟨p + 1, by omega, by go_num, HE.out, trivial⟩
        case measure => simp [intOf]; omega
    · have HE := Lib.hid (HF0.out (by rw [HP.out, List.drop_of_length_le (by rw [HN.out]; omega)]; rfl))
      obtain rfl : p = n := by omega
      go_wp2
      go_ret
      exact ⟨by rw [HE.out]; rfl, rfl⟩
theorem rCount_any {w : World} {A : Option Addr} {n c B : Nat} {xs : List Int} (hs : n ≤ 64) (h : Rd w B A n c xs) :
    Calls Tryd.prog 37 #[.slice A n c] w fun e w' => e = .returned (.int .i64 (zeros xs)) ∧ w' = w := by
  have HN := Lib.hid h.1
  have H := Lib.hid h
  clear h
  go_enter Tryd.func37, Tryd.ntmps37
  go_wp2
  go_loopw [3, 4] (fun s v wr => ∃ p m : Nat, p ≤ n ∧ m ≤ p ∧ s = .int .i64 m ∧ v = .int .i64 p ∧ zeros xs = m + zeros (xs.drop p) ∧ wr = w) (fun _ v _ => 66 - (intOf v).toNat)
  case atStart => exact ⟨0, 0, by omega, by omega, rfl, rfl, by simp, rfl⟩
  case round =>
    obtain ⟨p, m, hp, hm, rfl, rfl, hf, hw⟩ := hrel
    subst hw
    have HP := Lib.hid hf
    clear hf
    by_cases hlt : p < n
    · obtain ⟨b1, o1, rfl, d⟩ := H.out.at_ hlt
      have HE := Lib.hid (show zeros xs = m + ((if xs.getD p 0 = 0 then 1 else 0) + zeros (xs.drop (p + 1))) by rw [HP.out, drop_at (xs := xs) (p := p) (by rw [HN.out]; exact hlt), zeros])
      generalize xs.getD p 0 = x at d HE
      by_cases hx : x = 0
      · subst hx
        go_wp2
        go_roundw
        case rel => exact ⟨p + 1, m + 1, by omega, by omega, by go_num, by go_num, by rw [HE.out]; simp; omega, trivial⟩
        case measure => simp [intOf]; omega
      · have b0 : (x == 0) = false := by simpa using hx
        have HX := Lib.hid hx
        clear hx
        go_wp2
        go_roundw
        case rel => exact ⟨p + 1, m, by omega, by omega, rfl, by go_num, by rw [HE.out, if_neg HX.out]; omega, trivial⟩
        case measure => simp [intOf]; omega
    · have HE := Lib.hid (show zeros xs = m by rw [HP.out, List.drop_of_length_le (by rw [HN.out]; omega)]; simp [zeros])
      obtain rfl : p = n := by omega
      go_wp2
      go_ret
      exact ⟨by rw [HE.out]; rfl, rfl⟩
end Go.Proofs.YtpnhanalnbjapaaDoor.pg

/- What the plain answers that make lists (Set, Span, New) do, and the law's few. -/
namespace Go.Proofs.YtpnhanalnbjapaaDoor.pg
open Go.ChangeShapes Go.WideShapes Go.ChangeAt Go.RowKit gen calls cls li
set_option linter.unusedVariables false

theorem rSet_any {w : World} {A : Option Addr} {n c : Nat} {xs : List Int} (ys : List Int) (hs : n ≤ 64) (h : Rd w w.heap.size A n c xs) (p m k : Int) (hp : fits p = true) (hm : 0 ≤ m ∧ m ≤ 64) (hl : ys.length = n)
    (hy : ∀ i : Nat, i < n → ys.getD i 0 = if p ≤ i ∧ (i : Int) < p + m then k else xs.getD i 0) :
    Calls Tryd.prog 71 #[.slice A n c, .int .i64 p, .int .i64 m, .int .i64 k] w (ListAns ys w) := by
  obtain ⟨p0, p1⟩ := fits_iff.mp hp
  obtain ⟨m0, m1⟩ := hm
  have H := Lib.hid h
  have HL := Lib.hid hl
  have HY := Lib.hid hy
  obtain ⟨i0, hi, hz0, hz1, hz2⟩ := info_parts info_int
  have E : Hid (i0.zero = some (.int .i64 0) ∧ i0.size = 1 ∧ i0.bytes = 8 ∧ Tryd.prog.info? 3 = some i0) := ⟨hz0, hz1, hz2, hi⟩
  clear hi hz0 hz1 hz2 h hl hy hp
  go_enter Tryd.func71, Tryd.ntmps71
  go_wp2
  go_loopw [9, 10] (fun v i wr => ∃ (j : Nat) (A' : Option Addr) (c' : Nat), j ≤ n ∧ i = .int .i64 j ∧ v = .slice A' j c' ∧ wr.ownsRow w.heap.size 3 1 (.slice A' j c') j (ints (ys.take j)) ∧ w.grownBy wr none) (fun _ i _ => n - (intOf i).toNat)
  case atStart => exact ⟨0, none, 0, Nat.zero_le _, rfl, rfl, World.ownsRow_nil _ _ _ _, grown_refl _ _⟩
  case round =>
    obtain ⟨j, A', c', hj, rfl, rfl, ho, hg⟩ := hrel
    have HO := Lib.hid ho
    have HG := Lib.hid hg
    have R := Lib.hid (H.out.below (grown_below hg))
    clear ho hg
    by_cases hlt : j < n
    · obtain ⟨b1, o1, rfl, g1⟩ := R.out.at_ hlt
      have HF := Lib.hid (take_more (xs := ys) (k := j) (by rw [HL.out]; exact hlt) 0)
      have hyj := HY.out j hlt
      generalize xs.getD j 0 = x at g1 hyj
      by_cases h1 : p ≤ (j : Int)
      · by_cases h2 : (j : Int) < p + m
        · rw [if_pos ⟨h1, h2⟩] at hyj
          have HYJ := Lib.hid hyj
          have l3 : IntKind.i64.wrap (p + m) = p + m := IntWalk.i64_in _ (by omega)
          clear hyj
          go_wp2_with (refine wpList_append_rd rfl (.tmp 27) (.tmp 29) 30 rfl w.heap.size 3 i0 (.int .i64 0) 8 Tryd.underlying30 E.out.2.2.2 E.out.1 E.out.2.1 E.out.2.2.1 rfl _ j (ys.take j) rfl (HO.out.alloc _) (some ⟨wr.heap.size, 0, none⟩) 1 1 _ [k] rfl (Rd.one _ _ _) (by unfold maxLen; omega) (by omega) (by have := HG.out.size; simp; omega) ?_; intro A3 c3 w2 own1 rd1 gr1; have OWN1 := Lib.hid own1; have GR1 := Lib.hid gr1; clear own1 gr1 rd1)
          go_roundw
          case rel => exact ⟨j + 1, A3, c3, by omega, by go_num, rfl, by rw [HF.out, HYJ.out]; exact OWN1.out, grown_one HG.out HO.out (Nat.le_refl _) GR1.out⟩
          case measure => simp [intOf]; omega
        · rw [if_neg (fun h => h2 h.2)] at hyj
          have HYJ := Lib.hid hyj
          have l3 : IntKind.i64.wrap (p + m) = p + m := IntWalk.i64_in _ (by omega)
          clear hyj
          go_wp2_with (refine wpList_append_rd rfl (.tmp 31) (.tmp 36) 30 rfl w.heap.size 3 i0 (.int .i64 0) 8 Tryd.underlying30 E.out.2.2.2 E.out.1 E.out.2.1 E.out.2.2.1 rfl _ j (ys.take j) rfl (HO.out.alloc _) (some ⟨wr.heap.size, 0, none⟩) 1 1 _ [x] rfl (Rd.one _ _ _) (by unfold maxLen; omega) (by omega) (by have := HG.out.size; simp; omega) ?_; intro A3 c3 w2 own1 rd1 gr1; have OWN1 := Lib.hid own1; have GR1 := Lib.hid gr1; clear own1 gr1 rd1)
          go_roundw
          case rel => exact ⟨j + 1, A3, c3, by omega, by go_num, rfl, by rw [HF.out, HYJ.out]; exact OWN1.out, grown_one HG.out HO.out (Nat.le_refl _) GR1.out⟩
          case measure => simp [intOf]; omega
      · rw [if_neg (fun h => h1 h.1)] at hyj
        have HYJ := Lib.hid hyj
        clear hyj
        go_wp2_with (refine wpList_append_rd rfl (.tmp 31) (.tmp 36) 30 rfl w.heap.size 3 i0 (.int .i64 0) 8 Tryd.underlying30 E.out.2.2.2 E.out.1 E.out.2.1 E.out.2.2.1 rfl _ j (ys.take j) rfl (HO.out.alloc _) (some ⟨wr.heap.size, 0, none⟩) 1 1 _ [x] rfl (Rd.one _ _ _) (by unfold maxLen; omega) (by omega) (by have := HG.out.size; simp; omega) ?_; intro A3 c3 w2 own1 rd1 gr1; have OWN1 := Lib.hid own1; have GR1 := Lib.hid gr1; clear own1 gr1 rd1)
        go_roundw
        case rel => exact ⟨j + 1, A3, c3, by omega, by go_num, rfl, by rw [HF.out, HYJ.out]; exact OWN1.out, grown_one HG.out HO.out (Nat.le_refl _) GR1.out⟩
        case measure => simp [intOf]; omega
    · obtain rfl : j = n := by omega
      go_wp2
      go_ret
      have ho := HO.out
      have hl := HL.out
      rw [List.take_of_length_le (by omega)] at ho
      subst hl
      exact ⟨A', c', rfl, ho, HG.out⟩
theorem rSpan_any {w : World} {A : Option Addr} {n c : Nat} {xs : List Int} (hs : n ≤ 64) (h : Rd w w.heap.size A n c xs) (p m : Nat) (h1 : 1 ≤ m) (hm : p + m ≤ n) :
    Calls Tryd.prog 90 #[.slice A n c, .int .i64 p, .int .i64 m] w (ListAns (spanN xs p m) w) := by
  have hl := h.1
  have S1 := Lib.hid (rSet_any (fillN xs p 6 m) hs h p m 6 (by simp [fits]; omega) (by omega) (by rw [fillN_length, hl]) (fun i hi => by
    rw [fillN_getD _ _ _ _ (by omega)]
    repeat' split
    all_goals first | rfl | omega))
  have S2 := Lib.hid (fun w1 A1 c1 (h1' : Rd w1 w1.heap.size A1 n c1 (fillN xs p 6 m)) => rSet_any (spanN xs p m) hs h1' p 1 5 (by simp [fits]; omega) (by omega) (by rw [spanN_length, hl]) (fun i hi => by
    rw [spanN_getD _ _ _ h1 (by omega), fillN_getD _ _ _ _ (by omega)]
    repeat' split
    all_goals first | rfl | omega))
  have HL := Lib.hid (show (fillN xs p 6 m).length = n by rw [fillN_length, hl])
  clear h hl
  go_enter Tryd.func90, Tryd.ntmps90
  go_wp2_with (first
    | (have mark := R1; go_at_call 71; (with_reducible refine (S2.out _ _ _ R1.out).mono ?_); rintro e w2 ⟨A2, c2, rfl, ho2, hg2⟩; have O2 := Lib.hid ho2; have G2 := Lib.hid hg2; clear ho2 hg2)
    | (go_at_call 71; (with_reducible refine S1.out.mono ?_); rintro e w1 ⟨A1, c1, rfl, ho, hg⟩; rw [HL.out] at ho ⊢; have R1 := Lib.hid (rd_own ho); have G1 := Lib.hid hg; clear ho hg))
  go_ret
  exact ⟨A2, c2, rfl, own_mono O2.out G1.out.size, G1.out.trans G2.out⟩
theorem rNew_any (n : Int) (k : Nat) (hk : near n 0 64 = k) (w : World) :
    Calls Tryd.prog 22 #[.int .i64 n] w fun e w' => ∃ r, e = .returned (.slice (some ⟨r, 0, none⟩) k k) ∧ w'.ownsRow w.heap.size 3 1 (.slice (some ⟨r, 0, none⟩) k k) k (ints (List.replicate k 0)) ∧ w.grownBy w' none := by
  have k64 : k ≤ 64 := by
    unfold near at hk
    repeat' split at hk
    all_goals omega
  have O := Lib.hid (World.ownsRow_lit (base := w.heap.size) (e := 3) (size := 1) w (ints (List.replicate k 0)).toArray k (Nat.le_refl _) (by unfold maxLen; omega) (by simp [ints]))
  have G := Lib.hid (World.grownBy_alloc w (.cells (ints (List.replicate k 0)).toArray 3) none)
  by_cases h1 : n < 0
  · obtain rfl : k = 0 := by unfold near at hk; rw [if_pos h1] at hk; omega
    have mk : (Instr.makeSlice 30 (.int .i64 0) (.int .i64 0)).run Tryd.prog w = .ok (.slice (some ⟨w.heap.size, 0, none⟩) 0 0) (w.alloc (.cells (ints (List.replicate 0 0)).toArray 3)) := make_ints 0 (by omega) w
    generalize (ints (List.replicate 0 0)) = cs at *
    clear hk
    go_enter Tryd.func22, Tryd.ntmps22
    go_wp2
    go_ret
    exact ⟨w.heap.size, rfl, O.out, G.out⟩
  by_cases h2 : 64 < n
  · obtain rfl : k = 64 := by unfold near at hk; rw [if_neg h1, if_pos h2] at hk; omega
    have mk : (Instr.makeSlice 30 (.int .i64 64) (.int .i64 64)).run Tryd.prog w = .ok (.slice (some ⟨w.heap.size, 0, none⟩) 64 64) (w.alloc (.cells (ints (List.replicate 64 0)).toArray 3)) := make_ints 64 (by omega) w
    generalize (ints (List.replicate 64 0)) = cs at *
    clear hk
    go_enter Tryd.func22, Tryd.ntmps22
    go_wp2
    go_ret
    exact ⟨w.heap.size, rfl, O.out, G.out⟩
  · obtain rfl : n = k := by unfold near at hk; rw [if_neg h1, if_neg h2] at hk; omega
    have mk := make_ints k (by omega) w
    generalize (ints (List.replicate k 0)) = cs at *
    clear hk
    go_enter Tryd.func22, Tryd.ntmps22
    go_wp2
    go_ret
    exact ⟨w.heap.size, rfl, O.out, G.out⟩
end Go.Proofs.YtpnhanalnbjapaaDoor.pg
