/- The walk of EpochAgrees. -/
import Derived.Test.YtahiagaocnmjpaaEpH
namespace Go.Proofs.Ytahiagaocnmjpaa.ep
open Go.ChangeShapes Go.WideShapes Go.ChangeAt Go.RowKit gen li
set_option linter.unusedVariables false
set_option maxHeartbeats 16000000
set_option maxRecDepth 100000
theorem ls_top (e : Nat) (m : List Int) : ∀ k, ls e m k ≤ (e : Int)
  | 0 => Int.le_refl _
  | k + 1 => by
    have := ls_top e m k
    unfold ls
    split
    · omega
    · exact this
theorem ls_le (e : Nat) (m : List Int) {t : Nat} (hv : lv (m.getD t (-1)) = true) : ∀ k, t < k → ls e m k ≤ m.getD t (-1)
  | 0, h => by omega
  | k + 1, h => by
    by_cases hk : t = k
    · subst hk
      unfold ls
      rw [if_pos hv]
      omega
    · have := ls_le e m hv k (by omega)
      unfold ls
      split
      · omega
      · exact this
theorem al_ge {e : Nat} {m : List Int} {x : Int} (h : x ∈ al m) : ls e m m.length ≤ of m x := by
  obtain ⟨t, ht, rfl, hv, _⟩ := mem_chs h
  rw [of_nat]
  exact ls_le e m hv _ ht
theorem ag_iff (e : Nat) (m : List Int) : ∀ k, chs (pb e) m k = [] ↔ ls e m k = (e : Int)
  | 0 => by simp [chs, ls]
  | k + 1 => by
    have ih := ag_iff e m k
    have top := ls_top e m k
    cases hv : lv (m.getD k (-1)) with
    | false => rw [chs_no (by rw [hv]; rfl), ls_skip e m k rfl hv]; exact ih
    | true =>
      rw [ls_step e m k rfl hv]
      by_cases hb : m.getD k (-1) < (e : Int)
      · rw [chs_yes hv (decide_eq_true hb)]
        refine ⟨fun h => by simp at h, fun h => ?_⟩
        split at h <;> omega
      · rw [chs_no (by rw [hv]; exact decide_eq_false hb), ih]
        split <;> omega
theorem ag_eq (e : Nat) (m : List Int) : (((bh e m).length : Int) == 0) = (ls e m m.length == (e : Int)) := by
  have := ag_iff e m m.length
  by_cases h : ls e m m.length = (e : Int)
  · rw [show bh e m = [] from this.2 h, h]
    simp
  · have h2 : bh e m ≠ [] := fun e => h (this.1 e)
    have h3 : (bh e m).length ≠ 0 := fun e => h2 (List.eq_nil_of_length_eq_zero e)
    have a1 : (((bh e m).length : Int) == 0) = false := by simpa using h2
    have a2 : (ls e m m.length == (e : Int)) = false := by simpa using h
    rw [a1, a2]
theorem of_set {m : List Int} {k : Nat} (hk : k < m.length) (x : Int) : of (m.set k x) k = x := by
  rw [of_nat, List.getD_eq_getElem?_getD, List.getElem?_set_self hk]
  rfl
theorem not_bh (e : Nat) {m : List Int} {k : Nat} (hk : k < m.length) : (k : Int) ∉ bh e (m.set k e) := fun h => by
  obtain ⟨t, _, ht, _, hp⟩ := mem_chs h
  obtain rfl : k = t := by omega
  rw [← of_nat, of_set hk] at hp
  have := of_decide_eq_true hp
  omega
/-- What a call leaves, whatever it answers. -/
def Chg (g e : Nat) (w : World) (r : Ending) (w' : World) : Prop := ∃ (v : Value) (m' : List Int) (e' : Nat), r = .returned v ∧ Rg w' g true e' m' ∧ e' ≤ e + 1 ∧ w.grownBy w' (some g)
section
variable {w : World} {g e : Nat} {m : List Int}
theorem hs_cases (m : List Int) (t : Int) : (hs m t = false) ∨ ∃ k : Nat, t = k ∧ k < m.length := by
  by_cases h : 0 ≤ t ∧ t < (m.length : Int)
  · exact .inr ⟨t.toNat, by omega, by omega⟩
  · exact .inl (decide_eq_false h)
theorem Attach_dec (h : Rg w g true e m) (t : Int) : (hs m t = false ∨ 0 ≤ of m t) ∨ ∃ k : Nat, t = k ∧ k < m.length ∧ of m k = -1 := by
  have hr := h.range t
  rcases hs_cases m t with h1 | ⟨k, rfl, hk⟩
  · exact .inl (.inl h1)
  · by_cases h0 : 0 ≤ of m k
    · exact .inl (.inr h0)
    · exact .inr ⟨k, rfl, hk, by omega⟩
theorem grown_same (w : World) (row : Option Nat) : w.grownBy w row := ⟨rfl, rfl, rfl, Nat.le_refl _, fun _ _ _ => rfl⟩
theorem Attach_chg (h : Rg w g true e m) (t : Int) : Calls Try.prog 11 #[.pointer (some ⟨g, 0, none⟩), .int .i64 t] w (Chg g e w) := by
  rcases Attach_dec h t with hn | ⟨k, rfl, hk, ho⟩
  · exact (Attach_no h t hn).mono fun r w' ⟨h1, h2⟩ => ⟨_, m, e, h1, h2 ▸ h, by omega, h2 ▸ grown_same _ _⟩
  · exact (Attach_yes h k hk ho).mono fun r w' ⟨h1, h2, h3⟩ => ⟨_, _, e, h1, h2, by omega, h3⟩
theorem Detach_chg (h : Rg w g true e m) (t : Int) : Calls Try.prog 12 #[.pointer (some ⟨g, 0, none⟩), .int .i64 t] w (Chg g e w) := by
  by_cases hn : of m t < 0
  · exact (Detach_no h t hn).mono fun r w' ⟨h1, h2⟩ => ⟨_, m, e, h1, h2 ▸ h, by omega, h2 ▸ grown_same _ _⟩
  · obtain ⟨h0, _⟩ := of_in (m := m) (t := t) (by omega)
    obtain ⟨k, rfl⟩ : ∃ k : Nat, t = k := ⟨t.toNat, by omega⟩
    exact (Detach_yes h k (by omega)).mono fun r w' ⟨h1, h2, h3⟩ => ⟨_, _, e, h1, h2, by omega, h3⟩
theorem Raise_chg (h : Rg w g true e m) (he : e ≤ 1000000) : Calls Try.prog 13 #[.pointer (some ⟨g, 0, none⟩)] w (Chg g e w) :=
  (Raise_yes h he).mono fun r w' ⟨h1, h2, h3⟩ => ⟨_, _, _, h1, h2, by omega, h3⟩
theorem Confirm_chg (h : Rg w g true e m) (t : Int) : Calls Try.prog 14 #[.pointer (some ⟨g, 0, none⟩), .int .i64 t] w (Chg g e w) := by
  have hr := h.range t
  by_cases hn : of m t < 0 ∨ of m t = (e : Int)
  · refine (Confirm_no h t hn).mono ?_
    rintro r w' ⟨h1, q, rfl⟩
    exact ⟨_, m, e, h1, h.drewN q, by omega, li.grown_drewN _ _ _⟩
  · obtain ⟨h0, _⟩ := of_in (m := m) (t := t) (by omega)
    obtain ⟨k, rfl⟩ : ∃ k : Nat, t = k := ⟨t.toNat, by omega⟩
    exact (Confirm_yes h k (by omega) (by omega)).mono fun r w' ⟨h1, h2, h3⟩ => ⟨_, _, e, h1, h2, by omega, h3⟩
end
theorem EpochAgrees_any (n : Int) (D : Option Addr) (l c2 : Nat) (f : Nat → Nat → Int) (t : Int) (w : World) (hc : l ≤ c2) (hc2 : c2 ≤ maxLen) (ho : Rws w w.heap.size D l 2 f) :
    Calls Try.prog 4 #[.int .i64 n, .slice D l c2, .int .i64 t] w fun e w' => e = .returned (.bool true) ∧ w.grownBy w' none := by
  obtain ⟨kn, hk, h8⟩ := near_nat n 8
  have NW := Lib.hid (fun w => New_any n kn hk h8 w)
  have HO := Lib.hid ho
  have FW := Lib.hid (fun w => few_any D l c2 w hc hc2 ho.some)
  clear ho hc hc2 hk
  go_enter Try.func4, Try.ntmps4
  go_wp2_with (first
    | (go_at_call 6; (with_reducible refine (alive_any _).mono ?_); rintro r w1 ⟨rfl, hg⟩; have G1 := Lib.hid hg; clear hg)
    | (go_at_call 8; (with_reducible refine (NW.out _).mono ?_); rintro r w2 ⟨g, rfl, hr, hge, hg⟩; have R2 := Lib.hid hr; have G2 := Lib.hid (G1.out.trans hg); have LE := Lib.hid (Nat.le_trans G1.out.size hge); clear hr hge hg)
    | (go_at_call 10; (with_reducible refine (FW.out _).mono ?_); rintro r w' ⟨⟨l2, c4, hl1, hl2, rfl⟩, rfl⟩; have O2 := Lib.hid (HO.out.less hl2)))
  go_loopw [8] (fun i wr => ∃ (k e' : Nat) (m' : List Int), k ≤ l2 ∧ i = .int .i64 k ∧ Rg wr g true e' m' ∧ e' ≤ k ∧ w.grownBy wr none) (fun i _ => l2 - (intOf i).toNat)
  case atStart => exact ⟨0, 0, _, Nat.zero_le _, rfl, R2.out, Nat.le_refl _, G2.out⟩
  case round =>
    obtain ⟨k, e1, m1, hk, rfl, hr, he, hg⟩ := hrel
    have R3 := Lib.hid hr
    have E3 := Lib.hid he
    have G3 := Lib.hid hg
    have O3 := Lib.hid (O2.out.kept hg (by simp))
    clear hr he hg R2 G2 NW FW
    by_cases hlt : k < l2
    · obtain ⟨b, off, rfl, hb, hc, hw⟩ := O3.out k hlt
      have p0 := hc 0 (by omega)
      rw [Nat.add_zero] at p0
      have p1 := hc 1 (by omega)
      generalize f k 0 = x0 at p0
      generalize f k 1 = x1 at p1
      have l1 : (0 : Int) ≤ (k : Int) := by omega
      have l2' : (k : Int) < l2 := by omega
      have AT := Lib.hid (Attach_chg R3.out x1)
      have DT := Lib.hid (Detach_chg R3.out x1)
      have CT := Lib.hid (Confirm_chg R3.out x1)
      have RT := Lib.hid (Raise_chg R3.out (by have := E3.out; omega))
      have kinds : x0 = 1 ∨ x0 = 2 ∨ x0 = 3 ∨ ((x0 == 1) = false ∧ (x0 == 2) = false ∧ (x0 == 3) = false) := by
        by_cases h1 : x0 = 1
        · exact .inl h1
        by_cases h2 : x0 = 2
        · exact .inr (.inl h2)
        by_cases h3 : x0 = 3
        · exact .inr (.inr (.inl h3))
        exact .inr (.inr (.inr ⟨by simpa using h1, by simpa using h2, by simpa using h3⟩))
      clear hc hw O3
      rcases kinds with rfl | rfl | rfl | ⟨o1, o2, o3⟩
      all_goals
        go_wp2_with (first
          | (have mark := R4; go_at_call 15; (with_reducible refine (All_any R4.out).mono ?_); rintro r w5 ⟨A5, c5, rfl, ho5, hg⟩; have N5 := Lib.hid (Nat.le_trans (al_length m4) R4.out.eight); have V5 := Lib.hid (fun W (hg : w5.grownBy W none) => rd_own (own_new ho5 hg)); have R5 := Lib.hid (R4.out.new hg); have G5 := Lib.hid (G4.out.trans hg); clear ho5 hg)
          | (go_at_call 11; (with_reducible refine AT.out.mono ?_); rintro r w4 ⟨v4, m4, e4, rfl, hr, he, hg⟩; have R4 := Lib.hid hr; have E4 := Lib.hid he; have G4 := Lib.hid (grown_new G3.out hg LE.out); clear hr he hg)
          | (go_at_call 12; (with_reducible refine DT.out.mono ?_); rintro r w4 ⟨v4, m4, e4, rfl, hr, he, hg⟩; have R4 := Lib.hid hr; have E4 := Lib.hid he; have G4 := Lib.hid (grown_new G3.out hg LE.out); clear hr he hg)
          | (go_at_call 13; (with_reducible refine RT.out.mono ?_); rintro r w4 ⟨v4, m4, e4, rfl, hr, he, hg⟩; have R4 := Lib.hid hr; have E4 := Lib.hid he; have G4 := Lib.hid (grown_new G3.out hg LE.out); clear hr he hg)
          | (go_at_call 14; (with_reducible refine CT.out.mono ?_); rintro r w4 ⟨v4, m4, e4, rfl, hr, he, hg⟩; have R4 := Lib.hid hr; have E4 := Lib.hid he; have G4 := Lib.hid (grown_new G3.out hg LE.out); clear hr he hg))
        have MA := Lib.hid (fun j (hj : j < (al m4).length) => show (al m4).getD j 0 ∈ al m4 from getD_mem hj 0)
        have AE := Lib.hid (fun x (hx : x ∈ al m4) => (⟨al_ge hx, (R5.out.range x).2⟩ : ls e4 m4 m4.length ≤ of m4 x ∧ of m4 x ≤ (e4 : Int)))
        have AG := Lib.hid (fun W (hg : w5.grownBy W none) => Agreed_any (R5.out.new hg))
        rw [ag_eq] at AG
        have LT := Lib.hid (fun W (hg : w5.grownBy W none) => Least_any (R5.out.new hg))
        have EP := Lib.hid (fun W (hg : w5.grownBy W none) => Epoch_any (R5.out.new hg))
        have OF := Lib.hid (fun W x (hg : w5.grownBy W none) => Of_any (R5.out.new hg) x)
        generalize ls e4 m4 m4.length = z at AE AG LT
        have NL := Lib.hid (show (al m4).length ≤ 8 from N5.out)
        generalize al m4 = xs at MA AE V5 NL
        obtain ⟨n5, hn5⟩ : ∃ n5, xs.length = n5 := ⟨_, rfl⟩
        rw [hn5] at V5 MA NL ⊢
        have NN := NL.out
        clear hn5 N5
        go_loopw [10] (fun i wr => ∃ j : Nat, j ≤ n5 ∧ i = .int .i64 j ∧ w5.grownBy wr none) (fun i _ => n5 - (intOf i).toNat)
        case atStart => exact ⟨0, Nat.zero_le _, rfl, World.grownBy.refl _ _⟩
        case round =>
          obtain ⟨j, hj, rfl, hg⟩ := hrel
          have GJ := Lib.hid hg
          clear hg
          by_cases hlj : j < n5
          · obtain ⟨b5, o5, rfl, g5⟩ := (V5.out _ GJ.out).at_ hlj
            have hx := MA.out j hlj
            generalize xs.getD j 0 = x at g5 hx
            obtain ⟨y1, y2⟩ := AE.out x hx
            have OX := Lib.hid (fun W hg => OF.out W x hg)
            generalize of m4 x = y at y1 y2 OX
            have t1 : decide ((e4 : Int) < y) = false := decide_eq_false (by omega)
            have t2 : decide (y < z) = false := decide_eq_false (by omega)
            have GC := Lib.hid (fun W (hg : w5.grownBy W none) => show W.cell? ⟨b5, o5 + j, none⟩ = some (.int .i64 (xs.getD j 0)) by
              obtain ⟨q2, q3, e2, g2⟩ := (V5.out _ hg).at_ hlj
              injection e2 with e2
              injection e2 with e3 e4
              subst e3 e4
              exact g2)
            have j1 : (0 : Int) ≤ (j : Int) := by omega
            have j2 : (j : Int) < n5 := by omega
            clear hx
            go_wp2_with (first
              | (go_at_call 16; (with_reducible refine (OX.out _ GJ.out).mono ?_); rintro r w' ⟨rfl, rfl⟩)
              | (go_at_call 17; (with_reducible refine (EP.out _ GJ.out).mono ?_); rintro r w' ⟨rfl, rfl⟩)
              | (go_at_call 18; (with_reducible refine (LT.out _ GJ.out).mono ?_); rintro r w6 ⟨rfl, hg⟩; have G6 := Lib.hid (GJ.out.trans hg); clear hg))
            go_roundw
            case rel => exact ⟨j + 1, by omega, by go_num, G6.out⟩
            case measure => simp [intOf]; omega
          · obtain rfl : j = n5 := by omega
            cases hq : (z == (e4 : Int))
            all_goals
              rw [hq] at AG
              go_wp2_with (first
                | (go_at_call 19; (with_reducible refine (AG.out _ GJ.out).mono ?_); rintro r w6 ⟨rfl, hg⟩; have G6 := Lib.hid (GJ.out.trans hg); clear hg)
                | (go_at_call 18; (with_reducible refine (LT.out _ G6.out).mono ?_); rintro r w7 ⟨rfl, hg⟩; have G7 := Lib.hid (G6.out.trans hg); clear hg)
                | (go_at_call 17; (with_reducible refine (EP.out _ G7.out).mono ?_); rintro r w' ⟨rfl, rfl⟩))
              go_roundw
              case rel => exact ⟨k + 1, e4, m4, by omega, by go_num, R5.out.new G7.out, by have := E4.out; have := E3.out; omega, G5.out.trans G7.out⟩
              case measure => simp [intOf]; omega
    · rcases Attach_dec R3.out t with hn | ⟨q, rfl, hq, ho⟩
      · have AT := Lib.hid (Attach_no R3.out t hn)
        clear hn
        go_wp2_with (go_at_call 11; (with_reducible refine AT.out.mono ?_); rintro r w' ⟨rfl, rfl⟩)
        go_ret
        exact ⟨rfl, G3.out⟩
      · have AT := Lib.hid (Attach_yes R3.out q hq ho)
        have OS := Lib.hid (of_set hq (e1 : Int))
        have NB := Lib.hid (not_bh e1 hq)
        have BL := Lib.hid (bh_length e1 (m1.set q e1))
        clear hq ho
        go_wp2_with (first
          | (go_at_call 11; (with_reducible refine AT.out.mono ?_); rintro r w4 ⟨rfl, hr, hg⟩; have R4 := Lib.hid hr; have G4 := Lib.hid (grown_new G3.out hg LE.out); clear hr hg)
          | (go_at_call 16; (with_reducible refine (Of_any R4.out _).mono ?_); rintro r w' ⟨rfl, rfl⟩; rw [OS.out])
          | (go_at_call 17; (with_reducible refine (Epoch_any R4.out).mono ?_); rintro r w' ⟨rfl, rfl⟩)
          | (go_at_call 21; (with_reducible refine (Behind_any R4.out).mono ?_); rintro r w5 ⟨A5, c5, rfl, ho5, hg⟩; have V5 := Lib.hid (rd_own ho5); have L5 := Lib.hid R4.out.eight; have G5 := Lib.hid (G4.out.trans hg); clear ho5 hg)
          | (go_at_call 20; (with_reducible refine (In_any (by have := BL.out; have := L5.out; omega) V5.out _).mono ?_); rintro r w' ⟨rfl, rfl⟩; rw [decide_eq_false NB.out]))
        go_ret
        exact ⟨rfl, G5.out⟩
end Go.Proofs.Ytahiagaocnmjpaa.ep
