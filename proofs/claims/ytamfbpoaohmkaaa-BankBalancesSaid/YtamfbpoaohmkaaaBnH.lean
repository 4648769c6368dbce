/- The walk of BankBalances. -/
import Derived.Test.YtamfbpoaohmkaaaBnF
namespace Go.Proofs.Ytamfbpoaohmkaaa.bn
open Go.ChangeShapes Go.WideShapes Go.ChangeAt Go.RowKit gen li gr
set_option linter.unusedVariables false
set_option maxHeartbeats 8000000
set_option maxRecDepth 100000
section
variable {w w' W : World} {g : Nat} {N h i o l r s : Int}
/-- What a call leaves of all that came. -/
def SumA (g : Nat) (N r s : Int) (w w' : World) : Prop := ∃ h i o l, Bk w' g (N + 2147483648) h i o l r ∧ i + l = s ∧ w.grownBy w' (some g)
theorem put_s (k : Bk w g N h i o l r) (hN : N ≤ 1152921504606846976) (hs : i + l = s) (n : Int) : Calls Try.prog 11 #[.pointer (some ⟨g, 0, none⟩), .int .i64 n] w fun e w' => (∃ v, e = .returned (.int .i64 v)) ∧ SumA g N r (s + near n 0 2147483648) w w' :=
  (Put_any k (by omega) n).mono (fun e w' q => ⟨⟨_, q.1⟩, _, _, _, _, q.2.1, by omega, q.2.2⟩)
theorem take_s (k : Bk w g N h i o l r) (hN : N ≤ 1152921504606846976) (hs : i + l = s) (n : Int) : Calls Try.prog 12 #[.pointer (some ⟨g, 0, none⟩), .int .i64 n] w fun e w' => (∃ v, e = .returned (.bool v)) ∧ SumA g N r s w w' := by
  by_cases hn : n < 0 ∨ h < n
  · exact (Take_no k n hn).mono (fun e w' q => ⟨⟨_, q.1⟩, _, _, _, _, ⟨k.bo.new q.2, k.nu.more (by omega)⟩, hs, grown_any q.2⟩)
  · exact (Take_yes k (by omega) n (by omega) (by omega)).mono (fun e w' q => ⟨⟨_, q.1⟩, _, _, _, _, ⟨q.2.1.bo, q.2.1.nu.more (by omega)⟩, hs, q.2.2⟩)
theorem spend_s (k : Bk w g N h i o l r) (hN : N ≤ 1152921504606846976) (hs : i + l = s) (n : Int) : Calls Try.prog 13 #[.pointer (some ⟨g, 0, none⟩), .int .i64 n] w fun e w' => (∃ v, e = .returned (.int .i64 v)) ∧ SumA g N r s w w' :=
  (Spend_any k (by omega) n).mono (fun e w' q => ⟨⟨_, q.1⟩, _, _, _, _, ⟨q.2.1.bo, q.2.1.nu.more (by omega)⟩, hs, q.2.2⟩)
/-- What the statement asks of the numbers. -/
theorem Nu.asks (k : Nu N h i o l r) (hN : N ≤ 1152921504606846976) (hs : i + l = s) : IntKind.i64.wrap (i - o) = h ∧ decide (h < 0) = false ∧ decide (r < h) = false ∧ IntKind.i64.wrap (i + l) = s := by
  obtain ⟨e1, o0, h0, hr, r1, l0, il⟩ := k
  refine ⟨by rw [IntKind.wrap_i64]; omega, decide_eq_false (by omega), decide_eq_false (by omega), by rw [IntKind.wrap_i64]; omega⟩
end
theorem BankBalances_any (n : Int) (D : Option Addr) (l c2 : Nat) (f : Nat → Nat → Int) (w : World) (hc : l ≤ c2) (hc2 : c2 ≤ maxLen) (ho : Rws w w.heap.size D l 2 f) :
    Calls Try.prog 4 #[.int .i64 n, .slice D l c2] w fun e w' => e = .returned (.bool true) ∧ w.grownBy w' none := by
  have NW := Lib.hid (fun w => New_any n w)
  have NE := Lib.hid (fun w => Near_any n 0 65535 w)
  have HO := Lib.hid ho
  have FW := Lib.hid (fun w => few_any D l c2 w hc hc2 ho.some)
  generalize near n 0 65535 = r0 at NW NE
  clear ho hc hc2
  go_enter Try.func4, Try.ntmps4
  go_wp2_with (first
    | (go_at_call 6; (with_reducible refine (alive_any _).mono ?_); rintro r w1 ⟨rfl, hg⟩; have G1 := Lib.hid hg; clear hg)
    | (go_at_call 8; (with_reducible refine (NW.out _).mono ?_); rintro r w2 ⟨g, rfl, hr, hge, hg⟩; have K2 := Lib.hid hr; have G2 := Lib.hid (G1.out.trans hg); have LE := Lib.hid (Nat.le_trans G1.out.size hge); clear hr hge hg)
    | (go_at_call 10; (with_reducible refine (FW.out _).mono ?_); rintro r w' ⟨⟨l2, c4, hl1, hl2, rfl⟩, rfl⟩; have HL := Lib.hid hl1; have OL := Lib.hid (HO.out.less hl2); clear hl1 hl2))
  go_loopw [6, 7] (fun sx ix wr => ∃ (k : Nat) (s h i o t : Int), k ≤ l2 ∧ ix = .int .i64 k ∧ sx = .int .i64 s ∧ Bk wr g (k * 2147483648) h i o t r0 ∧ i + t = s ∧ w.grownBy wr none) (fun _ ix _ => l2 - (intOf ix).toNat)
  case atStart => exact ⟨0, 0, 0, 0, 0, 0, Nat.zero_le _, rfl, rfl, K2.out, rfl, G2.out⟩
  case round =>
    obtain ⟨k, s, h, i, o, t, hk, rfl, rfl, kb, hs, hg⟩ := hrel
    have HG := Lib.hid hg
    by_cases hlt : k < l2
    · obtain ⟨b, off, rfl, hb, hc, hw⟩ := (OL.out.kept hg (by simp)) k hlt
      have p0 := hc 0 (by omega)
      rw [Nat.add_zero] at p0
      have p1 := hc 1 (by omega)
      generalize f k 0 = x0 at p0
      generalize f k 1 = x1 at p1
      have j1 : (0 : Int) ≤ (k : Int) := by omega
      have j2 : (k : Int) < l2 := by omega
      have j3 : l2 ≤ 60 := HL.out
      have PS := Lib.hid (put_s kb (by have := HL.out; omega) hs x1)
      have TS := Lib.hid (take_s kb (by have := HL.out; omega) hs x1)
      have SS := Lib.hid (spend_s kb (by have := HL.out; omega) hs x1)
      have CN := Lib.hid (fun W => Near_any x1 0 2147483648 W)
      have n0 := near_lo (n := x1) (a := 0) (b := 2147483648) (by omega)
      have n9 := near_hi (n := x1) (a := 0) (b := 2147483648) (by omega)
      generalize near x1 0 2147483648 = c at PS CN n0 n9
      have es : IntKind.i64.wrap (s + c) = s + c := by
        have a1 := kb.nu.il
        have a2 := kb.nu.l0
        have a3 := kb.nu.e
        have a4 := kb.nu.h0
        have a5 := kb.nu.o0
        have := HL.out
        rw [IntKind.wrap_i64]
        omega
      clear hc hw hg kb hs
      by_cases y1 : x0 = 1
      · subst y1
        go_wp2_with (first
            | (go_at_call 11; (with_reducible refine PS.out.mono ?_); rintro e v2 ⟨⟨v, rfl⟩, h2, i2, o2, t2, hk2, hs2, hg2⟩; have K3 := Lib.hid hk2; have G3 := Lib.hid (grown_new HG.out hg2 LE.out); obtain ⟨e1, e2, e3, e4⟩ := hk2.nu.asks (by have := HL.out; omega) hs2; have S3 := Lib.hid hs2; have p2 := hg2.cell p1 (by have := LE.out; simp; omega); clear hk2 hs2 hg2)
            | (have mark := K4; go_at_call 15; (with_reducible refine (In_any K4.out.bo).mono ?_); rintro e w' ⟨rfl, hw⟩; subst hw)
            | (have mark := K4; go_at_call 16; (with_reducible refine (Out_any K4.out.bo).mono ?_); rintro e w' ⟨rfl, hw⟩; subst hw)
            | (have mark := K4; go_at_call 17; (with_reducible refine (Lost_any K4.out.bo).mono ?_); rintro e w' ⟨rfl, hw⟩; subst hw)
            | (have mark := K4; go_at_call 9; (with_reducible refine (NE.out _).mono ?_); rintro e w' ⟨rfl, hw⟩; subst hw)
            | (go_at_call 9; (with_reducible refine (CN.out _).mono ?_); rintro e w' ⟨rfl, hw⟩; subst hw)
            | (have mark := K3; go_at_call 14; (with_reducible refine (Balance_any K3.out.bo K3.out.nu.e K3.out.nu.h0 (Int.le_trans K3.out.nu.hr K3.out.nu.r1)).mono ?_); rintro e v3 ⟨rfl, hg⟩; have K4 := Lib.hid (K3.out.new hg); have G4 := Lib.hid (G3.out.trans hg); clear hg))
        go_roundw
        case rel => exact ⟨k + 1, s + c, h2, i2, o2, t2, by omega, by go_num, rfl, ⟨K4.out.bo, K4.out.nu.more (by omega)⟩, S3.out, G4.out⟩
        case measure => simp [intOf]; omega
      · have z1 : (x0 == 1) = false := by simpa using y1
        by_cases y2 : x0 = 2
        · subst y2
          go_wp2_with (first
              | (go_at_call 12; (with_reducible refine TS.out.mono ?_); rintro e v2 ⟨⟨v, rfl⟩, h2, i2, o2, t2, hk2, hs2, hg2⟩; have K3 := Lib.hid hk2; have G3 := Lib.hid (grown_new HG.out hg2 LE.out); obtain ⟨e1, e2, e3, e4⟩ := hk2.nu.asks (by have := HL.out; omega) hs2; have S3 := Lib.hid hs2; have p2 := hg2.cell p1 (by have := LE.out; simp; omega); clear hk2 hs2 hg2)
              | (have mark := K4; go_at_call 15; (with_reducible refine (In_any K4.out.bo).mono ?_); rintro e w' ⟨rfl, hw⟩; subst hw)
              | (have mark := K4; go_at_call 16; (with_reducible refine (Out_any K4.out.bo).mono ?_); rintro e w' ⟨rfl, hw⟩; subst hw)
              | (have mark := K4; go_at_call 17; (with_reducible refine (Lost_any K4.out.bo).mono ?_); rintro e w' ⟨rfl, hw⟩; subst hw)
              | (have mark := K4; go_at_call 9; (with_reducible refine (NE.out _).mono ?_); rintro e w' ⟨rfl, hw⟩; subst hw)
              | (go_at_call 9; (with_reducible refine (CN.out _).mono ?_); rintro e w' ⟨rfl, hw⟩; subst hw)
              | (have mark := K3; go_at_call 14; (with_reducible refine (Balance_any K3.out.bo K3.out.nu.e K3.out.nu.h0 (Int.le_trans K3.out.nu.hr K3.out.nu.r1)).mono ?_); rintro e v3 ⟨rfl, hg⟩; have K4 := Lib.hid (K3.out.new hg); have G4 := Lib.hid (G3.out.trans hg); clear hg))
          go_roundw
          case rel => exact ⟨k + 1, s, h2, i2, o2, t2, by omega, by go_num, rfl, ⟨K4.out.bo, K4.out.nu.more (by omega)⟩, S3.out, G4.out⟩
          case measure => simp [intOf]; omega
        · have z2 : (x0 == 2) = false := by simpa using y2
          go_wp2_with (first
              | (go_at_call 13; (with_reducible refine SS.out.mono ?_); rintro e v2 ⟨⟨v, rfl⟩, h2, i2, o2, t2, hk2, hs2, hg2⟩; have K3 := Lib.hid hk2; have G3 := Lib.hid (grown_new HG.out hg2 LE.out); obtain ⟨e1, e2, e3, e4⟩ := hk2.nu.asks (by have := HL.out; omega) hs2; have S3 := Lib.hid hs2; have p2 := hg2.cell p1 (by have := LE.out; simp; omega); clear hk2 hs2 hg2)
              | (have mark := K4; go_at_call 15; (with_reducible refine (In_any K4.out.bo).mono ?_); rintro e w' ⟨rfl, hw⟩; subst hw)
              | (have mark := K4; go_at_call 16; (with_reducible refine (Out_any K4.out.bo).mono ?_); rintro e w' ⟨rfl, hw⟩; subst hw)
              | (have mark := K4; go_at_call 17; (with_reducible refine (Lost_any K4.out.bo).mono ?_); rintro e w' ⟨rfl, hw⟩; subst hw)
              | (have mark := K4; go_at_call 9; (with_reducible refine (NE.out _).mono ?_); rintro e w' ⟨rfl, hw⟩; subst hw)
              | (go_at_call 9; (with_reducible refine (CN.out _).mono ?_); rintro e w' ⟨rfl, hw⟩; subst hw)
              | (have mark := K3; go_at_call 14; (with_reducible refine (Balance_any K3.out.bo K3.out.nu.e K3.out.nu.h0 (Int.le_trans K3.out.nu.hr K3.out.nu.r1)).mono ?_); rintro e v3 ⟨rfl, hg⟩; have K4 := Lib.hid (K3.out.new hg); have G4 := Lib.hid (G3.out.trans hg); clear hg))
          go_roundw
          case rel => exact ⟨k + 1, s, h2, i2, o2, t2, by omega, by go_num, rfl, ⟨K4.out.bo, K4.out.nu.more (by omega)⟩, S3.out, G4.out⟩
          case measure => simp [intOf]; omega
    · obtain rfl : k = l2 := by omega
      go_wp2
      go_ret
      exact ⟨rfl, HG.out⟩
end Go.Proofs.Ytamfbpoaohmkaaa.bn
