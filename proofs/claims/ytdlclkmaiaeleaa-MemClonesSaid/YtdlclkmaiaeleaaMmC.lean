/- Layer 4's functions that write, and those that make memory. -/
import Derived.Test.YtdlclkmaiaeleaaMmB
import Derived.Laws.AppendOwnNone
import Derived.Deep.RegionHeld3
import Derived.Deep.RegionHeldLaw
import Derived.Deep.RegionLaw
namespace Go.Proofs.Ytdlclkmaiaeleaa.mm
open Go.ChangeShapes Go.WideShapes Go.ChangeAt Go.RowKit gen
set_option linter.unusedVariables false

theorem Fill_yes {g r : Nat} {xs : List Int} {w : World} (h : MemAt w g r xs) (a n : Nat) (v : Int) (hyes : a + n ≤ xs.length) :
    Calls Try.prog 19 #[.pointer (some ⟨g, 0, none⟩), .int .i64 a, .int .i64 n, .int .i64 v] w fun e w' => e = .returned (.bool true) ∧ MemAt w' g r (fillN xs a v n) ∧ w.grownBy w' (some r) := by
  have H := Lib.hid h
  have HY := Lib.hid hyes
  have hs : n ≤ 2048 := by have := h.2.2; omega
  have ha : a ≤ 2048 := by have := h.2.2; omega
  clear h hyes
  go_enter Try.func19, Try.ntmps19
  go_wp2_with (go_at_call 22; (with_reducible refine (part_yes H.out a n HY.out).mono ?_); rintro e w' ⟨⟨A, rfl, hA⟩, rfl⟩; have HA := Lib.hid hA; clear hA)
  go_loopw [21] (fun i wr => ∃ k : Nat, k ≤ n ∧ i = .int .i64 k ∧ MemAt wr g r (fillN xs a v k) ∧ w.grownBy wr (some r)) (fun i _ => n - (intOf i).toNat)
  case atStart => exact ⟨0, Nat.zero_le _, rfl, H.out, grown_refl _ _⟩
  case round =>
    obtain ⟨k, hk, rfl, hm, hg⟩ := hrel
    have HM := Lib.hid hm
    have HG := Lib.hid hg
    clear hm hg
    by_cases hlt : k < n
    · obtain rfl := HA.out (by omega)
      have hc := HM.out.word (k := a + k) (by rw [fillN_length]; have := HY.out; omega)
      have hf := HM.out.free (a + k)
      go_wp2
      go_roundw
      case rel => exact ⟨k + 1, by omega, by go_num, (HM.out.set (a + k) v).1, HG.out.trans (HM.out.set (a + k) v).2⟩
      case measure => simp [intOf]; omega
    · obtain rfl : k = n := by omega
      go_wp2
      go_ret
      exact ⟨rfl, HM.out, HG.out⟩
theorem Fill_none (p : Value) (a n v : Int) (w : World) (h : Calls Try.prog 22 #[p, .int .i64 a, .int .i64 n] w fun e w' => e = none2 ∧ w = w') :
    Calls Try.prog 19 #[p, .int .i64 a, .int .i64 n, .int .i64 v] w fun e w' => e = .returned (.bool false) ∧ w = w' := by
  have H := Lib.hid h
  clear h
  go_enter Try.func19, Try.ntmps19
  go_wp2_with (go_at_call 22; (with_reducible refine H.out.mono ?_); rintro e w' ⟨rfl, rfl⟩)
  go_loopw [21] (fun i wr => i = .int .i64 0 ∧ wr = w) (fun i _ => 0)
  case atStart => exact ⟨rfl, rfl⟩
  case round =>
    obtain ⟨rfl, rfl⟩ := hrel
    go_wp2
    go_ret
    exact ⟨rfl, rfl⟩
theorem Fill_one {g r : Nat} {xs : List Int} {w : World} (h : MemAt w g r xs) (a : Nat) (v : Int) (hyes : a < xs.length) :
    Calls Try.prog 19 #[.pointer (some ⟨g, 0, none⟩), .int .i64 a, .int .i64 1, .int .i64 v] w fun e w' => e = .returned (.bool true) ∧ MemAt w' g r (xs.set a v) ∧ w.grownBy w' (some r) :=
  Fill_yes h a 1 v hyes
theorem Store_yes {g r : Nat} {xs : List Int} {w : World} (h : MemAt w g r xs) (a : Nat) (v : Int) (hyes : a < xs.length) :
    Calls Try.prog 15 #[.pointer (some ⟨g, 0, none⟩), .int .i64 a, .int .i64 v] w fun e w' => e = .returned (.bool true) ∧ MemAt w' g r (xs.set a v) ∧ w.grownBy w' (some r) := by
  have H := Lib.hid (Fill_one h a v hyes)
  clear h hyes
  go_enter Try.func15, Try.ntmps15
  go_wp2_with (go_at_call 19; (with_reducible refine H.out.mono ?_); rintro e w' ⟨rfl, hm, hg⟩; have HM := Lib.hid hm; have HG := Lib.hid hg; clear hm hg)
  go_ret
  exact ⟨rfl, HM.out, HG.out⟩
theorem Store_none (p : Value) (a v : Int) (w : World) (h : Calls Try.prog 22 #[p, .int .i64 a, .int .i64 1] w fun e w' => e = none2 ∧ w = w') :
    Calls Try.prog 15 #[p, .int .i64 a, .int .i64 v] w fun e w' => e = .returned (.bool false) ∧ w = w' := by
  have H := Lib.hid (Fill_none p a 1 v w h)
  clear h
  go_enter Try.func15, Try.ntmps15
  go_wp2_with (go_at_call 19; (with_reducible refine H.out.mono ?_); rintro e w' ⟨rfl, rfl⟩)
  go_ret
  exact ⟨rfl, rfl⟩
theorem info2 : (Try.prog.info? 2).map (·.size) = some 1 := by kernel_rfl
theorem Move_yes {g r : Nat} {xs : List Int} {w : World} (h : MemAt w g r xs) (a b n : Nat) (ha : a + n ≤ xs.length) (hb : b + n ≤ xs.length) :
    Calls Try.prog 17 #[.pointer (some ⟨g, 0, none⟩), .int .i64 a, .int .i64 b, .int .i64 n] w fun e w' => e = .returned (.bool true) ∧ MemAt w' g r (moveN xs xs a b n) ∧ w.grownBy w' (some r) := by
  have H := Lib.hid h
  have HA := Lib.hid ha
  have HB := Lib.hid hb
  have hs : n ≤ 2048 := by have := h.2.2; omega
  obtain ⟨cs, hcs⟩ : ∃ cs, cs = ints ((xs.drop b).take n) := ⟨_, rfl⟩
  have HC := Lib.hid hcs
  have HL := Lib.hid (show cs.length = n by rw [hcs]; simp [ints]; omega)
  have HW := Lib.hid (show ∀ j v, cs[j]? = some v → w.cell? ((⟨r, b, none⟩ : Addr).add j) = some v by
    intro j v hv
    have hj : j < n := by rw [← HL.out]; exact (List.getElem?_eq_some_iff.1 hv).1
    rw [hcs] at hv
    have hd : b + j < xs.length := by omega
    rw [Addr.add_lit, h.word hd]
    simpa [ints, hj, hd] using hv)
  clear h ha hb hcs
  go_enter Try.func17, Try.ntmps17
  go_wp2_with (first
    | (go_at_call 22; (with_reducible refine (part_yes H.out b n HB.out).mono ?_); rintro e w' ⟨⟨S, rfl, hS⟩, rfl⟩; have HS := Lib.hid hS; clear hS)
    | (go_at_call 22; (with_reducible refine (part_yes H.out a n HA.out).mono ?_); rintro e w' ⟨⟨D, rfl, hD⟩, rfl⟩; have HD := Lib.hid hD; clear hD)
    | (refine wpList_copy_row rfl (.tmp 28) (.tmp 29) 26 26 rfl 2 Try.underlying26 info2 (some D) (some S) n n n n rfl rfl r a (ints xs) 2 H.out.2.1 cs (by rw [HL.out]; simp) (fun hp => ⟨by rw [HD.out (by rw [← HL.out]; exact hp)], _, by rw [HS.out (by rw [← HL.out]; exact hp)], HW.out⟩) (by rw [HL.out, ints_length]; exact HA.out) (by rw [HC.out]; exact ints_one _) ?_; intro w2 h2 hg2; have HG2 := Lib.hid hg2; clear hg2))
  go_ret
  refine ⟨rfl, ⟨?_, ?_, ?_⟩, HG2.out⟩
  · rw [moveN_length, HG2.out.block g H.out.lt.1 (by simpa using H.out.ne), H.out.1]
  · rw [h2.out, HC.out, ints_splice, splice_moveN _ _ _ _ _ HA.out HB.out]
  · rw [moveN_length]; exact H.out.2.2
theorem Move_nof (p : Value) (a b n : Int) (w : World) (h : Calls Try.prog 22 #[p, .int .i64 b, .int .i64 n] w fun e w' => e = none2 ∧ w = w') :
    Calls Try.prog 17 #[p, .int .i64 a, .int .i64 b, .int .i64 n] w fun e w' => e = .returned (.bool false) ∧ w = w' := by
  have H := Lib.hid h
  clear h
  go_enter Try.func17, Try.ntmps17
  go_wp2_with (go_at_call 22; (with_reducible refine H.out.mono ?_); rintro e w' ⟨rfl, rfl⟩)
  go_ret
  exact ⟨rfl, rfl⟩
theorem Move_not {g r : Nat} {xs : List Int} {w : World} (h : MemAt w g r xs) (a : Int) (b n : Nat) (ha : ¬ (0 ≤ a ∧ a + n ≤ xs.length)) (hb : b + n ≤ xs.length) :
    Calls Try.prog 17 #[.pointer (some ⟨g, 0, none⟩), .int .i64 a, .int .i64 b, .int .i64 n] w fun e w' => e = .returned (.bool false) ∧ w = w' := by
  have hl := h.2.2
  have H := Lib.hid (part_no h a n (by omega) (by omega))
  have H1 := Lib.hid (part_yes h b n hb)
  clear h ha hb
  go_enter Try.func17, Try.ntmps17
  go_wp2_with (first
    | (have mark := H2; go_at_call 22; (with_reducible refine H.out.mono ?_); rintro e w' ⟨rfl, rfl⟩)
    | (go_at_call 22; (with_reducible refine H1.out.mono ?_); rintro e w' ⟨⟨S, rfl, hS⟩, rfl⟩; have H2 := Lib.hid hS; clear hS)
    | (refine wpList_copy_nothing rfl (.tmp 28) (.tmp 29) 26 26 rfl 2 Try.underlying26 info2 none (some S) 0 0 n n rfl rfl (by simp) ?_))
  go_ret
  exact ⟨rfl, rfl⟩
end Go.Proofs.Ytdlclkmaiaeleaa.mm
