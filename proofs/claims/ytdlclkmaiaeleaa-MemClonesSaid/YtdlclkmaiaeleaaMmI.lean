/- What a run of the law's own script on words does. -/
import Derived.Test.YtdlclkmaiaeleaaMmH
import Derived.Test.YtdlclkmaiaeleaaGenC
namespace Go.Proofs.Ytdlclkmaiaeleaa.mm
open Go.ChangeShapes Go.WideShapes Go.ChangeAt Go.RowKit gen
set_option linter.unusedVariables false

/-- What a run answers. -/
def RunAns (g r m : Nat) (v0 : Value) (w : World) (e : Ending) (w' : World) : Prop :=
  ∃ A c ys, e = .returned (.tuple #[.slice A m c, .bool true]) ∧ ys.length = m ∧ MemAt w' g r ys ∧ Lst w' r (.slice A m c) ys ∧ w.grownBy w' (some r) ∧ From w v0 (.slice A m c)

theorem grown_more {a b c : World} {row : Option Nat} (h : a.grownBy b row) (k : b.grownBy c none) : a.grownBy c row :=
  ⟨k.os.trans h.os, k.tape.trans h.tape, k.output.trans h.output, Nat.le_trans h.size k.size, fun i hi hne => (k.block i (Nat.lt_of_lt_of_le hi h.size) (by simp)).trans (h.block i hi hne)⟩
theorem rd_own {w : World} {base n c : Nat} {A : Option Addr} {xs : List Int} (h : w.ownsRow base 2 1 (.slice A n c) n (ints xs)) : Rd w w.heap.size A n c xs := by
  obtain ⟨A', c', e, hr⟩ := Rd.of_own h
  injection e with h1 h2 h3
  subst h1 h3
  exact hr
set_option maxHeartbeats 4000000 in
theorem run_any {g r : Nat} {xs : List Int} {w : World} {A : Option Addr} {c m n c2 B : Nat} {D : Option Addr} {f : Nat → Nat → Int} (h : MemAt w g r xs) (hm : xs.length = m) (hl : Lst w r (.slice A m c) xs) (ho : Rws w B D n 5 f) (hB : B ≤ r) (hn : n ≤ 50) :
    Calls Try.prog 12 #[.pointer (some ⟨g, 0, none⟩), .slice A m c, .slice D n c2] w (RunAns g r m (.slice A m c) w) := by
  have hs : m ≤ 2048 := by have := h.2.2; omega
  have H := Lib.hid h
  have HM := Lib.hid hm
  have HL := Lib.hid hl
  have HO := Lib.hid ho
  have HB := Lib.hid hB
  clear h hm hl ho hB
  go_enter Try.func12, Try.ntmps12
  go_wp2
  go_loopw [1, 8, 9] (fun v o i wr => ∃ (k : Nat) (A' : Option Addr) (c' : Nat) (ys : List Int), k ≤ n ∧ i = .int .i64 k ∧ o = .bool true ∧ v = .slice A' m c' ∧ ys.length = m ∧ MemAt wr g r ys ∧ Lst wr r (.slice A' m c') ys ∧ w.grownBy wr (some r) ∧ From w (.slice A m c) (.slice A' m c')) (fun _ _ i _ => n - (intOf i).toNat)
  case atStart => exact ⟨0, A, c, xs, Nat.zero_le _, rfl, rfl, rfl, HM.out, H.out, HL.out, grown_refl _ _, From.same _ _⟩
  case round =>
    obtain ⟨k, A1, c1, ys, hk, rfl, rfl, rfl, hy, hm, hl, hg, hfr⟩ := hrel
    have FR := Lib.hid hfr
    have HY := Lib.hid hy
    have M1 := Lib.hid hm
    have L1 := Lib.hid hl
    have G1 := Lib.hid hg
    have O1 := Lib.hid (HO.out.kept hg (fun q e => by cases e; exact HB.out))
    clear hy hm hl hg hfr HL H HO
    by_cases hlt : k < n
    · obtain ⟨b, off, rfl, hb, hc, hw⟩ := O1.out k hlt
      have d0 := hc 0 (by omega)
      rw [Nat.add_zero] at d0
      have d1 := hc 1 (by omega)
      have d2 := hc 2 (by omega)
      have d3 := hc 3 (by omega)
      have d4 := hc 4 (by omega)
      have W4 := Lib.hid (hw 3 (by omega)).2
      generalize f k 0 = x0 at d0
      generalize f k 1 = x1 at d1
      generalize f k 2 = x2 at d2
      generalize f k 3 = x3 at d3 W4
      generalize f k 4 = x4 at d4
      clear hc hw O1
      go_wp2_with (first
        | (go_at_call 24; (with_reducible refine (step_any x0 x1 x2 x3 x4 M1.out HY.out L1.out W4.out).mono ?_); rintro e w2 ⟨A2, e2, zs, rfl, hz2, hm2, hl2, hg2, hf2⟩; have F2 := Lib.hid (FR.out.then hf2 G1.out.size); have HZ := Lib.hid hz2; have M2 := Lib.hid hm2; have L2 := Lib.hid hl2; have G2 := Lib.hid (G1.out.trans hg2); clear hz2 hm2 hl2 hg2 hf2)
        | (go_at_call 11; (with_reducible refine (All_yes M2.out).mono ?_); rintro e w3 ⟨A3, e3, rfl, ho3, hg3⟩; have R3 := Lib.hid (rd_own ho3); have M3 := Lib.hid (M2.out.kept hg3 (by simp) (by simp)); have L3 := Lib.hid (L2.out.made hg3); have G3 := Lib.hid (grown_more G2.out hg3); clear ho3 hg3)
        | (go_at_call 10; (with_reducible refine (words_true zs _ _ _ _ _ _ _ _ _ (by rw [HZ.out]; omega) HZ.out R3.out (L3.out.rd' HZ.out)).mono ?_); rintro e w4 ⟨rfl, q, rfl⟩)
        | (go_at_call 20; (with_reducible refine (Len_yes (M3.out.drewN q)).mono ?_); rintro e w' ⟨rfl, rfl⟩; rw [HZ.out]))
      go_roundw
      case rel => exact ⟨k + 1, A2, e2, zs, by omega, by go_num, rfl, rfl, HZ.out, M3.out.drewN q, L3.out.drewN q, grown_more G3.out (grown_drewN _ _ _), F2.out⟩
      case measure => simp [intOf]; omega
    · go_wp2
      go_ret2
      exact ⟨_, _, _, rfl, HY.out, M1.out, L1.out, G1.out, FR.out⟩
end Go.Proofs.Ytdlclkmaiaeleaa.mm
