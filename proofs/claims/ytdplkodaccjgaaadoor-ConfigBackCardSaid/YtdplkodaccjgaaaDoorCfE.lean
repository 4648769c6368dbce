/- The octets of a config: what the program's function answers. -/
import Derived.Test.YtdplkodaccjgaaaDoorCfD
import Derived.Deep.Onto
namespace Go.Proofs.YtdplkodaccjgaaaDoor.cf
open Go.ChangeShapes Go.WideShapes Go.ChangeAt Go.RowKit
set_option linter.unusedVariables false

/-- Two octets for each number, the higher one first. -/
def octs (l : List Int) : List Int := l.flatMap fun n => [n / 256, n % 256]
def octsV (l : List Int) : List Value := (octs l).map (Value.int .u8)
theorem octs_snoc (l : List Int) (n : Int) : octs (l ++ [n]) = octs l ++ [n / 256, n % 256] := by simp [octs]
theorem octsV_step (l : List Int) (k : Nat) (x : Int) (hk : k < l.length) (hx : l.getD k 0 = x) : octsV (l.take (k + 1)) = octsV (l.take k) ++ [.int .u8 (x / 256), .int .u8 (x % 256)] := by
  have e : l.take (k + 1) = l.take k ++ [x] := by
    rw [List.take_succ_eq_append_getElem hk]
    congr 2
    rw [← hx]; simp [hk]
  unfold octsV
  rw [e, octs_snoc]
  simp
theorem octs_length (l : List Int) : (octs l).length = 2 * l.length := by
  induction l with
  | nil => rfl
  | cons x l ih =>
    have : octs (x :: l) = [x / 256, x % 256] ++ octs l := by simp [octs]
    rw [this, List.length_append, ih]
    simp
    omega
theorem small {l : List Int} (h : ∀ j, j < 10 → bad l j = false) {k : Nat} (hk : k < 10) : 0 ≤ l.getD k 0 ∧ l.getD k 0 ≤ 65535 := by
  have hb := bad_iff.1 (h k hk)
  have hk' : k = 0 ∨ k = 1 ∨ k = 2 ∨ k = 3 ∨ k = 4 ∨ k = 5 ∨ k = 6 ∨ k = 7 ∨ k = 8 ∨ k = 9 := by omega
  have e : 0 ≤ lo k ∧ hi k ≤ 65535 := by
    rcases hk' with rfl | rfl | rfl | rfl | rfl | rfl | rfl | rfl | rfl | rfl <;> decide
  omega
theorem info5 : (Tryd.prog.info? 5).map (fun i => (i.zero, i.size, i.bytes)) = some (some (.int .u8 0), 1, 1) := by kernel_rfl

/-- What is answered with the octets: a new row that holds them, and no error. -/
def Octs (l : List Int) (w : World) (e : Ending) (w' : World) : Prop :=
  ∃ g cap, e = .returned (.tuple #[.slice (some ⟨g, 0, none⟩) 20 cap, .int .i64 0]) ∧ w.heap.size ≤ g ∧ w'.ownsRow w.heap.size 5 1 (.slice (some ⟨g, 0, none⟩) 20 cap) 20 (octsV l) ∧ Below w.heap.size w w'

theorem ownsRow_below {w w' : World} {base : Nat} {e : TypeId} {size g n cap : Nat} {xs : List Value} (h : w.ownsRow base e size (.slice (some ⟨g, 0, none⟩) n cap) n xs) (hb : Below w.heap.size w w') :
    w'.ownsRow base e size (.slice (some ⟨g, 0, none⟩) n cap) n xs := by
  obtain ⟨hl, h⟩ := h
  refine ⟨hl, ?_⟩
  rcases h with ⟨h, _⟩ | ⟨g', cap', cur, hv, hg, hh, h1, h2, h3, h4⟩
  · cases h
  · refine .inr ⟨g', cap', cur, hv, hg, ?_, h1, h2, h3, h4⟩
    rw [hb.block g' (Array.getElem?_eq_some_iff.1 hh).1, hh]
theorem two_cells {w : World} (b o : Nat) (u v : Value) (h0 : w.cell? ⟨b, o + 0, none⟩ = some u) (h1 : w.cell? ⟨b, o + 1, none⟩ = some v) : ∀ j x, [u, v][j]? = some x → w.cell? ((⟨b, o, none⟩ : Addr).add j) = some x := by
  intro j x hj
  match j, hj with
  | 0, hj => simp at hj; subst hj; exact h0
  | 1, hj => simp at hj; subst hj; exact h1
theorem two_one (k l : IntKind) (u v : Int) : ∀ x ∈ [Value.int k u, Value.int l v], x.oneCell' = true := by
  intro x hx
  simp at hx
  rcases hx with rfl | rfl <;> rfl
section
variable (a0 a1 a2 a3 a4 a5 a6 a7 a8 a9 : Int) (w : World)
set_option maxHeartbeats 4000000
theorem Octets_no {n : Int} (h0 : (n == 0) = false) (hT : Table w) (hn : wrongN [a0, a1, a2, a3, a4, a5, a6, a7, a8, a9] = n) : Calls Tryd.prog 13 #[.agg #[.int .i64 a0, .int .i64 a1, .int .i64 a2, .int .i64 a3, .int .i64 a4, .int .i64 a5, .int .i64 a6, .int .i64 a7, .int .i64 a8, .int .i64 a9]] w
    fun e w' => e = .returned (.tuple #[.slice none 0 0, .int .i64 6]) ∧ Below w.heap.size w w' := by
  have HT := Lib.hid (hT.below (((Below.refl w.heap.size w)).alloc (Nat.le_refl _) (.cells #[.int .i64 a0, .int .i64 a1, .int .i64 a2, .int .i64 a3, .int .i64 a4, .int .i64 a5, .int .i64 a6, .int .i64 a7, .int .i64 a8, .int .i64 a9] 23)))
  have B0 := Lib.hid (((Below.refl w.heap.size w)).alloc (Nat.le_refl _) (.cells #[.int .i64 a0, .int .i64 a1, .int .i64 a2, .int .i64 a3, .int .i64 a4, .int .i64 a5, .int .i64 a6, .int .i64 a7, .int .i64 a8, .int .i64 a9] 23))
  have HN := Lib.hid hn
  have H0 := Lib.hid h0
  clear hT hn h0
  go_enter Tryd.func13, Tryd.ntmps13
  go_wp2_with (go_at_call 10; (with_reducible refine (Check_no _ _ _ _ _ _ _ _ _ _ _ H0.out HT.out HN.out).mono ?_); rintro e w2 ⟨rfl, hb2⟩; have HB2 := Lib.hid hb2; clear hb2)
  go_ret2
  exact ⟨rfl, B0.out.trans (HB2.out.mono (by simp))⟩
theorem Octets_yes (hT : Table w) (hn : wrongN [a0, a1, a2, a3, a4, a5, a6, a7, a8, a9] = 0) : Calls Tryd.prog 13 #[.agg #[.int .i64 a0, .int .i64 a1, .int .i64 a2, .int .i64 a3, .int .i64 a4, .int .i64 a5, .int .i64 a6, .int .i64 a7, .int .i64 a8, .int .i64 a9]] w (Octs [a0, a1, a2, a3, a4, a5, a6, a7, a8, a9] w) := by
  have HF := Lib.hid (wrong_zero hn).1
  have HT := Lib.hid (hT.below (((Below.refl w.heap.size w)).alloc (Nat.le_refl _) (.cells #[.int .i64 a0, .int .i64 a1, .int .i64 a2, .int .i64 a3, .int .i64 a4, .int .i64 a5, .int .i64 a6, .int .i64 a7, .int .i64 a8, .int .i64 a9] 23)))
  have B0 := Lib.hid (((Below.refl w.heap.size w)).alloc (Nat.le_refl _) (.cells #[.int .i64 a0, .int .i64 a1, .int .i64 a2, .int .i64 a3, .int .i64 a4, .int .i64 a5, .int .i64 a6, .int .i64 a7, .int .i64 a8, .int .i64 a9] 23))
  have HN := Lib.hid hn
  clear hT hn
  obtain ⟨i0, hi, hz0, hz1, hz2⟩ := info_parts info5
  go_enter Tryd.func13, Tryd.ntmps13
  go_wp2_with (first
    | (go_at_call 10; (with_reducible refine (Check_yes _ _ _ _ _ _ _ _ _ _ _ HT.out HN.out).mono ?_); rintro e w2 ⟨rfl, hb2⟩; have HB2 := Lib.hid (B0.out.trans (hb2.mono (by simp))); have HS2 := Lib.hid ((Ten.new w 23 a0 a1 a2 a3 a4 a5 a6 a7 a8 a9).below hb2); obtain ⟨c0, c1, c2, c3, c4, c5, c6, c7, c8, c9⟩ := HS2.out; clear hb2)
    | (at_make; refine wpList_make_own _ rfl _ _ 29 rfl w2.heap.size 5 i0 (.int .u8 0) 1 Tryd.underlying29 hi hz0 hz1 _ _ _ 20 rfl rfl (by omega) ?b2 ?b3 (Nat.le_refl _) ?_))
  case b2 => rw [hz2]; omega
  case b3 => unfold maxLen; omega
  intro w3 hown hgrow
  have HO := Lib.hid hown
  have HB3 := Lib.hid (HB2.out.grown hgrow HB2.out.size (fun k hk => by cases hk))
  have HS3 := Lib.hid (HS2.out.below ((Below.refl w2.heap.size w2).grown hgrow (Nat.le_refl _) (fun k hk => by cases hk)))
  have HG := Lib.hid hgrow
  clear hown hgrow c0 c1 c2 c3 c4 c5 c6 c7 c8 c9
  obtain ⟨c0, c1, c2, c3, c4, c5, c6, c7, c8, c9⟩ := HS3.out
  go_wp2_with (go_at_call 18; (with_reducible refine (fields_any _ _ _ _ _ _ _ _ _ _ _).mono ?_); rintro e w4 ⟨rfl, hb4⟩; have HB4 := Lib.hid hb4; clear hb4)
  have HR := Lib.hid (ownsRow_below HO.out HB4.out)
  have HB := Lib.hid (HB3.out.trans (HB4.out.mono HB3.out.size))
  have hz : w.heap.size ≤ w2.heap.size := HB2.out.size
  go_loopw [5, 16] (fun v i wr => ∃ k : Nat, k ≤ 10 ∧ i = .int .i64 k ∧ v = .slice (some ⟨w2.heap.size, 0, none⟩) (2 * k) 20 ∧ wr.ownsRow w2.heap.size 5 1 (.slice (some ⟨w2.heap.size, 0, none⟩) (2 * k) 20) (2 * k) (octsV ([a0, a1, a2, a3, a4, a5, a6, a7, a8, a9].take k)) ∧ Below w.heap.size w wr) (fun _ i _ => (10 - intOf i).toNat)
  case atStart => exact ⟨0, by omega, rfl, rfl, HR.out, HB.out⟩
  case round =>
    obtain ⟨k, hk, rfl, rfl, hown, hb⟩ := hrel
    have HOW := Lib.hid hown
    have HBR := Lib.hid hb
    clear hown hb
    by_cases hlt : k < 10
    · have hI := index10 a0 a1 a2 a3 a4 a5 a6 a7 a8 a9 k hlt
      obtain ⟨x0, x1⟩ := small HF.out hlt
      have HX := Lib.hid (octsV_step [a0, a1, a2, a3, a4, a5, a6, a7, a8, a9] k ([a0, a1, a2, a3, a4, a5, a6, a7, a8, a9].getD k 0) hlt rfl)
      generalize hx : List.getD [a0, a1, a2, a3, a4, a5, a6, a7, a8, a9] k 0 = x at hI x0 x1
      rw [hx] at HX
      clear hx
      have hcap : 2 * k + 2 ≤ 20 := by omega
      go_wp2_with (at_builtin; refine wpList_append_fits _ rfl _ _ 29 rfl w2.heap.size 5 i0 1 Tryd.underlying29 hi hz1 w2.heap.size (2 * k) 20 _ rfl (HOW.out.alloc _) ⟨wr.heap.size, 0, none⟩ 2 2 [.int .u8 (x / 256), .int .u8 (x % 256)] rfl rfl (two_cells _ _ _ _ (by simp [go_sem]) (by simp [go_sem])) (two_one _ _ _ _) hcap ?_)
      intro w5 hown5 hgrow5
      have H5 := Lib.hid hown5
      have B5 := Lib.hid ((HBR.out.alloc HBR.out.size (.cells #[.int .u8 (x / 256), .int .u8 (x % 256)] 5)).grown hgrow5 (by have := HBR.out.size; simp; omega) (fun j hj => by cases hj; exact hz))
      clear hown5 hgrow5
      go_wp2
      go_roundw
      case rel => exact ⟨k + 1, by omega, by go_num, rfl, by rw [HX.out]; exact H5.out, B5.out⟩
      case measure => simp [intOf]; omega
    · have hk' : k = 10 := by omega
      subst hk'
      have Z : wr.ownsRow w.heap.size 5 1 (.slice (some ⟨w2.heap.size, 0, none⟩) 20 20) 20 (octsV [a0, a1, a2, a3, a4, a5, a6, a7, a8, a9]) := HOW.out.mono hz
      have HZ := Lib.hid Z
      clear Z
      go_wp2
      go_ret2
      exact ⟨w2.heap.size, 20, rfl, hz, HZ.out, HBR.out⟩
end
end Go.Proofs.YtdplkodaccjgaaaDoor.cf
