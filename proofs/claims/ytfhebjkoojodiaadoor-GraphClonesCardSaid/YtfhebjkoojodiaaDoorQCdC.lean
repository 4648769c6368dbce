/- Texts that this claim stands on. -/
import Derived.Test.YtfhebjkoojodiaaDoorQCdB
namespace Go.Proofs.YtfhebjkoojodiaaDoor.cd
open Go.ChangeShapes Go.WideShapes Go.ChangeAt Go.RowKit gen yb
set_option linter.unusedVariables false
set_option maxHeartbeats 1000000
set_option maxRecDepth 100000
theorem index6 (k t i f j c : Int) (p : Nat) (hp : p < 6) : ∀ w, (Instr.index 99 (.agg #[.int .i64 k, .int .i64 t, .int .i64 i, .int .i64 f, .int .i64 j, .int .i64 c]) (.int .i64 (p : Int))).run Tryd.prog w = .ok (.int .i64 ([k, t, i, f, j, c].getD p 0)) w := by
  have h : p = 0 ∨ p = 1 ∨ p = 2 ∨ p = 3 ∨ p = 4 ∨ p = 5 := by omega
  rcases h with rfl | rfl | rfl | rfl | rfl | rfl <;> (intro w; kernel_rfl)
theorem out_false {l : List Int} {j : Nat} (h : out l j = false) : 0 ≤ l.getD j 0 ∧ l.getD j 0 ≤ 255 := by
  unfold out at h
  generalize l.getD j 0 = x at h ⊢
  simp at h
  omega
theorem out_true {l : List Int} {j : Nat} (h : out l j = true) : l.getD j 0 < 0 ∨ 255 < l.getD j 0 := by
  unfold out at h
  generalize l.getD j 0 = x at h ⊢
  simp at h
  omega
theorem more {p : Nat → Prop} {k : Nat} (h : ∀ j, j < k → p j) (hk : p k) : ∀ j, j < k + 1 → p j := fun j hj => by
  rcases Nat.lt_or_ge j k with e | e
  · exact h j e
  · obtain rfl : j = k := by omega
    exact hk
theorem odd_of {l : List Int} {k : Int} {j : Nat} {x : Int} {b : Bool} (hx : l.getD j 0 = x) (hb : (hs k).getD j false = b) : odd l k j = ((x != 0) && !b) := by unfold odd; rw [hx, hb]
def Bv (w : World) (B : Nat) (l : List Bool) : Prop := ∀ j, j < l.length → w.cell? ⟨B, j, none⟩ = some (.bool (l.getD j false))
theorem Bv.made {w w' : World} {B : Nat} {l : List Bool} (h : Bv w B l) (hg : w.grownBy w' none) : Bv w' B l := fun j hj => hg.cell (h j hj) (by simp)
theorem Bv.new (w : World) (ty : TypeId) (l : List Bool) : Bv (w.alloc (.cells (l.map Value.bool).toArray ty)) w.heap.size l := fun j hj => by
  rw [cell_of_row _ w.heap.size j (l.map Value.bool).toArray ty (0, 0) (by rw [heap_alloc_new])]
  simp [List.getD_eq_getElem?_getD, hj]
theorem hs_list (k : Int) : ∃ b0 b1 b2 b3 b4 b5 b6 : Bool, hs k = [b0, b1, b2, b3, b4, b5, b6] := by
  have h := hs_length k
  match hs k, h with
  | [b0, b1, b2, b3, b4, b5, b6], _ => exact ⟨_, _, _, _, _, _, _, rfl⟩
theorem has_as {k : Int} {b0 b1 b2 b3 b4 b5 b6 : Bool} (w : World) (h1 : 1 ≤ k) (h2 : k ≤ 17) (hb : hs k = [b0, b1, b2, b3, b4, b5, b6]) : Calls Tryd.prog 51 #[.int .i64 k] w
    fun e w' => e = .returned (.agg #[.bool b0, .bool b1, .bool b2, .bool b3, .bool b4, .bool b5, .bool b6]) ∧ w.grownBy w' none := by
  have h := has_any k w h1 h2
  rw [hb] at h
  exact h
theorem Check_kind (k t i f j c n : Int) (w : World) (hk : k < 1 ∨ 17 < k) : Calls Tryd.prog 37 #[.agg #[.int .i64 k, .int .i64 t, .int .i64 i, .int .i64 f, .int .i64 j, .int .i64 c, .int .i64 n]] w
    fun e w' => e = .returned (.int .i64 12) ∧ w.grownBy w' none := by
  by_cases h1 : k < 1
  · have d0 : decide (k < 1) = true := decide_eq_true h1
    go_enter Tryd.func37, Tryd.ntmps37
    go_wp2
    go_ret
    exact ⟨rfl, grown_alloc _ _⟩
  · have d0 : decide (k < 1) = false := decide_eq_false h1
    have d1 : decide (17 < k) = true := decide_eq_true (by omega)
    go_enter Tryd.func37, Tryd.ntmps37
    go_wp2
    go_ret
    exact ⟨rfl, grown_alloc _ _⟩
theorem Check_any (k t i f j c n : Int) (w : World) (h1 : 1 ≤ k) (h2 : k ≤ 17) : Calls Tryd.prog 37 #[.agg #[.int .i64 k, .int .i64 t, .int .i64 i, .int .i64 f, .int .i64 j, .int .i64 c, .int .i64 n]] w
    fun e w' => e = .returned (.int .i64 (chk k [k, t, i, f, j, c] n)) ∧ w.grownBy w' none := by
  have d0 : decide (k < 1) = false := decide_eq_false (by omega)
  have d1 : decide (17 < k) = false := decide_eq_false (by omega)
  have G0 := Lib.hid (grown_alloc w (.cells #[.int .i64 k, .int .i64 t, .int .i64 i, .int .i64 f, .int .i64 j, .int .i64 c, .int .i64 n] 39))
  have S0 := Lib.hid (Sv.new w 39 k t i f j c n)
  have K1 := Lib.hid h1
  have K2 := Lib.hid h2
  clear h1 h2
  obtain ⟨b0, b1, b2, b3, b4, b5, b6, hb⟩ := hs_list k
  have HB := Lib.hid hb
  clear hb
  go_enter Tryd.func37, Tryd.ntmps37
  go_wp2_with (go_at_call 49; (with_reducible refine (short_any _ _ _ _ _ _ _ _).mono ?_); rintro e w1 ⟨rfl, hg⟩; have G1 := Lib.hid (G0.out.trans hg); have S1 := Lib.hid (S0.out.made hg); clear hg)
  go_loopw [18] (fun v wr => ∃ p : Nat, p ≤ 6 ∧ v = .int .i64 p ∧ (∀ q, q < p → out [k, t, i, f, j, c] q = false) ∧ wr = w1) (fun v _ => 6 - (intOf v).toNat)
  case atStart => exact ⟨0, by omega, rfl, fun q hq => by omega, rfl⟩
  case round =>
    obtain ⟨p, hp, rfl, ho, hw⟩ := hrel
    subst hw
    have HO := Lib.hid ho
    clear ho
    obtain ⟨c0, c1, c2, c3, c4, c5, c6⟩ := S1.out
    by_cases hlt : p < 6
    · have hI := index6 k t i f j c p hlt
      have hlt' : (p : Int) < 6 := by omega
      cases hox : out [k, t, i, f, j, c] p with
      | true =>
        have C := Lib.hid (chk_4 (n := n) K1.out K2.out hlt hox)
        have X := Lib.hid (out_true hox)
        generalize List.getD [k, t, i, f, j, c] p 0 = x at hI X
        clear hox
        go_wp2_with (go_at_call 50; (with_reducible refine (within_no _ _ _ X.out).mono ?_); rintro e w2 ⟨rfl, hw⟩; subst hw)
        go_ret
        exact ⟨by rw [C.out]; rfl, G1.out⟩
      | false =>
        have M := Lib.hid (more (p := fun q => out [k, t, i, f, j, c] q = false) HO.out hox)
        have X := Lib.hid (out_false hox)
        generalize List.getD [k, t, i, f, j, c] p 0 = x at hI X
        clear hox
        go_wp2_with (go_at_call 50; (with_reducible refine (within_yes _ _ _ X.out.1 X.out.2).mono ?_); rintro e w2 ⟨rfl, hw⟩; subst hw)
        go_roundw
        case rel => exact ⟨p + 1, by omega, by go_num, M.out, trivial⟩
        case measure => simp [intOf]; omega
    · have HO := Lib.hid (show ∀ q, q < 6 → out [k, t, i, f, j, c] q = false from fun q hq => HO.out q (by omega))
      have hge : ¬ (p : Int) < 6 := by omega
      go_wp2_with (first
        | (have mark := S2; go_at_call 49; (with_reducible refine (short_any _ _ _ _ _ _ _ _).mono ?_); rintro e w3 ⟨rfl, hg3⟩; have G3 := Lib.hid ((G2.out.trans (grown_alloc _ _)).trans hg3); have B3 := Lib.hid ((Bv.new w2 102 [b0, b1, b2, b3, b4, b5, b6]).made hg3); have S3 := Lib.hid ((S2.out.made (grown_alloc w2 (.cells #[.bool b0, .bool b1, .bool b2, .bool b3, .bool b4, .bool b5, .bool b6] 102))).made hg3); clear hg3)
        | (go_at_call 51; (with_reducible refine (has_as _ K1.out K2.out HB.out).mono ?_); rintro e w2 ⟨rfl, hg2⟩; have G2 := Lib.hid (G1.out.trans hg2); have S2 := Lib.hid (S1.out.made hg2); clear hg2; clear c0 c1 c2 c3 c4 c5 c6; obtain ⟨c0, c1, c2, c3, c4, c5, c6⟩ := S2.out.made (grown_alloc w2 (.cells #[.bool b0, .bool b1, .bool b2, .bool b3, .bool b4, .bool b5, .bool b6] 102))))
      clear c0 c1 c2 c3 c4 c5 c6
      go_loopw [30] (fun v wr => ∃ p : Nat, p ≤ 6 ∧ v = .int .i64 p ∧ (∀ q, q < p → odd [k, t, i, f, j, c] k q = false) ∧ wr = w3) (fun v _ => 6 - (intOf v).toNat)
      case atStart => exact ⟨0, by omega, rfl, fun q hq => by omega, rfl⟩
      case round =>
        obtain ⟨p, hp, rfl, hd, hw⟩ := hrel
        subst hw
        have HD := Lib.hid hd
        clear hd
        by_cases hlt : p < 6
        · have hI := index6 k t i f j c p hlt
          have hlt' : (p : Int) < 6 := by omega
          have hc := B3.out p (by simp; omega)
          have E := Lib.hid (fun x b (hx : List.getD [k, t, i, f, j, c] p 0 = x) (hb : List.getD [b0, b1, b2, b3, b4, b5, b6] p false = b) => odd_of (l := [k, t, i, f, j, c]) (k := k) (b := b) hx (by rw [HB.out]; exact hb))
          generalize hx : List.getD [k, t, i, f, j, c] p 0 = x at hI
          generalize hy : List.getD [b0, b1, b2, b3, b4, b5, b6] p false = y at hc
          have O := Lib.hid (E.out _ _ hx hy)
          clear hx hy E
          by_cases hx0 : x = 0
          · subst hx0
            have M := Lib.hid (more (p := fun q => odd [k, t, i, f, j, c] k q = false) HD.out (by rw [O.out]; rfl))
            go_wp2
            go_roundw
            case rel => exact ⟨p + 1, by omega, by go_num, M.out, trivial⟩
            case measure => simp [intOf]; omega
          · have hx1 : (x != 0) = true := by simpa using hx0
            cases y with
            | true =>
              have M := Lib.hid (more (p := fun q => odd [k, t, i, f, j, c] k q = false) HD.out (by rw [O.out, hx1]; rfl))
              clear hx0
              go_wp2
              go_roundw
              case rel => exact ⟨p + 1, by omega, by go_num, M.out, trivial⟩
              case measure => simp [intOf]; omega
            | false =>
              have C := Lib.hid (chk_16 (n := n) K1.out K2.out HO.out hlt (by rw [O.out, hx1]; rfl))
              clear hx0
              go_wp2
              go_ret
              exact ⟨by rw [C.out]; rfl, G3.out⟩
        · have HD := Lib.hid (show ∀ q, q < 6 → odd [k, t, i, f, j, c] k q = false from fun q hq => HD.out q (by omega))
          have hge2 : ¬ (p : Int) < 6 := by omega
          obtain ⟨c0, c1, c2, c3, c4, c5, c6⟩ := S3.out
          have hc := B3.out 6 (by simp)
          rw [show List.getD [b0, b1, b2, b3, b4, b5, b6] 6 false = b6 from rfl] at hc
          have e6 := Lib.hid (show (hs k).getD 6 false = b6 by rw [HB.out]; rfl)
          by_cases hn : n = 0
          · subst hn
            have C := Lib.hid (chk_0 (n := 0) K1.out K2.out HO.out HD.out (.inl rfl))
            go_wp2
            go_ret
            exact ⟨by rw [C.out]; rfl, G3.out⟩
          · have hn1 : (n != 0) = true := by simpa using hn
            have HN := Lib.hid hn
            clear hn
            cases b6 with
            | true =>
              have C := Lib.hid (chk_0 (n := n) K1.out K2.out HO.out HD.out (.inr e6.out))
              go_wp2
              go_ret
              exact ⟨by rw [C.out]; rfl, G3.out⟩
            | false =>
              have C := Lib.hid (chk_16n (n := n) K1.out K2.out HO.out HN.out e6.out)
              go_wp2
              go_ret
              exact ⟨by rw [C.out]; rfl, G3.out⟩
end Go.Proofs.YtfhebjkoojodiaaDoor.cd
