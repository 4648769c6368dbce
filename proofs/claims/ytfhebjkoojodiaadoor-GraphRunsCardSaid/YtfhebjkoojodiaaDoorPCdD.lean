/- Texts that this claim stands on. -/
import Derived.Test.YtfhebjkoojodiaaDoorPCdC
namespace Go.Proofs.YtfhebjkoojodiaaDoor.cd
open Go.ChangeShapes Go.WideShapes Go.ChangeAt Go.RowKit gen yb
set_option linter.unusedVariables false
set_option maxHeartbeats 1000000
set_option maxRecDepth 100000
def Cv (w : World) (B : Nat) (l : List Int) : Prop := ∀ j, j < l.length → w.cell? ⟨B, j, none⟩ = some (.int .i64 (l.getD j 0))
theorem Cv.made {w w' : World} {B : Nat} {l : List Int} (h : Cv w B l) (hg : w.grownBy w' none) : Cv w' B l := fun j hj => hg.cell (h j hj) (by simp)
theorem Cv.new (w : World) (ty : TypeId) (l : List Int) : Cv (w.alloc (.cells (l.map (Value.int .i64)).toArray ty)) w.heap.size l := fun j hj => by
  rw [cell_of_row _ w.heap.size j (l.map (Value.int .i64)).toArray ty (0, 0) (by rw [heap_alloc_new])]
  simp [List.getD_eq_getElem?_getD, hj]
theorem out_kind {k t i f j c : Int} (h1 : 1 ≤ k) (h2 : k ≤ 17) (h : ∀ q, q < 5 → out [k, t, i, f, j, c] (q + 1) = false) : ∀ q, q < 6 → out [k, t, i, f, j, c] q = false := fun q hq => by
  cases q with
  | zero =>
    have e0 : decide (k < 0) = false := decide_eq_false (by omega)
    have e1 : decide (255 < k) = false := decide_eq_false (by omega)
    show (decide (k < 0) || decide (255 < k)) = false
    rw [e0, e1]; rfl
  | succ q => exact h q (by omega)
theorem odd_kind {k : Int} {l : List Int} (h : ∀ q, q < 5 → odd l k (q + 1) = false) : ∀ q, q < 6 → odd l k q = false := fun q hq => by
  cases q with
  | zero => unfold odd; rw [hs_zero]; simp
  | succ q => exact h q (by omega)
theorem rCheck_kind (k t i f j c n : Int) (w : World) (hk : k < 1 ∨ 17 < k) : Calls Tryd.prog 41 #[.agg #[.int .i64 k, .int .i64 t, .int .i64 i, .int .i64 f, .int .i64 j, .int .i64 c, .int .i64 n]] w
    fun e w' => e = .returned (.int .i64 12) ∧ w.grownBy w' none := by
  by_cases h1 : k < 1
  · have d0 : decide (k < 1) = true := decide_eq_true h1
    go_enter Tryd.func41, Tryd.ntmps41
    go_wp2
    go_ret
    exact ⟨rfl, grown_alloc _ _⟩
  · have d0 : decide (k < 1) = false := decide_eq_false h1
    have d1 : decide (17 < k) = true := decide_eq_true (by omega)
    go_enter Tryd.func41, Tryd.ntmps41
    go_wp2
    go_ret
    exact ⟨rfl, grown_alloc _ _⟩
theorem rCheck_any (k t i f j c n : Int) (w : World) (h1 : 1 ≤ k) (h2 : k ≤ 17) : Calls Tryd.prog 41 #[.agg #[.int .i64 k, .int .i64 t, .int .i64 i, .int .i64 f, .int .i64 j, .int .i64 c, .int .i64 n]] w
    fun e w' => e = .returned (.int .i64 (chk k [k, t, i, f, j, c] n)) ∧ w.grownBy w' none := by
  have d0 : decide (k < 1) = false := decide_eq_false (by omega)
  have d1 : decide (17 < k) = false := decide_eq_false (by omega)
  obtain ⟨w1, hw1⟩ : ∃ w1, w1 = (w.alloc (.cells #[.int .i64 k, .int .i64 t, .int .i64 i, .int .i64 f, .int .i64 j, .int .i64 c, .int .i64 n] 39)).alloc (.cells #[.int .i64 t, .int .i64 i, .int .i64 f, .int .i64 j, .int .i64 c] 110) := ⟨_, rfl⟩
  have G1 := Lib.hid (show w.grownBy w1 none by rw [hw1]; exact (grown_alloc _ _).trans (grown_alloc _ _))
  have S1 := Lib.hid (show Sv w1 w.heap.size k t i f j c n by rw [hw1]; exact (Sv.new w 39 k t i f j c n).made (grown_alloc _ _))
  have C1 := Lib.hid (show Cv w1 (w.heap.size + 1) [t, i, f, j, c] by rw [hw1]; have := Cv.new (w.alloc (.cells #[.int .i64 k, .int .i64 t, .int .i64 i, .int .i64 f, .int .i64 j, .int .i64 c, .int .i64 n] 39)) 110 [t, i, f, j, c]; simpa using this)
  have HW1 := Lib.hid hw1
  have Z1 : w.heap.size + 1 < w1.heap.size := by rw [hw1]; simp
  clear hw1
  have K1 := Lib.hid h1
  have K2 := Lib.hid h2
  clear h1 h2
  obtain ⟨b0, b1, b2, b3, b4, b5, b6, hb⟩ := hs_list k
  have HB := Lib.hid hb
  clear hb
  go_enter Tryd.func41, Tryd.ntmps41
  go_wp2
  go_loopw [4] (fun v wr => ∃ p : Nat, p ≤ 5 ∧ v = .int .i64 p ∧ (∀ q, q < p → out [k, t, i, f, j, c] (q + 1) = false) ∧ wr = w1) (fun v _ => 5 - (intOf v).toNat)
  case atStart => exact ⟨0, by omega, rfl, fun q hq => by omega, HW1.out.symm⟩
  case round =>
    obtain ⟨p, hp, rfl, ho, hw⟩ := hrel
    subst hw
    have HO := Lib.hid ho
    clear ho
    by_cases hlt : p < 5
    · have hlt' : (p : Int) < 5 := by omega
      have hc := C1.out p (by simp; omega)
      have hX : List.getD [k, t, i, f, j, c] (p + 1) 0 = List.getD [t, i, f, j, c] p 0 := by simp [List.getD_eq_getElem?_getD]
      cases hox : out [k, t, i, f, j, c] (p + 1) with
      | true =>
        have C := Lib.hid (chk_4 (n := n) K1.out K2.out (show p + 1 < 6 by omega) hox)
        have X := out_true hox
        rw [hX] at X
        clear hox hX
        generalize List.getD [t, i, f, j, c] p 0 = x at hc X
        by_cases h0 : x < 0
        · have e0 : decide (x < 0) = true := decide_eq_true h0
          clear X
          go_wp2
          go_ret
          exact ⟨by rw [C.out]; rfl, G1.out⟩
        · have e0 : decide (x < 0) = false := decide_eq_false h0
          have e1 : decide (255 < x) = true := decide_eq_true (by omega)
          clear X
          go_wp2
          go_ret
          exact ⟨by rw [C.out]; rfl, G1.out⟩
      | false =>
        have M := Lib.hid (more (p := fun q => out [k, t, i, f, j, c] (q + 1) = false) HO.out hox)
        have X := out_false hox
        rw [hX] at X
        clear hox hX
        generalize List.getD [t, i, f, j, c] p 0 = x at hc X
        have e0 : decide (x < 0) = false := decide_eq_false (by omega)
        have e1 : decide (255 < x) = false := decide_eq_false (by omega)
        clear X
        go_wp2
        go_roundw
        case rel => exact ⟨p + 1, by omega, by go_num, M.out, trivial⟩
        case measure => simp [intOf]; omega
    · have HO := Lib.hid (out_kind K1.out K2.out (show ∀ q, q < 5 → out [k, t, i, f, j, c] (q + 1) = false from fun q hq => HO.out q (by omega)))
      have hge : ¬ (p : Int) < 5 := by omega
      obtain ⟨c0, c1, c2, c3, c4, c5, c6⟩ := S1.out
      go_wp2_with (go_at_call 60; (with_reducible refine (Has_as _ K1.out K2.out HB.out).mono ?_); rintro e w2 ⟨rfl, hg2⟩; have hg3 := hg2.trans (grown_alloc w2 (.cells #[.bool b1, .bool b2, .bool b3, .bool b4, .bool b5, .bool b6] 111)); have G3 := Lib.hid (G1.out.trans hg3); have B3 := Lib.hid (Bv.new w2 111 [b1, b2, b3, b4, b5, b6]); have S3 := Lib.hid (S1.out.made hg3); have C3 := Lib.hid (C1.out.made hg3); clear hg2 hg3)
      clear c0 c1 c2 c3 c4 c5 c6
      go_loopw [6] (fun v wr => ∃ p : Nat, p ≤ 5 ∧ v = .int .i64 p ∧ (∀ q, q < p → odd [k, t, i, f, j, c] k (q + 1) = false) ∧ wr = w2.alloc (.cells #[.bool b1, .bool b2, .bool b3, .bool b4, .bool b5, .bool b6] 111)) (fun v _ => 5 - (intOf v).toNat)
      case atStart => exact ⟨0, by omega, rfl, fun q hq => by omega, rfl⟩
      case round =>
        obtain ⟨p, hp, rfl, hd, hw⟩ := hrel
        have B3 := Lib.hid (show Bv wr w2.heap.size [b1, b2, b3, b4, b5, b6] by rw [hw]; exact B3.out)
        have S3 := Lib.hid (show Sv wr w.heap.size k t i f j c n by rw [hw]; exact S3.out)
        have C3 := Lib.hid (show Cv wr (w.heap.size + 1) [t, i, f, j, c] by rw [hw]; exact C3.out)
        have GR := Lib.hid (show w.grownBy wr none by rw [hw]; exact G3.out)
        have HW := Lib.hid hw
        have HD := Lib.hid hd
        clear hd hw
        by_cases hlt : p < 5
        · have hlt' : (p : Int) < 5 := by omega
          have hc := B3.out p (by simp; omega)
          have hd := C3.out p (by simp; omega)
          have hX : List.getD [k, t, i, f, j, c] (p + 1) 0 = List.getD [t, i, f, j, c] p 0 := by simp [List.getD_eq_getElem?_getD]
          have hY : List.getD [b0, b1, b2, b3, b4, b5, b6] (p + 1) false = List.getD [b1, b2, b3, b4, b5, b6] p false := by simp [List.getD_eq_getElem?_getD]
          have E := Lib.hid (fun x b (hx : List.getD [t, i, f, j, c] p 0 = x) (hb : List.getD [b1, b2, b3, b4, b5, b6] p false = b) => odd_of (l := [k, t, i, f, j, c]) (k := k) (b := b) (hX.trans hx) (by rw [HB.out]; exact hY.trans hb))
          clear hX hY
          generalize hx : List.getD [t, i, f, j, c] p 0 = x at hd
          generalize hy : List.getD [b1, b2, b3, b4, b5, b6] p false = y at hc
          have O := Lib.hid (E.out _ _ hx hy)
          clear hx hy E
          cases y with
          | true =>
            have M := Lib.hid (more (p := fun q => odd [k, t, i, f, j, c] k (q + 1) = false) HD.out (by rw [O.out]; simp))
            go_wp2
            go_roundw
            case rel => exact ⟨p + 1, by omega, by go_num, M.out, HW.out⟩
            case measure => simp [intOf]; omega
          | false =>
            by_cases hx0 : x = 0
            · subst hx0
              have M := Lib.hid (more (p := fun q => odd [k, t, i, f, j, c] k (q + 1) = false) HD.out (by rw [O.out]; rfl))
              go_wp2
              go_roundw
              case rel => exact ⟨p + 1, by omega, by go_num, M.out, HW.out⟩
              case measure => simp [intOf]; omega
            · have hx1 : (x != 0) = true := by simpa using hx0
              have C := Lib.hid (chk_16 (n := n) K1.out K2.out HO.out (show p + 1 < 6 by omega) (by rw [O.out, hx1]; rfl))
              clear hx0
              go_wp2
              go_ret
              exact ⟨by rw [C.out]; rfl, GR.out⟩
        · have HD := Lib.hid (odd_kind (show ∀ q, q < 5 → odd [k, t, i, f, j, c] k (q + 1) = false from fun q hq => HD.out q (by omega)))
          have hge2 : ¬ (p : Int) < 5 := by omega
          obtain ⟨c0, c1, c2, c3, c4, c5, c6⟩ := S3.out
          have hc := B3.out 5 (by simp)
          rw [show List.getD [b1, b2, b3, b4, b5, b6] 5 false = b6 from rfl] at hc
          have e6 := Lib.hid (show (hs k).getD 6 false = b6 by rw [HB.out]; rfl)
          cases b6 with
          | true =>
            have C := Lib.hid (chk_0 (n := n) K1.out K2.out HO.out HD.out (.inr e6.out))
            go_wp2
            go_ret
            exact ⟨by rw [C.out]; rfl, GR.out⟩
          | false =>
            by_cases hn : n = 0
            · subst hn
              have C := Lib.hid (chk_0 (n := 0) K1.out K2.out HO.out HD.out (.inl rfl))
              go_wp2
              go_ret
              exact ⟨by rw [C.out]; rfl, GR.out⟩
            · have hn1 : (n != 0) = true := by simpa using hn
              have C := Lib.hid (chk_16n (n := n) K1.out K2.out HO.out hn e6.out)
              clear hn
              go_wp2
              go_ret
              exact ⟨by rw [C.out]; rfl, GR.out⟩
theorem Check_as {k t i f j c n z : Int} (w : World) (hz : chk k [k, t, i, f, j, c] n = z) : Calls Tryd.prog 37 #[.agg #[.int .i64 k, .int .i64 t, .int .i64 i, .int .i64 f, .int .i64 j, .int .i64 c, .int .i64 n]] w
    fun e w' => e = .returned (.int .i64 z) ∧ w.grownBy w' none := by
  subst hz
  by_cases h : k < 1 ∨ 17 < k
  · rw [chk_12 h]
    exact Check_kind k t i f j c n w h
  · exact Check_any k t i f j c n w (by omega) (by omega)
theorem rCheck_as {k t i f j c n z : Int} (w : World) (hz : chk k [k, t, i, f, j, c] n = z) : Calls Tryd.prog 41 #[.agg #[.int .i64 k, .int .i64 t, .int .i64 i, .int .i64 f, .int .i64 j, .int .i64 c, .int .i64 n]] w
    fun e w' => e = .returned (.int .i64 z) ∧ w.grownBy w' none := by
  subst hz
  by_cases h : k < 1 ∨ 17 < k
  · rw [chk_12 h]
    exact rCheck_kind k t i f j c n w h
  · exact rCheck_any k t i f j c n w (by omega) (by omega)
end Go.Proofs.YtfhebjkoojodiaaDoor.cd
