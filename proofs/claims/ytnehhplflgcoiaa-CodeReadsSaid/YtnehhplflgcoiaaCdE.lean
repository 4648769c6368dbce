/- Layer 24: a number laid as octets, and read out of them. -/
import Derived.Test.YtnehhplflgcoiaaCdD
namespace Go.Proofs.Ytnehhplflgcoiaa.cd
open Go.ChangeShapes Go.WideShapes Go.ChangeAt Go.RowKit gen yb
set_option linter.unusedVariables false
set_option maxHeartbeats 1000000
set_option maxRecDepth 100000

/-- A row with the last k of m octets from o on laid. -/
def laid (m : List UInt8) (o r k : Nat) (x : Int) : List UInt8 := m.take (o + (r - k)) ++ be x k ++ m.drop (o + r)
theorem laid_zero (m : List UInt8) (o r : Nat) (x : Int) : laid m o r 0 x = m := by simp [laid, be]
theorem laid_length {m : List UInt8} {o r k : Nat} (x : Int) (h : o + r ≤ m.length) (hk : k ≤ r) : (laid m o r k x).length = m.length := by
  simp only [laid, List.length_append, List.length_take, List.length_drop, be_length]
  omega
theorem laid_step {m : List UInt8} {o r k : Nat} (x : Int) (h : o + r ≤ m.length) (hk : k < r) : (laid m o r k x).set (o + (r - 1 - k)) (b8 (x / 256 ^ k)) = laid m o r (k + 1) x := by
  unfold laid
  have e : o + (r - k) = o + (r - 1 - k) + 1 := by omega
  have hl : o + (r - 1 - k) < m.length := by omega
  rw [List.append_assoc, List.append_assoc, List.set_append_left _ _ (by rw [List.length_take]; omega), e, List.take_succ_eq_append_getElem hl, List.set_append_right _ _ (by rw [List.length_take]; omega)]
  rw [List.length_take, Nat.min_eq_left (by omega), Nat.sub_self, List.set_cons_zero, show r - (k + 1) = r - 1 - k by omega]
  simp [be]
theorem byte_of (x : Int) (p : Nat) : Value.int .u8 (x / 2 ^ (8 * p) % 256) = u8 (b8 (x / 256 ^ p)) := by
  unfold u8
  rw [b8_nat, Int.pow_mul, show (2 : Int) ^ 8 = 256 by decide]
theorem lay_any {w : World} {g o r c : Nat} {m : List UInt8} (x : Int) (h : Hw w g m) (hr : r ≤ 8) (ho : o + r ≤ m.length) (hm : m.length ≤ 100) (hx : -9223372036854775808 ≤ x ∧ x ≤ 9223372036854775807) :
    Calls Try.prog 17 #[.slice (some ⟨g, o, none⟩) r c, .int .i64 x] w fun e w' => e = .returned (.tuple #[]) ∧ Hw w' g (laid m o r r x) ∧ w.grownBy w' (some g) := by
  have H := Lib.hid h
  have HX := Lib.hid hx
  have HO := Lib.hid ho
  clear h hx ho
  go_enter Try.func17, Try.ntmps17
  go_wp2
  go_loopw [7] (fun v wr => ∃ p : Nat, p ≤ r ∧ v = .int .i64 p ∧ Hw wr g (laid m o r p x) ∧ w.grownBy wr (some g)) (fun v _ => r - (intOf v).toNat)
  case atStart => exact ⟨0, by omega, rfl, by rw [laid_zero]; exact H.out, World.grownBy.refl _ _⟩
  case round =>
    obtain ⟨p, hp, rfl, hh, hg⟩ := hrel
    have HH := Lib.hid hh
    have HG := Lib.hid hg
    clear hh hg
    by_cases hlt : p < r
    · have hl := laid_length x HO.out (Nat.le_of_lt hlt)
      have hc := HH.out.at_ (i := o + (r - 1 - p)) (by have := HO.out; omega)
      have hf := HH.out.free (o + (r - 1 - p))
      have e1 : (r : Int) - 1 - p = ((r - 1 - p : Nat) : Int) := by omega
      have LS := Lib.hid (laid_step (m := m) (o := o) (r := r) (k := p) x HO.out hlt)
      clear hl
      go_wp2
      go_roundw
      case rel =>
        rw [byte_of]
        exact ⟨p + 1, by omega, by go_num, by rw [← LS.out]; exact HH.out.set _ _, HG.out.trans (gr.grown_set _ _ _ _)⟩
      case measure => simp [intOf]; omega
    · obtain rfl : p = r := by omega
      go_wp2
      refine bodyPost_end (results_none rfl _ _ _) rfl ?_
      exact ⟨rfl, HH.out, HG.out⟩
theorem or_byte (v : Nat) (y : UInt8) : bits BinOp.or IntKind.i64 (wrap64 (wrap64 (v : Int) * 256)) (wrap64 (y.toNat : Int)) = IntKind.i64.wrap ((256 * v + y.toNat : Nat) : Int) := by
  have hy := y.toNat_lt
  have e1 : wrap64 (y.toNat : Int) = (y.toNat : Int) := by unfold wrap64; omega
  rw [e1]
  generalize hz : wrap64 (wrap64 (v : Int) * 256) = z
  have h1 : (BitVec.ofInt 64 z).toNat = 2 ^ 8 * (v % 2 ^ 56) := by
    rw [BitVec.toNat_ofInt]
    unfold wrap64 at hz
    omega
  have h2 : (BitVec.ofInt 64 (y.toNat : Int)).toNat = y.toNat := Go.ofInt_u64 _ (by omega)
  show IntKind.i64.wrap ((BitVec.ofInt 64 z ||| BitVec.ofInt 64 (y.toNat : Int)).toNat : Int) = _
  rw [BitVec.toNat_or, h1, h2, ← Nat.two_pow_add_eq_or_of_lt (by omega), IntKind.wrap_i64, IntKind.wrap_i64]
  omega
theorem number_any {w : World} {A : Option Addr} {n c : Nat} {m : List UInt8} (h : Ry w A n c m) (hn : n ≤ 8) :
    Calls Try.prog 20 #[.slice A n c] w fun e w' => e = .returned (.int .i64 (IntKind.i64.wrap (val m : Int))) ∧ w = w' := by
  have H := Lib.hid h
  clear h
  go_enter Try.func20, Try.ntmps20
  go_wp2
  go_loopw [3, 8] (fun v i wr => ∃ p : Nat, p ≤ n ∧ v = .int .i64 (IntKind.i64.wrap (val (m.take p) : Int)) ∧ i = .int .i64 p ∧ wr = w) (fun _ v _ => n - (intOf v).toNat)
  case atStart => exact ⟨0, by omega, rfl, rfl, rfl⟩
  case round =>
    obtain ⟨p, hp, rfl, rfl, hw⟩ := hrel
    subst hw
    by_cases hlt : p < n
    · obtain ⟨b, off, rfl, hc⟩ := H.out.at_ hlt
      have V := Lib.hid (val_snoc (m.take p) (m.getD p 0))
      have hlt' : (p : Int) < n := by omega
      have T := Lib.hid (show m.take (p + 1) = m.take p ++ [m.getD p 0] by
        have hl : p < m.length := by rw [H.out.1]; exact hlt
        rw [List.take_succ_eq_append_getElem hl, List.getD_eq_getElem?_getD, List.getElem?_eq_getElem hl]
        rfl)
      generalize hy : m.getD p 0 = y at hc V T
      unfold u8 at hc
      clear hy
      go_wp2
      go_roundw
      case rel => exact ⟨p + 1, by omega, by rw [or_byte, T.out, V.out], by go_num, trivial⟩
      case measure => simp [intOf]; omega
    · obtain rfl : p = n := by omega
      have T := Lib.hid (show m.take p = m from List.take_of_length_le (by rw [H.out.1]; omega))
      go_wp2
      go_ret
      exact ⟨by rw [T.out]; rfl, rfl⟩
end Go.Proofs.Ytnehhplflgcoiaa.cd
