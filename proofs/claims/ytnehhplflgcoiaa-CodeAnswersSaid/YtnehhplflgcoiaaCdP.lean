/- Layer 24: the walk of the statement on answers, whole. -/
import Derived.Test.YtnehhplflgcoiaaCdO
namespace Go.Proofs.Ytnehhplflgcoiaa.cd
open Go.ChangeShapes Go.WideShapes Go.ChangeAt Go.RowKit gen yb
set_option linter.unusedVariables false

theorem answers_any {w : World} {c k n d r : Int} (hn : -9223372036854775808 ≤ n ∧ n ≤ 9223372036854775807) {A : Option Addr} {q e : Nat} {m : List UInt8} (h : Ry w A q e m) :
    Calls Try.prog 5 #[.agg #[.int .i64 c, .int .i64 k, .int .i64 n, .int .i64 d, .int .i64 r], .slice A q e] w fun e w' => e = .returned (.bool true) ∧ w.grownBy w' none := by
  by_cases hq : q = 14
  · subst hq
    obtain ⟨b, off, rfl, _⟩ := h.at_ (i := 0) (by omega)
    cases hb : inr c 255 && inr k 255 && inr d 65535 && inr r 65535 with
    | false => exact out_yes w h hb
    | true =>
      simp only [Bool.and_eq_true] at hb
      exact in_yes w h hb.1.1.1 hb.1.1.2 hb.1.2 hb.2 hn
  · cases hb : inr c 255 && inr k 255 && inr d 65535 && inr r 65535 with
    | false => exact out_len w hq hb
    | true =>
      simp only [Bool.and_eq_true] at hb
      exact in_len w hq hb.1.1.1 hb.1.1.2 hb.1.2 hb.2 hn
end Go.Proofs.Ytnehhplflgcoiaa.cd
