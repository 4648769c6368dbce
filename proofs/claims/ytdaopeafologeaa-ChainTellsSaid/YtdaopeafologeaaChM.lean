/- The walk of the law ChainTells, as its row wants it. -/
import Derived.Test.YtdaopeafologeaaChL
namespace Go.Proofs.Ytdaopeafologeaa.ch
open Go.ChangeShapes Go.WideShapes Go.ChangeAt Go.RowKit gen calls cls geos mm
set_option linter.unusedVariables false

theorem Tells_below (xs : List Int) (A : Option Addr) (n0 c0 : Nat) (k f n i : Int) (w : World) (hl0 : n0 ≤ c0) (hm0 : c0 ≤ maxLen) (rd : Rd w w.heap.size A n0 c0 xs) (hb : ∀ i, -9223372036854775808 ≤ xs.getD i 0 ∧ xs.getD i 0 ≤ 9223372036854775807) (hk : fits k = true) (hf : fits f = true) (hn : fits n = true) :
    Calls Try.prog 5 #[.slice A n0 c0, .int .i64 k, .agg #[.int .i64 f, .int .i64 n], .int .i64 i] w fun e w' => e = .returned (.bool true) ∧ Below w.heap.size w w' :=
  (Tells_any xs A n0 c0 k f n i w hl0 hm0 rd hb hk hf hn).mono fun _ _ h => ⟨h.1, grown_below h.2⟩
end Go.Proofs.Ytdaopeafologeaa.ch
