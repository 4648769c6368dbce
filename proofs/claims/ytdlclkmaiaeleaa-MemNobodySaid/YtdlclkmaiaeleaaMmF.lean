/- The walk of the statement on words that nobody made. -/
import Derived.Test.YtdlclkmaiaeleaaMmE
namespace Go.Proofs.Ytdlclkmaiaeleaa.mm
open Go.ChangeShapes Go.WideShapes Go.ChangeAt Go.RowKit gen
set_option linter.unusedVariables false

theorem nobody_new {w w' : World} {row : Option Nat} {g : Nat} (h : w.cell? ⟨g, 0, none⟩ = some (.slice none 0 0)) (hg : w.grownBy w' row) (hr : some g ≠ row) : w'.cell? ⟨g, 0, none⟩ = some (.slice none 0 0) := hg.cell h hr
set_option maxRecDepth 100000 in
set_option maxHeartbeats 8000000 in
theorem MemNobody_any (a n v : Int) (w : World) : Calls Try.prog 6 #[.int .i64 a, .int .i64 n, .int .i64 v] w fun e w' => e = .returned (.bool true) ∧ w.grownBy w' none := by
  have NP : ∀ w : World, Nobody w none := fun _ => .inl rfl
  have NP' := Lib.hid NP
  clear NP
  go_enter Try.func6, Try.ntmps6
  go_wp2_with (first
    | (go_at_call 7; (with_reducible refine (alive_any _).mono ?_); rintro e w1 ⟨rfl, hg⟩; have G1 := Lib.hid (hg.trans (World.grownBy_alloc w1 (.cells #[.slice none 0 0] 41) none)); have C1 := Lib.hid (show Nobody (w1.alloc (.cells #[.slice none 0 0] 41)) (some ⟨w1.heap.size, 0, none⟩) from .inr ⟨_, rfl, by simp [go_sem]⟩); clear hg)
    | (go_at_call 18; (with_reducible refine (Load_nobody (NP'.out _) _).mono ?_); rintro e w' ⟨rfl, rfl⟩)
    | (go_at_call 18; (with_reducible refine (Load_nobody C1.out _).mono ?_); rintro e w' ⟨rfl, rfl⟩)
    | (go_at_call 15; (with_reducible refine (Store_none _ _ _ _ (part_nobody (NP'.out _) _ _)).mono ?_); rintro e w' ⟨rfl, rfl⟩)
    | (go_at_call 15; (with_reducible refine (Store_none _ _ _ _ (part_nobody C1.out _ _)).mono ?_); rintro e w' ⟨rfl, rfl⟩)
    | (go_at_call 19; (with_reducible refine (Fill_none _ _ _ _ _ (part_nobody (NP'.out _) _ _)).mono ?_); rintro e w' ⟨rfl, rfl⟩)
    | (go_at_call 19; (with_reducible refine (Fill_none _ _ _ _ _ (part_nobody C1.out _ _)).mono ?_); rintro e w' ⟨rfl, rfl⟩)
    | (go_at_call 17; (with_reducible refine (Move_nof _ _ _ _ _ (part_nobody (NP'.out _) _ _)).mono ?_); rintro e w' ⟨rfl, rfl⟩)
    | (go_at_call 17; (with_reducible refine (Move_nof _ _ _ _ _ (part_nobody C1.out _ _)).mono ?_); rintro e w' ⟨rfl, rfl⟩)
    | (go_at_call 20; (with_reducible refine (Len_nobody (NP'.out _)).mono ?_); rintro e w' ⟨rfl, rfl⟩)
    | (go_at_call 20; (with_reducible refine (Len_nobody C1.out).mono ?_); rintro e w' ⟨rfl, rfl⟩)
    | (go_at_call 11; (with_reducible refine (All_nobody (NP'.out _)).mono ?_); rintro e w' ⟨rfl, rfl⟩)
    | (go_at_call 11; (with_reducible refine (All_nobody C1.out).mono ?_); rintro e w' ⟨rfl, rfl⟩)
    | (go_at_call 14; (with_reducible refine (Clone_nobody (NP'.out _)).mono ?_); rintro e w' ⟨rfl, rfl⟩)
    | (go_at_call 14; (with_reducible refine (Clone_nobody C1.out).mono ?_); rintro e w' ⟨rfl, rfl⟩))
  go_ret
  exact ⟨rfl, G1.out⟩
end Go.Proofs.Ytdlclkmaiaeleaa.mm
