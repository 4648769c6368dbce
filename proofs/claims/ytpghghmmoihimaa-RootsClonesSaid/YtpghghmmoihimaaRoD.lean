/- What layer 14's All does; the law's step, by a list. -/
import Derived.Test.YtpghghmmoihimaaRoC
namespace Go.Proofs.Ytpghghmmoihimaa.ro
open Go.ChangeShapes Go.WideShapes Go.ChangeAt Go.RowKit gen li va wd
set_option linter.unusedVariables false
set_option maxHeartbeats 4000000
set_option maxRecDepth 100000
section
variable {w w' : World} {g : Nat} {m : List Va}
theorem All_nil (w : World) : Calls Try.prog 10 #[.pointer none] w (VasAns [] w) := by
  have mk : ∀ w : World, (Instr.makeSlice 24 (.int .i64 0) (.int .i64 0)).run Try.prog w = .ok (.slice (some ⟨w.heap.size, 0, none⟩) 0 0) (w.alloc (.cells #[] 29)) := make_vas 0 (by omega)
  go_enter Try.func10, Try.ntmps10
  go_wp2_with (first
    | (go_at_call 16; (with_reducible refine (Len_nil _).mono ?_); rintro e w' ⟨rfl, rfl⟩)
    | (go_at_call 21; (with_reducible refine (held_nil _).mono ?_); rintro e w' ⟨rfl, rfl⟩)
    | (refine wpList_copy_none rfl (.tmp 7) (.tmp 9) rfl ⟨w.heap.size, 0, none⟩ 0 0 rfl rfl ?_))
  go_ret
  exact ⟨_, 0, rfl, Lv.whole (m := []) (heap_alloc_new _ _) (Nat.le_refl _) (Nat.zero_le _), World.grownBy_alloc _ _ _⟩
theorem All_any (h : Rt w g m) : Calls Try.prog 10 #[.pointer (some ⟨g, 0, none⟩)] w (VasAns m w) := by
  have l16 := h.2
  have mk := make_vas m.length (by omega)
  have HL := Lib.hid (Len_any h)
  have H := Lib.hid h
  have ZL := Lib.hid (show (List.replicate m.length ((0, 0) : Va)).length = m.length by simp)
  generalize hz : List.replicate m.length ((0, 0) : Va) = zs at mk ZL
  obtain ⟨n, hn⟩ : ∃ n, m.length = n := ⟨_, rfl⟩
  have HN := Lib.hid hn
  have HH := Lib.hid (fun W (hW : Rt W g m) => show Calls Try.prog 21 #[.pointer (some ⟨g, 0, none⟩)] W fun e w' => e = .returned (.slice (some ⟨g, 1, none⟩) n 16) ∧ Drew W w' by have := held_any hW; rwa [hn] at this)
  rw [hn] at HL l16 mk ZL
  clear h hn hz
  go_enter Try.func10, Try.ntmps10
  go_wp2_with (first
    | (go_at_call 16; (with_reducible refine HL.out.mono ?_); rintro e w' ⟨rfl, q, rfl⟩)
    | (go_at_call 21; (with_reducible refine (HH.out _ (H.out.new ((li.grown_drewN _ q none).trans (World.grownBy_alloc _ _ _)))).mono ?_); rintro e w' ⟨rfl, q2, rfl⟩)
    | (refine wpList_copy_vas rfl (.tmp 7) (.tmp 9) rfl w.heap.size n 16 ⟨g, 1, none⟩ m zs rfl rfl (by have := (H.out.new (((li.grown_drewN w q none).trans (World.grownBy_alloc (w.drewN q) (.cells (vc zs).toArray 29) _)).trans (li.grown_drewN _ q2 none))).rv; rwa [HN.out] at this) (heap_alloc_new (w.drewN q) _) ZL.out ?_; intro w2 hw2 hg2; have W2 := Lib.hid hw2; have G2 := Lib.hid hg2; clear hw2 hg2))
  go_ret
  have hn := HN.out
  subst hn
  exact ⟨_, m.length, rfl, Lv.whole W2.out (Nat.le_refl _) (by unfold maxLen; omega), grown_new (((li.grown_drewN w q none).trans (World.grownBy_alloc (w.drewN q) (.cells (vc zs).toArray 29) _)).trans (li.grown_drewN _ q2 none)) G2.out (Nat.le_refl _)⟩
end
end Go.Proofs.Ytpghghmmoihimaa.ro
