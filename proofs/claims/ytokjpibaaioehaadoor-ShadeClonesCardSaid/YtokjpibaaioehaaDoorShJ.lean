/- The statement's own step. (Printed by wip/tools/genShJ.py.) -/
import Derived.Test.YtokjpibaaioehaaDoorShI
namespace Go.Proofs.YtokjpibaaioehaaDoor.sh
open Go.ChangeShapes Go.WideShapes Go.ChangeAt Go.RowKit gen li en gr
set_option linter.unusedVariables false
set_option maxHeartbeats 8000000
set_option maxRecDepth 100000
section
variable {w W W2 : World} {L J : List Nat} {g M r : Nat} {s : Ps} {x1 x2 : Int}
theorem step1 (h : Gy w L g r s) (hb : Bk w J M r s) (x1 x2 : Int) : Calls Tryd.prog 9 #[.pointer (some ⟨g, 0, none⟩), .pointer (some ⟨M, 0, none⟩), .agg #[.int .i64 1, .int .i64 x1, .int .i64 x2]] w (StA L J g M r (s.shade r x1) w) := by
  obtain ⟨W0, hW0⟩ : ∃ W0, W0 = w.alloc (.cells #[.int .i64 1, .int .i64 x1, .int .i64 x2] 31) := ⟨_, rfl⟩
  obtain ⟨B, hB⟩ : ∃ B, B = w.heap.size := ⟨_, rfl⟩
  have S0 := Lib.hid (show Sx w L J g M r s s W0 by rw [hW0]; exact (Sx.start h hb).new (World.grownBy_alloc _ _ _))
  have O0 := Lib.hid (show Ox W0 B 1 x1 x2 by rw [hW0, hB]; exact heap_alloc_new _ _)
  have SH := Lib.hid (fun W (hg : W0.grownBy W none) => (S0.out.new hg).call (O0.out.new hg) (fun L1 h => Shade_any h x1))
  have RS := Lib.hid (fun W (hS : Sx w L J g M r (s.shade r x1) s W) (hO : Ox W B 1 x1 x2) => hS.call2 hO (fun J2 h => rShade_any h x1))
  obtain ⟨f0, f1, f2⟩ := O0.out.f
  have f := f1
  generalize newb s.ws x1 = d at SH RS
  clear h hb
  go_enter Tryd.func9, Tryd.ntmps9
  go_upto_region 1 with fail
  rw [← hW0, ← hB]
  clear hW0 hB
  go_wp2
  go_region_held3 (fun W => W.cell? ⟨B, 1, none⟩ = some (.int .i64 x1)) (first | exact f | exact ff | exact ff1 | go_keep) (first
    | (go_at_call 14; (with_reducible refine (SH.out _ (by first | exact World.grownBy.refl _ _ | exact grown_drew _ _ | exact li.grown_drewN _ _ _)).mono ?_); rintro e w2 ⟨rfl, hs, ho⟩; have S2 := Lib.hid hs; have O2 := Lib.hid ho; obtain ⟨f0, f1, f2⟩ := ho.f; have ff := f1; clear hs ho)
    | (go_at_call 26; (with_reducible refine (RS.out _ (by first | exact S2.out | exact S2.out.new (grown_drew _ _) | exact S2.out.new (li.grown_drewN _ _ _)) (by first | exact O2.out | exact O2.out.new (grown_drew _ _) | exact O2.out.new (li.grown_drewN _ _ _))).mono ?_); rintro e w3 ⟨rfl, hs, ho⟩; have S3 := Lib.hid hs; obtain ⟨f0, f1, f2⟩ := ho.f; have ff1 := f1; clear hs ho))
  go_wp2
  go_ret
  first | exact ⟨by simp, S3.out⟩ | exact ⟨by simp, S3.out.new (grown_drew _ _)⟩ | exact ⟨by simp, S3.out.new (li.grown_drewN _ _ _)⟩
theorem step2 (h : Gy w L g r s) (hb : Bk w J M r s) (x1 x2 : Int) : Calls Tryd.prog 9 #[.pointer (some ⟨g, 0, none⟩), .pointer (some ⟨M, 0, none⟩), .agg #[.int .i64 2, .int .i64 x1, .int .i64 x2]] w (StA L J g M r (s.black x1) w) := by
  obtain ⟨W0, hW0⟩ : ∃ W0, W0 = w.alloc (.cells #[.int .i64 2, .int .i64 x1, .int .i64 x2] 31) := ⟨_, rfl⟩
  obtain ⟨B, hB⟩ : ∃ B, B = w.heap.size := ⟨_, rfl⟩
  have S0 := Lib.hid (show Sx w L J g M r s s W0 by rw [hW0]; exact (Sx.start h hb).new (World.grownBy_alloc _ _ _))
  have O0 := Lib.hid (show Ox W0 B 2 x1 x2 by rw [hW0, hB]; exact heap_alloc_new _ _)
  have SH := Lib.hid (fun W (hg : W0.grownBy W none) => (S0.out.new hg).call (O0.out.new hg) (fun L1 h => Black_any h x1))
  have RS := Lib.hid (fun W (hS : Sx w L J g M r (s.black x1) s W) (hO : Ox W B 2 x1 x2) => hS.call2 hO (fun J2 h => rBlack_any h x1))
  obtain ⟨f0, f1, f2⟩ := O0.out.f
  have f := f1
  generalize newb s.ws x1 = d at SH RS
  clear h hb
  go_enter Tryd.func9, Tryd.ntmps9
  go_upto_region 1 with fail
  rw [← hW0, ← hB]
  clear hW0 hB
  go_wp2
  go_region_held3 (fun W => W.cell? ⟨B, 1, none⟩ = some (.int .i64 x1)) (first | exact f | exact ff | exact ff1 | go_keep) (first
    | (go_at_call 16; (with_reducible refine (SH.out _ (by first | exact World.grownBy.refl _ _ | exact grown_drew _ _ | exact li.grown_drewN _ _ _)).mono ?_); rintro e w2 ⟨rfl, hs, ho⟩; have S2 := Lib.hid hs; have O2 := Lib.hid ho; obtain ⟨f0, f1, f2⟩ := ho.f; have ff := f1; clear hs ho)
    | (go_at_call 27; (with_reducible refine (RS.out _ (by first | exact S2.out | exact S2.out.new (grown_drew _ _) | exact S2.out.new (li.grown_drewN _ _ _)) (by first | exact O2.out | exact O2.out.new (grown_drew _ _) | exact O2.out.new (li.grown_drewN _ _ _))).mono ?_); rintro e w3 ⟨rfl, hs, ho⟩; have S3 := Lib.hid hs; obtain ⟨f0, f1, f2⟩ := ho.f; have ff1 := f1; clear hs ho))
  go_wp2
  go_ret
  first | exact ⟨by simp, S3.out⟩ | exact ⟨by simp, S3.out.new (grown_drew _ _)⟩ | exact ⟨by simp, S3.out.new (li.grown_drewN _ _ _)⟩
end
end Go.Proofs.YtokjpibaaioehaaDoor.sh
