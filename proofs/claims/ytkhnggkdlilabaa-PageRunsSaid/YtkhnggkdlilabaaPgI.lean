/- What a step of the law's own script on a table does: pages freed, and what is told. -/
import Derived.Test.YtkhnggkdlilabaaPgH
namespace Go.Proofs.Ytkhnggkdlilabaa.pg
open Go.ChangeShapes Go.WideShapes Go.ChangeAt Go.RowKit gen calls cls li
set_option linter.unusedVariables false
section
variable {g r : Nat} {xs : List Int} {w : World} {A : Option Addr} {c m : Nat}
set_option maxHeartbeats 4000000
set_option maxRecDepth 100000
theorem step_free (h : Tab w g r xs) (hx : Ks xs) (hm : xs.length = m) (hl : Lst w r (.slice A m c) xs) (z : Int) (hz : fits z = true) :
    Calls Try.prog 22 #[.pointer (some ⟨g, 0, none⟩), .slice A m c, .agg #[.int .i64 3, .int .i64 z]] w (StepAns g r m (.slice A m c) w) := by
  have hs : m ≤ 64 := by have := h.le; omega
  have sw := siz_wide xs z
  have si := siz_in (xs := xs) (p := z)
  have HLT := Lib.hid h.lt
  have HM := Lib.hid hm
  have HL := Lib.hid hl
  have HX := Lib.hid hx
  have G0 := Lib.hid (World.grownBy_alloc w (.cells #[.int .i64 3, .int .i64 z] 33) none)
  have H0 := Lib.hid (h.kept G0.out (by simp) (by simp))
  have R0 := Lib.hid ((hl.made G0.out).rd' hm)
  have N := Lib.hid (Pair.new w 33 3 z)
  obtain ⟨k0, k1⟩ := N.out
  have fit : siz xs z ≠ 0 → z.toNat + (siz xs z).toNat ≤ xs.length := fun hne => by have := si hne; omega
  have fit' : z.toNat + (siz xs z).toNat ≤ xs.length ∨ (siz xs z).toNat = 0 := by
    by_cases h0 : siz xs z = 0
    · right; omega
    · exact .inl (fit h0)
  have HY := Lib.hid (show Ks (fillN xs z.toNat 0 (siz xs z).toNat) from by
    rcases fit' with h1 | h1
    · exact hx.fill _ (by omega) _ h1
    · rw [h1]; exact hx)
  have SA := Lib.hid (fun w1 (h1 : Rd w1 w1.heap.size A m c xs) => rSet_any (fillN xs z.toNat 0 (siz xs z).toNat) hs h1 z (siz xs z) 0 hz (by omega) (by rw [fillN_length, hm]) (fun i hi => by
    rcases fit' with h1 | h1
    · rw [fillN_getD _ _ _ _ h1]
      by_cases h0 : siz xs z = 0
      · rw [h0, if_neg (by omega), if_neg (by omega)]
      · have := si h0
        repeat' split
        all_goals first | rfl | omega
    · rw [h1, if_neg (by omega), fillN]))
  have HYL := Lib.hid (show (fillN xs z.toNat 0 (siz xs z).toNat).length = m by rw [fillN_length, hm])
  have FR := Lib.hid (fun w1 (h1 : Tab w1 g r xs) => Free_any h1 hx z)
  have SZ := Lib.hid (rSiz_any hs (Nat.le_refl _) R0.out hx z)
  generalize fillN xs z.toNat 0 (siz xs z).toNat = ys at *
  generalize siz xs z = q at *
  clear h hx hm hl hz sw si fit fit'
  go_enter Try.func22, Try.ntmps22
  go_wp2_with (go_at_call 35; (with_reducible refine SZ.out.mono ?_); rintro e w3 ⟨rfl, hg⟩; have G3' := Lib.hid (G0.out.trans hg); have H3' := Lib.hid (H0.out.kept hg (by simp) (by simp)); have L3' := Lib.hid (HL.out.made G3'.out); have N3' := Lib.hid (N.out.kept hg (by simp)); obtain ⟨k2, k3⟩ := N3'.out; clear hg)
  have G3 : Hid (w.grownBy w3.drew none) := Lib.hid (G3'.out.trans (grown_drew _ _))
  have H3 : Hid (Tab w3.drew g r xs) := Lib.hid H3'.out
  have L3 : Hid (Lst w3.drew r (.slice A m c) xs) := Lib.hid L3'.out
  have N3 : Hid (Pair w3.drew w.heap.size 3 z) := Lib.hid N3'.out
  have BB := Lib.hid (show r < w3.drew.heap.size from by have := HLT.out; have := G3.out.size; omega)
  go_region_held3 (fun W => W.cell? ⟨w.heap.size, 1, none⟩ = some (.int .i64 z)) (first | go_keep | exact N3.out.2 | exact N4.out.2 | exact N5.out.2) (first
    | (go_at_call 33; (with_reducible refine (SA.out _ (L3.out.rd' HM.out)).mono ?_); rintro e w4 ⟨A5, c5, rfl, ho, hg⟩; rw [HYL.out] at ho ⊢; have O4 := Lib.hid ho; have G4 := Lib.hid (G3.out.trans hg); have H4 := Lib.hid (H3.out.kept hg (by simp) (by simp)); have N4 := Lib.hid (N3.out.kept hg (by simp)); clear ho hg)
    | (go_at_call 13; (with_reducible refine (FR.out _ H4.out).mono ?_); rintro e w5 ⟨rfl, ht, hg⟩; have H5 := Lib.hid ht; have G5 := Lib.hid hg; have N5 := Lib.hid (N4.out.kept hg (by have := HLT.out; simp; omega)); clear ht hg))
  go_wp2
  go_ret2
  exact ⟨A5, c5, ys, rfl, HYL.out, HY.out, H5.out, (own_lst O4.out HYL.out BB.out).grown G5.out, grown_then G4.out G5.out, From.own O4.out G3.out.size⟩
theorem step_told (h : Tab w g r xs) (hx : Ks xs) (hm : xs.length = m) (hl : Lst w r (.slice A m c) xs) (k z : Int) (b1 : (k == 1) = false) (b2 : (k == 2) = false) (b3 : (k == 3) = false) :
    Calls Try.prog 22 #[.pointer (some ⟨g, 0, none⟩), .slice A m c, .agg #[.int .i64 k, .int .i64 z]] w (StepAns g r m (.slice A m c) w) := by
  have hs : m ≤ 64 := by have := h.le; omega
  have HM := Lib.hid hm
  have HL := Lib.hid hl
  have HX := Lib.hid hx
  have G0 := Lib.hid (World.grownBy_alloc w (.cells #[.int .i64 k, .int .i64 z] 33) none)
  have N := Lib.hid (Pair.new w 33 k z)
  obtain ⟨k0, k1⟩ := N.out
  have G3 : Hid (w.grownBy (w.alloc (.cells #[.int .i64 k, .int .i64 z] 33)).drew none) := Lib.hid (G0.out.trans (grown_drew _ _))
  have H3 := Lib.hid (h.kept G3.out (by simp) (by simp))
  have L3 := Lib.hid (hl.made G3.out)
  have N3 : Hid (Pair (w.alloc (.cells #[.int .i64 k, .int .i64 z] 33)).drew w.heap.size k z) := Lib.hid N.out
  have C1 := Lib.hid (Kind_any H3.out z)
  have C2 := Lib.hid (rKind_any hs (L3.out.rd' hm) z)
  have C3 := Lib.hid (Size_any H3.out hx z)
  have C4 := Lib.hid (rSiz_any hs (Nat.le_refl _) (L3.out.rd' hm) hx z)
  have C5 := Lib.hid (fun w1 (h1 : Tab w1 g r xs) => First_any h1 hx z)
  have C6 := Lib.hid (fun w1 (h1 : Rd w1 w1.heap.size A m c xs) => rFirst_any hs (Nat.le_refl _) h1 hx z)
  generalize kind xs z = q1 at *
  generalize siz xs z = q2 at *
  generalize frs xs z = q3 at *
  clear h hx hm hl
  go_enter Try.func22, Try.ntmps22
  go_wp2
  go_region_held3 (fun W => W.cell? ⟨w.heap.size, 1, none⟩ = some (.int .i64 z)) (first | go_keep | exact N3.out.2 | exact N4.out.2 | exact N5.out.2) (first
    | (go_at_call 19; (with_reducible refine C1.out.mono ?_); rintro e w' ⟨rfl, rfl⟩)
    | (go_at_call 36; (with_reducible refine C2.out.mono ?_); rintro e w' ⟨rfl, rfl⟩)
    | (go_at_call 16; (with_reducible refine C3.out.mono ?_); rintro e w' ⟨rfl, rfl⟩)
    | (go_at_call 35; (with_reducible refine C4.out.mono ?_); rintro e w4 ⟨rfl, hg⟩; have G4 := Lib.hid (G3.out.trans hg); have H4 := Lib.hid (H3.out.kept hg (by simp) (by simp)); have L4 := Lib.hid (L3.out.made hg); have N4 := Lib.hid (N3.out.kept hg (by simp)); clear hg)
    | (go_at_call 15; (with_reducible refine (C5.out _ H4.out).mono ?_); rintro e w' ⟨rfl, rfl⟩)
    | (go_at_call 37; (with_reducible refine (C6.out _ (L4.out.rd' HM.out)).mono ?_); rintro e w5 ⟨rfl, hg⟩; have G5 := Lib.hid (G4.out.trans hg); have H5 := Lib.hid (H4.out.kept hg (by simp) (by simp)); have L5 := Lib.hid (L4.out.made hg); have N5 := Lib.hid (N4.out.kept hg (by simp)); clear hg))
  go_wp2
  go_ret2
  exact ⟨A, c, xs, rfl, HM.out, HX.out, H5.out, L5.out, grown_then G5.out (grown_refl _ _), From.same _ _⟩
end
end Go.Proofs.Ytkhnggkdlilabaa.pg
