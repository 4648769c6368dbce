/- A grey's New and Clone. -/
import Derived.Test.YtokjpibaaioehaaDoorShC
namespace Go.Proofs.YtokjpibaaioehaaDoor.sh
open Go.ChangeShapes Go.WideShapes Go.ChangeAt Go.RowKit gen li en gr
set_option linter.unusedVariables false
set_option maxHeartbeats 4000000
set_option maxRecDepth 100000
/-- A grey that was made. -/
def NewG (r : Nat) (s : Ps) (w : World) (e : Ending) (w' : World) : Prop := ∃ g L, e = .returned (.pointer (some ⟨g, 0, none⟩)) ∧ Gy w' L g r s ∧ (∀ q, q ∈ L → w.heap.size ≤ q) ∧ w.grownBy w' none
section
variable {w w' W w1 w2 : World} {g k c r B : Nat} {K L : List Nat} {s : Ps} {p v : Value}
theorem NewG.fin {m : List Va} {b : Bool} {ws : List Nat} (hr : 1 ≤ r) (hg : w.grownBy w1 none) (hs : sk.Sk w1 K k r b m) (hK : ∀ q, q ∈ K → w.heap.size ≤ q) (hg2 : w1.grownBy w2 none) (hc : bm.SetAt w2 c true 2048 ws) (hc1 : w.heap.size ≤ c) :
    NewG r ⟨ws, m, b⟩ w (.returned (.pointer (some ⟨w2.heap.size, 0, none⟩))) (w2.alloc (.cells #[.pointer (some ⟨k, 0, none⟩), .pointer (some ⟨c, 0, none⟩)] 41)) := by
  have G := World.grownBy_alloc w2 (.cells #[.pointer (some ⟨k, 0, none⟩), .pointer (some ⟨c, 0, none⟩)] 41) none
  refine ⟨_, _, rfl, ⟨k, c, K, ⟨heap_alloc_new _ _, (hs.new hg2).new G, hc.kept G (by simp), hr⟩, rfl⟩, fun q hq => ?_, (hg.trans hg2).trans G⟩
  rcases List.mem_cons.1 hq with rfl | hq
  · exact (hg.trans hg2).size
  rcases List.mem_cons.1 hq with rfl | hq
  · exact hc1
  · exact hK q hq
theorem New_any (n : Int) (r : Nat) (hk : sk.near n 1 256 = r) (h1 : 1 ≤ r) (h8 : r ≤ 256) (w : World) : Calls Tryd.prog 6 #[.int .i64 n] w (NewG r none0 w) := by
  have X := Lib.hid (sk.New_any n r hk h8 w)
  have Y := Lib.hid (fun W => bm.New_any 2048 2048 (by decide) W)
  have H1 := Lib.hid h1
  clear hk h1 h8
  go_enter Tryd.func6, Tryd.ntmps6
  go_wp2_with (first
    | (go_at_call 24; (with_reducible refine X.out.mono ?_); rintro e w1 ⟨k, K, rfl, hs, hK, hg⟩; have S1 := Lib.hid hs; have K1 := Lib.hid hK; have G1 := Lib.hid hg; clear hs hK hg)
    | (go_at_call 25; (with_reducible refine (Y.out _).mono ?_); rintro e w2 ⟨c, rfl, hc, hc1, hg⟩; have C2 := Lib.hid hc; have D2 := Lib.hid (Nat.le_trans G1.out.size hc1); have G2 := Lib.hid hg; clear hc hc1 hg))
  go_ret
  exact NewG.fin H1.out G1.out S1.out K1.out G2.out C2.out D2.out
theorem copied_any (h : Gk w g k c K r s) : Calls Tryd.prog 33 #[.pointer (some ⟨g, 0, none⟩)] w fun e w' => ∃ k' K', e = .returned (.agg #[.pointer (some ⟨k', 0, none⟩)]) ∧ sk.Sk w' K' k' r s.b s.m ∧ (∀ q, q ∈ K' → w.heap.size ≤ q) ∧ w.grownBy w' none := by
  have G0 := Lib.hid (World.grownBy_alloc w (.cells #[.pointer none] 38) none)
  have H0 := Lib.hid (heap_alloc_new w (.cells #[.pointer none] 38))
  have CO := Lib.hid (sk.Clone_any (h.new G0.out).sk h.r1)
  have c0 := h.c0
  have glt := h.lt g (by simp)
  have S0 := Lib.hid (show (w.alloc (.cells #[.pointer none] 38)).heap.size = w.heap.size + 1 by simp)
  clear h
  go_enter Tryd.func33, Tryd.ntmps33
  go_wp2_with (go_at_call 46; (with_reducible refine CO.out.mono ?_); rintro e w2 ⟨k2, K2, rfl, hs, hK, hg⟩; have S2 := Lib.hid hs; have K2' := Lib.hid hK; have hb := ((Gr.new (L := []) hg).heap H0.out (by simp)); have HB := Lib.hid hb; have f0 : w2.cell? ⟨w.heap.size, 0, none⟩ = some (.pointer none) := (by rw [cell_of_row w2 _ 0 _ _ _ hb]; rfl); have z0 : w2.frozen? ⟨w.heap.size, 0, none⟩ = false := frozen_of_row w2 _ 0 _ _ hb; have lt2 : w.heap.size < w2.heap.size := (Array.getElem?_eq_some_iff.1 hb).1; have G2 := Lib.hid (G0.out.trans hg); clear hs hK hg hb)
  have GR := grown_set w2 w.heap.size 0 (.pointer (some ⟨k2, 0, none⟩))
  refine bodyPost_ret (v := .agg #[.pointer (some ⟨k2, 0, none⟩)]) ?_ rfl ⟨k2, K2, rfl, ?_, ?_, ?_⟩
  · simp [results, Tryd.results33, go_sem, *]
  · exact S2.out.gr (Gr.one (L := [w.heap.size]) GR (by simp)) (fun q hq e => by
      rw [List.mem_singleton] at e
      have := K2'.out q hq
      have := S0.out
      omega)
  · intro q hq
    have := K2'.out q hq
    have := S0.out
    omega
  · exact li.grown_new G2.out GR (Nat.le_refl _)
theorem Clone_any (h : Gy w L g r s) : Calls Tryd.prog 12 #[.pointer (some ⟨g, 0, none⟩)] w (NewG r s w) := by
  obtain ⟨k, c, K, h, rfl⟩ := h
  have X := Lib.hid (bm.Clone_yes h.st)
  have Y := Lib.hid (fun W (hg : w.grownBy W none) => copied_any (h.new hg))
  have c1 := h.c1
  have glt := h.lt g (by simp)
  have H1 := Lib.hid h.r1
  have FIN := Lib.hid (fun (w2 w3 : World) (c2 k3 : Nat) (K3 : List Nat) (hg : w.grownBy w2 none) (hc : bm.SetAt w2 c2 true 2048 s.ws) (hc1 : w.heap.size ≤ c2) (hs : sk.Sk w3 K3 k3 r s.b s.m) (hK : ∀ q, q ∈ K3 → w2.heap.size ≤ q) (hg2 : w2.grownBy w3 none) =>
    (NewG.fin (w := w) (w1 := w3) (w2 := w3) h.r1 (hg.trans hg2) hs (fun q hq => Nat.le_trans hg.size (hK q hq)) (World.grownBy.refl _ _) (hc.kept hg2 (by simp)) hc1 : NewG r s w _ _))
  clear h
  go_enter Tryd.func12, Tryd.ntmps12
  go_wp2_with (first
    | (go_at_call 31; (with_reducible refine (there_any g _).mono ?_); rintro e w' ⟨rfl, hw⟩; subst hw)
    | (go_at_call 32; (with_reducible refine X.out.mono ?_); rintro e w2 ⟨c2, rfl, hc, hc1, hg⟩; have C2 := Lib.hid hc; have D2 := Lib.hid hc1; have G2 := Lib.hid hg; clear hc hc1 hg)
    | (go_at_call 33; (with_reducible refine (Y.out _ G2.out).mono ?_); rintro e w3 ⟨k3, K3, rfl, hs, hK, hg⟩; have F3 := Lib.hid (FIN.out _ _ _ _ _ G2.out C2.out D2.out hs hK hg); clear hs hK hg))
  go_ret
  exact F3.out
theorem Clone_no (h : No w p) : Calls Tryd.prog 12 #[p] w fun e w' => e = .returned (.pointer none) ∧ w.grownBy w' none := by
  have H0 := Lib.hid h
  clear h
  go_enter Tryd.func12, Tryd.ntmps12
  go_wp2_with (first
    | (go_at_call 31; (with_reducible refine (there_no H0.out).mono ?_); rintro e w1 ⟨B, rfl, ho, hg⟩; obtain ⟨c0, c1⟩ := ho.c; have G1 := Lib.hid hg; clear ho hg)
    | (go_at_call 32; (with_reducible refine (bm.Clone_nil _).mono ?_); rintro e w2 ⟨rfl, hw⟩; have hw2 := hw.symm; subst hw2))
  go_ret
  exact ⟨rfl, G1.out⟩
end
end Go.Proofs.YtokjpibaaioehaaDoor.sh
