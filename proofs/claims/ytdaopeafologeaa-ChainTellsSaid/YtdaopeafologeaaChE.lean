/- Layer 8's All: what it does when it is called. -/
import Derived.Test.YtdaopeafologeaaChD
namespace Go.Proofs.Ytdaopeafologeaa.ch
open Go.ChangeShapes Go.WideShapes Go.ChangeAt Go.RowKit gen calls cls geos mm
set_option linter.unusedVariables false

theorem Met.new (w : World) {B : Nat} (h : w.heap.size = B) : Met (w.alloc (.cells (mets []).toArray 68)) B [] := by
  subst h
  exact heap_alloc_new _ _
theorem ret_list {A : Option Addr} {n m c : Nat} {b : Bool} (h : n = m) : Ending.returned (.tuple #[.slice A n c, .bool b]) = .returned (.tuple #[.slice A m c, .bool b]) := by rw [h]
theorem round_facts {w wr w1 w4 : World} {N a j : Nat} {q m l m' : Int} {v : Value} {os : List Int} {o : Obj} {zs : List Value} (hN : N = w.heap.size) (HG : w.grownBy wr none) (hz : N + 1 + 1 + 1 ≤ wr.heap.size) (hg1 : wr.grownBy w1 none) (HO : wr.ownsRow (N + 1 + 1 + 1) 3 1 v j zs)
    (HX : Box wr (N + 1 + 1) q m) (HM : Met wr (N + 1) os) (gr4 : (((w1.alloc (.cells #[.int .i64 l, .int .i64 m'] 28)).setCell ⟨N + 1, a, none⟩ (.bool true)).alloc o).grownBy w4 v.ownBlock) :
    Box w4 w1.heap.size l m' ∧ Box w4 (N + 1 + 1) q m ∧ Met w4 (N + 1) (os ++ [(a : Int)]) ∧ w.grownBy w4 none ∧ N + 1 + 1 + 1 ≤ w4.heap.size := by
  have s1 := hg1.size
  have b0 := own_base HO
  have b1 := own_lt HO
  have n1 : some (N + 1) ≠ v.ownBlock := fun e => by have := b0 _ e.symm; omega
  have n2 : some (N + 1 + 1) ≠ v.ownBlock := fun e => by have := b0 _ e.symm; omega
  have n3 : some w1.heap.size ≠ v.ownBlock := fun e => by have := b1 _ e.symm; omega
  have GA : wr.grownBy (w1.alloc (.cells #[.int .i64 l, .int .i64 m'] 28)) none := grown_alloc hg1 _
  have GR : wr.grownBy (((w1.alloc (.cells #[.int .i64 l, .int .i64 m'] 28)).setCell ⟨N + 1, a, none⟩ (.bool true)).alloc o) (some (N + 1)) := grown_alloc (grown_row (grown_then GA (World.grownBy.refl _ _)) _ _) _
  have HO3 := HO.kept GR (.inr (fun e => n1 e.symm))
  have G3 : w.grownBy (((w1.alloc (.cells #[.int .i64 l, .int .i64 m'] 28)).setCell ⟨N + 1, a, none⟩ (.bool true)).alloc o) none := grown_new HG GR (by omega)
  refine ⟨?_, ?_, ?_, li.grown_own G3 HO3 gr4 (by omega), ?_⟩
  · exact (((Box.new w1 l m' rfl).setc (by omega) _ _).kept (World.grownBy_alloc _ o none) (by simp)).kept gr4 n3
  · exact (HX.kept GR (by simp)).kept gr4 n2
  · exact (((HM.kept GA (by simp)).set a).kept (World.grownBy_alloc _ o none) (by simp)).kept gr4 n1
  · have := gr4.size
    have := GR.size
    omega
theorem grown_box (w : World) (B : Nat) (a b : Value) : w.grownBy ((w.setCell ⟨B, 0, none⟩ a).setCell ⟨B, 1, none⟩ b) (some B) := grown_row (grown_row (World.grownBy.refl _ _) _ _) _ _
theorem Met.setc {w : World} {B C : Nat} {l : List Int} (h : Met w B l) (hC : B ≠ C) (k : Nat) (v : Value) : Met (w.setCell ⟨C, k, none⟩ v) B l := (heap_setCell_other w ⟨C, k, none⟩ B v hC).trans h
set_option maxHeartbeats 4000000 in
theorem All_any {g r : Nat} {xs : List Int} {w : World} (p k f : Int) (n : Nat) (h : MemAt w g r xs) (hb : Bd xs) (hp : fits p = true) (hk : fits k = true) (hn : fits (n : Int) = true) (hy : thk xs.length p k = true) :
    Calls Try.prog 14 #[.pointer (some ⟨g, 0, none⟩), .int .i64 p, .int .i64 k, .agg #[.int .i64 f, .int .i64 n]] w (AllAns xs p k f n w) := by
  have HP := Lib.hid hp
  have HK := Lib.hid hk
  have HB := Lib.hid hb
  have HT := Lib.hid hy
  have hn2 := (fits_iff.mp hn).2
  have G0 := Lib.hid (World.grownBy_alloc w (.cells #[.int .i64 f, .int .i64 n] 28) none)
  have H0 := Lib.hid h
  have H := Lib.hid (h.kept G0.out (by simp) (by simp))
  have CB := Lib.hid (fun w => (cells_any k w hk).mono (R' := fun e w' => e = .returned (.int .i64 (cl k)) ∧ w' = w) fun e w' h => ⟨h.1, h.2.symm⟩)
  have HC := cl_wide k
  obtain ⟨i0, hi, hz0, hz1, hz2⟩ := info_parts li.info_int
  have E : Hid (i0.zero = some (.int .i64 0) ∧ i0.size = 1 ∧ i0.bytes = 8 ∧ Try.prog.info? 3 = some i0) := ⟨hz0, hz1, hz2, hi⟩
  clear hi hz0 hz1 hz2 hp hk h hy hn hb
  go_enter Try.func14, Try.ntmps14
  go_wp2_with (first
    | (go_at_call 28; (with_reducible refine (there_any H.out _ _ HP.out HK.out).mono ?_); rintro e w' ⟨rfl, rfl⟩; rw [HT.out]))
  go_loopw [11, 29] (fun v i wr => ∃ (j : Nat) (A : Option Addr) (c : Nat), j ≤ n ∧ i = .int .i64 j ∧ v = .slice A j c ∧ Good xs p k f j ∧ wr.ownsRow (w.heap.size + 1 + 1 + 1) 3 1 (.slice A j c) j ((outs xs p k f j).map (Value.int .i64)) ∧ w.grownBy wr none ∧ Box wr (w.heap.size + 1 + 1) (sq xs p k f j) ((n : Int) - j) ∧ Met wr (w.heap.size + 1) (outs xs p k f j) ∧ w.heap.size + 1 + 1 + 1 ≤ wr.heap.size) (fun _ i _ => n - (intOf i).toNat)
  case atStart =>
    refine ⟨0, none, 0, Nat.zero_le _, rfl, rfl, Good.zero _ _ _ _, World.ownsRow_nil _ _ _ _, grown_alloc (grown_alloc G0.out _) _, ?_, ?_, by simp⟩
    · rw [show ((n : Int) - (0 : Nat)) = n by omega]
      exact Box.new _ _ _ (by simp)
    · exact (Met.new _ (by simp)).kept (World.grownBy_alloc _ _ none) (by simp)
  case round =>
    obtain ⟨j, A, c, hj, rfl, rfl, hgd, ho, hg, hx, hm, hz⟩ := hrel
    have GD := Lib.hid hgd
    have HO := Lib.hid ho
    have HG := Lib.hid hg
    have HX := Lib.hid hx
    have HM := Lib.hid hm
    have H1 := Lib.hid (H0.out.kept hg (by simp) (by simp))
    have j16 := hgd.few
    obtain ⟨x0, x1, x2, x3⟩ := hx.two
    clear ho hg hx hm hgd H
    by_cases hlt : j < n
    · have WT := Lib.hid (fun (hw : Whole xs p k f n) => whole_tells hw hlt)
      have WG := Lib.hid (fun (hw : Whole xs p k f n) => hw.1.less (j + 1) (by omega))
      obtain ⟨q, hq⟩ : ∃ q, q = sq xs p k f j := ⟨_, rfl⟩
      obtain ⟨l, hl⟩ : ∃ l, l = lk xs p k q := ⟨_, rfl⟩
      have HQ := Lib.hid hq
      have HL := Lib.hid hl
      have FN := Lib.hid (fits_iff.mpr (by omega) : fits ((n : Int) - j) = true)
      rw [← hq] at x0 HX WT
      rw [← hl] at WT
      by_cases h0 : 0 ≤ l
      · have TK := Lib.hid (tk_iff.mpr ⟨HT.out, (by omega : 1 ≤ (n : Int) - j), hl ▸ h0⟩)
        have ly := lk_yes (hl ▸ h0)
        obtain ⟨a, rfl⟩ : ∃ a : Nat, q = a := ⟨q.toNat, by omega⟩
        have a16 : a < 16 := by omega
        have a32 : a < 32 := by omega
        by_cases hin : (a : Int) ∈ outs xs p k f j
        · have hc := HM.out.cell a a32
          rw [decide_eq_true hin] at hc
          have HIN := Lib.hid hin
          clear hq hl ly hin
          go_wp2_with (first
            | (go_at_call 16; (with_reducible refine (Take_yes H1.out HB.out _ _ _ _ HP.out HK.out FN.out TK.out).mono ?_); rintro e w1 ⟨rfl, hg1⟩; rw [← HL.out]; have G1 := Lib.hid (HG.out.trans hg1); have hc1 := (grown_alloc hg1 (.cells #[.int .i64 l, .int .i64 ((n : Int) - j - 1)] 28)).cell hc (by simp); clear hg1))
          go_ret2
          exact ⟨.inr ⟨fun hw => (Good.succ.1 (WG.out hw)).2.2 (HQ.out ▸ HIN.out), rfl⟩, grown_alloc G1.out _⟩
        · have hc := HM.out.cell a a32
          rw [decide_eq_false hin] at hc
          have hf := HM.out.free a
          have GS := Lib.hid (Good.succ.2 ⟨GD.out, by rw [← HQ.out]; omega, HQ.out ▸ hin⟩)
          have OS := Lib.hid (outs_succ xs p k f j)
          have SS := Lib.hid (show sq xs p k f (j + 1) = l by rw [hl, hq]; rfl)
          have NN := Lib.hid (show ((n : Int) - j - 1) = (n : Int) - ((j + 1 : Nat) : Int) by omega)
          rw [← hq] at OS
          clear hq hl ly hin
          go_wp2_with (first
            | (go_at_call 16; (with_reducible refine (Take_yes H1.out HB.out _ _ _ _ HP.out HK.out FN.out TK.out).mono ?_); rintro e w1 ⟨rfl, hg1⟩; rw [← HL.out]; have GA := grown_alloc hg1 (.cells #[.int .i64 l, .int .i64 ((n : Int) - j - 1)] 28); have hc1 := GA.cell hc (by simp); have hf1 := (GA.frozen_far ⟨w.heap.size + 1, a, none⟩ (by have := hz; simp; omega) (by simp)).trans hf; have G1 := Lib.hid hg1; clear hg1 GA)
            | (at_builtin; refine wpList_append_rd rfl (.tmp 49) (.tmp 51) 34 rfl (w.heap.size + 1 + 1 + 1) 3 i0 (.int .i64 0) 8 Try.underlying34 E.out.2.2.2 E.out.1 E.out.2.1 E.out.2.2.1 rfl _ j (outs xs p k f j) rfl (HO.out.kept (grown_alloc (grown_row (grown_then (grown_alloc G1.out _) (World.grownBy.refl _ _)) _ _) _) (.inr (fun e => by have := own_base HO.out _ e; omega))) (some ⟨_, 0, none⟩) 1 1 _ [(a : Int)] rfl (li.Rd.one_at _ _ _ (by simp)) (by unfold maxLen; omega) (by omega) (by have := G1.out.size; simp; omega) ?_; intro A4 c4 w4 own4 rd4 gr4; obtain ⟨f1, f2, f3, f4, f5⟩ := round_facts rfl HG.out hz G1.out HO.out HX.out HM.out gr4; obtain ⟨y0, y1, y2, y3⟩ := f1.two; obtain ⟨z0, z1, z2, z3⟩ := f2.two; have F2 := Lib.hid f2; have F3 := Lib.hid f3; have F4 := Lib.hid f4; have OWN4 := Lib.hid own4; clear own4 rd4 gr4 f1 f2 f3 f4))
          go_roundw
          case rel =>
            refine ⟨j + 1, A4, c4, by omega, by go_num, rfl, GS.out, ?_, ?_, ?_, ?_, by simpa using f5⟩
            · rw [OS.out]
              exact OWN4.out.kept (grown_box w4 (w.heap.size + 1 + 1) _ _) (.inr (fun e => by have := own_base OWN4.out _ e; omega))
            · exact grown_new F4.out (grown_box w4 (w.heap.size + 1 + 1) _ _) (by omega)
            · rw [SS.out, ← NN.out]
              exact F2.out.set _ _
            · rw [OS.out]
              exact (F3.out.setc (by omega) _ _).setc (by omega) _ _
          case measure => simp [intOf]; omega
      · have hl0 : ¬ 0 ≤ lk xs p k q := hl ▸ h0
        have HL0 := Lib.hid hl0
        clear hq hl hl0
        go_wp2_with (first
          | (go_at_call 16; (with_reducible refine (Take_none _ _ _ _ H1.out HB.out HP.out HK.out FN.out HT.out HL0.out).mono ?_); rintro e w1 ⟨rfl, hg1⟩; have G1 := Lib.hid (HG.out.trans hg1); clear hg1))
        go_ret2
        exact ⟨.inr ⟨fun hw => absurd (WT.out hw) (by omega), rfl⟩, grown_alloc G1.out _⟩
    · obtain rfl : j = n := by omega
      obtain ⟨q, hq⟩ : ∃ q, q = sq xs p k f j := ⟨_, rfl⟩
      have HQ := Lib.hid hq
      rw [← hq] at x0 HX
      clear hq
      by_cases he : q = cl k
      · have hb : (q != cl k) = false := by simpa using he
        go_wp2
        go_quiet (first | (go_at_call 30; refine Calls.quiet_of_same (CB.out _)))
        go_wp2
        go_ret2
        exact ⟨.inl ⟨⟨GD.out, HQ.out ▸ he⟩, _, _, rfl, li.own_mono HO.out (by omega)⟩, li.grown_more HG.out (grown_drewN _ _ _)⟩
      · have hb : (q != cl k) = true := by simpa using he
        go_wp2
        go_quiet (first | (go_at_call 30; refine Calls.quiet_of_same (CB.out _)))
        go_wp2
        go_ret2
        exact ⟨.inr ⟨fun hw => he (HQ.out ▸ hw.2), rfl⟩, li.grown_more HG.out (grown_drewN _ _ _)⟩
end Go.Proofs.Ytdaopeafologeaa.ch
