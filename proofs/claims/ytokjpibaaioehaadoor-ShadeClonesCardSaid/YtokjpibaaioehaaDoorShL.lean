/- Is all told as by lists? The law's own look, its cut, and what it plays again. -/
import Derived.Test.YtokjpibaaioehaaDoorShK
namespace Go.Proofs.YtokjpibaaioehaaDoor.sh
open Go.ChangeShapes Go.WideShapes Go.ChangeAt Go.RowKit gen li en gr
set_option linter.unusedVariables false
set_option maxHeartbeats 8000000
set_option maxRecDepth 100000
/-- The marked addresses below n. -/
def pre (ws : List Nat) (n : Nat) : List Int := ((List.range n).filter (bm.bit ws)).map fun i : Nat => (i : Int)
theorem pre_all (ws : List Nat) : pre ws 2048 = bm.nums ws := rfl
theorem pre_more (ws : List Nat) (n : Nat) : pre ws (n + 1) = pre ws n ++ if bm.bit ws n = true then [(n : Int)] else [] := by
  unfold pre
  rw [List.range_succ, List.filter_append, List.map_append]
  congr 1
  cases h : bm.bit ws n <;> simp [h]
theorem pre_len (ws : List Nat) (n : Nat) : (pre ws n).length ≤ n := by
  unfold pre
  rw [List.length_map]
  exact Nat.le_trans (List.length_filter_le _ _) (by simp)
theorem rd_new {w w' : World} {B n c : Nat} {A : Option Addr} {xs : List Int} (h : Rd w B A n c xs) (hg : w.grownBy w' none) : Rd w' B A n c xs := ⟨h.1, h.2.1, fun ad e i hi => ⟨(h.2.2 ad e i hi).1, hg.cell (h.2.2 ad e i hi).2 (by simp)⟩⟩
section
variable {w W W2 : World} {L J : List Nat} {g M r : Nat} {s : Ps} {x1 x2 : Int}
theorem told_any (h : Gy w L g r s) (hb : Bk w J M r s) (hT : bm.Tab w) : Calls Tryd.prog 10 #[.pointer (some ⟨g, 0, none⟩), .pointer (some ⟨M, 0, none⟩)] w fun e w' => e = .returned (.bool true) ∧ w.grownBy w' none := by
  obtain ⟨i0, hi, hz0, hz1, hz2⟩ := info_parts bm.info_int
  have E : Hid (i0.zero = some (.int .i64 0) ∧ i0.size = 1 ∧ i0.bytes = 8 ∧ Tryd.prog.info? 3 = some i0) := ⟨hz0, hz1, hz2, hi⟩
  have HG := Lib.hid h
  have HT := Lib.hid hT
  obtain ⟨v, hb, _⟩ := hb
  obtain ⟨A, N, c, rfl, hN, _, _⟩ := hb.li.shape
  have HB := Lib.hid (fun W (hg : w.grownBy W none) => hb.new hg)
  have hfit : N ≤ 256 := by rw [hN]; exact Nat.le_trans hb.fit hb.hi
  have HN := Lib.hid hN
  clear hi hz0 hz1 hz2 h hb hT hN
  go_enter Tryd.func10, Tryd.ntmps10
  go_wp2
  go_loopw [5, 6] (fun v i wr => ∃ (n k : Nat) (A' : Option Addr) (c' : Nat), n ≤ 2048 ∧ k = (pre s.ws n).length ∧ i = .int .i64 n ∧ v = .slice A' k c' ∧ wr.ownsRow w.heap.size 3 1 (.slice A' k c') k (bm.ints (pre s.ws n)) ∧ w.grownBy wr none) (fun _ i _ => 2048 - (intOf i).toNat)
  case atStart => exact ⟨0, 0, none, 0, by omega, rfl, rfl, rfl, World.ownsRow_nil _ _ _ _, World.grownBy.refl _ _⟩
  case round =>
    obtain ⟨n, k, A', c', hn, hk, rfl, rfl, ho, hg⟩ := hrel
    have HO := Lib.hid ho
    have GG := Lib.hid hg
    have HK := Lib.hid hk
    have hk2 : k ≤ n := by rw [hk]; exact pre_len _ _
    clear ho hg hk
    by_cases hlt : n < 2048
    · have c0 := (HB.out _ GG.out).mark hlt
      have mlt := (HB.out _ GG.out).lt
      have PM := Lib.hid (pre_more s.ws n)
      have l1 : (0 : Int) ≤ (n : Int) := by omega
      have l2 : (n : Int) < 2048 := by omega
      generalize bm.bit s.ws n = y at c0 PM
      cases y with
      | false =>
        go_wp2
        go_roundw
        case rel =>
          have := PM.out
          simp at this
          exact ⟨n + 1, k, A', c', by omega, by rw [this]; exact HK.out, by go_num, rfl, by rw [this]; exact HO.out, GG.out⟩
        case measure => first | (simp [intOf]; done) | (simp [intOf]; omega)
      | true =>
        go_wp2_with (refine wpList_append_rd rfl (.tmp 17) (.tmp 19) 49 rfl w.heap.size 3 i0 (.int .i64 0) 8 Tryd.underlying49 E.out.2.2.2 E.out.1 E.out.2.1 E.out.2.2.1 rfl _ k (pre s.ws n) rfl (HO.out.alloc _) (some ⟨wr.heap.size, 0, none⟩) 1 1 _ [(n : Int)] rfl (bm.Rd.one _ _ _) (by unfold maxLen; omega) (by omega) (by have := GG.out.size; simp; omega) ?_; intro A3 c3 w2 own1 rd1 gr1; have OWN1 := Lib.hid own1; have G1 := Lib.hid (bm.grown_one GG.out HO.out (Nat.le_refl _) gr1); clear own1 gr1 rd1)
        go_roundw
        case rel =>
          have := PM.out
          rw [if_pos rfl] at this
          exact ⟨n + 1, k + 1, A3, c3, by omega, by rw [this, List.length_append, ← HK.out]; rfl, by go_num, rfl, by rw [this]; exact OWN1.out, G1.out⟩
        case measure => first | (simp [intOf]; done) | (simp [intOf]; omega)
    · obtain rfl : n = 2048 := by omega
      have ho := HO.out
      have hk := HK.out
      rw [pre_all] at ho hk
      have f := (⟨(HB.out _ GG.out).c0, (HB.out _ GG.out).c2⟩ : _ ∧ _)
      have mlt := (HB.out _ GG.out).lt
      have HF := Lib.hid (fun W (hg : wr.grownBy W none) => (⟨hg.cell (HB.out _ GG.out).c0 (by simp), hg.cell (HB.out _ GG.out).c2 (by simp)⟩ : W.cell? ⟨M, 2048, none⟩ = some (.slice A N c) ∧ W.cell? ⟨M, 2050, none⟩ = some (.bool s.b)))
      have AL := Lib.hid (fun W (hg : wr.grownBy W none) => (All_any ((HG.out.new GG.out).new hg) ((HT.out.kept GG.out (by simp)).kept hg (by simp))).mono (fun e w' (k : bm.ListAns (bm.nums s.ws) W e w') => (show ∃ A c, e = .returned (.slice A (bm.nums s.ws).length c) ∧ Rd w' w'.heap.size A (bm.nums s.ws).length c (bm.nums s.ws) ∧ wr.grownBy w' none from (by
        obtain ⟨A, c, h1, h2, h3⟩ := k
        exact ⟨A, c, h1, bm.rd_own h2, hg.trans h3⟩))))
      have IN := Lib.hid (fun W (hg : wr.grownBy W none) Y A2 c2 (hr : Rd W Y A2 (bm.nums s.ws).length c2 (bm.nums s.ws)) => (bm.Ints_true (bm.nums s.ws) A2 A' (bm.nums s.ws).length k c2 c' _ _ W (by rw [← hk]; omega) hk.symm hr (rd_new (bm.rd_own ho) hg)).mono (fun e w' h => (show e = .returned (.bool true) ∧ wr.grownBy w' none from ⟨h.1, hg.trans (drew_grown h.2 _)⟩)))
      have CO := Lib.hid (fun W (hg : wr.grownBy W none) => (Count_any ((HG.out.new GG.out).new hg)).mono (fun e w' h => (show e = .returned (.int .i64 (bm.nums s.ws).length) ∧ wr.grownBy w' none from ⟨h.1, hg.trans h.2⟩)))
      have WA := Lib.hid (fun W (hg : wr.grownBy W none) => (Waiting_any ((HG.out.new GG.out).new hg)).mono (fun e w' h => (show e = .returned (.int .i64 N) ∧ wr.grownBy w' none from ⟨by rw [HN.out]; exact h.1, h.2 ▸ hg⟩)))
      have OV := Lib.hid (fun W (hg : wr.grownBy W none) => (Over_any ((HG.out.new GG.out).new hg)).mono (fun e w' h => (show e = .returned (.bool s.b) ∧ wr.grownBy w' none from ⟨h.1, h.2 ▸ hg⟩)))
      rw [← hk] at AL CO IN
      generalize bm.nums s.ws = xs at AL IN
      generalize s.b = b at OV HF f
      clear ho hk HO HK HB hlt hn
      go_wp2
      go_region_held3 (fun W => W.cell? ⟨M, 2048, none⟩ = some (.slice A N c) ∧ W.cell? ⟨M, 2050, none⟩ = some (.bool b)) (first | exact f | exact ff | go_keep) (first
        | (go_at_call 23; (with_reducible refine (AL.out _ (by first | exact World.grownBy.refl _ _ | exact grown_drew _ _ | exact li.grown_drewN _ _ _)).mono ?_); rintro e w2 ⟨A2, c2, rfl, hr, hg⟩; have R2 := Lib.hid hr; have G2 := Lib.hid hg; have ff := HF.out _ hg; clear hr hg)
        | (go_at_call 30; (with_reducible refine (IN.out _ (by first | exact G2.out | exact G2.out.trans (grown_drew _ _) | exact G2.out.trans (li.grown_drewN _ _ _)) _ _ _ (by first | exact R2.out | exact rd_new R2.out (grown_drew _ none) | exact rd_new R2.out (li.grown_drewN _ _ none))).mono ?_); rintro e w3 ⟨rfl, hg⟩; have G3 := Lib.hid hg; have ff := HF.out _ hg; clear hg)
        | (go_at_call 18; (with_reducible refine (CO.out _ (by first | exact G3.out | exact G3.out.trans (grown_drew _ _) | exact G3.out.trans (li.grown_drewN _ _ _))).mono ?_); rintro e w4 ⟨rfl, hg⟩; have G4 := Lib.hid hg; have ff := HF.out _ hg; clear hg)
        | (go_at_call 20; (with_reducible refine (WA.out _ (by first | exact G4.out | exact G4.out.trans (grown_drew _ _) | exact G4.out.trans (li.grown_drewN _ _ _))).mono ?_); rintro e w5 ⟨rfl, hg⟩; have G5 := Lib.hid hg; have ff := HF.out _ hg; clear hg)
        | (go_at_call 21; (with_reducible refine (OV.out _ (by first | exact G5.out | exact G5.out.trans (grown_drew _ _) | exact G5.out.trans (li.grown_drewN _ _ _))).mono ?_); rintro e w6 ⟨rfl, hg⟩; have G6 := Lib.hid hg; have ff := HF.out _ hg; clear hg))
      go_wp2
      go_ret
      first | exact ⟨by simp, GG.out.trans G6.out⟩ | exact ⟨by simp, GG.out.trans (G6.out.trans (grown_drew _ _))⟩ | exact ⟨by simp, GG.out.trans (G6.out.trans (li.grown_drewN _ _ _))⟩
theorem few_any (A : Option Addr) (n c : Nat) (w : World) (hn : n ≤ c) (hc : c ≤ maxLen) (hA : 0 < n → ∃ ad, A = some ad) :
    Calls Tryd.prog 8 #[.slice A n c] w fun e w' => (∃ m c', m ≤ 60 ∧ m ≤ n ∧ e = .returned (.slice A m c')) ∧ w = w' := by
  unfold maxLen at hc
  by_cases h : 60 < n
  · obtain ⟨ad, rfl⟩ := hA (by omega)
    clear hA
    have l1 : (60 : Int) ≤ c := by omega
    go_enter Tryd.func8, Tryd.ntmps8
    go_wp2
    all_goals
      go_ret
      exact ⟨⟨60, _, by omega, by omega, rfl⟩, rfl⟩
  · clear hA
    go_enter Tryd.func8, Tryd.ntmps8
    go_wp2
    go_ret
    exact ⟨⟨n, _, by omega, by omega, rfl⟩, rfl⟩
end
end Go.Proofs.YtokjpibaaioehaaDoor.sh
