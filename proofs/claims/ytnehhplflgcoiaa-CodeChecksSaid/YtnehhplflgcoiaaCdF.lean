/- Layer 24: a step's octets, by the program's function and by the statements' own. -/
import Derived.Test.YtnehhplflgcoiaaCdE
import Derived.Laws.MakeOwn
import Derived.StillTailTactics
namespace Go.Proofs.Ytnehhplflgcoiaa.cd
open Go.ChangeShapes Go.WideShapes Go.ChangeAt Go.RowKit gen yb
set_option linter.unusedVariables false
set_option maxHeartbeats 1000000
set_option maxRecDepth 100000

theorem Sv.kept {w w' : World} {B : Nat} {k t i f j c n : Int} {row : Option Nat} (h : Sv w B k t i f j c n) (hg : w.grownBy w' row) (hr : some B ≠ row) : Sv w' B k t i f j c n := by
  obtain ⟨h0, h1, h2, h3, h4, h5, h6⟩ := h
  exact ⟨hg.cell h0 hr, hg.cell h1 hr, hg.cell h2 hr, hg.cell h3 hr, hg.cell h4 hr, hg.cell h5 hr, hg.cell h6 hr⟩
theorem madeCells_rep (z : Value) (n : Nat) : madeCells #[z] n = (List.replicate n z).toArray := by
  apply Array.ext'
  rw [toList_madeCells_one]
theorem make14 (w : World) : (Instr.makeSlice 26 (.int .i64 14) (.int .i64 14)).run Try.prog w = .ok (.slice (some ⟨w.heap.size, 0, none⟩) 14 14) (w.alloc (.cells (u8s (List.replicate 14 0)).toArray 5)) := by
  obtain ⟨i0, hi, hz0, hz1, hz2⟩ := info_parts info_u8
  have h := run_make (P := Try.prog) w 26 5 i0 _ Try.underlying26 hi hz0 .i64 .i64 14 14 (by omega) (Int.le_refl _) (by rw [hz2]; omega) (by omega)
  rw [h, hz1, show (Value.int IntKind.u8 0).cells = #[.int .u8 0] from rfl, madeCells_rep]
  rfl
theorem Hw.made (w : World) (m : List UInt8) : Hw (w.alloc (.cells (u8s m).toArray 5)) w.heap.size m := by unfold Hw; rw [heap_alloc_new]
/-- The first p of the numbers laid, one octet each. -/
def row (l : List Int) (p : Nat) : List UInt8 := (l.take p).map b8 ++ List.replicate (14 - p) 0
theorem row_length {l : List Int} {p : Nat} (hl : l.length = 6) (hp : p ≤ 6) : (row l p).length = 14 := by
  simp only [row, List.length_append, List.length_map, List.length_take, List.length_replicate]
  omega
theorem row_step {l : List Int} {p : Nat} (hl : l.length = 6) (hp : p < 6) : (row l p).set p (b8 (l.getD p 0)) = row l (p + 1) := by
  unfold row
  have h1 : p < l.length := by omega
  have e : List.replicate (14 - p) (0 : UInt8) = 0 :: List.replicate (14 - (p + 1)) 0 := by rw [show 14 - p = 14 - (p + 1) + 1 by omega, List.replicate_succ]
  rw [List.set_append_right _ _ (by simp; omega), e]
  simp only [List.length_map, List.length_take, Nat.min_eq_left (Nat.le_of_lt h1), Nat.sub_self, List.set_cons_zero]
  rw [List.take_succ_eq_append_getElem h1, List.map_append, List.append_assoc]
  simp [h1]
/-- A step's octets. -/
def octs (l : List Int) (n : Int) : List UInt8 := l.map b8 ++ be n 8
theorem octs_length {l : List Int} (n : Int) (hl : l.length = 6) : (octs l n).length = 14 := by simp [octs, be_length, hl]
theorem laid_row {l : List Int} (n : Int) (hl : l.length = 6) : laid (row l 6) 6 8 8 n = octs l n := by
  unfold laid row octs
  rw [List.take_of_length_le (by omega : l.length ≤ 6), List.take_left' (by simp [hl]), List.drop_eq_nil_of_le (by simp [hl]), List.append_nil]
def PutAns (l : List Int) (n : Int) (w : World) (e : Ending) (w' : World) : Prop := ∃ g, e = .returned (.tuple #[.slice (some ⟨g, 0, none⟩) 14 14, .int .i64 0]) ∧ w.heap.size ≤ g ∧ Hw w' g (octs l n) ∧ w.grownBy w' none
theorem Put_no {k t i f j c n z : Int} (w : World) (hz : chk k [k, t, i, f, j, c] n = z) (h0 : (z != 0) = true) : Calls Try.prog 8 #[.agg #[.int .i64 k, .int .i64 t, .int .i64 i, .int .i64 f, .int .i64 j, .int .i64 c, .int .i64 n]] w
    fun e w' => e = .returned (.tuple #[.slice none 0 0, .int .i64 z]) ∧ w.grownBy w' none := by
  have HZ := Lib.hid hz
  clear hz
  have G0 := Lib.hid (grown_alloc w (.cells #[.int .i64 k, .int .i64 t, .int .i64 i, .int .i64 f, .int .i64 j, .int .i64 c, .int .i64 n] 23))
  go_enter Try.func8, Try.ntmps8
  go_wp2_with (go_at_call 9; (with_reducible refine (Check_as _ HZ.out).mono ?_); rintro e w1 ⟨rfl, hg⟩; have G1 := Lib.hid (G0.out.trans hg); clear hg)
  go_ret2
  exact ⟨rfl, G1.out⟩
theorem Put_yes {k t i f j c n : Int} (w : World) (hz : chk k [k, t, i, f, j, c] n = 0) (hn : -9223372036854775808 ≤ n ∧ n ≤ 9223372036854775807) : Calls Try.prog 8 #[.agg #[.int .i64 k, .int .i64 t, .int .i64 i, .int .i64 f, .int .i64 j, .int .i64 c, .int .i64 n]] w
    (PutAns [k, t, i, f, j, c] n w) := by
  have HZ := Lib.hid hz
  have HN := Lib.hid hn
  clear hz hn
  have mk := make14
  have G0 := Lib.hid (grown_alloc w (.cells #[.int .i64 k, .int .i64 t, .int .i64 i, .int .i64 f, .int .i64 j, .int .i64 c, .int .i64 n] 23))
  have S0 := Lib.hid (Sv.new w 23 k t i f j c n)
  have HM := Lib.hid (fun w : World => Hw.made w (List.replicate 14 0))
  have GM := Lib.hid (fun w : World => grown_alloc w (.cells (u8s (List.replicate 14 0)).toArray 5))
  generalize (u8s (List.replicate 14 0)).toArray = cs at mk HM GM
  go_enter Try.func8, Try.ntmps8
  go_wp2_with (first
    | (go_at_call 9; (with_reducible refine (Check_as _ HZ.out).mono ?_); rintro e w1 ⟨rfl, hg⟩; have G1 := Lib.hid ((G0.out.trans hg).trans (GM.out w1)); have S1 := Lib.hid ((S0.out.made hg).made (GM.out w1)); obtain ⟨c0, c1, c2, c3, c4, c5, c6⟩ := S1.out; have H1 := Lib.hid (HM.out w1); have z1 : w.heap.size < w1.heap.size := (by have := hg.size; simp at this; omega); clear hg)
    | (go_at_call 16; (with_reducible refine (short_any _ _ _ _ _ _ _ _).mono ?_); rintro e w2 ⟨rfl, hg⟩; have G2 := Lib.hid (G1.out.trans hg); have S2 := Lib.hid (S1.out.made hg); have H2 := Lib.hid (H1.out.new hg); clear hg; clear c0 c1 c2 c3 c4 c5 c6))
  go_loopw [16] (fun v wr => ∃ p : Nat, p ≤ 6 ∧ v = .int .i64 p ∧ Hw wr w1.heap.size (row [k, t, i, f, j, c] p) ∧ w2.grownBy wr (some w1.heap.size)) (fun v _ => 6 - (intOf v).toNat)
  case atStart => exact ⟨0, by omega, rfl, H2.out, World.grownBy.refl _ _⟩
  case round =>
    obtain ⟨p, hp, rfl, hh, hg⟩ := hrel
    have HH := Lib.hid hh
    have HG := Lib.hid hg
    clear hh hg
    by_cases hlt : p < 6
    · have hI := index6 k t i f j c p hlt
      have hlt' : (p : Int) < 6 := by omega
      have hc := HH.out.at_ (i := p) (by rw [row_length rfl (Nat.le_of_lt hlt)]; omega)
      have hf := HH.out.free p
      have RS := Lib.hid (row_step (l := [k, t, i, f, j, c]) rfl hlt)
      have B := Lib.hid (fun x => (show Value.int .u8 (x % 256) = yb.u8 (b8 x) by unfold yb.u8; rw [b8_nat]))
      generalize List.getD [k, t, i, f, j, c] p 0 = x at hI RS
      go_wp2
      go_roundw
      case rel =>
        rw [B.out]
        exact ⟨p + 1, by omega, by go_num, by rw [← RS.out]; exact HH.out.set _ _, HG.out.trans (gr.grown_set _ _ _ _)⟩
      case measure => simp [intOf]; omega
    · have RL := Lib.hid (show laid (row [k, t, i, f, j, c] p) 6 8 8 n = octs [k, t, i, f, j, c] n by rw [show p = 6 by omega]; exact laid_row n rfl)
      have hge : ¬ (p : Int) < 6 := by omega
      obtain ⟨c0, c1, c2, c3, c4, c5, c6⟩ := S2.out.kept HG.out (by simp; omega)
      clear c0 c1 c2 c3 c4 c5
      have L := Lib.hid (fun W (h : Hw W w1.heap.size (row [k, t, i, f, j, c] p)) => lay_any (o := 6) (r := 8) (c := 8) n h (by omega) (by rw [row_length rfl hp]; omega) (by rw [row_length rfl hp]; omega) HN.out)
      have L2 := Lib.hid (L.out wr.drew HH.out)
      have G3 := Lib.hid (fun W (h : wr.drew.grownBy W (some w1.heap.size)) => li.grown_new G2.out (HG.out.trans ((gr.grown_drew wr (some w1.heap.size)).trans h)) (Nat.le_of_lt z1))
      go_wp2
      go_still_tail 4, (by kernel_rfl)
      change wpList _ _ _ _ _ wr.drew
      go_wp2_with (go_at_call 17; (with_reducible refine (L2.out).mono ?_); rintro e w3 ⟨rfl, hh, hg⟩; have H3 := Lib.hid hh; have GG := Lib.hid (G3.out _ hg); clear hh hg)
      go_ret2
      exact ⟨w1.heap.size, rfl, Nat.le_of_lt z1, by rw [← RL.out]; exact H3.out, GG.out⟩
theorem be_getD (n : Int) : ∀ (k p : Nat), p < k → (be n k).getD p 0 = b8 (n / 256 ^ (k - 1 - p))
  | 0, p, h => by omega
  | k + 1, 0, h => by simp [be]
  | k + 1, p + 1, h => by
    have := be_getD n k p (by omega)
    simp only [be, List.getD_cons_succ]
    rw [this, show k + 1 - 1 - (p + 1) = k - 1 - p by omega]
theorem be_take (n : Int) {s : Nat} (hs : s < 8) : (be n 8).take (8 - s) = (be n 8).take (8 - (s + 1)) ++ [b8 (n / 256 ^ s)] := by
  have h := be_getD n 8 (8 - (s + 1)) (by omega)
  have hl : 8 - (s + 1) < (be n 8).length := by rw [be_length]; omega
  rw [show 8 - s = 8 - (s + 1) + 1 by omega, List.take_succ_eq_append_getElem hl]
  rw [List.getD_eq_getElem?_getD, List.getElem?_eq_getElem hl, show 8 - 1 - (8 - (s + 1)) = s by omega] at h
  rw [← h]
  rfl
theorem octets_any (k t i f j c n : Int) (w : World) : Calls Try.prog 10 #[.agg #[.int .i64 k, .int .i64 t, .int .i64 i, .int .i64 f, .int .i64 j, .int .i64 c, .int .i64 n]] w
    (LyAns (octs [k, t, i, f, j, c] n) w) := by
  have G0 := grown_alloc w (.cells #[.int .i64 k, .int .i64 t, .int .i64 i, .int .i64 f, .int .i64 j, .int .i64 c, .int .i64 n] 23)
  have S0 := Sv.new w 23 k t i f j c n
  have E : #[Value.int .u8 (k % 256), .int .u8 (t % 256), .int .u8 (i % 256), .int .u8 (f % 256), .int .u8 (j % 256), .int .u8 (c % 256)] = (u8s ([k, t, i, f, j, c].map b8)).toArray := by simp [u8s, yb.u8, b8_nat]
  obtain ⟨w1, hw1⟩ : ∃ w1, w1 = (w.alloc (.cells #[.int .i64 k, .int .i64 t, .int .i64 i, .int .i64 f, .int .i64 j, .int .i64 c, .int .i64 n] 23)).alloc (.cells #[Value.int .u8 (k % 256), .int .u8 (t % 256), .int .u8 (i % 256), .int .u8 (f % 256), .int .u8 (j % 256), .int .u8 (c % 256)] 5) := ⟨_, rfl⟩
  have G1 := Lib.hid (show w.grownBy w1 none by rw [hw1]; exact G0.trans (grown_alloc _ _))
  have S1 := Lib.hid (show Sv w1 w.heap.size k t i f j c n by rw [hw1]; exact S0.made (grown_alloc _ _))
  have L1 := Lib.hid (show Ly w1 (w.heap.size + 1) (.slice (some ⟨w.heap.size + 1, 0, none⟩) 6 6) ([k, t, i, f, j, c].map b8) by
    have h := Hw.made (w.alloc (.cells #[.int .i64 k, .int .i64 t, .int .i64 i, .int .i64 f, .int .i64 j, .int .i64 c, .int .i64 n] 23)) ([k, t, i, f, j, c].map b8)
    rw [← E, ← hw1] at h
    simpa using h.own (base := w.heap.size + 1) (by simp) (by simp [maxLen]))
  have HW1 := Lib.hid hw1
  have LE := Lib.hid (show ([k, t, i, f, j, c].map b8).length = 6 from rfl)
  have OE := Lib.hid (show octs [k, t, i, f, j, c] n = [k, t, i, f, j, c].map b8 ++ be n 8 from rfl)
  generalize [k, t, i, f, j, c].map b8 = bs at L1 LE OE
  clear hw1 E G0 S0
  go_enter Try.func10, Try.ntmps10
  go_wp2
  go_loopw [3, 4] (fun v x wr => ∃ s : Nat, s ≤ 8 ∧ x = .int .i64 ((s : Int) - 1) ∧ (∃ A N c', v = .slice A N c' ∧ N = (bs ++ (be n 8).take (8 - s)).length ∧ Ly wr (w.heap.size + 1) (.slice A N c') (bs ++ (be n 8).take (8 - s))) ∧ Sv wr w.heap.size k t i f j c n ∧ w.grownBy wr none) (fun _ v _ => (intOf v + 1).toNat)
  case atStart => exact ⟨8, by omega, rfl, ⟨_, _, _, rfl, by rw [Nat.sub_self, List.take_zero, List.append_nil, LE.out], by rw [Nat.sub_self, List.take_zero, List.append_nil, ← HW1.out]; exact L1.out⟩, by rw [← HW1.out]; exact S1.out, by rw [← HW1.out]; exact G1.out⟩
  case round =>
    obtain ⟨s, hs, rfl, ⟨A, N, c', rfl, hN, hl⟩, hS, hg2⟩ := hrel
    have HN := Lib.hid hN
    have HL := Lib.hid hl
    have HG := Lib.hid hg2
    have S2 := Lib.hid hS
    clear hN hl hS hg2
    obtain ⟨c0, c1, c2, c3, c4, c5, c6⟩ := S2.out
    clear c0 c1 c2 c3 c4 c5
    rcases s with _ | s
    · go_wp2
      go_ret
      have h8 : (be n 8).take (8 - 0) = be n 8 := List.take_of_length_le (by rw [be_length]; omega)
      exact ⟨A, N, c', rfl, by rw [OE.out, HN.out, h8], by rw [OE.out, ← h8]; exact HL.out.mono (Nat.le_succ _), HG.out⟩
    · have e1 : ((s + 1 : Nat) : Int) - 1 = (s : Int) := by omega
      rw [e1]
      have BT := Lib.hid (be_take n (s := s) (by omega))
      have e2 : (0 : Int) ≤ (s : Int) := by omega
      have e3 : s ≤ 7 := by omega
      have G3 := Lib.hid (grown_alloc wr (.cells #[.int .u8 (n / 2 ^ (8 * s) % 256)] 5))
      have Y := Lib.hid (show Ry (wr.alloc (.cells #[.int .u8 (n / 2 ^ (8 * s) % 256)] 5)) (some ⟨wr.heap.size, 0, none⟩) 1 1 [b8 (n / 256 ^ s)] from Ry.one (by rw [byte_of]; simp [go_sem]))
      have LM := Lib.hid (show (bs ++ (be n 8).take (8 - (s + 1))).length + 1 ≤ 1048576 by rw [List.length_append, LE.out, List.length_take, be_length]; omega)
      have GS := Lib.hid HG.out.size
      go_wp2_with (refine append_u8s rfl (.tmp 28) (.tmp 35) rfl (w.heap.size + 1) _ _ rfl (HL.out.new G3.out) _ 1 1 _ rfl Y.out LM.out (by have := GS.out; simp; omega) ?_; intro A3 N3 c3 w2 hn3 own1 gr1; have HN3 := Lib.hid hn3; have L3 := Lib.hid own1; have G4 := Lib.hid ((HG.out.trans G3.out).andThen gr1 (fun j hj => .inl (Nat.le_trans (Nat.le_succ _) (HL.out.from_ j hj)))); have S4 := Lib.hid ((S2.out.made G3.out).kept gr1 (fun e => by have := HL.out.from_ _ e.symm; omega)); clear hn3 own1 gr1)
      go_roundw
      case rel => exact ⟨s, by omega, by go_num, ⟨A3, N3, c3, rfl, by rw [BT.out, ← List.append_assoc]; exact HN3.out, by rw [BT.out, ← List.append_assoc]; exact L3.out⟩, S4.out, G4.out⟩
      case measure => simp [intOf]
end Go.Proofs.Ytnehhplflgcoiaa.cd
