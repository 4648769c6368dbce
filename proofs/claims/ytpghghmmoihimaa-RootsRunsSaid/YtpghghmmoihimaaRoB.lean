/- What layer 14's Get, Push and Pop do. -/
import Derived.Test.YtpghghmmoihimaaRoA
import Derived.RegionTactic
namespace Go.Proofs.Ytpghghmmoihimaa.ro
open Go.ChangeShapes Go.WideShapes Go.ChangeAt Go.RowKit gen li va wd
set_option linter.unusedVariables false
set_option maxHeartbeats 4000000
set_option maxRecDepth 100000

/-- An answer: a value, and whether there is one. -/
abbrev vb (x : Va) (b : Bool) : Ending := .returned (.tuple #[.agg #[.int .i64 x.1, .int .i64 x.2], .bool b])
/-- A place's value. -/
def gt (m : List Va) (i : Int) : Va := if 0 ≤ i ∧ i < m.length then m.getD i.toNat (0, 0) else (0, 0)
def has (m : List Va) (i : Int) : Bool := decide (0 ≤ i ∧ i < m.length)
section
variable {w w' : World} {g : Nat} {m : List Va}
theorem Get_nil (i : Int) (w : World) : Calls Try.prog 13 #[.pointer none, .int .i64 i] w fun e w' => e = vb (0, 0) false ∧ w.grownBy w' none := by
  have G0 := Lib.hid (World.grownBy_alloc w (.cells #[.int .i64 0, .int .i64 0] 29) none)
  by_cases h1 : i < 0
  · go_enter Try.func13, Try.ntmps13
    go_wp2
    exact bodyPost_ret (v := .tuple #[.agg #[.int .i64 0, .int .i64 0], .bool false]) (by simp [results, Try.results13, go_sem]) rfl ⟨rfl, G0.out⟩
  · have h2 : 0 ≤ i := by omega
    go_enter Try.func13, Try.ntmps13
    go_wp2_with (go_at_call 16; (with_reducible refine (Len_nil _).mono ?_); rintro e w' ⟨rfl, rfl⟩)
    exact bodyPost_ret (v := .tuple #[.agg #[.int .i64 0, .int .i64 0], .bool false]) (by simp [results, Try.results13, go_sem]) rfl ⟨rfl, G0.out⟩
theorem grown_of {a b : World} (h : Below a.heap.size a b) : a.grownBy b none := ⟨h.os, h.tape, h.output, h.size, fun k hk _ => h.block k hk⟩
/-- What is written on what was made on the way counts as nothing. -/
theorem grown_aside {a b c : World} {r : Nat} {row : Option Nat} (h : a.grownBy b row) (k : b.grownBy c (some r)) (hr : a.heap.size ≤ r) : a.grownBy c row :=
  ⟨k.os.trans h.os, k.tape.trans h.tape, k.output.trans h.output, Nat.le_trans h.size k.size, fun i hi hne => (k.block i (Nat.lt_of_lt_of_le hi h.size) (by simp; omega)).trans (h.block i hi hne)⟩
theorem Push_yes (h : Rt w g m) (hm : m.length < 16) (k n : Int) (hc : chk k n = 0) :
    Calls Try.prog 15 #[.pointer (some ⟨g, 0, none⟩), .agg #[.int .i64 k, .int .i64 n]] w fun e w' => e = .returned (.bool true) ∧ Rt w' g (m ++ [(k, n)]) ∧ w.grownBy w' (some g) := by
  have c := h.count
  have l1 : m.length < 16 := hm
  have hlt := h.lt
  have H := Lib.hid h
  have HC := Lib.hid hc
  obtain ⟨p, hp⟩ : ∃ p, m.length = p := ⟨_, rfl⟩
  have HP := Lib.hid hp
  rw [hp] at c l1
  have t1 : ((p : Int) == 16) = false := by simp; omega
  have C0 := Lib.hid (Two.new w 29 k n rfl)
  have G0 := Lib.hid (World.grownBy_alloc w (.cells #[.int .i64 k, .int .i64 n] 29) none)
  clear h hm hc hp
  go_enter Try.func15, Try.ntmps15
  go_wp2_with (go_at_call 22; (with_reducible refine (Check_any k n _).mono ?_); rintro e w1 ⟨rfl, hb⟩; rw [HC.out]; obtain ⟨d0, d1, d2, d3⟩ := Two.below hb C0.out; have G1 := Lib.hid (G0.out.trans (grown_of hb)); have R1 := Lib.hid (H.out.new G1.out); have c1 := R1.out.count; rw [HP.out] at c1; have fz := R1.out.free; obtain ⟨e0, e1⟩ := R1.out.end_ (i := p) (by rw [HP.out]; exact Nat.le_refl _) l1; have hz : w.heap.size < w1.heap.size := (World.block_lt_of_cell? w1 _ d0); clear hb)
  go_region
  go_wp2
  go_ret
  exact ⟨rfl, R1.out.push HP.out l1 k n, grown_then G1.out ((((grown_set _ _ _ _).trans (grown_set _ _ _ _)).trans (grown_set _ _ _ _)).trans (grown_drewN _ 1 _))⟩
theorem Push_full (h : Rt w g m) (hm : m.length = 16) (k n : Int) :
    Calls Try.prog 15 #[.pointer (some ⟨g, 0, none⟩), .agg #[.int .i64 k, .int .i64 n]] w fun e w' => e = .returned (.bool false) ∧ w.grownBy w' none := by
  have c := h.count
  rw [hm] at c
  have hlt := h.lt
  have G0 := Lib.hid (World.grownBy_alloc w (.cells #[.int .i64 k, .int .i64 n] 29) none)
  clear h hm
  go_enter Try.func15, Try.ntmps15
  go_wp2
  go_ret
  exact ⟨rfl, G0.out⟩
theorem Push_bad (h : Rt w g m) (hm : m.length < 16) (k n : Int) (hc : chk k n ≠ 0) :
    Calls Try.prog 15 #[.pointer (some ⟨g, 0, none⟩), .agg #[.int .i64 k, .int .i64 n]] w fun e w' => e = .returned (.bool false) ∧ w.grownBy w' none := by
  have c := h.count
  have hlt := h.lt
  have HC := Lib.hid (show (chk k n != 0) = true by simpa using hc)
  generalize m.length = p at c hm
  have t1 : ((p : Int) == 16) = false := by simp; omega
  have C0 := Lib.hid (Two.new w 29 k n rfl)
  have G0 := Lib.hid (World.grownBy_alloc w (.cells #[.int .i64 k, .int .i64 n] 29) none)
  have CK := Lib.hid (fun w => Check_any k n w)
  generalize chk k n = z at HC CK
  clear h hm hc
  go_enter Try.func15, Try.ntmps15
  go_wp2_with (go_at_call 22; (with_reducible refine (CK.out _).mono ?_); rintro e w1 ⟨rfl, hb⟩; have t2 := HC.out; have G1 := Lib.hid (G0.out.trans (grown_of hb)); clear hb)
  go_ret
  exact ⟨rfl, G1.out⟩
theorem Push_nil (k n : Int) (w : World) :
    Calls Try.prog 15 #[.pointer none, .agg #[.int .i64 k, .int .i64 n]] w fun e w' => e = .returned (.bool false) ∧ w.grownBy w' none := by
  have G0 := Lib.hid (World.grownBy_alloc w (.cells #[.int .i64 k, .int .i64 n] 29) none)
  go_enter Try.func15, Try.ntmps15
  go_wp2
  go_ret
  exact ⟨rfl, G0.out⟩
theorem Get_in (h : Rt w g m) (i : Int) (h1 : 0 ≤ i) (h2 : i < m.length) :
    Calls Try.prog 13 #[.pointer (some ⟨g, 0, none⟩), .int .i64 i] w fun e w' => e = vb (m.getD i.toNat (0, 0)) true ∧ w.grownBy w' none := by
  obtain ⟨k, rfl⟩ : ∃ k : Nat, i = k := ⟨i.toNat, by omega⟩
  have G0 := Lib.hid (World.grownBy_alloc w (.cells #[.int .i64 0, .int .i64 0] 29) none)
  have hk : k < m.length := by omega
  have HL := Lib.hid (Len_any (h.new G0.out))
  obtain ⟨e0, e1⟩ := (h.new G0.out).at_ hk
  have l16 := h.2
  rw [show ((k : Int)).toNat = k from rfl]
  generalize m.getD k (0, 0) = x at e0 e1
  generalize m.length = p at *
  have l1 : (0 : Int) ≤ (k : Int) := h1
  have l2 : k < 16 := by omega
  clear h
  go_enter Try.func13, Try.ntmps13
  go_wp2_with (go_at_call 16; (with_reducible refine HL.out.mono ?_); rintro e w1 ⟨rfl, q, rfl⟩)
  refine bodyPost_ret (v := .tuple #[.agg #[.int .i64 x.1, .int .i64 x.2], .bool true]) ?_ rfl ⟨rfl, ?_⟩
  · simp [results, Try.results13, go_sem, *]
  · exact grown_new (G0.out.trans (grown_drewN _ q _)) ((grown_set _ _ _ _).trans (grown_set _ _ _ _)) (Nat.le_refl _)
theorem Get_out (h : Rt w g m) (i : Int) (ho : i < 0 ∨ (m.length : Int) ≤ i) :
    Calls Try.prog 13 #[.pointer (some ⟨g, 0, none⟩), .int .i64 i] w fun e w' => e = vb (0, 0) false ∧ w.grownBy w' none := by
  have G0 := Lib.hid (World.grownBy_alloc w (.cells #[.int .i64 0, .int .i64 0] 29) none)
  have HL := Lib.hid (Len_any (h.new G0.out))
  have l16 := h.2
  generalize m.length = p at *
  clear h
  by_cases h1 : i < 0
  · clear ho
    go_enter Try.func13, Try.ntmps13
    go_wp2
    exact bodyPost_ret (v := .tuple #[.agg #[.int .i64 0, .int .i64 0], .bool false]) (by simp [results, Try.results13, go_sem]) rfl ⟨rfl, G0.out⟩
  · have h2 : 0 ≤ i := by omega
    have h3 : (p : Int) ≤ i := by omega
    clear ho h1
    go_enter Try.func13, Try.ntmps13
    go_wp2_with (go_at_call 16; (with_reducible refine HL.out.mono ?_); rintro e w1 ⟨rfl, q, rfl⟩)
    refine bodyPost_ret (v := .tuple #[.agg #[.int .i64 0, .int .i64 0], .bool false]) (by simp [results, Try.results13, go_sem]) rfl ⟨rfl, ?_⟩
    exact grown_new (G0.out.trans (grown_drewN _ q _)) ((grown_set _ _ _ _).trans (grown_set _ _ _ _)) (Nat.le_refl _)
theorem Pop_nil (w : World) : Calls Try.prog 12 #[.pointer none] w fun e w' => e = vb (0, 0) false ∧ w.grownBy w' none := by
  have G0 := Lib.hid (World.grownBy_alloc w (.cells #[.int .i64 0, .int .i64 0] 29) none)
  have C0 := Lib.hid (Two.new w 29 0 0 rfl)
  go_enter Try.func12, Try.ntmps12
  go_wp2_with (first
    | (go_at_call 16; (with_reducible refine (Len_nil _).mono ?_); rintro e w' ⟨rfl, rfl⟩)
    | (go_at_call 13; (with_reducible refine (Get_nil _ _).mono ?_); rintro e w1 ⟨rfl, hg⟩; obtain ⟨d0, d1, d2, d3⟩ := Two.below (li.grown_below hg) C0.out; have G1 := Lib.hid (G0.out.trans hg); have hz : w.heap.size < w1.heap.size := (World.block_lt_of_cell? w1 _ d0); clear hg))
  exact bodyPost_ret (v := .tuple #[.agg #[.int .i64 0, .int .i64 0], .bool false]) (by simp [results, Try.results12, go_sem, *]) rfl ⟨rfl, (grown_new G1.out ((grown_set _ _ _ _).trans (grown_set _ _ _ _)) (Nat.le_refl _)).trans (World.grownBy_alloc _ _ _)⟩
theorem Pop_none (h : Rt w g []) : Calls Try.prog 12 #[.pointer (some ⟨g, 0, none⟩)] w fun e w' => e = vb (0, 0) false ∧ w.grownBy w' none := by
  have G0 := Lib.hid (World.grownBy_alloc w (.cells #[.int .i64 0, .int .i64 0] 29) none)
  have C0 := Lib.hid (Two.new w 29 0 0 rfl)
  have HL := Lib.hid (Len_any (h.new G0.out))
  have HG := Lib.hid (fun q => Get_out ((h.new G0.out).drewN q) (-1) (by omega))
  clear h
  go_enter Try.func12, Try.ntmps12
  go_wp2_with (first
    | (go_at_call 16; (with_reducible refine HL.out.mono ?_); rintro e w' ⟨rfl, q, rfl⟩)
    | (go_at_call 13; (with_reducible refine (HG.out _).mono ?_); rintro e w1 ⟨rfl, hg⟩; have hg' := (grown_drewN _ q none).trans hg; obtain ⟨d0, d1, d2, d3⟩ := Two.below (li.grown_below hg') C0.out; have G1 := Lib.hid (G0.out.trans hg'); have hz : w.heap.size < w1.heap.size := (World.block_lt_of_cell? w1 _ d0); clear hg hg'))
  exact bodyPost_ret (v := .tuple #[.agg #[.int .i64 0, .int .i64 0], .bool false]) (by simp [results, Try.results12, go_sem, *]) rfl ⟨rfl, (grown_new G1.out ((grown_set _ _ _ _).trans (grown_set _ _ _ _)) (Nat.le_refl _)).trans (World.grownBy_alloc _ _ _)⟩
theorem Pop_yes {x : Va} (h : Rt w g (m ++ [x])) : Calls Try.prog 12 #[.pointer (some ⟨g, 0, none⟩)] w fun e w' => e = vb x true ∧ Rt w' g m ∧ w.grownBy w' (some g) := by
  have l16 := h.2
  have hlt := h.lt
  obtain ⟨p, hp⟩ : ∃ p, m.length = p := ⟨_, rfl⟩
  have HP := Lib.hid hp
  have hl : (m ++ [x]).length = p + 1 := by simp [hp]
  rw [hl] at l16
  have G0 := Lib.hid (World.grownBy_alloc w (.cells #[.int .i64 0, .int .i64 0] 29) none)
  have C0 := Lib.hid (Two.new w 29 0 0 rfl)
  have HL := Len_any (h.new G0.out)
  rw [hl] at HL
  have HLL := Lib.hid HL
  have hx : (m ++ [x]).getD p (0, 0) = x := by rw [← hp]; simp
  have HG := Lib.hid (fun q (i : Int) (hi : i = p) => show Calls Try.prog 13 #[.pointer (some ⟨g, 0, none⟩), .int .i64 i] ((w.alloc (.cells #[.int .i64 0, .int .i64 0] 29)).drewN q) fun e w' => e = vb x true ∧ ((w.alloc (.cells #[.int .i64 0, .int .i64 0] 29)).drewN q).grownBy w' none by
    subst hi
    have := Get_in ((h.new G0.out).drewN q) p (by omega) (by rw [hl]; omega)
    rwa [show ((p : Int)).toNat = p from rfl, hx] at this)
  have H := Lib.hid h
  have HLN := Lib.hid hl
  obtain ⟨x1, x2⟩ := x
  clear h hp hl HL hx
  go_enter Try.func12, Try.ntmps12
  go_wp2_with (first
    | (go_at_call 16; (with_reducible refine HLL.out.mono ?_); rintro e w' ⟨rfl, q, rfl⟩)
    | (go_at_call 13; (with_reducible refine (HG.out _ _ (by omega)).mono ?_); rintro e w1 ⟨rfl, hg⟩; have hg' := (grown_drewN _ q none).trans hg; obtain ⟨d0, d1, d2, d3⟩ := Two.below (li.grown_below hg') C0.out; have G1 := Lib.hid (G0.out.trans hg'); have R1 := Lib.hid (H.out.new G1.out); have c1 := R1.out.count; rw [HLN.out] at c1; have fz := R1.out.free; obtain ⟨e0, e1⟩ := R1.out.at_ (i := p) (by rw [HLN.out]; omega); have hlt1 := R1.out.lt; have hz : w.heap.size < w1.heap.size := (World.block_lt_of_cell? w1 _ d0); clear hg hg'))
  go_region
  go_wp2
  have R3 := Lib.hid (R1.out.pop HP.out (by omega))
  have G3 := Lib.hid (grown_then G1.out (((grown_set w1 g 0 (.int .i64 p)).trans (grown_set _ g (1 + p * 2) (.int .i64 0))).trans (grown_set _ g (1 + p * 2 + 1) (.int .i64 0))))
  refine bodyPost_ret (v := .tuple #[.agg #[.int .i64 x1, .int .i64 x2], .bool true]) ?_ rfl ⟨rfl, ?_, ?_⟩
  · simp [results, Try.results12, go_sem, *]
  · exact R3.out.kept ((((grown_set _ w.heap.size _ _).trans (grown_set _ _ _ _)).trans (World.grownBy_alloc _ _ _)).trans (grown_drewN _ 1 _)) (by simp; omega)
  · exact grown_aside G3.out ((((grown_set _ w.heap.size _ _).trans (grown_set _ _ _ _)).trans (World.grownBy_alloc _ _ _)).trans (grown_drewN _ 1 _)) (Nat.le_refl _)
end
end Go.Proofs.Ytpghghmmoihimaa.ro
