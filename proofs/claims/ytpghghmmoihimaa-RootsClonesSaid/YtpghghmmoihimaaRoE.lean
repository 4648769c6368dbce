/- The law's step: a call, of the program and by a list. -/
import Derived.Test.YtpghghmmoihimaaRoD
namespace Go.Proofs.Ytpghghmmoihimaa.ro
open Go.ChangeShapes Go.WideShapes Go.ChangeAt Go.RowKit gen li va wd
set_option linter.unusedVariables false
set_option maxHeartbeats 4000000
set_option maxRecDepth 100000
/-- The four cells of a call that lies at the head of block B. -/
abbrev Four (w : World) (B : Nat) (a b c d : Int) : Prop := w.cell? ⟨B, 0, none⟩ = some (.int .i64 a) ∧ w.cell? ⟨B, 1, none⟩ = some (.int .i64 b) ∧ w.cell? ⟨B, 2, none⟩ = some (.int .i64 c) ∧ w.cell? ⟨B, 3, none⟩ = some (.int .i64 d)
theorem Four.kept {w w' : World} {B : Nat} {a b c d : Int} {row : Option Nat} (h : Four w B a b c d) (hg : w.grownBy w' row) (hr : some B ≠ row) : Four w' B a b c d :=
  ⟨hg.cell h.1 hr, hg.cell h.2.1 hr, hg.cell h.2.2.1 hr, hg.cell h.2.2.2 hr⟩
theorem Four.new (w : World) (t : TypeId) (a b c d : Int) : Four (w.alloc (.cells #[.int .i64 a, .int .i64 b, .int .i64 c, .int .i64 d] t)) w.heap.size a b c d := by
  unfold Four
  refine ⟨?_, ?_, ?_, ?_⟩ <;> simp [go_sem]
/-- What a step answers. -/
def StA (g : Nat) (w : World) (e : Ending) (w' : World) : Prop := ∃ A N c m', e = .returned (.tuple #[.slice A N c, .bool true]) ∧ N = m'.length ∧ Rt w' g m' ∧ Lv w' 0 (.slice A N c) m' ∧ w.grownBy w' (some g)
theorem Lv.grow {a b c : World} {base : Nat} {v : Value} {m : List Va} (h : a.grownBy b none) (ho : Lv b base v m) (k : b.grownBy c v.ownBlock) (hr : a.heap.size ≤ base) : a.grownBy c none :=
  h.andThen k (fun j hj => .inl (Nat.le_trans hr (ho.from_ j hj)))
section
variable {w w' : World} {g : Nat} {m : List Va}
theorem off_g {v : Value} {base : Nat} (hl : Lv w base v m) {l : List Va} (h : Rt w g l) : v.ownBlock ≠ some g := hl.off h.1 (fun cs z e => by injection e with _ h2 _; exact absurd h2 (by decide))
theorem step_push_no {A : Option Addr} {N c : Nat} (h : Rt w g m) (hl : Lv w 0 (.slice A N c) m) (hN : N = m.length) (i k n : Int) (hno : chk k n ≠ 0 ∨ m.length = 16) :
    Calls Try.prog 19 #[.pointer (some ⟨g, 0, none⟩), .slice A N c, .agg #[.int .i64 1, .int .i64 i, .int .i64 k, .int .i64 n]] w (StA g w) := by
  have PN := Lib.hid (fun W (hW : Rt W g m) => show Calls Try.prog 15 #[.pointer (some ⟨g, 0, none⟩), .agg #[.int .i64 k, .int .i64 n]] W fun e w' => e = .returned (.bool false) ∧ W.grownBy w' none by
    by_cases h16 : m.length = 16
    · exact Push_full hW h16 k n
    · exact Push_bad hW (by have := h.2; omega) k n (hno.resolve_right h16))
  have G0 := Lib.hid (World.grownBy_alloc w (.cells #[.int .i64 1, .int .i64 i, .int .i64 k, .int .i64 n] 50) none)
  have F0 := Lib.hid (Four.new w 50 1 i k n)
  have RC := Lib.hid (fun w => rCheck_any k n w)
  have H := Lib.hid h
  have HL := Lib.hid hl
  have HN := Lib.hid hN
  have l16 : N ≤ 16 := by rw [hN]; exact h.2
  by_cases hc : chk k n = 0
  · have h16 : N = 16 := by rw [hN]; exact hno.resolve_left (fun h => h hc)
    have hcc := Lib.hid hc
    subst h16
    clear h hl hN hno hc
    go_enter Try.func19, Try.ntmps19
    go_wp2_with (first
      | (go_at_call 24; (with_reducible refine (RC.out _).mono ?_); rintro e w1 ⟨rfl, hb⟩; rw [hcc.out]; obtain ⟨c0, c1, c2, c3⟩ := F0.out.kept (grown_of hb) (by simp); have G1 := Lib.hid (G0.out.trans (grown_of hb)); clear hb)
      | (go_at_call 15; (with_reducible refine (PN.out _ (H.out.new G1.out)).mono ?_); rintro e w2 ⟨rfl, hg⟩; have G2 := Lib.hid (G1.out.trans hg); clear hg))
    go_ret2
    exact ⟨A, 16, c, m, rfl, HN.out, H.out.new G2.out, HL.out.new G2.out, grown_then G2.out (World.grownBy.refl _ _)⟩
  · have hcc : (chk k n != 0) = true := by simpa using hc
    generalize chk k n = z at RC hcc
    clear h hl hN hno hc
    go_enter Try.func19, Try.ntmps19
    go_wp2_with (first
      | (go_at_call 24; (with_reducible refine (RC.out _).mono ?_); rintro e w1 ⟨rfl, hb⟩; obtain ⟨c0, c1, c2, c3⟩ := F0.out.kept (grown_of hb) (by simp); have G1 := Lib.hid (G0.out.trans (grown_of hb)); clear hb)
      | (go_at_call 15; (with_reducible refine (PN.out _ (H.out.new G1.out)).mono ?_); rintro e w2 ⟨rfl, hg⟩; have G2 := Lib.hid (G1.out.trans hg); clear hg))
    go_ret2
    exact ⟨A, N, c, m, rfl, HN.out, H.out.new G2.out, HL.out.new G2.out, grown_then G2.out (World.grownBy.refl _ _)⟩
theorem step_push_yes {A : Option Addr} {N c : Nat} (h : Rt w g m) (hl : Lv w 0 (.slice A N c) m) (hN : N = m.length) (i k n : Int) (hc : chk k n = 0) (h16 : m.length < 16) :
    Calls Try.prog 19 #[.pointer (some ⟨g, 0, none⟩), .slice A N c, .agg #[.int .i64 1, .int .i64 i, .int .i64 k, .int .i64 n]] w (StA g w) := by
  have PY := Lib.hid (fun W (hW : Rt W g m) => Push_yes hW h16 k n hc)
  have G0 := Lib.hid (World.grownBy_alloc w (.cells #[.int .i64 1, .int .i64 i, .int .i64 k, .int .i64 n] 50) none)
  have F0 := Lib.hid (Four.new w 50 1 i k n)
  have RC := Lib.hid (fun w => rCheck_any k n w)
  have H := Lib.hid h
  have HL := Lib.hid hl
  have HN := Lib.hid hN
  have HA := Lib.hid (show A = none → N = 0 ∧ c = 0 from fun e => by
    subst e
    rcases hl.2 with ⟨e, _⟩ | ⟨g, cap, cur, e, _⟩
    · injection e with _ e2 e3; exact ⟨e2, e3⟩
    · cases e)
  have l16 : N < 16 := by rw [hN]; exact h16
  have H16 := Lib.hid h16
  have t1 : decide ((16 : Int) ≤ N) = false := by simp; omega
  have hcc := Lib.hid hc
  clear h hl hN hc h16
  go_enter Try.func19, Try.ntmps19
  go_wp2_with (first
    | (go_at_call 24; (with_reducible refine (RC.out _).mono ?_); rintro e w1 ⟨rfl, hb⟩; rw [hcc.out]; obtain ⟨c0, c1, c2, c3⟩ := F0.out.kept (grown_of hb) (by simp); have G1 := Lib.hid (G0.out.trans (grown_of hb)); have F1 := Lib.hid (F0.out.kept (grown_of hb) (by simp)); clear hb)
    | (refine append_vas rfl (.tmp 33) (.tmp 34) rfl w1.heap.size (.slice none 0 0) [] rfl (Lv.nil _ _) A N c w1.heap.size m rfl HA.out ((HL.out.new G1.out).rv HN.out) (by simp; omega) (Nat.le_refl _) ?_; intro A2 N2 k2 w2 hn2 hl2 hg2; have HN2 := Lib.hid hn2; have L2 := Lib.hid hl2; have hg2' : w1.grownBy w2 none := hg2; have G2 := Lib.hid (G1.out.trans hg2'); obtain ⟨c0, c1, c2, c3⟩ := F1.out.kept hg2' (by simp); have F2 := Lib.hid (F1.out.kept hg2' (by simp)); have S1 := Lib.hid (G1.out.size); have HS2 := Lib.hid (hg2'.size); have LT1 := Lib.hid (show w.heap.size < w1.heap.size from World.block_lt_of_cell? _ _ F1.out.1); have lt2 : w.heap.size < w2.heap.size := World.block_lt_of_cell? _ _ c0; clear hn2 hl2 hg2 hg2')
    | (refine append_vas rfl (.tmp 36) (.tmp 39) rfl w1.heap.size (.slice A2 N2 k2) ([] ++ m) rfl (L2.out.new (World.grownBy_alloc _ _ _)) (some ⟨w2.heap.size, 0, none⟩) 1 1 _ [(k, n)] rfl (fun e => by cases e) (Rv.one (by go_simp) (by go_simp)) (by have := H16.out; simp; omega) (by have := HS2.out; simp; omega) ?_; intro A3 N3 k3 w3 hn3 hl3 hg3; have HN3 := Lib.hid hn3; have L3 := Lib.hid hl3; have G3 := Lib.hid (Lv.grow (G2.out.trans (World.grownBy_alloc _ _ _)) (L2.out.new (World.grownBy_alloc _ _ _)) hg3 S1.out); obtain ⟨c0, c1, c2, c3⟩ := (F2.out.kept (World.grownBy_alloc _ _ none) (by simp)).kept hg3 (fun e => by have := L2.out.from_ _ e.symm; have := LT1.out; omega); clear hn3 hl3 hg3)
    | (go_at_call 15; (with_reducible refine (PY.out _ (H.out.new G3.out)).mono ?_); rintro e w4 ⟨rfl, hr, hg⟩; have R4 := Lib.hid hr; have L4 := Lib.hid (L3.out.kept hg (.inr (off_g L3.out (H.out.new G3.out)))); have G4 := Lib.hid (grown_then G3.out hg); clear hr hg))
  go_ret2
  exact ⟨A3, N3, k3, m ++ [(k, n)], rfl, HN3.out, R4.out, L4.out.mono (Nat.zero_le _), G4.out⟩
theorem step_pop_no {c : Nat} {A : Option Addr} (h : Rt w g []) (hl : Lv w 0 (.slice A 0 c) []) (i k n : Int) :
    Calls Try.prog 19 #[.pointer (some ⟨g, 0, none⟩), .slice A 0 c, .agg #[.int .i64 2, .int .i64 i, .int .i64 k, .int .i64 n]] w (StA g w) := by
  have PN := Lib.hid (fun W (hW : Rt W g []) => Pop_none hW)
  have G0 := Lib.hid (World.grownBy_alloc w (.cells #[.int .i64 2, .int .i64 i, .int .i64 k, .int .i64 n] 50) none)
  have H := Lib.hid h
  have HL := Lib.hid hl
  clear h hl
  go_enter Try.func19, Try.ntmps19
  go_wp2_with (go_at_call 12; (with_reducible refine (PN.out _ (H.out.new G0.out)).mono ?_); rintro e w2 ⟨rfl, hg⟩; have G2 := Lib.hid (G0.out.trans hg); clear hg)
  go_ret2
  have G3 := G2.out.trans (World.grownBy_alloc w2 (.cells #[.int .i64 0, .int .i64 0] 29) none)
  exact ⟨A, 0, c, [], rfl, rfl, H.out.new G3, HL.out.new G3, grown_then G3 (World.grownBy.refl _ _)⟩
theorem step_pop_yes {A : Option Addr} {N c : Nat} {x : Va} (h : Rt w g (m ++ [x])) (hl : Lv w 0 (.slice A N c) (m ++ [x])) (hN : N = (m ++ [x]).length) (i k n : Int) :
    Calls Try.prog 19 #[.pointer (some ⟨g, 0, none⟩), .slice A N c, .agg #[.int .i64 2, .int .i64 i, .int .i64 k, .int .i64 n]] w (StA g w) := by
  have PN := Lib.hid (fun W (hW : Rt W g (m ++ [x])) => Pop_yes hW)
  have G0 := Lib.hid (World.grownBy_alloc w (.cells #[.int .i64 2, .int .i64 i, .int .i64 k, .int .i64 n] 50) none)
  obtain ⟨p, hp⟩ : ∃ p, m.length = p := ⟨_, rfl⟩
  have hN' : N = p + 1 := by rw [hN]; simp [hp]
  have HP := Lib.hid hp
  have l16 : p + 1 ≤ 16 := by have := h.2; simp [hp] at this; omega
  have hsh : p + 1 ≤ c ∧ c ≤ maxLen := by
    obtain ⟨_, _, _, e, e2, h1, h2⟩ := hl.shape
    injection e with e3 e4 e5
    omega
  have HX := Lib.hid (show (m ++ [x]).getD p (0, 0) = x by rw [← hp]; simp)
  have HNN := Lib.hid hN
  subst hN'
  obtain ⟨b, o, rfl, d0, d1⟩ := (hl.rv hN).at_ (i := p) (by omega)
  rw [HX.out] at d0 d1
  obtain ⟨lc, lm⟩ := hsh
  unfold maxLen at lm
  have H := Lib.hid h
  have HL := Lib.hid hl
  obtain ⟨x1, x2⟩ := x
  have blt := World.block_lt_of_cell? _ _ d0
  have hbg : some b ≠ some g := by
    have := off_g hl h
    intro e
    injection e with e
    subst e
    rcases hl.2 with ⟨e, _⟩ | ⟨g', cap, cur, e, _⟩
    · cases e
    · injection e with e _ _
      injection e with e
      injection e with e1 e2 _
      subst e1 e2
      exact this rfl
  have HB := Lib.hid hbg
  dsimp only at d0 d1 blt
  clear h hl hp hN hbg
  go_enter Try.func19, Try.ntmps19
  go_wp2_with (go_at_call 12; (with_reducible refine (PN.out _ (H.out.new G0.out)).mono ?_); rintro e w2 ⟨rfl, hr, hg⟩; have R2 := Lib.hid hr; have G2 := Lib.hid (grown_then G0.out hg); have c0 := G2.out.cell d0 HB.out; have c1 := G2.out.cell d1 HB.out; have blt2 := World.block_lt_of_cell? _ _ c0; dsimp only at blt2; clear hr hg)
  go_quiet (fail)
  go_wp2
  go_ret2
  have hp := HP.out
  subst hp
  have lt := HL.out.take (j := m.length) HNN.out (by omega)
  rw [List.take_left' rfl] at lt
  have G3 := (World.grownBy_alloc w2 (.cells #[.int .i64 x1, .int .i64 x2] 29) none).trans (li.grown_drewN _ nq none)
  exact ⟨some ⟨b, o, none⟩, m.length, c, m, by simp, rfl, R2.out.new G3, lt.kept (grown_more G2.out G3) (.inr (off_g lt H.out)), grown_more G2.out G3⟩
theorem step_clear {A : Option Addr} {N c : Nat} (h : Rt w g m) (hl : Lv w 0 (.slice A N c) m) (i k n : Int) :
    Calls Try.prog 19 #[.pointer (some ⟨g, 0, none⟩), .slice A N c, .agg #[.int .i64 3, .int .i64 i, .int .i64 k, .int .i64 n]] w (StA g w) := by
  have PN := Lib.hid (fun W (hW : Rt W g m) => Clear_any hW)
  have G0 := Lib.hid (World.grownBy_alloc w (.cells #[.int .i64 3, .int .i64 i, .int .i64 k, .int .i64 n] 50) none)
  have F0 := Lib.hid (Four.new w 50 3 i k n)
  have H := Lib.hid h
  clear h hl
  go_enter Try.func19, Try.ntmps19
  go_wp2_with (go_at_call 11; (with_reducible refine (PN.out _ (H.out.new G0.out)).mono ?_); rintro e w2 ⟨rfl, hr, hg⟩; have R2 := Lib.hid hr; have G2 := Lib.hid (grown_then G0.out hg); clear hr hg)
  go_ret2
  exact ⟨none, 0, 0, [], rfl, rfl, R2.out, Lv.nil _ _, G2.out⟩
theorem step_get_out {A : Option Addr} {N c : Nat} (h : Rt w g m) (hl : Lv w 0 (.slice A N c) m) (hN : N = m.length) (o i k n : Int) (h1 : (o == 1) = false) (h2 : (o == 2) = false) (h3 : (o == 3) = false) (hi : i < 0 ∨ (N : Int) ≤ i) :
    Calls Try.prog 19 #[.pointer (some ⟨g, 0, none⟩), .slice A N c, .agg #[.int .i64 o, .int .i64 i, .int .i64 k, .int .i64 n]] w (StA g w) := by
  have PN := Lib.hid (fun W (hW : Rt W g m) => Get_out hW i (by rw [← hN]; exact hi))
  have G0 := Lib.hid (World.grownBy_alloc w (.cells #[.int .i64 o, .int .i64 i, .int .i64 k, .int .i64 n] 50) none)
  have F0 := Lib.hid (Four.new w 50 o i k n)
  have H := Lib.hid h
  have HL := Lib.hid hl
  have HN := Lib.hid hN
  clear h hl hN
  by_cases hlo : i < 0
  · clear hi
    go_enter Try.func19, Try.ntmps19
    go_wp2_with (go_at_call 13; (with_reducible refine (PN.out _ (H.out.new G0.out)).mono ?_); rintro e w2 ⟨rfl, hg⟩; have G2 := Lib.hid (G0.out.trans hg); obtain ⟨c0, c1, c2, c3⟩ := F0.out.kept hg (by simp); have lt2 : w.heap.size < w2.heap.size := World.block_lt_of_cell? _ _ c0; clear hg)
    go_ret2
    have G3 := G2.out.trans (World.grownBy_alloc w2 (.cells #[.int .i64 0, .int .i64 0] 29) none)
    exact ⟨A, N, c, m, rfl, HN.out, H.out.new G3, HL.out.new G3, grown_then G3 (World.grownBy.refl _ _)⟩
  · have hhi : (N : Int) ≤ i := by omega
    have hlo' : 0 ≤ i := by omega
    clear hi hlo
    go_enter Try.func19, Try.ntmps19
    go_wp2_with (go_at_call 13; (with_reducible refine (PN.out _ (H.out.new G0.out)).mono ?_); rintro e w2 ⟨rfl, hg⟩; have G2 := Lib.hid (G0.out.trans hg); obtain ⟨c0, c1, c2, c3⟩ := F0.out.kept hg (by simp); have lt2 : w.heap.size < w2.heap.size := World.block_lt_of_cell? _ _ c0; clear hg)
    go_ret2
    have G3 := G2.out.trans (World.grownBy_alloc w2 (.cells #[.int .i64 0, .int .i64 0] 29) none)
    exact ⟨A, N, c, m, rfl, HN.out, H.out.new G3, HL.out.new G3, grown_then G3 (World.grownBy.refl _ _)⟩
theorem step_get_in {A : Option Addr} {N c : Nat} (h : Rt w g m) (hl : Lv w 0 (.slice A N c) m) (hN : N = m.length) (o : Int) (p : Nat) (k n : Int) (h1 : (o == 1) = false) (h2 : (o == 2) = false) (h3 : (o == 3) = false) (hp : p < N) :
    Calls Try.prog 19 #[.pointer (some ⟨g, 0, none⟩), .slice A N c, .agg #[.int .i64 o, .int .i64 p, .int .i64 k, .int .i64 n]] w (StA g w) := by
  have PN := Lib.hid (fun W (hW : Rt W g m) => Get_in hW p (by omega) (by omega))
  simp only [Int.toNat_natCast] at PN
  have G0 := Lib.hid (World.grownBy_alloc w (.cells #[.int .i64 o, .int .i64 p, .int .i64 k, .int .i64 n] 50) none)
  have F0 := Lib.hid (Four.new w 50 o p k n)
  obtain ⟨b, q, rfl, d0, d1⟩ := (hl.rv hN).at_ hp
  generalize m.getD p (0, 0) = x at PN d0 d1
  obtain ⟨x1, x2⟩ := x
  have blt := World.block_lt_of_cell? _ _ d0
  have H := Lib.hid h
  have HL := Lib.hid hl
  have HN := Lib.hid hN
  have l16 : N ≤ 16 := by rw [hN]; exact h.2
  have l1 : (0 : Int) ≤ (p : Int) := by omega
  have l2 : (p : Int) < N := by omega
  dsimp only at d0 d1 blt
  clear h hl hN
  go_enter Try.func19, Try.ntmps19
  go_wp2_with (go_at_call 13; (with_reducible refine (PN.out _ (H.out.new G0.out)).mono ?_); rintro e w2 ⟨rfl, hg⟩; have G2 := Lib.hid (G0.out.trans hg); obtain ⟨c0, c1, c2, c3⟩ := F0.out.kept hg (by simp); have lt2 : w.heap.size < w2.heap.size := World.block_lt_of_cell? _ _ c0; have e0 := G2.out.cell d0 (by simp); have e1 := G2.out.cell d1 (by simp); have blt2 : b < w2.heap.size := World.block_lt_of_cell? _ _ e0; clear hg)
  go_quiet (fail)
  go_wp2
  go_ret2
  have G3 := G2.out.trans ((World.grownBy_alloc w2 (.cells #[.int .i64 x1, .int .i64 x2] 29) none).trans (li.grown_drewN _ nq none))
  exact ⟨some ⟨b, q, none⟩, N, c, m, by simp, HN.out, H.out.new G3, HL.out.new G3, grown_then G3 (World.grownBy.refl _ _)⟩
theorem step_any {A : Option Addr} {N c : Nat} (h : Rt w g m) (hl : Lv w 0 (.slice A N c) m) (hN : N = m.length) (o i k n : Int) :
    Calls Try.prog 19 #[.pointer (some ⟨g, 0, none⟩), .slice A N c, .agg #[.int .i64 o, .int .i64 i, .int .i64 k, .int .i64 n]] w (StA g w) := by
  by_cases h1 : o = 1
  · subst h1
    by_cases hc : chk k n ≠ 0 ∨ m.length = 16
    · exact step_push_no h hl hN i k n hc
    · exact step_push_yes h hl hN i k n (Classical.not_not.1 fun e => hc (.inl e)) (by have := h.2; rcases Nat.lt_or_ge m.length 16 with e | e; exact e; exact absurd (.inr (by omega)) hc)
  by_cases h2 : o = 2
  · subst h2
    rcases List.eq_nil_or_concat m with rfl | ⟨l, x, rfl⟩
    · subst hN
      exact step_pop_no h hl i k n
    · rw [List.concat_eq_append] at *
      exact step_pop_yes h hl hN i k n
  by_cases h3 : o = 3
  · subst h3
    exact step_clear h hl i k n
  by_cases hi : i < 0 ∨ (N : Int) ≤ i
  · exact step_get_out h hl hN o i k n (by simpa using h1) (by simpa using h2) (by simpa using h3) hi
  · obtain ⟨p, rfl⟩ : ∃ p : Nat, i = p := ⟨i.toNat, by omega⟩
    exact step_get_in h hl hN o p k n (by simpa using h1) (by simpa using h2) (by simpa using h3) (by omega)
end
end Go.Proofs.Ytpghghmmoihimaa.ro
