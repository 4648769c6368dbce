/- Texts that this claim stands on. -/
import Derived.Test.YtfhebjkoojodiaaDoorQGqN
namespace Go.Proofs.YtfhebjkoojodiaaDoor.gq
open Go.ChangeShapes Go.WideShapes Go.ChangeAt Go.RowKit gen va cd gp
set_option linter.unusedVariables false
set_option linter.unusedSimpArgs false
set_option maxHeartbeats 1000000
set_option maxRecDepth 100000
def Z5 (w : World) (B : Nat) : Prop := ∀ j, j < 5 → w.cell? ⟨B, j, none⟩ = some (.int .i64 0) ∧ w.frozen? ⟨B, j, none⟩ = false
theorem Z5.gr {w w' : World} {L : List Nat} {B : Nat} (h : Z5 w B) (hg : gr.Gr L w w') (hB : B < w.heap.size) (hL : B ∉ L) : Z5 w' B := fun j hj => ⟨hg.cell (h j hj).1 hL, hg.frozen (h j hj).2 hB hL⟩
theorem Z5.at_ {w : World} {B : Nat} (h : Z5 w B) : (w.cell? ⟨B, 0, none⟩ = some (.int .i64 0) ∧ w.cell? ⟨B, 1, none⟩ = some (.int .i64 0) ∧ w.cell? ⟨B, 2, none⟩ = some (.int .i64 0) ∧ w.cell? ⟨B, 3, none⟩ = some (.int .i64 0) ∧ w.cell? ⟨B, 4, none⟩ = some (.int .i64 0)) ∧ w.frozen? ⟨B, 0, none⟩ = false ∧ w.frozen? ⟨B, 1, none⟩ = false ∧ w.frozen? ⟨B, 2, none⟩ = false ∧ w.frozen? ⟨B, 3, none⟩ = false ∧ w.frozen? ⟨B, 4, none⟩ = false :=
  ⟨⟨(h 0 (by omega)).1, (h 1 (by omega)).1, (h 2 (by omega)).1, (h 3 (by omega)).1, (h 4 (by omega)).1⟩, (h 0 (by omega)).2, (h 1 (by omega)).2, (h 2 (by omega)).2, (h 3 (by omega)).2, (h 4 (by omega)).2⟩
theorem zero5 (w : World) (ty : TypeId) : Z5 (w.alloc (.cells #[.int .i64 0, .int .i64 0, .int .i64 0, .int .i64 0, .int .i64 0] ty)) w.heap.size := fun j hj => by
  have hj' : j = 0 ∨ j = 1 ∨ j = 2 ∨ j = 3 ∨ j = 4 := by omega
  rcases hj' with rfl | rfl | rfl | rfl | rfl <;> simp [go_sem]
section
variable {w w' : World} {K : List Nat} {g : Nat} {σ : Gs} {R tc : Nat} {A : Option Addr} {nc : Nat} {vs : Nat → Value} {bs : Nat → Nat} {k : Int}
theorem Pn.z5 {W w1 : World} {B : Nat} (h : Pn W K g σ R tc w1) (hz : Z5 W B) (hB2 : B < W.heap.size) (hB : B ∉ K) : Z5 w1 B := by
  obtain ⟨K', A, nc, vs, bs, p, q, r⟩ := h
  exact hz.gr q hB2 hB
theorem Pn.new {W w1 w2 : World} (h : Pn W K g σ R tc w1) (hg : w1.grownBy w2 none) : Pn W K g σ R tc w2 := by
  obtain ⟨K', A, nc, vs, bs, p, q, r⟩ := h
  exact ⟨K', A, nc, vs, bs, p.new hg, q.made hg, r⟩
theorem Do_e {σ' : Gs} (g : Option Addr) (go : Nat) {k t i f j c n no z : Int} (HK : ∀ q, q ∈ K → q < w.heap.size) (h0 : (z != 0) = true)
    (FE : ∀ W, w.grownBy W none → Calls Tryd.prog 24 #[.pointer g, .agg #[.int .i64 k, .int .i64 t, .int .i64 i, .int .i64 f, .int .i64 j, .int .i64 c, .int .i64 n], .int .i64 no] W fun e w' => ∃ v1 v2, e = .returned (.tuple #[.agg #[.int .i64 v1, .int .i64 v2], .int .i64 z]) ∧ Pn W K go σ' R tc w') :
    Calls Tryd.prog 11 #[.pointer g, .agg #[.int .i64 k, .int .i64 t, .int .i64 i, .int .i64 f, .int .i64 j, .int .i64 c, .int .i64 n], .int .i64 no] w fun e w' => e = Ac z 0 0 ∧ Pn w K go σ' R tc w' := by
  obtain ⟨w0, hw0⟩ : ∃ w0, w0 = (w.alloc (.cells #[.int .i64 k, .int .i64 t, .int .i64 i, .int .i64 f, .int .i64 j, .int .i64 c, .int .i64 n] 39)).alloc (.cells #[.int .i64 0, .int .i64 0, .int .i64 0, .int .i64 0, .int .i64 0] 36) := ⟨_, rfl⟩
  have G0 := Lib.hid (show w.grownBy w0 none by rw [hw0]; exact (grown_alloc _ _).trans (grown_alloc _ _))
  have z0 : w0.heap.size = w.heap.size + 2 := by rw [hw0]; simp
  have ZZ := Lib.hid (show Z5 w0 (w.heap.size + 1) by rw [hw0]; have := zero5 (w.alloc (.cells #[.int .i64 k, .int .i64 t, .int .i64 i, .int .i64 f, .int .i64 j, .int .i64 c, .int .i64 n] 39)) 36; simpa [Z5] using this)
  have FX := Lib.hid FE
  have HX := Lib.hid HK
  have nK : w.heap.size + 1 ∉ K := fun e => by have := HX.out _ e; omega
  have HW := Lib.hid hw0
  clear hw0 FE HK
  go_enter Tryd.func11, Tryd.ntmps11
  go_wp2_with (first
    | (rw [← HW.out]; go_at_call 24; (with_reducible refine (FX.out _ G0.out).mono ?_); rintro e w1 ⟨v1, v2, rfl, hP⟩; have P1 := Lib.hid (hP.new (grown_alloc w1 (.cells #[.int .i64 v1, .int .i64 v2] 57))); obtain ⟨⟨a0, a1, a2, a3, a4⟩, f0, f1, f2, f3, f4⟩ := (P1.out.z5 ZZ.out (by omega) nK).at_; clear hP))
  refine bodyPost_ret (v := .agg #[.int .i64 z, .int .i64 0, .int .i64 0, .int .i64 0, .int .i64 0]) (by simp [results, Tryd.results11, go_sem, a0, a1, a2, a3, a4]) rfl ⟨rfl, P1.out.fin G0.out (Nat.le_succ _) (by omega) HX.out (.one (gp.setA _ _ _ _ _ _ _) (by simp))⟩
theorem Do_y {σ' : Gs} (g : Option Addr) (go : Nat) {Q : Int → Int → Prop} {k t i f j c n no : Int} (HK : ∀ q, q ∈ K → q < w.heap.size)
    (FE : ∀ W, w.grownBy W none → Calls Tryd.prog 24 #[.pointer g, .agg #[.int .i64 k, .int .i64 t, .int .i64 i, .int .i64 f, .int .i64 j, .int .i64 c, .int .i64 n], .int .i64 no] W fun e w' => ∃ v1 v2, e = .returned (.tuple #[.agg #[.int .i64 v1, .int .i64 v2], .int .i64 0]) ∧ Q v1 v2 ∧ Pn W K go σ' R tc w') :
    Calls Tryd.prog 11 #[.pointer g, .agg #[.int .i64 k, .int .i64 t, .int .i64 i, .int .i64 f, .int .i64 j, .int .i64 c, .int .i64 n], .int .i64 no] w fun e w' => ∃ v1 v2, e = Ac 0 v1 v2 ∧ Q v1 v2 ∧ Pn w K go σ' R tc w' := by
  obtain ⟨w0, hw0⟩ : ∃ w0, w0 = (w.alloc (.cells #[.int .i64 k, .int .i64 t, .int .i64 i, .int .i64 f, .int .i64 j, .int .i64 c, .int .i64 n] 39)).alloc (.cells #[.int .i64 0, .int .i64 0, .int .i64 0, .int .i64 0, .int .i64 0] 36) := ⟨_, rfl⟩
  have G0 := Lib.hid (show w.grownBy w0 none by rw [hw0]; exact (grown_alloc _ _).trans (grown_alloc _ _))
  have z0 : w0.heap.size = w.heap.size + 2 := by rw [hw0]; simp
  have ZZ := Lib.hid (show Z5 w0 (w.heap.size + 1) by rw [hw0]; have := zero5 (w.alloc (.cells #[.int .i64 k, .int .i64 t, .int .i64 i, .int .i64 f, .int .i64 j, .int .i64 c, .int .i64 n] 39)) 36; simpa [Z5] using this)
  have FX := Lib.hid FE
  have HX := Lib.hid HK
  have nK : w.heap.size + 1 ∉ K := fun e => by have := HX.out _ e; omega
  have HW := Lib.hid hw0
  clear hw0 FE HK
  go_enter Tryd.func11, Tryd.ntmps11
  go_wp2_with (first
    | (rw [← HW.out]; go_at_call 24; (with_reducible refine (FX.out _ G0.out).mono ?_); rintro e w1 ⟨v1, v2, rfl, hq, hP⟩; have HQ := Lib.hid hq; have P1 := Lib.hid (hP.new (grown_alloc w1 (.cells #[.int .i64 v1, .int .i64 v2] 57))); obtain ⟨⟨a0, a1, a2, a3, a4⟩, f0, f1, f2, f3, f4⟩ := (P1.out.z5 ZZ.out (by omega) nK).at_; clear hP hq))
  refine bodyPost_ret (v := .agg #[.int .i64 0, .int .i64 v1, .int .i64 v2, .int .i64 0, .int .i64 0]) (by simp [results, Tryd.results11, go_sem, a0, a1, a2, a3, a4]) rfl ⟨v1, v2, rfl, HQ.out, P1.out.fin G0.out (Nat.le_succ _) (by omega) HX.out (.one (gp.setA _ _ _ _ _ _ _) (by simp))⟩
theorem st_e {k t i f j c n no z : Int} (hz : stz σ k t i f j c n no = z) (h0 : z ≠ 0) : (sta σ k t i f j c n no).1 = 0 ∧ (sta σ k t i f j c n no).2 = 0 ∧ stg σ k t i f j c n no = σ := by
  unfold sta stg
  rw [hz, if_pos h0, if_pos h0]
  exact ⟨rfl, rfl, rfl⟩
theorem st_y {k t i f j c n no : Int} (hz : stz σ k t i f j c n no = 0) : sta σ k t i f j c n no = an σ k t.toNat i.toNat f.toNat j.toNat n ∧ stg σ k t i f j c n no = ef σ k t.toNat i.toNat f.toNat j.toNat n := by
  unfold sta stg
  rw [hz, if_neg (by simp), if_neg (by simp)]
  exact ⟨rfl, rfl⟩
theorem Do_any (h : PwI w K g σ R tc A nc vs bs) (k t i f j c n no : Int) (hM : σ.M < 1000) : Calls Tryd.prog 11 #[.pointer (some ⟨g, 0, none⟩), .agg #[.int .i64 k, .int .i64 t, .int .i64 i, .int .i64 f, .int .i64 j, .int .i64 c, .int .i64 n], .int .i64 no] w
    fun e w' => e = Ac (stz σ k t i f j c n no) (sta σ k t i f j c n no).1 (sta σ k t i f j c n no).2 ∧ Pn w K g (stg σ k t i f j c n no) R tc w' := by
  have bad : ∀ z, stz σ k t i f j c n no = z → z ≠ 0 → (∀ W, w.grownBy W none → Calls Tryd.prog 24 #[.pointer (some ⟨g, 0, none⟩), .agg #[.int .i64 k, .int .i64 t, .int .i64 i, .int .i64 f, .int .i64 j, .int .i64 c, .int .i64 n], .int .i64 no] W fun e w' => ∃ v1 v2, e = .returned (.tuple #[.agg #[.int .i64 v1, .int .i64 v2], .int .i64 z]) ∧ Pn W K g σ R tc w') →
      Calls Tryd.prog 11 #[.pointer (some ⟨g, 0, none⟩), .agg #[.int .i64 k, .int .i64 t, .int .i64 i, .int .i64 f, .int .i64 j, .int .i64 c, .int .i64 n], .int .i64 no] w fun e w' => e = Ac (stz σ k t i f j c n no) (sta σ k t i f j c n no).1 (sta σ k t i f j c n no).2 ∧ Pn w K g (stg σ k t i f j c n no) R tc w' := fun z hz h0 FE => by
    obtain ⟨e1, e2, e3⟩ := st_e hz h0
    rw [hz, e1, e2, e3]
    exact Do_e (some ⟨g, 0, none⟩) g h.lt (by simpa using h0) FE
  have good : stz σ k t i f j c n no = 0 → (∀ W, w.grownBy W none → Calls Tryd.prog 24 #[.pointer (some ⟨g, 0, none⟩), .agg #[.int .i64 k, .int .i64 t, .int .i64 i, .int .i64 f, .int .i64 j, .int .i64 c, .int .i64 n], .int .i64 no] W fun e w' => ∃ v1 v2, e = .returned (.tuple #[.agg #[.int .i64 v1, .int .i64 v2], .int .i64 0]) ∧ (v1 = (an σ k t.toNat i.toNat f.toNat j.toNat n).1 ∧ v2 = (an σ k t.toNat i.toNat f.toNat j.toNat n).2) ∧ Pn W K g (ef σ k t.toNat i.toNat f.toNat j.toNat n) R tc w') →
      Calls Tryd.prog 11 #[.pointer (some ⟨g, 0, none⟩), .agg #[.int .i64 k, .int .i64 t, .int .i64 i, .int .i64 f, .int .i64 j, .int .i64 c, .int .i64 n], .int .i64 no] w fun e w' => e = Ac (stz σ k t i f j c n no) (sta σ k t i f j c n no).1 (sta σ k t i f j c n no).2 ∧ Pn w K g (stg σ k t i f j c n no) R tc w' := fun hz FE => by
    obtain ⟨e1, e2⟩ := st_y hz
    rw [hz, e1, e2]
    refine (Do_y (some ⟨g, 0, none⟩) g (Q := fun v1 v2 => v1 = (an σ k t.toNat i.toNat f.toNat j.toNat n).1 ∧ v2 = (an σ k t.toNat i.toNat f.toNat j.toNat n).2) h.lt FE).mono ?_
    rintro e w' ⟨v1, v2, rfl, ⟨rfl, rfl⟩, hP⟩
    exact ⟨rfl, hP⟩
  by_cases hc : chk k [k, t, i, f, j, c] n = 0
  · have ecz : codz σ k t i f j c n = cod σ k t.toNat i.toNat f.toNat j.toNat c n := by unfold codz; rw [if_neg (by simpa using hc)]
    obtain ⟨k1, k2, ⟨T, rfl, hT⟩, ⟨I, rfl, hI⟩, ⟨F, rfl, hF⟩, ⟨J, rfl, hJ⟩⟩ := fine_nat hc
    simp only [Int.toNat_natCast] at ecz good
    by_cases k16 : k = 16
    · subst k16
      cases hn : tk n with
      | false =>
        have c1 : n < 1 ∨ 64 < n := by unfold tk at hn; simp at hn; omega
        have hz : stz σ 16 T I F J c n no = 4 := by unfold stz; rw [ecz]; rcases c1 with c1 | c1 <;> simp [cod, wh, nbc, nb, gp.ask, c1]
        exact bad 4 hz (by omega) (fun W hg => (do_16 (h.new hg) (z := 4) hc (by rw [hn]; rfl)).mono (fun e w' q => ⟨0, 0, q.1, Pn.same (h.new hg) q.2⟩))
      | true =>
        have c1 : ¬ (n < 1) ∧ ¬ (64 < n) := by unfold tk at hn; simp at hn; omega
        have hz : stz σ 16 T I F J c n no = 0 := by unfold stz; rw [ecz]; simp [cod, wh, nbc, nb, gp.ask, c1]
        exact good hz (fun W hg => (do_16 (h.new hg) (z := 0) hc (by rw [hn]; rfl)).mono (fun e w' q => ⟨0, 0, q.1, ⟨rfl, rfl⟩, Pn.same (h.new hg) q.2⟩))
    · by_cases k17 : k = 17
      · subst k17
        have hz : stz σ 17 T I F J c n no = no := by unfold stz; rw [ecz]; simp [cod, wh, nbc, nb, gp.ask]
        by_cases h0 : no = 0
        · subst h0
          exact good hz (fun W hg => (do_17 (h.new hg) hc).mono (fun e w' q => ⟨0, 0, q.1, ⟨rfl, rfl⟩, Pn.same (h.new hg) q.2⟩))
        · exact bad no hz h0 (fun W hg => (do_17 (h.new hg) hc).mono (fun e w' q => ⟨0, 0, q.1, Pn.same (h.new hg) q.2⟩))
      · by_cases hw : wh σ k T = 0
        · have hz : stz σ k T I F J c n no = az σ k T I F J c n no := by unfold stz az; rw [ecz]
          by_cases h0 : az σ k T I F J c n no = 0
          · refine good (hz.trans h0) (fun W hg => (do_act (h.new hg) hT k1 (by omega) hc hw hM h0).mono ?_)
            rintro e w' ⟨v1, v2, q1, q2, q3⟩
            rw [if_pos rfl] at q3
            exact ⟨v1, v2, q1, q2 rfl, q3⟩
          · refine bad _ hz h0 (fun W hg => (do_act (h.new hg) hT k1 (by omega) hc hw hM rfl).mono ?_)
            rintro e w' ⟨v1, v2, q1, q2, q3⟩
            rw [if_neg h0] at q3
            exact ⟨v1, v2, q1, q3⟩
        · have hz : stz σ k T I F J c n no = wh σ k T := by unfold stz; rw [ecz]; unfold cod; rw [if_pos hw, if_pos hw]
          exact bad _ hz hw (fun W hg => (do_turn (h.new hg) rfl hT (by omega) hc rfl (by simpa using hw)).mono (fun e w' q => ⟨0, 0, q.1, Pn.same (h.new hg) q.2⟩))
  · have hz : stz σ k t i f j c n no = chk k [k, t, i, f, j, c] n := by unfold stz codz; rw [if_pos hc, if_pos hc]
    exact bad _ hz hc (fun W hg => (do_chk (h.new hg) rfl (by simpa using hc)).mono (fun e w' q => ⟨0, 0, q.1, Pn.same (h.new hg) q.2⟩))
end
end Go.Proofs.YtfhebjkoojodiaaDoor.gq
