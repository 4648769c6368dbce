/- Texts that this claim stands on. -/
import Derived.Test.YtfhebjkoojodiaaDoorPGqV
namespace Go.Proofs.YtfhebjkoojodiaaDoor.gq
open Go.ChangeShapes Go.WideShapes Go.ChangeAt Go.RowKit gen va cd gp
set_option linter.unusedVariables false
set_option linter.unusedSimpArgs false
set_option maxHeartbeats 2000000
set_option maxRecDepth 100000
def B5 (w : World) (B : Nat) (z v1 v2 : Int) : Prop := w.cell? ⟨B, 0, none⟩ = some (.int .i64 z) ∧ w.cell? ⟨B, 1, none⟩ = some (.int .i64 v1) ∧ w.cell? ⟨B, 2, none⟩ = some (.int .i64 v2) ∧ w.cell? ⟨B, 3, none⟩ = some (.int .i64 0) ∧ w.cell? ⟨B, 4, none⟩ = some (.int .i64 0)
theorem B5.gr {w w' : World} {L : List Nat} {B : Nat} {z v1 v2 : Int} (h : B5 w B z v1 v2) (hg : gr.Gr L w w') (hB : B ∉ L) : B5 w' B z v1 v2 := ⟨hg.cell h.1 hB, hg.cell h.2.1 hB, hg.cell h.2.2.1 hB, hg.cell h.2.2.2.1 hB, hg.cell h.2.2.2.2 hB⟩
theorem B5.new {w w' : World} {B : Nat} {z v1 v2 : Int} (h : B5 w B z v1 v2) (hg : w.grownBy w' none) : B5 w' B z v1 v2 := h.gr (L := []) (.new hg) (by simp)
theorem B5.made (w : World) (ty : TypeId) (z v1 v2 : Int) : B5 (w.alloc (.cells #[.int .i64 z, .int .i64 v1, .int .i64 v2, .int .i64 0, .int .i64 0] ty)) w.heap.size z v1 v2 := by
  refine ⟨?_, ?_, ?_, ?_, ?_⟩ <;> simp [go_sem]
def σ1 : Gs := stg (g0 4 4) 1 0 0 0 0 0 0 0
def σ2 : Gs := stg σ1 3 0 0 0 0 1 3 0
theorem d1 : stz (g0 4 4) 1 0 0 0 0 0 0 0 = 0 ∧ sta (g0 4 4) 1 0 0 0 0 0 0 0 = (0, 0) := by decide +kernel
theorem d2 : stz σ1 3 0 0 0 0 1 3 0 = 0 ∧ sta σ1 3 0 0 0 0 1 3 0 = (2, 1) := by decide +kernel
theorem d3 : stz σ2 3 0 0 0 0 1 3 10 = 10 ∧ sta σ2 3 0 0 0 0 1 3 10 = (0, 0) := by decide +kernel
theorem d4 : stg σ2 3 0 0 0 0 1 3 10 = σ2 := (st_e d3.1 (by decide)).2.2
theorem d5 : σ2.M = 2 ∧ σ2.N = 4 ∧ σ1.M = 1 ∧ σ1.N = 4 ∧ σ2.hd 0 = [(2, 1)] ∧ lvs σ2 4 = [0] := by decide +kernel
theorem vns2 : (vns σ2).length = 2 := by
  have h : ∀ n, n < σ2.M → ((fun _ => true : Nat → Bool) n = true ↔ Rch σ2 n) := fun n hn => by
    rw [d5.1] at hn
    refine ⟨fun _ => ?_, fun _ => rfl⟩
    have hn' : n = 0 ∨ n = 1 := by omega
    rcases hn' with rfl | rfl
    · exact Rch.zero
    · exact Rch.held 0 (by rw [d5.2.1]; omega) (2, 1) (by rw [d5.2.2.2.2.1]; simp) rfl
  rw [← nds_vns h, d5.1]
  rfl
theorem Do_as {w : World} {K : List Nat} {g : Nat} {σ σ' : Gs} {R tc : Nat} {A : Option Addr} {nc : Nat} {vs : Nat → Value} {bs : Nat → Nat} (h : PwI w K g σ R tc A nc vs bs) {k t i f j c n no z v1 v2 : Int} (hM : σ.M < 1000) (hz : stz σ k t i f j c n no = z ∧ sta σ k t i f j c n no = (v1, v2)) (hs : stg σ k t i f j c n no = σ') :
    Calls Tryd.prog 11 #[.pointer (some ⟨g, 0, none⟩), .agg #[.int .i64 k, .int .i64 t, .int .i64 i, .int .i64 f, .int .i64 j, .int .i64 c, .int .i64 n], .int .i64 no] w fun e w' => e = .returned (.agg #[.int .i64 z, .int .i64 v1, .int .i64 v2, .int .i64 0, .int .i64 0]) ∧ Pn w K g σ' R tc w' := by
  have := Do_any h k t i f j c n no hM
  rw [hz.1, hz.2, hs] at this
  exact this
theorem View_2 {w : World} {K : List Nat} {g : Nat} {R tc : Nat} {A : Option Addr} {nc : Nat} {vs : Nat → Value} {bs : Nat → Nat} (h : PwI w K g σ2 R tc A nc vs bs) : Calls Tryd.prog 15 #[.pointer (some ⟨g, 0, none⟩)] w
    fun e w' => ∃ b off c1 A2 c2 C c, e = .returned (.agg #[.slice (some ⟨b, off, none⟩) 4 c1, .slice A2 2 c2]) ∧ w'.cell? ⟨b, off, none⟩ = some (.slice C 1 c) ∧ w.grownBy w' none := by
  refine (View_any h).mono ?_
  rintro e w' ⟨A1, c1, A2, c2, rfl, h1, h2, hg⟩
  have v := h1.vr (rts_length _ _).symm
  obtain ⟨b, off, C, k, c, rfl, _, e1, e2, _⟩ := v.2 0 (by rw [d5.2.1]; omega)
  have e3 := e2.1
  have e4 : (rts σ2 σ2.N).getD 0 [] = [(2, 1)] := by decide +kernel
  rw [e4] at e3
  have e5 : k = 1 := e3.symm
  subst e5
  exact ⟨b, off, c1, A2, c2, C, c, by rw [d5.2.1, vns2], e1, hg⟩
theorem Live_2 {w : World} {K : List Nat} {g : Nat} {R tc : Nat} {A : Option Addr} {nc : Nat} {vs : Nat → Value} {bs : Nat → Nat} (h : PwI w K g σ2 R tc A nc vs bs) : Calls Tryd.prog 19 #[.pointer (some ⟨g, 0, none⟩)] w
    fun e w' => ∃ A c, e = .returned (.slice A 1 c) ∧ Rd w' w'.heap.size A 1 c [0] ∧ w.grownBy w' none := by
  refine (Live_any h).mono ?_
  rintro e w' ⟨A, n, c, rfl, hn, hr, hg⟩
  have e1 : lvs σ2 σ2.N = [0] := by rw [d5.2.1]; exact d5.2.2.2.2.2
  rw [e1] at hn hr
  subst hn
  exact ⟨A, c, rfl, hr, hg⟩
theorem Made_2 {w : World} {K : List Nat} {g : Nat} {R tc : Nat} {A : Option Addr} {nc : Nat} {vs : Nat → Value} {bs : Nat → Nat} (h : PwI w K g σ2 R tc A nc vs bs) : Calls Tryd.prog 17 #[.pointer (some ⟨g, 0, none⟩)] w fun e w' => e = .returned (.int .i64 2) ∧ w = w' := by
  have := Made_yes h
  rw [d5.1] at this
  exact this
theorem Rd.grow_ {w w' : World} {A : Option Addr} {n c B : Nat} {L : List Int} (h : Rd w B A n c L) (hg : w.grownBy w' none) : Rd w' B A n c L := by
  exact ⟨h.1, h.2.1, fun ad e i hi => ⟨(h.2.2 ad e i hi).1, hg.cell (h.2.2 ad e i hi).2 (by simp)⟩⟩
theorem drew_grown {w w' : World} (h : li.Drew w w') : w.grownBy w' none := by
  obtain ⟨n, rfl⟩ := h
  exact li.grown_drewN _ _ _
def Sg (w : World) (g : Nat) (σ : Gs) (Bs : List Nat) (W : World) : Prop := ∃ K R tc A nc vs bs, PwI W K g σ R tc A nc vs bs ∧ (∀ k, k ∈ K → w.heap.size ≤ k) ∧ w.grownBy W none ∧ ∀ B, B ∈ Bs → B ∉ K ∧ B < W.heap.size
theorem Sg.start {w w1 w2 : World} {K : List Nat} {g : Nat} {σ : Gs} {R tc : Nat} {A : Option Addr} {nc : Nat} {vs : Nat → Value} {bs : Nat → Nat} (h1 : w.grownBy w1 none) (hp : PwI w2 K g σ R tc A nc vs bs) (hk : ∀ k, k ∈ K → w1.heap.size ≤ k) (hg : w1.grownBy w2 none) : Sg w g σ [] w2 :=
  ⟨K, R, tc, A, nc, vs, bs, hp, fun k h => Nat.le_trans h1.size (hk k h), h1.trans hg, fun B hB => (by cases hB)⟩
theorem Sg.new {w W W' : World} {g : Nat} {σ : Gs} {Bs : List Nat} (h : Sg w g σ Bs W) (hg : W.grownBy W' none) : Sg w g σ Bs W' := by
  obtain ⟨K, R, tc, A, nc, vs, bs, p, k, q, b⟩ := h
  exact ⟨K, R, tc, A, nc, vs, bs, p.new hg, k, q.trans hg, fun B hB => ⟨(b B hB).1, Nat.lt_of_lt_of_le (b B hB).2 hg.size⟩⟩
theorem Sg.box {w W : World} {g : Nat} {σ : Gs} {Bs : List Nat} (h : Sg w g σ Bs W) (o : Obj) : Sg w g σ (W.heap.size :: Bs) (W.alloc o) := by
  obtain ⟨K, R, tc, A, nc, vs, bs, p, k, q, b⟩ := h
  refine ⟨K, R, tc, A, nc, vs, bs, p.new (grown_alloc W o), k, q.trans (grown_alloc W o), fun B hB => ?_⟩
  rcases List.mem_cons.1 hB with rfl | hB
  · exact ⟨fun hm => by have := p.lt _ hm; omega, by simp⟩
  · exact ⟨(b B hB).1, by have := (b B hB).2; simp; omega⟩
theorem Sg.do_ {w W : World} {g : Nat} {σ σ' : Gs} {Bs : List Nat} (h : Sg w g σ Bs W) {k t i f j c n no z v1 v2 : Int} (hM : σ.M < 1000) (hz : stz σ k t i f j c n no = z ∧ sta σ k t i f j c n no = (v1, v2)) (hs : stg σ k t i f j c n no = σ') :
    Calls Tryd.prog 11 #[.pointer (some ⟨g, 0, none⟩), .agg #[.int .i64 k, .int .i64 t, .int .i64 i, .int .i64 f, .int .i64 j, .int .i64 c, .int .i64 n], .int .i64 no] W fun e w' => e = .returned (.agg #[.int .i64 z, .int .i64 v1, .int .i64 v2, .int .i64 0, .int .i64 0]) ∧ Sg w g σ' Bs w' ∧ ∃ L, gr.Gr L W w' ∧ ∀ B, B ∈ Bs → B ∉ L := by
  obtain ⟨K, R, tc, A, nc, vs, bs, p, kk, q, b⟩ := h
  refine (Do_as p hM hz hs).mono ?_
  rintro e w' ⟨rfl, K', A', nc', vs', bs', p', g', k'⟩
  have qs := q.size
  refine ⟨rfl, ⟨K', R, tc, A', nc', vs', bs', p', fun x hx => ?_, g'.grown q kk, fun B hB => ⟨fun hm => ?_, Nat.lt_of_lt_of_le (b B hB).2 g'.size⟩⟩, K, g', fun B hB => (b B hB).1⟩
  · rcases k' x hx with e | e
    · exact kk x e
    · omega
  · rcases k' B hm with e | e
    · exact (b B hB).1 e
    · have := (b B hB).2; omega
theorem View_2s {w W : World} {g : Nat} {Bs : List Nat} (h : Sg w g σ2 Bs W) : Calls Tryd.prog 15 #[.pointer (some ⟨g, 0, none⟩)] W
    fun e w' => ∃ b off c1 A2 c2 C c, e = .returned (.agg #[.slice (some ⟨b, off, none⟩) 4 c1, .slice A2 2 c2]) ∧ w'.cell? ⟨b, off, none⟩ = some (.slice C 1 c) ∧ Sg w g σ2 Bs w' ∧ W.grownBy w' none := by
  obtain ⟨K, R, tc, A, nc, vs, bs, p, _⟩ := id h
  refine (View_2 p).mono ?_
  rintro e w' ⟨b, off, c1, A2, c2, C, c, h1, h2, hg⟩
  exact ⟨b, off, c1, A2, c2, C, c, h1, h2, h.new hg, hg⟩
theorem Live_2s {w W : World} {g : Nat} {Bs : List Nat} (h : Sg w g σ2 Bs W) : Calls Tryd.prog 19 #[.pointer (some ⟨g, 0, none⟩)] W
    fun e w' => ∃ A c, e = .returned (.slice A 1 c) ∧ Rd w' w'.heap.size A 1 c [0] ∧ W.grownBy w' none := by
  obtain ⟨K, R, tc, A, nc, vs, bs, p, _⟩ := h
  exact Live_2 p
theorem Made_2s {w W : World} {g : Nat} {Bs : List Nat} (h : Sg w g σ2 Bs W) : Calls Tryd.prog 17 #[.pointer (some ⟨g, 0, none⟩)] W fun e w' => e = .returned (.int .i64 2) ∧ W = w' := by
  obtain ⟨K, R, tc, A, nc, vs, bs, p, _⟩ := h
  exact Made_2 p
theorem wrong_usual : cf.wrongN [16, ((4 : Nat) : Int), 20, 4, 700, 100, 4, 4, 16, 4] = 0 := by decide +kernel
theorem wrong_zero2 : cf.wrongN [0, 0, 0, 0, 0, 0, 0, 0, 0, 0] = 1 := by decide +kernel
theorem alive_any {w : World} (hT : cf.Table w) : Calls Tryd.prog 6 #[] w fun e w' => e = .returned (.bool true) ∧ w.grownBy w' none := by
  have NY := Lib.hid (fun W (hg : w.grownBy W none) => (show Calls Tryd.prog 7 #[.agg #[.int .i64 16, .int .i64 4, .int .i64 20, .int .i64 4, .int .i64 700, .int .i64 100, .int .i64 4, .int .i64 4, .int .i64 16, .int .i64 4]] W _ from New_yes 16 20 4 700 100 4 4 16 4 (w := W) 4 (tab_new hT hg) wrong_usual (by omega) (by omega) (by omega) (by omega)))
  have NN := Lib.hid (fun W (hg : w.grownBy W none) => New_no 0 0 0 0 0 0 0 0 0 (w := W) 0 (n := 1) rfl (tab_new hT hg) wrong_zero2)
  clear hT
  go_enter Tryd.func6, Tryd.ntmps6
  go_wp2_with (first
    | (go_at_call 20; (with_reducible refine (cf.usual_any _).mono ?_); rintro e w1 ⟨rfl, hb⟩; have G1 := Lib.hid (of_below hb); clear hb)
    | (go_at_call 7; (first
        | (with_reducible refine (NY.out _ G1.out).mono ?_; rintro e w2 ⟨g, K, R, A, nc, vs, bs, rfl, hp, hk, hg⟩; have G2 := Lib.hid (G1.out.trans hg); have P2 := Lib.hid (Sg.start G1.out hp hk hg); clear hp hk hg)
        | (with_reducible refine (NN.out _ G2.out).mono ?_; rintro e w3 ⟨rfl, hg⟩; have P3 := Lib.hid (P2.out.new hg); clear hg)))
    | (go_at_call 11; (first
        | (with_reducible refine (P3.out.do_ (σ' := σ1) (by decide) d1 rfl).mono ?_; rintro e w4 ⟨rfl, hP, -⟩; have P4 := Lib.hid (hP.box (.cells #[.int .i64 0, .int .i64 0, .int .i64 0, .int .i64 0, .int .i64 0] 36)); have X4 := Lib.hid (B5.made w4 36 0 0 0); clear hP)
        | (with_reducible refine (P4.out.do_ (σ' := σ2) (by decide) d2 rfl).mono ?_; rintro e w5 ⟨rfl, hP, L, hL, hB⟩; have P5 := Lib.hid (hP.box (.cells #[.int .i64 0, .int .i64 2, .int .i64 1, .int .i64 0, .int .i64 0] 36)); have X5 := Lib.hid ((X4.out.gr hL (hB _ (by simp))).new (grown_alloc w5 (.cells #[.int .i64 0, .int .i64 2, .int .i64 1, .int .i64 0, .int .i64 0] 36))); have Y5 := Lib.hid (B5.made w5 36 0 2 1); clear hP hL hB)
        | (with_reducible refine (P5.out.do_ (σ' := σ2) (by decide) d3 d4).mono ?_; rintro e w6 ⟨rfl, hP, L, hL, hB⟩; have P6 := Lib.hid (hP.box (.cells #[.int .i64 10, .int .i64 0, .int .i64 0, .int .i64 0, .int .i64 0] 36)); have X6 := Lib.hid ((X5.out.gr hL (hB _ (by simp))).new (grown_alloc w6 (.cells #[.int .i64 10, .int .i64 0, .int .i64 0, .int .i64 0, .int .i64 0] 36))); have Y6 := Lib.hid ((Y5.out.gr hL (hB _ (by simp))).new (grown_alloc w6 (.cells #[.int .i64 10, .int .i64 0, .int .i64 0, .int .i64 0, .int .i64 0] 36))); have Z6 := Lib.hid (B5.made w6 36 10 0 0); clear hP hL hB)))
    | (go_at_call 15; (with_reducible refine (View_2s P6.out).mono ?_); rintro e w7 ⟨b, off, c1, A2, c2, C, c, rfl, hc, hP, hg⟩; have PH := Lib.hid hP; have GB := Lib.hid (hg.trans (grown_alloc w7 (.cells #[.slice (some ⟨b, off, none⟩) 4 c1, .slice A2 2 c2] 45))); have P7 := Lib.hid (hP.new (grown_alloc w7 (.cells #[.slice (some ⟨b, off, none⟩) 4 c1, .slice A2 2 c2] 45))); obtain ⟨x0, x1, x2, x3, x4⟩ := X6.out.new GB.out; obtain ⟨y0, y1, y2, y3, y4⟩ := Y6.out.new GB.out; obtain ⟨z0, z1, z2, z3, z4⟩ := Z6.out.new GB.out; have c0 := (grown_alloc w7 (.cells #[.slice (some ⟨b, off, none⟩) 4 c1, .slice A2 2 c2] 45)).cell hc (by simp); clear hc hP hg)
    | (go_at_call 17; (with_reducible refine (Made_2s P7.out).mono ?_); rintro e w8 ⟨rfl, hw⟩; subst hw)
    | (go_at_call 19; (with_reducible refine (Live_2s P7.out).mono ?_); rintro e w9 ⟨AL, cL, rfl, hr, hg⟩; have RL := Lib.hid hr; have P9 := Lib.hid (P7.out.new hg); clear hr hg)
    | (go_at_call 21; (with_reducible refine (li.Ints_true [0] _ _ 1 1 _ _ _ _ _ (by omega) rfl (Rd.grow_ RL.out (grown_alloc w9 (.cells #[.int .i64 0] 3))) (li.Rd.one w9 0 3)).mono ?_); rintro e w10 ⟨rfl, hd⟩; have GD := Lib.hid hd; clear hd))
  go_ret
  obtain ⟨K, R, tc, A, nc, vs, bs, p, k, q, b⟩ := P9.out
  exact ⟨rfl, (q.trans (grown_alloc _ _)).trans (drew_grown GD.out)⟩
end Go.Proofs.YtfhebjkoojodiaaDoor.gq
