/- Texts that this claim stands on. -/
import Derived.Test.YtfhebjkoojodiaaDoorPGpH
namespace Go.Proofs.YtfhebjkoojodiaaDoor.gp
open Go.ChangeShapes Go.WideShapes Go.ChangeAt Go.RowKit gen va cd
set_option linter.unusedVariables false
set_option maxHeartbeats 1000000
set_option maxRecDepth 100000
section
variable {w w' : World} {K K' : List Nat} {g : Nat} {cf : Nat → Int} {σ : Gs} {R : Nat} {A : Option Addr} {nc : Nat} {vs : Nat → Value} {bs : Nat → Nat}
theorem GwI.tset (h : GwI w K g cf σ R A nc vs bs) {t : Nat} (ht : t < σ.N) (b : Bool) :
    GwI ((w.setCell ⟨R, t * 2, none⟩ (.bool b)).setCell ⟨R, t * 2 + 1, none⟩ (.slice none 0 0)) K g cf { σ with lv := upd σ.lv t b, hd := upd σ.hd t [] } R A nc (upd vs t (.slice none 0 0)) bs := by
  obtain ⟨cr, r1, r2⟩ := h.row
  have e3 := heap_setCell_same w R (t * 2) _ _ (.bool b) r1
  have e4 := heap_setCell_same _ R (t * 2 + 1) _ _ (.slice none 0 0) e3
  have GS : gr.Gr [R] w ((w.setCell ⟨R, t * 2, none⟩ (.bool b)).setCell ⟨R, t * 2 + 1, none⟩ (.slice none 0 0)) := .one ((gr.grown_set _ _ _ _).trans (gr.grown_set _ _ _ _)) (by simp)
  have ok : Gs.Ok { σ with lv := upd σ.lv t b, hd := upd σ.hd t [] } := by
    have q := h.ok
    refine ⟨q.n, q.n0, q.q1, q.q2, q.m0, q.m, fun s => ?_, q.nl, fun s v hs => ?_, q.nr, fun s hs => ?_⟩
    · show (upd σ.hd t [] s).length ≤ 16
      by_cases e : s = t
      · subst e; rw [upd_same]; simp
      · rw [upd_else _ _ e]; exact q.hl s
    · have hs' : v ∈ upd σ.hd t [] s := hs
      by_cases e : s = t
      · subst e; rw [upd_same] at hs'; cases hs'
      · rw [upd_else _ _ e] at hs'; exact q.hr s v hs'
    · have hs' : upd σ.lv t b s = false := hs
      show upd σ.hd t [] s = []
      by_cases e : s = t
      · subst e; rw [upd_same]
      · rw [upd_else _ _ e] at hs' ⊢; exact q.dead s hs'
  refine h.thread GS ht (b := b) (B := none) (n := 0) (k := 0) (m := []) (K' := K) ⟨_, e4, fun s hs => ?_⟩ (Rv.nil _ _) (fun _ => ⟨rfl, rfl⟩) (fun ad e => by cases e) (fun q hq => hq) (fun q hq => by have := h.lt q hq; simpa using this) ok
  obtain ⟨q1, q2⟩ := r2 s hs
  by_cases e : s = t
  · subst e
    rw [upd_same, upd_same]
    refine ⟨?_, ?_⟩
    · rw [Array.getElem?_setIfInBounds_ne (by omega), Array.getElem?_setIfInBounds_self_of_lt (Array.getElem?_eq_some_iff.1 q1).1]
    · rw [Array.getElem?_setIfInBounds_self_of_lt (by simpa using (Array.getElem?_eq_some_iff.1 q2).1)]
  · rw [upd_else _ _ e, upd_else _ _ e]
    refine ⟨?_, ?_⟩
    · rw [Array.getElem?_setIfInBounds_ne (by omega), Array.getElem?_setIfInBounds_ne (by omega)]; exact q1
    · rw [Array.getElem?_setIfInBounds_ne (by omega), Array.getElem?_setIfInBounds_ne (by omega)]; exact q2
end
def Aw (v1 v2 : Int) : Ending := .returned (.agg #[.int .i64 0, .int .i64 v1, .int .i64 v2, .int .i64 0, .int .i64 0])
section
variable {w : World} {K : List Nat} {g : Nat} {cf : Nat → Int} {σ : Gs}
theorem Do_1 (h : Gw w K g cf σ) (t : Nat) (i f j c n : Int) (ht : t < σ.N) : Calls Tryd.prog 26 #[.pointer (some ⟨g, 0, none⟩), .agg #[.int .i64 1, .int .i64 (t : Int), .int .i64 i, .int .i64 f, .int .i64 j, .int .i64 c, .int .i64 n]] w
    fun e w' => e = Aw 0 0 ∧ Gans w K g cf { σ with lv := upd σ.lv t true, hd := upd σ.hd t [] } w' := by
  obtain ⟨R, A, nc, vs, bs, h⟩ := h
  have G0 := Lib.hid ((grown_alloc w (.cells #[.int .i64 1, .int .i64 (t : Int), .int .i64 i, .int .i64 f, .int .i64 j, .int .i64 c, .int .i64 n] 39)).trans (grown_alloc _ (.cells #[.int .i64 0, .int .i64 0, .int .i64 0, .int .i64 0, .int .i64 0] 36)))
  obtain ⟨s0, s1, s2, s3, s4, s5, s6⟩ := (Sv.new w 39 1 t i f j c n).made (grown_alloc _ (.cells #[.int .i64 0, .int .i64 0, .int .i64 0, .int .i64 0, .int .i64 0] 36))
  have h1 := h.new G0.out
  have x10 := h1.c10
  have t0 := h1.t0 ht
  have t1 := h1.t1 ht
  have f0 := h1.freeR (t * 2)
  have f1 := h1.freeR (t * 2 + 1)
  have hN := h.ok.n
  have i1 : (0 : Int) ≤ (t : Int) := by omega
  have i2 : (t : Int) < (σ.N : Int) := by omega
  have rl := h.lt R h.kR
  have n1 : ¬ (R = w.heap.size) := by omega
  have n2 : ¬ (w.heap.size = R) := by omega
  have n3 : ¬ (R = w.heap.size + 1) := by omega
  have n4 : ¬ (w.heap.size + 1 = R) := by omega
  have u0 := h.t0 ht
  have u1 := h.t1 ht
  have g0 := h.freeR (t * 2)
  have g1 := h.freeR (t * 2 + 1)
  have TS := Lib.hid (h.tset ht true)
  have LT := Lib.hid h.lt
  have KR := Lib.hid h.kR
  clear h h1 s1
  obtain ⟨-, s1, -, -, -, -, -⟩ := (Sv.new w 39 1 t i f j c n).made (grown_alloc _ (.cells #[.int .i64 0, .int .i64 0, .int .i64 0, .int .i64 0, .int .i64 0] 36))
  go_enter Tryd.func26, Tryd.ntmps26
  go_wp2
  go_region
  go_wp2
  refine bodyPost_ret (v := .agg #[.int .i64 0, .int .i64 0, .int .i64 0, .int .i64 0, .int .i64 0]) (by simp [results, Tryd.results26, go_sem]) rfl ⟨rfl, ?_⟩
  exact ⟨K, ⟨R, A, nc, _, bs, TS.out.new (((grown_alloc _ _).trans (grown_alloc _ _)).trans (gr.grown_drew _ _))⟩, (gr.Gr.one ((gr.grown_set _ _ _ _).trans (gr.grown_set _ _ _ _)) KR.out).made (((grown_alloc _ _).trans (grown_alloc _ _)).trans (gr.grown_drew _ _)), fun q hq => .inl hq⟩
theorem Do_2 (h : Gw w K g cf σ) (t : Nat) (i f j c n : Int) (ht : t < σ.N) : Calls Tryd.prog 26 #[.pointer (some ⟨g, 0, none⟩), .agg #[.int .i64 2, .int .i64 (t : Int), .int .i64 i, .int .i64 f, .int .i64 j, .int .i64 c, .int .i64 n]] w
    fun e w' => e = Aw 0 0 ∧ Gans w K g cf { σ with lv := upd σ.lv t false, hd := upd σ.hd t [] } w' := by
  obtain ⟨R, A, nc, vs, bs, h⟩ := h
  have G0 := Lib.hid ((grown_alloc w (.cells #[.int .i64 2, .int .i64 (t : Int), .int .i64 i, .int .i64 f, .int .i64 j, .int .i64 c, .int .i64 n] 39)).trans (grown_alloc _ (.cells #[.int .i64 0, .int .i64 0, .int .i64 0, .int .i64 0, .int .i64 0] 36)))
  obtain ⟨s0, s1, s2, s3, s4, s5, s6⟩ := (Sv.new w 39 2 t i f j c n).made (grown_alloc _ (.cells #[.int .i64 0, .int .i64 0, .int .i64 0, .int .i64 0, .int .i64 0] 36))
  have h1 := h.new G0.out
  have x10 := h1.c10
  have t0 := h1.t0 ht
  have t1 := h1.t1 ht
  have f0 := h1.freeR (t * 2)
  have f1 := h1.freeR (t * 2 + 1)
  have hN := h.ok.n
  have i1 : (0 : Int) ≤ (t : Int) := by omega
  have i2 : (t : Int) < (σ.N : Int) := by omega
  have rl := h.lt R h.kR
  have n1 : ¬ (R = w.heap.size) := by omega
  have n2 : ¬ (w.heap.size = R) := by omega
  have n3 : ¬ (R = w.heap.size + 1) := by omega
  have n4 : ¬ (w.heap.size + 1 = R) := by omega
  have u0 := h.t0 ht
  have u1 := h.t1 ht
  have g0 := h.freeR (t * 2)
  have g1 := h.freeR (t * 2 + 1)
  have TS := Lib.hid (h.tset ht false)
  have LT := Lib.hid h.lt
  have KR := Lib.hid h.kR
  clear h h1 s1
  obtain ⟨-, s1, -, -, -, -, -⟩ := (Sv.new w 39 2 t i f j c n).made (grown_alloc _ (.cells #[.int .i64 0, .int .i64 0, .int .i64 0, .int .i64 0, .int .i64 0] 36))
  go_enter Tryd.func26, Tryd.ntmps26
  go_wp2
  go_region
  go_wp2
  refine bodyPost_ret (v := .agg #[.int .i64 0, .int .i64 0, .int .i64 0, .int .i64 0, .int .i64 0]) (by simp [results, Tryd.results26, go_sem]) rfl ⟨rfl, ?_⟩
  exact ⟨K, ⟨R, A, nc, _, bs, TS.out.new (((grown_alloc _ _).trans (grown_alloc _ _)).trans (gr.grown_drew _ _))⟩, (gr.Gr.one ((gr.grown_set _ _ _ _).trans (gr.grown_set _ _ _ _)) KR.out).made (((grown_alloc _ _).trans (grown_alloc _ _)).trans (gr.grown_drew _ _)), fun q hq => .inl hq⟩
theorem Do_13 (h : Gw w K g cf σ) (t : Int) (i f j c n : Int)  : Calls Tryd.prog 26 #[.pointer (some ⟨g, 0, none⟩), .agg #[.int .i64 13, .int .i64 t, .int .i64 i, .int .i64 f, .int .i64 j, .int .i64 c, .int .i64 n]] w
    fun e w' => e = Aw 0 0 ∧ Gans w K g cf σ w' := by
  have G0 := Lib.hid ((grown_alloc w (.cells #[.int .i64 13, .int .i64 t, .int .i64 i, .int .i64 f, .int .i64 j, .int .i64 c, .int .i64 n] 39)).trans (grown_alloc _ (.cells #[.int .i64 0, .int .i64 0, .int .i64 0, .int .i64 0, .int .i64 0] 36)))
  obtain ⟨s0, s1, s2, s3, s4, s5, s6⟩ := (Sv.new w 39 13 t i f j c n).made (grown_alloc _ (.cells #[.int .i64 0, .int .i64 0, .int .i64 0, .int .i64 0, .int .i64 0] 36))
  have H := Lib.hid h
  clear h
  go_enter Tryd.func26, Tryd.ntmps26
  go_wp2
  refine bodyPost_ret (v := .agg #[.int .i64 0, .int .i64 0, .int .i64 0, .int .i64 0, .int .i64 0]) (by simp [results, Tryd.results26, go_sem]) rfl ⟨rfl, K, H.out.new G0.out, .new G0.out, fun q hq => .inl hq⟩
theorem Do_14 (h : Gw w K g cf σ) (t : Int) (i f j c n : Int)  : Calls Tryd.prog 26 #[.pointer (some ⟨g, 0, none⟩), .agg #[.int .i64 14, .int .i64 t, .int .i64 i, .int .i64 f, .int .i64 j, .int .i64 c, .int .i64 n]] w
    fun e w' => e = Aw 0 0 ∧ Gans w K g cf σ w' := by
  have G0 := Lib.hid ((grown_alloc w (.cells #[.int .i64 14, .int .i64 t, .int .i64 i, .int .i64 f, .int .i64 j, .int .i64 c, .int .i64 n] 39)).trans (grown_alloc _ (.cells #[.int .i64 0, .int .i64 0, .int .i64 0, .int .i64 0, .int .i64 0] 36)))
  obtain ⟨s0, s1, s2, s3, s4, s5, s6⟩ := (Sv.new w 39 14 t i f j c n).made (grown_alloc _ (.cells #[.int .i64 0, .int .i64 0, .int .i64 0, .int .i64 0, .int .i64 0] 36))
  have H := Lib.hid h
  clear h
  go_enter Tryd.func26, Tryd.ntmps26
  go_wp2
  refine bodyPost_ret (v := .agg #[.int .i64 0, .int .i64 0, .int .i64 0, .int .i64 0, .int .i64 0]) (by simp [results, Tryd.results26, go_sem]) rfl ⟨rfl, K, H.out.new G0.out, .new G0.out, fun q hq => .inl hq⟩
theorem Do_15 (h : Gw w K g cf σ) (t : Int) (i f j c n : Int)  : Calls Tryd.prog 26 #[.pointer (some ⟨g, 0, none⟩), .agg #[.int .i64 15, .int .i64 t, .int .i64 i, .int .i64 f, .int .i64 j, .int .i64 c, .int .i64 n]] w
    fun e w' => e = Aw 0 0 ∧ Gans w K g cf σ w' := by
  have G0 := Lib.hid ((grown_alloc w (.cells #[.int .i64 15, .int .i64 t, .int .i64 i, .int .i64 f, .int .i64 j, .int .i64 c, .int .i64 n] 39)).trans (grown_alloc _ (.cells #[.int .i64 0, .int .i64 0, .int .i64 0, .int .i64 0, .int .i64 0] 36)))
  obtain ⟨s0, s1, s2, s3, s4, s5, s6⟩ := (Sv.new w 39 15 t i f j c n).made (grown_alloc _ (.cells #[.int .i64 0, .int .i64 0, .int .i64 0, .int .i64 0, .int .i64 0] 36))
  have H := Lib.hid h
  clear h
  go_enter Tryd.func26, Tryd.ntmps26
  go_wp2
  refine bodyPost_ret (v := .agg #[.int .i64 0, .int .i64 0, .int .i64 0, .int .i64 0, .int .i64 0]) (by simp [results, Tryd.results26, go_sem]) rfl ⟨rfl, K, H.out.new G0.out, .new G0.out, fun q hq => .inl hq⟩
theorem Do_16 (h : Gw w K g cf σ) (t : Int) (i f j c n : Int)  : Calls Tryd.prog 26 #[.pointer (some ⟨g, 0, none⟩), .agg #[.int .i64 16, .int .i64 t, .int .i64 i, .int .i64 f, .int .i64 j, .int .i64 c, .int .i64 n]] w
    fun e w' => e = Aw 0 0 ∧ Gans w K g cf σ w' := by
  have G0 := Lib.hid ((grown_alloc w (.cells #[.int .i64 16, .int .i64 t, .int .i64 i, .int .i64 f, .int .i64 j, .int .i64 c, .int .i64 n] 39)).trans (grown_alloc _ (.cells #[.int .i64 0, .int .i64 0, .int .i64 0, .int .i64 0, .int .i64 0] 36)))
  obtain ⟨s0, s1, s2, s3, s4, s5, s6⟩ := (Sv.new w 39 16 t i f j c n).made (grown_alloc _ (.cells #[.int .i64 0, .int .i64 0, .int .i64 0, .int .i64 0, .int .i64 0] 36))
  have H := Lib.hid h
  clear h
  go_enter Tryd.func26, Tryd.ntmps26
  go_wp2
  refine bodyPost_ret (v := .agg #[.int .i64 0, .int .i64 0, .int .i64 0, .int .i64 0, .int .i64 0]) (by simp [results, Tryd.results26, go_sem]) rfl ⟨rfl, K, H.out.new G0.out, .new G0.out, fun q hq => .inl hq⟩
theorem Do_17 (h : Gw w K g cf σ) (t : Int) (i f j c n : Int)  : Calls Tryd.prog 26 #[.pointer (some ⟨g, 0, none⟩), .agg #[.int .i64 17, .int .i64 t, .int .i64 i, .int .i64 f, .int .i64 j, .int .i64 c, .int .i64 n]] w
    fun e w' => e = Aw 0 0 ∧ Gans w K g cf σ w' := by
  have G0 := Lib.hid ((grown_alloc w (.cells #[.int .i64 17, .int .i64 t, .int .i64 i, .int .i64 f, .int .i64 j, .int .i64 c, .int .i64 n] 39)).trans (grown_alloc _ (.cells #[.int .i64 0, .int .i64 0, .int .i64 0, .int .i64 0, .int .i64 0] 36)))
  obtain ⟨s0, s1, s2, s3, s4, s5, s6⟩ := (Sv.new w 39 17 t i f j c n).made (grown_alloc _ (.cells #[.int .i64 0, .int .i64 0, .int .i64 0, .int .i64 0, .int .i64 0] 36))
  have H := Lib.hid h
  clear h
  go_enter Tryd.func26, Tryd.ntmps26
  go_wp2
  refine bodyPost_ret (v := .agg #[.int .i64 0, .int .i64 0, .int .i64 0, .int .i64 0, .int .i64 0]) (by simp [results, Tryd.results26, go_sem]) rfl ⟨rfl, K, H.out.new G0.out, .new G0.out, fun q hq => .inl hq⟩
end
end Go.Proofs.YtfhebjkoojodiaaDoor.gp
