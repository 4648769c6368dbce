/- Texts that this claim stands on. -/
import Derived.Test.YtfhebjkoojodiaaDoorPGqJ
namespace Go.Proofs.YtfhebjkoojodiaaDoor.gq
open Go.ChangeShapes Go.WideShapes Go.ChangeAt Go.RowKit gen va cd gp
set_option linter.unusedVariables false
set_option linter.unusedSimpArgs false
set_option maxHeartbeats 1000000
set_option maxRecDepth 100000
section
variable {w : World} {K : List Nat} {g : Nat} {σ : Gs} {R tc : Nat} {A : Option Addr} {nc : Nat} {vs : Nat → Value} {bs : Nat → Nat}
theorem Pn.same {w' : World} (h : PwI w K g σ R tc A nc vs bs) (hg : w.grownBy w' none) : Pn w K g σ R tc w' := ⟨K, A, nc, vs, bs, h.new hg, .new hg, fun k hk => .inl hk⟩
theorem Pn.from_ {W w' : World} (h : Pn W K g σ R tc w') (hg : w.grownBy W none) : Pn w K g σ R tc w' := by
  obtain ⟨K', A, nc, vs, bs, p, q, r⟩ := h
  exact ⟨K', A, nc, vs, bs, p, (gr.Gr.new hg).trans q, fun k hk => (r k hk).imp id (fun e => by have := hg.size; omega)⟩
theorem Pn.fin {W w1 w2 : World} {B : Nat} (h : Pn W K g σ R tc w1) (hW : w.grownBy W none) (hB : w.heap.size ≤ B) (hB2 : B < W.heap.size) (hK : ∀ k, k ∈ K → k < w.heap.size) (hg : gr.Gr [B] w1 w2) : Pn w K g σ R tc w2 := by
  obtain ⟨K', A, nc, vs, bs, p, q, r⟩ := h
  have N : ∀ k, k ∈ K' → k ∉ [B] := fun k hk hm => by
    rw [List.mem_singleton] at hm
    rcases r k hk with e | e
    · have := hK k e; omega
    · omega
  exact ⟨K', A, nc, vs, bs, p.gr hg N, ((gr.Gr.new hW).trans q).own hg (fun x hx => .inr (by rw [List.mem_singleton] at hx; omega)), fun k hk => (r k hk).imp id (fun e => by have := hW.size; omega)⟩
theorem Pn.z2 {W w1 : World} {B : Nat} (h : Pn W K g σ R tc w1) (hz : Z2 W B) (hB2 : B < W.heap.size) (hB : B ∉ K) : Z2 w1 B := by
  obtain ⟨K', A, nc, vs, bs, p, q, r⟩ := h
  exact hz.gr q hB2 hB
theorem Pn.cell {W w1 : World} {p : Addr} {v : Value} (h : Pn W K g σ R tc w1) (hz : W.cell? p = some v) (hB : p.block ∉ K) : w1.cell? p = some v := by
  obtain ⟨K', A, nc, vs, bs, p, q, r⟩ := h
  exact q.cell hz hB
theorem Pn.tset {w' : World} (h : PwI w K g σ R tc A nc vs bs) {t : Nat} (ht : t < σ.N) {m : List Va} {b : Bool} (hs : Tset w R (t * 34) m b w') (hm : m.length ≤ 16) (hv : ∀ v, v ∈ m → v.1 = 2 → 0 ≤ v.2 ∧ v.2 < σ.M) (hl : b = false → m = []) : Pn w K g { σ with lv := upd σ.lv t b, hd := upd σ.hd t m } R tc w' :=
  ⟨K, A, nc, vs, bs, h.tset ht hs hm hv hl, hs.1.mono (fun k hk => by rw [List.mem_singleton] at hk; rw [hk]; exact h.kR), fun k hk => .inl hk⟩
theorem Pn.held {w' : World} (h : PwI w K g σ R tc A nc vs bs) {t : Nat} (ht : t < σ.N) {m : List Va} (live : σ.lv t = true) (hs : Tset w R (t * 34) m (σ.lv t) w') (hm : m.length ≤ 16) (hv : ∀ v, v ∈ m → v.1 = 2 → 0 ≤ v.2 ∧ v.2 < σ.M) : Pn w K g { σ with hd := upd σ.hd t m } R tc w' := by
  have := Pn.tset h ht hs hm hv (fun e => by rw [live] at e; cases e)
  rw [upd_self rfl] at this
  exact this
theorem act_3 (h : PwI w K g σ R tc A nc vs bs) (o : Nat) (t' i f j c n no : Int) {σ' : Gs} {x1 x2 z : Int} (FE : ∀ W, w.grownBy W none → Calls Tryd.prog 53 #[.pointer (some ⟨g, 0, none⟩), .pointer (some ⟨R, o, none⟩), .agg #[.int .i64 3, .int .i64 t', .int .i64 i, .int .i64 f, .int .i64 j, .int .i64 c, .int .i64 n], .int .i64 no] W fun e w' => e = .returned (.tuple #[.agg #[.int .i64 x1, .int .i64 x2], .int .i64 z]) ∧ Pn W K g σ' R tc w') :
    Calls Tryd.prog 40 #[.pointer (some ⟨g, 0, none⟩), .pointer (some ⟨R, o, none⟩), .agg #[.int .i64 3, .int .i64 t', .int .i64 i, .int .i64 f, .int .i64 j, .int .i64 c, .int .i64 n], .int .i64 no] w fun e w' => e = .returned (.tuple #[.agg #[.int .i64 x1, .int .i64 x2], .int .i64 z]) ∧ Pn w K g σ' R tc w' := by
  obtain ⟨w0, hw0⟩ : ∃ w0, w0 = (w.alloc (.cells #[.int .i64 3, .int .i64 t', .int .i64 i, .int .i64 f, .int .i64 j, .int .i64 c, .int .i64 n] 39)).alloc (.cells #[.int .i64 0, .int .i64 0] 57) := ⟨_, rfl⟩
  have B0 := Lib.hid (show Bx w 3 t' i f j c n w0 by rw [hw0]; exact Bx.start _ _ _ _ _ _ _ _)
  have HW := Lib.hid hw0
  clear hw0
  have HK := Lib.hid h.lt
  have FX := Lib.hid FE
  clear h FE
  have sz0 := B0.out.sz
  have nK : w.heap.size + 1 ∉ K := fun e => by have := HK.out _ e; omega
  go_enter Tryd.func40, Tryd.ntmps40
  go_wp2_with (first
    | (rw [← HW.out]; go_at_call 53; (with_reducible refine (FX.out _ B0.out.grow).mono ?_); rintro e w1 ⟨rfl, hP⟩; have P1 := Lib.hid (hP.from_ (World.grownBy.refl _ _)); obtain ⟨a0, a1, f0, f1⟩ := (hP.z2 B0.out.zz (by omega) nK).at_; clear hP))
  refine bodyPost_ret (v := .tuple #[.agg #[.int .i64 x1, .int .i64 x2], .int .i64 z]) (by simp [results, Tryd.results40, go_sem, a0, a1]) rfl ⟨rfl, P1.out.fin B0.out.grow (Nat.le_succ _) (by omega) HK.out (.one (gp.set2 _ _ _ _) (by simp))⟩
theorem act_4 (h : PwI w K g σ R tc A nc vs bs) (o : Nat) (t' i f j c n no : Int) {σ' : Gs} {x1 x2 z : Int} (FE : ∀ W, w.grownBy W none → Calls Tryd.prog 54 #[.pointer (some ⟨g, 0, none⟩), .pointer (some ⟨R, o, none⟩), .agg #[.int .i64 4, .int .i64 t', .int .i64 i, .int .i64 f, .int .i64 j, .int .i64 c, .int .i64 n]] W fun e w' => e = .returned (.tuple #[.agg #[.int .i64 x1, .int .i64 x2], .int .i64 z]) ∧ Pn W K g σ' R tc w') :
    Calls Tryd.prog 40 #[.pointer (some ⟨g, 0, none⟩), .pointer (some ⟨R, o, none⟩), .agg #[.int .i64 4, .int .i64 t', .int .i64 i, .int .i64 f, .int .i64 j, .int .i64 c, .int .i64 n], .int .i64 no] w fun e w' => e = .returned (.tuple #[.agg #[.int .i64 x1, .int .i64 x2], .int .i64 z]) ∧ Pn w K g σ' R tc w' := by
  obtain ⟨w0, hw0⟩ : ∃ w0, w0 = (w.alloc (.cells #[.int .i64 4, .int .i64 t', .int .i64 i, .int .i64 f, .int .i64 j, .int .i64 c, .int .i64 n] 39)).alloc (.cells #[.int .i64 0, .int .i64 0] 57) := ⟨_, rfl⟩
  have B0 := Lib.hid (show Bx w 4 t' i f j c n w0 by rw [hw0]; exact Bx.start _ _ _ _ _ _ _ _)
  have HW := Lib.hid hw0
  clear hw0
  have HK := Lib.hid h.lt
  have FX := Lib.hid FE
  clear h FE
  have sz0 := B0.out.sz
  have nK : w.heap.size + 1 ∉ K := fun e => by have := HK.out _ e; omega
  go_enter Tryd.func40, Tryd.ntmps40
  go_wp2_with (first
    | (rw [← HW.out]; go_at_call 54; (with_reducible refine (FX.out _ B0.out.grow).mono ?_); rintro e w1 ⟨rfl, hP⟩; have P1 := Lib.hid (hP.from_ (World.grownBy.refl _ _)); obtain ⟨a0, a1, f0, f1⟩ := (hP.z2 B0.out.zz (by omega) nK).at_; clear hP))
  refine bodyPost_ret (v := .tuple #[.agg #[.int .i64 x1, .int .i64 x2], .int .i64 z]) (by simp [results, Tryd.results40, go_sem, a0, a1]) rfl ⟨rfl, P1.out.fin B0.out.grow (Nat.le_succ _) (by omega) HK.out (.one (gp.set2 _ _ _ _) (by simp))⟩
theorem act_5 (h : PwI w K g σ R tc A nc vs bs) (o : Nat) (t' i f j c n no : Int) {σ' : Gs} {x1 x2 z : Int} (FE : ∀ W, w.grownBy W none → Calls Tryd.prog 54 #[.pointer (some ⟨g, 0, none⟩), .pointer (some ⟨R, o, none⟩), .agg #[.int .i64 5, .int .i64 t', .int .i64 i, .int .i64 f, .int .i64 j, .int .i64 c, .int .i64 n]] W fun e w' => e = .returned (.tuple #[.agg #[.int .i64 x1, .int .i64 x2], .int .i64 z]) ∧ Pn W K g σ' R tc w') :
    Calls Tryd.prog 40 #[.pointer (some ⟨g, 0, none⟩), .pointer (some ⟨R, o, none⟩), .agg #[.int .i64 5, .int .i64 t', .int .i64 i, .int .i64 f, .int .i64 j, .int .i64 c, .int .i64 n], .int .i64 no] w fun e w' => e = .returned (.tuple #[.agg #[.int .i64 x1, .int .i64 x2], .int .i64 z]) ∧ Pn w K g σ' R tc w' := by
  obtain ⟨w0, hw0⟩ : ∃ w0, w0 = (w.alloc (.cells #[.int .i64 5, .int .i64 t', .int .i64 i, .int .i64 f, .int .i64 j, .int .i64 c, .int .i64 n] 39)).alloc (.cells #[.int .i64 0, .int .i64 0] 57) := ⟨_, rfl⟩
  have B0 := Lib.hid (show Bx w 5 t' i f j c n w0 by rw [hw0]; exact Bx.start _ _ _ _ _ _ _ _)
  have HW := Lib.hid hw0
  clear hw0
  have HK := Lib.hid h.lt
  have FX := Lib.hid FE
  clear h FE
  have sz0 := B0.out.sz
  have nK : w.heap.size + 1 ∉ K := fun e => by have := HK.out _ e; omega
  go_enter Tryd.func40, Tryd.ntmps40
  go_wp2_with (first
    | (rw [← HW.out]; go_at_call 54; (with_reducible refine (FX.out _ B0.out.grow).mono ?_); rintro e w1 ⟨rfl, hP⟩; have P1 := Lib.hid (hP.from_ (World.grownBy.refl _ _)); obtain ⟨a0, a1, f0, f1⟩ := (hP.z2 B0.out.zz (by omega) nK).at_; clear hP))
  refine bodyPost_ret (v := .tuple #[.agg #[.int .i64 x1, .int .i64 x2], .int .i64 z]) (by simp [results, Tryd.results40, go_sem, a0, a1]) rfl ⟨rfl, P1.out.fin B0.out.grow (Nat.le_succ _) (by omega) HK.out (.one (gp.set2 _ _ _ _) (by simp))⟩
theorem act_6 (h : PwI w K g σ R tc A nc vs bs) (o : Nat) (t' i f j c n no : Int) {σ' : Gs} {x1 x2 z : Int} (FE : ∀ W, w.grownBy W none → Calls Tryd.prog 54 #[.pointer (some ⟨g, 0, none⟩), .pointer (some ⟨R, o, none⟩), .agg #[.int .i64 6, .int .i64 t', .int .i64 i, .int .i64 f, .int .i64 j, .int .i64 c, .int .i64 n]] W fun e w' => e = .returned (.tuple #[.agg #[.int .i64 x1, .int .i64 x2], .int .i64 z]) ∧ Pn W K g σ' R tc w') :
    Calls Tryd.prog 40 #[.pointer (some ⟨g, 0, none⟩), .pointer (some ⟨R, o, none⟩), .agg #[.int .i64 6, .int .i64 t', .int .i64 i, .int .i64 f, .int .i64 j, .int .i64 c, .int .i64 n], .int .i64 no] w fun e w' => e = .returned (.tuple #[.agg #[.int .i64 x1, .int .i64 x2], .int .i64 z]) ∧ Pn w K g σ' R tc w' := by
  obtain ⟨w0, hw0⟩ : ∃ w0, w0 = (w.alloc (.cells #[.int .i64 6, .int .i64 t', .int .i64 i, .int .i64 f, .int .i64 j, .int .i64 c, .int .i64 n] 39)).alloc (.cells #[.int .i64 0, .int .i64 0] 57) := ⟨_, rfl⟩
  have B0 := Lib.hid (show Bx w 6 t' i f j c n w0 by rw [hw0]; exact Bx.start _ _ _ _ _ _ _ _)
  have HW := Lib.hid hw0
  clear hw0
  have HK := Lib.hid h.lt
  have FX := Lib.hid FE
  clear h FE
  have sz0 := B0.out.sz
  have nK : w.heap.size + 1 ∉ K := fun e => by have := HK.out _ e; omega
  go_enter Tryd.func40, Tryd.ntmps40
  go_wp2_with (first
    | (rw [← HW.out]; go_at_call 54; (with_reducible refine (FX.out _ B0.out.grow).mono ?_); rintro e w1 ⟨rfl, hP⟩; have P1 := Lib.hid (hP.from_ (World.grownBy.refl _ _)); obtain ⟨a0, a1, f0, f1⟩ := (hP.z2 B0.out.zz (by omega) nK).at_; clear hP))
  refine bodyPost_ret (v := .tuple #[.agg #[.int .i64 x1, .int .i64 x2], .int .i64 z]) (by simp [results, Tryd.results40, go_sem, a0, a1]) rfl ⟨rfl, P1.out.fin B0.out.grow (Nat.le_succ _) (by omega) HK.out (.one (gp.set2 _ _ _ _) (by simp))⟩
theorem act_7 (h : PwI w K g σ R tc A nc vs bs) (o : Nat) (t' i f j c n no : Int) {σ' : Gs} {x1 x2 z : Int} (FE : ∀ W, w.grownBy W none → Calls Tryd.prog 54 #[.pointer (some ⟨g, 0, none⟩), .pointer (some ⟨R, o, none⟩), .agg #[.int .i64 7, .int .i64 t', .int .i64 i, .int .i64 f, .int .i64 j, .int .i64 c, .int .i64 n]] W fun e w' => e = .returned (.tuple #[.agg #[.int .i64 x1, .int .i64 x2], .int .i64 z]) ∧ Pn W K g σ' R tc w') :
    Calls Tryd.prog 40 #[.pointer (some ⟨g, 0, none⟩), .pointer (some ⟨R, o, none⟩), .agg #[.int .i64 7, .int .i64 t', .int .i64 i, .int .i64 f, .int .i64 j, .int .i64 c, .int .i64 n], .int .i64 no] w fun e w' => e = .returned (.tuple #[.agg #[.int .i64 x1, .int .i64 x2], .int .i64 z]) ∧ Pn w K g σ' R tc w' := by
  obtain ⟨w0, hw0⟩ : ∃ w0, w0 = (w.alloc (.cells #[.int .i64 7, .int .i64 t', .int .i64 i, .int .i64 f, .int .i64 j, .int .i64 c, .int .i64 n] 39)).alloc (.cells #[.int .i64 0, .int .i64 0] 57) := ⟨_, rfl⟩
  have B0 := Lib.hid (show Bx w 7 t' i f j c n w0 by rw [hw0]; exact Bx.start _ _ _ _ _ _ _ _)
  have HW := Lib.hid hw0
  clear hw0
  have HK := Lib.hid h.lt
  have FX := Lib.hid FE
  clear h FE
  have sz0 := B0.out.sz
  have nK : w.heap.size + 1 ∉ K := fun e => by have := HK.out _ e; omega
  go_enter Tryd.func40, Tryd.ntmps40
  go_wp2_with (first
    | (rw [← HW.out]; go_at_call 54; (with_reducible refine (FX.out _ B0.out.grow).mono ?_); rintro e w1 ⟨rfl, hP⟩; have P1 := Lib.hid (hP.from_ (World.grownBy.refl _ _)); obtain ⟨a0, a1, f0, f1⟩ := (hP.z2 B0.out.zz (by omega) nK).at_; clear hP))
  refine bodyPost_ret (v := .tuple #[.agg #[.int .i64 x1, .int .i64 x2], .int .i64 z]) (by simp [results, Tryd.results40, go_sem, a0, a1]) rfl ⟨rfl, P1.out.fin B0.out.grow (Nat.le_succ _) (by omega) HK.out (.one (gp.set2 _ _ _ _) (by simp))⟩
theorem act_9 (h : PwI w K g σ R tc A nc vs bs) (o : Nat) (t' i f j c n no : Int) {σ' : Gs} {x1 x2 z : Int} (FE : ∀ W, w.grownBy W none → Calls Tryd.prog 54 #[.pointer (some ⟨g, 0, none⟩), .pointer (some ⟨R, o, none⟩), .agg #[.int .i64 9, .int .i64 t', .int .i64 i, .int .i64 f, .int .i64 j, .int .i64 c, .int .i64 n]] W fun e w' => e = .returned (.tuple #[.agg #[.int .i64 x1, .int .i64 x2], .int .i64 z]) ∧ Pn W K g σ' R tc w') :
    Calls Tryd.prog 40 #[.pointer (some ⟨g, 0, none⟩), .pointer (some ⟨R, o, none⟩), .agg #[.int .i64 9, .int .i64 t', .int .i64 i, .int .i64 f, .int .i64 j, .int .i64 c, .int .i64 n], .int .i64 no] w fun e w' => e = .returned (.tuple #[.agg #[.int .i64 x1, .int .i64 x2], .int .i64 z]) ∧ Pn w K g σ' R tc w' := by
  obtain ⟨w0, hw0⟩ : ∃ w0, w0 = (w.alloc (.cells #[.int .i64 9, .int .i64 t', .int .i64 i, .int .i64 f, .int .i64 j, .int .i64 c, .int .i64 n] 39)).alloc (.cells #[.int .i64 0, .int .i64 0] 57) := ⟨_, rfl⟩
  have B0 := Lib.hid (show Bx w 9 t' i f j c n w0 by rw [hw0]; exact Bx.start _ _ _ _ _ _ _ _)
  have HW := Lib.hid hw0
  clear hw0
  have HK := Lib.hid h.lt
  have FX := Lib.hid FE
  clear h FE
  have sz0 := B0.out.sz
  have nK : w.heap.size + 1 ∉ K := fun e => by have := HK.out _ e; omega
  go_enter Tryd.func40, Tryd.ntmps40
  go_wp2_with (first
    | (rw [← HW.out]; go_at_call 54; (with_reducible refine (FX.out _ B0.out.grow).mono ?_); rintro e w1 ⟨rfl, hP⟩; have P1 := Lib.hid (hP.from_ (World.grownBy.refl _ _)); obtain ⟨a0, a1, f0, f1⟩ := (hP.z2 B0.out.zz (by omega) nK).at_; clear hP))
  refine bodyPost_ret (v := .tuple #[.agg #[.int .i64 x1, .int .i64 x2], .int .i64 z]) (by simp [results, Tryd.results40, go_sem, a0, a1]) rfl ⟨rfl, P1.out.fin B0.out.grow (Nat.le_succ _) (by omega) HK.out (.one (gp.set2 _ _ _ _) (by simp))⟩
theorem act_8 (h : PwI w K g σ R tc A nc vs bs) (o : Nat) (t' i f j c n no : Int) {σ' : Gs} {x1 x2 z : Int} (FE : ∀ W, w.grownBy W none → Calls Tryd.prog 55 #[.pointer (some ⟨R, o, none⟩)] W fun e w' => e = .returned (.tuple #[.agg #[.int .i64 x1, .int .i64 x2], .int .i64 z]) ∧ Pn W K g σ' R tc w') :
    Calls Tryd.prog 40 #[.pointer (some ⟨g, 0, none⟩), .pointer (some ⟨R, o, none⟩), .agg #[.int .i64 8, .int .i64 t', .int .i64 i, .int .i64 f, .int .i64 j, .int .i64 c, .int .i64 n], .int .i64 no] w fun e w' => e = .returned (.tuple #[.agg #[.int .i64 x1, .int .i64 x2], .int .i64 z]) ∧ Pn w K g σ' R tc w' := by
  obtain ⟨w0, hw0⟩ : ∃ w0, w0 = (w.alloc (.cells #[.int .i64 8, .int .i64 t', .int .i64 i, .int .i64 f, .int .i64 j, .int .i64 c, .int .i64 n] 39)).alloc (.cells #[.int .i64 0, .int .i64 0] 57) := ⟨_, rfl⟩
  have B0 := Lib.hid (show Bx w 8 t' i f j c n w0 by rw [hw0]; exact Bx.start _ _ _ _ _ _ _ _)
  have HW := Lib.hid hw0
  clear hw0
  have HK := Lib.hid h.lt
  have FX := Lib.hid FE
  clear h FE
  have sz0 := B0.out.sz
  have nK : w.heap.size + 1 ∉ K := fun e => by have := HK.out _ e; omega
  go_enter Tryd.func40, Tryd.ntmps40
  go_wp2_with (first
    | (rw [← HW.out]; go_at_call 55; (with_reducible refine (FX.out _ B0.out.grow).mono ?_); rintro e w1 ⟨rfl, hP⟩; have P1 := Lib.hid (hP.from_ (World.grownBy.refl _ _)); obtain ⟨a0, a1, f0, f1⟩ := (hP.z2 B0.out.zz (by omega) nK).at_; clear hP))
  refine bodyPost_ret (v := .tuple #[.agg #[.int .i64 x1, .int .i64 x2], .int .i64 z]) (by simp [results, Tryd.results40, go_sem, a0, a1]) rfl ⟨rfl, P1.out.fin B0.out.grow (Nat.le_succ _) (by omega) HK.out (.one (gp.set2 _ _ _ _) (by simp))⟩
theorem act_10 (h : PwI w K g σ R tc A nc vs bs) (o : Nat) (t' i f j c n no : Int) {σ' : Gs} {x1 x2 z : Int} (FE : ∀ W, w.grownBy W none → Calls Tryd.prog 56 #[.pointer (some ⟨g, 0, none⟩), .pointer (some ⟨R, o, none⟩), .agg #[.int .i64 10, .int .i64 t', .int .i64 i, .int .i64 f, .int .i64 j, .int .i64 c, .int .i64 n]] W fun e w' => e = .returned (.int .i64 z) ∧ Pn W K g σ' R tc w') :
    Calls Tryd.prog 40 #[.pointer (some ⟨g, 0, none⟩), .pointer (some ⟨R, o, none⟩), .agg #[.int .i64 10, .int .i64 t', .int .i64 i, .int .i64 f, .int .i64 j, .int .i64 c, .int .i64 n], .int .i64 no] w fun e w' => e = .returned (.tuple #[.agg #[.int .i64 0, .int .i64 0], .int .i64 z]) ∧ Pn w K g σ' R tc w' := by
  obtain ⟨w0, hw0⟩ : ∃ w0, w0 = (w.alloc (.cells #[.int .i64 10, .int .i64 t', .int .i64 i, .int .i64 f, .int .i64 j, .int .i64 c, .int .i64 n] 39)).alloc (.cells #[.int .i64 0, .int .i64 0] 57) := ⟨_, rfl⟩
  have B0 := Lib.hid (show Bx w 10 t' i f j c n w0 by rw [hw0]; exact Bx.start _ _ _ _ _ _ _ _)
  have HW := Lib.hid hw0
  clear hw0
  have HK := Lib.hid h.lt
  have FX := Lib.hid FE
  clear h FE
  have sz0 := B0.out.sz
  have nK : w.heap.size + 1 ∉ K := fun e => by have := HK.out _ e; omega
  go_enter Tryd.func40, Tryd.ntmps40
  go_wp2_with (first
    | (rw [← HW.out]; go_at_call 56; (with_reducible refine (FX.out _ B0.out.grow).mono ?_); rintro e w1 ⟨rfl, hP⟩; have P1 := Lib.hid (hP.from_ (World.grownBy.refl _ _)); obtain ⟨a0, a1, f0, f1⟩ := (hP.z2 B0.out.zz (by omega) nK).at_; clear hP))
  refine bodyPost_ret (v := .tuple #[.agg #[.int .i64 0, .int .i64 0], .int .i64 z]) (by simp [results, Tryd.results40, go_sem, a0, a1]) rfl ⟨rfl, P1.out.fin B0.out.grow (Nat.le_succ _) (by omega) HK.out (.one (gp.set2 _ _ _ _) (by simp))⟩
theorem act_11 (h : PwI w K g σ R tc A nc vs bs) (o : Nat) (t' i f j c n no : Int) {σ' : Gs} {x1 x2 z : Int} (FE : ∀ W, w.grownBy W none → Calls Tryd.prog 57 #[.pointer (some ⟨R, o, none⟩), .agg #[.int .i64 11, .int .i64 t', .int .i64 i, .int .i64 f, .int .i64 j, .int .i64 c, .int .i64 n]] W fun e w' => e = .returned (.tuple #[.agg #[.int .i64 x1, .int .i64 x2], .int .i64 z]) ∧ Pn W K g σ' R tc w') :
    Calls Tryd.prog 40 #[.pointer (some ⟨g, 0, none⟩), .pointer (some ⟨R, o, none⟩), .agg #[.int .i64 11, .int .i64 t', .int .i64 i, .int .i64 f, .int .i64 j, .int .i64 c, .int .i64 n], .int .i64 no] w fun e w' => e = .returned (.tuple #[.agg #[.int .i64 x1, .int .i64 x2], .int .i64 z]) ∧ Pn w K g σ' R tc w' := by
  obtain ⟨w0, hw0⟩ : ∃ w0, w0 = (w.alloc (.cells #[.int .i64 11, .int .i64 t', .int .i64 i, .int .i64 f, .int .i64 j, .int .i64 c, .int .i64 n] 39)).alloc (.cells #[.int .i64 0, .int .i64 0] 57) := ⟨_, rfl⟩
  have B0 := Lib.hid (show Bx w 11 t' i f j c n w0 by rw [hw0]; exact Bx.start _ _ _ _ _ _ _ _)
  have HW := Lib.hid hw0
  clear hw0
  have HK := Lib.hid h.lt
  have FX := Lib.hid FE
  clear h FE
  have sz0 := B0.out.sz
  have nK : w.heap.size + 1 ∉ K := fun e => by have := HK.out _ e; omega
  go_enter Tryd.func40, Tryd.ntmps40
  go_wp2
  rw [← HW.out]
  obtain ⟨⟨a0, a1, f0, f1⟩, s0, s1, s2, s3, s4, s5, s6⟩ := B0.out.at_
  have nK0 : w.heap.size ∉ K := fun e => by have := HK.out _ e; omega
  go_region_held3 (fun W => W.cell? ⟨w.heap.size, 0, none⟩ = some (.int .i64 11) ∧ W.cell? ⟨w.heap.size, 1, none⟩ = some (.int .i64 t') ∧ W.cell? ⟨w.heap.size, 2, none⟩ = some (.int .i64 i) ∧ W.cell? ⟨w.heap.size, 3, none⟩ = some (.int .i64 f) ∧ W.cell? ⟨w.heap.size, 4, none⟩ = some (.int .i64 j) ∧ W.cell? ⟨w.heap.size, 5, none⟩ = some (.int .i64 c) ∧ W.cell? ⟨w.heap.size, 6, none⟩ = some (.int .i64 n)) (first | go_keep | with_reducible exact ⟨q0, q1, q2, q3, q4, q5, q6⟩) (first
    | (go_at_call 57; (with_reducible refine (FX.out _ (B0.out.grow.trans (gr.grown_drew _ _))).mono ?_); rintro e w1 ⟨rfl, hP⟩; have P1 := Lib.hid (hP.from_ (gr.grown_drew _ _)); have q0 := P1.out.cell s0 nK0; have q1 := P1.out.cell s1 nK0; have q2 := P1.out.cell s2 nK0; have q3 := P1.out.cell s3 nK0; have q4 := P1.out.cell s4 nK0; have q5 := P1.out.cell s5 nK0; have q6 := P1.out.cell s6 nK0; clear a0 a1 f0 f1; obtain ⟨a0, a1, f0, f1⟩ := (P1.out.z2 B0.out.zz (by omega) nK).at_; clear hP))
  go_wp2
  refine bodyPost_ret (v := .tuple #[.agg #[.int .i64 x1, .int .i64 x2], .int .i64 z]) (by simp [results, Tryd.results40, go_sem, a0, a1]) rfl ⟨rfl, P1.out.fin B0.out.grow (Nat.le_succ _) (by omega) HK.out (.one (gp.set2 _ _ _ _) (by simp))⟩
theorem act_12 (h : PwI w K g σ R tc A nc vs bs) (o : Nat) (t' i f j c n no : Int) {σ' : Gs} {x1 x2 z : Int} (FE : ∀ W, w.grownBy W none → Calls Tryd.prog 58 #[.pointer (some ⟨g, 0, none⟩), .pointer (some ⟨R, o, none⟩), .agg #[.int .i64 12, .int .i64 t', .int .i64 i, .int .i64 f, .int .i64 j, .int .i64 c, .int .i64 n]] W fun e w' => e = .returned (.tuple #[.agg #[.int .i64 x1, .int .i64 x2], .int .i64 z]) ∧ Pn W K g σ' R tc w') :
    Calls Tryd.prog 40 #[.pointer (some ⟨g, 0, none⟩), .pointer (some ⟨R, o, none⟩), .agg #[.int .i64 12, .int .i64 t', .int .i64 i, .int .i64 f, .int .i64 j, .int .i64 c, .int .i64 n], .int .i64 no] w fun e w' => e = .returned (.tuple #[.agg #[.int .i64 x1, .int .i64 x2], .int .i64 z]) ∧ Pn w K g σ' R tc w' := by
  obtain ⟨w0, hw0⟩ : ∃ w0, w0 = (w.alloc (.cells #[.int .i64 12, .int .i64 t', .int .i64 i, .int .i64 f, .int .i64 j, .int .i64 c, .int .i64 n] 39)).alloc (.cells #[.int .i64 0, .int .i64 0] 57) := ⟨_, rfl⟩
  have B0 := Lib.hid (show Bx w 12 t' i f j c n w0 by rw [hw0]; exact Bx.start _ _ _ _ _ _ _ _)
  have HW := Lib.hid hw0
  clear hw0
  have HK := Lib.hid h.lt
  have FX := Lib.hid FE
  clear h FE
  have sz0 := B0.out.sz
  have nK : w.heap.size + 1 ∉ K := fun e => by have := HK.out _ e; omega
  go_enter Tryd.func40, Tryd.ntmps40
  go_wp2_with (first
    | (rw [← HW.out]; go_at_call 58; (with_reducible refine (FX.out _ B0.out.grow).mono ?_); rintro e w1 ⟨rfl, hP⟩; have P1 := Lib.hid (hP.from_ (World.grownBy.refl _ _)); obtain ⟨a0, a1, f0, f1⟩ := (hP.z2 B0.out.zz (by omega) nK).at_; clear hP))
  refine bodyPost_ret (v := .tuple #[.agg #[.int .i64 x1, .int .i64 x2], .int .i64 z]) (by simp [results, Tryd.results40, go_sem, a0, a1]) rfl ⟨rfl, P1.out.fin B0.out.grow (Nat.le_succ _) (by omega) HK.out (.one (gp.set2 _ _ _ _) (by simp))⟩
theorem act_13 (h : PwI w K g σ R tc A nc vs bs) (o : Nat) (t' i f j c n no : Int) {σ' : Gs} {x1 x2 z : Int} (FE : ∀ W, w.grownBy W none → Calls Tryd.prog 38 #[.agg #[.int .i64 13, .int .i64 t', .int .i64 i, .int .i64 f, .int .i64 j, .int .i64 c, .int .i64 n]] W fun e w' => e = .returned (.int .i64 z) ∧ Pn W K g σ' R tc w') :
    Calls Tryd.prog 40 #[.pointer (some ⟨g, 0, none⟩), .pointer (some ⟨R, o, none⟩), .agg #[.int .i64 13, .int .i64 t', .int .i64 i, .int .i64 f, .int .i64 j, .int .i64 c, .int .i64 n], .int .i64 no] w fun e w' => e = .returned (.tuple #[.agg #[.int .i64 0, .int .i64 0], .int .i64 z]) ∧ Pn w K g σ' R tc w' := by
  obtain ⟨w0, hw0⟩ : ∃ w0, w0 = (w.alloc (.cells #[.int .i64 13, .int .i64 t', .int .i64 i, .int .i64 f, .int .i64 j, .int .i64 c, .int .i64 n] 39)).alloc (.cells #[.int .i64 0, .int .i64 0] 57) := ⟨_, rfl⟩
  have B0 := Lib.hid (show Bx w 13 t' i f j c n w0 by rw [hw0]; exact Bx.start _ _ _ _ _ _ _ _)
  have HW := Lib.hid hw0
  clear hw0
  have HK := Lib.hid h.lt
  have FX := Lib.hid FE
  clear h FE
  have sz0 := B0.out.sz
  have nK : w.heap.size + 1 ∉ K := fun e => by have := HK.out _ e; omega
  go_enter Tryd.func40, Tryd.ntmps40
  go_wp2_with (first
    | (rw [← HW.out]; go_at_call 38; (with_reducible refine (FX.out _ B0.out.grow).mono ?_); rintro e w1 ⟨rfl, hP⟩; have P1 := Lib.hid (hP.from_ (World.grownBy.refl _ _)); obtain ⟨a0, a1, f0, f1⟩ := (hP.z2 B0.out.zz (by omega) nK).at_; clear hP))
  refine bodyPost_ret (v := .tuple #[.agg #[.int .i64 0, .int .i64 0], .int .i64 z]) (by simp [results, Tryd.results40, go_sem, a0, a1]) rfl ⟨rfl, P1.out.fin B0.out.grow (Nat.le_succ _) (by omega) HK.out (.one (gp.set2 _ _ _ _) (by simp))⟩
theorem act_15 (h : PwI w K g σ R tc A nc vs bs) (o : Nat) (t' i f j c n no : Int) {σ' : Gs} {x1 x2 z : Int} (FE : ∀ W, w.grownBy W none → Calls Tryd.prog 59 #[.pointer (some ⟨g, 0, none⟩), .agg #[.int .i64 15, .int .i64 t', .int .i64 i, .int .i64 f, .int .i64 j, .int .i64 c, .int .i64 n], .int .i64 no] W fun e w' => e = .returned (.int .i64 z) ∧ Pn W K g σ' R tc w') :
    Calls Tryd.prog 40 #[.pointer (some ⟨g, 0, none⟩), .pointer (some ⟨R, o, none⟩), .agg #[.int .i64 15, .int .i64 t', .int .i64 i, .int .i64 f, .int .i64 j, .int .i64 c, .int .i64 n], .int .i64 no] w fun e w' => e = .returned (.tuple #[.agg #[.int .i64 0, .int .i64 0], .int .i64 z]) ∧ Pn w K g σ' R tc w' := by
  obtain ⟨w0, hw0⟩ : ∃ w0, w0 = (w.alloc (.cells #[.int .i64 15, .int .i64 t', .int .i64 i, .int .i64 f, .int .i64 j, .int .i64 c, .int .i64 n] 39)).alloc (.cells #[.int .i64 0, .int .i64 0] 57) := ⟨_, rfl⟩
  have B0 := Lib.hid (show Bx w 15 t' i f j c n w0 by rw [hw0]; exact Bx.start _ _ _ _ _ _ _ _)
  have HW := Lib.hid hw0
  clear hw0
  have HK := Lib.hid h.lt
  have FX := Lib.hid FE
  clear h FE
  have sz0 := B0.out.sz
  have nK : w.heap.size + 1 ∉ K := fun e => by have := HK.out _ e; omega
  go_enter Tryd.func40, Tryd.ntmps40
  go_wp2_with (first
    | (rw [← HW.out]; go_at_call 59; (with_reducible refine (FX.out _ B0.out.grow).mono ?_); rintro e w1 ⟨rfl, hP⟩; have P1 := Lib.hid (hP.from_ (World.grownBy.refl _ _)); obtain ⟨a0, a1, f0, f1⟩ := (hP.z2 B0.out.zz (by omega) nK).at_; clear hP))
  refine bodyPost_ret (v := .tuple #[.agg #[.int .i64 0, .int .i64 0], .int .i64 z]) (by simp [results, Tryd.results40, go_sem, a0, a1]) rfl ⟨rfl, P1.out.fin B0.out.grow (Nat.le_succ _) (by omega) HK.out (.one (gp.set2 _ _ _ _) (by simp))⟩
theorem act_14 (h : PwI w K g σ R tc A nc vs bs) (o : Nat) (t' i f j c n no : Int) : Calls Tryd.prog 40 #[.pointer (some ⟨g, 0, none⟩), .pointer (some ⟨R, o, none⟩), .agg #[.int .i64 14, .int .i64 t', .int .i64 i, .int .i64 f, .int .i64 j, .int .i64 c, .int .i64 n], .int .i64 no] w fun e w' => e = .returned (.tuple #[.agg #[.int .i64 0, .int .i64 0], .int .i64 0]) ∧ Pn w K g σ R tc w' := by
  have H := Lib.hid h
  clear h
  go_enter Tryd.func40, Tryd.ntmps40
  go_wp2
  refine bodyPost_ret (v := .tuple #[.agg #[.int .i64 0, .int .i64 0], .int .i64 0]) (by simp [results, Tryd.results40, go_sem]) rfl ⟨rfl, Pn.same H.out ?_⟩
  exact (grown_alloc _ _).trans (grown_alloc _ _)
end
end Go.Proofs.YtfhebjkoojodiaaDoor.gq
