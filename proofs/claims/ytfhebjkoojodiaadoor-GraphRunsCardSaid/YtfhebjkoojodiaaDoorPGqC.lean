/- Texts that this claim stands on. -/
import Derived.Test.YtfhebjkoojodiaaDoorPGqB
namespace Go.Proofs.YtfhebjkoojodiaaDoor.gq
open Go.ChangeShapes Go.WideShapes Go.ChangeAt Go.RowKit gen va cd gp
set_option linter.unusedVariables false
set_option maxHeartbeats 1000000
set_option maxRecDepth 100000
theorem wpList_copy_more {w : World} {ops : Array Oper} {rest : List Oper} {o : Oper} {a : Act} {Q : Exit → Act → World → Prop} (hgd : o.guard = none) (d s : Operand)
    (ho : o.op = .call { callee := .builtin .copy, args := #[d, s], argTypes := #[53, 53] })
    (g n k c : Nat) (hk : n ≤ k) (ad : Addr) (m l : List Va) (hd : a.eval d = .slice (some ⟨g, 0, none⟩) n n) (hs : a.eval s = .slice (some ad) k c) {B c' : Nat} (hr : Rv w B (some ad) n c' m)
    (hg : w.heap[g]? = some (.cells (vc l).toArray 57 (0, 0))) (hl : l.length = n)
    (h : ∀ w', w'.heap[g]? = some (.cells (vc m).toArray 57 (0, 0)) → w.grownBy w' (some g) → wpList Tryd.prog ops Q rest (a.put o.dst (goInt n)) w') :
    wpList Tryd.prog ops Q (o :: rest) a w := by
  have hrun : ∀ ty, _ := fun ty => run_copy_wide (P := Tryd.prog) w 53 53 ty 57 2 g 0 n n ad k c (vc l).toArray 57 (vc m) n Tryd.underlying53 (by kernel_rfl) hg (Nat.min_eq_right hk) (by rw [vc_length, hr.1]; omega)
    (hr.cells ad rfl) (by simp [vc_length, hl, hr.1]) (vc_one m)
  have e : (vc l).toArray.toList.take 0 ++ vc m ++ (vc l).toArray.toList.drop (0 + (vc m).length) = vc m := by
    have : ((vc l).toArray.toList.drop (0 + (vc m).length)) = [] := List.drop_eq_nil_of_le (by simp [vc_length, hl, hr.1])
    rw [this]
    simp
  rw [e] at hrun
  refine wpList_plain hgd fun _ hK => ?_
  unfold Oper.wp
  simp [execOp, ho, resolve, invoke, builtin, hd, hs, hrun, Result.andThen]
  exact hK _ _ (h _ (setRow_heap w g _ _ _ _ hg) ⟨rfl, rfl, rfl, by simp [World.setRow], fun k _ hk => setRow_other w g k _ (fun e => hk (by simp [e]))⟩)
section
variable {w w' : World} {R o : Nat} {m : List Va} {b b' : Bool}
theorem Tw.rv (h : Tw w R o m b) (h16 : m.length ≤ 16) : Rv w w.heap.size (some ⟨R, o + 1, none⟩) m.length 16 m := by
  refine ⟨rfl, h16, by unfold maxLen; omega, fun i hi => ⟨R, o + 1, rfl, h.lt, ?_⟩⟩
  obtain ⟨x, hx⟩ : ∃ x, m.getD i (0, 0) = x := ⟨_, rfl⟩
  rw [hx]
  exact h.val hi h16 hx
theorem all_any (h : Tw w R o m b) (h16 : m.length ≤ 16) : Calls Tryd.prog 47 #[.pointer (some ⟨R, o, none⟩)] w
    fun e w' => e = .returned (.slice (some ⟨w.heap.size, 0, none⟩) m.length m.length) ∧ w'.heap[w.heap.size]? = some (.cells (vc m).toArray 57 (0, 0)) ∧ w.grownBy w' none := by
  obtain ⟨n, hn⟩ : ∃ n, m.length = n := ⟨_, rfl⟩
  have c0 := h.c0
  have mk := make_vas n (by omega)
  have RV := Lib.hid (fun W (hg : w.grownBy W none) => (show Rv W W.heap.size (some ⟨R, o + 1, none⟩) n 16 m from hn ▸ (h.new hg).rv h16))
  obtain ⟨zs, hzs⟩ : ∃ zs : List Va, List.replicate n (0, 0) = zs := ⟨_, rfl⟩
  have ZL := Lib.hid (show zs.length = n by rw [← hzs]; simp)
  rw [hzs] at mk
  rw [hn] at c0 h16 ⊢
  clear h hn hzs
  go_enter Tryd.func47, Tryd.ntmps47
  go_wp2_with (first
    | (refine wpList_copy_more rfl (.tmp 9) (.tmp 13) rfl w.heap.size n 16 16 h16 ⟨R, o + 1, none⟩ m zs rfl rfl (RV.out _ (grown_alloc _ _)) (heap_alloc_new w _) ZL.out ?_; intro w2 hw2 hg2; have W2 := Lib.hid hw2; have G2 := Lib.hid hg2; clear hw2 hg2))
  go_ret
  exact ⟨rfl, W2.out, li.grown_new (grown_alloc _ _) G2.out (Nat.le_refl _)⟩
structure Bx (w : World) (k t i f j c n : Int) (w1 : World) : Prop where
  gr : gr.Gr [] w w1
  sz : w.heap.size + 2 ≤ w1.heap.size
  sv : Sv w1 w.heap.size k t i f j c n
  zz : Z2 w1 (w.heap.size + 1)
section
variable {k t i f j c n : Int} {w1 w2 : World}
theorem Bx.start (w : World) (k t i f j c n : Int) : Bx w k t i f j c n ((w.alloc (.cells #[.int .i64 k, .int .i64 t, .int .i64 i, .int .i64 f, .int .i64 j, .int .i64 c, .int .i64 n] 39)).alloc (.cells #[.int .i64 0, .int .i64 0] 57)) := by
  refine ⟨.new ((grown_alloc _ _).trans (grown_alloc _ _)), by simp, (Sv.new w 39 k t i f j c n).made (grown_alloc _ _), ?_⟩
  have := zero2 (w.alloc (.cells #[.int .i64 k, .int .i64 t, .int .i64 i, .int .i64 f, .int .i64 j, .int .i64 c, .int .i64 n] 39))
  simpa [Z2] using this
theorem Bx.new (h : Bx w k t i f j c n w1) (hg : w1.grownBy w2 none) : Bx w k t i f j c n w2 := ⟨h.gr.made hg, by have := hg.size; have := h.sz; omega, h.sv.made hg, h.zz.new hg (by have := h.sz; omega)⟩
theorem Bx.grow (h : Bx w k t i f j c n w1) : w.grownBy w1 none := h.gr.grown (World.grownBy.refl _ _) (fun q hq => by cases hq)
theorem Bx.at_ (h : Bx w k t i f j c n w1) : (w1.cell? ⟨w.heap.size + 1, 0, none⟩ = some (.int .i64 0) ∧ w1.cell? ⟨w.heap.size + 1, 1, none⟩ = some (.int .i64 0) ∧ w1.frozen? ⟨w.heap.size + 1, 0, none⟩ = false ∧ w1.frozen? ⟨w.heap.size + 1, 1, none⟩ = false) ∧ w1.cell? ⟨w.heap.size, 0, none⟩ = some (.int .i64 k) ∧ w1.cell? ⟨w.heap.size, 1, none⟩ = some (.int .i64 t) ∧ w1.cell? ⟨w.heap.size, 2, none⟩ = some (.int .i64 i) ∧ w1.cell? ⟨w.heap.size, 3, none⟩ = some (.int .i64 f) ∧ w1.cell? ⟨w.heap.size, 4, none⟩ = some (.int .i64 j) ∧ w1.cell? ⟨w.heap.size, 5, none⟩ = some (.int .i64 c) ∧ w1.cell? ⟨w.heap.size, 6, none⟩ = some (.int .i64 n) := ⟨h.zz.at_, h.sv⟩
theorem Bx.fin (h : Bx w k t i f j c n w1) (v1 v2 : Value) : w.grownBy ((w1.setCell ⟨w.heap.size + 1, 0, none⟩ v1).setCell ⟨w.heap.size + 1, 1, none⟩ v2) none := li.grown_new h.grow (gp.set2 _ _ _ _) (Nat.le_succ _)
end
theorem same_i (h : Tw w R o m b) (h16 : m.length ≤ 16) (k t f c n : Int) (i j : Nat) (hi : m.length ≤ i) : Calls Tryd.prog 57 #[.pointer (some ⟨R, o, none⟩), .agg #[.int .i64 k, .int .i64 t, .int .i64 (i : Int), .int .i64 f, .int .i64 (j : Int), .int .i64 c, .int .i64 n]] w
    fun e w' => e = .returned (.tuple #[.agg #[.int .i64 0, .int .i64 0], .int .i64 4]) ∧ w.grownBy w' none := by
  obtain ⟨w0, hw0⟩ : ∃ w0, w0 = (w.alloc (.cells #[.int .i64 k, .int .i64 t, .int .i64 i, .int .i64 f, .int .i64 j, .int .i64 c, .int .i64 n] 39)).alloc (.cells #[.int .i64 0, .int .i64 0] 57) := ⟨_, rfl⟩
  have B0 := Lib.hid (show Bx w k t i f j c n w0 by rw [hw0]; exact Bx.start _ _ _ _ _ _ _ _)
  have HW := Lib.hid hw0
  clear hw0
  have GI := Lib.hid (fun W (hg : w.grownBy W none) => get_no (h.new hg) (i := (i : Int)) (.inr (by omega)))
  clear h
  go_enter Tryd.func57, Tryd.ntmps57
  go_wp2_with (first
    | (rw [← HW.out]; go_at_call 66; (with_reducible refine (GI.out _ B0.out.grow).mono ?_); rintro e w1 ⟨rfl, hg⟩; have N0 := Lib.hid hg; have B1 := Lib.hid ((B0.out.new hg).new (grown_alloc w1 (.cells #[.int .i64 0, .int .i64 0] 57))); obtain ⟨⟨a0, a1, f0, f1⟩, s0, s1, s2, s3, s4, s5, s6⟩ := B1.out.at_; clear hg))
  refine bodyPost_ret (v := .tuple #[.agg #[.int .i64 0, .int .i64 0], .int .i64 4]) (by simp [results, Tryd.results57, go_sem, *]) rfl ⟨rfl, ?_⟩
  exact B1.out.fin _ _
theorem same_j (h : Tw w R o m b) (h16 : m.length ≤ 16) (k t f c n : Int) (i j : Nat) {v1 v2 : Int} (hi : i < m.length) (hj : m.length ≤ j) (hv : m.getD i (0, 0) = (v1, v2)) : Calls Tryd.prog 57 #[.pointer (some ⟨R, o, none⟩), .agg #[.int .i64 k, .int .i64 t, .int .i64 (i : Int), .int .i64 f, .int .i64 (j : Int), .int .i64 c, .int .i64 n]] w
    fun e w' => e = .returned (.tuple #[.agg #[.int .i64 0, .int .i64 0], .int .i64 4]) ∧ w.grownBy w' none := by
  obtain ⟨w0, hw0⟩ : ∃ w0, w0 = (w.alloc (.cells #[.int .i64 k, .int .i64 t, .int .i64 i, .int .i64 f, .int .i64 j, .int .i64 c, .int .i64 n] 39)).alloc (.cells #[.int .i64 0, .int .i64 0] 57) := ⟨_, rfl⟩
  have B0 := Lib.hid (show Bx w k t i f j c n w0 by rw [hw0]; exact Bx.start _ _ _ _ _ _ _ _)
  have HW := Lib.hid hw0
  clear hw0
  have GI := Lib.hid (fun W (hg : w.grownBy W none) => get_yes (h.new hg) hi h16 hv)
  have GJ := Lib.hid (fun W (hg : w.grownBy W none) => get_no (h.new hg) (i := (j : Int)) (.inr (by omega)))
  clear h
  go_enter Tryd.func57, Tryd.ntmps57
  go_wp2_with (first
    | (rw [← HW.out]; go_at_call 66; (with_reducible refine (GI.out _ B0.out.grow).mono ?_); rintro e w1 ⟨rfl, hg⟩; have N0 := Lib.hid hg; have B1 := Lib.hid ((B0.out.new hg).new (grown_alloc w1 (.cells #[.int .i64 v1, .int .i64 v2] 57))); obtain ⟨⟨a0, a1, f0, f1⟩, s0, s1, s2, s3, s4, s5, s6⟩ := B1.out.at_; clear hg)
    | (go_at_call 66; (with_reducible refine (GJ.out _ B1.out.grow).mono ?_); rintro e w2 ⟨rfl, hg⟩; have N1 := Lib.hid hg; have B2 := Lib.hid ((B1.out.new hg).new (grown_alloc w2 (.cells #[.int .i64 0, .int .i64 0] 57))); clear a0 a1 f0 f1 s0 s1 s2 s3 s4 s5 s6; obtain ⟨⟨a0, a1, f0, f1⟩, s0, s1, s2, s3, s4, s5, s6⟩ := B2.out.at_; clear hg))
  refine bodyPost_ret (v := .tuple #[.agg #[.int .i64 0, .int .i64 0], .int .i64 4]) (by simp [results, Tryd.results57, go_sem, *]) rfl ⟨rfl, ?_⟩
  exact B2.out.fin _ _
theorem same_a (h : Tw w R o m b) (h16 : m.length ≤ 16) (k t f c n : Int) (i j : Nat) {v1 v2 x1 x2 : Int} (hi : i < m.length) (hj : j < m.length) (hv : m.getD i (0, 0) = (v1, v2)) (hx : m.getD j (0, 0) = (x1, x2)) (q1 : (v1 == x1) = true) (q2 : (v2 == x2) = true) : Calls Tryd.prog 57 #[.pointer (some ⟨R, o, none⟩), .agg #[.int .i64 k, .int .i64 t, .int .i64 (i : Int), .int .i64 f, .int .i64 (j : Int), .int .i64 c, .int .i64 n]] w
    fun e w' => e = .returned (.tuple #[.agg #[.int .i64 1, .int .i64 1], .int .i64 0]) ∧ w.grownBy w' none := by
  obtain ⟨w0, hw0⟩ : ∃ w0, w0 = (w.alloc (.cells #[.int .i64 k, .int .i64 t, .int .i64 i, .int .i64 f, .int .i64 j, .int .i64 c, .int .i64 n] 39)).alloc (.cells #[.int .i64 0, .int .i64 0] 57) := ⟨_, rfl⟩
  have B0 := Lib.hid (show Bx w k t i f j c n w0 by rw [hw0]; exact Bx.start _ _ _ _ _ _ _ _)
  have HW := Lib.hid hw0
  clear hw0
  have GI := Lib.hid (fun W (hg : w.grownBy W none) => get_yes (h.new hg) hi h16 hv)
  have GJ := Lib.hid (fun W (hg : w.grownBy W none) => get_yes (h.new hg) hj h16 hx)
  have NU := Lib.hid (fun W => Number_any 1 W (by decide))
  clear h
  go_enter Tryd.func57, Tryd.ntmps57
  go_wp2_with (first
    | (rw [← HW.out]; go_at_call 66; (with_reducible refine (GI.out _ B0.out.grow).mono ?_); rintro e w1 ⟨rfl, hg⟩; have N0 := Lib.hid hg; have B1 := Lib.hid ((B0.out.new hg).new (grown_alloc w1 (.cells #[.int .i64 v1, .int .i64 v2] 57))); obtain ⟨⟨a0, a1, f0, f1⟩, s0, s1, s2, s3, s4, s5, s6⟩ := B1.out.at_; clear hg)
    | (go_at_call 66; (with_reducible refine (GJ.out _ B1.out.grow).mono ?_); rintro e w2 ⟨rfl, hg⟩; have N1 := Lib.hid hg; have B2 := Lib.hid ((B1.out.new hg).new (grown_alloc w2 (.cells #[.int .i64 x1, .int .i64 x2] 57))); clear a0 a1 f0 f1 s0 s1 s2 s3 s4 s5 s6; obtain ⟨⟨a0, a1, f0, f1⟩, s0, s1, s2, s3, s4, s5, s6⟩ := B2.out.at_; have e2 := hg.cell (show (w1.alloc (.cells #[.int .i64 v1, .int .i64 v2] 57)).cell? ⟨w1.heap.size, 0, none⟩ = some (.int .i64 v1) from by simp [go_sem]) (by simp); have e3 := hg.cell (show (w1.alloc (.cells #[.int .i64 v1, .int .i64 v2] 57)).cell? ⟨w1.heap.size, 1, none⟩ = some (.int .i64 v2) from by simp [go_sem]) (by simp); have e4 := (grown_alloc w2 (.cells #[.int .i64 x1, .int .i64 x2] 57)).cell e2 (by simp); have e5 := (grown_alloc w2 (.cells #[.int .i64 x1, .int .i64 x2] 57)).cell e3 (by simp); have ne1 : w1.heap.size ≠ w2.heap.size := (by have := hg.size; simp at this; omega); clear hg)
    | (go_at_call 68; (with_reducible refine (NU.out _).mono ?_); rintro e w3 ⟨rfl, hg⟩; have B3 := Lib.hid (B2.out.new hg); clear a0 a1 f0 f1 s0 s1 s2 s3 s4 s5 s6; obtain ⟨⟨a0, a1, f0, f1⟩, s0, s1, s2, s3, s4, s5, s6⟩ := B3.out.at_; clear hg))
  refine bodyPost_ret (v := .tuple #[.agg #[.int .i64 1, .int .i64 1], .int .i64 0]) (by simp [results, Tryd.results57, go_sem, *]) rfl ⟨rfl, ?_⟩
  exact B3.out.fin _ _
theorem same_b (h : Tw w R o m b) (h16 : m.length ≤ 16) (k t f c n : Int) (i j : Nat) {v1 v2 x1 x2 : Int} (hi : i < m.length) (hj : j < m.length) (hv : m.getD i (0, 0) = (v1, v2)) (hx : m.getD j (0, 0) = (x1, x2)) (q1 : (v1 == x1) = false) : Calls Tryd.prog 57 #[.pointer (some ⟨R, o, none⟩), .agg #[.int .i64 k, .int .i64 t, .int .i64 (i : Int), .int .i64 f, .int .i64 (j : Int), .int .i64 c, .int .i64 n]] w
    fun e w' => e = .returned (.tuple #[.agg #[.int .i64 1, .int .i64 0], .int .i64 0]) ∧ w.grownBy w' none := by
  obtain ⟨w0, hw0⟩ : ∃ w0, w0 = (w.alloc (.cells #[.int .i64 k, .int .i64 t, .int .i64 i, .int .i64 f, .int .i64 j, .int .i64 c, .int .i64 n] 39)).alloc (.cells #[.int .i64 0, .int .i64 0] 57) := ⟨_, rfl⟩
  have B0 := Lib.hid (show Bx w k t i f j c n w0 by rw [hw0]; exact Bx.start _ _ _ _ _ _ _ _)
  have HW := Lib.hid hw0
  clear hw0
  have GI := Lib.hid (fun W (hg : w.grownBy W none) => get_yes (h.new hg) hi h16 hv)
  have GJ := Lib.hid (fun W (hg : w.grownBy W none) => get_yes (h.new hg) hj h16 hx)
  have NU := Lib.hid (fun W => Number_any 0 W (by decide))
  clear h
  go_enter Tryd.func57, Tryd.ntmps57
  go_wp2_with (first
    | (rw [← HW.out]; go_at_call 66; (with_reducible refine (GI.out _ B0.out.grow).mono ?_); rintro e w1 ⟨rfl, hg⟩; have N0 := Lib.hid hg; have B1 := Lib.hid ((B0.out.new hg).new (grown_alloc w1 (.cells #[.int .i64 v1, .int .i64 v2] 57))); obtain ⟨⟨a0, a1, f0, f1⟩, s0, s1, s2, s3, s4, s5, s6⟩ := B1.out.at_; clear hg)
    | (go_at_call 66; (with_reducible refine (GJ.out _ B1.out.grow).mono ?_); rintro e w2 ⟨rfl, hg⟩; have N1 := Lib.hid hg; have B2 := Lib.hid ((B1.out.new hg).new (grown_alloc w2 (.cells #[.int .i64 x1, .int .i64 x2] 57))); clear a0 a1 f0 f1 s0 s1 s2 s3 s4 s5 s6; obtain ⟨⟨a0, a1, f0, f1⟩, s0, s1, s2, s3, s4, s5, s6⟩ := B2.out.at_; have e2 := hg.cell (show (w1.alloc (.cells #[.int .i64 v1, .int .i64 v2] 57)).cell? ⟨w1.heap.size, 0, none⟩ = some (.int .i64 v1) from by simp [go_sem]) (by simp); have e3 := hg.cell (show (w1.alloc (.cells #[.int .i64 v1, .int .i64 v2] 57)).cell? ⟨w1.heap.size, 1, none⟩ = some (.int .i64 v2) from by simp [go_sem]) (by simp); have e4 := (grown_alloc w2 (.cells #[.int .i64 x1, .int .i64 x2] 57)).cell e2 (by simp); have e5 := (grown_alloc w2 (.cells #[.int .i64 x1, .int .i64 x2] 57)).cell e3 (by simp); have ne1 : w1.heap.size ≠ w2.heap.size := (by have := hg.size; simp at this; omega); clear hg)
    | (go_at_call 68; (with_reducible refine (NU.out _).mono ?_); rintro e w3 ⟨rfl, hg⟩; have B3 := Lib.hid (B2.out.new hg); clear a0 a1 f0 f1 s0 s1 s2 s3 s4 s5 s6; obtain ⟨⟨a0, a1, f0, f1⟩, s0, s1, s2, s3, s4, s5, s6⟩ := B3.out.at_; clear hg))
  refine bodyPost_ret (v := .tuple #[.agg #[.int .i64 1, .int .i64 0], .int .i64 0]) (by simp [results, Tryd.results57, go_sem, *]) rfl ⟨rfl, ?_⟩
  exact B3.out.fin _ _
theorem same_c (h : Tw w R o m b) (h16 : m.length ≤ 16) (k t f c n : Int) (i j : Nat) {v1 v2 x1 x2 : Int} (hi : i < m.length) (hj : j < m.length) (hv : m.getD i (0, 0) = (v1, v2)) (hx : m.getD j (0, 0) = (x1, x2)) (q1 : (v1 == x1) = true) (q2 : (v2 == x2) = false) : Calls Tryd.prog 57 #[.pointer (some ⟨R, o, none⟩), .agg #[.int .i64 k, .int .i64 t, .int .i64 (i : Int), .int .i64 f, .int .i64 (j : Int), .int .i64 c, .int .i64 n]] w
    fun e w' => e = .returned (.tuple #[.agg #[.int .i64 1, .int .i64 0], .int .i64 0]) ∧ w.grownBy w' none := by
  obtain ⟨w0, hw0⟩ : ∃ w0, w0 = (w.alloc (.cells #[.int .i64 k, .int .i64 t, .int .i64 i, .int .i64 f, .int .i64 j, .int .i64 c, .int .i64 n] 39)).alloc (.cells #[.int .i64 0, .int .i64 0] 57) := ⟨_, rfl⟩
  have B0 := Lib.hid (show Bx w k t i f j c n w0 by rw [hw0]; exact Bx.start _ _ _ _ _ _ _ _)
  have HW := Lib.hid hw0
  clear hw0
  have GI := Lib.hid (fun W (hg : w.grownBy W none) => get_yes (h.new hg) hi h16 hv)
  have GJ := Lib.hid (fun W (hg : w.grownBy W none) => get_yes (h.new hg) hj h16 hx)
  have NU := Lib.hid (fun W => Number_any 0 W (by decide))
  clear h
  go_enter Tryd.func57, Tryd.ntmps57
  go_wp2_with (first
    | (rw [← HW.out]; go_at_call 66; (with_reducible refine (GI.out _ B0.out.grow).mono ?_); rintro e w1 ⟨rfl, hg⟩; have N0 := Lib.hid hg; have B1 := Lib.hid ((B0.out.new hg).new (grown_alloc w1 (.cells #[.int .i64 v1, .int .i64 v2] 57))); obtain ⟨⟨a0, a1, f0, f1⟩, s0, s1, s2, s3, s4, s5, s6⟩ := B1.out.at_; clear hg)
    | (go_at_call 66; (with_reducible refine (GJ.out _ B1.out.grow).mono ?_); rintro e w2 ⟨rfl, hg⟩; have N1 := Lib.hid hg; have B2 := Lib.hid ((B1.out.new hg).new (grown_alloc w2 (.cells #[.int .i64 x1, .int .i64 x2] 57))); clear a0 a1 f0 f1 s0 s1 s2 s3 s4 s5 s6; obtain ⟨⟨a0, a1, f0, f1⟩, s0, s1, s2, s3, s4, s5, s6⟩ := B2.out.at_; have e2 := hg.cell (show (w1.alloc (.cells #[.int .i64 v1, .int .i64 v2] 57)).cell? ⟨w1.heap.size, 0, none⟩ = some (.int .i64 v1) from by simp [go_sem]) (by simp); have e3 := hg.cell (show (w1.alloc (.cells #[.int .i64 v1, .int .i64 v2] 57)).cell? ⟨w1.heap.size, 1, none⟩ = some (.int .i64 v2) from by simp [go_sem]) (by simp); have e4 := (grown_alloc w2 (.cells #[.int .i64 x1, .int .i64 x2] 57)).cell e2 (by simp); have e5 := (grown_alloc w2 (.cells #[.int .i64 x1, .int .i64 x2] 57)).cell e3 (by simp); have ne1 : w1.heap.size ≠ w2.heap.size := (by have := hg.size; simp at this; omega); clear hg)
    | (go_at_call 68; (with_reducible refine (NU.out _).mono ?_); rintro e w3 ⟨rfl, hg⟩; have B3 := Lib.hid (B2.out.new hg); clear a0 a1 f0 f1 s0 s1 s2 s3 s4 s5 s6; obtain ⟨⟨a0, a1, f0, f1⟩, s0, s1, s2, s3, s4, s5, s6⟩ := B3.out.at_; clear hg))
  refine bodyPost_ret (v := .tuple #[.agg #[.int .i64 1, .int .i64 0], .int .i64 0]) (by simp [results, Tryd.results57, go_sem, *]) rfl ⟨rfl, ?_⟩
  exact B3.out.fin _ _
end
end Go.Proofs.YtfhebjkoojodiaaDoor.gq
