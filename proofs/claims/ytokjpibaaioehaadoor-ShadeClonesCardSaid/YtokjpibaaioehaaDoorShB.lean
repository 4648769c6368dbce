/- A grey's own calls that look at its stack, and what nil's, and a zero one's, answer. -/
import Derived.Test.YtokjpibaaioehaaDoorShA
namespace Go.Proofs.YtokjpibaaioehaaDoor.sh
open Go.ChangeShapes Go.WideShapes Go.ChangeAt Go.RowKit gen li en gr
set_option linter.unusedVariables false
set_option maxHeartbeats 4000000
set_option maxRecDepth 100000
/-! ### The stack's calls, both ways in one -/
theorem dropLast_top {m : List Va} (h : m ≠ []) : m.dropLast ++ [top m] = m := by
  rcases List.eq_nil_or_concat m with rfl | ⟨l, a, rfl⟩
  · exact absurd rfl h
  · simp [top]
theorem Ps.push_yes {s : Ps} {r : Nat} (h : s.m.length < r) (x : Va) : s.push r x = ⟨s.ws, s.m ++ [x], s.b⟩ := if_pos h
theorem Ps.push_no {s : Ps} {r : Nat} (h : ¬ s.m.length < r) (x : Va) : s.push r x = ⟨s.ws, s.m, true⟩ := if_neg h
theorem Ps.push_ws (s : Ps) (r : Nat) (x : Va) : (⟨s.ws, (s.push r x).m, (s.push r x).b⟩ : Ps) = s.push r x := by
  unfold Ps.push
  split <;> rfl
section
variable {w w' W : World} {g k r B : Nat} {K L : List Nat} {s : Ps} {p v : Value} {R : World → Prop} {x1 x2 : Int}
theorem Push_any (h : sk.Sk w K k r s.b s.m) (hr : 1 ≤ r) (x1 x2 : Int) : Calls Tryd.prog 48 #[.pointer (some ⟨k, 0, none⟩), .agg #[.int .i64 x1, .int .i64 x2]] w
    fun e w' => e = .returned (.bool (decide (s.m.length < r))) ∧ Gr K w w' ∧ ∃ K', (∀ q, q ∈ K' → q ∈ K ∨ w.heap.size ≤ q) ∧ sk.Sk w' K' k r (s.push r (x1, x2)).b (s.push r (x1, x2)).m := by
  by_cases hm : s.m.length < r
  · rw [Ps.push_yes hm, decide_eq_true hm]
    exact (sk.Push_yes h hm x1 x2).mono fun e w' ⟨h1, K', h2, h3, h4⟩ => ⟨h1, h4, K', h2, h3⟩
  · rw [Ps.push_no hm, decide_eq_false hm]
    refine (sk.Push_no h (by have := h.fit; omega) x1 x2).mono fun e w' ⟨h1, h2, h3⟩ => ⟨h1, h3, K, fun q hq => .inl hq, ?_⟩
    rwa [show decide (0 < r) = true from decide_eq_true hr] at h2
theorem Pop_any (h : sk.Sk w K k r s.b s.m) : Calls Tryd.prog 47 #[.pointer (some ⟨k, 0, none⟩)] w fun e w' => e = sk.vb (top s.m) (decide (s.m ≠ [])) ∧ sk.Sk w' K k r s.b s.m.dropLast ∧ Gr K w w' := by
  obtain ⟨ws, m, b⟩ := s
  dsimp only at h ⊢
  by_cases hm : m = []
  · subst hm
    exact (sk.Pop_none h).mono fun e w' ⟨h1, h2⟩ => ⟨h1, h.new h2, Gr.new h2⟩
  · rw [decide_eq_true hm]
    refine (sk.Pop_yes (x := top m) (m := m.dropLast) (by rw [dropLast_top hm]; exact h)).mono fun e w' ⟨h1, h2, h3⟩ => ⟨h1, h2, h3⟩
theorem wwaiting (c : w.cell? ⟨g, 0, none⟩ = some p) (H : Calls Tryd.prog 51 #[p] w fun e w' => e = .returned v ∧ R w') : Calls Tryd.prog 41 #[.pointer (some ⟨g, 0, none⟩)] w fun e w' => e = .returned v ∧ R w' := by
  have HH := Lib.hid H
  clear H
  go_enter Tryd.func41, Tryd.ntmps41
  go_wp2_with (go_at_call 51; (with_reducible refine HH.out.mono ?_); rintro e w2 ⟨rfl, hr⟩; have RR := Lib.hid hr; clear hr)
  go_ret
  exact ⟨rfl, RR.out⟩
theorem wover (c : w.cell? ⟨g, 0, none⟩ = some p) (H : Calls Tryd.prog 52 #[p] w fun e w' => e = .returned v ∧ R w') : Calls Tryd.prog 42 #[.pointer (some ⟨g, 0, none⟩)] w fun e w' => e = .returned v ∧ R w' := by
  have HH := Lib.hid H
  clear H
  go_enter Tryd.func42, Tryd.ntmps42
  go_wp2_with (go_at_call 52; (with_reducible refine HH.out.mono ?_); rintro e w2 ⟨rfl, hr⟩; have RR := Lib.hid hr; clear hr)
  go_ret
  exact ⟨rfl, RR.out⟩
theorem wsettle (c : w.cell? ⟨g, 0, none⟩ = some p) (H : Calls Tryd.prog 53 #[p] w fun e w' => e = .returned v ∧ R w') : Calls Tryd.prog 43 #[.pointer (some ⟨g, 0, none⟩)] w fun e w' => e = .returned v ∧ R w' := by
  have HH := Lib.hid H
  clear H
  go_enter Tryd.func43, Tryd.ntmps43
  go_wp2_with (go_at_call 53; (with_reducible refine HH.out.mono ?_); rintro e w2 ⟨rfl, hr⟩; have RR := Lib.hid hr; clear hr)
  go_ret
  exact ⟨rfl, RR.out⟩
theorem wwait (c : w.cell? ⟨g, 0, none⟩ = some p) (z : Int) (H : Calls Tryd.prog 48 #[p, .agg #[.int .i64 z, .int .i64 0]] w fun e w' => e = .returned v ∧ R w') : Calls Tryd.prog 35 #[.pointer (some ⟨g, 0, none⟩), .int .i64 z] w fun e w' => e = .returned (.tuple #[]) ∧ R w' := by
  have HH := Lib.hid H
  clear H
  go_enter Tryd.func35, Tryd.ntmps35
  go_wp2_with (go_at_call 48; (with_reducible refine HH.out.mono ?_); rintro e w2 ⟨rfl, hr⟩; have RR := Lib.hid hr; clear hr)
  go_end0
  exact ⟨rfl, RR.out⟩
theorem wrest (c : w.cell? ⟨g, 0, none⟩ = some p) (hg : g ∉ K) (hK : ∀ q, q ∈ K → q < w.heap.size) (x1 x2 : Int) (H : ∀ W, w.grownBy W none → Calls Tryd.prog 48 #[p, .agg #[.int .i64 x1, .int .i64 x2]] W fun e w' => e = .returned v ∧ Gr K W w' ∧ R w') :
    Calls Tryd.prog 40 #[.pointer (some ⟨g, 0, none⟩), .agg #[.int .i64 x1, .int .i64 x2]] w fun e w' => e = .returned v ∧ Gr K w w' ∧ R w' := by
  have HH := Lib.hid (fun W (hg : w.grownBy W none) => (H W hg).mono (fun e w' h => (⟨h.1, (Gr.new hg).trans h.2.1, h.2.2, h.2.1⟩ : e = .returned v ∧ Gr K w w' ∧ R w' ∧ Gr K W w')))
  have G0 := Lib.hid (World.grownBy_alloc w (.cells #[.int .i64 x1, .int .i64 x2] 43) none)
  have E0 := Lib.hid (sk.En.made w x1 x2)
  obtain ⟨f0, f1, _, _, _⟩ := E0.out.f
  have f := (⟨G0.out.cell c (by simp), f0, f1⟩ : _ ∧ _ ∧ _)
  have NB := Lib.hid (show w.heap.size ∉ K from fun e => Nat.lt_irrefl _ (hK _ e))
  have NG := Lib.hid hg
  clear f0 f1 H hK hg c
  go_enter Tryd.func40, Tryd.ntmps40
  go_wp2
  go_region_held3 (fun W => W.cell? ⟨g, 0, none⟩ = some p ∧ W.cell? ⟨w.heap.size, 0, none⟩ = some (.int .i64 x1) ∧ W.cell? ⟨w.heap.size, 1, none⟩ = some (.int .i64 x2)) (first | exact f | exact ff | go_keep) (
    (go_at_call 48; (with_reducible refine (HH.out _ (by first | exact G0.out | exact G0.out.trans (grown_drew _ _) | exact G0.out.trans (li.grown_drewN _ _ _))).mono ?_); rintro e w2 ⟨rfl, hg, hr, hg2⟩; have R2 := Lib.hid hr; have G2 := Lib.hid hg; have ff := (⟨hg2.cell (p := ⟨g, 0, none⟩) f.1 NG.out, hg2.cell (p := ⟨w.heap.size, 0, none⟩) f.2.1 NB.out, hg2.cell (p := ⟨w.heap.size, 1, none⟩) f.2.2 NB.out⟩ : _ ∧ _ ∧ _); clear hg hr hg2))
  go_wp2
  go_ret
  exact ⟨rfl, G2.out, R2.out⟩
theorem wnext (h : Gk w g k B K r s) : Calls Tryd.prog 34 #[.pointer (some ⟨g, 0, none⟩)] w fun e w' => e = sk.vb (top s.m) (decide (s.m ≠ [])) ∧ sk.Sk w' K k r s.b s.m.dropLast ∧ Gr K w w' := by
  have G0 := Lib.hid (World.grownBy_alloc w (.cells #[.int .i64 0, .int .i64 0] 43) none)
  have E0 := Lib.hid (sk.En.made w 0 0)
  have c0 := h.c0
  have PP := Lib.hid (Pop_any (h.sk.new G0.out))
  have NB := Lib.hid (show w.heap.size ∉ K from fun e => Nat.lt_irrefl _ (h.sk.lt _ e))
  have glt := h.lt g (by simp)
  generalize top s.m = x at PP
  generalize decide (s.m ≠ []) = d at PP
  obtain ⟨x1, x2⟩ := x
  clear h
  go_enter Tryd.func34, Tryd.ntmps34
  go_wp2_with (go_at_call 47; (with_reducible refine PP.out.mono ?_); rintro e w2 ⟨rfl, hs, hg⟩; obtain ⟨f0, f1, z0, z1, lt2⟩ := (E0.out.gr hg NB.out).f; have S2 := Lib.hid hs; have G2 := Lib.hid ((Gr.new G0.out).trans hg); clear hs hg)
  have GR := sk.grown_two w2 w.heap.size (.int .i64 x1) (.int .i64 x2)
  refine bodyPost_ret (v := .tuple #[.agg #[.int .i64 x1, .int .i64 x2], .bool d]) ?_ rfl ⟨rfl, ?_, ?_⟩
  · simp [results, Tryd.results34, go_sem, *]
  · exact S2.out.gr (Gr.one (L := [w.heap.size]) GR (by simp)) (fun q hq e => by rw [List.mem_singleton] at e; subst e; exact NB.out hq)
  · exact sk.gr_aside G2.out GR (Nat.le_refl _)
theorem wnext_nil (c : w.cell? ⟨g, 0, none⟩ = some (.pointer none)) : Calls Tryd.prog 34 #[.pointer (some ⟨g, 0, none⟩)] w fun e w' => e = sk.vb (0, 0) false ∧ w.grownBy w' none := by
  have G0 := Lib.hid (World.grownBy_alloc w (.cells #[.int .i64 0, .int .i64 0] 43) none)
  have E0 := Lib.hid (sk.En.made w 0 0)
  have PP := Lib.hid (fun W => sk.Pop_nil W)
  have glt : g < w.heap.size := World.block_lt_of_cell? _ _ c
  go_enter Tryd.func34, Tryd.ntmps34
  go_wp2_with (go_at_call 47; (with_reducible refine (PP.out _).mono ?_); rintro e w2 ⟨rfl, hg⟩; obtain ⟨f0, f1, z0, z1, lt2⟩ := (E0.out.new hg).f; have G2 := Lib.hid (G0.out.trans hg); clear hg)
  refine bodyPost_ret (v := .tuple #[.agg #[.int .i64 0, .int .i64 0], .bool false]) ?_ rfl ⟨rfl, ?_⟩
  · simp [results, Tryd.results34, go_sem, *]
  · exact li.grown_new G2.out (sk.grown_two _ _ _ _) (Nat.le_refl _)
end
/-! ### there -/
/-- A zero one; one that New did not make: nil, or a zero one. -/
def Od (w : World) (B : Nat) : Prop := w.heap[B]? = some (.cells #[.pointer none, .pointer none] 41 (0, 0))
def No (w : World) (p : Value) : Prop := p = .pointer none ∨ ∃ B, p = .pointer (some ⟨B, 0, none⟩) ∧ Od w B
section
variable {w w' W : World} {g k r B : Nat} {K L : List Nat} {s : Ps} {p v : Value} {x1 x2 : Int}
theorem Od.new (h : Od w B) (hg : w.grownBy w' none) : Od w' B := (Gr.new (L := []) hg).heap h (by simp)
theorem Od.c (h : Od w B) : w.cell? ⟨B, 0, none⟩ = some (.pointer none) ∧ w.cell? ⟨B, 1, none⟩ = some (.pointer none) := ⟨by rw [cell_of_row w B 0 _ _ _ h]; rfl, by rw [cell_of_row w B 1 _ _ _ h]; rfl⟩
theorem No.new (h : No w p) (hg : w.grownBy w' none) : No w' p := h.imp id (fun ⟨B, e, h⟩ => ⟨B, e, h.new hg⟩)
theorem there_any (g : Nat) (w : World) : Calls Tryd.prog 31 #[.pointer (some ⟨g, 0, none⟩)] w fun e w' => e = .returned (.pointer (some ⟨g, 0, none⟩)) ∧ w = w' := by
  go_enter Tryd.func31, Tryd.ntmps31
  go_wp2
  go_ret
  exact ⟨rfl, rfl⟩
theorem there_no (h : No w p) : Calls Tryd.prog 31 #[p] w fun e w' => ∃ B, e = .returned (.pointer (some ⟨B, 0, none⟩)) ∧ Od w' B ∧ w.grownBy w' none := by
  rcases h with rfl | ⟨B, rfl, h⟩
  · have Z := Lib.hid (show Od (w.alloc (.cells #[.pointer none, .pointer none] 41)) w.heap.size from heap_alloc_new _ _)
    go_enter Tryd.func31, Tryd.ntmps31
    go_wp2
    go_ret
    exact ⟨_, rfl, Z.out, World.grownBy_alloc _ _ _⟩
  · exact (there_any B w).mono fun e w' ⟨h1, h2⟩ => ⟨B, h1, h2 ▸ h, h2 ▸ World.grownBy.refl _ _⟩
theorem Waiting_any (h : Gy w L g r s) : Calls Tryd.prog 20 #[.pointer (some ⟨g, 0, none⟩)] w fun e w' => e = .returned (.int .i64 s.m.length) ∧ w = w' := by
  obtain ⟨k, c, K, h, rfl⟩ := h
  have X := Lib.hid (wwaiting h.c0 (sk.Len_any h.sk))
  generalize s.m.length = n at X
  clear h
  go_enter Tryd.func20, Tryd.ntmps20
  go_wp2_with (first
    | (go_at_call 31; (with_reducible refine (there_any g _).mono ?_); rintro e w' ⟨rfl, hw⟩; subst hw)
    | (go_at_call 41; (with_reducible refine X.out.mono ?_); rintro e w' ⟨rfl, hw⟩; subst hw))
  go_ret
  exact ⟨rfl, rfl⟩
theorem Waiting_no (h : No w p) : Calls Tryd.prog 20 #[p] w fun e w' => e = .returned (.int .i64 0) ∧ w.grownBy w' none := by
  have H0 := Lib.hid h
  clear h
  go_enter Tryd.func20, Tryd.ntmps20
  go_wp2_with (first
    | (go_at_call 31; (with_reducible refine (there_no H0.out).mono ?_); rintro e w1 ⟨B, rfl, ho, hg⟩; obtain ⟨c0, c1⟩ := ho.c; have G1 := Lib.hid hg; clear ho hg)
    | (go_at_call 41; (with_reducible refine (wwaiting c0 (sk.Len_nil _)).mono ?_); rintro e w2 ⟨rfl, hg⟩; have G2 := Lib.hid (G1.out.trans hg); clear hg))
  go_ret
  exact ⟨rfl, G2.out⟩
theorem Over_any (h : Gy w L g r s) : Calls Tryd.prog 21 #[.pointer (some ⟨g, 0, none⟩)] w fun e w' => e = .returned (.bool s.b) ∧ w = w' := by
  obtain ⟨k, c, K, h, rfl⟩ := h
  have X := Lib.hid (wover h.c0 (sk.Over_any h.sk))
  generalize s.b = n at X
  clear h
  go_enter Tryd.func21, Tryd.ntmps21
  go_wp2_with (first
    | (go_at_call 31; (with_reducible refine (there_any g _).mono ?_); rintro e w' ⟨rfl, hw⟩; subst hw)
    | (go_at_call 42; (with_reducible refine X.out.mono ?_); rintro e w' ⟨rfl, hw⟩; subst hw))
  go_ret
  exact ⟨rfl, rfl⟩
theorem Over_no (h : No w p) : Calls Tryd.prog 21 #[p] w fun e w' => e = .returned (.bool false) ∧ w.grownBy w' none := by
  have H0 := Lib.hid h
  clear h
  go_enter Tryd.func21, Tryd.ntmps21
  go_wp2_with (first
    | (go_at_call 31; (with_reducible refine (there_no H0.out).mono ?_); rintro e w1 ⟨B, rfl, ho, hg⟩; obtain ⟨c0, c1⟩ := ho.c; have G1 := Lib.hid hg; clear ho hg)
    | (go_at_call 42; (with_reducible refine (wover c0 (sk.Over_nil _)).mono ?_); rintro e w2 ⟨rfl, hg⟩; have G2 := Lib.hid (G1.out.trans hg); clear hg))
  go_ret
  exact ⟨rfl, G2.out⟩
theorem Settle_any (h : Gy w L g r s) : Calls Tryd.prog 22 #[.pointer (some ⟨g, 0, none⟩)] w (Ga L g r (.bool s.b) s.settle w) := by
  obtain ⟨k, c, K, h, rfl⟩ := h
  have X := Lib.hid ((wsettle h.c0 (sk.Settle_any h.sk)).mono (fun e w' (k : e = .returned (.bool s.b) ∧ _) => (show e = .returned (.bool s.b) ∧ Ga (g :: c :: K) g r (.bool s.b) s.settle w e w' from ⟨k.1, k.1, _, h.stack k.2.1 (fun q hq => .inl hq) k.2.2⟩)))
  generalize s.b = n at X
  clear h
  go_enter Tryd.func22, Tryd.ntmps22
  go_wp2_with (first
    | (go_at_call 31; (with_reducible refine (there_any g _).mono ?_); rintro e w' ⟨rfl, hw⟩; subst hw)
    | (go_at_call 43; (with_reducible refine X.out.mono ?_); rintro e w2 ⟨rfl, hr⟩; have R2 := Lib.hid hr; clear hr))
  go_ret
  exact R2.out
theorem Settle_no (h : No w p) : Calls Tryd.prog 22 #[p] w fun e w' => e = .returned (.bool false) ∧ w.grownBy w' none := by
  have H0 := Lib.hid h
  clear h
  go_enter Tryd.func22, Tryd.ntmps22
  go_wp2_with (first
    | (go_at_call 31; (with_reducible refine (there_no H0.out).mono ?_); rintro e w1 ⟨B, rfl, ho, hg⟩; obtain ⟨c0, c1⟩ := ho.c; have G1 := Lib.hid hg; clear ho hg)
    | (go_at_call 43; (with_reducible refine (wsettle c0 (sk.Settle_nil _)).mono ?_); rintro e w2 ⟨rfl, hg⟩; have G2 := Lib.hid (G1.out.trans hg); clear hg))
  go_ret
  exact ⟨rfl, G2.out⟩
theorem Next_any (h : Gy w L g r s) : Calls Tryd.prog 13 #[.pointer (some ⟨g, 0, none⟩)] w (Ga L g r (.tuple #[.agg #[.int .i64 (top s.m).1, .int .i64 (top s.m).2], .bool (decide (s.m ≠ []))]) s.pop w) := by
  obtain ⟨k, c, K, h, rfl⟩ := h
  have G0 := Lib.hid (World.grownBy_alloc w (.cells #[.int .i64 0, .int .i64 0] 43) none)
  have E0 := Lib.hid (sk.En.made w 0 0)
  have NB := Lib.hid (show w.heap.size ∉ K from fun e => Nat.lt_irrefl _ (h.sk.lt _ e))
  have FIN := Lib.hid (fun (w2 w3 : World) (hs : sk.Sk w2 K k r s.b s.m.dropLast) (hg : Gr K w w2) (gr : w2.grownBy w3 (some w.heap.size)) => (show (∃ L', (∀ q, q ∈ L' → q ∈ g :: c :: K ∨ w.heap.size ≤ q) ∧ Gy w3 L' g r s.pop ∧ Gr (g :: c :: K) w w3) from by
    obtain ⟨h1, h2, h3⟩ := h.stack hs (fun q hq => .inl hq) hg
    have N : w.heap.size ∉ g :: c :: K := fun e => Nat.lt_irrefl _ (h.lt _ e)
    exact ⟨_, h1, h2.gr (Gr.one (L := [w.heap.size]) gr (by simp)) (fun q hq e => by rw [List.mem_singleton] at e; subst e; exact N hq), sk.gr_aside h3 gr (Nat.le_refl _)⟩))
  have X := Lib.hid (wnext (h.new G0.out))
  have glt := h.lt g (by simp)
  generalize top s.m = x at X
  generalize decide (s.m ≠ []) = d at X
  obtain ⟨x1, x2⟩ := x
  clear h
  go_enter Tryd.func13, Tryd.ntmps13
  go_wp2_with (first
    | (go_at_call 31; (with_reducible refine (there_any g _).mono ?_); rintro e w' ⟨rfl, hw⟩; subst hw)
    | (go_at_call 34; (with_reducible refine X.out.mono ?_); rintro e w2 ⟨rfl, hs, hg⟩; obtain ⟨f0, f1, z0, z1, lt2⟩ := (E0.out.gr hg NB.out).f; have S2 := Lib.hid hs; have G2 := Lib.hid ((Gr.new G0.out).trans hg); clear hs hg))
  have GR := sk.grown_two w2 w.heap.size (.int .i64 x1) (.int .i64 x2)
  refine bodyPost_ret (v := .tuple #[.agg #[.int .i64 x1, .int .i64 x2], .bool d]) ?_ rfl ⟨rfl, ?_⟩
  · simp [results, Tryd.results13, go_sem, *]
  · exact FIN.out _ _ S2.out G2.out GR
theorem Next_no (h : No w p) : Calls Tryd.prog 13 #[p] w fun e w' => e = sk.vb (0, 0) false ∧ w.grownBy w' none := by
  have G0 := Lib.hid (World.grownBy_alloc w (.cells #[.int .i64 0, .int .i64 0] 43) none)
  have E0 := Lib.hid (sk.En.made w 0 0)
  have H0 := Lib.hid (h.new G0.out)
  clear h
  go_enter Tryd.func13, Tryd.ntmps13
  go_wp2_with (first
    | (go_at_call 31; (with_reducible refine (there_no H0.out).mono ?_); rintro e w1 ⟨B, rfl, ho, hg⟩; obtain ⟨c0, c1⟩ := ho.c; have G1 := Lib.hid hg; clear ho hg)
    | (go_at_call 34; (with_reducible refine (wnext_nil c0).mono ?_); rintro e w2 ⟨rfl, hg⟩; obtain ⟨f0, f1, z0, z1, lt2⟩ := ((E0.out.new G1.out).new hg).f; have G2 := Lib.hid ((G0.out.trans G1.out).trans hg); clear hg))
  refine bodyPost_ret (v := .tuple #[.agg #[.int .i64 0, .int .i64 0], .bool false]) ?_ rfl ⟨rfl, ?_⟩
  · simp [results, Tryd.results13, go_sem, *]
  · exact li.grown_new G2.out (sk.grown_two _ _ _ _) (Nat.le_refl _)
end
end Go.Proofs.YtokjpibaaioehaaDoor.sh
