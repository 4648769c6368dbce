/- Texts that this claim stands on. -/
import Derived.Test.YtkgdcgmbapchcaaGreatDoorQShX
namespace Go.Proofs.YtkgdcgmbapchcaaGreatDoor.sh
open Go.ChangeShapes Go.WideShapes Go.ChangeAt Go.RowKit gen li en gr
set_option linter.unusedVariables false
set_option maxHeartbeats 4000000
set_option maxRecDepth 100000
section
variable {w w' W : World} {g k r B : Nat} {K L : List Nat} {s : Ps} {p v : Value} {x1 x2 : Int}
theorem Black_any (h : Gy w L g r s) (z : Int) : Calls Tryz.prog 156 #[.pointer (some ⟨g, 0, none⟩), .int .i64 z] w (Ga L g r (.bool (newb s.ws z)) (s.black z) w) := by
  obtain ⟨k, c, K, h, rfl⟩ := h
  have c1 := h.c1
  have X := Lib.hid ((SAdd h.st z).mono (fun e w' (k : e = .returned (.bool (newb s.ws z)) ∧ _) => (show e = .returned (.bool (newb s.ws z)) ∧ Ga (g :: c :: K) g r (.bool (newb s.ws z)) (s.black z) w e w' from ⟨k.1, k.1, _, fun q hq => .inl hq, h.mark k.2.1 k.2.2⟩)))
  generalize newb s.ws z = d at X
  clear h
  go_enter Tryz.func156, Tryz.ntmps156
  go_wp2_with (first
    | (go_at_call 199; (with_reducible refine (there_any g _).mono ?_); rintro e w' ⟨rfl, hw⟩; subst hw)
    | (go_at_call 222; (with_reducible refine X.out.mono ?_); rintro e w2 ⟨rfl, hr⟩; have R2 := Lib.hid hr; clear hr))
  go_ret
  exact R2.out
theorem Clear_any (h : Gy w L g r s) (z : Int) : Calls Tryz.prog 213 #[.pointer (some ⟨g, 0, none⟩), .int .i64 z] w (Ga L g r (.bool (isb s.ws z)) (s.clear z) w) := by
  obtain ⟨k, c, K, h, rfl⟩ := h
  have c1 := h.c1
  have X := Lib.hid ((SRemove h.st z).mono (fun e w' (k : e = .returned (.bool (isb s.ws z)) ∧ _) => (show e = .returned (.bool (isb s.ws z)) ∧ Ga (g :: c :: K) g r (.bool (isb s.ws z)) (s.clear z) w e w' from ⟨k.1, k.1, _, fun q hq => .inl hq, h.mark k.2.1 k.2.2⟩)))
  generalize isb s.ws z = d at X
  clear h
  go_enter Tryz.func213, Tryz.ntmps213
  go_wp2_with (first
    | (go_at_call 199; (with_reducible refine (there_any g _).mono ?_); rintro e w' ⟨rfl, hw⟩; subst hw)
    | (go_at_call 259; (with_reducible refine X.out.mono ?_); rintro e w2 ⟨rfl, hr⟩; have R2 := Lib.hid hr; clear hr))
  go_ret
  exact R2.out
theorem Is_any (h : Gy w L g r s) (z : Int) : Calls Tryz.prog 130 #[.pointer (some ⟨g, 0, none⟩), .int .i64 z] w fun e w' => e = .returned (.bool (isb s.ws z)) ∧ w.grownBy w' none := by
  obtain ⟨k, c, K, h, rfl⟩ := h
  have c1 := h.c1
  have X := Lib.hid (SHas h.st z)
  generalize isb s.ws z = d at X
  clear h
  go_enter Tryz.func130, Tryz.ntmps130
  go_wp2_with (first
    | (go_at_call 199; (with_reducible refine (there_any g _).mono ?_); rintro e w' ⟨rfl, hw⟩; subst hw)
    | (go_at_call 200; (with_reducible refine X.out.mono ?_); rintro e w2 ⟨rfl, hr⟩; have R2 := Lib.hid hr; clear hr))
  go_ret
  exact ⟨rfl, R2.out⟩
theorem All_any (h : Gy w L g r s) (hT : bm.Tab w) : Calls Tryz.prog 149 #[.pointer (some ⟨g, 0, none⟩)] w (bm.ListAns (bm.nums s.ws) w) := by
  obtain ⟨k, c, K, h, rfl⟩ := h
  have c1 := h.c1
  have X := Lib.hid (bm.All_yes h.st hT (fun e => (by
    have h1 := h.st.1
    rw [e] at h1
    have := hT.2 0 (by omega)
    rw [cell_of_row w _ 0 _ _ _ h1] at this
    cases this)))
  generalize bm.nums s.ws = d at X
  clear h
  go_enter Tryz.func149, Tryz.ntmps149
  go_wp2_with (first
    | (go_at_call 199; (with_reducible refine (there_any g _).mono ?_); rintro e w' ⟨rfl, hw⟩; subst hw)
    | (go_at_call 198; (with_reducible refine X.out.mono ?_); rintro e w2 ⟨A, n, rfl, hr⟩; have R2 := Lib.hid hr; clear hr))
  go_ret
  exact ⟨A, n, rfl, R2.out⟩
theorem shade_fin {w2 w3 : World} {c : Nat} {L2 : List Nat} {x : Va} {s : Ps} (hl : ∀ q, q ∈ L2 → q ∈ L ∨ w.heap.size ≤ q) (h2 : Gk w2 g k c K r s) (hL2 : L2 = g :: c :: K) (hg : Gr L w w2)
    (hp : Gr K w2 w3 ∧ ∃ K', (∀ q, q ∈ K' → q ∈ K ∨ w2.heap.size ≤ q) ∧ sk.Sk w3 K' k r (s.push r x).b (s.push r x).m) : ∃ L3, (∀ q, q ∈ L3 → q ∈ L ∨ w.heap.size ≤ q) ∧ Gy w3 L3 g r (s.push r x) ∧ Gr L w w3 := by
  subst hL2
  obtain ⟨h3, K', h4, h5⟩ := hp
  obtain ⟨p1, p2, p3⟩ := h2.stack h5 h4 h3
  rw [Ps.push_ws] at p2
  exact ⟨_, fun q hq => (p1 q hq).elim (hl q) (fun e => .inr (Nat.le_trans hg.size e)), p2, hg.own p3 hl⟩
theorem Shade_any (h : Gy w L g r s) (z : Int) : Calls Tryz.prog 132 #[.pointer (some ⟨g, 0, none⟩), .int .i64 z] w (Ga L g r (.bool (newb s.ws z)) (s.shade r z) w) := by
  have X := Lib.hid (Black_any h z)
  have HR := Lib.hid h.r1
  have SB := Lib.hid (show s.black z = (s.black z) from rfl)
  cases hd : newb s.ws z with
  | false =>
    have FIN := Lib.hid (show s.shade r z = s.black z from by simp [Ps.shade, Ps.black, mkd, hd])
    rw [hd] at X
    clear h
    go_enter Tryz.func132, Tryz.ntmps132
    go_wp2_with (go_at_call 156; (with_reducible refine X.out.mono ?_); rintro e w2 ⟨rfl, hr⟩; have R2 := Lib.hid hr; clear hr)
    go_ret
    rw [FIN.out]
    exact ⟨rfl, R2.out⟩
  | true =>
    have FIN := Lib.hid (show s.shade r z = (s.black z).push r (z, 0) from by simp [Ps.shade, hd])
    rw [hd] at X
    clear h
    go_enter Tryz.func132, Tryz.ntmps132
    go_wp2_with (first
      | (go_at_call 201; (with_reducible refine (PU.out).mono ?_); rintro e w3 ⟨rfl, hr⟩; have R3 := Lib.hid hr; clear hr)
      | (go_at_call 156; (with_reducible refine X.out.mono ?_); rintro e w2 ⟨rfl, L2, hl, ⟨k, c, K, h2, hL2⟩, hg⟩; have l2 := Lib.hid hl; have H2 := Lib.hid h2; have G2 := Lib.hid hg; have HL2 := Lib.hid hL2; have g0 := h2.c0; have PU := Lib.hid (wwait (v := .bool (decide ((s.black z).m.length < r))) (R := fun w3 => ∃ L3, (∀ q, q ∈ L3 → q ∈ L ∨ w.heap.size ≤ q) ∧ Gy w3 L3 g r ((s.black z).push r (z, 0)) ∧ Gr L w w3) h2.c0 z ((Push_any h2.sk h2.r1 z 0).mono (fun e w3 k => ⟨k.1, shade_fin hl h2 hL2 hg k.2⟩))); clear hl h2 hg hL2))
    go_ret
    rw [FIN.out]
    exact ⟨rfl, R3.out⟩
theorem Rest_any (h : Gy w L g r s) (x1 x2 : Int) : Calls Tryz.prog 210 #[.pointer (some ⟨g, 0, none⟩), .agg #[.int .i64 x1, .int .i64 x2]] w (Ga L g r (.bool (decide (s.m.length < r))) (s.push r (x1, x2)) w) := by
  obtain ⟨k, c, K, h, rfl⟩ := h
  have G0 := Lib.hid (World.grownBy_alloc w (.cells #[.int .i64 x1, .int .i64 x2] 157) none)
  have E0 := Lib.hid (sk.En.made w x1 x2)
  obtain ⟨f0, f1, _, _, _⟩ := E0.out.f
  have f := And.intro f0 f1
  clear f0 f1
  have N := Lib.hid (show w.heap.size ∉ g :: c :: K from fun e => Nat.lt_irrefl _ (h.lt _ e))
  have X := Lib.hid (fun W (hg : w.grownBy W none) => (wrest (v := .bool (decide (s.m.length < r))) (R := fun w3 => (∃ L', (∀ q, q ∈ L' → q ∈ g :: c :: K ∨ w.heap.size ≤ q) ∧ Gy w3 L' g r (s.push r (x1, x2)) ∧ Gr (g :: c :: K) w w3)) (h.new hg).c0 h.ng (h.new hg).sk.lt x1 x2
    (fun W2 hg2 => (Push_any ((h.new hg).new hg2).sk h.r1 x1 x2).mono (fun e w3 k => ⟨k.1, k.2.1, shade_fin (fun q hq => .inl hq) ((h.new hg).new hg2) rfl (Gr.new (hg.trans hg2)) k.2⟩))).mono (fun e w' k => (⟨k.1, k.2.2, k.2.1.mono (fun q hq => by simp [hq])⟩ : e = .returned (.bool (decide (s.m.length < r))) ∧ _ ∧ Gr (g :: c :: K) W w')))
  generalize decide (s.m.length < r) = d at X
  clear h
  go_enter Tryz.func210, Tryz.ntmps210
  go_wp2
  go_region_held3 (fun W => W.cell? ⟨w.heap.size, 0, none⟩ = some (.int .i64 x1) ∧ W.cell? ⟨w.heap.size, 1, none⟩ = some (.int .i64 x2)) (first | exact f | exact ff | go_keep) (first
    | (go_at_call 199; (with_reducible refine (there_any g _).mono ?_); rintro e w' ⟨rfl, hw⟩; subst hw)
    | (go_at_call 257; (with_reducible refine (X.out _ (by first | exact G0.out | exact G0.out.trans (grown_drew _ _) | exact G0.out.trans (li.grown_drewN _ _ _))).mono ?_); rintro e w2 ⟨rfl, hr, hg2⟩; have R2 := Lib.hid hr; have ff := (⟨hg2.cell (p := ⟨w.heap.size, 0, none⟩) f.1 N.out, hg2.cell (p := ⟨w.heap.size, 1, none⟩) f.2 N.out⟩ : _ ∧ _); clear hr hg2))
  go_wp2
  go_ret
  exact ⟨rfl, R2.out⟩
end
end Go.Proofs.YtkgdcgmbapchcaaGreatDoor.sh
namespace Go.Proofs.YtkgdcgmbapchcaaGreatDoor.sh
open Go.ChangeShapes Go.WideShapes Go.ChangeAt Go.RowKit gen li en gr
set_option linter.unusedVariables false
set_option maxHeartbeats 4000000
set_option maxRecDepth 100000
def NewG (r : Nat) (s : Ps) (w : World) (e : Ending) (w' : World) : Prop := ∃ g L, e = .returned (.pointer (some ⟨g, 0, none⟩)) ∧ Gy w' L g r s ∧ (∀ q, q ∈ L → w.heap.size ≤ q) ∧ w.grownBy w' none
section
variable {w w' W w1 w2 : World} {g k c r B : Nat} {K L : List Nat} {s : Ps} {p v : Value}
theorem NewG.fin {m : List Va} {b : Bool} {ws : List Nat} (hr : 1 ≤ r) (hg : w.grownBy w1 none) (hs : sk.Sk w1 K k r b m) (hK : ∀ q, q ∈ K → w.heap.size ≤ q) (hg2 : w1.grownBy w2 none) (hc : bm.SetAt w2 c true 2048 ws) (hc1 : w.heap.size ≤ c) :
    NewG r ⟨ws, m, b⟩ w (.returned (.pointer (some ⟨w2.heap.size, 0, none⟩))) (w2.alloc (.cells #[.pointer (some ⟨k, 0, none⟩), .pointer (some ⟨c, 0, none⟩)] 180)) := by
  have G := World.grownBy_alloc w2 (.cells #[.pointer (some ⟨k, 0, none⟩), .pointer (some ⟨c, 0, none⟩)] 180) none
  refine ⟨_, _, rfl, ⟨k, c, K, ⟨heap_alloc_new _ _, (hs.new hg2).new G, hc.kept G (by simp), hr⟩, rfl⟩, fun q hq => ?_, (hg.trans hg2).trans G⟩
  rcases List.mem_cons.1 hq with rfl | hq
  · exact (hg.trans hg2).size
  rcases List.mem_cons.1 hq with rfl | hq
  · exact hc1
  · exact hK q hq
theorem New_any (n : Int) (r : Nat) (hk : sk.near n 1 256 = r) (h1 : 1 ≤ r) (h8 : r ≤ 256) (w : World) : Calls Tryz.prog 101 #[.int .i64 n] w (NewG r none0 w) := by
  have X := Lib.hid (sk.New_any n r hk h8 w)
  have Y := Lib.hid (fun W => bm.New_any 2048 2048 (by decide) W)
  have H1 := Lib.hid h1
  clear hk h1 h8
  go_enter Tryz.func101, Tryz.ntmps101
  go_wp2_with (first
    | (go_at_call 173; (with_reducible refine X.out.mono ?_); rintro e w1 ⟨k, K, rfl, hs, hK, hg⟩; have S1 := Lib.hid hs; have K1 := Lib.hid hK; have G1 := Lib.hid hg; clear hs hK hg)
    | (go_at_call 174; (with_reducible refine (Y.out _).mono ?_); rintro e w2 ⟨c, rfl, hc, hc1, hg⟩; have C2 := Lib.hid hc; have D2 := Lib.hid (Nat.le_trans G1.out.size hc1); have G2 := Lib.hid hg; clear hc hc1 hg))
  go_ret
  exact NewG.fin H1.out G1.out S1.out K1.out G2.out C2.out D2.out
end
end Go.Proofs.YtkgdcgmbapchcaaGreatDoor.sh
