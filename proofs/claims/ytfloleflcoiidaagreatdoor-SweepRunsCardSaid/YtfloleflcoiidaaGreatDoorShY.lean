/- Joined: ShC, ShD. -/
import Derived.Test.YtfloleflcoiidaaGreatDoorShX
/- A grey's calls that mark, that let wait, New, All and Clone; and what nil's, and a zero one's, answer. -/
namespace Go.Proofs.YtfloleflcoiidaaGreatDoor.sh
open Go.ChangeShapes Go.WideShapes Go.ChangeAt Go.RowKit gen li en gr
set_option linter.unusedVariables false
set_option maxHeartbeats 4000000
set_option maxRecDepth 100000
section
variable {w w' W : World} {g k r B : Nat} {K L : List Nat} {s : Ps} {p v : Value} {x1 x2 : Int}
theorem Black_any (h : Gy w L g r s) (z : Int) : Calls Tryz.prog 24 #[.pointer (some ⟨g, 0, none⟩), .int .i64 z] w (Ga L g r (.bool (newb s.ws z)) (s.black z) w) := by
  obtain ⟨k, c, K, h, rfl⟩ := h
  have c1 := h.c1
  have X := Lib.hid ((SAdd h.st z).mono (fun e w' (k : e = .returned (.bool (newb s.ws z)) ∧ _) => (show e = .returned (.bool (newb s.ws z)) ∧ Ga (g :: c :: K) g r (.bool (newb s.ws z)) (s.black z) w e w' from ⟨k.1, k.1, _, fun q hq => .inl hq, h.mark k.2.1 k.2.2⟩)))
  generalize newb s.ws z = d at X
  clear h
  go_enter Tryz.func24, Tryz.ntmps24
  go_wp2_with (first
    | (go_at_call 36; (with_reducible refine (there_any g _).mono ?_); rintro e w' ⟨rfl, hw⟩; subst hw)
    | (go_at_call 51; (with_reducible refine X.out.mono ?_); rintro e w2 ⟨rfl, hr⟩; have R2 := Lib.hid hr; clear hr))
  go_ret
  exact R2.out
theorem Clear_any (h : Gy w L g r s) (z : Int) : Calls Tryz.prog 69 #[.pointer (some ⟨g, 0, none⟩), .int .i64 z] w (Ga L g r (.bool (isb s.ws z)) (s.clear z) w) := by
  obtain ⟨k, c, K, h, rfl⟩ := h
  have c1 := h.c1
  have X := Lib.hid ((SRemove h.st z).mono (fun e w' (k : e = .returned (.bool (isb s.ws z)) ∧ _) => (show e = .returned (.bool (isb s.ws z)) ∧ Ga (g :: c :: K) g r (.bool (isb s.ws z)) (s.clear z) w e w' from ⟨k.1, k.1, _, fun q hq => .inl hq, h.mark k.2.1 k.2.2⟩)))
  generalize isb s.ws z = d at X
  clear h
  go_enter Tryz.func69, Tryz.ntmps69
  go_wp2_with (first
    | (go_at_call 36; (with_reducible refine (there_any g _).mono ?_); rintro e w' ⟨rfl, hw⟩; subst hw)
    | (go_at_call 106; (with_reducible refine X.out.mono ?_); rintro e w2 ⟨rfl, hr⟩; have R2 := Lib.hid hr; clear hr))
  go_ret
  exact R2.out
theorem Black_no (h : No w p) (z : Int) : Calls Tryz.prog 24 #[p, .int .i64 z] w fun e w' => e = .returned (.bool false) ∧ w.grownBy w' none := by
  have H0 := Lib.hid h
  clear h
  go_enter Tryz.func24, Tryz.ntmps24
  go_wp2_with (first
    | (go_at_call 36; (with_reducible refine (there_no H0.out).mono ?_); rintro e w1 ⟨B, rfl, ho, hg⟩; obtain ⟨c0, c1⟩ := ho.c; have G1 := Lib.hid hg; clear ho hg)
    | (go_at_call 51; (with_reducible refine (SAdd_nil _ _).mono ?_); rintro e w2 ⟨rfl, hw⟩; first | subst hw | (have hw2 := hw.symm; subst hw2)))
  go_ret
  exact ⟨rfl, G1.out⟩
theorem Clear_no (h : No w p) (z : Int) : Calls Tryz.prog 69 #[p, .int .i64 z] w fun e w' => e = .returned (.bool false) ∧ w.grownBy w' none := by
  have H0 := Lib.hid h
  clear h
  go_enter Tryz.func69, Tryz.ntmps69
  go_wp2_with (first
    | (go_at_call 36; (with_reducible refine (there_no H0.out).mono ?_); rintro e w1 ⟨B, rfl, ho, hg⟩; obtain ⟨c0, c1⟩ := ho.c; have G1 := Lib.hid hg; clear ho hg)
    | (go_at_call 106; (with_reducible refine (SRemove_nil _ _).mono ?_); rintro e w2 ⟨rfl, hw⟩; first | subst hw | (have hw2 := hw.symm; subst hw2)))
  go_ret
  exact ⟨rfl, G1.out⟩
theorem Is_no (h : No w p) (z : Int) : Calls Tryz.prog 26 #[p, .int .i64 z] w fun e w' => e = .returned (.bool false) ∧ w.grownBy w' none := by
  have H0 := Lib.hid h
  clear h
  go_enter Tryz.func26, Tryz.ntmps26
  go_wp2_with (first
    | (go_at_call 36; (with_reducible refine (there_no H0.out).mono ?_); rintro e w1 ⟨B, rfl, ho, hg⟩; obtain ⟨c0, c1⟩ := ho.c; have G1 := Lib.hid hg; clear ho hg)
    | (go_at_call 53; (with_reducible refine (SHas_nil _ _).mono ?_); rintro e w2 ⟨rfl, hw⟩; first | subst hw | (have hw2 := hw.symm; subst hw2)))
  go_ret
  exact ⟨rfl, G1.out⟩
theorem Count_no (h : No w p) : Calls Tryz.prog 16 #[p] w fun e w' => e = .returned (.int .i64 0) ∧ w.grownBy w' none := by
  have H0 := Lib.hid h
  clear h
  go_enter Tryz.func16, Tryz.ntmps16
  go_wp2_with (first
    | (go_at_call 36; (with_reducible refine (there_no H0.out).mono ?_); rintro e w1 ⟨B, rfl, ho, hg⟩; obtain ⟨c0, c1⟩ := ho.c; have G1 := Lib.hid hg; clear ho hg)
    | (go_at_call 44; (with_reducible refine (bm.Count_nil _).mono ?_); rintro e w2 ⟨rfl, hw⟩; first | subst hw | (have hw2 := hw.symm; subst hw2)))
  go_ret
  exact ⟨rfl, G1.out⟩
theorem All_no (h : No w p) : Calls Tryz.prog 11 #[p] w fun e w' => e = .returned (.slice none 0 0) ∧ w.grownBy w' none := by
  have H0 := Lib.hid h
  clear h
  go_enter Tryz.func11, Tryz.ntmps11
  go_wp2_with (first
    | (go_at_call 36; (with_reducible refine (there_no H0.out).mono ?_); rintro e w1 ⟨B, rfl, ho, hg⟩; obtain ⟨c0, c1⟩ := ho.c; have G1 := Lib.hid hg; clear ho hg)
    | (go_at_call 37; (with_reducible refine (bm.All_nil _).mono ?_); rintro e w2 ⟨rfl, hw⟩; first | subst hw | (have hw2 := hw.symm; subst hw2)))
  go_ret
  exact ⟨rfl, G1.out⟩
theorem Is_any (h : Gy w L g r s) (z : Int) : Calls Tryz.prog 26 #[.pointer (some ⟨g, 0, none⟩), .int .i64 z] w fun e w' => e = .returned (.bool (isb s.ws z)) ∧ w.grownBy w' none := by
  obtain ⟨k, c, K, h, rfl⟩ := h
  have c1 := h.c1
  have X := Lib.hid (SHas h.st z)
  generalize isb s.ws z = d at X
  clear h
  go_enter Tryz.func26, Tryz.ntmps26
  go_wp2_with (first
    | (go_at_call 36; (with_reducible refine (there_any g _).mono ?_); rintro e w' ⟨rfl, hw⟩; subst hw)
    | (go_at_call 53; (with_reducible refine X.out.mono ?_); rintro e w2 ⟨rfl, hr⟩; have R2 := Lib.hid hr; clear hr))
  go_ret
  exact ⟨rfl, R2.out⟩
theorem Count_any (h : Gy w L g r s) : Calls Tryz.prog 16 #[.pointer (some ⟨g, 0, none⟩)] w fun e w' => e = .returned (.int .i64 (bm.nums s.ws).length) ∧ w.grownBy w' none := by
  obtain ⟨k, c, K, h, rfl⟩ := h
  have c1 := h.c1
  have X := Lib.hid (SCount h.st)
  generalize (bm.nums s.ws).length = d at X
  clear h
  go_enter Tryz.func16, Tryz.ntmps16
  go_wp2_with (first
    | (go_at_call 36; (with_reducible refine (there_any g _).mono ?_); rintro e w' ⟨rfl, hw⟩; subst hw)
    | (go_at_call 44; (with_reducible refine X.out.mono ?_); rintro e w2 ⟨rfl, hr⟩; have R2 := Lib.hid hr; clear hr))
  go_ret
  exact ⟨rfl, R2.out⟩
theorem All_any (h : Gy w L g r s) (hT : bm.Tab w) : Calls Tryz.prog 11 #[.pointer (some ⟨g, 0, none⟩)] w (bm.ListAns (bm.nums s.ws) w) := by
  obtain ⟨k, c, K, h, rfl⟩ := h
  have c1 := h.c1
  have X := Lib.hid (bm.All_yes h.st hT (fun e => (by
    have h1 := h.st.1
    rw [e] at h1
    have := hT.2 0 (by omega)
    rw [cell_of_row w _ 0 _ _ _ h1] at this
    cases this)))
  generalize bm.nums s.ws = d at X
  clear h
  go_enter Tryz.func11, Tryz.ntmps11
  go_wp2_with (first
    | (go_at_call 36; (with_reducible refine (there_any g _).mono ?_); rintro e w' ⟨rfl, hw⟩; subst hw)
    | (go_at_call 37; (with_reducible refine X.out.mono ?_); rintro e w2 ⟨A, n, rfl, hr⟩; have R2 := Lib.hid hr; clear hr))
  go_ret
  exact ⟨A, n, rfl, R2.out⟩
theorem shade_fin {w2 w3 : World} {c : Nat} {L2 : List Nat} {x : Va} {s : Ps} (hl : ∀ q, q ∈ L2 → q ∈ L ∨ w.heap.size ≤ q) (h2 : Gk w2 g k c K r s) (hL2 : L2 = g :: c :: K) (hg : Gr L w w2)
    (hp : Gr K w2 w3 ∧ ∃ K', (∀ q, q ∈ K' → q ∈ K ∨ w2.heap.size ≤ q) ∧ sk.Sk w3 K' k r (s.push r x).b (s.push r x).m) : ∃ L3, (∀ q, q ∈ L3 → q ∈ L ∨ w.heap.size ≤ q) ∧ Gy w3 L3 g r (s.push r x) ∧ Gr L w w3 := by
  subst hL2
  obtain ⟨h3, K', h4, h5⟩ := hp
  obtain ⟨p1, p2, p3⟩ := h2.stack h5 h4 h3
  rw [Ps.push_ws] at p2
  exact ⟨_, fun q hq => (p1 q hq).elim (hl q) (fun e => .inr (Nat.le_trans hg.size e)), p2, hg.own p3 hl⟩
/-! ### Shade, Rest -/
end
end Go.Proofs.YtfloleflcoiidaaGreatDoor.sh

/- A grey's New and Clone. -/
namespace Go.Proofs.YtfloleflcoiidaaGreatDoor.sh
open Go.ChangeShapes Go.WideShapes Go.ChangeAt Go.RowKit gen li en gr
set_option linter.unusedVariables false
set_option maxHeartbeats 4000000
set_option maxRecDepth 100000
/-- A grey that was made. -/
def NewG (r : Nat) (s : Ps) (w : World) (e : Ending) (w' : World) : Prop := ∃ g L, e = .returned (.pointer (some ⟨g, 0, none⟩)) ∧ Gy w' L g r s ∧ (∀ q, q ∈ L → w.heap.size ≤ q) ∧ w.grownBy w' none
section
variable {w w' W w1 w2 : World} {g k c r B : Nat} {K L : List Nat} {s : Ps} {p v : Value}
theorem NewG.fin {m : List Va} {b : Bool} {ws : List Nat} (hr : 1 ≤ r) (hg : w.grownBy w1 none) (hs : sk.Sk w1 K k r b m) (hK : ∀ q, q ∈ K → w.heap.size ≤ q) (hg2 : w1.grownBy w2 none) (hc : bm.SetAt w2 c true 2048 ws) (hc1 : w.heap.size ≤ c) :
    NewG r ⟨ws, m, b⟩ w (.returned (.pointer (some ⟨w2.heap.size, 0, none⟩))) (w2.alloc (.cells #[.pointer (some ⟨k, 0, none⟩), .pointer (some ⟨c, 0, none⟩)] 75)) := by
  have G := World.grownBy_alloc w2 (.cells #[.pointer (some ⟨k, 0, none⟩), .pointer (some ⟨c, 0, none⟩)] 75) none
  refine ⟨_, _, rfl, ⟨k, c, K, ⟨heap_alloc_new _ _, (hs.new hg2).new G, hc.kept G (by simp), hr⟩, rfl⟩, fun q hq => ?_, (hg.trans hg2).trans G⟩
  rcases List.mem_cons.1 hq with rfl | hq
  · exact (hg.trans hg2).size
  rcases List.mem_cons.1 hq with rfl | hq
  · exact hc1
  · exact hK q hq
theorem New_any (n : Int) (r : Nat) (hk : sk.near n 1 256 = r) (h1 : 1 ≤ r) (h8 : r ≤ 256) (w : World) : Calls Tryz.prog 22 #[.int .i64 n] w (NewG r none0 w) := by
  have X := Lib.hid (sk.New_any n r hk h8 w)
  have Y := Lib.hid (fun W => bm.New_any 2048 2048 (by decide) W)
  have H1 := Lib.hid h1
  clear hk h1 h8
  go_enter Tryz.func22, Tryz.ntmps22
  go_wp2_with (first
    | (go_at_call 48; (with_reducible refine X.out.mono ?_); rintro e w1 ⟨k, K, rfl, hs, hK, hg⟩; have S1 := Lib.hid hs; have K1 := Lib.hid hK; have G1 := Lib.hid hg; clear hs hK hg)
    | (go_at_call 49; (with_reducible refine (Y.out _).mono ?_); rintro e w2 ⟨c, rfl, hc, hc1, hg⟩; have C2 := Lib.hid hc; have D2 := Lib.hid (Nat.le_trans G1.out.size hc1); have G2 := Lib.hid hg; clear hc hc1 hg))
  go_ret
  exact NewG.fin H1.out G1.out S1.out K1.out G2.out C2.out D2.out
end
end Go.Proofs.YtfloleflcoiidaaGreatDoor.sh
