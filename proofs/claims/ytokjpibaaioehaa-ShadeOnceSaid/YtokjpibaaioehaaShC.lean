/- A grey's calls that mark, that let wait, New, All and Clone; and what nil's, and a zero one's, answer. -/
import Derived.Test.YtokjpibaaioehaaShB
namespace Go.Proofs.Ytokjpibaaioehaa.sh
open Go.ChangeShapes Go.WideShapes Go.ChangeAt Go.RowKit gen li en gr
set_option linter.unusedVariables false
set_option maxHeartbeats 4000000
set_option maxRecDepth 100000
section
variable {w w' W : World} {g k r B : Nat} {K L : List Nat} {s : Ps} {p v : Value} {x1 x2 : Int}
theorem Black_any (h : Gy w L g r s) (z : Int) : Calls Try.prog 17 #[.pointer (some ⟨g, 0, none⟩), .int .i64 z] w (Ga L g r (.bool (newb s.ws z)) (s.black z) w) := by
  obtain ⟨k, c, K, h, rfl⟩ := h
  have c1 := h.c1
  have X := Lib.hid ((SAdd h.st z).mono (fun e w' (k : e = .returned (.bool (newb s.ws z)) ∧ _) => (show e = .returned (.bool (newb s.ws z)) ∧ Ga (g :: c :: K) g r (.bool (newb s.ws z)) (s.black z) w e w' from ⟨k.1, k.1, _, fun q hq => .inl hq, h.mark k.2.1 k.2.2⟩)))
  generalize newb s.ws z = d at X
  clear h
  go_enter Try.func17, Try.ntmps17
  go_wp2_with (first
    | (go_at_call 15; (with_reducible refine (there_any g _).mono ?_); rintro e w' ⟨rfl, hw⟩; subst hw)
    | (go_at_call 25; (with_reducible refine X.out.mono ?_); rintro e w2 ⟨rfl, hr⟩; have R2 := Lib.hid hr; clear hr))
  go_ret
  exact R2.out
theorem Black_no (h : No w p) (z : Int) : Calls Try.prog 17 #[p, .int .i64 z] w fun e w' => e = .returned (.bool false) ∧ w.grownBy w' none := by
  have H0 := Lib.hid h
  clear h
  go_enter Try.func17, Try.ntmps17
  go_wp2_with (first
    | (go_at_call 15; (with_reducible refine (there_no H0.out).mono ?_); rintro e w1 ⟨B, rfl, ho, hg⟩; obtain ⟨c0, c1⟩ := ho.c; have G1 := Lib.hid hg; clear ho hg)
    | (go_at_call 25; (with_reducible refine (SAdd_nil _ _).mono ?_); rintro e w2 ⟨rfl, hw⟩; first | subst hw | (have hw2 := hw.symm; subst hw2)))
  go_ret
  exact ⟨rfl, G1.out⟩
theorem Is_no (h : No w p) (z : Int) : Calls Try.prog 6 #[p, .int .i64 z] w fun e w' => e = .returned (.bool false) ∧ w.grownBy w' none := by
  have H0 := Lib.hid h
  clear h
  go_enter Try.func6, Try.ntmps6
  go_wp2_with (first
    | (go_at_call 15; (with_reducible refine (there_no H0.out).mono ?_); rintro e w1 ⟨B, rfl, ho, hg⟩; obtain ⟨c0, c1⟩ := ho.c; have G1 := Lib.hid hg; clear ho hg)
    | (go_at_call 16; (with_reducible refine (SHas_nil _ _).mono ?_); rintro e w2 ⟨rfl, hw⟩; first | subst hw | (have hw2 := hw.symm; subst hw2)))
  go_ret
  exact ⟨rfl, G1.out⟩
theorem Count_no (h : No w p) : Calls Try.prog 9 #[p] w fun e w' => e = .returned (.int .i64 0) ∧ w.grownBy w' none := by
  have H0 := Lib.hid h
  clear h
  go_enter Try.func9, Try.ntmps9
  go_wp2_with (first
    | (go_at_call 15; (with_reducible refine (there_no H0.out).mono ?_); rintro e w1 ⟨B, rfl, ho, hg⟩; obtain ⟨c0, c1⟩ := ho.c; have G1 := Lib.hid hg; clear ho hg)
    | (go_at_call 19; (with_reducible refine (bm.Count_nil _).mono ?_); rintro e w2 ⟨rfl, hw⟩; first | subst hw | (have hw2 := hw.symm; subst hw2)))
  go_ret
  exact ⟨rfl, G1.out⟩
theorem Is_any (h : Gy w L g r s) (z : Int) : Calls Try.prog 6 #[.pointer (some ⟨g, 0, none⟩), .int .i64 z] w fun e w' => e = .returned (.bool (isb s.ws z)) ∧ w.grownBy w' none := by
  obtain ⟨k, c, K, h, rfl⟩ := h
  have c1 := h.c1
  have X := Lib.hid (SHas h.st z)
  generalize isb s.ws z = d at X
  clear h
  go_enter Try.func6, Try.ntmps6
  go_wp2_with (first
    | (go_at_call 15; (with_reducible refine (there_any g _).mono ?_); rintro e w' ⟨rfl, hw⟩; subst hw)
    | (go_at_call 16; (with_reducible refine X.out.mono ?_); rintro e w2 ⟨rfl, hr⟩; have R2 := Lib.hid hr; clear hr))
  go_ret
  exact ⟨rfl, R2.out⟩
theorem Count_any (h : Gy w L g r s) : Calls Try.prog 9 #[.pointer (some ⟨g, 0, none⟩)] w fun e w' => e = .returned (.int .i64 (bm.nums s.ws).length) ∧ w.grownBy w' none := by
  obtain ⟨k, c, K, h, rfl⟩ := h
  have c1 := h.c1
  have X := Lib.hid (SCount h.st)
  generalize (bm.nums s.ws).length = d at X
  clear h
  go_enter Try.func9, Try.ntmps9
  go_wp2_with (first
    | (go_at_call 15; (with_reducible refine (there_any g _).mono ?_); rintro e w' ⟨rfl, hw⟩; subst hw)
    | (go_at_call 19; (with_reducible refine X.out.mono ?_); rintro e w2 ⟨rfl, hr⟩; have R2 := Lib.hid hr; clear hr))
  go_ret
  exact ⟨rfl, R2.out⟩
theorem shade_fin {w2 w3 : World} {c : Nat} {L2 : List Nat} {x : Va} {s : Ps} (hl : ∀ q, q ∈ L2 → q ∈ L ∨ w.heap.size ≤ q) (h2 : Gk w2 g k c K r s) (hL2 : L2 = g :: c :: K) (hg : Gr L w w2)
    (hp : Gr K w2 w3 ∧ ∃ K', (∀ q, q ∈ K' → q ∈ K ∨ w2.heap.size ≤ q) ∧ sk.Sk w3 K' k r (s.push r x).b (s.push r x).m) : ∃ L3, (∀ q, q ∈ L3 → q ∈ L ∨ w.heap.size ≤ q) ∧ Gy w3 L3 g r (s.push r x) ∧ Gr L w w3 := by
  subst hL2
  obtain ⟨h3, K', h4, h5⟩ := hp
  obtain ⟨p1, p2, p3⟩ := h2.stack h5 h4 h3
  rw [Ps.push_ws] at p2
  exact ⟨_, fun q hq => (p1 q hq).elim (hl q) (fun e => .inr (Nat.le_trans hg.size e)), p2, hg.own p3 hl⟩
/-! ### Shade, Rest -/
theorem Shade_any (h : Gy w L g r s) (z : Int) : Calls Try.prog 7 #[.pointer (some ⟨g, 0, none⟩), .int .i64 z] w (Ga L g r (.bool (newb s.ws z)) (s.shade r z) w) := by
  have X := Lib.hid (Black_any h z)
  have HR := Lib.hid h.r1
  have SB := Lib.hid (show s.black z = (s.black z) from rfl)
  cases hd : newb s.ws z with
  | false =>
    have FIN := Lib.hid (show s.shade r z = s.black z from by simp [Ps.shade, Ps.black, mkd, hd])
    rw [hd] at X
    clear h
    go_enter Try.func7, Try.ntmps7
    go_wp2_with (go_at_call 17; (with_reducible refine X.out.mono ?_); rintro e w2 ⟨rfl, hr⟩; have R2 := Lib.hid hr; clear hr)
    go_ret
    rw [FIN.out]
    exact ⟨rfl, R2.out⟩
  | true =>
    have FIN := Lib.hid (show s.shade r z = (s.black z).push r (z, 0) from by simp [Ps.shade, hd])
    rw [hd] at X
    clear h
    go_enter Try.func7, Try.ntmps7
    go_wp2_with (first
      | (go_at_call 18; (with_reducible refine (PU.out).mono ?_); rintro e w3 ⟨rfl, hr⟩; have R3 := Lib.hid hr; clear hr)
      | (go_at_call 17; (with_reducible refine X.out.mono ?_); rintro e w2 ⟨rfl, L2, hl, ⟨k, c, K, h2, hL2⟩, hg⟩; have l2 := Lib.hid hl; have H2 := Lib.hid h2; have G2 := Lib.hid hg; have HL2 := Lib.hid hL2; have g0 := h2.c0; have PU := Lib.hid (wwait (v := .bool (decide ((s.black z).m.length < r))) (R := fun w3 => ∃ L3, (∀ q, q ∈ L3 → q ∈ L ∨ w.heap.size ≤ q) ∧ Gy w3 L3 g r ((s.black z).push r (z, 0)) ∧ Gr L w w3) h2.c0 z ((Push_any h2.sk h2.r1 z 0).mono (fun e w3 k => ⟨k.1, shade_fin hl h2 hL2 hg k.2⟩))); clear hl h2 hg hL2))
    go_ret
    rw [FIN.out]
    exact ⟨rfl, R3.out⟩
theorem Shade_no (h : No w p) (z : Int) : Calls Try.prog 7 #[p, .int .i64 z] w fun e w' => e = .returned (.bool false) ∧ w.grownBy w' none := by
  have X := Lib.hid (Black_no h z)
  clear h
  go_enter Try.func7, Try.ntmps7
  go_wp2_with (go_at_call 17; (with_reducible refine X.out.mono ?_); rintro e w2 ⟨rfl, hr⟩; have R2 := Lib.hid hr; clear hr)
  go_ret
  exact ⟨rfl, R2.out⟩
end
end Go.Proofs.Ytokjpibaaioehaa.sh
