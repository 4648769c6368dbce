/- Texts that this claim stands on. -/
import Derived.Test.YtkgdcgmbapchcaaGreatDoorQBmQ
import Derived.Test.YtkgdcgmbapchcaaGreatDoorQSkY
namespace Go.Proofs.YtkgdcgmbapchcaaGreatDoor.sh
open Go.ChangeShapes Go.WideShapes Go.ChangeAt Go.RowKit gen li en gr
set_option linter.unusedVariables false
set_option maxHeartbeats 4000000
set_option maxRecDepth 100000
def isb (ws : List Nat) (z : Int) : Bool := decide (0 ≤ z) && decide (z < 2048) && bm.bit ws z.toNat
def newb (ws : List Nat) (z : Int) : Bool := decide (0 ≤ z) && decide (z < 2048) && !bm.bit ws z.toNat
def mkd (ws : List Nat) (z : Int) : List Nat := if newb ws z = true then bm.put ws z.toNat else ws
def rmd (ws : List Nat) (z : Int) : List Nat := if isb ws z = true then bm.cut ws z.toNat else ws
structure Ps where
  ws : List Nat
  m : List Va
  b : Bool
def Ps.push (s : Ps) (r : Nat) (x : Va) : Ps := if s.m.length < r then ⟨s.ws, s.m ++ [x], s.b⟩ else ⟨s.ws, s.m, true⟩
def Ps.black (s : Ps) (z : Int) : Ps := ⟨mkd s.ws z, s.m, s.b⟩
def Ps.shade (s : Ps) (r : Nat) (z : Int) : Ps := if newb s.ws z = true then (s.black z).push r (z, 0) else s
def Ps.clear (s : Ps) (z : Int) : Ps := ⟨rmd s.ws z, s.m, s.b⟩
def Ps.pop (s : Ps) : Ps := ⟨s.ws, s.m.dropLast, s.b⟩
def Ps.settle (s : Ps) : Ps := ⟨s.ws, s.m, false⟩
def top (m : List Va) : Va := m.getLast?.getD (0, 0)
abbrev none0 : Ps := ⟨bm.zeros, [], false⟩
theorem ways (ws : List Nat) (z : Int) : (¬ (0 ≤ z ∧ z < 2048) ∧ isb ws z = false ∧ newb ws z = false ∧ mkd ws z = ws ∧ rmd ws z = ws) ∨
    ∃ i : Nat, z = i ∧ i < 2048 ∧ ((bm.bit ws i = true ∧ isb ws z = true ∧ newb ws z = false ∧ mkd ws z = ws ∧ rmd ws z = bm.cut ws i) ∨ (bm.bit ws i = false ∧ isb ws z = false ∧ newb ws z = true ∧ mkd ws z = bm.put ws i ∧ rmd ws z = ws)) := by
  by_cases h : 0 ≤ z ∧ z < 2048
  · refine .inr ⟨z.toNat, by omega, by omega, ?_⟩
    cases hb : bm.bit ws z.toNat with
    | true =>
      have h1 : isb ws z = true := by simp [isb, h, hb]
      have h2 : newb ws z = false := by simp [newb, h, hb]
      exact .inl ⟨rfl, h1, h2, by simp [mkd, h2], by simp [rmd, h1]⟩
    | false =>
      have h1 : isb ws z = false := by simp [isb, h, hb]
      have h2 : newb ws z = true := by simp [newb, h, hb]
      exact .inr ⟨rfl, h1, h2, by simp [mkd, h2], by simp [rmd, h1]⟩
  · have h1 : isb ws z = false := by
      unfold isb
      rw [show (decide (0 ≤ z) && decide (z < 2048)) = false by rw [← Bool.decide_and]; exact decide_eq_false h]
      rfl
    have h2 : newb ws z = false := by
      unfold newb
      rw [show (decide (0 ≤ z) && decide (z < 2048)) = false by rw [← Bool.decide_and]; exact decide_eq_false h]
      rfl
    exact .inl ⟨h, h1, h2, by simp [mkd, h2], by simp [rmd, h1]⟩
section
variable {w w' : World} {g : Nat} {b : Bool} {ws : List Nat}
theorem drew_grown (h : bm.Drew w w') (row : Option Nat) : w.grownBy w' row := by
  obtain ⟨k, rfl⟩ := h
  exact grown_drewN _ _ _
theorem SHas (h : bm.SetAt w g b 2048 ws) (z : Int) : Calls Tryz.prog 200 #[.pointer (some ⟨g, 0, none⟩), .int .i64 z] w fun e w' => e = .returned (.bool (isb ws z)) ∧ w.grownBy w' none := by
  rcases ways ws z with ⟨h1, h2, _⟩ | ⟨i, rfl, hi, ⟨hb, h2, _⟩ | ⟨hb, h2, _⟩⟩
  · exact (bm.Has_out _ z w (bm.place_no h z h1)).mono fun e w' ⟨h3, h4⟩ => ⟨by rw [h2]; exact h3, by subst h4; exact World.grownBy.refl _ _⟩
  · exact (bm.Has_yes h i hi hb).mono fun e w' ⟨h3, h4⟩ => ⟨by rw [h2]; exact h3, drew_grown h4 _⟩
  · exact (bm.Has_no h i hi hb).mono fun e w' ⟨h3, h4⟩ => ⟨by rw [h2]; exact h3, drew_grown h4 _⟩
theorem SAdd (h : bm.SetAt w g b 2048 ws) (z : Int) : Calls Tryz.prog 222 #[.pointer (some ⟨g, 0, none⟩), .int .i64 z] w fun e w' => e = .returned (.bool (newb ws z)) ∧ bm.SetAt w' g b 2048 (mkd ws z) ∧ w.grownBy w' (some g) := by
  rcases ways ws z with ⟨h1, _, h2, h5, _⟩ | ⟨i, rfl, hi, ⟨hb, _, h2, h5, _⟩ | ⟨hb, _, h2, h5, _⟩⟩
  · exact (bm.Add_out _ z w (bm.place_no h z h1)).mono fun e w' ⟨h3, h4⟩ => ⟨by rw [h2]; exact h3, by subst h4; rw [h5]; exact h, by subst h4; exact World.grownBy.refl _ _⟩
  · exact (bm.Add_in h i hi hb).mono fun e w' ⟨h3, h4⟩ => ⟨by rw [h2]; exact h3, by rw [h5]; exact h.kept (drew_grown h4 none) (by simp), drew_grown h4 _⟩
  · exact (bm.Add_yes h i hi hb).mono fun e w' ⟨h3, h4, h6⟩ => ⟨by rw [h2]; exact h3, by rw [h5]; exact h4, h6⟩
theorem SRemove (h : bm.SetAt w g b 2048 ws) (z : Int) : Calls Tryz.prog 259 #[.pointer (some ⟨g, 0, none⟩), .int .i64 z] w fun e w' => e = .returned (.bool (isb ws z)) ∧ bm.SetAt w' g b 2048 (rmd ws z) ∧ w.grownBy w' (some g) := by
  rcases ways ws z with ⟨h1, h2, _, _, h5⟩ | ⟨i, rfl, hi, ⟨hb, h2, _, _, h5⟩ | ⟨hb, h2, _, _, h5⟩⟩
  · exact (bm.Remove_out _ z w (bm.place_no h z h1)).mono fun e w' ⟨h3, h4⟩ => ⟨by rw [h2]; exact h3, by subst h4; rw [h5]; exact h, by subst h4; exact World.grownBy.refl _ _⟩
  · exact (bm.Remove_yes h i hi hb).mono fun e w' ⟨h3, h4, h6⟩ => ⟨by rw [h2]; exact h3, by rw [h5]; exact h4, h6⟩
  · exact (bm.Remove_no h i hi hb).mono fun e w' ⟨h3, h4⟩ => ⟨by rw [h2]; exact h3, by rw [h5]; exact h.kept (drew_grown h4 none) (by simp), drew_grown h4 _⟩
end
structure Gk (w : World) (g k c : Nat) (K : List Nat) (r : Nat) (s : Ps) : Prop where
  ob : w.heap[g]? = some (.cells #[.pointer (some ⟨k, 0, none⟩), .pointer (some ⟨c, 0, none⟩)] 180 (0, 0))
  sk : sk.Sk w K k r s.b s.m
  st : bm.SetAt w c true 2048 s.ws
  r1 : 1 ≤ r
def Gy (w : World) (L : List Nat) (g r : Nat) (s : Ps) : Prop := ∃ k c K, Gk w g k c K r s ∧ L = g :: c :: K
section
variable {w w' : World} {g k c r B : Nat} {K K' L L' M : List Nat} {s s' : Ps} {ws : List Nat}
theorem Gk.nc (h : Gk w g k c K r s) : g ≠ c := ty_ne h.ob h.st.1 (by decide)
theorem Gk.ng (h : Gk w g k c K r s) : g ∉ K := h.sk.off h.ob (by decide) (by decide)
theorem Gk.nk (h : Gk w g k c K r s) : c ∉ K := h.sk.off h.st.1 (by decide) (by decide)
theorem Gk.c0 (h : Gk w g k c K r s) : w.cell? ⟨g, 0, none⟩ = some (.pointer (some ⟨k, 0, none⟩)) := by rw [cell_of_row w g 0 _ _ _ h.ob]; rfl
theorem Gk.c1 (h : Gk w g k c K r s) : w.cell? ⟨g, 1, none⟩ = some (.pointer (some ⟨c, 0, none⟩)) := by rw [cell_of_row w g 1 _ _ _ h.ob]; rfl
theorem Gk.gr (h : Gk w g k c K r s) (hg : Gr M w w') (h1 : g ∉ M) (h2 : c ∉ M) (h3 : ∀ q, q ∈ K → q ∉ M) : Gk w' g k c K r s :=
  ⟨hg.heap h.ob h1, h.sk.gr hg h3, ⟨hg.heap h.st.1 h2, h.st.2⟩, h.r1⟩
theorem Gk.new (h : Gk w g k c K r s) (hg : w.grownBy w' none) : Gk w' g k c K r s := h.gr (Gr.new (L := []) hg) (by simp) (by simp) (by simp)
theorem Gy.gr (h : Gy w L g r s) (hg : Gr M w w') (hL : ∀ q, q ∈ L → q ∉ M) : Gy w' L g r s := by
  obtain ⟨k, c, K, h, rfl⟩ := h
  exact ⟨k, c, K, h.gr hg (hL g (by simp)) (hL c (by simp)) (fun q hq => hL q (by simp [hq])), rfl⟩
theorem Gy.new (h : Gy w L g r s) (hg : w.grownBy w' none) : Gy w' L g r s := h.gr (Gr.new (L := []) hg) (by simp)
theorem Gk.lt (h : Gk w g k c K r s) : ∀ q, q ∈ g :: c :: K → q < w.heap.size := fun q hq => by
  rcases List.mem_cons.1 hq with rfl | hq
  · exact (Array.getElem?_eq_some_iff.1 h.ob).1
  rcases List.mem_cons.1 hq with rfl | hq
  · exact h.st.lt
  · exact h.sk.lt q hq
theorem Gy.lt (h : Gy w L g r s) : ∀ q, q ∈ L → q < w.heap.size := by
  obtain ⟨k, c, K, h, rfl⟩ := h
  exact h.lt
theorem Gy.fine (h : Gy w L g r s) : bm.Fine 2048 s.ws := by
  obtain ⟨k, c, K, h, rfl⟩ := h
  exact h.st.2
theorem Gy.hi (h : Gy w L g r s) : r ≤ 256 := by obtain ⟨k, c, K, h, rfl⟩ := h; exact h.sk.hi
theorem Gy.r1 (h : Gy w L g r s) : 1 ≤ r := by obtain ⟨k, c, K, h, rfl⟩ := h; exact h.r1
theorem Gy.fit (h : Gy w L g r s) : s.m.length ≤ r := by obtain ⟨k, c, K, h, rfl⟩ := h; exact h.sk.fit
theorem Gy.off (h : Gy w L g r s) {cs : Array Value} {t : TypeId} {z : Nat × Nat} (hb : w.heap[B]? = some (.cells cs t z)) (h1 : t ≠ 180) (h2 : t ≠ 230) (h3 : t ≠ 226) (h4 : t ≠ 157) : B ∉ L := fun hB => by
  obtain ⟨k, c, K, h, rfl⟩ := h
  rcases List.mem_cons.1 hB with rfl | hB
  · exact ty_ne hb h.ob h1 rfl
  rcases List.mem_cons.1 hB with rfl | hB
  · exact ty_ne hb h.st.1 h2 rfl
  · exact h.sk.off hb h3 h4 hB
def Ga (L : List Nat) (g r : Nat) (v : Value) (s : Ps) (w : World) (e : Ending) (w' : World) : Prop := e = .returned v ∧ ∃ L', (∀ q, q ∈ L' → q ∈ L ∨ w.heap.size ≤ q) ∧ Gy w' L' g r s ∧ Gr L w w'
theorem Gk.mark (h : Gk w g k c K r s) (hs : bm.SetAt w' c true 2048 ws) (hg : w.grownBy w' (some c)) : Gy w' (g :: c :: K) g r ⟨ws, s.m, s.b⟩ ∧ Gr (g :: c :: K) w w' := by
  have G : Gr [c] w w' := Gr.one hg (by simp)
  exact ⟨⟨k, c, K, ⟨G.heap h.ob (by simpa using h.nc), h.sk.gr G (fun q hq e => by rw [List.mem_singleton] at e; subst e; exact h.nk hq), hs, h.r1⟩, rfl⟩, G.mono (fun q hq => by simp at hq; simp [hq])⟩
theorem Gk.stack {b : Bool} {m : List Va} (h : Gk w g k c K r s) (hs : sk.Sk w' K' k r b m) (hK : ∀ q, q ∈ K' → q ∈ K ∨ w.heap.size ≤ q) (hg : Gr K w w') :
    (∀ q, q ∈ g :: c :: K' → q ∈ g :: c :: K ∨ w.heap.size ≤ q) ∧ Gy w' (g :: c :: K') g r ⟨s.ws, m, b⟩ ∧ Gr (g :: c :: K) w w' := by
  refine ⟨fun q hq => ?_, ⟨k, c, K', ⟨hg.heap h.ob h.ng, hs, ⟨hg.heap h.st.1 h.nk, h.st.2⟩, h.r1⟩, rfl⟩, hg.mono (fun q hq => by simp [hq])⟩
  rcases List.mem_cons.1 hq with rfl | hq
  · exact .inl (by simp)
  rcases List.mem_cons.1 hq with rfl | hq
  · exact .inl (by simp)
  · exact (hK q hq).imp (fun e => by simp [e]) id
end
end Go.Proofs.YtkgdcgmbapchcaaGreatDoor.sh
namespace Go.Proofs.YtkgdcgmbapchcaaGreatDoor.sh
open Go.ChangeShapes Go.WideShapes Go.ChangeAt Go.RowKit gen li en gr
set_option linter.unusedVariables false
set_option maxHeartbeats 4000000
set_option maxRecDepth 100000
theorem dropLast_top {m : List Va} (h : m ≠ []) : m.dropLast ++ [top m] = m := by
  rcases List.eq_nil_or_concat m with rfl | ⟨l, a, rfl⟩
  · exact absurd rfl h
  · simp [top]
theorem Ps.push_yes {s : Ps} {r : Nat} (h : s.m.length < r) (x : Va) : s.push r x = ⟨s.ws, s.m ++ [x], s.b⟩ := if_pos h
theorem Ps.push_no {s : Ps} {r : Nat} (h : ¬ s.m.length < r) (x : Va) : s.push r x = ⟨s.ws, s.m, true⟩ := if_neg h
theorem Ps.push_ws (s : Ps) (r : Nat) (x : Va) : (⟨s.ws, (s.push r x).m, (s.push r x).b⟩ : Ps) = s.push r x := by
  unfold Ps.push
  split <;> rfl
section
variable {w w' W : World} {g k r B : Nat} {K L : List Nat} {s : Ps} {p v : Value} {R : World → Prop} {x1 x2 : Int}
theorem Push_any (h : sk.Sk w K k r s.b s.m) (hr : 1 ≤ r) (x1 x2 : Int) : Calls Tryz.prog 249 #[.pointer (some ⟨k, 0, none⟩), .agg #[.int .i64 x1, .int .i64 x2]] w
    fun e w' => e = .returned (.bool (decide (s.m.length < r))) ∧ Gr K w w' ∧ ∃ K', (∀ q, q ∈ K' → q ∈ K ∨ w.heap.size ≤ q) ∧ sk.Sk w' K' k r (s.push r (x1, x2)).b (s.push r (x1, x2)).m := by
  by_cases hm : s.m.length < r
  · rw [Ps.push_yes hm, decide_eq_true hm]
    exact (sk.Push_yes h hm x1 x2).mono fun e w' ⟨h1, K', h2, h3, h4⟩ => ⟨h1, h4, K', h2, h3⟩
  · rw [Ps.push_no hm, decide_eq_false hm]
    refine (sk.Push_no h (by have := h.fit; omega) x1 x2).mono fun e w' ⟨h1, h2, h3⟩ => ⟨h1, h3, K, fun q hq => .inl hq, ?_⟩
    rwa [show decide (0 < r) = true from decide_eq_true hr] at h2
theorem Pop_any (h : sk.Sk w K k r s.b s.m) : Calls Tryz.prog 256 #[.pointer (some ⟨k, 0, none⟩)] w fun e w' => e = sk.vb (top s.m) (decide (s.m ≠ [])) ∧ sk.Sk w' K k r s.b s.m.dropLast ∧ Gr K w w' := by
  obtain ⟨ws, m, b⟩ := s
  dsimp only at h ⊢
  by_cases hm : m = []
  · subst hm
    exact (sk.Pop_none h).mono fun e w' ⟨h1, h2⟩ => ⟨h1, h.new h2, Gr.new h2⟩
  · rw [decide_eq_true hm]
    refine (sk.Pop_yes (x := top m) (m := m.dropLast) (by rw [dropLast_top hm]; exact h)).mono fun e w' ⟨h1, h2, h3⟩ => ⟨h1, h2, h3⟩
theorem wwaiting (c : w.cell? ⟨g, 0, none⟩ = some p) (H : Calls Tryz.prog 315 #[p] w fun e w' => e = .returned v ∧ R w') : Calls Tryz.prog 288 #[.pointer (some ⟨g, 0, none⟩)] w fun e w' => e = .returned v ∧ R w' := by
  have HH := Lib.hid H
  clear H
  go_enter Tryz.func288, Tryz.ntmps288
  go_wp2_with (go_at_call 315; (with_reducible refine HH.out.mono ?_); rintro e w2 ⟨rfl, hr⟩; have RR := Lib.hid hr; clear hr)
  go_ret
  exact ⟨rfl, RR.out⟩
theorem wover (c : w.cell? ⟨g, 0, none⟩ = some p) (H : Calls Tryz.prog 316 #[p] w fun e w' => e = .returned v ∧ R w') : Calls Tryz.prog 289 #[.pointer (some ⟨g, 0, none⟩)] w fun e w' => e = .returned v ∧ R w' := by
  have HH := Lib.hid H
  clear H
  go_enter Tryz.func289, Tryz.ntmps289
  go_wp2_with (go_at_call 316; (with_reducible refine HH.out.mono ?_); rintro e w2 ⟨rfl, hr⟩; have RR := Lib.hid hr; clear hr)
  go_ret
  exact ⟨rfl, RR.out⟩
theorem wsettle (c : w.cell? ⟨g, 0, none⟩ = some p) (H : Calls Tryz.prog 258 #[p] w fun e w' => e = .returned v ∧ R w') : Calls Tryz.prog 212 #[.pointer (some ⟨g, 0, none⟩)] w fun e w' => e = .returned v ∧ R w' := by
  have HH := Lib.hid H
  clear H
  go_enter Tryz.func212, Tryz.ntmps212
  go_wp2_with (go_at_call 258; (with_reducible refine HH.out.mono ?_); rintro e w2 ⟨rfl, hr⟩; have RR := Lib.hid hr; clear hr)
  go_ret
  exact ⟨rfl, RR.out⟩
theorem wwait (c : w.cell? ⟨g, 0, none⟩ = some p) (z : Int) (H : Calls Tryz.prog 249 #[p, .agg #[.int .i64 z, .int .i64 0]] w fun e w' => e = .returned v ∧ R w') : Calls Tryz.prog 201 #[.pointer (some ⟨g, 0, none⟩), .int .i64 z] w fun e w' => e = .returned (.tuple #[]) ∧ R w' := by
  have HH := Lib.hid H
  clear H
  go_enter Tryz.func201, Tryz.ntmps201
  go_wp2_with (go_at_call 249; (with_reducible refine HH.out.mono ?_); rintro e w2 ⟨rfl, hr⟩; have RR := Lib.hid hr; clear hr)
  go_end0
  exact ⟨rfl, RR.out⟩
theorem wrest (c : w.cell? ⟨g, 0, none⟩ = some p) (hg : g ∉ K) (hK : ∀ q, q ∈ K → q < w.heap.size) (x1 x2 : Int) (H : ∀ W, w.grownBy W none → Calls Tryz.prog 249 #[p, .agg #[.int .i64 x1, .int .i64 x2]] W fun e w' => e = .returned v ∧ Gr K W w' ∧ R w') :
    Calls Tryz.prog 257 #[.pointer (some ⟨g, 0, none⟩), .agg #[.int .i64 x1, .int .i64 x2]] w fun e w' => e = .returned v ∧ Gr K w w' ∧ R w' := by
  have HH := Lib.hid (fun W (hg : w.grownBy W none) => (H W hg).mono (fun e w' h => (⟨h.1, (Gr.new hg).trans h.2.1, h.2.2, h.2.1⟩ : e = .returned v ∧ Gr K w w' ∧ R w' ∧ Gr K W w')))
  have G0 := Lib.hid (World.grownBy_alloc w (.cells #[.int .i64 x1, .int .i64 x2] 157) none)
  have E0 := Lib.hid (sk.En.made w x1 x2)
  obtain ⟨f0, f1, _, _, _⟩ := E0.out.f
  have f := (⟨G0.out.cell c (by simp), f0, f1⟩ : _ ∧ _ ∧ _)
  have NB := Lib.hid (show w.heap.size ∉ K from fun e => Nat.lt_irrefl _ (hK _ e))
  have NG := Lib.hid hg
  clear f0 f1 H hK hg c
  go_enter Tryz.func257, Tryz.ntmps257
  go_wp2
  go_region_held3 (fun W => W.cell? ⟨g, 0, none⟩ = some p ∧ W.cell? ⟨w.heap.size, 0, none⟩ = some (.int .i64 x1) ∧ W.cell? ⟨w.heap.size, 1, none⟩ = some (.int .i64 x2)) (first | exact f | exact ff | go_keep) (
    (go_at_call 249; (with_reducible refine (HH.out _ (by first | exact G0.out | exact G0.out.trans (grown_drew _ _) | exact G0.out.trans (li.grown_drewN _ _ _))).mono ?_); rintro e w2 ⟨rfl, hg, hr, hg2⟩; have R2 := Lib.hid hr; have G2 := Lib.hid hg; have ff := (⟨hg2.cell (p := ⟨g, 0, none⟩) f.1 NG.out, hg2.cell (p := ⟨w.heap.size, 0, none⟩) f.2.1 NB.out, hg2.cell (p := ⟨w.heap.size, 1, none⟩) f.2.2 NB.out⟩ : _ ∧ _ ∧ _); clear hg hr hg2))
  go_wp2
  go_ret
  exact ⟨rfl, G2.out, R2.out⟩
theorem wnext (h : Gk w g k B K r s) : Calls Tryz.prog 209 #[.pointer (some ⟨g, 0, none⟩)] w fun e w' => e = sk.vb (top s.m) (decide (s.m ≠ [])) ∧ sk.Sk w' K k r s.b s.m.dropLast ∧ Gr K w w' := by
  have G0 := Lib.hid (World.grownBy_alloc w (.cells #[.int .i64 0, .int .i64 0] 157) none)
  have E0 := Lib.hid (sk.En.made w 0 0)
  have c0 := h.c0
  have PP := Lib.hid (Pop_any (h.sk.new G0.out))
  have NB := Lib.hid (show w.heap.size ∉ K from fun e => Nat.lt_irrefl _ (h.sk.lt _ e))
  have glt := h.lt g (by simp)
  generalize top s.m = x at PP
  generalize decide (s.m ≠ []) = d at PP
  obtain ⟨x1, x2⟩ := x
  clear h
  go_enter Tryz.func209, Tryz.ntmps209
  go_wp2_with (go_at_call 256; (with_reducible refine PP.out.mono ?_); rintro e w2 ⟨rfl, hs, hg⟩; obtain ⟨f0, f1, z0, z1, lt2⟩ := (E0.out.gr hg NB.out).f; have S2 := Lib.hid hs; have G2 := Lib.hid ((Gr.new G0.out).trans hg); clear hs hg)
  have GR := sk.grown_two w2 w.heap.size (.int .i64 x1) (.int .i64 x2)
  refine bodyPost_ret (v := .tuple #[.agg #[.int .i64 x1, .int .i64 x2], .bool d]) ?_ rfl ⟨rfl, ?_, ?_⟩
  · simp [results, Tryz.results209, go_sem, *]
  · exact S2.out.gr (Gr.one (L := [w.heap.size]) GR (by simp)) (fun q hq e => by rw [List.mem_singleton] at e; subst e; exact NB.out hq)
  · exact sk.gr_aside G2.out GR (Nat.le_refl _)
end
section
variable {w w' W : World} {g k r B : Nat} {K L : List Nat} {s : Ps} {p v : Value} {x1 x2 : Int}
theorem there_any (g : Nat) (w : World) : Calls Tryz.prog 199 #[.pointer (some ⟨g, 0, none⟩)] w fun e w' => e = .returned (.pointer (some ⟨g, 0, none⟩)) ∧ w = w' := by
  go_enter Tryz.func199, Tryz.ntmps199
  go_wp2
  go_ret
  exact ⟨rfl, rfl⟩
theorem Waiting_any (h : Gy w L g r s) : Calls Tryz.prog 254 #[.pointer (some ⟨g, 0, none⟩)] w fun e w' => e = .returned (.int .i64 s.m.length) ∧ w = w' := by
  obtain ⟨k, c, K, h, rfl⟩ := h
  have X := Lib.hid (wwaiting h.c0 (sk.Len_any h.sk))
  generalize s.m.length = n at X
  clear h
  go_enter Tryz.func254, Tryz.ntmps254
  go_wp2_with (first
    | (go_at_call 199; (with_reducible refine (there_any g _).mono ?_); rintro e w' ⟨rfl, hw⟩; subst hw)
    | (go_at_call 288; (with_reducible refine X.out.mono ?_); rintro e w' ⟨rfl, hw⟩; subst hw))
  go_ret
  exact ⟨rfl, rfl⟩
theorem Over_any (h : Gy w L g r s) : Calls Tryz.prog 255 #[.pointer (some ⟨g, 0, none⟩)] w fun e w' => e = .returned (.bool s.b) ∧ w = w' := by
  obtain ⟨k, c, K, h, rfl⟩ := h
  have X := Lib.hid (wover h.c0 (sk.Over_any h.sk))
  generalize s.b = n at X
  clear h
  go_enter Tryz.func255, Tryz.ntmps255
  go_wp2_with (first
    | (go_at_call 199; (with_reducible refine (there_any g _).mono ?_); rintro e w' ⟨rfl, hw⟩; subst hw)
    | (go_at_call 289; (with_reducible refine X.out.mono ?_); rintro e w' ⟨rfl, hw⟩; subst hw))
  go_ret
  exact ⟨rfl, rfl⟩
theorem Settle_any (h : Gy w L g r s) : Calls Tryz.prog 141 #[.pointer (some ⟨g, 0, none⟩)] w (Ga L g r (.bool s.b) s.settle w) := by
  obtain ⟨k, c, K, h, rfl⟩ := h
  have X := Lib.hid ((wsettle h.c0 (sk.Settle_any h.sk)).mono (fun e w' (k : e = .returned (.bool s.b) ∧ _) => (show e = .returned (.bool s.b) ∧ Ga (g :: c :: K) g r (.bool s.b) s.settle w e w' from ⟨k.1, k.1, _, h.stack k.2.1 (fun q hq => .inl hq) k.2.2⟩)))
  generalize s.b = n at X
  clear h
  go_enter Tryz.func141, Tryz.ntmps141
  go_wp2_with (first
    | (go_at_call 199; (with_reducible refine (there_any g _).mono ?_); rintro e w' ⟨rfl, hw⟩; subst hw)
    | (go_at_call 212; (with_reducible refine X.out.mono ?_); rintro e w2 ⟨rfl, hr⟩; have R2 := Lib.hid hr; clear hr))
  go_ret
  exact R2.out
theorem Next_any (h : Gy w L g r s) : Calls Tryz.prog 139 #[.pointer (some ⟨g, 0, none⟩)] w (Ga L g r (.tuple #[.agg #[.int .i64 (top s.m).1, .int .i64 (top s.m).2], .bool (decide (s.m ≠ []))]) s.pop w) := by
  obtain ⟨k, c, K, h, rfl⟩ := h
  have G0 := Lib.hid (World.grownBy_alloc w (.cells #[.int .i64 0, .int .i64 0] 157) none)
  have E0 := Lib.hid (sk.En.made w 0 0)
  have NB := Lib.hid (show w.heap.size ∉ K from fun e => Nat.lt_irrefl _ (h.sk.lt _ e))
  have FIN := Lib.hid (fun (w2 w3 : World) (hs : sk.Sk w2 K k r s.b s.m.dropLast) (hg : Gr K w w2) (gr : w2.grownBy w3 (some w.heap.size)) => (show (∃ L', (∀ q, q ∈ L' → q ∈ g :: c :: K ∨ w.heap.size ≤ q) ∧ Gy w3 L' g r s.pop ∧ Gr (g :: c :: K) w w3) from by
    obtain ⟨h1, h2, h3⟩ := h.stack hs (fun q hq => .inl hq) hg
    have N : w.heap.size ∉ g :: c :: K := fun e => Nat.lt_irrefl _ (h.lt _ e)
    exact ⟨_, h1, h2.gr (Gr.one (L := [w.heap.size]) gr (by simp)) (fun q hq e => by rw [List.mem_singleton] at e; subst e; exact N hq), sk.gr_aside h3 gr (Nat.le_refl _)⟩))
  have X := Lib.hid (wnext (h.new G0.out))
  have glt := h.lt g (by simp)
  generalize top s.m = x at X
  generalize decide (s.m ≠ []) = d at X
  obtain ⟨x1, x2⟩ := x
  clear h
  go_enter Tryz.func139, Tryz.ntmps139
  go_wp2_with (first
    | (go_at_call 199; (with_reducible refine (there_any g _).mono ?_); rintro e w' ⟨rfl, hw⟩; subst hw)
    | (go_at_call 209; (with_reducible refine X.out.mono ?_); rintro e w2 ⟨rfl, hs, hg⟩; obtain ⟨f0, f1, z0, z1, lt2⟩ := (E0.out.gr hg NB.out).f; have S2 := Lib.hid hs; have G2 := Lib.hid ((Gr.new G0.out).trans hg); clear hs hg))
  have GR := sk.grown_two w2 w.heap.size (.int .i64 x1) (.int .i64 x2)
  refine bodyPost_ret (v := .tuple #[.agg #[.int .i64 x1, .int .i64 x2], .bool d]) ?_ rfl ⟨rfl, ?_⟩
  · simp [results, Tryz.results139, go_sem, *]
  · exact FIN.out _ _ S2.out G2.out GR
end
end Go.Proofs.YtkgdcgmbapchcaaGreatDoor.sh
