/- Joined: ShA, ShB. -/
import Derived.Test.YtfloleflcoiidaaGreatDoorBmQ
import Derived.Test.YtfloleflcoiidaaGreatDoorSkY
/- A grey, plain: marks, what waits, a note; what a call makes of it. What a set of addresses answers. -/
namespace Go.Proofs.YtfloleflcoiidaaGreatDoor.sh
open Go.ChangeShapes Go.WideShapes Go.ChangeAt Go.RowKit gen li en gr
set_option linter.unusedVariables false
set_option maxHeartbeats 4000000
set_option maxRecDepth 100000

/-- Is z an address that is marked; one that is not? -/
def isb (ws : List Nat) (z : Int) : Bool := decide (0 ≤ z) && decide (z < 2048) && bm.bit ws z.toNat
def newb (ws : List Nat) (z : Int) : Bool := decide (0 ≤ z) && decide (z < 2048) && !bm.bit ws z.toNat
def mkd (ws : List Nat) (z : Int) : List Nat := if newb ws z = true then bm.put ws z.toNat else ws
def rmd (ws : List Nat) (z : Int) : List Nat := if isb ws z = true then bm.cut ws z.toNat else ws
/-- Marks, what waits, whether a loss is noted. -/
structure Ps where
  ws : List Nat
  m : List Va
  b : Bool
def Ps.push (s : Ps) (r : Nat) (x : Va) : Ps := if s.m.length < r then ⟨s.ws, s.m ++ [x], s.b⟩ else ⟨s.ws, s.m, true⟩
def Ps.black (s : Ps) (z : Int) : Ps := ⟨mkd s.ws z, s.m, s.b⟩
def Ps.shade (s : Ps) (r : Nat) (z : Int) : Ps := if newb s.ws z = true then (s.black z).push r (z, 0) else s
def Ps.clear (s : Ps) (z : Int) : Ps := ⟨rmd s.ws z, s.m, s.b⟩
def Ps.pop (s : Ps) : Ps := ⟨s.ws, s.m.dropLast, s.b⟩
def Ps.settle (s : Ps) : Ps := ⟨s.ws, s.m, false⟩
/-- The topmost entry; zero, if there is none. -/
def top (m : List Va) : Va := m.getLast?.getD (0, 0)
abbrev none0 : Ps := ⟨bm.zeros, [], false⟩
theorem ways (ws : List Nat) (z : Int) : (¬ (0 ≤ z ∧ z < 2048) ∧ isb ws z = false ∧ newb ws z = false ∧ mkd ws z = ws ∧ rmd ws z = ws) ∨
    ∃ i : Nat, z = i ∧ i < 2048 ∧ ((bm.bit ws i = true ∧ isb ws z = true ∧ newb ws z = false ∧ mkd ws z = ws ∧ rmd ws z = bm.cut ws i) ∨ (bm.bit ws i = false ∧ isb ws z = false ∧ newb ws z = true ∧ mkd ws z = bm.put ws i ∧ rmd ws z = ws)) := by
  by_cases h : 0 ≤ z ∧ z < 2048
  · refine .inr ⟨z.toNat, by omega, by omega, ?_⟩
    cases hb : bm.bit ws z.toNat with
    | true =>
      have h1 : isb ws z = true := by simp [isb, h, hb]
      have h2 : newb ws z = false := by simp [newb, h, hb]
      exact .inl ⟨rfl, h1, h2, by simp [mkd, h2], by simp [rmd, h1]⟩
    | false =>
      have h1 : isb ws z = false := by simp [isb, h, hb]
      have h2 : newb ws z = true := by simp [newb, h, hb]
      exact .inr ⟨rfl, h1, h2, by simp [mkd, h2], by simp [rmd, h1]⟩
  · have h1 : isb ws z = false := by
      unfold isb
      rw [show (decide (0 ≤ z) && decide (z < 2048)) = false by rw [← Bool.decide_and]; exact decide_eq_false h]
      rfl
    have h2 : newb ws z = false := by
      unfold newb
      rw [show (decide (0 ≤ z) && decide (z < 2048)) = false by rw [← Bool.decide_and]; exact decide_eq_false h]
      rfl
    exact .inl ⟨h, h1, h2, by simp [mkd, h2], by simp [rmd, h1]⟩
section
variable {w w' : World} {g : Nat} {b : Bool} {ws : List Nat}
theorem drew_grown (h : bm.Drew w w') (row : Option Nat) : w.grownBy w' row := by
  obtain ⟨k, rfl⟩ := h
  exact grown_drewN _ _ _
theorem SHas (h : bm.SetAt w g b 2048 ws) (z : Int) : Calls Tryz.prog 53 #[.pointer (some ⟨g, 0, none⟩), .int .i64 z] w fun e w' => e = .returned (.bool (isb ws z)) ∧ w.grownBy w' none := by
  rcases ways ws z with ⟨h1, h2, _⟩ | ⟨i, rfl, hi, ⟨hb, h2, _⟩ | ⟨hb, h2, _⟩⟩
  · exact (bm.Has_out _ z w (bm.place_no h z h1)).mono fun e w' ⟨h3, h4⟩ => ⟨by rw [h2]; exact h3, by subst h4; exact World.grownBy.refl _ _⟩
  · exact (bm.Has_yes h i hi hb).mono fun e w' ⟨h3, h4⟩ => ⟨by rw [h2]; exact h3, drew_grown h4 _⟩
  · exact (bm.Has_no h i hi hb).mono fun e w' ⟨h3, h4⟩ => ⟨by rw [h2]; exact h3, drew_grown h4 _⟩
theorem SAdd (h : bm.SetAt w g b 2048 ws) (z : Int) : Calls Tryz.prog 51 #[.pointer (some ⟨g, 0, none⟩), .int .i64 z] w fun e w' => e = .returned (.bool (newb ws z)) ∧ bm.SetAt w' g b 2048 (mkd ws z) ∧ w.grownBy w' (some g) := by
  rcases ways ws z with ⟨h1, _, h2, h5, _⟩ | ⟨i, rfl, hi, ⟨hb, _, h2, h5, _⟩ | ⟨hb, _, h2, h5, _⟩⟩
  · exact (bm.Add_out _ z w (bm.place_no h z h1)).mono fun e w' ⟨h3, h4⟩ => ⟨by rw [h2]; exact h3, by subst h4; rw [h5]; exact h, by subst h4; exact World.grownBy.refl _ _⟩
  · exact (bm.Add_in h i hi hb).mono fun e w' ⟨h3, h4⟩ => ⟨by rw [h2]; exact h3, by rw [h5]; exact h.kept (drew_grown h4 none) (by simp), drew_grown h4 _⟩
  · exact (bm.Add_yes h i hi hb).mono fun e w' ⟨h3, h4, h6⟩ => ⟨by rw [h2]; exact h3, by rw [h5]; exact h4, h6⟩
theorem SRemove (h : bm.SetAt w g b 2048 ws) (z : Int) : Calls Tryz.prog 106 #[.pointer (some ⟨g, 0, none⟩), .int .i64 z] w fun e w' => e = .returned (.bool (isb ws z)) ∧ bm.SetAt w' g b 2048 (rmd ws z) ∧ w.grownBy w' (some g) := by
  rcases ways ws z with ⟨h1, h2, _, _, h5⟩ | ⟨i, rfl, hi, ⟨hb, h2, _, _, h5⟩ | ⟨hb, h2, _, _, h5⟩⟩
  · exact (bm.Remove_out _ z w (bm.place_no h z h1)).mono fun e w' ⟨h3, h4⟩ => ⟨by rw [h2]; exact h3, by subst h4; rw [h5]; exact h, by subst h4; exact World.grownBy.refl _ _⟩
  · exact (bm.Remove_yes h i hi hb).mono fun e w' ⟨h3, h4, h6⟩ => ⟨by rw [h2]; exact h3, by rw [h5]; exact h4, h6⟩
  · exact (bm.Remove_no h i hi hb).mono fun e w' ⟨h3, h4⟩ => ⟨by rw [h2]; exact h3, by rw [h5]; exact h.kept (drew_grown h4 none) (by simp), drew_grown h4 _⟩
theorem SHas_nil (z : Int) (w : World) : Calls Tryz.prog 53 #[.pointer none, .int .i64 z] w fun e w' => e = .returned (.bool false) ∧ w = w' := (bm.Has_out _ z w (bm.place_nil z w)).mono fun e w' h => ⟨h.1, h.2.symm⟩
theorem SAdd_nil (z : Int) (w : World) : Calls Tryz.prog 51 #[.pointer none, .int .i64 z] w fun e w' => e = .returned (.bool false) ∧ w = w' := (bm.Add_out _ z w (bm.place_nil z w)).mono fun e w' h => ⟨h.1, h.2.symm⟩
theorem SRemove_nil (z : Int) (w : World) : Calls Tryz.prog 106 #[.pointer none, .int .i64 z] w fun e w' => e = .returned (.bool false) ∧ w = w' := (bm.Remove_out _ z w (bm.place_nil z w)).mono fun e w' h => ⟨h.1, h.2.symm⟩
theorem SCount (h : bm.SetAt w g b 2048 ws) : Calls Tryz.prog 44 #[.pointer (some ⟨g, 0, none⟩)] w fun e w' => e = .returned (.int .i64 (bm.nums ws).length) ∧ w.grownBy w' none :=
  (bm.Count_yes h).mono fun e w' h => ⟨h.1, by first | exact drew_grown h.2 _ | (rw [h.2]; exact World.grownBy.refl _ _)⟩
end
/-! ### What stands in memory -/
/-- A grey at g: its stack at k, its set at s; K are the stack's blocks. -/
structure Gk (w : World) (g k c : Nat) (K : List Nat) (r : Nat) (s : Ps) : Prop where
  ob : w.heap[g]? = some (.cells #[.pointer (some ⟨k, 0, none⟩), .pointer (some ⟨c, 0, none⟩)] 75 (0, 0))
  sk : sk.Sk w K k r s.b s.m
  st : bm.SetAt w c true 2048 s.ws
  r1 : 1 ≤ r
/-- The same, in the blocks L. -/
def Gy (w : World) (L : List Nat) (g r : Nat) (s : Ps) : Prop := ∃ k c K, Gk w g k c K r s ∧ L = g :: c :: K
section
variable {w w' : World} {g k c r B : Nat} {K K' L L' M : List Nat} {s s' : Ps} {ws : List Nat}
theorem Gk.nc (h : Gk w g k c K r s) : g ≠ c := ty_ne h.ob h.st.1 (by decide)
theorem Gk.ng (h : Gk w g k c K r s) : g ∉ K := h.sk.off h.ob (by decide) (by decide)
theorem Gk.nk (h : Gk w g k c K r s) : c ∉ K := h.sk.off h.st.1 (by decide) (by decide)
theorem Gk.c0 (h : Gk w g k c K r s) : w.cell? ⟨g, 0, none⟩ = some (.pointer (some ⟨k, 0, none⟩)) := by rw [cell_of_row w g 0 _ _ _ h.ob]; rfl
theorem Gk.c1 (h : Gk w g k c K r s) : w.cell? ⟨g, 1, none⟩ = some (.pointer (some ⟨c, 0, none⟩)) := by rw [cell_of_row w g 1 _ _ _ h.ob]; rfl
theorem Gk.gr (h : Gk w g k c K r s) (hg : Gr M w w') (h1 : g ∉ M) (h2 : c ∉ M) (h3 : ∀ q, q ∈ K → q ∉ M) : Gk w' g k c K r s :=
  ⟨hg.heap h.ob h1, h.sk.gr hg h3, ⟨hg.heap h.st.1 h2, h.st.2⟩, h.r1⟩
theorem Gk.new (h : Gk w g k c K r s) (hg : w.grownBy w' none) : Gk w' g k c K r s := h.gr (Gr.new (L := []) hg) (by simp) (by simp) (by simp)
theorem Gy.gr (h : Gy w L g r s) (hg : Gr M w w') (hL : ∀ q, q ∈ L → q ∉ M) : Gy w' L g r s := by
  obtain ⟨k, c, K, h, rfl⟩ := h
  exact ⟨k, c, K, h.gr hg (hL g (by simp)) (hL c (by simp)) (fun q hq => hL q (by simp [hq])), rfl⟩
theorem Gy.new (h : Gy w L g r s) (hg : w.grownBy w' none) : Gy w' L g r s := h.gr (Gr.new (L := []) hg) (by simp)
theorem Gk.lt (h : Gk w g k c K r s) : ∀ q, q ∈ g :: c :: K → q < w.heap.size := fun q hq => by
  rcases List.mem_cons.1 hq with rfl | hq
  · exact (Array.getElem?_eq_some_iff.1 h.ob).1
  rcases List.mem_cons.1 hq with rfl | hq
  · exact h.st.lt
  · exact h.sk.lt q hq
theorem Gy.lt (h : Gy w L g r s) : ∀ q, q ∈ L → q < w.heap.size := by
  obtain ⟨k, c, K, h, rfl⟩ := h
  exact h.lt
theorem Gy.fine (h : Gy w L g r s) : bm.Fine 2048 s.ws := by
  obtain ⟨k, c, K, h, rfl⟩ := h
  exact h.st.2
theorem Gy.hi (h : Gy w L g r s) : r ≤ 256 := by obtain ⟨k, c, K, h, rfl⟩ := h; exact h.sk.hi
theorem Gy.r1 (h : Gy w L g r s) : 1 ≤ r := by obtain ⟨k, c, K, h, rfl⟩ := h; exact h.r1
theorem Gy.fit (h : Gy w L g r s) : s.m.length ≤ r := by obtain ⟨k, c, K, h, rfl⟩ := h; exact h.sk.fit
/-- What is of another type is none of a grey's. -/
theorem Gy.off (h : Gy w L g r s) {cs : Array Value} {t : TypeId} {z : Nat × Nat} (hb : w.heap[B]? = some (.cells cs t z)) (h1 : t ≠ 75) (h2 : t ≠ 108) (h3 : t ≠ 121) (h4 : t ≠ 202) : B ∉ L := fun hB => by
  obtain ⟨k, c, K, h, rfl⟩ := h
  rcases List.mem_cons.1 hB with rfl | hB
  · exact ty_ne hb h.ob h1 rfl
  rcases List.mem_cons.1 hB with rfl | hB
  · exact ty_ne hb h.st.1 h2 rfl
  · exact h.sk.off hb h3 h4 hB
/-- What a call of a grey leaves. -/
def Ga (L : List Nat) (g r : Nat) (v : Value) (s : Ps) (w : World) (e : Ending) (w' : World) : Prop := e = .returned v ∧ ∃ L', (∀ q, q ∈ L' → q ∈ L ∨ w.heap.size ≤ q) ∧ Gy w' L' g r s ∧ Gr L w w'
theorem Gk.mark (h : Gk w g k c K r s) (hs : bm.SetAt w' c true 2048 ws) (hg : w.grownBy w' (some c)) : Gy w' (g :: c :: K) g r ⟨ws, s.m, s.b⟩ ∧ Gr (g :: c :: K) w w' := by
  have G : Gr [c] w w' := Gr.one hg (by simp)
  exact ⟨⟨k, c, K, ⟨G.heap h.ob (by simpa using h.nc), h.sk.gr G (fun q hq e => by rw [List.mem_singleton] at e; subst e; exact h.nk hq), hs, h.r1⟩, rfl⟩, G.mono (fun q hq => by simp at hq; simp [hq])⟩
theorem Gk.stack {b : Bool} {m : List Va} (h : Gk w g k c K r s) (hs : sk.Sk w' K' k r b m) (hK : ∀ q, q ∈ K' → q ∈ K ∨ w.heap.size ≤ q) (hg : Gr K w w') :
    (∀ q, q ∈ g :: c :: K' → q ∈ g :: c :: K ∨ w.heap.size ≤ q) ∧ Gy w' (g :: c :: K') g r ⟨s.ws, m, b⟩ ∧ Gr (g :: c :: K) w w' := by
  refine ⟨fun q hq => ?_, ⟨k, c, K', ⟨hg.heap h.ob h.ng, hs, ⟨hg.heap h.st.1 h.nk, h.st.2⟩, h.r1⟩, rfl⟩, hg.mono (fun q hq => by simp [hq])⟩
  rcases List.mem_cons.1 hq with rfl | hq
  · exact .inl (by simp)
  rcases List.mem_cons.1 hq with rfl | hq
  · exact .inl (by simp)
  · exact (hK q hq).imp (fun e => by simp [e]) id
end
end Go.Proofs.YtfloleflcoiidaaGreatDoor.sh

/- A grey's own calls that look at its stack, and what nil's, and a zero one's, answer. -/
namespace Go.Proofs.YtfloleflcoiidaaGreatDoor.sh
open Go.ChangeShapes Go.WideShapes Go.ChangeAt Go.RowKit gen li en gr
set_option linter.unusedVariables false
set_option maxHeartbeats 4000000
set_option maxRecDepth 100000
/-! ### The stack's calls, both ways in one -/
theorem dropLast_top {m : List Va} (h : m ≠ []) : m.dropLast ++ [top m] = m := by
  rcases List.eq_nil_or_concat m with rfl | ⟨l, a, rfl⟩
  · exact absurd rfl h
  · simp [top]
theorem Ps.push_yes {s : Ps} {r : Nat} (h : s.m.length < r) (x : Va) : s.push r x = ⟨s.ws, s.m ++ [x], s.b⟩ := if_pos h
theorem Ps.push_no {s : Ps} {r : Nat} (h : ¬ s.m.length < r) (x : Va) : s.push r x = ⟨s.ws, s.m, true⟩ := if_neg h
theorem Ps.push_ws (s : Ps) (r : Nat) (x : Va) : (⟨s.ws, (s.push r x).m, (s.push r x).b⟩ : Ps) = s.push r x := by
  unfold Ps.push
  split <;> rfl
section
variable {w w' W : World} {g k r B : Nat} {K L : List Nat} {s : Ps} {p v : Value} {R : World → Prop} {x1 x2 : Int}
end
/-! ### there -/
/-- A zero one; one that New did not make: nil, or a zero one. -/
def Od (w : World) (B : Nat) : Prop := w.heap[B]? = some (.cells #[.pointer none, .pointer none] 75 (0, 0))
def No (w : World) (p : Value) : Prop := p = .pointer none ∨ ∃ B, p = .pointer (some ⟨B, 0, none⟩) ∧ Od w B
section
variable {w w' W : World} {g k r B : Nat} {K L : List Nat} {s : Ps} {p v : Value} {x1 x2 : Int}
theorem Od.new (h : Od w B) (hg : w.grownBy w' none) : Od w' B := (Gr.new (L := []) hg).heap h (by simp)
theorem Od.c (h : Od w B) : w.cell? ⟨B, 0, none⟩ = some (.pointer none) ∧ w.cell? ⟨B, 1, none⟩ = some (.pointer none) := ⟨by rw [cell_of_row w B 0 _ _ _ h]; rfl, by rw [cell_of_row w B 1 _ _ _ h]; rfl⟩
theorem No.new (h : No w p) (hg : w.grownBy w' none) : No w' p := h.imp id (fun ⟨B, e, h⟩ => ⟨B, e, h.new hg⟩)
theorem there_any (g : Nat) (w : World) : Calls Tryz.prog 36 #[.pointer (some ⟨g, 0, none⟩)] w fun e w' => e = .returned (.pointer (some ⟨g, 0, none⟩)) ∧ w = w' := by
  go_enter Tryz.func36, Tryz.ntmps36
  go_wp2
  go_ret
  exact ⟨rfl, rfl⟩
theorem there_no (h : No w p) : Calls Tryz.prog 36 #[p] w fun e w' => ∃ B, e = .returned (.pointer (some ⟨B, 0, none⟩)) ∧ Od w' B ∧ w.grownBy w' none := by
  rcases h with rfl | ⟨B, rfl, h⟩
  · have Z := Lib.hid (show Od (w.alloc (.cells #[.pointer none, .pointer none] 75)) w.heap.size from heap_alloc_new _ _)
    go_enter Tryz.func36, Tryz.ntmps36
    go_wp2
    go_ret
    exact ⟨_, rfl, Z.out, World.grownBy_alloc _ _ _⟩
  · exact (there_any B w).mono fun e w' ⟨h1, h2⟩ => ⟨B, h1, h2 ▸ h, h2 ▸ World.grownBy.refl _ _⟩
end
end Go.Proofs.YtfloleflcoiidaaGreatDoor.sh
