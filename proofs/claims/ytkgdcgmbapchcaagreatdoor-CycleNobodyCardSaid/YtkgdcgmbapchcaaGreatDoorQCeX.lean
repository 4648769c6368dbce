/- Texts that this claim stands on. -/
import Derived.BigRegion
import Derived.RegionTactic
import Derived.Deep.RegionHeld3
import Derived.Deep.RegionWith
import Derived.Test.YtkgdcgmbapchcaaGreatDoorQChQ
import Derived.Test.YtkgdcgmbapchcaaGreatDoorQPgQ
import Derived.Test.YtkgdcgmbapchcaaGreatDoorQBmQ
namespace Go.Proofs.YtkgdcgmbapchcaaGreatDoor.ce
open Go.ChangeShapes Go.WideShapes Go.ChangeAt Go.RowKit gen calls cls geos
set_option linter.unusedVariables false
structure Gr (L : List Nat) (w w' : World) : Prop where
  os : w'.os = w.os
  tape : w'.tape = w.tape
  output : w'.output = w.output
  size : w.heap.size ≤ w'.heap.size
  block : ∀ k, k < w.heap.size → k ∉ L → w'.heap[k]? = w.heap[k]?
section
variable {L M : List Nat} {a b w w' w'' : World}
theorem Gr.refl (L : List Nat) (w : World) : Gr L w w := ⟨rfl, rfl, rfl, Nat.le_refl _, fun _ _ _ => rfl⟩
theorem Gr.trans (h : Gr L w w') (k : Gr L w' w'') : Gr L w w'' :=
  ⟨k.os.trans h.os, k.tape.trans h.tape, k.output.trans h.output, Nat.le_trans h.size k.size, fun i h1 h2 => (k.block i (Nat.lt_of_lt_of_le h1 h.size) h2).trans (h.block i h1 h2)⟩
theorem Gr.of {row : Option Nat} (h : w.grownBy w' row) (hr : ∀ q, row = some q → q ∈ L) : Gr L w w' :=
  ⟨h.os, h.tape, h.output, h.size, fun k h1 h2 => h.block k h1 (fun e => h2 (hr k e.symm))⟩
theorem Gr.new (h : w.grownBy w' none) : Gr L w w' := .of h (fun _ e => by cases e)
theorem Gr.one {q : Nat} (h : w.grownBy w' (some q)) (hq : q ∈ L) : Gr L w w' := .of h (fun _ e => by injection e with e; subst e; exact hq)
theorem Gr.drewN (h : Gr L w w') (n : Nat) : Gr L w (w'.drewN n) := ⟨h.os, h.tape, h.output, h.size, h.block⟩
theorem Gr.drew (h : Gr L w w') : Gr L w w'.drew := ⟨h.os, h.tape, h.output, h.size, h.block⟩
theorem Gr.made (h : Gr L w w') (k : w'.grownBy w'' none) : Gr L w w'' := h.trans (.new k)
theorem Gr.own (h : Gr L w w') (k : Gr M w' w'') (hM : ∀ q, q ∈ M → q ∈ L ∨ w.heap.size ≤ q) : Gr L w w'' :=
  ⟨k.os.trans h.os, k.tape.trans h.tape, k.output.trans h.output, Nat.le_trans h.size k.size, fun i h1 h2 => (k.block i (Nat.lt_of_lt_of_le h1 h.size) (fun hm => by rcases hM i hm with e | e; (exact h2 e); omega)).trans (h.block i h1 h2)⟩
theorem Gr.mono (h : Gr L w w') (hL : ∀ k, k ∈ L → k ∈ M) : Gr M w w' := ⟨h.os, h.tape, h.output, h.size, fun k h1 h2 => h.block k h1 (fun e => h2 (hL k e))⟩
theorem Gr.heap (h : Gr L w w') {k : Nat} {o : Obj} (hk : w.heap[k]? = some o) (hn : k ∉ L) : w'.heap[k]? = some o := (h.block k (Array.getElem?_eq_some_iff.1 hk).1 hn).trans hk
theorem Gr.cell (h : Gr L w w') {p : Addr} {v : Value} (hc : w.cell? p = some v) (hn : p.block ∉ L) : w'.cell? p = some v :=
  (World.cell?_of_block (h.block _ (World.block_lt_of_cell? w p hc) hn)).trans hc
theorem Gr.set (w : World) (B k : Nat) (v : Value) (hB : B ∈ L) : Gr L w (w.setCell ⟨B, k, none⟩ v) := .one (ch.grown_row (World.grownBy.refl w _) k v) hB
end
theorem _root_.Go.Proofs.YtkgdcgmbapchcaaGreatDoor.pg.Tab.gr {L : List Nat} {w w' : World} {g r : Nat} {xs : List Int} (h : pg.Tab w g r xs) (hg : Gr L w w') (h1 : g ∉ L) (h2 : r ∉ L) : pg.Tab w' g r xs := by
  obtain ⟨zs, a, b, c, d⟩ := h
  exact ⟨zs, hg.heap a h1, hg.heap b h2, c, d⟩
theorem _root_.Go.Proofs.YtkgdcgmbapchcaaGreatDoor.mm.MemAt.gr {L : List Nat} {w w' : World} {g r : Nat} {xs : List Int} (h : mm.MemAt w g r xs) (hg : Gr L w w') (h1 : g ∉ L) (h2 : r ∉ L) : mm.MemAt w' g r xs := ⟨hg.heap h.1 h1, hg.heap h.2.1 h2, h.2.2⟩
theorem _root_.Go.Proofs.YtkgdcgmbapchcaaGreatDoor.bm.SetAt.gr {L : List Nat} {w w' : World} {g n : Nat} {b : Bool} {ws : List Nat} (h : bm.SetAt w g b n ws) (hg : Gr L w w') (h1 : g ∉ L) : bm.SetAt w' g b n ws := ⟨hg.heap h.1 h1, h.2⟩
def hcs (g m s : Nat) (cs : List Int) : List Value := .pointer (some ⟨g, 0, none⟩) :: .pointer (some ⟨m, 0, none⟩) :: (cs.map (Value.int .i64) ++ [.pointer (some ⟨s, 0, none⟩)])
structure Hp (w : World) (c h g r m q s : Nat) (ks xs cs : List Int) (ws : List Nat) : Prop where
  cel : w.heap[c]? = some (.cells #[.pointer (some ⟨h, 0, none⟩)] 221 (0, 0))
  hea : w.heap[h]? = some (.cells (hcs g m s cs).toArray 197 (0, 0))
  tab : pg.Tab w g r ks
  mem : mm.MemAt w m q xs
  set : bm.SetAt w s true xs.length ws
  len : cs.length = 128
section
variable {w w' : World} {c h g r m q s : Nat} {ks xs cs : List Int} {ws : List Nat}
theorem Hp.c0 (H : Hp w c h g r m q s ks xs cs ws) : w.cell? ⟨c, 0, none⟩ = some (.pointer (some ⟨h, 0, none⟩)) := by rw [cell_of_row w c 0 _ _ _ H.cel]; rfl
theorem Hp.h0 (H : Hp w c h g r m q s ks xs cs ws) : w.cell? ⟨h, 0, none⟩ = some (.pointer (some ⟨g, 0, none⟩)) := by rw [cell_of_row w h 0 _ _ _ H.hea]; rfl
theorem Hp.h1 (H : Hp w c h g r m q s ks xs cs ws) : w.cell? ⟨h, 1, none⟩ = some (.pointer (some ⟨m, 0, none⟩)) := by rw [cell_of_row w h 1 _ _ _ H.hea]; rfl
theorem Hp.hs (H : Hp w c h g r m q s ks xs cs ws) : w.cell? ⟨h, 130, none⟩ = some (.pointer (some ⟨s, 0, none⟩)) := by
  rw [cell_of_row w h 130 _ _ _ H.hea]
  have := H.len
  simp [hcs, this]
theorem Hp.at (H : Hp w c h g r m q s ks xs cs ws) {i : Nat} (hi : i < 128) : w.cell? ⟨h, 2 + i, none⟩ = some (.int .i64 (cs.getD i 0)) := by
  rw [cell_of_row w h (2 + i) _ _ _ H.hea, show 2 + i = i + 1 + 1 by omega]
  have := H.len
  simp [hcs, List.getElem?_append, this, hi]
theorem Hp.fz (H : Hp w c h g r m q s ks xs cs ws) (k : Nat) : w.frozen? ⟨h, k, none⟩ = false := frozen_of_row w h k _ _ H.hea
theorem ty_ne {w : World} {a b : Nat} {x y : Array Value} {t u : TypeId} {f k : Nat × Nat} (h1 : w.heap[a]? = some (.cells x t f)) (h2 : w.heap[b]? = some (.cells y u k)) (h : t ≠ u) : a ≠ b := by
  rintro rfl
  have := h1.symm.trans h2
  injection this with this
  injection this with _ e _
  exact h e
structure Ne7 (c h g r m q s : Nat) : Prop where
  ch : c ≠ h
  cr : c ≠ r
  cq : c ≠ q
  cs : c ≠ s
  hg : h ≠ g
  hr : h ≠ r
  hm : h ≠ m
  hq : h ≠ q
  hs : h ≠ s
  gr : g ≠ r
  gq : g ≠ q
  gs : g ≠ s
  rm : r ≠ m
  rq : r ≠ q
  rs : r ≠ s
  mq : m ≠ q
  ms : m ≠ s
  qs : q ≠ s
theorem Hp.ne (H : Hp w c h g r m q s ks xs cs ws) : Ne7 c h g r m q s := by
  obtain ⟨zs, t1, t2, _⟩ := H.tab
  obtain ⟨m1, m2, _⟩ := H.mem
  obtain ⟨s1, _⟩ := H.set
  have c1 := H.cel
  have h1 := H.hea
  exact ⟨ty_ne c1 h1 (by decide), ty_ne c1 t2 (by decide), ty_ne c1 m2 (by decide), ty_ne c1 s1 (by decide), ty_ne h1 t1 (by decide), ty_ne h1 t2 (by decide), ty_ne h1 m1 (by decide), ty_ne h1 m2 (by decide), ty_ne h1 s1 (by decide),
    ty_ne t1 t2 (by decide), ty_ne t1 m2 (by decide), ty_ne t1 s1 (by decide), ty_ne t2 m1 (by decide), ty_ne t2 m2 (by decide), ty_ne t2 s1 (by decide), ty_ne m1 m2 (by decide), ty_ne m1 s1 (by decide), ty_ne m2 s1 (by decide)⟩
theorem Hp.lt (H : Hp w c h g r m q s ks xs cs ws) : c < w.heap.size ∧ h < w.heap.size ∧ g < w.heap.size ∧ r < w.heap.size ∧ m < w.heap.size ∧ q < w.heap.size ∧ s < w.heap.size :=
  ⟨pg.lt_of_heap H.cel, pg.lt_of_heap H.hea, H.tab.lt.1, H.tab.lt.2, H.mem.lt.1, H.mem.lt.2, H.set.lt⟩
theorem Hp.gr {L : List Nat} (H : Hp w c h g r m q s ks xs cs ws) (hg : Gr L w w') (hL : ∀ k, k ∈ L → k ≠ c ∧ k ≠ h ∧ k ≠ g ∧ k ≠ r ∧ k ≠ m ∧ k ≠ q ∧ k ≠ s) : Hp w' c h g r m q s ks xs cs ws := by
  have h1 : ∀ k, (k = c ∨ k = h ∨ k = g ∨ k = r ∨ k = m ∨ k = q ∨ k = s) → k ∉ L := fun k hk hm => by have := hL k hm; omega
  exact ⟨hg.heap H.cel (h1 _ (by omega)), hg.heap H.hea (h1 _ (by omega)), H.tab.gr hg (h1 _ (by omega)) (h1 _ (by omega)), H.mem.gr hg (h1 _ (by omega)) (h1 _ (by omega)), H.set.gr hg (h1 _ (by omega)), H.len⟩
theorem Hp.new (H : Hp w c h g r m q s ks xs cs ws) (hg : w.grownBy w' none) : Hp w' c h g r m q s ks xs cs ws := H.gr (L := []) (.new hg) (by simp)
theorem Hp.drewN (H : Hp w c h g r m q s ks xs cs ws) (n : Nat) : Hp (w.drewN n) c h g r m q s ks xs cs ws := ⟨H.cel, H.hea, H.tab, H.mem, H.set, H.len⟩
theorem Hp.drew (H : Hp w c h g r m q s ks xs cs ws) : Hp w.drew c h g r m q s ks xs cs ws := ⟨H.cel, H.hea, H.tab, H.mem, H.set, H.len⟩
theorem Hp.pages {ks' : List Int} (H : Hp w c h g r m q s ks xs cs ws) (ht : pg.Tab w' g r ks') (hg : w.grownBy w' (some r)) : Hp w' c h g r m q s ks' xs cs ws := by
  have n := H.ne
  have G : Gr [r] w w' := .one hg (by simp)
  exact ⟨G.heap H.cel (by simp; exact n.cr), G.heap H.hea (by simp; exact n.hr), ht, H.mem.gr G (by simp; exact n.rm.symm) (by simp; exact n.rq.symm), H.set.gr G (by simp; exact n.rs.symm), H.len⟩
theorem Hp.words {xs' : List Int} (H : Hp w c h g r m q s ks xs cs ws) (hm : mm.MemAt w' m q xs') (hg : w.grownBy w' (some q)) (hl : xs'.length = xs.length) : Hp w' c h g r m q s ks xs' cs ws := by
  have n := H.ne
  have G : Gr [q] w w' := .one hg (by simp)
  exact ⟨G.heap H.cel (by simp; exact n.cq), G.heap H.hea (by simp; exact n.hq), H.tab.gr G (by simp; exact n.gq) (by simp; exact n.rq), hm, hl ▸ H.set.gr G (by simp; exact n.qs.symm), H.len⟩
theorem Hp.takes {ws' : List Nat} (H : Hp w c h g r m q s ks xs cs ws) (hs : bm.SetAt w' s true xs.length ws') (hg : w.grownBy w' (some s)) : Hp w' c h g r m q s ks xs cs ws' := by
  have n := H.ne
  have G : Gr [s] w w' := .one hg (by simp)
  exact ⟨G.heap H.cel (by simp; exact n.cs), G.heap H.hea (by simp; exact n.hs), H.tab.gr G (by simp; exact n.gs) (by simp; exact n.rs), H.mem.gr G (by simp; exact n.ms) (by simp; exact n.qs), hs, H.len⟩
def cput (cs : List Int) (p : Nat) (f n : Int) : List Int := (cs.set (2 * p) f).set (2 * p + 1) n
theorem cput_length (cs : List Int) (p : Nat) (f n : Int) : (cput cs p f n).length = cs.length := by simp [cput]
theorem hcs_set {cs : List Int} {i : Nat} (hi : i < cs.length) (v : Int) : (hcs g m s cs).set (2 + i) (.int .i64 v) = hcs g m s (cs.set i v) := by
  rw [show 2 + i = i + 1 + 1 by omega]
  simp only [hcs, List.set_cons_succ]
  rw [List.set_append_left _ _ (by rw [List.length_map]; exact hi), List.map_set]
theorem Hp.cell (H : Hp w c h g r m q s ks xs cs ws) {i : Nat} (hi : i < 128) (v : Int) : Hp (w.setCell ⟨h, 2 + i, none⟩ (.int .i64 v)) c h g r m q s ks xs (cs.set i v) ws := by
  have n := H.ne
  have G : Gr [h] w (w.setCell ⟨h, 2 + i, none⟩ (.int .i64 v)) := .set _ _ _ _ (by simp)
  refine ⟨G.heap H.cel (by simp; exact n.ch), ?_, H.tab.gr G (by simp; exact n.hg.symm) (by simp; exact n.hr.symm), H.mem.gr G (by simp; exact n.hm.symm) (by simp; exact n.hq.symm), H.set.gr G (by simp; exact n.hs.symm), by rw [List.length_set]; exact H.len⟩
  rw [heap_setCell_same w h _ _ _ _ H.hea, List.setIfInBounds_toArray, hcs_set (by rw [H.len]; exact hi)]
theorem Hp.chain (H : Hp w c h g r m q s ks xs cs ws) {p : Nat} (hp : p < 64) (f n : Int) : Hp ((w.setCell ⟨h, 2 + p * 2, none⟩ (.int .i64 f)).setCell ⟨h, 2 + p * 2 + 1, none⟩ (.int .i64 n)) c h g r m q s ks xs (cput cs p f n) ws := by
  have := (H.cell (i := 2 * p) (by omega) f).cell (i := 2 * p + 1) (by omega) n
  rw [show 2 + 2 * p = 2 + p * 2 by omega, show 2 + (2 * p + 1) = 2 + p * 2 + 1 by omega] at this
  exact this
theorem made_yes (H : Hp w c h g r m q s ks xs cs ws) :
    Calls Tryz.prog 197 #[.pointer (some ⟨c, 0, none⟩)] w fun e w' => e = .returned (.pointer (some ⟨h, 0, none⟩)) ∧ w = w' := by
  have f := H.c0
  clear H
  go_enter Tryz.func197, Tryz.ntmps197
  go_wp2
  go_ret
  exact ⟨rfl, rfl⟩
def cf (cs : List Int) (p : Int) : Int := cs.getD (2 * p.toNat) 0
def cn (cs : List Int) (p : Int) : Int := cs.getD (2 * p.toNat + 1) 0
def lf (ks cs : List Int) (p : Int) : Int := if cl (pg.kind ks p) = 0 then 0 else cf cs p
def ln (ks cs : List Int) (p : Int) : Int := if cl (pg.kind ks p) = 0 then 0 else cn cs p
theorem cl_in {ks : List Int} {p : Int} (h : cl (pg.kind ks p) ≠ 0) : 1 ≤ pg.kind ks p ∧ pg.kind ks p ≤ 4 := by
  refine Decidable.byContradiction fun hn => h (cl_no (by omega))
theorem kind_fits {ks : List Int} (hk : pg.Ks ks) (p : Int) : fits (pg.kind ks p) = true := by
  have := pg.kind_wide hk p
  simp [fits]; omega
end
end Go.Proofs.YtkgdcgmbapchcaaGreatDoor.ce
namespace Go.Proofs.YtkgdcgmbapchcaaGreatDoor.ce
open Go.ChangeShapes Go.WideShapes Go.ChangeAt Go.RowKit gen calls cls geos
set_option linter.unusedVariables false
section
variable {w w' : World} {c h g r m q s : Nat} {ks xs cs : List Int} {ws : List Nat}
abbrev agg2 (a b : Int) : Ending := .returned (.agg #[.int .i64 a, .int .i64 b])
theorem left_no (H : Hp w c h g r m q s ks xs cs ws) (hk : pg.Ks ks) (p : Int) (h0 : cl (pg.kind ks p) = 0) :
    Calls Tryz.prog 231 #[.pointer (some ⟨h, 0, none⟩), .int .i64 p] w fun e w' => e = agg2 0 0 ∧ w.grownBy w' none := by
  have F := Lib.hid (kind_fits hk p)
  have G0 := Lib.hid (World.grownBy_alloc w (.cells #[.int .i64 0, .int .i64 0] 194) none)
  have D := Lib.hid (ch.Two.new w 194 0 0 rfl)
  have H0 := Lib.hid (H.new G0.out)
  have f := H0.out.h0
  obtain ⟨d0, d1, d2, d3⟩ := D.out
  clear H hk
  go_enter Tryz.func231, Tryz.ntmps231
  go_wp2_with (first
    | (go_at_call 230; (with_reducible refine (pg.Kind_any H0.out.tab p).mono ?_); rintro e w' ⟨rfl, rfl⟩)
    | (go_at_call 223; (with_reducible refine (cells_any _ _ F.out).mono ?_); rintro e w' ⟨rfl, rfl⟩; rw [h0]))
  refine bodyPost_ret (v := .agg #[.int .i64 0, .int .i64 0]) ?_ rfl ⟨rfl, World.grownBy_alloc _ _ _⟩
  simp [results, Tryz.results231, go_sem, *]
theorem left_yes (H : Hp w c h g r m q s ks xs cs ws) (hk : pg.Ks ks) (p : Nat) (hp : p < 64) (h0 : (cl (pg.kind ks p) == 0) = false) :
    Calls Tryz.prog 231 #[.pointer (some ⟨h, 0, none⟩), .int .i64 p] w fun e w' => e = agg2 (cf cs p) (cn cs p) ∧ w.grownBy w' none := by
  have F := Lib.hid (kind_fits hk p)
  have G0 := Lib.hid (World.grownBy_alloc w (.cells #[.int .i64 0, .int .i64 0] 194) none)
  have D := Lib.hid (ch.Two.new w 194 0 0 rfl)
  have H0 := Lib.hid (H.new G0.out)
  have f := H0.out.h0
  have f2 := H0.out.at (i := 2 * p) (by omega)
  have f3 := H0.out.at (i := 2 * p + 1) (by omega)
  rw [show 2 + 2 * p = 2 + p * 2 by omega] at f2
  rw [show 2 + (2 * p + 1) = 2 + p * 2 + 1 by omega] at f3
  rw [show cs.getD (2 * p) 0 = cf cs p by simp [cf]] at f2
  rw [show cs.getD (2 * p + 1) 0 = cn cs p by simp [cn]] at f3
  obtain ⟨d0, d1, d2, d3⟩ := D.out
  generalize cf cs p = a at *
  generalize cn cs p = b at *
  clear H hk
  go_enter Tryz.func231, Tryz.ntmps231
  go_wp2_with (first
    | (go_at_call 230; (with_reducible refine (pg.Kind_any H0.out.tab p).mono ?_); rintro e w' ⟨rfl, rfl⟩)
    | (go_at_call 223; (with_reducible refine (cells_any _ _ F.out).mono ?_); rintro e w' ⟨rfl, rfl⟩))
  refine bodyPost_ret (v := .agg #[.int .i64 a, .int .i64 b]) ?_ rfl ⟨rfl, World.grownBy_alloc _ _ _⟩
  simp [results, Tryz.results231, go_sem, *]
theorem kind_lt {ks : List Int} {p : Int} (hl : ks.length ≤ 64) (h : pg.kind ks p ≠ -1) : ∃ n : Nat, p = n ∧ n < 64 ∧ n < ks.length := by
  have := pg.kind_there h
  exact ⟨p.toNat, by omega, by omega, by omega⟩
theorem left_any (H : Hp w c h g r m q s ks xs cs ws) (hk : pg.Ks ks) (p : Int) :
    Calls Tryz.prog 231 #[.pointer (some ⟨h, 0, none⟩), .int .i64 p] w fun e w' => e = agg2 (lf ks cs p) (ln ks cs p) ∧ w.grownBy w' none := by
  by_cases h0 : cl (pg.kind ks p) = 0
  · rw [lf, if_pos h0, ln, if_pos h0]
    exact left_no H hk p h0
  · rw [lf, if_neg h0, ln, if_neg h0]
    have h1 := cl_in h0
    obtain ⟨n, rfl, hn, _⟩ := kind_lt H.tab.le (p := p) (by omega)
    exact left_yes H hk n hn (by simpa using h0)
theorem grant_any (H : Hp w c h g r m q s ks xs cs ws) (a n : Nat) (hn : a + n ≤ xs.length) (h1 : 0 < n) (ha : (a : Int) ∉ bm.nums ws) :
    Calls Tryz.prog 264 #[.pointer (some ⟨h, 0, none⟩), .int .i64 a, .int .i64 n] w fun e w' =>
      ∃ ws', e = .returned (.tuple #[]) ∧ Hp w' c h g r m q s ks (mm.fillN xs a 0 n) cs ws' ∧ bm.nums ws' = bm.rising (bm.nums ws ++ [(a : Int)]) ∧ Gr [h, r, q, s] w w' := by
  have f := H.h1
  have H0 := Lib.hid H
  have HN := Lib.hid hn
  have HA := Lib.hid ha
  have HS := Lib.hid (show (a : Int) < (xs.length : Int) by omega)
  clear H hn ha h1
  go_enter Tryz.func264, Tryz.ntmps264
  go_wp2_with (first
    | (go_at_call 281; (with_reducible refine (mm.Fill_yes H0.out.mem a n 0 HN.out).mono ?_); rintro e w1 ⟨rfl, hm, hg⟩; have H1 := Lib.hid (H0.out.words hm hg (mm.fillN_length _ _ _ _)); have G1 := Lib.hid (Gr.one (L := [h, r, q, s]) hg (by simp)); have f2 := H1.out.hs; clear hm hg)
    | (go_at_call 222; (with_reducible refine (bm.Add_ok H1.out.set a HA.out (by omega) (by rw [mm.fillN_length]; exact HS.out)).mono ?_); rintro e w2 ⟨ws2, rfl, hs, hx, hg⟩; have H2 := Lib.hid (H1.out.takes hs hg); have G2 := Lib.hid (G1.out.trans (Gr.one hg (by simp))); have HX := Lib.hid hx; clear hs hg hx))
  go_end0
  exact ⟨ws2, rfl, H2.out, HX.out, G2.out⟩
end
end Go.Proofs.YtkgdcgmbapchcaaGreatDoor.ce
namespace Go.Proofs.YtkgdcgmbapchcaaGreatDoor.ce
open Go.ChangeShapes Go.WideShapes Go.ChangeAt Go.RowKit gen calls cls geos
set_option linter.unusedVariables false
abbrev rI (n : Int) (b : Bool) : Ending := .returned (.tuple #[.int .i64 n, .bool b])
section
variable {w w' : World} {c h g r m q s : Nat} {ks xs cs : List Int} {ws : List Nat}
def Did (v : Value) (c h g r m q s : Nat) (ks xs cs tk : List Int) (w : World) (e : Ending) (w' : World) : Prop :=
  ∃ ws, e = .returned v ∧ Hp w' c h g r m q s ks xs cs ws ∧ bm.nums ws = tk ∧ Gr [h, r, q, s] w w'
theorem Carve_no (H : Hp w c h g r m q s ks xs cs ws) (k : Int) (hk : fits k = true) (hno : 1 ≤ k ∧ k ≤ 4 → pg.find 1 0 ks = none) :
    Calls Tryz.prog 271 #[.pointer (some ⟨c, 0, none⟩), .int .i64 k] w fun e w' => e = rI 0 false ∧ w.grownBy w' none := by
  have TK : Hid (Calls Tryz.prog 298 #[.pointer (some ⟨g, 0, none⟩), .int .i64 k] w fun e w' => e = rI 0 false ∧ w.grownBy w' none) := by
    by_cases hs : 1 ≤ k ∧ k ≤ 4
    · exact pg.Take_none hs (pg.lowest_none H.tab (n := 1) (by omega) (hno hs))
    · exact (pg.Take_small_no (q := some ⟨g, 0, none⟩) k w hk hs).mono fun e w' ⟨h1, h2⟩ => ⟨h1, by subst h2; exact World.grownBy.refl _ _⟩
  have f := H.h0
  have H0 := Lib.hid H
  clear H hk hno
  go_enter Tryz.func271, Tryz.ntmps271
  go_wp2_with (first
    | (go_at_call 197; (with_reducible refine (made_yes H0.out).mono ?_); rintro e w' ⟨rfl, rfl⟩)
    | (go_at_call 298; (with_reducible refine TK.out.mono ?_); rintro e w1 ⟨rfl, hg⟩; have G1 := Lib.hid hg; clear hg))
  go_ret2
  exact ⟨rfl, G1.out⟩
theorem Carve_yes (H : Hp w c h g r m q s ks xs cs ws) (k : Int) (hk : 1 ≤ k ∧ k ≤ 4) {p : Nat} (hf : pg.find 1 0 ks = some p) (hx : xs.length = 32 * ks.length) {z n : Nat} (hz : sz k = z) (hn : cl k = n) :
    Calls Tryz.prog 271 #[.pointer (some ⟨c, 0, none⟩), .int .i64 k] w (Did (.tuple #[.int .i64 p, .bool true]) c h g r m q s (ks.set p k) (ch.builtN xs p z n) (cput cs p 0 n) (bm.nums ws) w) := by
  have hp := (pg.find_at (n := 1) (by omega) hf).1
  have hl := H.tab.le
  have hp64 : p < 64 := by omega
  have HT := Lib.hid (ch.thk_iff.mpr (by omega) : ch.thk xs.length p k = true)
  have TK := Lib.hid (pg.Take_some H.tab hk hf)
  have f := H.h0
  have H0 := Lib.hid H
  have HZ := Lib.hid hz
  have HN := Lib.hid hn
  have HP := Lib.hid hp64
  clear H hk hf hx hp hl hz hn
  go_enter Tryz.func271, Tryz.ntmps271
  go_wp2_with (first
    | (go_at_call 197; (with_reducible refine (made_yes H0.out).mono ?_); rintro e w' ⟨rfl, rfl⟩)
    | (go_at_call 298; (with_reducible refine TK.out.mono ?_); rintro e w1 ⟨rfl, ht, hg⟩; have H1 := Lib.hid (H0.out.pages ht hg); have G1 := Lib.hid (Gr.one (L := [h, r, q, s]) hg (by simp)); have f1 := H1.out.h1; clear ht hg))
  go_region_with (first
    | (go_at_call 299; (with_reducible refine (ch.Build_yes H1.out.drew.mem p z n k HZ.out HN.out HT.out).mono ?_); rintro e w2 ⟨rfl, hm, hg⟩; have H2 := Lib.hid (H1.out.drew.words hm hg (by rw [ch.builtN_length])); have G2 := Lib.hid (G1.out.drew.trans (Gr.one hg (by simp))); have z1 := H2.out.fz (2 + p * 2); have z2 := H2.out.fz (2 + p * 2 + 1); have y1 := H2.out.at (i := 2 * p) (by omega); have y2 := H2.out.at (i := 2 * p + 1) (by omega); rw [show 2 + 2 * p = 2 + p * 2 by omega] at y1; rw [show 2 + (2 * p + 1) = 2 + p * 2 + 1 by omega] at y2; clear hm hg))
  all_goals
    go_wp2
    go_ret2
    exact ⟨ws, rfl, H2.out.chain HP.out 0 n, rfl, G2.out.trans ((Gr.set _ _ _ _ (by simp)).trans (Gr.set _ _ _ _ (by simp)))⟩
end
end Go.Proofs.YtkgdcgmbapchcaaGreatDoor.ce
