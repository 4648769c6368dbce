/- Take, by what the page's chain tells; alive. -/
import Derived.Test.YtfhmhlofjoahlaaGreatDoorCeG
namespace Go.Proofs.YtfhmhlofjoahlaaGreatDoor.ce
open Go.ChangeShapes Go.WideShapes Go.ChangeAt Go.RowKit gen calls cls geos
set_option linter.unusedVariables false
set_option maxHeartbeats 4000000
set_option maxRecDepth 100000
section
variable {w w' : World} {c h g r m q s : Nat} {ks xs cs : List Int} {ws : List Nat}
theorem room {k f : Int} (h0 : 0 ≤ f) (h1 : f < cl k) : 0 < sz k ∧ f * sz k + sz k ≤ 32 := by
  rcases cl_small h0 h1 with rfl | rfl | rfl | rfl <;> simp [cl, sz] at * <;> omega
theorem Take_some (H : Hp w c h g r m q s ks xs cs ws) (hks : pg.Ks ks) (hb : ch.Bd xs) (p : Nat) {k f n : Int} (hk : pg.kind ks p = k) (hf : lf ks cs p = f) (hn : ln ks cs p = n) (hfn : fits n = true) (hy : ch.tk xs p k f n = true) {a z : Nat} (ha : ata p k f = a) (hz : sz k = z) (hnot : (a : Int) ∉ bm.nums ws) :
    Calls Tryz.prog 43 #[.pointer (some ⟨c, 0, none⟩), .int .i64 p] w (Did (.tuple #[.int .i64 a, .bool true]) c h g r m q s ks (mm.fillN xs a 0 z) (cput cs p (ch.lk xs p k f) (n - 1)) (bm.rising (bm.nums ws ++ [(a : Int)])) w) := by
  obtain ⟨t1, t2, t3⟩ := ch.tk_iff.mp hy
  obtain ⟨p0, p1, k0, k1, hl⟩ := ch.thk_iff.mp t1
  obtain ⟨f0, f1, _⟩ := ch.lk_yes t3
  have r := room f0 f1
  have hat := atk_iff.mpr ⟨p0, p1, f0, f1⟩
  have e : (a : Int) = (p : Int) * 32 + f * sz k := by rw [← ha]; unfold ata; rw [if_pos hat]
  have := (Take_walk H hks p f (ch.lk xs p k f) (n - 1) true (fun W hg => by
    rw [hk, hf, hn]
    exact ch.Take_yes (H.new hg).mem hb p k f n (by simp [fits]; omega) (by rw [← hk]; exact kind_fits hks p) hfn hy) p a z (fun _ => by
    rw [hk]
    exact ⟨rfl, by omega, hat, ha, hz, by omega, by omega, hnot⟩))
  refine this.mono fun e w' he => ?_
  rcases he with ⟨h1, _⟩ | ⟨_, h2⟩
  · cases h1
  · exact h2
theorem Take_none (H : Hp w c h g r m q s ks xs cs ws) (hks : pg.Ks ks) (hb : ch.Bd xs) (p : Int) (hp : fits p = true) (hfn : fits (ln ks cs p) = true) (hy : ch.tk xs p (pg.kind ks p) (lf ks cs p) (ln ks cs p) = false) :
    Calls Tryz.prog 43 #[.pointer (some ⟨c, 0, none⟩), .int .i64 p] w fun e w' => e = rI 0 false ∧ w.grownBy w' none := by
  have := Take_walk H hks p 0 0 0 false (fun W hg => ch.Take_no p _ _ _ (H.new hg).mem hb hp (kind_fits hks p) hfn hy) 0 0 0 (fun e => by cases e)
  refine this.mono fun e w' he => ?_
  rcases he with ⟨_, h1, h2⟩ | ⟨h2, _⟩
  · exact ⟨h1, h2⟩
  · cases h2
end
/-! ### alive -/
def x0 : List Int := List.replicate 64 0
def c0 : List Int := List.replicate 128 0
def x1 : List Int := ch.builtN x0 0 16 2
def c1 : List Int := cput c0 0 0 2
def x2 : List Int := mm.fillN x1 0 0 16
def c2 : List Int := cput c1 0 1 1
def x3 : List Int := mm.fillN x2 16 0 16
def c3 : List Int := cput c2 0 2 0
theorem x1_bd : ch.Bd x1 := ch.Bd.built (ch.Bd.zeros 64) (by decide) (by decide) 2 (by decide)
theorem x2_bd : ch.Bd x2 := x1_bd.fill 0 16 (by decide) (by decide) (by decide)
theorem x3_bd : ch.Bd x3 := x2_bd.fill 16 16 (by decide) (by decide) (by decide)
theorem k40 : pg.Ks [4, 0] := fun i => by
  match i with
  | 0 => decide
  | 1 => decide
  | i + 2 => exact ⟨by simp, by simp⟩
section
variable {w w' : World} {c h g r m q s : Nat} {ws : List Nat}
theorem al_c (H : Hp w c h g r m q s (List.replicate 2 0) (List.replicate (32 * 2) 0) (List.replicate 128 0) bm.zeros) :
    Calls Tryz.prog 81 #[.pointer (some ⟨c, 0, none⟩), .int .i64 4] w (Did (.tuple #[.int .i64 0, .bool true]) c h g r m q s [4, 0] x1 c1 [] w) := by
  have := Carve_yes H 4 (by omega) (p := 0) (by decide) (by simp) (z := 16) (n := 2) rfl rfl
  rw [bm.nums_zeros] at this
  exact this
theorem al_t1 (H : Hp w c h g r m q s [4, 0] x1 c1 ws) (hn : bm.nums ws = []) :
    Calls Tryz.prog 43 #[.pointer (some ⟨c, 0, none⟩), .int .i64 0] w (Did (.tuple #[.int .i64 0, .bool true]) c h g r m q s [4, 0] x2 c2 [0] w) := by
  have := Take_some H k40 x1_bd 0 (k := 4) (f := 0) (n := 2) rfl rfl rfl rfl (by decide +kernel) (a := 0) (z := 16) rfl rfl (by rw [hn]; simp)
  rw [hn, show ch.lk x1 ((0 : Nat) : Int) 4 0 = 1 by decide +kernel] at this
  exact this
theorem al_t2 (H : Hp w c h g r m q s [4, 0] x2 c2 ws) (hn : bm.nums ws = [0]) :
    Calls Tryz.prog 43 #[.pointer (some ⟨c, 0, none⟩), .int .i64 0] w (Did (.tuple #[.int .i64 16, .bool true]) c h g r m q s [4, 0] x3 c3 [0, 16] w) := by
  have := Take_some H k40 x2_bd 0 (k := 4) (f := 1) (n := 1) rfl rfl rfl rfl (by decide +kernel) (a := 16) (z := 16) rfl rfl (by rw [hn]; simp)
  rw [hn, show ch.lk x2 ((0 : Nat) : Int) 4 1 = 2 by decide +kernel] at this
  exact this
theorem al_t3 (H : Hp w c h g r m q s [4, 0] x3 c3 ws) :
    Calls Tryz.prog 43 #[.pointer (some ⟨c, 0, none⟩), .int .i64 0] w fun e w' => e = rI 0 false ∧ w.grownBy w' none :=
  Take_none H k40 x3_bd 0 rfl rfl (by decide +kernel)
theorem al_i (H : Hp w c h g r m q s [4, 0] x3 c3 ws) (hn : bm.nums ws = [0, 16]) : Calls Tryz.prog 64 #[.pointer (some ⟨c, 0, none⟩), .int .i64 16] w fun e w' => e = bool1 true ∧ bm.Drew w w' := by
  have := Is_any H 16
  rw [hn] at this
  exact this
theorem al_b (H : Hp w c h g r m q s [4, 0] x3 c3 ws) (hn : bm.nums ws = [0, 16]) : Calls Tryz.prog 61 #[.pointer (some ⟨c, 0, none⟩), .int .i64 20] w fun e w' => e = int1 16 ∧ bm.Drew w w' := by
  have := Base_any H k40 20
  rw [hn, show bs [4, 0] [0, 16] 20 = 16 by decide +kernel] at this
  exact this
theorem al_f (H : Hp w c h g r m q s [4, 0] x3 c3 ws) : Calls Tryz.prog 37 #[.pointer (some ⟨c, 0, none⟩)] w fun e w' => e = int1 1 ∧ w.grownBy w' none := Free_any H
theorem al_l {g2 r2 : Nat} (H : mm.MemAt w g2 r2 x3) : Calls Tryz.prog 108 #[.pointer (some ⟨g2, 0, none⟩)] w fun e w' => e = int1 64 ∧ w = w' := by
  have := mm.Len_yes H
  rw [show x3.length = 64 by simp [x3, x2, x1, x0, mm.fillN_length, ch.builtN_length]] at this
  exact this
end
theorem grown_below {a w : World} (h : a.grownBy w none) : Below a.heap.size a w := li.grown_below h
theorem drew_grown {w w' : World} (h : bm.Drew w w') : w.grownBy w' none := by obtain ⟨k, rfl⟩ := h; exact bm.grown_drewN _ _ _
theorem own4 {w : World} {h r q s : Nat} (h1 : w.heap.size ≤ h ∧ w.heap.size ≤ r ∧ w.heap.size ≤ q ∧ w.heap.size ≤ s) : ∀ k, k ∈ [h, r, q, s] → w.heap.size ≤ k := by
  intro k hk
  simp at hk
  omega
end Go.Proofs.YtfhmhlofjoahlaaGreatDoor.ce
