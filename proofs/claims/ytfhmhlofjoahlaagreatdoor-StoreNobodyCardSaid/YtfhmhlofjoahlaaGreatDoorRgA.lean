/- A range over a function that is a method value: the iterator's bound arguments come first. What it hands over is a list of pairs of numbers that is known whole. -/
import Derived.RangeFuncFrom
import Derived.RangeFuncBound
import Derived.RangeFuncCalls
import Derived.RangeFuncLeaves
namespace Go.Proofs.YtfhmhlofjoahlaaGreatDoor.rg
open Go Go.RowKit
set_option linter.unusedVariables false

/-- The arguments of a round. -/
abbrev two (x : Int × Int) : Array Value := #[.int .i64 x.1, .int .i64 x.2]
/-- Function g, its bound arguments bd ahead, hands xs over one by one, as long as the loop goes on; it leaves all worlds as the rounds do. -/
def Hands (P : Program) (g : Nat) (bd : Array Value) (n₀ : Nat) (w : World) (xs : List (Int × Int)) : Prop :=
  ∀ (l : Nat) (J Jx : List (Int × Int) → World → Prop) (W : World), Below n₀ w W →
    (∀ pre x post W1, xs = pre ++ x :: post → J pre W1 → YieldAt Fence.wide 1 P l (two x) W1 fun e W' =>
      (e = .returned (.bool true) ∧ J (pre ++ [x]) W' ∧ Below n₀ W1 W') ∨ (e = .returned (.bool false) ∧ Jx (pre ++ [x]) W')) →
    J [] W → CallsIn Fence.wide 2 P g (bd ++ #[.func (.yield l) #[] #[]]) W fun e W' => (∃ v, e = .returned v) ∧ (J xs W' ∨ ∃ pre, Jx pre W')

/-- The mark that a loop leaves on the activation. -/
abbrev marked (a : Act) (D : Nat) : Act := { a with defers := { target := .collected D, args := #[] } :: a.defers }

theorem range_bound {P : Program} {g : Operand} {ps : Array Tmp} {assign body : Code} {Q : Exit → Act → World → Prop} {a : Act} {w : World} {gf n₀ : Nat} {bd : Array Value} {xs : List (Int × Int)}
    (hg : a.eval g = .func (.func gf) bd #[]) (eg : ∀ args w, (callFunc gf args).run P w = .ok (.enter gf args) w) (hn : n₀ ≤ w.heap.size) (hs : Hands P gf bd n₀ w xs) (hps : ps.size = 2)
    (I : List (Int × Int) → World → Prop) (Ix : Code → List (Int × Int) → World → Prop) (hI : OwnFrom w.heap.size I) (hIx : ∀ c, OwnFrom w.heap.size (Ix c)) (h0 : I [] w) (a₁ : Int × Int → Act)
    (hassign : ∀ (l : Nat) (x : Int × Int) (W : World) (K : Act → World → Prop), K (a₁ x) W →
      assign.wpIn (Fence.wide.inRound l) 1 P (Exit.then K (fun _ _ _ => False)) { tmps := (ps.zip (two x)).foldl (fun t (p, v) => t.setIfInBounds p v) a.tmps, defers := [] } W)
    (hbody : ∀ (l : Nat) pre x post W, xs = pre ++ x :: post → I pre W → body.wpIn (Fence.wide.inRound l) 1 P (ownPostK (Below n₀) I Ix (pre ++ [x]) W) (a₁ x) W)
    (hdone : ∀ (D : Nat) W, w.heap.size ≤ D → I xs W → W.heap[D]? = some (.deferred (some [])) → Q .normal (marked a D) W)
    (hstop : ∀ (D : Nat) c pre W, w.heap.size ≤ D → Ix c pre W → W.heap[D]? = some (.deferred (some [])) → c.wpIn Fence.wide 3 P Q (marked a D) W) :
    (Code.rangeFunc g ps assign body).wpIn Fence.wide 3 P Q a w := by
  refine wpIn_rangeFunc fun fn hfn => ?_
  obtain ⟨B, hB⟩ : ∃ B, B = w.heap.size := ⟨_, rfl⟩
  obtain ⟨rec, hrec⟩ : ∃ rec : LoopState → Option Code → Loop, rec = fun st pe => { state := st, pending := pe, fn, tmps := a.tmps, params := ps, assign, body, defers := B } := ⟨_, rfl⟩
  obtain ⟨W0, hW0⟩ : ∃ W0, W0 = (w.alloc (.deferred (some []))).alloc (.loop (rec .ready none)) := ⟨_, rfl⟩
  have size0 : W0.heap.size = B + 2 := by rw [hW0, hB]; simp
  have lp0 : W0.heap[B + 1]? = some (.loop (rec .ready none)) := by
    have := World.alloc_heap_new (w.alloc (.deferred (some []))) (.loop (rec .ready none))
    rwa [World.size_alloc, ← hB, ← hW0] at this
  have df0 : W0.heap[B]? = some (.deferred (some [])) := by
    have := World.alloc_heap_new w (.deferred (some []))
    rw [← hB] at this
    rw [hW0]
    exact (Below.heap_alloc _ _ _ (by rw [World.size_alloc, hB]; omega)).trans this
  have hn0 : n₀ ≤ B := by rw [hB]; exact hn
  rw [← hB] at hI hIx hdone hstop
  have i0 : I [] W0 := by rw [hW0]; exact hI.alloc _ (hI.alloc _ h0)
  have b0 : Below n₀ w W0 := by
    rw [hW0]
    exact ((Below.refl n₀ w).alloc hn _).alloc (by rw [World.size_alloc]; omega) _
  refine ⟨B + 1, [{ target := .collected B, args := #[] }], W0, { target := .fn (.func gf) #[], args := bd ++ #[.func (.yield (B + 1)) #[] #[]] }, W0, gf, bd ++ #[.func (.yield (B + 1)) #[] #[]], W0, ?_, ?_, fun f' h => ?_, ?_, fun _ => by omega, ?_⟩
  · rw [hW0, hrec, hB]; exact run_enterLoop_outer _ _ _ _ _
  · simp only [resolve, hg]
    simp [go_sem]
  · simp [Target.leads] at h
    subst h; trivial
  · simp [invoke, go_sem, eg]
  -- the record as it stands, and the block for the rounds' deferred calls
  let J : List (Int × Int) → World → Prop := fun pre W => I pre W ∧ W.heap[B + 1]? = some (.loop (rec .ready none)) ∧ W.heap[B]? = some (.deferred (some []))
  let Jx : List (Int × Int) → World → Prop := fun pre W => ∃ c, Ix c pre W ∧ W.heap[B + 1]? = some (.loop (rec .done (some c))) ∧ W.heap[B]? = some (.deferred (some []))
  refine (hs (B + 1) J Jx W0 b0 ?_ ⟨i0, lp0, df0⟩).mono ?_
  · rintro pre x post W hx ⟨hi, hl, hk⟩
    have lt : B + 1 < W.heap.size := (Array.getElem?_eq_some_iff.1 hl).1
    have hy := run_yield (P := P) (args := two x) hl (by rw [hrec]; exact hps.symm)
    rw [hrec] at hy
    refine ⟨fn, _, assign, body, hy, roundIn_of_wpIn hfn (hassign _ x W _ ⟨_, run_beginRound hl (by rw [hrec]), ?_⟩)⟩
    obtain ⟨busy, hbusy⟩ : ∃ busy, busy = ({ rec .ready none with state := .busy } : Loop) := ⟨_, rfl⟩
    rw [← hbusy]
    have lq : (W.putObj (B + 1) (.loop busy)).heap[B + 1]? = some (.loop busy) := World.putObj_heap_same lt
    have dq : (W.putObj (B + 1) (.loop busy)).heap[B]? = some (.deferred (some [])) := (World.putObj_heap_other (by omega)).trans hk
    have bq : Below n₀ W (W.putObj (B + 1) (.loop busy)) := belowK_b (w := w) hn _ _ _ _ (by omega) hl rfl rfl
    -- how a round ends, whichever way
    have ends : ∀ (jump : Option Code) (V : World), KeepsOthers (W.putObj (B + 1) (.loop busy)) V → ∃ V', (Instr.endRound (B + 1) jump).run P V = .ok (.bool jump.isNone) V' ∧ V' = V.putObj (B + 1) (.loop (rec (if jump.isNone then .ready else .done) jump)) ∧
        V.heap[B + 1]? = some (.loop busy) ∧ V'.heap[B + 1]? = some (.loop (rec (if jump.isNone then .ready else .done) jump)) ∧ V'.heap[B]? = some (.deferred (some [])) := by
      intro jump V hV
      have l3 := hV.same _ _ lq rfl
      have r3 := run_endRound (P := P) jump l3
      rw [hbusy, hrec] at r3
      refine ⟨_, r3, by rw [hrec], l3, ?_, (World.putObj_heap_other (by omega)).trans (hV.same _ _ dq rfl)⟩
      rw [hrec]
      exact World.putObj_heap_same (Array.getElem?_eq_some_iff.1 l3).1
    refine wpIn_mono (hbody _ pre x post _ hx (hI.putObj _ hi (by omega) hl rfl)) ?_
    intro e a3 V hp
    cases e with
    | normal =>
      obtain ⟨hV, bV, iV⟩ := hp
      obtain ⟨V', hr, rfl, l3, l4, d4⟩ := ends none V hV
      exact ⟨_, _, hr, .inl ⟨rfl, ⟨hI.putObj _ iV (by omega) l3 rfl, l4, d4⟩, (bq.trans bV).trans (belowK_b (w := w) hn _ _ _ _ (by omega) l3 rfl rfl)⟩⟩
    | ret =>
      obtain ⟨hV, iV⟩ := hp
      obtain ⟨V', hr, rfl, l3, l4, d4⟩ := ends (some .ret) V hV
      exact ⟨_, _, hr, .inr ⟨rfl, .ret, (hIx _).putObj _ iV (by omega) l3 rfl, l4, d4⟩⟩
    | exit id =>
      obtain ⟨hV, iV⟩ := hp
      obtain ⟨V', hr, rfl, l3, l4, d4⟩ := ends (some (.exit id)) V hV
      exact ⟨_, _, hr, .inr ⟨rfl, .exit id, (hIx _).putObj _ iV (by omega) l3 rfl, l4, d4⟩⟩
    | goto t =>
      obtain ⟨hV, iV⟩ := hp
      obtain ⟨V', hr, rfl, l3, l4, d4⟩ := ends (some (.goto t)) V hV
      exact ⟨_, _, hr, .inr ⟨rfl, .goto t, (hIx _).putObj _ iV (by omega) l3 rfl, l4, d4⟩⟩
    | panic ch => exact hp.elim
    | outgrown => exact hp.elim
  · rintro e V ⟨⟨v, rfl⟩, ⟨iV, hl, hk⟩ | ⟨pre, c, iV, hl, hk⟩⟩
    · have r := run_endLoop (P := P) hl (by rw [hrec]; simp)
      rw [hrec] at r
      exact ⟨none, _, r, hdone B _ (Nat.le_refl _) (hI.putObj _ iV (by omega) hl rfl) ((World.putObj_heap_other (by omega)).trans hk)⟩
    · have r := run_endLoop (P := P) hl (by rw [hrec]; simp)
      rw [hrec] at r
      exact ⟨some c, _, r, hstop B c pre _ (Nat.le_refl _) ((hIx c).putObj _ iV (by omega) hl rfl) ((World.putObj_heap_other (by omega)).trans hk)⟩
end Go.Proofs.YtfhmhlofjoahlaaGreatDoor.rg
