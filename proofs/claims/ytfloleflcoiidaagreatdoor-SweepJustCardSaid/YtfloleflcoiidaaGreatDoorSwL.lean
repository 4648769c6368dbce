/- Plain: all pages gone through, one by one: just what was marked is there, and no mark of an object. -/
import Derived.Test.YtfloleflcoiidaaGreatDoorSxA
namespace Go.Proofs.YtfloleflcoiidaaGreatDoor.sw
open Go.ChangeShapes Go.WideShapes Go.ChangeAt Go.RowKit gen calls cls geos ce st sh
set_option linter.unusedVariables false
set_option maxHeartbeats 4000000
set_option maxRecDepth 100000
/-- The first k pages gone through. -/
def swp (z : Sz) : Nat → Sz
  | 0 => z
  | k + 1 => unit (swp z k) k
/-- What that leaves. -/
structure Su (z : Sz) (k : Nat) (y : Sz) : Prop where
  iv : Iv y.x
  T : y.x.T = z.x.T
  cnt : y.x.cnt = z.x.cnt
  len : y.x.ks.length = z.x.ks.length
  tk : y.x.tk = z.x.tk.filter fun b => decide ((k : Int) ≤ b / 32) || isb z.s.ws b
  fi : bm.Fine 2048 y.s.ws
  mr : ∀ b, isb y.s.ws b = (isb z.s.ws b && !(decide (b ∈ z.x.tk) && decide (b / 32 < (k : Int))))
  f : y.f = z.f + (z.x.tk.filter fun b => decide (b / 32 < (k : Int)) && !isb z.s.ws b).length
theorem len_add (l : List Int) (p q r : Int → Bool) (h : ∀ b ∈ l, r b = (p b || q b) ∧ (p b && q b) = false) : (l.filter r).length = (l.filter p).length + (l.filter q).length := by
  induction l with
  | nil => rfl
  | cons b l ih =>
    have h1 := h b (by simp)
    have h2 := ih (fun c hc => h c (by simp [hc]))
    rw [List.filter_cons, List.filter_cons, List.filter_cons, h1.1]
    cases hp : p b <;> cases hq : q b
    · simpa using h2
    · simp; omega
    · simp; omega
    · rw [hp, hq] at h1; exact absurd h1.2 (by decide)
theorem su_all {z : Sz} (V : Iv z.x) (F : bm.Fine 2048 z.s.ws) : ∀ k : Nat, Su z k (swp z k)
  | 0 => ⟨V, rfl, rfl, rfl, (List.filter_eq_self.2 fun b hb => by have := ph.tk_range V hb; simp; exact .inl (by omega)).symm, F, fun b => by
      show isb z.s.ws b = _
      by_cases hb : b ∈ z.x.tk
      · have := ph.tk_range V hb
        have : ¬ (b / 32 < ((0 : Nat) : Int)) := by omega
        rw [decide_eq_false this]
        simp
      · simp [hb], by
      show z.f = z.f + _
      rw [List.filter_eq_nil_iff.2 fun b hb => by
        have := ph.tk_range V hb
        have : ¬ (b / 32 < ((0 : Nat) : Int)) := by omega
        rw [decide_eq_false this]
        simp]
      rfl⟩
  | k + 1 => by
    have S := su_all V F k
    have P := pz_unit S.iv S.fi (k : Int)
    have im : ∀ b, b ∈ tc.inp (swp z k).x k ↔ (b ∈ z.x.tk ∧ b / 32 = k) := fun b => by
      rw [inp_mem, S.tk, List.mem_filter]
      constructor
      · rintro ⟨⟨h1, h2⟩, h3⟩; exact ⟨h1, h3⟩
      · rintro ⟨h1, h3⟩; exact ⟨⟨h1, by simp; exact .inl (by omega)⟩, h3⟩
    have mk : ∀ b ∈ z.x.tk, b / 32 = k → isb (swp z k).s.ws b = isb z.s.ws b := fun b hb h3 => by
      rw [S.mr b]
      have : ¬ (b / 32 < (k : Int)) := by omega
      simp [this]
    refine ⟨P.iv, P.T.trans S.T, P.cnt.trans S.cnt, P.len.trans S.len, ?_, P.fi, fun b => ?_, ?_⟩
    · rw [show (swp z (k + 1)).x.tk = (unit (swp z k) k).x.tk from rfl, P.tk, S.tk, List.filter_filter]
      refine List.filter_congr fun b hb => ?_
      by_cases h3 : b / 32 = k
      · have h1 := (im b).2 ⟨hb, h3⟩
        rw [mk b hb h3]
        have : ¬ (((k + 1 : Nat) : Int) ≤ b / 32) := by omega
        have e : ((k : Nat) : Int) ≤ b / 32 := by omega
        simp only [h1, this, e, not_true_eq_false, decide_false, decide_true, Bool.false_or, Bool.true_or, Bool.and_true]
      · have h1 : b ∉ tc.inp (swp z k).x k := fun h => h3 ((im b).1 h).2
        have e : (((k + 1 : Nat) : Int) ≤ b / 32) ↔ ((k : Int) ≤ b / 32) := by omega
        have e2 : decide (((k + 1 : Nat) : Int) ≤ b / 32) = decide ((k : Int) ≤ b / 32) := decide_eq_decide.2 e
        rw [e2]
        simp [h1]
    · rw [show (swp z (k + 1)).s = (unit (swp z k) k).s from rfl, P.mr b, S.mr b]
      by_cases hb : b ∈ z.x.tk
      · by_cases h3 : b / 32 = k
        · have h1 := (im b).2 ⟨hb, h3⟩
          have : b / 32 < ((k + 1 : Nat) : Int) := by omega
          rw [decide_eq_true this]
          simp [h1, hb]
        · have h1 : b ∉ tc.inp (swp z k).x k := fun h => h3 ((im b).1 h).2
          have e : (b / 32 < ((k + 1 : Nat) : Int)) ↔ (b / 32 < (k : Int)) := by omega
          have e2 : decide (b / 32 < ((k + 1 : Nat) : Int)) = decide (b / 32 < (k : Int)) := decide_eq_decide.2 e
          rw [e2]
          simp [h1]
      · have h1 : b ∉ tc.inp (swp z k).x k := fun h => hb ((im b).1 h).1
        simp [h1, hb]
    · rw [show (swp z (k + 1)).f = (unit (swp z k) k).f from rfl, P.f, S.f]
      have e1 : ((tc.inp (swp z k).x k).filter fun b => !isb (swp z k).s.ws b) = z.x.tk.filter fun b => decide (b / 32 = (k : Int)) && !isb z.s.ws b := by
        unfold tc.inp
        rw [S.tk, List.filter_filter, List.filter_filter]
        refine List.filter_congr fun b hb => ?_
        by_cases h3 : b / 32 = k
        · rw [mk b hb h3]
          have e : ((k : Nat) : Int) ≤ b / 32 := by omega
          simp [h3]
        · simp [h3]
      rw [e1, len_add z.x.tk (fun b => decide (b / 32 < (k : Int)) && !isb z.s.ws b) (fun b => decide (b / 32 = (k : Int)) && !isb z.s.ws b) (fun b => decide (b / 32 < ((k + 1 : Nat) : Int)) && !isb z.s.ws b)]
      · omega
      · intro b hb
        by_cases h3 : b / 32 = k
        · have a1 : b / 32 < ((k + 1 : Nat) : Int) := by omega
          have a2 : ¬ (b / 32 < (k : Int)) := by omega
          rw [decide_eq_true a1, decide_eq_false a2, decide_eq_true h3]
          simp
        · rw [decide_eq_false h3]
          by_cases h4 : b / 32 < (k : Int)
          · rw [decide_eq_true h4, decide_eq_true (show b / 32 < ((k + 1 : Nat) : Int) by omega)]
            simp
          · rw [decide_eq_false h4, decide_eq_false (show ¬ (b / 32 < ((k + 1 : Nat) : Int)) by omega)]
            simp
theorem page_lt {x : Hs} (V : Iv x) {N : Nat} (hN : x.ks.length = N) {b : Int} (hb : b ∈ x.tk) : b / 32 < (N : Int) := by
  have h1 := bz_in V.ok hb
  have h2 := bz_pos V.ok hb
  have h3 := V.ok.len
  omega
theorem mem_isb {ws : List Nat} (h : bm.Fine 2048 ws) (b : Int) : b ∈ bm.nums ws ↔ isb ws b = true := by
  constructor
  · intro hb
    have h1 := bm.mem_nums_lt h hb
    have h2 := (bm.mem_nums h b).1 hb
    unfold isb
    rw [decide_eq_true h1.1, decide_eq_true (by omega), h2.2]
    rfl
  · intro hb
    have h1 := isb_range hb
    unfold isb at hb
    simp only [Bool.and_eq_true] at hb
    exact (bm.mem_nums h b).2 ⟨h1.1, hb.2⟩
/-- Swept whole: just what was marked is there, and no mark. -/
theorem swept {z : Sz} {N : Nat} (V : Iv z.x) (F : bm.Fine 2048 z.s.ws) (hN : z.x.ks.length = N) (hm : ∀ b, isb z.s.ws b = true → b ∈ z.x.tk) :
    (swp z N).x.tk = bm.nums z.s.ws ∧ bm.nums (swp z N).s.ws = [] ∧ (swp z N).f + (bm.nums z.s.ws).length = z.f + z.x.tk.length ∧ (∀ b, isb (swp z N).s.ws b = false) := by
  have S := su_all V F N
  have lt := fun b hb => page_lt V hN (b := b) hb
  have e1 : (swp z N).x.tk = z.x.tk.filter fun b => isb z.s.ws b := by
    rw [S.tk]
    refine List.filter_congr fun b hb => ?_
    have : ¬ ((N : Int) ≤ b / 32) := by have := lt b hb; omega
    simp [this]
  have e0 : ∀ b, isb (swp z N).s.ws b = false := fun b => by
    rw [S.mr b]
    cases hb : isb z.s.ws b with
    | false => rfl
    | true =>
      have h1 := hm b hb
      simp [h1, lt b h1]
  have e2 : (swp z N).x.tk = bm.nums z.s.ws := by
    refine bm.up_eq S.iv.ok.up (bm.nums_up _) fun b => ?_
    rw [e1, List.mem_filter, mem_isb F]
    exact ⟨fun h => h.2, fun h => ⟨hm b h, h⟩⟩
  refine ⟨e2, ?_, ?_, e0⟩
  · refine List.eq_nil_iff_forall_not_mem.2 fun b hb => ?_
    have := (mem_isb S.fi b).1 hb
    rw [e0 b] at this
    cases this
  · rw [← e2, e1, S.f]
    have h1 := len_add z.x.tk (fun b => decide (b / 32 < (N : Int)) && !isb z.s.ws b) (fun b => isb z.s.ws b) (fun b => true) (fun b hb => by
      have := lt b hb
      cases h : isb z.s.ws b <;> simp [this])
    rw [List.filter_eq_self.2 (fun _ _ => rfl)] at h1
    omega
theorem swp_len {z : Sz} (V : Iv z.x) (F : bm.Fine 2048 z.s.ws) (k : Nat) : (swp z k).f ≤ z.f + z.x.tk.length := by
  rw [(su_all V F k).f]
  have := List.length_filter_le (fun b => decide (b / 32 < (k : Int)) && !isb z.s.ws b) z.x.tk
  omega
end Go.Proofs.YtfloleflcoiidaaGreatDoor.sw
