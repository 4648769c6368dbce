/- Plain: what a heap of cells is, by lists. -/
import Derived.Test.YtkkoiglfimibjaaDoorCeI
import Derived.Test.YtkkoiglfimibjaaDoorPgW
namespace Go.Proofs.YtkkoiglfimibjaaDoor.ce
open Go.RowKit calls cls geos
set_option linter.unusedVariables false

/-! ### Kinds -/
section
variable {ks : List Int} {p n : Nat} {k : Int}
theorem kind_set (hp : p < ks.length) (k i : Int) : pg.kind (ks.set p k) i = if i = p then k else pg.kind ks i := by
  unfold pg.kind
  rw [List.length_set]
  by_cases hi : 0 ≤ i ∧ i < ks.length
  · rw [if_pos hi, if_pos hi, pg.set_getD _ _ _ _ hp]
    by_cases e : i = p
    · rw [if_pos e, if_pos (by omega)]
    · rw [if_neg e, if_neg (by omega)]
  · rw [if_neg hi, if_neg hi, if_neg (by omega)]
theorem kind_span (h1 : 1 ≤ n) (hp : p + n ≤ ks.length) (i : Int) : pg.kind (pg.spanN ks p n) i = if i = p then 5 else if (p : Int) < i ∧ i < p + n then 6 else pg.kind ks i := by
  unfold pg.kind
  rw [pg.spanN_length]
  by_cases hi : 0 ≤ i ∧ i < ks.length
  · rw [if_pos hi, if_pos hi, pg.spanN_getD _ _ _ h1 hp]
    by_cases e : i = p
    · rw [if_pos e, if_pos (by omega)]
    · rw [if_neg e, if_neg (by omega)]
      by_cases e2 : (p : Int) < i ∧ i < p + n
      · rw [if_pos e2, if_pos (by omega)]
      · rw [if_neg e2, if_neg (by omega)]
  · rw [if_neg hi, if_neg hi, if_neg (by omega), if_neg (by omega)]
theorem kind_fill (hp : p + n ≤ ks.length) (i : Int) : pg.kind (pg.fillN ks p 0 n) i = if (p : Int) ≤ i ∧ i < p + n then 0 else pg.kind ks i := by
  unfold pg.kind
  rw [pg.fillN_length]
  by_cases hi : 0 ≤ i ∧ i < ks.length
  · rw [if_pos hi, if_pos hi, pg.fillN_getD _ _ _ _ hp]
    by_cases e : (p : Int) ≤ i ∧ i < p + n
    · rw [if_pos e, if_pos (by omega)]
    · rw [if_neg e, if_neg (by omega)]
  · rw [if_neg hi, if_neg hi, if_neg (by omega)]
end
/-! ### Chains -/
theorem lk_same {xs ys : List Int} {p k i : Int} (h : ch.wd xs p k i = ch.wd ys p k i) : ch.lk xs p k i = ch.lk ys p k i := by unfold ch.lk; rw [h]
theorem ch_same {xs ys : List Int} {p k : Int} : ∀ {l : List Int} {f : Int}, (∀ i ∈ l, ch.wd xs p k i = ch.wd ys p k i) → ch.Ch xs p k f l → ch.Ch ys p k f l
  | [], _, _, h => h
  | x :: l, _, hw, h => by
    obtain ⟨h0, h1, h2, h3⟩ := h
    refine ⟨h0, h1, h2, ?_⟩
    rw [← lk_same (hw x (by simp))]
    exact ch_same (fun i hi => hw i (by simp [hi])) h3
theorem ch_few {xs : List Int} {p k f i : Int} {l : List Int} (h : ch.Ch xs p k f l) (hi : 0 ≤ i ∧ i < cl k) (hn : i ∉ l) : (l.length : Int) < cl k := by
  have hc := cl_wide k
  have := ch.nodup_few (cl k).toNat (i :: l) (List.nodup_cons.2 ⟨hn, h.nodup⟩) (fun x hx => by
    rcases List.mem_cons.1 hx with rfl | hx
    · omega
    · have := h.cells x hx; omega)
  simp at this
  omega
theorem ch_full {xs : List Int} {p k f i : Int} {l : List Int} (h : ch.Ch xs p k f l) (hl : cl k ≤ l.length) (hi : 0 ≤ i ∧ i < cl k) : i ∈ l :=
  Decidable.byContradiction fun hn => by have := ch_few h hi hn; omega
theorem mem_from {x : Int} : ∀ {m j : Nat}, (j : Int) ≤ x → x < j + m → x ∈ ch.from_ j m
  | 0, j, h1, h2 => by omega
  | m + 1, j, h1, h2 => by
    by_cases e : x = j
    · subst e; simp [ch.from_]
    · exact List.mem_cons.2 (.inr (mem_from (by omega) (by omega)))
theorem cf_put {cs : List Int} {p : Nat} (hl : cs.length = 128) (hp : p < 64) (f n : Int) (i : Nat) : cf (cput cs p f n) i = if i = p then f else cf cs i := by
  unfold cf cput
  rw [ch.set_getD _ _ _ _ (by rw [List.length_set]; omega), ch.set_getD _ _ _ _ (by omega)]
  simp only [Int.toNat_natCast]
  repeat' split
  all_goals first | rfl | omega
theorem cn_put {cs : List Int} {p : Nat} (hl : cs.length = 128) (hp : p < 64) (f n : Int) (i : Nat) : cn (cput cs p f n) i = if i = p then n else cn cs i := by
  unfold cn cput
  rw [ch.set_getD _ _ _ _ (by rw [List.length_set]; omega), ch.set_getD _ _ _ _ (by omega)]
  simp only [Int.toNat_natCast]
  repeat' split
  all_goals first | rfl | omega

/-! ### The whole -/
def upd (fr : Nat → List Int) (p : Nat) (l : List Int) : Nat → List Int := fun i => if i = p then l else fr i
theorem upd_same (fr : Nat → List Int) (p : Nat) (l : List Int) : upd fr p l p = l := if_pos rfl
theorem upd_other (fr : Nat → List Int) {p i : Nat} (l : List Int) (h : i ≠ p) : upd fr p l i = fr i := if_neg h
/-- What is taken begins at an address. -/
def Tkn (ks : List Int) (fr : Nat → List Int) (a : Int) : Prop :=
  (pg.kind ks (a / 32) = 5 ∧ a % 32 = 0) ∨ ((1 ≤ pg.kind ks (a / 32) ∧ pg.kind ks (a / 32) ≤ 4) ∧ a % sz (pg.kind ks (a / 32)) = 0 ∧ a % 32 / sz (pg.kind ks (a / 32)) ∉ fr (a / 32).toNat)
structure Ok (ks xs cs tk : List Int) (fr : Nat → List Int) : Prop where
  len : xs.length = 32 * ks.length
  few : ks.length ≤ 64
  kds : pg.Ks ks
  wf : pg.Wf ks
  bd : ch.Bd xs
  chl : cs.length = 128
  chn : ∀ p : Nat, 1 ≤ pg.kind ks p → pg.kind ks p ≤ 4 → ch.Ch xs p (pg.kind ks p) (cf cs p) (fr p) ∧ cn cs p = (fr p).length
  tkn : ∀ a : Int, a ∈ tk ↔ Tkn ks fr a
  up : tk.Pairwise (· < ·)
/-- How many words what is taken at an address has. -/
def bz (ks : List Int) (a : Int) : Int := if pg.kind ks (a / 32) = 5 then 32 * pg.siz ks (a / 32) else sz (pg.kind ks (a / 32))
theorem there {ks : List Int} (hl : ks.length ≤ 64) {z : Int} (h : pg.kind ks z ≠ -1) : ∃ P : Nat, z = P ∧ P < 64 ∧ P < ks.length := by
  have := pg.kind_there h
  exact ⟨z.toNat, by omega, by omega, by omega⟩
theorem siz_ge {ks : List Int} {p : Int} (h : 1 ≤ pg.kind ks p ∧ pg.kind ks p ≤ 5) : 1 ≤ pg.siz ks p := by
  unfold pg.siz
  split
  · omega
  · rw [if_pos (by omega)]; omega
theorem frs_own {ks : List Int} {p : Int} (h : 1 ≤ pg.kind ks p ∧ pg.kind ks p ≤ 5) : pg.frs ks p = p := by
  unfold pg.frs
  rw [pg.lowI_stop (by omega), if_neg (by have := siz_ge h; omega)]
/-- The pages of a large object, from its first one on. -/
theorem large_pages {ks : List Int} {P : Nat} (h : pg.kind ks P = 5) : ∀ j : Nat, (j : Int) < pg.siz ks P → (0 < j → pg.kind ks ((P + j : Nat) : Int) = 6) ∧ pg.lowI ks ((P + j : Nat) : Int) = P
  | 0, _ => ⟨fun h => absurd h (by omega), pg.lowI_stop (by rw [Nat.add_zero, h]; decide)⟩
  | j + 1, hj => by
    have hs := pg.siz_large h
    have h6 : pg.kind ks ((P + (j + 1) : Nat) : Int) = 6 := by
      have := (pg.lead_is (k := 6) (by decide) (xs := ks) (p := P + 1)).1 j (by omega)
      rwa [show P + 1 + j = P + (j + 1) by omega] at this
    refine ⟨fun _ => h6, ?_⟩
    rw [pg.lowI_step h6, show (((P + (j + 1) : Nat) : Int) - 1) = ((P + j : Nat) : Int) by omega]
    exact (large_pages h j (by omega)).2
theorem frs_large {ks : List Int} {P : Nat} (h : pg.kind ks P = 5) {z : Int} (h1 : (P : Int) ≤ z) (h2 : z < P + pg.siz ks P) : pg.frs ks z = P := by
  have := (large_pages h (z.toNat - P) (by omega)).2
  rw [show ((P + (z.toNat - P) : Nat) : Int) = z by omega] at this
  unfold pg.frs
  rw [this, if_neg (by have := siz_ge (ks := ks) (p := P) (by omega); omega)]
section
variable {ks xs cs tk : List Int} {fr : Nat → List Int}
theorem base_in (O : Ok ks xs cs tk fr) {a x : Int} (ha : a ∈ tk) (h1 : a ≤ x) (h2 : x < a + bz ks a) : bs ks tk x = a := by
  have hf := O.few
  have ht := (O.tkn a).1 ha
  rcases ht with ⟨k5, m0⟩ | ⟨⟨k1, k4⟩, m0, _⟩
  · obtain ⟨P, eP, p64, pl⟩ := there O.few (z := a / 32) (by omega)
    rw [bz, if_pos k5] at h2
    rw [eP] at k5 h2
    have hin := pg.siz_in (xs := ks) (p := P) (by have := siz_ge (ks := ks) (p := P) (by omega); omega)
    have e1 : pgOf x = x / 32 := pgOf_yes (by omega) (by omega)
    have e2 : pg.frs ks (x / 32) = P := frs_large k5 (by omega) (by omega)
    have e3 : enk (P : Int) 1 = true := enk_iff.mpr (by omega)
    unfold bs
    simp only [e1, e2, e3, k5, if_true]
    rw [if_pos (bsOf_no (.inl rfl))]
    have e4 : enf (P : Int) 1 = a := by unfold enf; rw [if_pos e3]; omega
    rw [e4, if_pos ha]
  · obtain ⟨P, eP, p64, pl⟩ := there O.few (z := a / 32) (by omega)
    rw [bz, if_neg (by omega)] at h2
    rw [eP] at k1 k4 m0 h2
    have e5 : x / 32 = P ∧ x - x % sz (pg.kind ks P) = a ∧ sz (pg.kind ks P) ≠ 0 := by
      rcases small k1 k4 with e | e | e | e <;> rw [e] at m0 h2 ⊢ <;> simp only [sz] at m0 h2 ⊢ <;> simp at m0 h2 ⊢ <;> omega
    have e1 : pgOf x = x / 32 := pgOf_yes (by omega) (by omega)
    have e2 : pg.frs ks (x / 32) = P := by rw [e5.1]; exact frs_own (by omega)
    have e3 : enk (P : Int) 1 = true := enk_iff.mpr (by omega)
    unfold bs
    simp only [e1, e2, e3, if_true]
    have e4 : bsOf (pg.kind ks P) x = a := by rw [bsOf_yes e5.2.2 (by omega) (by omega)]; exact e5.2.1
    have ne : ¬ a = -1 := by omega
    rw [e4, if_neg ne, if_pos ha]
theorem base_out (O : Ok ks xs cs tk fr) {x : Int} (h : ∀ a ∈ tk, ¬ (a ≤ x ∧ x < a + bz ks a)) : bs ks tk x = -1 := by
  have hf := O.few
  unfold bs
  by_cases he : enk (pg.frs ks (pgOf x)) 1 = true
  · simp only [he, if_true]
    refine if_neg fun hm => ?_
    refine h _ hm ?_
    have hq := enk_iff.mp he
    have hx : 0 ≤ x ∧ x ≤ 2047 := Decidable.byContradiction fun hn => by
      have e1 : pgOf x = -1 := pgOf_no (by omega)
      have k1 : pg.kind ks (-1) = -1 := pg.kind_out (by omega)
      have : pg.frs ks (-1) = -1 := by
        unfold pg.frs
        rw [pg.lowI_stop (by omega), pg.siz_none (by omega) (by omega), if_pos rfl]
      rw [e1, this] at hq
      omega
    have e1 : pgOf x = x / 32 := pgOf_yes hx.1 hx.2
    rw [e1] at hm he hq ⊢
    obtain ⟨X, hX⟩ : ∃ X : Nat, x / 32 = X := ⟨(x / 32).toNat, by omega⟩
    rw [hX] at hm he hq ⊢
    have hlt : X < ks.length := Decidable.byContradiction fun hn => by
      have k1 : pg.kind ks X = -1 := pg.kind_out (by omega)
      have : pg.frs ks X = -1 := by
        unfold pg.frs
        rw [pg.lowI_stop (by omega), pg.siz_none (by omega) (by omega), if_pos rfl]
      omega
    have ek := pg.kind_in hlt
    rcases pg.told_p O.wf O.kds hlt with ⟨_, h1⟩ | ⟨h1, h2⟩ | ⟨h1, q, h2, h3, h4, h5⟩
    · omega
    · rw [h2] at hm he ⊢
      rw [← ek] at h1
      by_cases h5 : pg.kind ks X = 5
      · rw [if_pos (bsOf_no (.inl (by rw [h5]; rfl)))] at hm ⊢
        unfold enf at hm ⊢
        rw [if_pos he] at hm ⊢
        have es : (X : Int) * 32 / 32 = X := by omega
        have := siz_ge (ks := ks) (p := X) (by omega)
        unfold bz
        rw [es, if_pos h5]
        omega
      · have e5 : 0 ≤ x % sz (pg.kind ks X) ∧ x % sz (pg.kind ks X) < sz (pg.kind ks X) ∧ sz (pg.kind ks X) ≠ 0 ∧ (x - x % sz (pg.kind ks X)) / 32 = X := by
          rcases small (k := pg.kind ks X) (by omega) (by omega) with e | e | e | e <;> rw [e] <;> simp only [sz] <;> simp <;> omega
        have e4 : bsOf (pg.kind ks X) x = x - x % sz (pg.kind ks X) := bsOf_yes e5.2.2.1 hx.1 hx.2
        rw [e4] at hm ⊢
        have : ¬ x - x % sz (pg.kind ks X) = -1 := by omega
        rw [if_neg this] at hm ⊢
        unfold bz
        rw [e5.2.2.2, if_neg h5]
        omega
    · rw [h2] at hm he ⊢
      have k5 := pg.kind_getD (by decide) h4
      rw [if_pos (bsOf_no (.inl (by rw [k5]; rfl)))] at hm ⊢
      unfold enf at hm ⊢
      rw [if_pos he] at hm ⊢
      have es : (q : Int) * 32 / 32 = q := by omega
      unfold bz
      rw [es, if_pos k5]
      omega
  · rw [if_neg he]
/-- What an address is in, if anything. -/
theorem base_some (O : Ok ks xs cs tk fr) {x : Int} (h : bs ks tk x ≠ -1) : ∃ a ∈ tk, a ≤ x ∧ x < a + bz ks a := by
  refine Decidable.byContradiction fun hn => h (base_out O fun a ha hx => hn ⟨a, ha, hx⟩)
theorem bz_pos (O : Ok ks xs cs tk fr) {a : Int} (ha : a ∈ tk) : 0 < bz ks a := by
  rcases (O.tkn a).1 ha with ⟨k5, _⟩ | ⟨⟨k1, k4⟩, _⟩
  · rw [bz, if_pos k5]; have := siz_ge (ks := ks) (p := a / 32) (by omega); omega
  · rw [bz, if_neg (by omega)]
    rcases small k1 k4 with e | e | e | e <;> rw [e] <;> decide
/-- What is taken is in the heap. -/
theorem bz_in (O : Ok ks xs cs tk fr) {a : Int} (ha : a ∈ tk) : 0 ≤ a ∧ a + bz ks a ≤ xs.length := by
  have hl := O.len
  rcases (O.tkn a).1 ha with ⟨k5, m0⟩ | ⟨⟨k1, k4⟩, m0, _⟩
  · obtain ⟨P, eP, p64, pl⟩ := there O.few (z := a / 32) (by omega)
    rw [bz, if_pos k5]
    rw [eP] at k5 ⊢
    have hin := pg.siz_in (xs := ks) (p := P) (by have := siz_ge (ks := ks) (p := P) (by omega); omega)
    omega
  · obtain ⟨P, eP, p64, pl⟩ := there O.few (z := a / 32) (by omega)
    rw [bz, if_neg (by omega)]
    rw [eP] at k1 k4 m0 ⊢
    rcases small k1 k4 with e | e | e | e <;> rw [e] at m0 ⊢ <;> simp only [sz] at m0 ⊢ <;> simp at m0 ⊢ <;> omega
theorem apart_tk (O : Ok ks xs cs tk fr) {a b : Int} (ha : a ∈ tk) (hb : b ∈ tk) (h : a < b) : a + bz ks a ≤ b := by
  refine Decidable.byContradiction fun hn => ?_
  have h1 := base_in O ha (x := b) (by omega) (by omega)
  have h2 := base_in O hb (x := b) (by omega) (by have := bz_pos O hb; omega)
  omega
end
end Go.Proofs.YtkkoiglfimibjaaDoor.ce
