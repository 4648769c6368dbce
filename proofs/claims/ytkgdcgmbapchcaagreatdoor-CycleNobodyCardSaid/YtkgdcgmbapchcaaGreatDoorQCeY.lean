/- Texts that this claim stands on. -/
import Derived.Test.YtkgdcgmbapchcaaGreatDoorQCeU
import Derived.Test.YtkgdcgmbapchcaaGreatDoorQPgQ
namespace Go.Proofs.YtkgdcgmbapchcaaGreatDoor.ce
open Go.RowKit calls cls geos
set_option linter.unusedVariables false
section
variable {ks : List Int} {p n : Nat} {k : Int}
theorem kind_set (hp : p < ks.length) (k i : Int) : pg.kind (ks.set p k) i = if i = p then k else pg.kind ks i := by
  unfold pg.kind
  rw [List.length_set]
  by_cases hi : 0 ≤ i ∧ i < ks.length
  · rw [if_pos hi, if_pos hi, pg.set_getD _ _ _ _ hp]
    by_cases e : i = p
    · rw [if_pos e, if_pos (by omega)]
    · rw [if_neg e, if_neg (by omega)]
  · rw [if_neg hi, if_neg hi, if_neg (by omega)]
theorem kind_span (h1 : 1 ≤ n) (hp : p + n ≤ ks.length) (i : Int) : pg.kind (pg.spanN ks p n) i = if i = p then 5 else if (p : Int) < i ∧ i < p + n then 6 else pg.kind ks i := by
  unfold pg.kind
  rw [pg.spanN_length]
  by_cases hi : 0 ≤ i ∧ i < ks.length
  · rw [if_pos hi, if_pos hi, pg.spanN_getD _ _ _ h1 hp]
    by_cases e : i = p
    · rw [if_pos e, if_pos (by omega)]
    · rw [if_neg e, if_neg (by omega)]
      by_cases e2 : (p : Int) < i ∧ i < p + n
      · rw [if_pos e2, if_pos (by omega)]
      · rw [if_neg e2, if_neg (by omega)]
  · rw [if_neg hi, if_neg hi, if_neg (by omega), if_neg (by omega)]
theorem kind_fill (hp : p + n ≤ ks.length) (i : Int) : pg.kind (pg.fillN ks p 0 n) i = if (p : Int) ≤ i ∧ i < p + n then 0 else pg.kind ks i := by
  unfold pg.kind
  rw [pg.fillN_length]
  by_cases hi : 0 ≤ i ∧ i < ks.length
  · rw [if_pos hi, if_pos hi, pg.fillN_getD _ _ _ _ hp]
    by_cases e : (p : Int) ≤ i ∧ i < p + n
    · rw [if_pos e, if_pos (by omega)]
    · rw [if_neg e, if_neg (by omega)]
  · rw [if_neg hi, if_neg hi, if_neg (by omega)]
end
theorem lk_same {xs ys : List Int} {p k i : Int} (h : ch.wd xs p k i = ch.wd ys p k i) : ch.lk xs p k i = ch.lk ys p k i := by unfold ch.lk; rw [h]
theorem ch_same {xs ys : List Int} {p k : Int} : ∀ {l : List Int} {f : Int}, (∀ i ∈ l, ch.wd xs p k i = ch.wd ys p k i) → ch.Ch xs p k f l → ch.Ch ys p k f l
  | [], _, _, h => h
  | x :: l, _, hw, h => by
    obtain ⟨h0, h1, h2, h3⟩ := h
    refine ⟨h0, h1, h2, ?_⟩
    rw [← lk_same (hw x (by simp))]
    exact ch_same (fun i hi => hw i (by simp [hi])) h3
theorem ch_few {xs : List Int} {p k f i : Int} {l : List Int} (h : ch.Ch xs p k f l) (hi : 0 ≤ i ∧ i < cl k) (hn : i ∉ l) : (l.length : Int) < cl k := by
  have hc := cl_wide k
  have := ch.nodup_few (cl k).toNat (i :: l) (List.nodup_cons.2 ⟨hn, h.nodup⟩) (fun x hx => by
    rcases List.mem_cons.1 hx with rfl | hx
    · omega
    · have := h.cells x hx; omega)
  simp at this
  omega
theorem ch_full {xs : List Int} {p k f i : Int} {l : List Int} (h : ch.Ch xs p k f l) (hl : cl k ≤ l.length) (hi : 0 ≤ i ∧ i < cl k) : i ∈ l :=
  Decidable.byContradiction fun hn => by have := ch_few h hi hn; omega
theorem mem_from {x : Int} : ∀ {m j : Nat}, (j : Int) ≤ x → x < j + m → x ∈ ch.from_ j m
  | 0, j, h1, h2 => by omega
  | m + 1, j, h1, h2 => by
    by_cases e : x = j
    · subst e; simp [ch.from_]
    · exact List.mem_cons.2 (.inr (mem_from (by omega) (by omega)))
theorem cf_put {cs : List Int} {p : Nat} (hl : cs.length = 128) (hp : p < 64) (f n : Int) (i : Nat) : cf (cput cs p f n) i = if i = p then f else cf cs i := by
  unfold cf cput
  rw [ch.set_getD _ _ _ _ (by rw [List.length_set]; omega), ch.set_getD _ _ _ _ (by omega)]
  simp only [Int.toNat_natCast]
  repeat' split
  all_goals first | rfl | omega
theorem cn_put {cs : List Int} {p : Nat} (hl : cs.length = 128) (hp : p < 64) (f n : Int) (i : Nat) : cn (cput cs p f n) i = if i = p then n else cn cs i := by
  unfold cn cput
  rw [ch.set_getD _ _ _ _ (by rw [List.length_set]; omega), ch.set_getD _ _ _ _ (by omega)]
  simp only [Int.toNat_natCast]
  repeat' split
  all_goals first | rfl | omega
def upd (fr : Nat → List Int) (p : Nat) (l : List Int) : Nat → List Int := fun i => if i = p then l else fr i
theorem upd_same (fr : Nat → List Int) (p : Nat) (l : List Int) : upd fr p l p = l := if_pos rfl
theorem upd_other (fr : Nat → List Int) {p i : Nat} (l : List Int) (h : i ≠ p) : upd fr p l i = fr i := if_neg h
def Tkn (ks : List Int) (fr : Nat → List Int) (a : Int) : Prop :=
  (pg.kind ks (a / 32) = 5 ∧ a % 32 = 0) ∨ ((1 ≤ pg.kind ks (a / 32) ∧ pg.kind ks (a / 32) ≤ 4) ∧ a % sz (pg.kind ks (a / 32)) = 0 ∧ a % 32 / sz (pg.kind ks (a / 32)) ∉ fr (a / 32).toNat)
structure Ok (ks xs cs tk : List Int) (fr : Nat → List Int) : Prop where
  len : xs.length = 32 * ks.length
  few : ks.length ≤ 64
  kds : pg.Ks ks
  wf : pg.Wf ks
  bd : ch.Bd xs
  chl : cs.length = 128
  chn : ∀ p : Nat, 1 ≤ pg.kind ks p → pg.kind ks p ≤ 4 → ch.Ch xs p (pg.kind ks p) (cf cs p) (fr p) ∧ cn cs p = (fr p).length
  tkn : ∀ a : Int, a ∈ tk ↔ Tkn ks fr a
  up : tk.Pairwise (· < ·)
def bz (ks : List Int) (a : Int) : Int := if pg.kind ks (a / 32) = 5 then 32 * pg.siz ks (a / 32) else sz (pg.kind ks (a / 32))
theorem there {ks : List Int} (hl : ks.length ≤ 64) {z : Int} (h : pg.kind ks z ≠ -1) : ∃ P : Nat, z = P ∧ P < 64 ∧ P < ks.length := by
  have := pg.kind_there h
  exact ⟨z.toNat, by omega, by omega, by omega⟩
theorem siz_ge {ks : List Int} {p : Int} (h : 1 ≤ pg.kind ks p ∧ pg.kind ks p ≤ 5) : 1 ≤ pg.siz ks p := by
  unfold pg.siz
  split
  · omega
  · rw [if_pos (by omega)]; omega
theorem frs_own {ks : List Int} {p : Int} (h : 1 ≤ pg.kind ks p ∧ pg.kind ks p ≤ 5) : pg.frs ks p = p := by
  unfold pg.frs
  rw [pg.lowI_stop (by omega), if_neg (by have := siz_ge h; omega)]
theorem large_pages {ks : List Int} {P : Nat} (h : pg.kind ks P = 5) : ∀ j : Nat, (j : Int) < pg.siz ks P → (0 < j → pg.kind ks ((P + j : Nat) : Int) = 6) ∧ pg.lowI ks ((P + j : Nat) : Int) = P
  | 0, _ => ⟨fun h => absurd h (by omega), pg.lowI_stop (by rw [Nat.add_zero, h]; decide)⟩
  | j + 1, hj => by
    have hs := pg.siz_large h
    have h6 : pg.kind ks ((P + (j + 1) : Nat) : Int) = 6 := by
      have := (pg.lead_is (k := 6) (by decide) (xs := ks) (p := P + 1)).1 j (by omega)
      rwa [show P + 1 + j = P + (j + 1) by omega] at this
    refine ⟨fun _ => h6, ?_⟩
    rw [pg.lowI_step h6, show (((P + (j + 1) : Nat) : Int) - 1) = ((P + j : Nat) : Int) by omega]
    exact (large_pages h j (by omega)).2
theorem frs_large {ks : List Int} {P : Nat} (h : pg.kind ks P = 5) {z : Int} (h1 : (P : Int) ≤ z) (h2 : z < P + pg.siz ks P) : pg.frs ks z = P := by
  have := (large_pages h (z.toNat - P) (by omega)).2
  rw [show ((P + (z.toNat - P) : Nat) : Int) = z by omega] at this
  unfold pg.frs
  rw [this, if_neg (by have := siz_ge (ks := ks) (p := P) (by omega); omega)]
section
variable {ks xs cs tk : List Int} {fr : Nat → List Int}
theorem base_in (O : Ok ks xs cs tk fr) {a x : Int} (ha : a ∈ tk) (h1 : a ≤ x) (h2 : x < a + bz ks a) : bs ks tk x = a := by
  have hf := O.few
  have ht := (O.tkn a).1 ha
  rcases ht with ⟨k5, m0⟩ | ⟨⟨k1, k4⟩, m0, _⟩
  · obtain ⟨P, eP, p64, pl⟩ := there O.few (z := a / 32) (by omega)
    rw [bz, if_pos k5] at h2
    rw [eP] at k5 h2
    have hin := pg.siz_in (xs := ks) (p := P) (by have := siz_ge (ks := ks) (p := P) (by omega); omega)
    have e1 : pgOf x = x / 32 := pgOf_yes (by omega) (by omega)
    have e2 : pg.frs ks (x / 32) = P := frs_large k5 (by omega) (by omega)
    have e3 : enk (P : Int) 1 = true := enk_iff.mpr (by omega)
    unfold bs
    simp only [e1, e2, e3, k5, if_true]
    rw [if_pos (bsOf_no (.inl rfl))]
    have e4 : enf (P : Int) 1 = a := by unfold enf; rw [if_pos e3]; omega
    rw [e4, if_pos ha]
  · obtain ⟨P, eP, p64, pl⟩ := there O.few (z := a / 32) (by omega)
    rw [bz, if_neg (by omega)] at h2
    rw [eP] at k1 k4 m0 h2
    have e5 : x / 32 = P ∧ x - x % sz (pg.kind ks P) = a ∧ sz (pg.kind ks P) ≠ 0 := by
      rcases small k1 k4 with e | e | e | e <;> rw [e] at m0 h2 ⊢ <;> simp only [sz] at m0 h2 ⊢ <;> simp at m0 h2 ⊢ <;> omega
    have e1 : pgOf x = x / 32 := pgOf_yes (by omega) (by omega)
    have e2 : pg.frs ks (x / 32) = P := by rw [e5.1]; exact frs_own (by omega)
    have e3 : enk (P : Int) 1 = true := enk_iff.mpr (by omega)
    unfold bs
    simp only [e1, e2, e3, if_true]
    have e4 : bsOf (pg.kind ks P) x = a := by rw [bsOf_yes e5.2.2 (by omega) (by omega)]; exact e5.2.1
    have ne : ¬ a = -1 := by omega
    rw [e4, if_neg ne, if_pos ha]
theorem base_out (O : Ok ks xs cs tk fr) {x : Int} (h : ∀ a ∈ tk, ¬ (a ≤ x ∧ x < a + bz ks a)) : bs ks tk x = -1 := by
  have hf := O.few
  unfold bs
  by_cases he : enk (pg.frs ks (pgOf x)) 1 = true
  · simp only [he, if_true]
    refine if_neg fun hm => ?_
    refine h _ hm ?_
    have hq := enk_iff.mp he
    have hx : 0 ≤ x ∧ x ≤ 2047 := Decidable.byContradiction fun hn => by
      have e1 : pgOf x = -1 := pgOf_no (by omega)
      have k1 : pg.kind ks (-1) = -1 := pg.kind_out (by omega)
      have : pg.frs ks (-1) = -1 := by
        unfold pg.frs
        rw [pg.lowI_stop (by omega), pg.siz_none (by omega) (by omega), if_pos rfl]
      rw [e1, this] at hq
      omega
    have e1 : pgOf x = x / 32 := pgOf_yes hx.1 hx.2
    rw [e1] at hm he hq ⊢
    obtain ⟨X, hX⟩ : ∃ X : Nat, x / 32 = X := ⟨(x / 32).toNat, by omega⟩
    rw [hX] at hm he hq ⊢
    have hlt : X < ks.length := Decidable.byContradiction fun hn => by
      have k1 : pg.kind ks X = -1 := pg.kind_out (by omega)
      have : pg.frs ks X = -1 := by
        unfold pg.frs
        rw [pg.lowI_stop (by omega), pg.siz_none (by omega) (by omega), if_pos rfl]
      omega
    have ek := pg.kind_in hlt
    rcases pg.told_p O.wf O.kds hlt with ⟨_, h1⟩ | ⟨h1, h2⟩ | ⟨h1, q, h2, h3, h4, h5⟩
    · omega
    · rw [h2] at hm he ⊢
      rw [← ek] at h1
      by_cases h5 : pg.kind ks X = 5
      · rw [if_pos (bsOf_no (.inl (by rw [h5]; rfl)))] at hm ⊢
        unfold enf at hm ⊢
        rw [if_pos he] at hm ⊢
        have es : (X : Int) * 32 / 32 = X := by omega
        have := siz_ge (ks := ks) (p := X) (by omega)
        unfold bz
        rw [es, if_pos h5]
        omega
      · have e5 : 0 ≤ x % sz (pg.kind ks X) ∧ x % sz (pg.kind ks X) < sz (pg.kind ks X) ∧ sz (pg.kind ks X) ≠ 0 ∧ (x - x % sz (pg.kind ks X)) / 32 = X := by
          rcases small (k := pg.kind ks X) (by omega) (by omega) with e | e | e | e <;> rw [e] <;> simp only [sz] <;> simp <;> omega
        have e4 : bsOf (pg.kind ks X) x = x - x % sz (pg.kind ks X) := bsOf_yes e5.2.2.1 hx.1 hx.2
        rw [e4] at hm ⊢
        have : ¬ x - x % sz (pg.kind ks X) = -1 := by omega
        rw [if_neg this] at hm ⊢
        unfold bz
        rw [e5.2.2.2, if_neg h5]
        omega
    · rw [h2] at hm he ⊢
      have k5 := pg.kind_getD (by decide) h4
      rw [if_pos (bsOf_no (.inl (by rw [k5]; rfl)))] at hm ⊢
      unfold enf at hm ⊢
      rw [if_pos he] at hm ⊢
      have es : (q : Int) * 32 / 32 = q := by omega
      unfold bz
      rw [es, if_pos k5]
      omega
  · rw [if_neg he]
theorem base_some (O : Ok ks xs cs tk fr) {x : Int} (h : bs ks tk x ≠ -1) : ∃ a ∈ tk, a ≤ x ∧ x < a + bz ks a := by
  refine Decidable.byContradiction fun hn => h (base_out O fun a ha hx => hn ⟨a, ha, hx⟩)
theorem bz_pos (O : Ok ks xs cs tk fr) {a : Int} (ha : a ∈ tk) : 0 < bz ks a := by
  rcases (O.tkn a).1 ha with ⟨k5, _⟩ | ⟨⟨k1, k4⟩, _⟩
  · rw [bz, if_pos k5]; have := siz_ge (ks := ks) (p := a / 32) (by omega); omega
  · rw [bz, if_neg (by omega)]
    rcases small k1 k4 with e | e | e | e <;> rw [e] <;> decide
theorem bz_in (O : Ok ks xs cs tk fr) {a : Int} (ha : a ∈ tk) : 0 ≤ a ∧ a + bz ks a ≤ xs.length := by
  have hl := O.len
  rcases (O.tkn a).1 ha with ⟨k5, m0⟩ | ⟨⟨k1, k4⟩, m0, _⟩
  · obtain ⟨P, eP, p64, pl⟩ := there O.few (z := a / 32) (by omega)
    rw [bz, if_pos k5]
    rw [eP] at k5 ⊢
    have hin := pg.siz_in (xs := ks) (p := P) (by have := siz_ge (ks := ks) (p := P) (by omega); omega)
    omega
  · obtain ⟨P, eP, p64, pl⟩ := there O.few (z := a / 32) (by omega)
    rw [bz, if_neg (by omega)]
    rw [eP] at k1 k4 m0 ⊢
    rcases small k1 k4 with e | e | e | e <;> rw [e] at m0 ⊢ <;> simp only [sz] at m0 ⊢ <;> simp at m0 ⊢ <;> omega
end
end Go.Proofs.YtkgdcgmbapchcaaGreatDoor.ce
namespace Go.Proofs.YtkgdcgmbapchcaaGreatDoor.ce
open Go.RowKit calls cls geos
set_option linter.unusedVariables false
theorem wd_out {xs ys : List Int} {p : Nat} {k i : Int} {lo hi : Nat} (hi0 : 0 ≤ i ∧ i < cl k) (h : ∀ j : Nat, ¬ (lo ≤ j ∧ j < hi) → ys.getD j 0 = xs.getD j 0) (ho : (p : Int) * 32 + i * sz k < lo ∨ (hi : Int) ≤ (p : Int) * 32 + i * sz k) : ch.wd xs p k i = ch.wd ys p k i := by
  have r := room hi0.1 hi0.2
  have h0 := Int.mul_nonneg hi0.1 (Int.le_of_lt r.1)
  unfold ch.wd
  rw [h _ (by omega)]
theorem wd_page {xs ys : List Int} {p P : Nat} {k i : Int} {lo hi : Nat} (hi0 : 0 ≤ i ∧ i < cl k) (h : ∀ j : Nat, ¬ (lo ≤ j ∧ j < hi) → ys.getD j 0 = xs.getD j 0) (hlo : P * 32 ≤ lo) (hhi : hi ≤ P * 32 + 32) (hne : p ≠ P) : ch.wd xs p k i = ch.wd ys p k i := by
  have r := room hi0.1 hi0.2
  have h0 := Int.mul_nonneg hi0.1 (Int.le_of_lt r.1)
  exact wd_out hi0 h (by omega)
theorem small_of {k : Int} (h : 1 ≤ k ∧ k ≤ 4) : k = 1 ∨ k = 2 ∨ k = 3 ∨ k = 4 := by omega
theorem cell_at {k a : Int} (hk : 1 ≤ k ∧ k ≤ 4) (h0 : a % sz k = 0) : 0 ≤ a % 32 / sz k ∧ a % 32 / sz k < cl k ∧ a / 32 * 32 + a % 32 / sz k * sz k = a := by
  rcases small_of hk with e | e | e | e <;> rw [e] at h0 ⊢ <;> simp only [sz, cl] at h0 ⊢ <;> simp at h0 ⊢ <;> omega
theorem at_cell {k i : Int} {p : Nat} (hk : 1 ≤ k ∧ k ≤ 4) (hi : 0 ≤ i ∧ i < cl k) : ((p : Int) * 32 + i * sz k) / 32 = p ∧ ((p : Int) * 32 + i * sz k) % sz k = 0 ∧ ((p : Int) * 32 + i * sz k) % 32 / sz k = i := by
  rcases small_of hk with e | e | e | e <;> rw [e] at hi ⊢ <;> simp only [sz, cl] at hi ⊢ <;> simp at hi ⊢ <;> omega
theorem tkn_page {ks ks' : List Int} {fr fr' : Nat → List Int} {a : Int} (hk : pg.kind ks' (a / 32) = pg.kind ks (a / 32)) (hf : 0 ≤ a → fr' (a / 32).toNat = fr (a / 32).toNat) : Tkn ks' fr' a ↔ Tkn ks fr a := by
  unfold Tkn
  rw [hk]
  by_cases h0 : 0 ≤ a
  · rw [hf h0]
  · have : pg.kind ks (a / 32) = -1 := pg.kind_out (by omega)
    rw [this]
    simp
theorem tkn_no {ks : List Int} {fr : Nat → List Int} {a : Int} (h : pg.kind ks (a / 32) = 0 ∨ pg.kind ks (a / 32) = 6) : ¬ Tkn ks fr a := by
  unfold Tkn
  omega
section
variable {ks xs cs tk : List Int} {fr : Nat → List Int}
theorem Ok.free0 {n : Nat} (hn : 1 ≤ n) {p : Nat} (hf : pg.find n 0 ks = some p) : p + n ≤ ks.length ∧ ∀ i : Int, (p : Int) ≤ i → i < p + n → pg.kind ks i = 0 := by
  obtain ⟨h1, _, h3, h4⟩ := pg.find_at (n := n) (by omega) hf
  refine ⟨by omega, fun i h5 h6 => ?_⟩
  have := h3 (i - p).toNat (by omega)
  rwa [show ((p + (i - p).toNat : Nat) : Int) = i by omega] at this
theorem Ok.carve (O : Ok ks xs cs tk fr) {k : Int} (hk : 1 ≤ k ∧ k ≤ 4) {p z n : Nat} (hf : pg.find 1 0 ks = some p) (hz : sz k = z) (hn : cl k = n) :
    Ok (ks.set p k) (ch.builtN xs p z n) (cput cs p 0 n) tk (upd fr p (ch.from_ 0 n)) := by
  obtain ⟨h1, h2⟩ := Ok.free0 (n := 1) (by omega) hf
  have hl := O.len
  have hfw := O.few
  obtain ⟨s, c, e1, e2, e3, e4, e5, e6, e7⟩ := ch.sz_cl hk.1 hk.2
  obtain rfl : z = s := by omega
  obtain rfl : n = c := by omega
  have hx : p * 32 + 32 ≤ xs.length := by omega
  have hc : n * z ≤ 32 := by rw [Nat.mul_comm]; omega
  have k0 := h2 p (by omega) (by omega)
  refine ⟨by rw [ch.builtN_length, List.length_set]; exact hl, by rw [List.length_set]; exact hfw, O.kds.set p (by omega) (by omega), O.wf.take (by omega) (pg.find_zero (n := 1) (by omega) hf 0 (by omega)) (by omega), O.bd.built e6 hx n hc, by rw [cput_length]; exact O.chl, fun P q1 q2 => ?_, fun a => ?_, O.up⟩
  · rw [kind_set (by omega)] at q1 q2 ⊢
    rw [cf_put O.chl (by omega), cn_put O.chl (by omega)]
    by_cases e : P = p
    · subst e
      rw [if_pos rfl, if_pos rfl, if_pos rfl, upd_same, ch.from_length]
      exact ⟨ch.built_ch hk.1 hk.2 e1 e2 hx n 0 (by omega), rfl⟩
    · rw [if_neg (by omega)] at q1 q2 ⊢
      rw [if_neg e, if_neg e, upd_other _ _ e]
      obtain ⟨c1, c2⟩ := O.chn P q1 q2
      refine ⟨ch_same (fun i hi => ?_) c1, c2⟩
      refine wd_page (P := p) (lo := p * 32) (hi := p * 32 + 32) (c1.cells i hi) (fun j hj => ?_) (by omega) (by omega) e
      rw [ch.builtN_getD xs p z n e6 hc hx, if_neg hj]
  · rw [O.tkn]
    by_cases e : a / 32 = p
    · refine ⟨fun h => absurd h (tkn_no (.inl (by rw [e]; exact k0))), fun h => ?_⟩
      unfold Tkn at h
      rw [e, kind_set (by omega), if_pos rfl] at h
      rcases h with ⟨h, _⟩ | ⟨_, h3, h4⟩
      · omega
      · rw [Int.toNat_natCast, upd_same] at h4
        have := cell_at hk h3
        exact absurd (mem_from (by omega) (by omega)) h4
    · refine (tkn_page (by rw [kind_set (by omega), if_neg e]) fun h0 => upd_other _ _ (by omega)).symm
theorem Ok.take (O : Ok ks xs cs tk fr) {p a z : Nat} {f : Int} {rest : List Int} (hk : 1 ≤ pg.kind ks p ∧ pg.kind ks p ≤ 4) (hfr : fr p = f :: rest) (ha : (a : Int) = p * 32 + f * sz (pg.kind ks p)) (hz : sz (pg.kind ks p) = z) :
    Ok ks (mm.fillN xs a 0 z) (cput cs p (ch.lk xs p (pg.kind ks p) f) (cn cs p - 1)) (bm.rising (tk ++ [(a : Int)])) (upd fr p rest) ∧ (a : Int) ∉ tk := by
  obtain ⟨P, eP, p64, pl⟩ := there O.few (z := (p : Int)) (by omega)
  obtain rfl : p = P := by omega
  obtain ⟨c1, c2⟩ := O.chn p hk.1 hk.2
  rw [hfr] at c1 c2
  obtain ⟨d0, d1, d2, d3⟩ := c1
  have r := room d1.1 d1.2
  have h0 := Int.mul_nonneg d1.1 (Int.le_of_lt r.1)
  have hl := O.len
  have hx : a + z ≤ xs.length := by omega
  have ac := at_cell (p := p) hk d1
  rw [← ha] at ac
  have hnot : (a : Int) ∉ tk := fun h => by
    rcases (O.tkn a).1 h with ⟨h5, _⟩ | ⟨_, _, h6⟩
    · rw [ac.1] at h5; omega
    · rw [ac.1, ac.2.2, Int.toNat_natCast, hfr] at h6
      simp at h6
  refine ⟨⟨by rw [mm.fillN_length]; exact hl, O.few, O.kds, O.wf, O.bd.fill a z hx (by omega) (by omega), by rw [cput_length]; exact O.chl, fun P q1 q2 => ?_, fun x => ?_, bm.rising_up _⟩, hnot⟩
  · rw [cf_put O.chl p64, cn_put O.chl p64]
    by_cases e : P = p
    · subst e
      rw [if_pos rfl, if_pos rfl, upd_same]
      refine ⟨ch_same (fun i hi => ?_) d3, by rw [c2]; simp⟩
      have ci := d3.cells i hi
      have ne : i ≠ f := fun e => d2 (e ▸ hi)
      refine wd_out (lo := a) (hi := a + z) ci (fun j hj => ?_) ?_
      · rw [ch.fillN_getD _ _ _ _ hx, if_neg hj]
      · rw [Int.natCast_add, ha, ← hz]
        rcases small_of hk with e | e | e | e <;> rw [e] at d1 ci ⊢ <;> simp only [sz, cl] at d1 ci ⊢ <;> simp at d1 ci ⊢ <;> omega
    · rw [if_neg e, if_neg e, upd_other _ _ e]
      obtain ⟨g1, g2⟩ := O.chn P q1 q2
      refine ⟨ch_same (fun i hi => ?_) g1, g2⟩
      refine wd_page (P := p) (lo := a) (hi := a + z) (g1.cells i hi) (fun j hj => ?_) (by omega) (by omega) e
      rw [ch.fillN_getD _ _ _ _ hx, if_neg hj]
  · rw [bm.mem_rising, List.mem_append, List.mem_singleton, O.tkn]
    by_cases e : x / 32 = p
    · unfold Tkn
      rw [e, Int.toNat_natCast, upd_same, hfr, List.mem_cons]
      constructor
      · rintro ((⟨h5, _⟩ | ⟨_, h3, h4⟩) | rfl)
        · omega
        · exact .inr ⟨hk, h3, fun h => h4 (.inr h)⟩
        · exact .inr ⟨hk, ac.2.1, by rw [ac.2.2]; exact d2⟩
      · rintro (⟨h5, _⟩ | ⟨_, h3, h4⟩)
        · omega
        · by_cases hx : x = a
          · exact .inr hx
          · refine .inl (.inr ⟨hk, h3, fun h => ?_⟩)
            rcases h with h | h
            · have := cell_at hk h3
              rw [h, e] at this
              omega
            · exact h4 h
    · rw [tkn_page (ks' := ks) (fr' := upd fr p rest) (ks := ks) (fr := fr) rfl fun h0 => upd_other _ _ (by omega)]
      exact ⟨fun h => h.elim id fun h => absurd (h ▸ ac.1) e, .inl⟩
theorem Ok.large (O : Ok ks xs cs tk fr) {n p a z : Nat} (hn : 1 ≤ n) (hf : pg.find n 0 ks = some p) (ha : a = p * 32) (hz : z = n * 32) :
    Ok (pg.spanN ks p n) (mm.fillN xs a 0 z) cs (bm.rising (tk ++ [(a : Int)])) fr ∧ (a : Int) ∉ tk := by
  obtain ⟨h1, h2⟩ := Ok.free0 hn hf
  have hl := O.len
  have hfw := O.few
  have hx : a + z ≤ xs.length := by omega
  have ea : (a : Int) / 32 = p := by omega
  have hnot : (a : Int) ∉ tk := fun h => tkn_no (.inl (by rw [ea]; exact h2 p (by omega) (by omega))) ((O.tkn a).1 h)
  refine ⟨⟨by rw [mm.fillN_length, pg.spanN_length]; exact hl, by rw [pg.spanN_length]; exact hfw, O.kds.span p n hn h1, O.wf.span hn h1 (pg.find_zero hn hf), O.bd.fill a z hx (by omega) (by omega), O.chl, fun P q1 q2 => ?_, fun x => ?_, bm.rising_up _⟩, hnot⟩
  · rw [kind_span hn h1] at q1 q2 ⊢
    by_cases e : (P : Int) = p
    · rw [if_pos e] at q2; omega
    · rw [if_neg e] at q1 q2 ⊢
      by_cases e2 : (p : Int) < P ∧ (P : Int) < p + n
      · rw [if_pos e2] at q2; omega
      · rw [if_neg e2] at q1 q2 ⊢
        obtain ⟨g1, g2⟩ := O.chn P q1 q2
        refine ⟨ch_same (fun i hi => ?_) g1, g2⟩
        have ci := g1.cells i hi
        have r := room ci.1 ci.2
        have h0 := Int.mul_nonneg ci.1 (Int.le_of_lt r.1)
        refine wd_out (lo := a) (hi := a + z) ci (fun j hj => ?_) (by omega)
        rw [ch.fillN_getD _ _ _ _ hx, if_neg hj]
  · rw [bm.mem_rising, List.mem_append, List.mem_singleton, O.tkn]
    by_cases e : (p : Int) ≤ x / 32 ∧ x / 32 < p + n
    · have no : ¬ Tkn ks fr x := tkn_no (.inl (h2 _ e.1 e.2))
      constructor
      · rintro (h | rfl)
        · exact absurd h no
        · refine .inl ⟨?_, by omega⟩
          rw [kind_span hn h1, if_pos ea]
      · intro h
        unfold Tkn at h
        rw [kind_span hn h1] at h
        by_cases e2 : x / 32 = p
        · rw [if_pos e2] at h
          rcases h with ⟨_, h⟩ | ⟨h, _⟩
          · exact .inr (by omega)
          · omega
        · rw [if_neg e2, if_pos (by omega)] at h
          rcases h with ⟨h, _⟩ | ⟨h, _⟩ <;> omega
    · rw [tkn_page (ks' := pg.spanN ks p n) (fr' := fr) (ks := ks) (fr := fr) (by rw [kind_span hn h1, if_neg (by omega), if_neg (by omega)]) fun _ => rfl]
      exact ⟨fun h => h.elim id fun h => absurd h (by omega), .inl⟩
theorem up_filter {tk : List Int} (h : tk.Pairwise (· < ·)) (a : Int) : (tk.filter fun y => decide (y ≠ a)).Pairwise (· < ·) := h.sublist List.filter_sublist
theorem Ok.gone_large (O : Ok ks xs cs tk fr) {a P : Nat} (ha : (a : Int) ∈ tk) (hP : (a : Int) / 32 = P) (hk : pg.kind ks P = 5) :
    Ok (pg.fillN ks P 0 (pg.siz ks P).toNat) xs cs (tk.filter fun y => decide (y ≠ (a : Int))) fr := by
  have hs := siz_ge (ks := ks) (p := P) (by omega)
  have hin := pg.siz_in (xs := ks) (p := P) (by omega)
  have hle : P + (pg.siz ks P).toNat ≤ ks.length := by omega
  have lp := large_pages hk
  have ka : ∀ i : Int, (P : Int) ≤ i → i < P + pg.siz ks P → i = P ∨ pg.kind ks i = 6 := fun i h1 h2 => by
    by_cases e : i = P
    · exact .inl e
    · have := (lp (i.toNat - P) (by omega)).1 (by omega)
      rw [show ((P + (i.toNat - P) : Nat) : Int) = i by omega] at this
      exact .inr this
  have m0 : (a : Int) % 32 = 0 := by
    rcases (O.tkn a).1 ha with ⟨_, h⟩ | ⟨h, _⟩
    · exact h
    · rw [hP] at h; omega
  refine ⟨by rw [pg.fillN_length]; exact O.len, by rw [pg.fillN_length]; exact O.few, O.kds.fill P (by omega) _ hle, O.wf.freed (by omega), O.bd, O.chl, fun p q1 q2 => ?_, fun x => ?_, up_filter O.up _⟩
  · rw [kind_fill hle] at q1 q2 ⊢
    by_cases e : (P : Int) ≤ p ∧ (p : Int) < P + (pg.siz ks P).toNat
    · rw [if_pos e] at q1; omega
    · rw [if_neg e] at q1 q2 ⊢
      exact O.chn p q1 q2
  · rw [List.mem_filter, decide_eq_true_eq, O.tkn]
    by_cases e : (P : Int) ≤ x / 32 ∧ x / 32 < P + (pg.siz ks P).toNat
    · refine ⟨fun ⟨h1, h2⟩ => ?_, fun h => absurd h (tkn_no (.inl (by rw [kind_fill hle, if_pos e])))⟩
      rcases ka (x / 32) e.1 (by omega) with h | h
      · rcases h1 with ⟨_, h3⟩ | ⟨h3, _⟩
        · exact absurd (show x = a by omega) h2
        · rw [h] at h3; omega
      · exact absurd h1 (tkn_no (.inr h))
    · rw [tkn_page (ks' := pg.fillN ks P 0 (pg.siz ks P).toNat) (fr' := fr) (ks := ks) (fr := fr) (by rw [kind_fill hle, if_neg e]) fun _ => rfl]
      exact ⟨fun h => h.1, fun h => ⟨h, fun e2 => e (by omega)⟩⟩
theorem Ok.gone_cell (O : Ok ks xs cs tk fr) {a P : Nat} {i : Int} (ha : (a : Int) ∈ tk) (hP : (a : Int) / 32 = P) (hk : 1 ≤ pg.kind ks P ∧ pg.kind ks P ≤ 4) (hi : (a : Int) % 32 / sz (pg.kind ks P) = i) :
    Ok ks (xs.set a (-1 - cf cs P)) (cput cs P i (cn cs P + 1)) (tk.filter fun y => decide (y ≠ (a : Int))) (upd fr P (i :: fr P)) ∧ ch.gv xs.length P (pg.kind ks P) (cf cs P) (cn cs P) i = true ∧ ((P : Int) * 32 + i * sz (pg.kind ks P)).toNat = a := by
  obtain ⟨P', eP, p64, pl⟩ := there O.few (z := (P : Int)) (by omega)
  obtain rfl : P = P' := by omega
  obtain ⟨m0, hn⟩ : (a : Int) % sz (pg.kind ks P) = 0 ∧ i ∉ fr P := by
    rcases (O.tkn a).1 ha with ⟨h, _⟩ | ⟨_, h1, h2⟩
    · rw [hP] at h; omega
    · rw [hP] at h1 h2
      rw [hi, Int.toNat_natCast] at h2
      exact ⟨h1, h2⟩
  have cc := cell_at hk m0
  rw [hi, hP] at cc
  obtain ⟨c1, c2⟩ := O.chn P hk.1 hk.2
  have few := ch_few c1 ⟨cc.1, cc.2.1⟩ hn
  have wide := c1.wide
  have cw := cl_wide (pg.kind ks P)
  have hl := O.len
  have r := room cc.1 cc.2.1
  have h0 := Int.mul_nonneg cc.1 (Int.le_of_lt r.1)
  have ea : ((P : Int) * 32 + i * sz (pg.kind ks P)).toNat = a := by omega
  refine ⟨⟨by rw [List.length_set]; exact hl, O.few, O.kds, O.wf, O.bd.set a (by omega) (by omega), by rw [cput_length]; exact O.chl, fun p q1 q2 => ?_, fun x => ?_, up_filter O.up _⟩, ch.gv_iff.mpr ⟨ch.thk_iff.mpr (by omega), cc.1, cc.2.1, by omega, by omega, wide.1, wide.2⟩, ea⟩
  · rw [cf_put O.chl p64, cn_put O.chl p64]
    by_cases e : p = P
    · subst e
      rw [if_pos rfl, if_pos rfl, upd_same]
      refine ⟨?_, by rw [c2]; simp⟩
      have := c1.give ⟨cc.1, cc.2.1⟩ hn (by omega)
      rwa [ea] at this
    · rw [if_neg e, if_neg e, upd_other _ _ e]
      obtain ⟨g1, g2⟩ := O.chn p q1 q2
      refine ⟨ch_same (fun i hi => ?_) g1, g2⟩
      refine wd_page (P := P) (lo := a) (hi := a + 1) (g1.cells i hi) (fun j hj => ?_) (by omega) (by omega) e
      rw [ch.set_getD _ _ _ _ (by omega), if_neg (by omega)]
  · rw [List.mem_filter, decide_eq_true_eq, O.tkn]
    by_cases e : x / 32 = P
    · unfold Tkn
      rw [e, Int.toNat_natCast, upd_same, List.mem_cons]
      constructor
      · rintro ⟨⟨h5, _⟩ | ⟨_, h3, h4⟩, h6⟩
        · omega
        · refine .inr ⟨hk, h3, fun h => ?_⟩
          rcases h with h | h
          · have := cell_at hk h3
            rw [h, e] at this
            exact h6 (by omega)
          · exact h4 h
      · rintro (⟨h5, _⟩ | ⟨_, h3, h4⟩)
        · omega
        · refine ⟨.inr ⟨hk, h3, fun h => h4 (.inr h)⟩, fun h => ?_⟩
          subst h
          exact h4 (.inl hi)
    · rw [tkn_page (ks' := ks) (fr' := upd fr P (i :: fr P)) (ks := ks) (fr := fr) rfl fun h0 => upd_other _ _ (by omega)]
      exact ⟨fun h => h.1, fun h => ⟨h, fun e2 => e (by omega)⟩⟩
theorem Ok.drop (O : Ok ks xs cs tk fr) {p : Nat} (hk : 1 ≤ pg.kind ks p ∧ pg.kind ks p ≤ 4) (hc : cl (pg.kind ks p) ≤ (fr p).length) : Ok (ks.set p 0) xs cs tk fr := by
  obtain ⟨P, eP, p64, pl⟩ := there O.few (z := (p : Int)) (by omega)
  obtain rfl : p = P := by omega
  obtain ⟨c1, c2⟩ := O.chn p hk.1 hk.2
  have es : pg.fillN ks p 0 1 = ks.set p 0 := rfl
  have s1 := pg.siz_small hk
  have wf := O.wf.freed (p := p) (by omega)
  rw [s1] at wf
  refine ⟨by rw [List.length_set]; exact O.len, by rw [List.length_set]; exact O.few, O.kds.set p (by omega) pl, wf, O.bd, O.chl, fun P q1 q2 => ?_, fun x => ?_, O.up⟩
  · rw [kind_set pl] at q1 q2 ⊢
    by_cases e : (P : Int) = p
    · rw [if_pos e] at q1; omega
    · rw [if_neg e] at q1 q2 ⊢
      exact O.chn P q1 q2
  · rw [O.tkn]
    by_cases e : x / 32 = p
    · refine ⟨fun h => ?_, fun h => absurd h (tkn_no (.inl (by rw [e, kind_set pl, if_pos rfl])))⟩
      rcases h with ⟨h, _⟩ | ⟨_, h3, h4⟩
      · rw [e] at h; omega
      · rw [e] at h3 h4
        have := cell_at hk h3
        exact absurd (ch_full c1 hc ⟨this.1, this.2.1⟩) h4
    · exact (tkn_page (by rw [kind_set pl, if_neg e]) fun _ => rfl).symm
theorem Ok.store (O : Ok ks xs cs tk fr) {x : Nat} {v : Int} (hb : bs ks tk x ≠ -1) (hv : -9223372036854775808 ≤ v ∧ v ≤ 9223372036854775807) : Ok ks (xs.set x v) cs tk fr ∧ x < xs.length := by
  obtain ⟨a, ha, h1, h2⟩ := base_some O hb
  have hin := bz_in O ha
  refine ⟨⟨by rw [List.length_set]; exact O.len, O.few, O.kds, O.wf, O.bd.set x hv.1 hv.2, O.chl, fun p q1 q2 => ?_, O.tkn, O.up⟩, by omega⟩
  obtain ⟨g1, g2⟩ := O.chn p q1 q2
  refine ⟨ch_same (fun i hi => ?_) g1, g2⟩
  have ci := g1.cells i hi
  have r := room ci.1 ci.2
  have h0 := Int.mul_nonneg ci.1 (Int.le_of_lt r.1)
  refine wd_out (lo := x) (hi := x + 1) ci (fun j hj => by rw [ch.set_getD _ _ _ _ (by omega), if_neg (by omega)]) ?_
  refine Decidable.byContradiction fun hc => ?_
  have ex : (x : Int) = p * 32 + i * sz (pg.kind ks p) := by omega
  have ac := at_cell (p := p) ⟨q1, q2⟩ ci
  rw [← ex] at ac
  rcases (O.tkn a).1 ha with ⟨k5, m0⟩ | ⟨kk, m0, nf⟩
  · rw [bz, if_pos k5] at h2
    obtain ⟨P, eP, p64, pl⟩ := there O.few (z := a / 32) (by omega)
    rw [eP] at k5 h2
    have lp := large_pages k5 (p - P) (by omega)
    by_cases e : p = P
    · subst e; omega
    · have := lp.1 (by omega)
      rw [show ((P + (p - P) : Nat) : Int) = p by omega] at this
      omega
  · rw [bz, if_neg (by omega)] at h2
    obtain ⟨P, eP, p64, pl⟩ := there O.few (z := a / 32) (by omega)
    rw [eP] at kk m0 nf h2
    have e5 : (x : Int) / 32 = P ∧ (x : Int) - (x : Int) % sz (pg.kind ks P) = a := by
      rcases small_of kk with e | e | e | e <;> rw [e] at m0 h2 ⊢ <;> simp only [sz] at m0 h2 ⊢ <;> simp at m0 h2 ⊢ <;> omega
    have : p = P := by omega
    subst this
    have : (x : Int) = a := by omega
    rw [← this, ac.2.2, Int.toNat_natCast] at nf
    exact nf hi
theorem Ok.new (k : Nat) (hk : k ≤ 64) : Ok (List.replicate k 0) (List.replicate (32 * k) 0) (List.replicate 128 0) [] (fun _ => []) := by
  have kz : ∀ i : Int, pg.kind (List.replicate k 0) i = 0 ∨ pg.kind (List.replicate k 0) i = -1 := fun i => by
    unfold pg.kind
    split
    · left
      rw [List.getD_eq_getElem?_getD, List.getElem?_replicate]
      split <;> rfl
    · exact .inr rfl
  refine ⟨by simp, by simpa using hk, pg.Ks.zero k, pg.Wf.zero k, ch.Bd.zeros _, by simp, fun p q1 q2 => ?_, fun a => ?_, .nil⟩
  · rcases kz p with h | h <;> omega
  · refine ⟨fun h => by simp at h, fun h => ?_⟩
    unfold Tkn at h
    rcases kz (a / 32) with e | e <;> omega
theorem Ok.told (O : Ok ks xs cs tk fr) {p : Nat} (hk : 1 ≤ pg.kind ks p ∧ pg.kind ks p ≤ 4) : lf ks cs p = cf cs p ∧ ln ks cs p = (fr p).length ∧ (fr p).length ≤ 16 := by
  obtain ⟨c1, c2⟩ := O.chn p hk.1 hk.2
  have : cl (pg.kind ks p) ≠ 0 := by obtain ⟨_, c, _, e2, _, e4, _⟩ := ch.sz_cl hk.1 hk.2; omega
  refine ⟨by unfold lf; rw [if_neg this], by unfold ln; rw [if_neg this, c2], ?_⟩
  have := c1.few
  have := cl_wide (pg.kind ks p)
  omega
theorem Ok.tkt (O : Ok ks xs cs tk fr) {p : Nat} {f : Int} {rest : List Int} (hk : 1 ≤ pg.kind ks p ∧ pg.kind ks p ≤ 4) (hfr : fr p = f :: rest) : ch.tk xs p (pg.kind ks p) f (fr p).length = true ∧ cf cs p = f ∧ (0 ≤ f ∧ f < cl (pg.kind ks p)) := by
  obtain ⟨P, eP, p64, pl⟩ := there O.few (z := (p : Int)) (by omega)
  have hl := O.len
  obtain ⟨c1, c2⟩ := O.chn p hk.1 hk.2
  rw [hfr] at c1
  obtain ⟨d0, d1, d2, d3⟩ := c1
  refine ⟨ch.tk_iff.mpr ⟨ch.thk_iff.mpr (by omega), by rw [hfr]; simp; omega, d3.wide.1⟩, d0, d1⟩
theorem ln_no {p : Int} (h : ¬ (1 ≤ pg.kind ks p ∧ pg.kind ks p ≤ 4)) : ln ks cs p = 0 := by unfold ln; rw [if_pos (cl_no (by omega))]
theorem tk_none {p : Int} (h : ¬ (1 ≤ pg.kind ks p ∧ pg.kind ks p ≤ 4)) (f n : Int) : ch.tk xs p (pg.kind ks p) f n = false := ch.tk_no fun h1 => h (by have := ch.thk_iff.mp h1.1; omega)
end
end Go.Proofs.YtkgdcgmbapchcaaGreatDoor.ce
namespace Go.Proofs.YtkgdcgmbapchcaaGreatDoor.ce
open Go.ChangeShapes Go.WideShapes Go.ChangeAt Go.RowKit gen calls cls geos
set_option linter.unusedVariables false
section
variable {w w' : World} {c h g r m q s : Nat} {ks xs cs : List Int} {ws : List Nat} {fr : Nat → List Int}
theorem kind_dec (ks : List Int) (p : Int) : (1 ≤ pg.kind ks p ∧ pg.kind ks p ≤ 4) ∨ ¬ (1 ≤ pg.kind ks p ∧ pg.kind ks p ≤ 4) := Decidable.em _
theorem ln_fits (O : Ok ks xs cs (bm.nums ws) fr) (p : Int) : fits (ln ks cs p) = true ∧ (¬ (1 ≤ pg.kind ks p ∧ pg.kind ks p ≤ 4) → ln ks cs p = 0) := by
  refine ⟨?_, ln_no⟩
  rcases kind_dec ks p with h | h
  · obtain ⟨P, rfl, _, _⟩ := there O.few (z := p) (by omega)
    obtain ⟨_, h2, h3⟩ := O.told h
    rw [h2]; simp [fits]; omega
  · rw [ln_no h]; rfl
theorem take_at (O : Ok ks xs cs (bm.nums ws) fr) {p : Nat} {f : Int} {rest : List Int} (hk : 1 ≤ pg.kind ks p ∧ pg.kind ks p ≤ 4) (hfr : fr p = f :: rest) :
    ∃ a z : Nat, (a : Int) = p * 32 + f * sz (pg.kind ks p) ∧ sz (pg.kind ks p) = z ∧ ata p (pg.kind ks p) f = a ∧ p < 64 ∧ a + z ≤ 2048 ∧ 0 < z := by
  obtain ⟨P, eP, p64, pl⟩ := there O.few (z := (p : Int)) (by omega)
  obtain ⟨_, _, d1⟩ := O.tkt hk hfr
  have r := room d1.1 d1.2
  have h0 := Int.mul_nonneg d1.1 (Int.le_of_lt r.1)
  refine ⟨((p : Int) * 32 + f * sz (pg.kind ks p)).toNat, (sz (pg.kind ks p)).toNat, by omega, by omega, ?_, by omega, by omega, by omega⟩
  unfold ata
  rw [if_pos (atk_iff.mpr ⟨by omega, by omega, d1⟩)]
  omega
theorem Take_yes' (H : Hp w c h g r m q s ks xs cs ws) (O : Ok ks xs cs (bm.nums ws) fr) {p a z : Nat} {f : Int} {rest : List Int} (hk : 1 ≤ pg.kind ks p ∧ pg.kind ks p ≤ 4) (hfr : fr p = f :: rest) (ha : (a : Int) = p * 32 + f * sz (pg.kind ks p)) (hz : sz (pg.kind ks p) = z) (hat : ata p (pg.kind ks p) f = a) :
    Calls Tryz.prog 216 #[.pointer (some ⟨c, 0, none⟩), .int .i64 p] w (Did (.tuple #[.int .i64 a, .bool true]) c h g r m q s ks (mm.fillN xs a 0 z) (cput cs p (ch.lk xs p (pg.kind ks p) f) (cn cs p - 1)) (bm.rising (bm.nums ws ++ [(a : Int)])) w) := by
  obtain ⟨t1, t2, _⟩ := O.tkt hk hfr
  obtain ⟨u1, u2, u3⟩ := O.told hk
  have c2 := (O.chn p hk.1 hk.2).2
  rw [c2]
  exact Take_some H O.kds O.bd p rfl (by rw [u1, t2]) u2 (by simp [fits]; omega) t1 hat hz (O.take hk hfr ha hz).2
theorem Take_no' (H : Hp w c h g r m q s ks xs cs ws) (O : Ok ks xs cs (bm.nums ws) fr) (p : Int) (hp : fits p = true) (hno : 1 ≤ pg.kind ks p ∧ pg.kind ks p ≤ 4 → fr p.toNat = []) :
    Calls Tryz.prog 216 #[.pointer (some ⟨c, 0, none⟩), .int .i64 p] w fun e w' => e = rI 0 false ∧ w.grownBy w' none := by
  refine Take_none H O.kds O.bd p hp (ln_fits O p).1 ?_
  rcases kind_dec ks p with h | h
  · obtain ⟨P, rfl, _, _⟩ := there O.few (z := p) (by omega)
    obtain ⟨_, u2, _⟩ := O.told h
    have := hno h
    rw [Int.toNat_natCast] at this
    rw [u2, this]
    exact ch.tk_no fun h => by simp at h
  · exact tk_none h _ _
theorem tkn_at (O : Ok ks xs cs (bm.nums ws) fr) {a : Int} (ha : a ∈ bm.nums ws) : ∃ A P : Nat, a = A ∧ (A : Int) / 32 = P ∧ pgOf A = P ∧ P < 64 ∧ P < ks.length ∧ ((pg.kind ks P = 5 ∧ (A : Int) % 32 = 0) ∨ ((1 ≤ pg.kind ks P ∧ pg.kind ks P ≤ 4) ∧ (A : Int) % sz (pg.kind ks P) = 0)) := by
  have hin := bz_in O ha
  have hp := bz_pos O ha
  have hl := O.len
  have hf := O.few
  obtain ⟨A, rfl⟩ : ∃ A : Nat, a = A := ⟨a.toNat, by omega⟩
  obtain ⟨P, hP⟩ : ∃ P : Nat, (A : Int) / 32 = P := ⟨A / 32, by omega⟩
  have e : pgOf (A : Int) = P := by rw [pgOf_yes (by omega) (by omega), hP]
  refine ⟨A, P, rfl, hP, e, by omega, by omega, ?_⟩
  rcases (O.tkn A).1 ha with ⟨h1, h2⟩ | ⟨h1, h2, _⟩
  · rw [hP] at h1; exact .inl ⟨h1, h2⟩
  · rw [hP] at h1 h2; exact .inr ⟨h1, h2⟩
theorem Give_large' (H : Hp w c h g r m q s ks xs cs ws) (O : Ok ks xs cs (bm.nums ws) fr) {a P : Nat} (ha : (a : Int) ∈ bm.nums ws) (hP : pgOf a = P) (hk : pg.kind ks P = 5) :
    Calls Tryz.prog 260 #[.pointer (some ⟨c, 0, none⟩), .int .i64 a] w (Did (.bool true) c h g r m q s (pg.fillN ks P 0 (pg.siz ks P).toNat) xs cs ((bm.nums ws).filter fun y => decide (y ≠ (a : Int))) w) :=
  Give_large H O.kds a P ha hP (by rw [hk]; exact cek_no fun h => absurd h.1 (by decide))
theorem Give_cell' (H : Hp w c h g r m q s ks xs cs ws) (O : Ok ks xs cs (bm.nums ws) fr) {a P : Nat} {i : Int} (ha : (a : Int) ∈ bm.nums ws) (hP : pgOf a = P) (hP2 : (a : Int) / 32 = P) (p64 : P < 64) (hk : 1 ≤ pg.kind ks P ∧ pg.kind ks P ≤ 4) (hm : (a : Int) % sz (pg.kind ks P) = 0) (hi : (a : Int) % 32 / sz (pg.kind ks P) = i) :
    Calls Tryz.prog 260 #[.pointer (some ⟨c, 0, none⟩), .int .i64 a] w (Did (.bool true) c h g r m q s ks (xs.set a (-1 - cf cs P)) (cput cs P i (cn cs P + 1)) ((bm.nums ws).filter fun y => decide (y ≠ (a : Int))) w) := by
  obtain ⟨O', gv, ea⟩ := O.gone_cell ha hP2 hk hi
  have hs : sz (pg.kind ks P) ≠ 0 := by rcases small_of hk with e | e | e | e <;> rw [e] <;> decide
  have ck : cek (pg.kind ks P) a = true := cek_iff.mpr ⟨hs, by omega, by omega, hm⟩
  refine Give_cell H O.kds a P i ha hP p64 ck ?_ ea gv
  unfold cei
  rw [if_pos ck]
  exact hi
theorem drop_dec (O : Ok ks xs cs (bm.nums ws) fr) (p : Int) : (∃ P : Nat, p = P ∧ (1 ≤ pg.kind ks P ∧ pg.kind ks P ≤ 4) ∧ cl (pg.kind ks P) ≤ (fr P).length ∧ cl (pg.kind ks P) ≠ 0 ∧ ln ks cs P = (fr P).length) ∨
    ((cl (pg.kind ks p) = 0 ∨ ln ks cs p < cl (pg.kind ks p)) ∧ (1 ≤ pg.kind ks p ∧ pg.kind ks p ≤ 4 → ((fr p.toNat).length : Int) < cl (pg.kind ks p))) := by
  rcases kind_dec ks p with hk | hk
  · obtain ⟨P, rfl, _, _⟩ := there O.few (z := p) (by omega)
    obtain ⟨_, u2, _⟩ := O.told hk
    obtain ⟨_, n, _, e2, _, e4, _⟩ := ch.sz_cl hk.1 hk.2
    by_cases h1 : cl (pg.kind ks P) ≤ (fr P).length
    · exact .inl ⟨P, rfl, hk, h1, by omega, u2⟩
    · refine .inr ⟨.inr (by rw [u2]; omega), fun _ => ?_⟩
      rw [Int.toNat_natCast]; omega
  · exact .inr ⟨.inl (cl_no (by omega)), fun h => absurd h hk⟩
end
end Go.Proofs.YtkgdcgmbapchcaaGreatDoor.ce
namespace Go.Proofs.YtkgdcgmbapchcaaGreatDoor.ce
open Go.RowKit calls cls geos
set_option linter.unusedVariables false
def Wd (ks tk xs bw : List Int) : Prop := ∀ b ∈ tk, ∀ x : Nat, b ≤ x → (x : Int) < b + bz ks b → xs.getD x 0 = bw.getD x 0
section
variable {ks ks' xs cs tk bw : List Int} {fr : Nat → List Int}
theorem block_kinds (O : Ok ks xs cs tk fr) {b : Int} (hb : b ∈ tk) : ∃ P : Nat, b / 32 = P ∧ 1 ≤ pg.siz ks P ∧ (1 ≤ pg.kind ks P ∧ pg.kind ks P ≤ 5) ∧ (∀ i : Int, (P : Int) < i → i < P + pg.siz ks P → pg.kind ks i = 6 ∧ pg.kind ks P = 5) ∧ (pg.kind ks P = 5 → pg.kind ks (P + pg.siz ks P) ≠ 6) := by
  have ht := (O.tkn b).1 hb
  have hk : 1 ≤ pg.kind ks (b / 32) ∧ pg.kind ks (b / 32) ≤ 5 := by rcases ht with ⟨h, _⟩ | ⟨h, _⟩ <;> omega
  obtain ⟨P, eP, p64, pl⟩ := there O.few (z := b / 32) (by omega)
  rw [eP] at hk
  refine ⟨P, eP, siz_ge hk, hk, fun i h1 h2 => ?_, fun h5 => ?_⟩
  · by_cases h5 : pg.kind ks P = 5
    · have := (large_pages h5 (i - P).toNat (by omega)).1 (by omega)
      rw [show ((P + (i - P).toNat : Nat) : Int) = i by omega] at this
      exact ⟨this, h5⟩
    · rw [pg.siz_small (by omega)] at h2; omega
  · have := (pg.lead_is (k := 6) (by decide) (xs := ks) (p := P + 1)).2
    have s5 := pg.siz_large h5
    rwa [show ((P + 1 + pg.lead 6 (ks.drop (P + 1)) : Nat) : Int) = (P : Int) + pg.siz ks P by omega] at this
theorem page_in (O : Ok ks xs cs tk fr) {b : Int} (hb : b ∈ tk) {P : Nat} (hP : b / 32 = P) {x : Int} (h1 : b ≤ x) (h2 : x < b + bz ks b) : (P : Int) ≤ x / 32 ∧ x / 32 < P + pg.siz ks P := by
  have ht := (O.tkn b).1 hb
  unfold Tkn at ht
  unfold bz at h2
  rw [hP] at ht h2
  rcases ht with ⟨h5, m0⟩ | ⟨kk, m0, _⟩
  · rw [if_pos h5] at h2; omega
  · rw [if_neg (by omega)] at h2
    rw [pg.siz_small kk]
    rcases small_of kk with e | e | e | e <;> rw [e] at m0 h2 <;> simp only [sz] at m0 h2 <;> simp at m0 h2 <;> omega
theorem bz_same {b : Int} {P : Nat} (hP : b / 32 = P) (h1 : 1 ≤ pg.siz ks P) (hk : 1 ≤ pg.kind ks P ∧ pg.kind ks P ≤ 5) (h6 : ∀ i : Int, (P : Int) < i → i < P + pg.siz ks P → pg.kind ks i = 6 ∧ pg.kind ks P = 5)
    (hs : ∀ i : Int, (P : Int) ≤ i → i < P + pg.siz ks P → pg.kind ks' i = pg.kind ks i) (hb : pg.kind ks P = 5 → pg.kind ks' (P + pg.siz ks P) ≠ 6) : bz ks' b = bz ks b := by
  have e := hs P (by omega) (by omega)
  unfold bz
  rw [hP, e]
  by_cases h5 : pg.kind ks P = 5
  · rw [if_pos h5, if_pos h5, pg.siz_large (xs := ks') (by rw [e]; exact h5)]
    have := pg.lead_eq (k := 6) (by decide) (xs := ks') (n := (pg.siz ks P).toNat - 1) (p := P + 1) (fun i hi => by
      rw [show ((P + 1 + i : Nat) : Int) = (P : Int) + 1 + i by omega, hs _ (by omega) (by omega)]
      exact (h6 _ (by omega) (by omega)).1) (by
      rw [show ((P + 1 + ((pg.siz ks P).toNat - 1) : Nat) : Int) = (P : Int) + pg.siz ks P by omega]
      exact hb h5)
    rw [this]
    omega
  · rw [if_neg h5, if_neg h5]
theorem Wd.carve (W : Wd ks tk xs bw) (O : Ok ks xs cs tk fr) {k : Int} (hk : 1 ≤ k ∧ k ≤ 4) {p z n : Nat} (hf : pg.find 1 0 ks = some p) (hz : sz k = z) (hn : cl k = n) : Wd (ks.set p k) tk (ch.builtN xs p z n) bw := fun b hb x h1 h2 => by
  obtain ⟨q1, q2⟩ := Ok.free0 (n := 1) (by omega) hf
  have k0 := q2 p (by omega) (by omega)
  obtain ⟨P, hP, s1, s2, s3, s4⟩ := block_kinds O hb
  have hne : ∀ i : Int, (P : Int) ≤ i → i < P + pg.siz ks P → i ≠ p := fun i h1 h2 e => by
    by_cases e2 : i = P
    · rw [← e2, e] at s2; omega
    · have := (s3 i (by omega) h2).1; rw [e] at this; omega
  have e := bz_same (ks' := ks.set p k) hP s1 s2 s3 (fun i h1 h2 => by rw [kind_set (by omega), if_neg (hne i h1 h2)]) (fun h5 => by
    rw [kind_set (by omega)]
    split
    · omega
    · exact s4 h5)
  rw [e] at h2
  have hl := O.len
  obtain ⟨s, c, e1, e2, e3, e4, e5, e6, e7⟩ := ch.sz_cl hk.1 hk.2
  obtain rfl : z = s := by omega
  obtain rfl : n = c := by omega
  rw [ch.builtN_getD xs p z n e6 (by rw [Nat.mul_comm]; omega) (by omega), if_neg ?_]
  · exact W b hb x h1 h2
  · intro hx
    have pi := page_in O hb hP h1 h2
    exact hne _ pi.1 pi.2 (by omega)
theorem Wd.large (W : Wd ks tk xs bw) (O : Ok ks xs cs tk fr) {n p a z : Nat} (hn : 1 ≤ n) (hf : pg.find n 0 ks = some p) (ha : a = p * 32) (hz : z = n * 32) (hb : a + z ≤ bw.length) :
    Wd (pg.spanN ks p n) (bm.rising (tk ++ [(a : Int)])) (mm.fillN xs a 0 z) (mm.fillN bw a 0 z) ∧ bz (pg.spanN ks p n) a = z := by
  obtain ⟨q1, q2⟩ := Ok.free0 hn hf
  have hl := O.len
  have e0 : bz (pg.spanN ks p n) a = z := by
    unfold bz
    rw [show (a : Int) / 32 = p by omega, if_pos (by rw [kind_span hn q1, if_pos rfl]), pg.siz_large (by rw [kind_span hn q1, if_pos rfl])]
    have := pg.lead_eq (k := 6) (by decide) (xs := pg.spanN ks p n) (n := n - 1) (p := p + 1) (fun i hi => by
      rw [kind_span hn q1, if_neg (by omega), if_pos (by omega)]) (by
      rw [kind_span hn q1, if_neg (by omega), if_neg (by omega)]
      intro h6
      have h6' := h6
      have := pg.kind_there (by rw [h6]; decide : pg.kind ks ((p + 1 + (n - 1) : Nat) : Int) ≠ -1)
      rw [pg.kind_in (by omega)] at h6'
      obtain ⟨j, hj, h56⟩ := O.wf _ h6'
      have e : j = p + n - 1 := by omega
      have k0 := q2 (p + n - 1 : Nat) (by omega) (by omega)
      rw [pg.kind_in (by omega)] at k0
      rw [e] at h56
      omega)
    rw [this]
    omega
  refine ⟨fun b h x h1 h2 => ?_, e0⟩
  rw [bm.mem_rising, List.mem_append, List.mem_singleton] at h
  rw [ch.fillN_getD _ _ _ _ (by omega), ch.fillN_getD _ _ _ _ hb]
  split
  · rfl
  · rename_i hno
    rcases h with h | rfl
    · obtain ⟨P, hP, s1, s2, s3, s4⟩ := block_kinds O h
      have k0 : ∀ i : Int, (P : Int) ≤ i → i < P + pg.siz ks P → pg.kind ks i ≠ 0 := fun i h1 h2 e => by
        by_cases e2 : i = P
        · rw [← e2] at s2; omega
        · have := (s3 i (by omega) h2).1; omega
      have e := bz_same (ks' := pg.spanN ks p n) hP s1 s2 s3 (fun i h1 h2 => by
        rw [kind_span hn q1, if_neg (fun e => k0 i h1 h2 (q2 i (by omega) (by omega))), if_neg (fun e => k0 i h1 h2 (q2 i (by omega) (by omega)))]) (fun h5 => by
        rw [kind_span hn q1]
        split
        · omega
        · split
          · rename_i e
            exact absurd (q2 (P + pg.siz ks P - 1) (by omega) (by omega)) (k0 _ (by omega) (by omega))
          · exact s4 h5)
      rw [e] at h2
      exact W b h x h1 h2
    · rw [e0] at h2
      exact absurd (by omega) hno
end
end Go.Proofs.YtkgdcgmbapchcaaGreatDoor.ce
