/- Plain: the words of what is taken, by both. -/
import Derived.Test.YtfhmhlofjoahlaaGreatDoorCeY
namespace Go.Proofs.YtfhmhlofjoahlaaGreatDoor.ce
open Go.RowKit calls cls geos
set_option linter.unusedVariables false
/-- Each word of what is taken is alike in both. -/
def Wd (ks tk xs bw : List Int) : Prop := ∀ b ∈ tk, ∀ x : Nat, b ≤ x → (x : Int) < b + bz ks b → xs.getD x 0 = bw.getD x 0
section
variable {ks ks' xs cs tk bw : List Int} {fr : Nat → List Int}
/-- The pages of what is taken. -/
theorem block_kinds (O : Ok ks xs cs tk fr) {b : Int} (hb : b ∈ tk) : ∃ P : Nat, b / 32 = P ∧ 1 ≤ pg.siz ks P ∧ (1 ≤ pg.kind ks P ∧ pg.kind ks P ≤ 5) ∧ (∀ i : Int, (P : Int) < i → i < P + pg.siz ks P → pg.kind ks i = 6 ∧ pg.kind ks P = 5) ∧ (pg.kind ks P = 5 → pg.kind ks (P + pg.siz ks P) ≠ 6) := by
  have ht := (O.tkn b).1 hb
  have hk : 1 ≤ pg.kind ks (b / 32) ∧ pg.kind ks (b / 32) ≤ 5 := by rcases ht with ⟨h, _⟩ | ⟨h, _⟩ <;> omega
  obtain ⟨P, eP, p64, pl⟩ := there O.few (z := b / 32) (by omega)
  rw [eP] at hk
  refine ⟨P, eP, siz_ge hk, hk, fun i h1 h2 => ?_, fun h5 => ?_⟩
  · by_cases h5 : pg.kind ks P = 5
    · have := (large_pages h5 (i - P).toNat (by omega)).1 (by omega)
      rw [show ((P + (i - P).toNat : Nat) : Int) = i by omega] at this
      exact ⟨this, h5⟩
    · rw [pg.siz_small (by omega)] at h2; omega
  · have := (pg.lead_is (k := 6) (by decide) (xs := ks) (p := P + 1)).2
    have s5 := pg.siz_large h5
    rwa [show ((P + 1 + pg.lead 6 (ks.drop (P + 1)) : Nat) : Int) = (P : Int) + pg.siz ks P by omega] at this
theorem page_in (O : Ok ks xs cs tk fr) {b : Int} (hb : b ∈ tk) {P : Nat} (hP : b / 32 = P) {x : Int} (h1 : b ≤ x) (h2 : x < b + bz ks b) : (P : Int) ≤ x / 32 ∧ x / 32 < P + pg.siz ks P := by
  have ht := (O.tkn b).1 hb
  unfold Tkn at ht
  unfold bz at h2
  rw [hP] at ht h2
  rcases ht with ⟨h5, m0⟩ | ⟨kk, m0, _⟩
  · rw [if_pos h5] at h2; omega
  · rw [if_neg (by omega)] at h2
    rw [pg.siz_small kk]
    rcases small_of kk with e | e | e | e <;> rw [e] at m0 h2 <;> simp only [sz] at m0 h2 <;> simp at m0 h2 <;> omega
/-- Where the pages of what is taken stay, its size does. -/
theorem bz_same {b : Int} {P : Nat} (hP : b / 32 = P) (h1 : 1 ≤ pg.siz ks P) (hk : 1 ≤ pg.kind ks P ∧ pg.kind ks P ≤ 5) (h6 : ∀ i : Int, (P : Int) < i → i < P + pg.siz ks P → pg.kind ks i = 6 ∧ pg.kind ks P = 5)
    (hs : ∀ i : Int, (P : Int) ≤ i → i < P + pg.siz ks P → pg.kind ks' i = pg.kind ks i) (hb : pg.kind ks P = 5 → pg.kind ks' (P + pg.siz ks P) ≠ 6) : bz ks' b = bz ks b := by
  have e := hs P (by omega) (by omega)
  unfold bz
  rw [hP, e]
  by_cases h5 : pg.kind ks P = 5
  · rw [if_pos h5, if_pos h5, pg.siz_large (xs := ks') (by rw [e]; exact h5)]
    have := pg.lead_eq (k := 6) (by decide) (xs := ks') (n := (pg.siz ks P).toNat - 1) (p := P + 1) (fun i hi => by
      rw [show ((P + 1 + i : Nat) : Int) = (P : Int) + 1 + i by omega, hs _ (by omega) (by omega)]
      exact (h6 _ (by omega) (by omega)).1) (by
      rw [show ((P + 1 + ((pg.siz ks P).toNat - 1) : Nat) : Int) = (P : Int) + pg.siz ks P by omega]
      exact hb h5)
    rw [this]
    omega
  · rw [if_neg h5, if_neg h5]
theorem Wd.nil (ks xs bw : List Int) : Wd ks [] xs bw := fun b hb => by simp at hb
theorem Wd.carve (W : Wd ks tk xs bw) (O : Ok ks xs cs tk fr) {k : Int} (hk : 1 ≤ k ∧ k ≤ 4) {p z n : Nat} (hf : pg.find 1 0 ks = some p) (hz : sz k = z) (hn : cl k = n) : Wd (ks.set p k) tk (ch.builtN xs p z n) bw := fun b hb x h1 h2 => by
  obtain ⟨q1, q2⟩ := Ok.free0 (n := 1) (by omega) hf
  have k0 := q2 p (by omega) (by omega)
  obtain ⟨P, hP, s1, s2, s3, s4⟩ := block_kinds O hb
  have hne : ∀ i : Int, (P : Int) ≤ i → i < P + pg.siz ks P → i ≠ p := fun i h1 h2 e => by
    by_cases e2 : i = P
    · rw [← e2, e] at s2; omega
    · have := (s3 i (by omega) h2).1; rw [e] at this; omega
  have e := bz_same (ks' := ks.set p k) hP s1 s2 s3 (fun i h1 h2 => by rw [kind_set (by omega), if_neg (hne i h1 h2)]) (fun h5 => by
    rw [kind_set (by omega)]
    split
    · omega
    · exact s4 h5)
  rw [e] at h2
  have hl := O.len
  obtain ⟨s, c, e1, e2, e3, e4, e5, e6, e7⟩ := ch.sz_cl hk.1 hk.2
  obtain rfl : z = s := by omega
  obtain rfl : n = c := by omega
  rw [ch.builtN_getD xs p z n e6 (by rw [Nat.mul_comm]; omega) (by omega), if_neg ?_]
  · exact W b hb x h1 h2
  · intro hx
    have pi := page_in O hb hP h1 h2
    exact hne _ pi.1 pi.2 (by omega)
theorem Wd.take (W : Wd ks tk xs bw) {a z : Nat} (hz : bz ks a = z) (hx : a + z ≤ xs.length) (hb : a + z ≤ bw.length) : Wd ks (bm.rising (tk ++ [(a : Int)])) (mm.fillN xs a 0 z) (mm.fillN bw a 0 z) := fun b h x h1 h2 => by
  rw [bm.mem_rising, List.mem_append, List.mem_singleton] at h
  rw [ch.fillN_getD _ _ _ _ hx, ch.fillN_getD _ _ _ _ hb]
  split
  · rfl
  · rename_i hn
    rcases h with h | rfl
    · exact W b h x h1 h2
    · exact absurd (by omega) hn
theorem Wd.large (W : Wd ks tk xs bw) (O : Ok ks xs cs tk fr) {n p a z : Nat} (hn : 1 ≤ n) (hf : pg.find n 0 ks = some p) (ha : a = p * 32) (hz : z = n * 32) (hb : a + z ≤ bw.length) :
    Wd (pg.spanN ks p n) (bm.rising (tk ++ [(a : Int)])) (mm.fillN xs a 0 z) (mm.fillN bw a 0 z) ∧ bz (pg.spanN ks p n) a = z := by
  obtain ⟨q1, q2⟩ := Ok.free0 hn hf
  have hl := O.len
  have e0 : bz (pg.spanN ks p n) a = z := by
    unfold bz
    rw [show (a : Int) / 32 = p by omega, if_pos (by rw [kind_span hn q1, if_pos rfl]), pg.siz_large (by rw [kind_span hn q1, if_pos rfl])]
    have := pg.lead_eq (k := 6) (by decide) (xs := pg.spanN ks p n) (n := n - 1) (p := p + 1) (fun i hi => by
      rw [kind_span hn q1, if_neg (by omega), if_pos (by omega)]) (by
      rw [kind_span hn q1, if_neg (by omega), if_neg (by omega)]
      intro h6
      have h6' := h6
      have := pg.kind_there (by rw [h6]; decide : pg.kind ks ((p + 1 + (n - 1) : Nat) : Int) ≠ -1)
      rw [pg.kind_in (by omega)] at h6'
      obtain ⟨j, hj, h56⟩ := O.wf _ h6'
      have e : j = p + n - 1 := by omega
      have k0 := q2 (p + n - 1 : Nat) (by omega) (by omega)
      rw [pg.kind_in (by omega)] at k0
      rw [e] at h56
      omega)
    rw [this]
    omega
  refine ⟨fun b h x h1 h2 => ?_, e0⟩
  rw [bm.mem_rising, List.mem_append, List.mem_singleton] at h
  rw [ch.fillN_getD _ _ _ _ (by omega), ch.fillN_getD _ _ _ _ hb]
  split
  · rfl
  · rename_i hno
    rcases h with h | rfl
    · obtain ⟨P, hP, s1, s2, s3, s4⟩ := block_kinds O h
      have k0 : ∀ i : Int, (P : Int) ≤ i → i < P + pg.siz ks P → pg.kind ks i ≠ 0 := fun i h1 h2 e => by
        by_cases e2 : i = P
        · rw [← e2] at s2; omega
        · have := (s3 i (by omega) h2).1; omega
      have e := bz_same (ks' := pg.spanN ks p n) hP s1 s2 s3 (fun i h1 h2 => by
        rw [kind_span hn q1, if_neg (fun e => k0 i h1 h2 (q2 i (by omega) (by omega))), if_neg (fun e => k0 i h1 h2 (q2 i (by omega) (by omega)))]) (fun h5 => by
        rw [kind_span hn q1]
        split
        · omega
        · split
          · rename_i e
            exact absurd (q2 (P + pg.siz ks P - 1) (by omega) (by omega)) (k0 _ (by omega) (by omega))
          · exact s4 h5)
      rw [e] at h2
      exact W b h x h1 h2
    · rw [e0] at h2
      exact absurd (by omega) hno
theorem Wd.gone_large (W : Wd ks tk xs bw) (O : Ok ks xs cs tk fr) {a P : Nat} (ha : (a : Int) ∈ tk) (hP : (a : Int) / 32 = P) (hk : pg.kind ks P = 5) : Wd (pg.fillN ks P 0 (pg.siz ks P).toNat) (tk.filter fun y => decide (y ≠ (a : Int))) xs bw := fun b hb x h1 h2 => by
  rw [List.mem_filter, decide_eq_true_eq] at hb
  have hs := siz_ge (ks := ks) (p := P) (by omega)
  have hin := pg.siz_in (xs := ks) (p := P) (by omega)
  have hle : P + (pg.siz ks P).toNat ≤ ks.length := by omega
  obtain ⟨Q, hQ, s1, s2, s3, s4⟩ := block_kinds O hb.1
  have am : (a : Int) % 32 = 0 := by
    rcases (O.tkn a).1 ha with ⟨_, h⟩ | ⟨h, _⟩
    · exact h
    · rw [hP] at h; omega
  have ba : bz ks a = 32 * pg.siz ks P := by unfold bz; rw [hP, if_pos hk]
  have ap : ∀ i : Int, (Q : Int) ≤ i → i < Q + pg.siz ks Q → ¬ ((P : Int) ≤ i ∧ i < P + pg.siz ks P) := fun i h1 h2 h3 => by
    have ea := base_in O ha (x := 32 * i) (by omega) (by omega)
    have ka : i = P ∨ pg.kind ks i = 6 := by
      by_cases e : i = P
      · exact .inl e
      · have := (large_pages hk (i - P).toNat (by omega)).1 (by omega)
        rw [show ((P + (i - P).toNat : Nat) : Int) = i by omega] at this
        exact .inr this
    by_cases h5 : pg.kind ks Q = 5
    · have m0 : b % 32 = 0 := by
        rcases (O.tkn b).1 hb.1 with ⟨_, h⟩ | ⟨h, _⟩
        · exact h
        · rw [hQ] at h; omega
      have eb := base_in O hb.1 (x := 32 * i) (by omega) (by unfold bz; rw [hQ, if_pos h5]; omega)
      exact hb.2 (by omega)
    · have s0 : pg.siz ks Q = 1 := pg.siz_small (by omega)
      have e : i = Q := by omega
      rw [e] at ka
      rcases ka with e2 | h6
      · rw [e2] at h5; exact h5 hk
      · omega
  have e := bz_same (ks' := pg.fillN ks P 0 (pg.siz ks P).toNat) hQ s1 s2 s3 (fun i h1 h2 => by rw [kind_fill hle, if_neg (fun h => ap i h1 h2 (by omega))]) (fun h5 => by
    rw [kind_fill hle]
    split
    · omega
    · exact s4 h5)
  rw [e] at h2
  exact W b hb.1 x h1 h2
theorem Wd.gone_cell (W : Wd ks tk xs bw) (O : Ok ks xs cs tk fr) {a : Nat} (ha : (a : Int) ∈ tk) (hx : a < xs.length) (v : Int) : Wd ks (tk.filter fun y => decide (y ≠ (a : Int))) (xs.set a v) bw := fun b hb x h1 h2 => by
  rw [List.mem_filter, decide_eq_true_eq] at hb
  rw [ch.set_getD _ _ _ _ hx, if_neg ?_]
  · exact W b hb.1 x h1 h2
  · rintro rfl
    have e1 := base_in O ha (x := x) (Int.le_refl _) (by have := bz_pos O ha; omega)
    have e2 := base_in O hb.1 h1 h2
    exact hb.2 (by omega)
theorem Wd.drop (W : Wd ks tk xs bw) (O : Ok ks xs cs tk fr) {p : Nat} (hk : 1 ≤ pg.kind ks p ∧ pg.kind ks p ≤ 4) (hc : cl (pg.kind ks p) ≤ (fr p).length) : Wd (ks.set p 0) tk xs bw := fun b hb x h1 h2 => by
  obtain ⟨P', eP, p64, pl⟩ := there O.few (z := (p : Int)) (by omega)
  obtain rfl : p = P' := by omega
  obtain ⟨Q, hQ, s1, s2, s3, s4⟩ := block_kinds O hb
  have hne : ∀ i : Int, (Q : Int) ≤ i → i < Q + pg.siz ks Q → i ≠ p := fun i h1 h2 e => by
    by_cases e2 : i = Q
    · have e3 : (Q : Int) = p := by omega
      have ht := ((O.drop hk hc).tkn b).1 hb
      rcases ht with ⟨h, _⟩ | ⟨h, _⟩ <;> rw [hQ, e3, kind_set pl, if_pos rfl] at h <;> omega
    · have := (s3 i (by omega) h2).1; rw [e] at this; omega
  have e := bz_same (ks' := ks.set p 0) hQ s1 s2 s3 (fun i h1 h2 => by rw [kind_set pl, if_neg (hne i h1 h2)]) (fun h5 => by
    rw [kind_set pl]
    split
    · omega
    · exact s4 h5)
  rw [e] at h2
  exact W b hb x h1 h2
theorem Wd.store (W : Wd ks tk xs bw) {y : Nat} (v : Int) (hx : y < xs.length) (hb : y < bw.length) : Wd ks tk (xs.set y v) (bw.set y v) := fun b h x h1 h2 => by
  rw [ch.set_getD _ _ _ _ hx, ch.set_getD _ _ _ _ hb]
  split
  · rfl
  · exact W b h x h1 h2
end
end Go.Proofs.YtfhmhlofjoahlaaGreatDoor.ce
