/- Texts that this claim stands on. -/
import Derived.Test.YtfhebjkoojodiaaDoorPGpD
import Derived.Test.YtfhebjkoojodiaaDoorPGpM
import Derived.Test.YtfhebjkoojodiaaDoorPGpK
namespace Go.Proofs.YtfhebjkoojodiaaDoor.gp
open Go.ChangeShapes Go.WideShapes Go.ChangeAt Go.RowKit gen va cd
set_option linter.unusedVariables false
set_option maxHeartbeats 1000000
set_option maxRecDepth 100000
section
variable {w : World} {K : List Nat} {g : Nat} {cf : Nat → Int} {σ : Gs}
theorem code_bad (k t i f j c n : Int) {z : Int} (hz : chk k [k, t, i, f, j, c] n = z) (h0 : (z != 0) = true) : Calls Tryd.prog 25 #[.pointer (some ⟨g, 0, none⟩), .agg #[.int .i64 k, .int .i64 t, .int .i64 i, .int .i64 f, .int .i64 j, .int .i64 c, .int .i64 n]] w fun e w' => e = .returned (.int .i64 z) ∧ w.grownBy w' none := by
  have G0 := Lib.hid (grown_alloc w (.cells #[.int .i64 k, .int .i64 t, .int .i64 i, .int .i64 f, .int .i64 j, .int .i64 c, .int .i64 n] 39))
  go_enter Tryd.func25, Tryd.ntmps25
  go_wp2_with (first
    | (go_at_call 41; (with_reducible refine (rCheck_as _ hz).mono ?_); rintro e w1 ⟨rfl, hg⟩; have G1 := Lib.hid (G0.out.trans hg); clear hg))
  go_ret
  exact ⟨rfl, G1.out⟩
theorem cod_any (h : Gw w K g cf σ) {k : Int} {t i f j : Nat} {c n : Int} (ht : t ≤ 255) (hi : i ≤ 255) (hf : f ≤ 255) (hj : j ≤ 255) (hz : chk k [k, (t : Int), (i : Int), (f : Int), (j : Int), c] n = 0) : Calls Tryd.prog 25 #[.pointer (some ⟨g, 0, none⟩), .agg #[.int .i64 k, .int .i64 (t : Int), .int .i64 (i : Int), .int .i64 (f : Int), .int .i64 (j : Int), .int .i64 c, .int .i64 n]] w
    fun e w' => e = .returned (.int .i64 (cod σ k t i f j c n)) ∧ w.grownBy w' none := by
  by_cases hw : wh σ k t = 0
  · by_cases hb : nbc σ k c n = 0
    · by_cases hk : k < 3 ∨ 12 < k
      · have e : cod σ k t i f j c n = 0 := by unfold cod; rw [if_neg (by simpa using hw), if_neg (by simpa using hb), if_pos hk]
        rw [e]
        exact code_e h k t i f j c n ht hi hf hj hz hw hb hk
      · have e0 : cod σ k t i f j c n = (if k = 9 ∨ k = 10 ∨ k = 12 then
            (if ob σ t i f (k != 12) ≠ 0 then ob σ t i f (k != 12) else if k = 10 ∧ (σ.hd t).length ≤ j then 4 else if k = 9 ∧ 16 ≤ (σ.hd t).length then 3 else 0)
          else if k = 11 then (if (σ.hd t).length ≤ i ∨ (σ.hd t).length ≤ j then 4 else 0)
          else if k = 8 then (if (σ.hd t).length = 0 then 4 else 0)
          else if k = 7 ∧ (σ.hd t).length ≤ i then 4 else if 16 ≤ (σ.hd t).length then 3 else 0) := by unfold cod; rw [if_neg (by simpa using hw), if_neg (by simpa using hb), if_neg hk]
        rw [e0]
        have hk' : k = 3 ∨ k = 4 ∨ k = 5 ∨ k = 6 ∨ k = 7 ∨ k = 8 ∨ k = 9 ∨ k = 10 ∨ k = 11 ∨ k = 12 := by omega
        clear e0 hk
        rcases hk' with rfl | rfl | rfl | rfl | rfl | rfl | rfl | rfl | rfl | rfl
        · by_cases q : 16 ≤ (σ.hd t).length
          · simpa [q] using code_3a h t i f j c n ht hi hf hj hz hw hb rfl q
          · simpa [q] using code_3b h t i f j c n ht hi hf hj hz hw hb rfl q
        · by_cases q : 16 ≤ (σ.hd t).length
          · simpa [q] using code_4a h t i f j c n ht hi hf hj hz hw hb rfl q
          · simpa [q] using code_4b h t i f j c n ht hi hf hj hz hw hb rfl q
        · by_cases q : 16 ≤ (σ.hd t).length
          · simpa [q] using code_5a h t i f j c n ht hi hf hj hz hw hb rfl q
          · simpa [q] using code_5b h t i f j c n ht hi hf hj hz hw hb rfl q
        · by_cases q : 16 ≤ (σ.hd t).length
          · simpa [q] using code_6a h t i f j c n ht hi hf hj hz hw hb rfl q
          · simpa [q] using code_6b h t i f j c n ht hi hf hj hz hw hb rfl q
        · by_cases p : (σ.hd t).length ≤ i
          · simpa [p] using code_7a h t i f j c n ht hi hf hj hz hw hb rfl p
          · by_cases q : 16 ≤ (σ.hd t).length
            · simpa [p, q] using code_7b h t i f j c n ht hi hf hj hz hw hb rfl p q
            · simpa [p, q] using code_7c h t i f j c n ht hi hf hj hz hw hb rfl p q
        · by_cases q : (σ.hd t).length = 0
          · simpa [q] using code_8a h t i f j c n ht hi hf hj hz hw hb rfl q
          · have := code_8b h t i f j c n ht hi hf hj hz hw hb rfl q
            rw [if_neg (by omega), if_neg (by omega), if_pos rfl, if_neg q]
            exact this
        · by_cases o : ob σ t i f true = 0
          · by_cases q : 16 ≤ (σ.hd t).length
            · simpa [o, q] using code_9b h t i f j c n ht hi hf hj hz hw hb rfl o q
            · simpa [o, q] using code_9c h t i f j c n ht hi hf hj hz hw hb rfl o q
          · have := code_9a h t i f j c n ht hi hf hj hz hw hb rfl rfl (by simpa using o)
            rw [if_pos (by omega), show ((9 : Int) != 12) = true from rfl, if_pos o]
            exact this
        · by_cases o : ob σ t i f true = 0
          · by_cases q : (σ.hd t).length ≤ j
            · simpa [o, q] using code_10b h t i f j c n ht hi hf hj hz hw hb rfl o q
            · simpa [o, q] using code_10c h t i f j c n ht hi hf hj hz hw hb rfl o q
          · have := code_10a h t i f j c n ht hi hf hj hz hw hb rfl rfl (by simpa using o)
            rw [if_pos (by omega), show ((10 : Int) != 12) = true from rfl, if_pos o]
            exact this
        · by_cases p : (σ.hd t).length ≤ i
          · simpa [p] using code_11a h t i f j c n ht hi hf hj hz hw hb rfl p
          · by_cases q : (σ.hd t).length ≤ j
            · simpa [p, q] using code_11b h t i f j c n ht hi hf hj hz hw hb rfl p q
            · simpa [p, q] using code_11c h t i f j c n ht hi hf hj hz hw hb rfl p q
        · by_cases o : ob σ t i f false = 0
          · simpa [o] using code_12b h t i f j c n ht hi hf hj hz hw hb rfl o
          · have := code_12a h t i f j c n ht hi hf hj hz hw hb rfl rfl (by simpa using o)
            rw [if_pos (by omega), show ((12 : Int) != 12) = false from rfl, if_pos o]
            exact this
    · have e : cod σ k t i f j c n = nbc σ k c n := by unfold cod; rw [if_neg (by simpa using hw), if_pos hb]
      rw [e]
      exact code_n h k t i f j c n ht hi hf hj hz hw rfl (by simpa using hb)
  · have e : cod σ k t i f j c n = wh σ k t := by unfold cod; rw [if_pos hw]
    rw [e]
    exact code_w h k t i f j c n ht hi hf hj hz rfl (by simpa using hw)
theorem fine_nat {k t i f j c n : Int} (h : chk k [k, t, i, f, j, c] n = 0) : 1 ≤ k ∧ k ≤ 17 ∧ (∃ T : Nat, t = (T : Int) ∧ T ≤ 255) ∧ (∃ I : Nat, i = (I : Int) ∧ I ≤ 255) ∧ (∃ F : Nat, f = (F : Int) ∧ F ≤ 255) ∧ (∃ J : Nat, j = (J : Int) ∧ J ≤ 255) := by
  obtain ⟨h1, h2, h3⟩ := chk_fine h
  have a1 := h3 1 (by omega)
  have a2 := h3 2 (by omega)
  have a3 := h3 3 (by omega)
  have a4 := h3 4 (by omega)
  have up : ∀ x : Int, 0 ≤ x ∧ x ≤ 255 → ∃ X : Nat, x = (X : Int) ∧ X ≤ 255 := fun x hx => ⟨x.toNat, by omega, by omega⟩
  exact ⟨h1, h2, up _ a1, up _ a2, up _ a3, up _ a4⟩
theorem Code_any (h : Gw w K g cf σ) (k t i f j c n : Int) : Calls Tryd.prog 25 #[.pointer (some ⟨g, 0, none⟩), .agg #[.int .i64 k, .int .i64 t, .int .i64 i, .int .i64 f, .int .i64 j, .int .i64 c, .int .i64 n]] w
    fun e w' => e = .returned (.int .i64 (codz σ k t i f j c n)) ∧ w.grownBy w' none := by
  by_cases hz : chk k [k, t, i, f, j, c] n = 0
  · have e : codz σ k t i f j c n = cod σ k t.toNat i.toNat f.toNat j.toNat c n := by unfold codz; rw [if_neg (by simpa using hz)]
    rw [e]
    obtain ⟨_, _, ⟨T, rfl, hT⟩, ⟨I, rfl, hI⟩, ⟨F, rfl, hF⟩, ⟨J, rfl, hJ⟩⟩ := fine_nat hz
    simpa using cod_any h hT hI hF hJ hz
  · have e : codz σ k t i f j c n = chk k [k, t, i, f, j, c] n := by unfold codz; rw [if_pos hz]
    rw [e]
    exact code_bad k t i f j c n rfl (by simpa using hz)
end
end Go.Proofs.YtfhebjkoojodiaaDoor.gp
namespace Go.Proofs.YtfhebjkoojodiaaDoor.gp
open Go.ChangeShapes Go.WideShapes Go.ChangeAt Go.RowKit gen va cd
set_option linter.unusedVariables false
set_option maxHeartbeats 1000000
set_option maxRecDepth 100000
def yo (σ : Gs) (t i : Nat) : Nat := ((σ.hd t).getD i (0, 0)).2.toNat
def ef (σ : Gs) (k : Int) (t i f j : Nat) (n : Int) : Gs :=
  if k = 1 then { σ with lv := upd σ.lv t true, hd := upd σ.hd t [] } else if k = 2 then { σ with lv := upd σ.lv t false, hd := upd σ.hd t [] }
  else if k = 3 then { σ with M := σ.M + 1, nd := upd σ.nd σ.M (List.replicate n.toNat (0, 0)), hd := upd σ.hd t (σ.hd t ++ [(2, (σ.M : Int))]) }
  else if k = 8 then { σ with hd := upd σ.hd t ((σ.hd t).take ((σ.hd t).length - 1)) }
  else if k = 10 then { σ with nd := upd σ.nd (yo σ t i) ((σ.nd (yo σ t i)).set f ((σ.hd t).getD j (0, 0))) }
  else if k = 4 ∨ k = 5 ∨ k = 6 ∨ k = 7 ∨ k = 9 then { σ with hd := upd σ.hd t (σ.hd t ++ [pu σ k t i f n]) } else σ
def an (σ : Gs) (k : Int) (t i f j : Nat) (n : Int) : Va :=
  if k = 3 then (2, (σ.M : Int)) else if k = 8 then (σ.hd t).getD ((σ.hd t).length - 1) (0, 0)
  else if k = 11 then (1, if (σ.hd t).getD i (0, 0) = (σ.hd t).getD j (0, 0) then 1 else 0)
  else if k = 12 then (1, ((σ.nd (yo σ t i)).length : Int))
  else if k = 4 ∨ k = 5 ∨ k = 6 ∨ k = 7 ∨ k = 9 then pu σ k t i f n else (0, 0)
section
variable {w : World} {K : List Nat} {g : Nat} {cf : Nat → Int} {σ : Gs} {k c n : Int} {t i f j : Nat}
theorem cod_0 (h : cod σ k t i f j c n = 0) : wh σ k t = 0 ∧ nbc σ k c n = 0 := by
  unfold cod at h
  by_cases hw : wh σ k t = 0
  · refine ⟨hw, ?_⟩
    rw [if_neg (by simpa using hw)] at h
    by_cases hb : nbc σ k c n = 0
    · exact hb
    · rw [if_pos hb] at h; exact h
  · rw [if_pos hw] at h; exact absurd h hw
theorem cod_1 (h : cod σ k t i f j c n = 0) (h1 : 3 ≤ k) (h2 : k ≤ 12) : ((k = 9 ∨ k = 10 ∨ k = 12) → ob σ t i f (k != 12) = 0) ∧ (k = 10 → j < (σ.hd t).length) ∧ (k = 9 → (σ.hd t).length < 16) ∧ (k = 11 → i < (σ.hd t).length ∧ j < (σ.hd t).length) ∧ (k = 8 → 0 < (σ.hd t).length) ∧ (k = 7 → i < (σ.hd t).length) ∧ (k ≤ 7 → (σ.hd t).length < 16) := by
  obtain ⟨hw, hb⟩ := cod_0 h
  unfold cod at h
  rw [if_neg (by simpa using hw), if_neg (by simpa using hb), if_neg (by omega)] at h
  have hk' : k = 3 ∨ k = 4 ∨ k = 5 ∨ k = 6 ∨ k = 7 ∨ k = 8 ∨ k = 9 ∨ k = 10 ∨ k = 11 ∨ k = 12 := by omega
  generalize (σ.hd t).length = m at h ⊢
  rcases hk' with rfl | rfl | rfl | rfl | rfl | rfl | rfl | rfl | rfl | rfl <;> simp at h ⊢ <;> (try (generalize ob σ t i f _ = o at h ⊢)) <;> (repeat' split at h) <;> simp_all <;> omega
theorem ob_0 {b : Bool} (h : ob σ t i f b = 0) : i < (σ.hd t).length ∧ ((σ.hd t).getD i (0, 0)).1 = 2 ∧ (b = true → f < (σ.nd (yo σ t i)).length) := by
  unfold ob at h
  by_cases h1 : (σ.hd t).length ≤ i
  · rw [if_pos h1] at h; omega
  · rw [if_neg h1] at h
    by_cases h2 : ((σ.hd t).getD i (0, 0)).1 ≠ 2
    · rw [if_pos h2] at h; omega
    · rw [if_neg h2] at h
      refine ⟨by omega, by simpa using h2, fun hb => ?_⟩
      by_cases h3 : b = true ∧ (σ.nd ((σ.hd t).getD i (0, 0)).2.toNat).length ≤ f
      · rw [if_pos h3] at h; omega
      · exact Nat.lt_of_not_le (fun e => h3 ⟨hb, e⟩)
theorem wh_0 (h : wh σ k t = 0) (hk : k < 16) : t < σ.N ∧ (k = 1 → σ.lv t = false) ∧ (k ≠ 1 → σ.lv t = true) := by
  refine ⟨wh_lt h hk, fun e => ?_, fun e => ?_⟩
  · have ht := wh_lt h hk
    unfold wh at h
    rw [if_neg (by omega), if_neg (by omega), if_pos e] at h
    cases hl : σ.lv t with
    | false => rfl
    | true => rw [hl] at h; simp at h
  · have ht := wh_lt h hk
    unfold wh at h
    rw [if_neg (by omega), if_neg (by omega), if_neg e] at h
    cases hl : σ.lv t with
    | true => rfl
    | false => rw [hl] at h; simp at h
theorem nbc_0 (h : nbc σ k c n = 0) : nb σ k c n = false := by
  unfold nbc at h
  cases e : nb σ k c n with
  | false => rfl
  | true => rw [e] at h; simp at h
theorem Do_any (h : Gw w K g cf σ) (h1 : 1 ≤ k) (h2 : k ≤ 17) (hM : σ.M < 1000) (hc : cod σ k t i f j c n = 0) :
    Calls Tryd.prog 26 #[.pointer (some ⟨g, 0, none⟩), .agg #[.int .i64 k, .int .i64 (t : Int), .int .i64 (i : Int), .int .i64 (f : Int), .int .i64 (j : Int), .int .i64 c, .int .i64 n]] w
      fun e w' => e = Aw (an σ k t i f j n).1 (an σ k t i f j n).2 ∧ Gans w K g cf (ef σ k t i f j n) w' := by
  obtain ⟨hw, hb⟩ := cod_0 hc
  have ok := h.ok
  have hb' := nbc_0 hb
  rcases kinds h1 h2 with rfl | rfl | rfl | rfl | rfl | rfl | rfl | rfl | rfl | rfl | rfl | rfl | rfl | rfl | rfl | rfl | rfl
  · exact Do_1 h t i f j c n (wh_0 hw (by omega)).1
  · exact Do_2 h t i f j c n (wh_0 hw (by omega)).1
  · obtain ⟨ht, _, live⟩ := wh_0 hw (by omega)
    obtain ⟨_, _, _, _, _, _, hl⟩ := cod_1 hc (by omega) (by omega)
    have hn : 0 ≤ n ∧ n ≤ 127 := by
      simp [nb] at hb'
      omega
    obtain ⟨l, rfl⟩ := Int.eq_ofNat_of_zero_le hn.1
    have e : ((l : Int)).toNat = l := by omega
    have := Do_3 h t l i f j c ht (live (by omega)) (hl (by omega)) hM (by omega)
    show Calls _ _ _ _ (fun e w' => e = Aw 2 (σ.M : Int) ∧ Gans w K g cf { σ with M := σ.M + 1, nd := upd σ.nd σ.M (List.replicate ((l : Int)).toNat (0, 0)), hd := upd σ.hd t (σ.hd t ++ [(2, (σ.M : Int))]) } w')
    rw [e]
    exact this
  · obtain ⟨ht, _, live⟩ := wh_0 hw (by omega)
    obtain ⟨_, _, _, _, _, _, hl⟩ := cod_1 hc (by omega) (by omega)
    exact Do_4 h t i f j c n ht (live (by omega)) (hl (by omega)) (v1 := 1) (v2 := n) (fun e => by omega) (fun W hW => pushed_4 (h.new hW) t i f j c n ht)
  · obtain ⟨ht, _, live⟩ := wh_0 hw (by omega)
    obtain ⟨_, _, _, _, _, _, hl⟩ := cod_1 hc (by omega) (by omega)
    exact Do_5 h t i f j c n ht (live (by omega)) (hl (by omega)) (v1 := 0) (v2 := 0) (fun e => by omega) (fun W hW => pushed_5 (h.new hW) t i f j c n ht)
  · obtain ⟨ht, _, live⟩ := wh_0 hw (by omega)
    obtain ⟨_, _, _, _, _, _, hl⟩ := cod_1 hc (by omega) (by omega)
    exact Do_6 h t i f j c n ht (live (by omega)) (hl (by omega)) (v1 := 2) (v2 := 0) (fun e => by have := ok.m0; omega) (fun W hW => pushed_6 (h.new hW) t i f j c n ht)
  · obtain ⟨ht, _, live⟩ := wh_0 hw (by omega)
    obtain ⟨_, _, _, _, _, hi, hl⟩ := cod_1 hc (by omega) (by omega)
    have hi := hi rfl
    exact Do_7 h t i f j c n ht (live (by omega)) (hl (by omega)) (v1 := ((σ.hd t).getD i (0, 0)).1) (v2 := ((σ.hd t).getD i (0, 0)).2) (ok.hr t _ (va.getD_mem hi)) (fun W hW => pushed_7 (h.new hW) t i f j c n ht hi rfl)
  · obtain ⟨ht, _, live⟩ := wh_0 hw (by omega)
    obtain ⟨_, _, _, _, h8, _, _⟩ := cod_1 hc (by omega) (by omega)
    exact Do_8 h t i f j c n ht (live (by omega)) (h8 rfl) rfl
  · obtain ⟨ht, _, live⟩ := wh_0 hw (by omega)
    obtain ⟨ho, _, hl, _, _, _, _⟩ := cod_1 hc (by omega) (by omega)
    obtain ⟨hi, h2', hf⟩ := ob_0 (ho (by omega))
    have hr := ok.hr t _ (va.getD_mem hi) h2'
    have hf := hf rfl
    have hv : (σ.hd t).getD i (0, 0) = (2, ((yo σ t i : Nat) : Int)) := Prod.ext h2' (by show ((σ.hd t).getD i (0, 0)).2 = (((σ.hd t).getD i (0, 0)).2.toNat : Int); omega)
    have hy : yo σ t i < σ.M := by unfold yo; omega
    exact Do_9 h t i f j c n ht (live (by omega)) (hl rfl) (v1 := ((σ.nd (yo σ t i)).getD f (0, 0)).1) (v2 := ((σ.nd (yo σ t i)).getD f (0, 0)).2) (ok.nr _ _ hy (va.getD_mem hf)) (fun W hW => pushed_9 (h.new hW) t i f j c n ht hi hv hy hf rfl)
  · obtain ⟨ht, _, live⟩ := wh_0 hw (by omega)
    obtain ⟨ho, hj, _, _, _, _, _⟩ := cod_1 hc (by omega) (by omega)
    obtain ⟨hi, h2', hf⟩ := ob_0 (ho (by omega))
    have hr := ok.hr t _ (va.getD_mem hi) h2'
    have hv : (σ.hd t).getD i (0, 0) = (2, ((yo σ t i : Nat) : Int)) := Prod.ext h2' (by show ((σ.hd t).getD i (0, 0)).2 = (((σ.hd t).getD i (0, 0)).2.toNat : Int); omega)
    have hy : yo σ t i < σ.M := by unfold yo; omega
    exact Do_10 h t i f j c n ht (live (by omega)) hi hv hy (hf rfl) (hj rfl) (x1 := ((σ.hd t).getD j (0, 0)).1) (x2 := ((σ.hd t).getD j (0, 0)).2) rfl
  · obtain ⟨ht, _, live⟩ := wh_0 hw (by omega)
    obtain ⟨_, _, _, hij, _, _, _⟩ := cod_1 hc (by omega) (by omega)
    obtain ⟨hi, hj⟩ := hij rfl
    obtain ⟨x, hx⟩ : ∃ x, (σ.hd t).getD i (0, 0) = x := ⟨_, rfl⟩
    obtain ⟨y, hy⟩ : ∃ y, (σ.hd t).getD j (0, 0) = y := ⟨_, rfl⟩
    have ea : an σ 11 t i f j n = (1, if x = y then 1 else 0) := by
      show (1, if (σ.hd t).getD i (0, 0) = (σ.hd t).getD j (0, 0) then (1 : Int) else 0) = _
      rw [hx, hy]
    rw [ea]
    by_cases e1 : x.1 = y.1
    · by_cases e2 : x.2 = y.2
      · rw [if_pos (Prod.ext e1 e2)]
        exact Do_11a h t i f j c n ht (live (by omega)) hi hj (x1 := x.1) (x2 := x.2) (y1 := y.1) (y2 := y.2) hx hy ⟨e1, e2⟩
      · rw [if_neg (fun e => e2 (by rw [e]))]
        exact Do_11c h t i f j c n ht (live (by omega)) hi hj (x1 := x.1) (x2 := x.2) (y1 := y.1) (y2 := y.2) hx hy e1 (by simpa using e2)
    · rw [if_neg (fun e => e1 (by rw [e]))]
      exact Do_11b h t i f j c n ht (live (by omega)) hi hj (x1 := x.1) (x2 := x.2) (y1 := y.1) (y2 := y.2) hx hy (by simpa using e1)
  · obtain ⟨ht, _, live⟩ := wh_0 hw (by omega)
    obtain ⟨ho, _, _, _, _, _, _⟩ := cod_1 hc (by omega) (by omega)
    obtain ⟨hi, h2', _⟩ := ob_0 (ho (by omega))
    have hr := ok.hr t _ (va.getD_mem hi) h2'
    have hv : (σ.hd t).getD i (0, 0) = (2, ((yo σ t i : Nat) : Int)) := Prod.ext h2' (by show ((σ.hd t).getD i (0, 0)).2 = (((σ.hd t).getD i (0, 0)).2.toNat : Int); omega)
    have hy : yo σ t i < σ.M := by unfold yo; omega
    exact Do_12 h t i f j c n ht (live (by omega)) hi hv hy rfl
  · exact Do_13 h t i f j c n
  · exact Do_14 h t i f j c n
  · exact Do_15 h t i f j c n
  · exact Do_16 h t i f j c n
  · exact Do_17 h t i f j c n
end
end Go.Proofs.YtfhebjkoojodiaaDoor.gp
