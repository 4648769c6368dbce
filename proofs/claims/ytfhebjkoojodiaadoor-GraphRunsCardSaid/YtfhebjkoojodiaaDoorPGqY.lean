/- Texts that this claim stands on. -/
import Derived.Test.YtfhebjkoojodiaaDoorPGqX
import Derived.Test.YtfhebjkoojodiaaDoorPGsA
namespace Go.Proofs.YtfhebjkoojodiaaDoor.gq
open Go.ChangeShapes Go.WideShapes Go.ChangeAt Go.RowKit gen va cd gp
set_option linter.unusedVariables false
set_option linter.unusedSimpArgs false
set_option maxHeartbeats 2000000
set_option maxRecDepth 100000
theorem few_any (A : Option Addr) (n c : Nat) (w : World) (hc : n ≤ c) (hc2 : c ≤ maxLen) (hA : 0 < n → ∃ ad, A = some ad) :
    Calls Tryd.prog 10 #[.slice A n c] w fun e w' => (∃ l c', l ≤ 80 ∧ l ≤ n ∧ e = .returned (.slice A l c')) ∧ w = w' := by
  unfold maxLen at hc2
  by_cases hn : 80 < n
  · obtain ⟨ad, rfl⟩ := hA (by omega)
    clear hA
    have l1 : (80 : Int) ≤ c := by omega
    go_enter Tryd.func10, Tryd.ntmps10
    go_wp2
    all_goals
      go_ret
      exact ⟨⟨80, _, by omega, by omega, rfl⟩, rfl⟩
  · clear hA
    go_enter Tryd.func10, Tryd.ntmps10
    go_wp2
    go_ret
    exact ⟨⟨n, _, by omega, by omega, rfl⟩, rfl⟩
theorem code_any {w : World} {B n c : Nat} {A : Option Addr} {xs : List Int} (h : Rd w B A n c xs) (i : Nat) : Calls Tryd.prog 12 #[.slice A n c, .int .i64 (i : Int)] w fun e w' => e = .returned (.int .i64 (xs.getD i 0)) ∧ w = w' := by
  have hl := h.1
  by_cases hi : i < n
  · have l1 : (0 : Int) ≤ (i : Int) := by omega
    have l2 : (i : Int) < (n : Int) := by omega
    obtain ⟨b, off, rfl, q0⟩ := h.at_ hi
    obtain ⟨x, hx⟩ : ∃ x, xs.getD i 0 = x := ⟨_, rfl⟩
    rw [hx] at q0 ⊢
    clear h hx hl
    go_enter Tryd.func12, Tryd.ntmps12
    go_wp2
    go_ret
    exact ⟨rfl, rfl⟩
  · have e : xs.getD i 0 = 0 := by rw [List.getD_eq_getElem?_getD, List.getElem?_eq_none (by omega)]; rfl
    rw [e]
    have l2 : ¬ (i : Int) < (n : Int) := by omega
    clear h e hl
    go_enter Tryd.func12, Tryd.ntmps12
    go_wp2
    go_ret
    exact ⟨rfl, rfl⟩
section
variable {w W W' : World} {g h : Nat} {σ τ σ' : Gs}
def Vw (w : World) (σ : Gs) (B : Nat) (A1 : Option Addr) (n1 : Nat) (A2 : Option Addr) (n2 : Nat) : Prop := Vr w B A1 n1 (rts σ σ.N) ∧ Vn w B A2 n2 (vns σ) ∧ B ≤ w.heap.size
theorem Vw.far {B n1 n2 : Nat} {A1 A2 : Option Addr} (v : Vw W σ B A1 n1 A2 n2) (hg : W.grownBy W' none) : Vw W' σ B A1 n1 A2 n2 := ⟨v.1.far hg (by simp), v.2.1.far hg (by simp), Nat.le_trans v.2.2 hg.size⟩
theorem vns_len (σ : Gs) : (vns σ).length ≤ σ.M := nds_length _ _ _
theorem rts_le {σ : Gs} (ok : σ.Ok) (i : Nat) : ((rts σ σ.N).getD i []).length ≤ 100000 := by
  rw [List.getD_eq_getElem?_getD]
  by_cases hi : i < σ.N
  · simp [rts, hi]
    have := ok.hl i
    omega
  · rw [List.getElem?_eq_none (by rw [rts_length]; omega)]
    simp
theorem vns_le {σ : Gs} (ok : σ.Ok) (i : Nat) : ((vns σ).getD i (0, [])).2.length ≤ 100000 := by
  rw [List.getD_eq_getElem?_getD]
  cases e : (vns σ)[i]? with
  | none => simp
  | some x =>
    have hm := List.mem_of_getElem? e
    unfold vns nds at hm
    obtain ⟨j, _, rfl⟩ := List.mem_map.1 hm
    have := ok.nl j
    show (σ.nd j).length ≤ 100000
    omega
theorem alike (ok : σ.Ok) {B1 n1 m1 c1 d1 B2 n2 m2 c2 d2 : Nat} {A1 N1 A2 N2 : Option Addr} (v : Vw W σ B1 A1 n1 N1 m1) (u : Vw W σ B2 A2 n2 N2 m2) :
    Calls Tryd.prog 14 #[.agg #[.slice A1 n1 c1, .slice N1 m1 d1], .agg #[.slice A2 n2 c2, .slice N2 m2 d2]] W fun e w' => e = .returned (.bool true) ∧ W.grownBy w' none :=
  View_true v.1 u.1 v.2.1 u.2.1 (by rw [rts_length]; have := ok.n; omega) (by have := vns_len σ; have := ok.m; omega) (rts_le ok) (vns_le ok) v.2.2 u.2.2
end
end Go.Proofs.YtfhebjkoojodiaaDoor.gq
namespace Go.Proofs.YtfhebjkoojodiaaDoor.gq
open Go.ChangeShapes Go.WideShapes Go.ChangeAt Go.RowKit gen va cd gp
set_option linter.unusedVariables false
set_option linter.unusedSimpArgs false
set_option maxHeartbeats 2000000
set_option maxRecDepth 100000
def Pq (w : World) (g m : Nat) (cf : Nat → Int) (σ τ : Gs) (W : World) : Prop := ∃ K R tc A nc vs bs K2, PwI W K g σ R tc A nc vs bs ∧ Gw W K2 m cf τ ∧ (∀ k, k ∈ K → w.heap.size ≤ k) ∧ (∀ k, k ∈ K2 → w.heap.size ≤ k) ∧ (∀ k, k ∈ K → k ∉ K2) ∧ w.grownBy W none
section
variable {w W W' : World} {g m : Nat} {cf : Nat → Int} {σ τ : Gs}
theorem Pq.new (p : Pq w g m cf σ τ W) (hg : W.grownBy W' none) : Pq w g m cf σ τ W' := by
  obtain ⟨K, R, tc, A, nc, vs, bs, K2, p1, p2, k1, k2, d, q⟩ := p
  exact ⟨K, R, tc, A, nc, vs, bs, K2, p1.new hg, p2.new hg, k1, k2, d, q.trans hg⟩
theorem Pq.grow (p : Pq w g m cf σ τ W) : w.grownBy W none := by
  obtain ⟨K, R, tc, A, nc, vs, bs, K2, p1, p2, k1, k2, d, q⟩ := p
  exact q
theorem Pq.ok (p : Pq w g m cf σ τ W) : σ.Ok := by
  obtain ⟨K, R, tc, A, nc, vs, bs, K2, p1, _⟩ := p
  exact p1.ok
theorem Pq.do_ (p : Pq w g m cf σ τ W) (hM : σ.M < 1000) (k t i f j c n no : Int) : Calls Tryd.prog 11 #[.pointer (some ⟨g, 0, none⟩), .agg #[.int .i64 k, .int .i64 t, .int .i64 i, .int .i64 f, .int .i64 j, .int .i64 c, .int .i64 n], .int .i64 no] W
    fun e w' => e = .returned (.agg #[.int .i64 (stz σ k t i f j c n no), .int .i64 (sta σ k t i f j c n no).1, .int .i64 (sta σ k t i f j c n no).2, .int .i64 0, .int .i64 0]) ∧ Pq w g m cf (stg σ k t i f j c n no) τ w' ∧ ∃ L, gr.Gr L W w' ∧ ∀ q, q ∈ L → w.heap.size ≤ q := by
  obtain ⟨K, R, tc, A, nc, vs, bs, K2, p1, p2, k1, k2, d, q⟩ := p
  have qs := q.size
  refine (Do_any p1 k t i f j c n no hM).mono ?_
  rintro e w' ⟨rfl, K', A', nc', vs', bs', p', g', k'⟩
  refine ⟨rfl, ⟨K', R, tc, A', nc', vs', bs', K2, p', p2.gr g' (fun x h1 h2 => d x h2 h1), fun x hx => ?_, k2, fun x hx h2 => ?_, g'.grown q k1⟩, K, g', k1⟩
  · rcases k' x hx with e | e
    · exact k1 x e
    · omega
  · rcases k' x hx with e | e
    · exact d x e h2
    · have := p2.lt x h2; omega
theorem Pq.step (p : Pq w g m cf σ τ W) (hM : τ.M < 1000) (k t i f j c n no : Int) : Calls Tryd.prog 13 #[.pointer (some ⟨m, 0, none⟩), .agg #[.int .i64 k, .int .i64 t, .int .i64 i, .int .i64 f, .int .i64 j, .int .i64 c, .int .i64 n], .int .i64 no] W
    fun e w' => e = .returned (.agg #[.int .i64 (stz τ k t i f j c n no), .int .i64 (sta τ k t i f j c n no).1, .int .i64 (sta τ k t i f j c n no).2, .int .i64 0, .int .i64 0]) ∧ Pq w g m cf σ (stg τ k t i f j c n no) w' ∧ ∃ L, gr.Gr L W w' ∧ ∀ q, q ∈ L → w.heap.size ≤ q := by
  obtain ⟨K, R, tc, A, nc, vs, bs, K2, p1, p2, k1, k2, d, q⟩ := p
  have qs := q.size
  refine (Step_any p2 k t i f j c n no hM).mono ?_
  rintro e w' ⟨rfl, K', p', g', k'⟩
  refine ⟨rfl, ⟨K, R, tc, A, nc, vs, bs, K', p1.gr g' (fun x h1 h2 => d x h1 h2), p', k1, fun x hx => ?_, fun x hx h2 => ?_, g'.grown q k2⟩, K2, g', k2⟩
  · rcases k' x hx with e | e
    · exact k2 x e
    · omega
  · rcases k' x h2 with e | e
    · exact d x hx e
    · have := p1.lt x hx; omega
theorem Pq.made (p : Pq w g m cf σ τ W) : Calls Tryd.prog 17 #[.pointer (some ⟨g, 0, none⟩)] W fun e w' => e = .returned (.int .i64 (σ.M : Int)) ∧ W = w' := by
  obtain ⟨K, R, tc, A, nc, vs, bs, K2, p1, _⟩ := p
  exact Made_yes p1
theorem Pq.c11 (p : Pq w g m cf σ τ W) : ∃ B c, W.cell? ⟨m, 11, none⟩ = some (.slice B τ.M c) := by
  obtain ⟨K, R, tc, A, nc, vs, bs, K2, p1, p2, _⟩ := p
  obtain ⟨R2, A2, nc2, vs2, bs2, h⟩ := p2
  exact ⟨_, _, h.c11⟩
theorem Pq.view (p : Pq w g m cf σ τ W) : Calls Tryd.prog 15 #[.pointer (some ⟨g, 0, none⟩)] W
    fun e w' => ∃ A1 n1 c1 A2 n2 c2, e = .returned (.agg #[.slice A1 n1 c1, .slice A2 n2 c2]) ∧ Vw w' σ w'.heap.size A1 n1 A2 n2 ∧ W.grownBy w' none := by
  obtain ⟨K, R, tc, A, nc, vs, bs, K2, p1, _⟩ := p
  refine (View_any p1).mono ?_
  rintro e w' ⟨A1, c1, A2, c2, rfl, h1, h2, hg⟩
  exact ⟨A1, _, c1, A2, _, c2, rfl, ⟨h1.vr (rts_length _ _).symm, h2.vn rfl, Nat.le_refl _⟩, hg⟩
theorem Pq.rview (p : Pq w g m cf σ τ W) : Calls Tryd.prog 16 #[.pointer (some ⟨m, 0, none⟩)] W
    fun e w' => ∃ A1 n1 c1 A2 n2 c2, e = .returned (.agg #[.slice A1 n1 c1, .slice A2 n2 c2]) ∧ Vw w' τ w'.heap.size A1 n1 A2 n2 ∧ W.grownBy w' none := by
  obtain ⟨K, R, tc, A, nc, vs, bs, K2, p1, p2, _⟩ := p
  refine (rview_any p2).mono ?_
  rintro e w' ⟨A1, c1, A2, c2, rfl, h1, h2, hg⟩
  exact ⟨A1, _, c1, A2, _, c2, rfl, ⟨h1.vr (rts_length _ _).symm, h2.vn rfl, Nat.le_refl _⟩, hg⟩
theorem Pq.start {W1 W2 W3 : World} {K K2 : List Nat} {R tc : Nat} {A : Option Addr} {nc : Nat} {vs : Nat → Value} {bs : Nat → Nat} (h1 : w.grownBy W1 none) (p1 : PwI W2 K g σ R tc A nc vs bs) (k1 : ∀ k, k ∈ K → W1.heap.size ≤ k) (g1 : W1.grownBy W2 none) (g2 : W2.grownBy W3 none) (p2 : Gw W' K2 m cf τ) (k2 : ∀ k, k ∈ K2 → W3.heap.size ≤ k) (g3 : W3.grownBy W' none) : Pq w g m cf σ τ W' :=
  ⟨K, R, tc, A, nc, vs, bs, K2, (p1.new g2).new g3, p2, fun k hk => Nat.le_trans h1.size (k1 k hk), fun k hk => Nat.le_trans h1.size (Nat.le_trans g1.size (Nat.le_trans g2.size (k2 k hk))), fun k hk hk2 => by have := (p1.new g2).lt k hk; have := k2 k hk2; omega, ((h1.trans g1).trans g2).trans g3⟩
end
end Go.Proofs.YtfhebjkoojodiaaDoor.gq
namespace Go.Proofs.YtfhebjkoojodiaaDoor.gq
open Go.ChangeShapes Go.WideShapes Go.ChangeAt Go.RowKit gen va cd gp
set_option linter.unusedVariables false
set_option linter.unusedSimpArgs false
set_option maxHeartbeats 2000000
set_option maxRecDepth 100000
theorem stg_M {σ : Gs} (k t i f j c n no : Int) : (stg σ k t i f j c n no).M ≤ σ.M + 1 := by
  unfold stg
  split
  · omega
  · unfold ef
    (repeat' split) <;> simp
def St7 (w : World) (b o : Nat) (k t i f j c n : Int) : Prop := w.cell? ⟨b, o, none⟩ = some (.int .i64 k) ∧ w.cell? ⟨b, o + 1, none⟩ = some (.int .i64 t) ∧ w.cell? ⟨b, o + 2, none⟩ = some (.int .i64 i) ∧ w.cell? ⟨b, o + 3, none⟩ = some (.int .i64 f) ∧ w.cell? ⟨b, o + 4, none⟩ = some (.int .i64 j) ∧ w.cell? ⟨b, o + 5, none⟩ = some (.int .i64 c) ∧ w.cell? ⟨b, o + 6, none⟩ = some (.int .i64 n)
theorem St7.gr {w w' : World} {L : List Nat} {b o : Nat} {k t i f j c n : Int} (h : St7 w b o k t i f j c n) (hg : gr.Gr L w w') (hL : b ∉ L) : St7 w' b o k t i f j c n := ⟨hg.cell h.1 hL, hg.cell h.2.1 hL, hg.cell h.2.2.1 hL, hg.cell h.2.2.2.1 hL, hg.cell h.2.2.2.2.1 hL, hg.cell h.2.2.2.2.2.1 hL, hg.cell h.2.2.2.2.2.2 hL⟩
theorem St7.new {w w' : World} {b o : Nat} {k t i f j c n : Int} (h : St7 w b o k t i f j c n) (hg : w.grownBy w' none) : St7 w' b o k t i f j c n := h.gr (L := []) (.new hg) (by simp)
theorem steps_at {w : World} {B : Nat} {A : Option Addr} {n : Nat} {f : Nat → Nat → Int} (h : Rws w B A n 7 f) {i : Nat} (hi : i < n) : ∃ b off, A = some ⟨b, off, none⟩ ∧ b < B ∧ St7 w b (off + i * 7) (f i 0) (f i 1) (f i 2) (f i 3) (f i 4) (f i 5) (f i 6) := by
  obtain ⟨b, off, e, hb, hc, _⟩ := h i hi
  exact ⟨b, off, e, hb, hc 0 (by omega), hc 1 (by omega), hc 2 (by omega), hc 3 (by omega), hc 4 (by omega), hc 5 (by omega), hc 6 (by omega)⟩
section
variable (c0 c2 q c4 c5 c6 c7 c8 c9 : Int)
end
end Go.Proofs.YtfhebjkoojodiaaDoor.gq
