/- Texts that this claim stands on. -/
import Derived.Test.YtfhebjkoojodiaaDoorQGqX
namespace Go.Proofs.YtfhebjkoojodiaaDoor.gq
open Go.ChangeShapes Go.WideShapes Go.ChangeAt Go.RowKit gen va cd gp
set_option linter.unusedVariables false
set_option linter.unusedSimpArgs false
set_option maxHeartbeats 2000000
set_option maxRecDepth 100000
theorem few_any (A : Option Addr) (n c : Nat) (w : World) (hc : n ≤ c) (hc2 : c ≤ maxLen) (hA : 0 < n → ∃ ad, A = some ad) :
    Calls Tryd.prog 10 #[.slice A n c] w fun e w' => (∃ l c', l ≤ 80 ∧ l ≤ n ∧ e = .returned (.slice A l c')) ∧ w = w' := by
  unfold maxLen at hc2
  by_cases hn : 80 < n
  · obtain ⟨ad, rfl⟩ := hA (by omega)
    clear hA
    have l1 : (80 : Int) ≤ c := by omega
    go_enter Tryd.func10, Tryd.ntmps10
    go_wp2
    all_goals
      go_ret
      exact ⟨⟨80, _, by omega, by omega, rfl⟩, rfl⟩
  · clear hA
    go_enter Tryd.func10, Tryd.ntmps10
    go_wp2
    go_ret
    exact ⟨⟨n, _, by omega, by omega, rfl⟩, rfl⟩
def Pr (w : World) (g h : Nat) (σ τ : Gs) (W : World) : Prop := ∃ K R tc A nc vs bs K2 R2 tc2 A2 nc2 vs2 bs2, PwI W K g σ R tc A nc vs bs ∧ PwI W K2 h τ R2 tc2 A2 nc2 vs2 bs2 ∧ (∀ k, k ∈ K → w.heap.size ≤ k) ∧ (∀ k, k ∈ K2 → w.heap.size ≤ k) ∧ (∀ k, k ∈ K → k ∉ K2) ∧ w.grownBy W none
def PrB (w : World) (g h : Nat) (σ τ : Gs) (p : Nat) (W : World) : Prop := ∃ K R tc A nc vs bs K2 R2 tc2 A2 nc2 vs2 bs2, PwI W K g σ R tc A nc vs bs ∧ PwI W K2 h τ R2 tc2 A2 nc2 vs2 bs2 ∧ (∀ k, k ∈ K → w.heap.size ≤ k) ∧ (∀ k, k ∈ K2 → w.heap.size ≤ k) ∧ (∀ k, k ∈ K → k ∉ K2) ∧ w.grownBy W none ∧ p ∉ K ∧ p ∉ K2
section
variable {w W W' : World} {g h : Nat} {σ τ σ' : Gs}
theorem Pr.new (p : Pr w g h σ τ W) (hg : W.grownBy W' none) : Pr w g h σ τ W' := by
  obtain ⟨K, R, tc, A, nc, vs, bs, K2, R2, tc2, A2, nc2, vs2, bs2, p1, p2, k1, k2, d, q⟩ := p
  exact ⟨K, R, tc, A, nc, vs, bs, K2, R2, tc2, A2, nc2, vs2, bs2, p1.new hg, p2.new hg, k1, k2, d, q.trans hg⟩
theorem Pr.grow (p : Pr w g h σ τ W) : w.grownBy W none := by
  obtain ⟨K, R, tc, A, nc, vs, bs, K2, R2, tc2, A2, nc2, vs2, bs2, p1, p2, k1, k2, d, q⟩ := p
  exact q
theorem Pr.swap (p : Pr w g h σ τ W) : Pr w h g τ σ W := by
  obtain ⟨K, R, tc, A, nc, vs, bs, K2, R2, tc2, A2, nc2, vs2, bs2, p1, p2, k1, k2, d, q⟩ := p
  exact ⟨K2, R2, tc2, A2, nc2, vs2, bs2, K, R, tc, A, nc, vs, bs, p2, p1, k2, k1, fun k h1 h2 => d k h2 h1, q⟩
theorem Pr.do_ (p : Pr w g h σ τ W) (hM : σ.M < 1000) {X : World} (hX : W.grownBy X none) (k t i f j c n no : Int) : Calls Tryd.prog 11 #[.pointer (some ⟨g, 0, none⟩), .agg #[.int .i64 k, .int .i64 t, .int .i64 i, .int .i64 f, .int .i64 j, .int .i64 c, .int .i64 n], .int .i64 no] X
    fun e w' => e = .returned (.agg #[.int .i64 (stz σ k t i f j c n no), .int .i64 (sta σ k t i f j c n no).1, .int .i64 (sta σ k t i f j c n no).2, .int .i64 0, .int .i64 0]) ∧ Pr w g h (stg σ k t i f j c n no) τ w' ∧ (∀ B w'', W.heap.size ≤ B → B < X.heap.size → gr.Gr [B] w' w'' → PrB w g h (stg σ k t i f j c n no) τ B w'') ∧ ∃ L, gr.Gr L X w' ∧ ∀ q, q ∈ L → w.heap.size ≤ q ∧ q < W.heap.size := by
  obtain ⟨K, R, tc, A, nc, vs, bs, K2, R2, tc2, A2, nc2, vs2, bs2, p1, p2, k1, k2, d, q⟩ := p
  have qs := q.size
  have xs := hX.size
  refine (Do_any (p1.new hX) k t i f j c n no hM).mono ?_
  rintro e w' ⟨rfl, K', A', nc', vs', bs', p', g', k'⟩
  have P2' := (p2.new hX).gr g' (fun x h1 h2 => d x h2 h1)
  have kk : ∀ x, x ∈ K' → w.heap.size ≤ x := fun x hx => by
    rcases k' x hx with e | e
    · exact k1 x e
    · omega
  have dd : ∀ x, x ∈ K' → x ∉ K2 := fun x hx h2 => by
    rcases k' x hx with e | e
    · exact d x e h2
    · have := p2.lt x h2; omega
  have GG := g'.grown (q.trans hX) k1
  refine ⟨rfl, ⟨K', R, tc, A', nc', vs', bs', K2, R2, tc2, A2, nc2, vs2, bs2, p', P2', kk, k2, dd, GG⟩, fun B w'' hB hB2 hg => ?_, K, g', fun x hx => ⟨k1 x hx, p1.lt x hx⟩⟩
  refine ⟨K', R, tc, A', nc', vs', bs', K2, R2, tc2, A2, nc2, vs2, bs2, p'.gr hg (fun x hx hm => ?_), P2'.gr hg (fun x hx hm => ?_), kk, k2, dd, hg.grown GG (fun x hx => by rw [List.mem_singleton] at hx; omega), fun hx => ?_, fun hx => by have := p2.lt _ hx; omega⟩
  · rw [List.mem_singleton] at hm
    rcases k' x hx with e | e
    · have := p1.lt x e; omega
    · omega
  · rw [List.mem_singleton] at hm
    have := p2.lt x hx
    omega
  · rcases k' B hx with e | e
    · have := p1.lt B e; omega
    · omega
def Vw (w : World) (σ : Gs) (B : Nat) (A1 : Option Addr) (n1 : Nat) (A2 : Option Addr) (n2 : Nat) : Prop := Vr w B A1 n1 (rts σ σ.N) ∧ Vn w B A2 n2 (vns σ) ∧ B ≤ w.heap.size
theorem Vw.far {B n1 n2 : Nat} {A1 A2 : Option Addr} (v : Vw W σ B A1 n1 A2 n2) (hg : W.grownBy W' none) : Vw W' σ B A1 n1 A2 n2 := ⟨v.1.far hg (by simp), v.2.1.far hg (by simp), Nat.le_trans v.2.2 hg.size⟩
theorem Pr.view (p : Pr w g h σ τ W) : Calls Tryd.prog 15 #[.pointer (some ⟨g, 0, none⟩)] W
    fun e w' => ∃ A1 n1 c1 A2 n2 c2, e = .returned (.agg #[.slice A1 n1 c1, .slice A2 n2 c2]) ∧ Vw w' σ w'.heap.size A1 n1 A2 n2 ∧ W.grownBy w' none := by
  obtain ⟨K, R, tc, A, nc, vs, bs, K2, R2, tc2, A2, nc2, vs2, bs2, p1, _⟩ := p
  refine (View_any p1).mono ?_
  rintro e w' ⟨A1, c1, A2, c2, rfl, h1, h2, hg⟩
  exact ⟨A1, _, c1, A2, _, c2, rfl, ⟨h1.vr (rts_length _ _).symm, h2.vn rfl, Nat.le_refl _⟩, hg⟩
theorem Pr.ok (p : Pr w g h σ τ W) : σ.Ok := by
  obtain ⟨K, R, tc, A, nc, vs, bs, K2, R2, tc2, A2, nc2, vs2, bs2, p1, _⟩ := p
  exact p1.ok
theorem vns_len (σ : Gs) : (vns σ).length ≤ σ.M := nds_length _ _ _
theorem rts_le {σ : Gs} (ok : σ.Ok) (i : Nat) : ((rts σ σ.N).getD i []).length ≤ 100000 := by
  rw [List.getD_eq_getElem?_getD]
  by_cases hi : i < σ.N
  · simp [rts, hi]
    have := ok.hl i
    omega
  · rw [List.getElem?_eq_none (by rw [rts_length]; omega)]
    simp
theorem vns_le {σ : Gs} (ok : σ.Ok) (i : Nat) : ((vns σ).getD i (0, [])).2.length ≤ 100000 := by
  rw [List.getD_eq_getElem?_getD]
  cases e : (vns σ)[i]? with
  | none => simp
  | some x =>
    have hm := List.mem_of_getElem? e
    unfold vns nds at hm
    obtain ⟨j, _, rfl⟩ := List.mem_map.1 hm
    have := ok.nl j
    show (σ.nd j).length ≤ 100000
    omega
theorem alike (ok : σ.Ok) {B1 n1 m1 c1 d1 B2 n2 m2 c2 d2 : Nat} {A1 N1 A2 N2 : Option Addr} (v : Vw W σ B1 A1 n1 N1 m1) (u : Vw W σ B2 A2 n2 N2 m2) :
    Calls Tryd.prog 14 #[.agg #[.slice A1 n1 c1, .slice N1 m1 d1], .agg #[.slice A2 n2 c2, .slice N2 m2 d2]] W fun e w' => e = .returned (.bool true) ∧ W.grownBy w' none :=
  View_true v.1 u.1 v.2.1 u.2.1 (by rw [rts_length]; have := ok.n; omega) (by have := vns_len σ; have := ok.m; omega) (rts_le ok) (vns_le ok) v.2.2 u.2.2
end
end Go.Proofs.YtfhebjkoojodiaaDoor.gq
