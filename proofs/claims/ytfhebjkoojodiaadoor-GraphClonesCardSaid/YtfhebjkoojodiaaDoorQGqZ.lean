/- Texts that this claim stands on. -/
import Derived.Test.YtfhebjkoojodiaaDoorQGqY
namespace Go.Proofs.YtfhebjkoojodiaaDoor.gq
open Go.ChangeShapes Go.WideShapes Go.ChangeAt Go.RowKit gen va cd gp
set_option linter.unusedVariables false
set_option linter.unusedSimpArgs false
set_option maxHeartbeats 2000000
set_option maxRecDepth 100000
theorem stg_M {σ : Gs} (k t i f j c n no : Int) : (stg σ k t i f j c n no).M ≤ σ.M + 1 := by
  unfold stg
  split
  · omega
  · unfold ef
    (repeat' split) <;> simp
def St7 (w : World) (b o : Nat) (k t i f j c n : Int) : Prop := w.cell? ⟨b, o, none⟩ = some (.int .i64 k) ∧ w.cell? ⟨b, o + 1, none⟩ = some (.int .i64 t) ∧ w.cell? ⟨b, o + 2, none⟩ = some (.int .i64 i) ∧ w.cell? ⟨b, o + 3, none⟩ = some (.int .i64 f) ∧ w.cell? ⟨b, o + 4, none⟩ = some (.int .i64 j) ∧ w.cell? ⟨b, o + 5, none⟩ = some (.int .i64 c) ∧ w.cell? ⟨b, o + 6, none⟩ = some (.int .i64 n)
theorem St7.gr {w w' : World} {L : List Nat} {b o : Nat} {k t i f j c n : Int} (h : St7 w b o k t i f j c n) (hg : gr.Gr L w w') (hL : b ∉ L) : St7 w' b o k t i f j c n := ⟨hg.cell h.1 hL, hg.cell h.2.1 hL, hg.cell h.2.2.1 hL, hg.cell h.2.2.2.1 hL, hg.cell h.2.2.2.2.1 hL, hg.cell h.2.2.2.2.2.1 hL, hg.cell h.2.2.2.2.2.2 hL⟩
theorem St7.new {w w' : World} {b o : Nat} {k t i f j c n : Int} (h : St7 w b o k t i f j c n) (hg : w.grownBy w' none) : St7 w' b o k t i f j c n := h.gr (L := []) (.new hg) (by simp)
theorem steps_at {w : World} {B : Nat} {A : Option Addr} {n : Nat} {f : Nat → Nat → Int} (h : Rws w B A n 7 f) {i : Nat} (hi : i < n) : ∃ b off, A = some ⟨b, off, none⟩ ∧ b < B ∧ St7 w b (off + i * 7) (f i 0) (f i 1) (f i 2) (f i 3) (f i 4) (f i 5) (f i 6) := by
  obtain ⟨b, off, e, hb, hc, _⟩ := h i hi
  exact ⟨b, off, e, hb, hc 0 (by omega), hc 1 (by omega), hc 2 (by omega), hc 3 (by omega), hc 4 (by omega), hc 5 (by omega), hc 6 (by omega)⟩
section
variable (c0 c2 q c4 c5 c6 c7 c8 c9 : Int)
theorem two_new {w W1 W2 W3 : World} {K K2 : List Nat} {g h : Nat} {σ : Gs} {R tc : Nat} {A : Option Addr} {nc : Nat} {vs : Nat → Value} {bs : Nat → Nat} {R2 tc2 : Nat} {A2 : Option Addr} {nc2 : Nat} {vs2 : Nat → Value} {bs2 : Nat → Nat} (h1 : w.grownBy W1 none) (p1 : PwI W2 K g σ R tc A nc vs bs) (k1 : ∀ k, k ∈ K → W1.heap.size ≤ k) (g1 : W1.grownBy W2 none) (p2 : PwI W3 K2 h σ R2 tc2 A2 nc2 vs2 bs2) (k2 : ∀ k, k ∈ K2 → W2.heap.size ≤ k) (g2 : W2.grownBy W3 none) : Pr w g h σ σ W3 :=
  ⟨K, R, tc, A, nc, vs, bs, K2, R2, tc2, A2, nc2, vs2, bs2, p1.new g2, p2, fun k hk => Nat.le_trans h1.size (k1 k hk), fun k hk => Nat.le_trans h1.size (Nat.le_trans g1.size (k2 k hk)), fun k hk hk2 => by have := p1.lt k hk; have := k2 k hk2; omega, (h1.trans g1).trans g2⟩
end
end Go.Proofs.YtfhebjkoojodiaaDoor.gq
