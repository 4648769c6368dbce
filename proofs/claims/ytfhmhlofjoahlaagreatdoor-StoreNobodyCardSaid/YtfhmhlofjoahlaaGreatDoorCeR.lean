/- Each call on a heap of cells that is whole leaves one that is whole. -/
import Derived.Test.YtfhmhlofjoahlaaGreatDoorCeY
namespace Go.Proofs.YtfhmhlofjoahlaaGreatDoor.ce
open Go.ChangeShapes Go.WideShapes Go.ChangeAt Go.RowKit gen calls cls geos
set_option linter.unusedVariables false
/-- A heap that is whole. -/
def Cs (c h g r m q s : Nat) (w : World) : Prop := ∃ ks xs cs ws fr, Hp w c h g r m q s ks xs cs ws ∧ Ok ks xs cs (bm.nums ws) fr
/-- What a call leaves. -/
def Stays (c h g r m q s : Nat) (w : World) (e : Ending) (w' : World) : Prop := ∃ v, e = .returned v ∧ Cs c h g r m q s w' ∧ Gr [h, r, q, s] w w'
section
variable {w w' : World} {c h g r m q s : Nat} {ks xs cs : List Int} {ws : List Nat} {fr : Nat → List Int}
theorem Stays.did {v : Value} {ks' xs' cs' tk' : List Int} {fr' : Nat → List Int} {e : Ending} (O : Ok ks' xs' cs' tk' fr') (h1 : Did v c h g r m q s ks' xs' cs' tk' w e w') : Stays c h g r m q s w e w' := by
  obtain ⟨ws', he, hh, hx, hg⟩ := h1
  exact ⟨v, he, ⟨_, _, _, _, _, hh, hx ▸ O⟩, hg⟩
theorem Stays.same {v : Value} {e : Ending} (H : Hp w c h g r m q s ks xs cs ws) (O : Ok ks xs cs (bm.nums ws) fr) (he : e = .returned v) (hg : w.grownBy w' none) : Stays c h g r m q s w e w' :=
  ⟨v, he, ⟨_, _, _, _, _, H.new hg, O⟩, .new hg⟩
theorem kind_dec (ks : List Int) (p : Int) : (1 ≤ pg.kind ks p ∧ pg.kind ks p ≤ 4) ∨ ¬ (1 ≤ pg.kind ks p ∧ pg.kind ks p ≤ 4) := Decidable.em _
theorem ln_fits (O : Ok ks xs cs (bm.nums ws) fr) (p : Int) : fits (ln ks cs p) = true ∧ (¬ (1 ≤ pg.kind ks p ∧ pg.kind ks p ≤ 4) → ln ks cs p = 0) := by
  refine ⟨?_, ln_no⟩
  rcases kind_dec ks p with h | h
  · obtain ⟨P, rfl, _, _⟩ := there O.few (z := p) (by omega)
    obtain ⟨_, h2, h3⟩ := O.told h
    rw [h2]; simp [fits]; omega
  · rw [ln_no h]; rfl
theorem Carve_cs (C : Cs c h g r m q s w) (k : Int) (hk : fits k = true) : Calls Tryz.prog 81 #[.pointer (some ⟨c, 0, none⟩), .int .i64 k] w (Stays c h g r m q s w) := by
  obtain ⟨ks, xs, cs, ws, fr, H, O⟩ := C
  by_cases h1 : 1 ≤ k ∧ k ≤ 4
  · cases hf : pg.find 1 0 ks with
    | none => exact (Carve_no H k hk fun _ => hf).mono fun e w' ⟨h1, h2⟩ => .same H O h1 h2
    | some p =>
      obtain ⟨z, n, e1, e2, _⟩ := ch.sz_cl h1.1 h1.2
      exact (Carve_yes H k h1 hf O.len e1 e2).mono fun e w' he => .did (O.carve h1 hf e1 e2) he
  · exact (Carve_no H k hk fun h => absurd h h1).mono fun e w' ⟨h1, h2⟩ => .same H O h1 h2
/-- A page's next free cell: its address. -/
theorem take_at (O : Ok ks xs cs (bm.nums ws) fr) {p : Nat} {f : Int} {rest : List Int} (hk : 1 ≤ pg.kind ks p ∧ pg.kind ks p ≤ 4) (hfr : fr p = f :: rest) :
    ∃ a z : Nat, (a : Int) = p * 32 + f * sz (pg.kind ks p) ∧ sz (pg.kind ks p) = z ∧ ata p (pg.kind ks p) f = a ∧ p < 64 ∧ a + z ≤ 2048 ∧ 0 < z := by
  obtain ⟨P, eP, p64, pl⟩ := there O.few (z := (p : Int)) (by omega)
  obtain ⟨_, _, d1⟩ := O.tkt hk hfr
  have r := room d1.1 d1.2
  have h0 := Int.mul_nonneg d1.1 (Int.le_of_lt r.1)
  refine ⟨((p : Int) * 32 + f * sz (pg.kind ks p)).toNat, (sz (pg.kind ks p)).toNat, by omega, by omega, ?_, by omega, by omega, by omega⟩
  unfold ata
  rw [if_pos (atk_iff.mpr ⟨by omega, by omega, d1⟩)]
  omega
theorem Take_yes' (H : Hp w c h g r m q s ks xs cs ws) (O : Ok ks xs cs (bm.nums ws) fr) {p a z : Nat} {f : Int} {rest : List Int} (hk : 1 ≤ pg.kind ks p ∧ pg.kind ks p ≤ 4) (hfr : fr p = f :: rest) (ha : (a : Int) = p * 32 + f * sz (pg.kind ks p)) (hz : sz (pg.kind ks p) = z) (hat : ata p (pg.kind ks p) f = a) :
    Calls Tryz.prog 43 #[.pointer (some ⟨c, 0, none⟩), .int .i64 p] w (Did (.tuple #[.int .i64 a, .bool true]) c h g r m q s ks (mm.fillN xs a 0 z) (cput cs p (ch.lk xs p (pg.kind ks p) f) (cn cs p - 1)) (bm.rising (bm.nums ws ++ [(a : Int)])) w) := by
  obtain ⟨t1, t2, _⟩ := O.tkt hk hfr
  obtain ⟨u1, u2, u3⟩ := O.told hk
  have c2 := (O.chn p hk.1 hk.2).2
  rw [c2]
  exact Take_some H O.kds O.bd p rfl (by rw [u1, t2]) u2 (by simp [fits]; omega) t1 hat hz (O.take hk hfr ha hz).2
theorem Take_no' (H : Hp w c h g r m q s ks xs cs ws) (O : Ok ks xs cs (bm.nums ws) fr) (p : Int) (hp : fits p = true) (hno : 1 ≤ pg.kind ks p ∧ pg.kind ks p ≤ 4 → fr p.toNat = []) :
    Calls Tryz.prog 43 #[.pointer (some ⟨c, 0, none⟩), .int .i64 p] w fun e w' => e = rI 0 false ∧ w.grownBy w' none := by
  refine Take_none H O.kds O.bd p hp (ln_fits O p).1 ?_
  rcases kind_dec ks p with h | h
  · obtain ⟨P, rfl, _, _⟩ := there O.few (z := p) (by omega)
    obtain ⟨_, u2, _⟩ := O.told h
    have := hno h
    rw [Int.toNat_natCast] at this
    rw [u2, this]
    exact ch.tk_no fun h => by simp at h
  · exact tk_none h _ _
theorem Take_cs (C : Cs c h g r m q s w) (p : Int) (hp : fits p = true) : Calls Tryz.prog 43 #[.pointer (some ⟨c, 0, none⟩), .int .i64 p] w (Stays c h g r m q s w) := by
  obtain ⟨ks, xs, cs, ws, fr, H, O⟩ := C
  by_cases hno : 1 ≤ pg.kind ks p ∧ pg.kind ks p ≤ 4 → fr p.toNat = []
  · exact (Take_no' H O p hp hno).mono fun e w' ⟨h1, h2⟩ => .same H O h1 h2
  · have hk : 1 ≤ pg.kind ks p ∧ pg.kind ks p ≤ 4 := Decidable.byContradiction fun hn => hno fun h => absurd h hn
    obtain ⟨P, rfl, _, _⟩ := there O.few (z := p) (by omega)
    rw [Int.toNat_natCast] at hno
    cases hfr : fr P with
    | nil => exact absurd (fun _ => hfr) hno
    | cons f rest =>
      obtain ⟨a, z, e1, e2, e3, _⟩ := take_at O hk hfr
      exact (Take_yes' H O hk hfr e1 e2 e3).mono fun e w' he => .did (O.take hk hfr e1 e2).1 he
theorem Large_cs (C : Cs c h g r m q s w) (n : Int) : Calls Tryz.prog 78 #[.pointer (some ⟨c, 0, none⟩), .int .i64 n] w (Stays c h g r m q s w) := by
  obtain ⟨ks, xs, cs, ws, fr, H, O⟩ := C
  by_cases h1 : 1 ≤ n
  · obtain ⟨N, rfl⟩ : ∃ N : Nat, n = N := ⟨n.toNat, by omega⟩
    cases hf : pg.find N 0 ks with
    | none => exact (Large_no H N fun _ => hf).mono fun e w' ⟨h1, h2⟩ => .same H O h1 h2
    | some p =>
      have O' := O.large (n := N) (by omega) hf rfl rfl
      exact (Large_yes H N (by omega) hf O.len rfl rfl O'.2).mono fun e w' he => .did O'.1 he
  · exact (Large_no H n fun h => absurd h h1).mono fun e w' ⟨h1, h2⟩ => .same H O h1 h2
/-- What is taken, and its page. -/
theorem tkn_at (O : Ok ks xs cs (bm.nums ws) fr) {a : Int} (ha : a ∈ bm.nums ws) : ∃ A P : Nat, a = A ∧ (A : Int) / 32 = P ∧ pgOf A = P ∧ P < 64 ∧ P < ks.length ∧ ((pg.kind ks P = 5 ∧ (A : Int) % 32 = 0) ∨ ((1 ≤ pg.kind ks P ∧ pg.kind ks P ≤ 4) ∧ (A : Int) % sz (pg.kind ks P) = 0)) := by
  have hin := bz_in O ha
  have hp := bz_pos O ha
  have hl := O.len
  have hf := O.few
  obtain ⟨A, rfl⟩ : ∃ A : Nat, a = A := ⟨a.toNat, by omega⟩
  obtain ⟨P, hP⟩ : ∃ P : Nat, (A : Int) / 32 = P := ⟨A / 32, by omega⟩
  have e : pgOf (A : Int) = P := by rw [pgOf_yes (by omega) (by omega), hP]
  refine ⟨A, P, rfl, hP, e, by omega, by omega, ?_⟩
  rcases (O.tkn A).1 ha with ⟨h1, h2⟩ | ⟨h1, h2, _⟩
  · rw [hP] at h1; exact .inl ⟨h1, h2⟩
  · rw [hP] at h1 h2; exact .inr ⟨h1, h2⟩
theorem Give_large' (H : Hp w c h g r m q s ks xs cs ws) (O : Ok ks xs cs (bm.nums ws) fr) {a P : Nat} (ha : (a : Int) ∈ bm.nums ws) (hP : pgOf a = P) (hk : pg.kind ks P = 5) :
    Calls Tryz.prog 29 #[.pointer (some ⟨c, 0, none⟩), .int .i64 a] w (Did (.bool true) c h g r m q s (pg.fillN ks P 0 (pg.siz ks P).toNat) xs cs ((bm.nums ws).filter fun y => decide (y ≠ (a : Int))) w) :=
  Give_large H O.kds a P ha hP (by rw [hk]; exact cek_no fun h => absurd h.1 (by decide))
theorem Give_cell' (H : Hp w c h g r m q s ks xs cs ws) (O : Ok ks xs cs (bm.nums ws) fr) {a P : Nat} {i : Int} (ha : (a : Int) ∈ bm.nums ws) (hP : pgOf a = P) (hP2 : (a : Int) / 32 = P) (p64 : P < 64) (hk : 1 ≤ pg.kind ks P ∧ pg.kind ks P ≤ 4) (hm : (a : Int) % sz (pg.kind ks P) = 0) (hi : (a : Int) % 32 / sz (pg.kind ks P) = i) :
    Calls Tryz.prog 29 #[.pointer (some ⟨c, 0, none⟩), .int .i64 a] w (Did (.bool true) c h g r m q s ks (xs.set a (-1 - cf cs P)) (cput cs P i (cn cs P + 1)) ((bm.nums ws).filter fun y => decide (y ≠ (a : Int))) w) := by
  obtain ⟨O', gv, ea⟩ := O.gone_cell ha hP2 hk hi
  have hs : sz (pg.kind ks P) ≠ 0 := by rcases small_of hk with e | e | e | e <;> rw [e] <;> decide
  have ck : cek (pg.kind ks P) a = true := cek_iff.mpr ⟨hs, by omega, by omega, hm⟩
  refine Give_cell H O.kds a P i ha hP p64 ck ?_ ea gv
  unfold cei
  rw [if_pos ck]
  exact hi
theorem Give_cs (C : Cs c h g r m q s w) (a : Int) : Calls Tryz.prog 29 #[.pointer (some ⟨c, 0, none⟩), .int .i64 a] w (Stays c h g r m q s w) := by
  obtain ⟨ks, xs, cs, ws, fr, H, O⟩ := C
  by_cases ha : a ∈ bm.nums ws
  · obtain ⟨A, P, rfl, hP, hp, p64, _, ⟨hk, _⟩ | ⟨hk, hm⟩⟩ := tkn_at O ha
    · exact (Give_large' H O ha hp hk).mono fun e w' he => .did (O.gone_large ha hP hk) he
    · exact (Give_cell' H O ha hp hP p64 hk hm rfl).mono fun e w' he => .did (O.gone_cell ha hP hk rfl).1 he
  · exact (Give_no H a ha).mono fun e w' he => .did O he
theorem drop_dec (O : Ok ks xs cs (bm.nums ws) fr) (p : Int) : (∃ P : Nat, p = P ∧ (1 ≤ pg.kind ks P ∧ pg.kind ks P ≤ 4) ∧ cl (pg.kind ks P) ≤ (fr P).length ∧ cl (pg.kind ks P) ≠ 0 ∧ ln ks cs P = (fr P).length) ∨
    ((cl (pg.kind ks p) = 0 ∨ ln ks cs p < cl (pg.kind ks p)) ∧ (1 ≤ pg.kind ks p ∧ pg.kind ks p ≤ 4 → ((fr p.toNat).length : Int) < cl (pg.kind ks p))) := by
  rcases kind_dec ks p with hk | hk
  · obtain ⟨P, rfl, _, _⟩ := there O.few (z := p) (by omega)
    obtain ⟨_, u2, _⟩ := O.told hk
    obtain ⟨_, n, _, e2, _, e4, _⟩ := ch.sz_cl hk.1 hk.2
    by_cases h1 : cl (pg.kind ks P) ≤ (fr P).length
    · exact .inl ⟨P, rfl, hk, h1, by omega, u2⟩
    · refine .inr ⟨.inr (by rw [u2]; omega), fun _ => ?_⟩
      rw [Int.toNat_natCast]; omega
  · exact .inr ⟨.inl (cl_no (by omega)), fun h => absurd h hk⟩
theorem Drop_cs (C : Cs c h g r m q s w) (p : Int) : Calls Tryz.prog 32 #[.pointer (some ⟨c, 0, none⟩), .int .i64 p] w (Stays c h g r m q s w) := by
  obtain ⟨ks, xs, cs, ws, fr, H, O⟩ := C
  rcases drop_dec O p with ⟨P, rfl, hk, h1, h2, h3⟩ | ⟨h1, _⟩
  · exact (Drop_yes H O.kds P h2 (by rw [h3]; exact h1)).mono fun e w' he => .did (O.drop hk h1) he
  · exact (Drop_no H O.kds p h1).mono fun e w' ⟨h1, h2⟩ => .same H O h1 h2
end
end Go.Proofs.YtfhmhlofjoahlaaGreatDoor.ce
