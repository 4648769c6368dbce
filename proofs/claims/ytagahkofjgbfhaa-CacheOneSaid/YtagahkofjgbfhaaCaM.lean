/- A cache: what is alive; a script; what is somebody's is that one's. -/
import Derived.Test.YtagahkofjgbfhaaCaL
namespace Go.Proofs.Ytagahkofjgbfhaa.ca
open Go.ChangeShapes Go.WideShapes Go.ChangeAt Go.RowKit Go.Maps gen calls cls
set_option linter.unusedVariables false
set_option maxHeartbeats 8000000
set_option maxRecDepth 100000
section
variable {w w' : World} {c mb n : Nat} {m : List Ow} {D : DataW Unit} {v : Value}
theorem nat_near (z : Int) : ∃ k : Nat, bm.near z 0 9 = k ∧ k ≤ 9 := by
  refine ⟨(bm.near z 0 9).toNat, ?_, ?_⟩ <;> (unfold bm.near; repeat' split) <;> omega
theorem alive_any (w : World) : Calls Try.prog 6 #[] w fun e w' => e = .returned (.bool true) ∧ w.grownBy w' none := by
  have NW := Lib.hid (New_any 2 2 (by decide) (by decide) w)
  have m1 : may 2 [] 0 1 5 = true := by decide
  have m2 : may 2 [(0, 1, 5)] 1 2 5 = false := by decide
  have M1 := Lib.hid m1
  have M2 := Lib.hid m2
  have F := Lib.hid (show fits 0 = true ∧ fits 1 = true ∧ fits 2 = true by decide)
  clear m1 m2
  go_enter Try.func6, Try.ntmps6
  go_wp2_with (first
    | (go_at_call 8; (with_reducible refine NW.out.mono ?_); rintro e w1 ⟨c, mb, rfl, hc, hl, hg⟩; have C1 := Lib.hid hc; have G1 := Lib.hid hg; have LO := Lib.hid hl; clear hc hg hl)
    | (have mark := C2; go_at_call 12; (with_reducible refine (Set_not C2.out 1 2 5 F.out.2.2 M2.out).mono ?_); rintro e w3 ⟨rfl, hg⟩; have C3 := Lib.hid (C2.out.new hg); have G3 := Lib.hid (G2.out.trans hg); clear hg)
    | (go_at_call 12; (with_reducible refine (Set_may C1.out 0 1 5 F.out.1 F.out.2.1 M1.out).mono ?_); rintro e w2 ⟨D2, rfl, hc, hg⟩; have C2 := Lib.hid (show At w2 c mb 2 [(0, 1, 5)] D2 from hc); have G2 := Lib.hid (G1.out.andThen hg (fun j hj => by cases hj; exact .inl LO.out.2)); clear hc hg)
    | (go_at_call 13; (with_reducible refine (Owner_any C3.out 5).mono ?_); rintro e w4 ⟨rfl, hg⟩; rw [show owner [(0, 1, 5)] 5 = (0, 1) by decide]; have C4 := Lib.hid (C3.out.new hg); have G4 := Lib.hid (G3.out.trans hg); clear hg)
    | (have mark := C7; go_at_call 14; (with_reducible refine (Page_any C7.out 0 1 F.out.1 F.out.2.1).mono ?_); rintro e w8 ⟨rfl, hg⟩; rw [show page (rest [(0, 1, 5)] 0 0) 0 1 = -1 by decide]; have G8 := Lib.hid (G7.out.trans hg); clear hg)
    | (have mark := C5; go_at_call 14; (with_reducible refine (Page_any C5.out 1 2 F.out.2.1 F.out.2.2).mono ?_); rintro e w6 ⟨rfl, hg⟩; rw [show page [(0, 1, 5)] 1 2 = -1 by decide]; have C6 := Lib.hid (C5.out.new hg); have G6 := Lib.hid (G5.out.trans hg); clear hg)
    | (go_at_call 14; (with_reducible refine (Page_any C4.out 0 1 F.out.1 F.out.2.1).mono ?_); rintro e w5 ⟨rfl, hg⟩; rw [show page [(0, 1, 5)] 0 1 = 5 by decide]; have C5 := Lib.hid (C4.out.new hg); have G5 := Lib.hid (G4.out.trans hg); clear hg)
    | (go_at_call 11; (with_reducible refine (Drop_any C6.out 0).mono ?_); rintro e w7 ⟨A7, k7, N7, D7, rfl, h1, h2, hc, hg⟩; have N7' := Lib.hid (show N7 = 1 from h1); have O7 := Lib.hid (show w7.ownsRow w6.heap.size 3 1 (.slice A7 N7 k7) N7 (bm.ints [5]) from h2); have C70 := Lib.hid hc; have G70 := Lib.hid (G6.out.andThen hg (fun j hj => by cases hj; exact .inl LO.out.2)); clear h1 h2 hc hg)
    | (go_at_call 18; (with_reducible refine (bm.Ints_true [5] _ _ _ _ _ _ _ _ _ (by have := N7'.out; omega) N7'.out (bm.rd_own (O7.out.alloc _)) (li.Rd.one_at w7 5 _ rfl)).mono ?_); rintro e w9 ⟨rfl, hd⟩; have hg := (show w7.grownBy w9 none by obtain ⟨j, rfl⟩ := hd; exact (World.grownBy_alloc _ _ _).trans (grown_drewN _ _ _)); have C7 := Lib.hid (C70.out.new hg); have G7 := Lib.hid (G70.out.trans hg); clear hd hg))
  go_ret
  exact ⟨rfl, G8.out⟩
theorem CacheRuns_any (n0 : Int) (A : Option Addr) (l c2 : Nat) (f : Nat → Nat → Int) (w : World) (hc : l ≤ c2) (hc2 : c2 ≤ maxLen) (ho : Rws w w.heap.size A l 4 f) :
    Calls Try.prog 3 #[.int .i64 n0, .slice A l c2] w fun e w' => e = .returned (.bool true) ∧ w.grownBy w' none := by
  obtain ⟨K, hk, h9⟩ := nat_near n0
  have HO := Lib.hid ho
  have HD := Lib.hid (show 0 < l → ∃ ad, A = some ad from ho.some)
  have HL1 := Lib.hid hc
  have HL2 := Lib.hid hc2
  have HK := Lib.hid hk
  have NW := Lib.hid (fun w => New_any n0 K hk h9 w)
  clear hk ho hc hc2 h9
  go_enter Try.func3, Try.ntmps3
  go_wp2_with (first
    | (go_at_call 6; (with_reducible refine (alive_any _).mono ?_); rintro e w1 ⟨rfl, hg⟩; have G1 := Lib.hid hg; clear hg)
    | (go_at_call 8; (with_reducible refine (NW.out _).mono ?_); rintro e w2 ⟨c, mb, rfl, hc, hl, hg⟩; have C2 := Lib.hid hc; have LO := Lib.hid (Nat.le_trans G1.out.size hl.2); have G2 := Lib.hid (G1.out.trans hg); clear hc hl hg)
    | (go_at_call 9; (with_reducible refine (bm.Near_any _ _ _ _).mono ?_); rintro e w' ⟨rfl, rfl⟩; rw [HK.out])
    | (go_at_call 10; (with_reducible refine (few_any _ _ _ _ HL1.out HL2.out HD.out).mono ?_); rintro e w' ⟨⟨l2, c3, hl1, hl2, rfl⟩, rfl⟩)
    | (go_at_call 7; (with_reducible refine (run_any C2.out (Lo.nil _ _) ((HO.out.less hl2).kept G2.out (by simp)) LO.out hl1).mono ?_); rintro e w3 ⟨v3, m3, D3, rfl, hc, hl, hg⟩; have G3 := Lib.hid (G2.out.andThen hg (fun j hj => by cases hj; exact .inl LO.out)); clear hc hl hg))
  go_ret
  exact ⟨rfl, G3.out⟩
end
end Go.Proofs.Ytagahkofjgbfhaa.ca
