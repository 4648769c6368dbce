/- What layer 9's runs hands over: the runs of free pages, one by one. -/
import Derived.Test.YtfhmhlofjoahlaaGreatDoorPgX
import Derived.Test.YtfhmhlofjoahlaaGreatDoorRgA
import Derived.Shelf.Abstract
import Derived.OwnWalkIn
import Derived.TacticsInMore
import Derived.LoopNIn
import Derived.LoopIn
namespace Go.Proofs.YtfhmhlofjoahlaaGreatDoor.pg
open Go.ChangeShapes Go.WideShapes Go.ChangeAt Go.RowKit gen calls cls li rg
set_option linter.unusedVariables false
attribute [local go_sem] Oper.semAt_some

theorem Tab.below {w w' : World} {g r n₀ : Nat} {xs : List Int} (h : Tab w g r xs) (hb : Below n₀ w w') (h1 : g < n₀) (h2 : r < n₀) : Tab w' g r xs := by
  obtain ⟨zs, a, b, c⟩ := h
  exact ⟨zs, (hb.block g h1).trans a, (hb.block r h2).trans b, c⟩
set_option maxRecDepth 100000 in
theorem runs_hands {g r n₀ : Nat} {xs : List Int} {w : World} (h : Tab w g r xs) (h1 : g < n₀) (h2 : r < n₀) :
    Hands Tryz.prog 99 #[.pointer (some ⟨g, 0, none⟩)] n₀ w (runs 0 xs) := fun l J Jx W hb hY h0 => by
  have T := Lib.hid (h.below hb h1 h2)
  have hl := h.le
  have HL := Lib.hid hl
  have HB := Lib.hid (fun (A B : World) (h : Tab A g r xs) (hb : Below n₀ A B) => h.below hb h1 h2)
  clear h hb
  obtain ⟨c, hc1, hc2, f⟩ := T.out.field
  have HP := Lib.hid (pages_some g _ W f)
  clear f
  refine callsIn_of_wp Tryz.func99 rfl trivial ?_ rfl
  simp only [Tryz.ntmps99, List.size_toArray, List.length_cons, List.length_nil, Nat.reduceAdd, Nat.reduceSub, Array.replicate_succ, Array.replicate_zero, List.push_toArray, List.append_toArray, List.nil_append, List.cons_append]
  have hn : ((xs.length : Nat) : Int) ≤ 64 := by omega
  have HN := Lib.hid (fun (p : Nat) => lead_fits (k := 0) (xs := xs) p)
  generalize hlen : xs.length = n at *
  have HLEN := Lib.hid hlen
  clear hlen
  gi_wp2_with (refine ⟨trivial, ?_⟩; gi_at_call 85; refine (callsIn_wide.2 HP.out).mono ?_; rintro e w' ⟨rfl, rfl⟩)
  gi_loopw [5, 6] (fun m f wr => ∃ (p : Nat) (pre : List (Int × Int)), p ≤ 65 ∧ f = .int .i64 p ∧ runs 0 xs = pre ++ runs p (xs.drop p) ∧ J pre wr ∧ Tab wr g r xs) (fun _ f _ => 66 - (intOf f).toNat)
  case atStart => exact ⟨0, [], by omega, rfl, by simp, h0, T.out⟩
  case round =>
    obtain ⟨p, pre, hp, rfl, hr, hj, ht⟩ := hrel
    have HR := Lib.hid hr
    have HJ := Lib.hid hj
    have HT := Lib.hid ht
    clear hr hj ht
    have HK := Lib.hid (fun q => Kind_any HT.out q)
    by_cases hlt : p < n
    · have HE := Lib.hid (fun j => lead_eq (k := 0) (xs := xs) (n := j) (p := p) (by decide))
      have HF := Lib.hid (HN.out p)
      have HI := Lib.hid (fun j (hj : kind xs ((p + j : Nat) : Int) ≠ -1) => show p + j < n by have := kind_there hj; have e := HLEN.out; omega)
      gi_wp2
      gi_loopw [5] (fun m w1 => ∃ j : Nat, j ≤ 64 ∧ m = .int .i64 j ∧ (∀ i, i < j → kind xs ((p + i : Nat) : Int) = 0) ∧ w1 = wr) (fun m _ => 65 - (intOf m).toNat)
      case atStart => exact ⟨0, by omega, rfl, fun i hi => by omega, rfl⟩
      case round =>
        obtain ⟨j, hj, rfl, hi, hw⟩ := hrel
        subst hw
        have HJJ := Lib.hid hi
        clear hi
        have e1 : ((p + j : Nat) : Int) = (p : Int) + (j : Int) := by omega
        by_cases h6 : kind xs ((p : Int) + (j : Int)) = 0
        · have hj2 : p + j < n := HI.out j (by rw [e1, h6]; decide)
          have H6 := Lib.hid h6
          have E1 := Lib.hid e1
          clear h6 e1
          gi_wp2_with (refine ⟨trivial, ?_⟩; gi_at_call 56; refine (callsIn_wide.2 (HK.out _)).mono ?_; rintro e w' ⟨rfl, rfl⟩; rw [H6.out])
          go_roundw
          case rel => exact ⟨j + 1, by omega, by go_num, fun i hi => by
            rcases Nat.lt_or_ge i j with c | c
            · exact HJJ.out i c
            · obtain rfl : i = j := by omega
              rw [E1.out]
              exact H6.out, trivial⟩
          case measure => simp [intOf]; omega
        · have b6 : (kind xs ((p : Int) + (j : Int)) == 0) = false := by simpa using h6
          have hld := HE.out j HJJ.out (by rw [e1]; exact h6)
          have hfit : p + j ≤ n := by have := HF.out (by omega); rw [hld] at this; exact this
          clear h6 e1
          by_cases hj0 : j = 0
          · subst hj0
            have HX := Lib.hid (show runs 0 xs = pre ++ runs (p + 1) (xs.drop (p + 1)) by rw [HR.out, runs_no hld, List.drop_drop])
            have b7 : (kind xs (p : Int) == 0) = false := by simpa using b6
            clear hld b6
            gi_wp2_with (refine ⟨trivial, ?_⟩; gi_at_call 56; refine (callsIn_wide.2 (HK.out _)).mono ?_; rintro e w' ⟨rfl, rfl⟩)
            refine ⟨fun _ h => (by cases h), ?_⟩
            gi_wp2
            go_roundw
            case rel => exact ⟨p + 1, pre, by omega, by go_num, HX.out, HJ.out, HT.out⟩
            case measure => simp [intOf]; omega
          · have hpos : 0 < lead 0 (xs.drop p) := by omega
            have hx : runs 0 xs = pre ++ ((p : Int), (j : Int)) :: runs (p + j + 1) (xs.drop (p + j + 1)) := by
              rw [HR.out, runs_yes hpos, hld, List.drop_drop, show p + (j + 1) = p + j + 1 by omega]
            have HX := Lib.hid hx
            obtain ⟨fn, tmps, assign, body, hy, hR⟩ := hY pre _ _ _ hx HJ.out
            have l1 : (0 : Int) < (j : Int) := by omega
            clear hld hpos hx
            dsimp only [two] at hy
            gi_wp2_with (refine ⟨trivial, ?_⟩; gi_at_call 56; refine (callsIn_wide.2 (HK.out _)).mono ?_; rintro e w' ⟨rfl, rfl⟩)
            refine hR.mono ?_
            rintro e W3 (⟨rfl, hj3, hb3⟩ | ⟨rfl, hx3⟩)
            · have J3 := Lib.hid hj3
              have T3 := Lib.hid (HB.out _ _ HT.out hb3)
              clear hj3 hb3
              gi_wp2
              go_roundw
              case rel => exact ⟨p + j + 1, pre ++ [((p : Int), (j : Int))], by omega, by go_num, by rw [HX.out, List.append_assoc]; rfl, J3.out, T3.out⟩
              case measure => simp [intOf]; omega
            · gi_wp2
              refine bodyPost_ret (results_none rfl _ _ _) rfl ?_
              exact ⟨⟨_, rfl⟩, .inr ⟨_, hx3⟩⟩
    · have hd : xs.drop p = [] := List.drop_of_length_le (by have := HLEN.out; omega)
      have HX := Lib.hid (show runs 0 xs = pre by rw [HR.out, hd, runs_nil, List.append_nil])
      clear hd
      gi_wp2
      go_end0
      exact ⟨⟨_, rfl⟩, .inl (by rw [HX.out]; exact HJ.out)⟩
end Go.Proofs.YtfhmhlofjoahlaaGreatDoor.pg
