/- The program's readVals. -/
import Derived.Test.YtmjmnfegaoegjaaGreatDoorPkLD20
import Derived.Test.YtmjmnfegaoegjaaGreatDoorPkLD7
namespace Go.Proofs.YtmjmnfegaoegjaaGreatDoor.Wp4
open Go.RowKit
open Ta2 (bitB)
open Vo0 (allB valB iVals)
open Nd0 (Kept Ints WInts lt_of_cell)
open Ap0
open Ss0 (bs bs_size)
open Ss1 (tl tl_length)
open Wp0 Wp1 Wp3
set_option linter.unusedVariables false

set_option maxRecDepth 100000 in
set_option maxHeartbeats 2000000 in
theorem iReadVals (S : ByteArray) (w : World) (hS : S.size ≤ 1048576) :
    Calls Tryz.prog 148 #[.string S] w fun e w' => ∃ v, e = .returned (.tuple #[v, .bool (rvB (tl S))]) ∧ Ows w' w.heap.size v (rvL (tl S)) ∧ Below w.heap.size w w' := by
  have hlen := tl_length S
  by_cases h45 : tl S = [45]
  · have hq : (S.toList == [45]) = true := Ss1.eql_true h45
    have HRL : Hid (rvL (tl S) = []) := by show _ = _; unfold rvL; exact if_pos h45
    have HRB : Hid (rvB (tl S) = true) := by show _ = _; unfold rvB; exact if_pos h45
    clear h45 hlen
    go_enter Tryz.func148, Tryz.ntmps148
    go_wp2
    go_ret2
    exact ⟨_, by rw [HRB.out]; rfl, by rw [HRL.out]; exact Ows.lit _ _ (Nat.le_refl _), (Below.refl _ _).alloc (Nat.le_refl _) _⟩
  have hq : (S.toList == [45]) = false := Ss1.eql_false h45
  have HRL : Hid (rvL (tl S) = (tl S).map un) := by show _ = _; unfold rvL; exact if_neg h45
  have HRB : Hid (rvB (tl S) = (decide (tl S ≠ []) && valB ((tl S).map un) 12)) := by show _ = _; unfold rvB; exact if_neg h45
  clear h45
  obtain ⟨TK, hTK⟩ : ∃ TK : Nat → List Int, TK = fun k => ((tl S).take k).map un := ⟨_, rfl⟩
  have HTK : Hid (TK = fun k => ((tl S).take k).map un) := hTK
  have HTL : Hid (∀ k, k ≤ S.size → (TK k).length = k) := by intro k hk; rw [hTK]; simp; omega
  have HT0 : Hid (TK 0 = []) := by show _ = _; rw [hTK]; rfl
  have HLEN : Hid ((tl S).length = S.size) := hlen
  clear hTK hlen
  go_enter Tryz.func148, Tryz.ntmps148
  go_wp2
  go_loopw [4, 12] (fun v i wr => ∃ k : Nat, k ≤ S.size ∧ i = .int .i64 k ∧ Ows wr w.heap.size v (TK k) ∧ Below w.heap.size w wr) (fun _ i _ => S.size - (intOf i).toNat)
  case atStart => exact ⟨0, Nat.zero_le _, rfl, by rw [HT0.out]; exact Ows.lit _ _ (Nat.le_refl _), (Below.refl _ _).alloc (Nat.le_refl _) _⟩
  case round =>
    obtain ⟨k, hk, rfl, ho, hbr⟩ := hrel
    have HO : Hid (Ows wr w.heap.size u4 (TK k)) := ho
    have HB : Hid (Below w.heap.size w wr) := hbr
    clear ho hbr
    by_cases hlt : k < S.size
    · have hlz : (k : Int) < (S.size : Int) := by omega
      have hb1 : (S[k].toNat : Int) < 256 := by have := S[k].toNat_lt; omega
      have hw1 : wrap64 (S[k].toNat : Int) = (S[k].toNat : Int) := by unfold wrap64; omega
      have hw2 : wrap64 ((S[k].toNat : Int) - 48) = (S[k].toNat : Int) - 48 := by unfold wrap64; omega
      have HNX : Hid (TK (k + 1) = TK k ++ [(S[k].toNat : Int) - 48]) := by
        show _ = _
        rw [HTK.out]
        show ((tl S).take (k + 1)).map un = ((tl S).take k).map un ++ [_]
        rw [List.take_succ_eq_append_getElem (by rw [tl_length]; exact hlt), List.map_append]
        rfl
      go_wp2_with (at_builtin; go_must (refine app_int _ rfl _ _ rfl w.heap.size u4 (TK k) ((S[k].toNat : Int) - 48) rfl rfl HO.out HB.out.size (by rw [HTL.out k hk]; omega) ?_; intro g5 cp5 w5 ho5 hk5 hg5; have HO5 : Hid (Ows w5 w.heap.size (.slice (some ⟨g5, 0, none⟩) ((TK k).length + 1) cp5) (TK k ++ [(S[k].toNat : Int) - 48])) := ho5; have HK5 : Hid (Kept (fun i => u4.ownBlock = some i) wr w5) := hk5; clear ho5 hk5 hg5))
      go_roundw
      case rel => exact ⟨k + 1, by omega, by go_num, by rw [HNX.out]; exact HO5.out, HB.out.trans (HK5.out.below (fun i hi => (HO.out.lt i hi).1) HB.out.size)⟩
      case measure => simp [intOf]; omega
    · have hlz : ¬ (k : Int) < (S.size : Int) := by omega
      have HTE : Hid (TK k = rvL (tl S)) := by
        show _ = _
        rw [HRL.out, HTK.out]
        show ((tl S).take k).map un = _
        rw [List.take_of_length_le (by have := HLEN.out; omega)]
      have ho := HO.out
      rw [HTE.out] at ho
      have HO2 : Hid (Ows wr w.heap.size u4 (rvL (tl S))) := ho
      obtain ⟨a2, c2, e2, f2⟩ := ho.form
      subst e2
      have HI : Hid (Ints wr a2 (rvL (tl S))) := f2.ints
      clear f2 ho HO
      by_cases h0 : tl S = []
      · have hz : (S.toList == []) = true := Ss1.eql_true h0
        have HF : Hid (rvB (tl S) = false) := by show _ = _; rw [HRB.out, h0]; rfl
        clear h0
        go_wp2
        go_ret2
        exact ⟨_, by rw [HF.out]; rfl, HO2.out, HB.out⟩
      · have hz : (S.toList == []) = false := Ss1.eql_false h0
        have HF : Hid (valB (rvL (tl S)) 12 = rvB (tl S)) := by
          show _ = _
          rw [HRB.out, HRL.out, decide_eq_true h0]
          rfl
        have HVO : Hid (∀ W, Ints W a2 (rvL (tl S)) → Calls Tryz.prog 44 #[.slice a2 (rvL (tl S)).length c2, .int .i64 12] W fun e w' => e = .returned (.bool (rvB (tl S))) ∧ w' = W) := fun W hi => by
          have := iVals a2 _ c2 12 W hi
          rwa [HF.out] at this
        clear h0
        obtain ⟨rb, hrb⟩ : ∃ rb, rb = rvB (tl S) := ⟨_, rfl⟩
        rw [← hrb] at HVO
        have HQ : Hid (rb = rvB (tl S)) := hrb
        obtain ⟨rl, hrl⟩ : ∃ rl, rl = rvL (tl S) := ⟨_, rfl⟩
        rw [← hrl] at HVO HI HO2
        have HQL : Hid (rl = rvL (tl S)) := hrl
        rw [← hrl]
        clear hrb hrl HF
        go_wp2_with (go_at_call 44; refine (HVO.out _ HI.out).mono ?_; rintro e w' ⟨rfl, hw'⟩; have hw'' := hw'.symm; clear hw'; subst hw'')
        go_ret2
        have ho := HO2.out
        rw [HQL.out] at ho
        exact ⟨_, by rw [← HQ.out]; rfl, by rw [← HQL.out] at ho ⊢; exact ho, HB.out⟩
end Go.Proofs.YtmjmnfegaoegjaaGreatDoor.Wp4
