/- The walk of the model's test of a term. -/
import Derived.Test.YtlicobjkjikjoaaSp3
namespace Go.Proofs.Ytlicobjkjikjoaa.Sp4
open Go.RowKit
open Nd0 Nd1 Tm0 Ap0 Sp2 Sp3
set_option linter.unusedVariables false

set_option maxHeartbeats 1000000 in
theorem sTermOk (w : World) (a : Option Addr) (l : List Nd) (c : Nat) (hN : Nodes w a l) :
    Calls Try.prog 10 #[.slice a l.length c] w fun e w' => e = .returned (.bool (termOk l)) ∧ Below w.heap.size w w' := by
  have HN : Hid (Nodes w a l) := hN
  have hm := hN.1
  unfold maxLen at hm
  clear hN
  by_cases hl : 1 ≤ l.length ∧ l.length ≤ 80
  · have hd : decide (1 ≤ (l.length : Int) ∧ (l.length : Int) ≤ 80) = true := by simp; omega
    obtain ⟨hl1, hl2⟩ := hl
    go_enter Try.func10, Try.ntmps10
    go_wp2_with (go_at_call 33; refine (sIn _ _ _ _).mono ?_; rintro e w' ⟨rfl, rfl⟩)
    go_loopw [3] (fun q wr => ∃ k : Nat, k ≤ l.length ∧ q = .int .i64 k ∧ Below w'.heap.size w' wr ∧ ∀ j, j < k → nodeOk l j = true) (fun q _ => l.length - (intOf q).toNat)
    case atStart => exact ⟨0, Nat.zero_le _, rfl, Below.refl _ _, fun j hj => by omega⟩
    case round =>
      obtain ⟨k, hk, rfl, hb, hall⟩ := hrel
      have HB : Hid (Below w'.heap.size w' wr) := hb
      have HA : Hid (∀ j, j < k → nodeOk l j = true) := hall
      clear hb hall
      by_cases hlt : k < l.length
      · have hlz : (k : Int) < (l.length : Int) := by omega
        have HS := sNode wr a l c k hlt (by omega) (HN.out.below HB.out) (fun j hj => node_width (HA.out j hj))
        have HSH : Hid (Calls Try.prog 34 #[.slice a l.length c, .int .i64 k] wr fun e w' => e = .returned (.bool (nodeOk l k)) ∧ Below wr.heap.size wr w') := HS
        clear HS
        cases hno : nodeOk l k
        · have HT : Hid (termOk l = false) := term_bad k hlt hno
          go_wp2_with fail
          refine HSH.out.mono ?_
          rintro e w2 ⟨rfl, hb2⟩
          have HB2 : Hid (Below w'.heap.size w' w2) := HB.out.trans (hb2.mono HB.out.size)
          clear hb2
          go_wp2
          go_ret
          exact ⟨ret_bool HT.out.symm, HB2.out⟩
        · go_wp2_with fail
          refine HSH.out.mono ?_
          rintro e w2 ⟨rfl, hb2⟩
          have HB2 : Hid (Below w'.heap.size w' w2) := HB.out.trans (hb2.mono HB.out.size)
          clear hb2
          go_wp2
          go_roundw
          case rel =>
            refine ⟨k + 1, by omega, by go_num, HB2.out, fun j hj => ?_⟩
            by_cases e : j = k
            · subst e; exact hno
            · exact HA.out j (by omega)
          case measure => simp [intOf]; omega
      · have HT : Hid (termOk l = true) := term_good ⟨hl1, hl2⟩ (fun j hj => HA.out j (by omega))
        go_wp2
        go_ret
        exact ⟨ret_bool HT.out.symm, HB.out⟩
  · have hd : decide (1 ≤ (l.length : Int) ∧ (l.length : Int) ≤ 80) = false := by simp; omega
    have HT : Hid (termOk l = false) := term_long hl
    go_enter Try.func10, Try.ntmps10
    go_wp2_with (go_at_call 33; refine (sIn _ _ _ _).mono ?_; rintro e w' ⟨rfl, rfl⟩)
    go_ret
    exact ⟨ret_bool HT.out.symm, Below.refl _ _⟩

end Go.Proofs.Ytlicobjkjikjoaa.Sp4
