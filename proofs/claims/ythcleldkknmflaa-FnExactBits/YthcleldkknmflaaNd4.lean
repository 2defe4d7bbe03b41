/- The walk of the exact laws' copy of a list of nodes. -/
import Derived.Test.YthcleldkknmflaaNd3
import Derived.Laws.MakeOwn
namespace Go.Proofs.Ythcleldkknmflaa.Nd4
open Go.RowKit
open Nd0 Nd1 Nd3
set_option linter.unusedVariables false

theorem infoNode : (Try.prog.info? 31).map (fun i => (i.zero, i.size, i.bytes)) = some (some (.agg #[.int .i64 0, .int .i64 0, .int .i64 0, .int .i64 0, .int .i64 0, .int .i64 0]), 6, 48) := by kernel_rfl

/-- n nodes of noughts. -/
def zeros (n : Nat) : Array Value := madeCells #[.int .i64 0, .int .i64 0, .int .i64 0, .int .i64 0, .int .i64 0, .int .i64 0] (n * 6)
theorem zeros_get (n j : Nat) (h : j < n * 6) : (zeros n)[j]? = some (.int .i64 0) := by
  have hz : ∀ m, m < 6 → (#[.int .i64 0, .int .i64 0, .int .i64 0, .int .i64 0, .int .i64 0, .int .i64 0] : Array Value)[m]! = .int .i64 0 := by
    intro m hm
    have : m = 0 ∨ m = 1 ∨ m = 2 ∨ m = 3 ∨ m = 4 ∨ m = 5 := by omega
    rcases this with rfl | rfl | rfl | rfl | rfl | rfl <;> rfl
  simp only [zeros, madeCells, Array.getElem?_map, Array.getElem?_range]
  rw [if_pos h]
  simp only [Option.map_some]
  exact congrArg some (hz _ (Nat.mod_lt _ (by simp)))
theorem makeNodes (n : Nat) (hn : n ≤ 1048576) (w : World) :
    (Instr.makeSlice 24 (.int .i64 (n : Int)) (.int .i64 (n : Int))).run Try.prog w = .ok (.slice (some ⟨w.heap.size, 0, none⟩) n n) (w.alloc (.cells (zeros n) 31)) := by
  obtain ⟨i, hi, hzz⟩ := Option.map_eq_some_iff.1 infoNode
  simp only [Prod.mk.injEq] at hzz
  obtain ⟨hz, hs, hb⟩ := hzz
  have h := run_make (P := Try.prog) w 24 31 i _ Try.underlying24 hi hz .i64 .i64 n n (by omega) (Int.le_refl _) (by rw [hb]; omega) (by omega)
  rw [hs] at h
  simpa [zeros, Value.cells] using h
theorem zeros_at (w : World) (n : Nat) (T : Nat) (j : Nat) (hj : j < n) : NodeAt (w.alloc (.cells (zeros n) T)) w.heap.size (j * 6) Nd.zero := by
  refine ⟨?_, ?_, ?_, ?_, ?_, ?_⟩ <;> rw [World.cell?_alloc_new] <;> exact zeros_get _ _ (by omega)

set_option maxHeartbeats 2000000 in
theorem toNodeS (w : World) (a : Option Addr) (l : List Nd) (c : Nat) (h : Nodes w a l) (hl : l.length ≤ 1048576) :
    Calls Try.prog 29 #[.slice a l.length c] w fun e w' => e = .returned (.slice (some ⟨w.heap.size, 0, none⟩) l.length l.length) ∧ WNodes w' w.heap.size (some ⟨w.heap.size, 0, none⟩) l ∧ Below w.heap.size w w' := by
  have H : Hid (Nodes w a l) := h
  clear h
  have hmk := makeNodes l.length hl
  go_enter Try.func29, Try.ntmps29
  go_wp2
  clear hmk
  go_loopw [4] (fun i wr => ∃ k : Nat, k ≤ l.length ∧ i = .int .i64 k ∧ Below w.heap.size w wr ∧ w.heap.size < wr.heap.size ∧ (∀ j, j < l.length * 6 → wr.frozen? ⟨w.heap.size, j, none⟩ = false) ∧ ∀ j (hj : j < l.length), ∃ v : Nd, NodeAt wr w.heap.size (j * 6) v ∧ (j < k → v = l[j])) (fun i _ => l.length - (intOf i).toNat)
  case atStart =>
    exact ⟨0, Nat.zero_le _, rfl, (Below.refl _ _).alloc (Nat.le_refl _) _, by simp, fun j hj => by simp, fun j hj => ⟨_, zeros_at w _ _ j hj, fun x => by omega⟩⟩
  case round =>
    obtain ⟨k, hk, rfl, hb, hz, hf, hx⟩ := hrel
    have HB : Hid (Below w.heap.size w wr) := hb
    by_cases hlt : k < l.length
    · have HN := H.out.below hb
      clear hb
      rcases HN.2 with h0 | ⟨xb, xo, rfl, hc⟩
      · omega
      obtain ⟨p0, p1, p2, p3, p4, p5⟩ := hc k hlt
      have HL : Hid (l[k] = l[k]) := rfl
      clear hc HN HL
      have HX : Hid (∀ j (hj : j < l.length), ∃ v : Nd, NodeAt wr w.heap.size (j * 6) v ∧ (j < k → v = l[j])) := hx
      have HF : Hid (∀ j, j < l.length * 6 → wr.frozen? ⟨w.heap.size, j, none⟩ = false) := hf
      clear hx hf
      have hlz : (k : Int) < (l.length : Int) := by omega
      obtain ⟨nd, hnd⟩ : ∃ nd : Nd, nd = l[k] := ⟨_, rfl⟩
      have HD : Hid (nd = l[k]) := hnd
      rw [← hnd] at p0 p1 p2 p3 p4 p5
      clear hnd
      go_wp2_with fail
      refine (toNode _ _ _ _ _ _ _).mono ?_
      rintro e w1 ⟨rfl, hb1⟩
      have HB1 : Hid (Below wr.heap.size wr w1) := hb1
      obtain ⟨v, ⟨q0, q1, q2, q3, q4, q5⟩, _⟩ := HX.out k hlt
      have g0 : w1.frozen? ⟨w.heap.size, k * 6, none⟩ = false := by rw [hb1.frozen hz]; exact HF.out (k * 6) (by omega)
      have g1 : w1.frozen? ⟨w.heap.size, k * 6 + 1, none⟩ = false := by rw [hb1.frozen hz]; exact HF.out (k * 6 + 1) (by omega)
      have g2 : w1.frozen? ⟨w.heap.size, k * 6 + 2, none⟩ = false := by rw [hb1.frozen hz]; exact HF.out (k * 6 + 2) (by omega)
      have g3 : w1.frozen? ⟨w.heap.size, k * 6 + 3, none⟩ = false := by rw [hb1.frozen hz]; exact HF.out (k * 6 + 3) (by omega)
      have g4 : w1.frozen? ⟨w.heap.size, k * 6 + 4, none⟩ = false := by rw [hb1.frozen hz]; exact HF.out (k * 6 + 4) (by omega)
      have g5 : w1.frozen? ⟨w.heap.size, k * 6 + 5, none⟩ = false := by rw [hb1.frozen hz]; exact HF.out (k * 6 + 5) (by omega)
      rw [← hb1.cell hz] at q0 q1 q2 q3 q4 q5
      clear hb1 p0 p1 p2 p3 p4 p5
      go_wp2
      go_roundw
      case rel =>
        have F1 : Below w.heap.size w (setNode w1 w.heap.size (k * 6) nd) :=
          HB.out.trans ((setNode_kept (b := w.heap.size) (o := 0) (p := k * 6) (n := nd) (Kept.ofBelow HB1.out)).below (fun i hi => by obtain ⟨x, hx, rfl⟩ := hi; cases hx; exact Nat.le_refl _) HB.out.size)
        have F2 : w.heap.size < (setNode w1 w.heap.size (k * 6) nd).heap.size := by
          have := HB1.out.size
          rw [setNode_size]; omega
        have F3 : ∀ j, j < l.length * 6 → (setNode w1 w.heap.size (k * 6) nd).frozen? ⟨w.heap.size, j, none⟩ = false := by
          intro j hj
          rw [setNode_frozen, HB1.out.frozen hz]; exact HF.out j hj
        have F4 : ∀ j (hj : j < l.length), ∃ v : Nd, NodeAt (setNode w1 w.heap.size (k * 6) nd) w.heap.size (j * 6) v ∧ (j < k + 1 → v = l[j]) := by
          intro j hj
          obtain ⟨u, r0, r1⟩ := HX.out j hj
          have r2 : NodeAt w1 w.heap.size (j * 6) u := r0.below HB1.out hz
          by_cases e : j = k
          · subst e
            exact ⟨nd, setNode_same r2, fun _ => HD.out⟩
          · exact ⟨u, setNode_other r2 (by omega), fun x => r1 (by omega)⟩
        exact ⟨k + 1, by omega, by go_num, F1, F2, F3, F4⟩
      case measure => simp [intOf]; omega
    · go_wp2
      go_ret
      refine ⟨rfl, ⟨H.out.1, ?_⟩, HB.out⟩
      refine .inr ⟨w.heap.size, 0, rfl, Nat.le_refl _, fun i hi => ?_, fun j hj => by rw [Nat.zero_add]; exact hf j hj⟩
      obtain ⟨v, q0, q1⟩ := hx i hi
      rw [Nat.zero_add, ← q1 (by omega)]
      exact q0

end Go.Proofs.Ythcleldkknmflaa.Nd4
