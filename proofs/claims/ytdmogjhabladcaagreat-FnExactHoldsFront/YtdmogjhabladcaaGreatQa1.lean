/- Walks of the exact laws' helpers on Quants. Written by tools/mkflat.py. -/
import Derived.Test.YtdmogjhabladcaaGreatRows
import Derived.Deep.RegionWith
import Derived.Laws.MakeOwn
import Derived.Test.YtdmogjhabladcaaGreatPkB
import Derived.Test.YtdmogjhabladcaaGreatQa0
namespace Go.Proofs.YtdmogjhabladcaaGreat.Qa1
open Go.RowKit
open Nd0 Nd1 Qa0
set_option linter.unusedVariables false

set_option maxHeartbeats 1000000 in
theorem toQuant (all : Bool) (vr : Int) (bits : Int) (w : World) :
    Calls Tryz.prog 80 #[.agg #[.bool all, .int .i64 vr, .int .i64 bits]] w fun e w' => e = .returned (.agg #[.bool all, .int .i64 vr, .int .i64 bits]) ∧ Below w.heap.size w w' := by
  go_enter Tryz.func80, Tryz.ntmps80
  go_wp2
  refine bodyPost_ret (v := .agg #[.bool all, .int .i64 vr, .int .i64 bits]) (by simp [results, Tryz.results80, go_sem]) rfl ⟨rfl, ?_⟩
  exact (((Below.refl _ _).alloc (Nat.le_refl _) _).alloc (by simp) _).alloc (by simp; omega) _

set_option maxHeartbeats 1000000 in
theorem eqQuant (all : Bool) (vr : Int) (bits : Int) (w : World) :
    Calls Tryz.prog 81 #[.agg #[.bool all, .int .i64 vr, .int .i64 bits], .agg #[.bool all, .int .i64 vr, .int .i64 bits]] w fun e w' => e = .returned (.bool true) ∧ Below w.heap.size w w' := by
  have hb0 : (all != all) = false := by simp
  have hb1 : (vr != vr) = false := by simp
  have hb2 : (bits != bits) = false := by simp
  go_enter Tryz.func81, Tryz.ntmps81
  go_wp2
  go_ret
  exact ⟨rfl, ((Below.refl _ _).alloc (Nat.le_refl _) _).alloc (by simp) _⟩

set_option maxHeartbeats 1000000 in
theorem eqQuantS (w : World) (a a' : Option Addr) (l : List Qu) (c c' : Nat) (h : Qus w a l) (h' : Qus w a' l) :
    Calls Tryz.prog 40 #[.slice a l.length c, .slice a' l.length c'] w fun e w' => e = .returned (.bool true) ∧ Below w.heap.size w w' := by
  have H : Hid (Qus w a l) := h
  have H' : Hid (Qus w a' l) := h'
  have hm := h.1
  unfold maxLen at hm
  clear h h'
  go_enter Tryz.func40, Tryz.ntmps40
  go_wp2
  go_loopw [5] (fun i wr => ∃ k : Nat, k ≤ l.length ∧ i = .int .i64 k ∧ Below w.heap.size w wr) (fun i _ => l.length - (intOf i).toNat)
  case atStart => exact ⟨0, Nat.zero_le _, rfl, Below.refl _ _⟩
  case round =>
    obtain ⟨k, hk, rfl, hb⟩ := hrel
    have HB : Hid (Below w.heap.size w wr) := hb
    clear hb
    by_cases hlt : k < l.length
    · have hlz : (k : Int) < (l.length : Int) := by omega
      have HN := H.out.below HB.out
      have HN' := H'.out.below HB.out
      rcases HN.2 with h0 | ⟨xb, xo, rfl, hc⟩
      · omega
      rcases HN'.2 with h0 | ⟨yb, yo, rfl, hc'⟩
      · omega
      obtain ⟨p0, p1, p2⟩ := hc k hlt
      obtain ⟨q0, q1, q2⟩ := hc' k hlt
      clear hc hc' HN HN'
      generalize l[k] = x at p0 p1 p2 q0 q1 q2
      obtain ⟨x0, x1, x2⟩ := x
      simp only at p0 p1 p2 q0 q1 q2
      go_wp2
      go_region_with (go_at_call 81; refine (eqQuant _ _ _ _).mono ?_; rintro e w' ⟨rfl, hbe⟩)
      all_goals
        have HB2 : Hid (Below w.heap.size w w') := HB.out.drew.trans (hbe.mono (by have := HB.out.size; simpa using this))
        clear hbe
        go_wp2
        go_roundw
        case rel => exact ⟨k + 1, by omega, by go_num, HB2.out⟩
        case measure => simp [intOf]; omega
    · go_wp2
      go_ret
      exact ⟨rfl, HB.out⟩

set_option maxHeartbeats 400000 in
theorem szQuantS (w : World) (a : Option Addr) (n c : Nat) (left : Int) (h0 : 0 ≤ left) (h1 : left ≤ 1048576) (hn : n ≤ maxLen) :
    Calls Tryz.prog 38 #[.slice a n c, .int .i64 left] w fun e w' => e = .returned (.int .i64 (if (n : Int) ≤ left then left - n else -1)) ∧ w' = w := by
  unfold maxLen at hn
  by_cases hc : (n : Int) ≤ left
  · go_enter Tryz.func38, Tryz.ntmps38
    go_wp2
    go_ret
    exact ⟨rfl, rfl⟩
  · go_enter Tryz.func38, Tryz.ntmps38
    go_wp2
    go_ret
    exact ⟨rfl, rfl⟩

theorem infoQu : (Tryz.prog.info? 51).map (fun i => (i.zero, i.size, i.bytes)) = some (some (.agg #[.bool false, .int .i64 0, .int .i64 0]), 3, 24) := by kernel_rfl
def zerosQu (n : Nat) : Array Value := madeCells #[.bool false, .int .i64 0, .int .i64 0] (n * 3)
theorem makeQuants (n : Nat) (hn : n ≤ 1048576) (w : World) :
    (Instr.makeSlice 40 (.int .i64 (n : Int)) (.int .i64 (n : Int))).run Tryz.prog w = .ok (.slice (some ⟨w.heap.size, 0, none⟩) n n) (w.alloc (.cells (zerosQu n) 51)) := by
  obtain ⟨i, hi, hzz⟩ := Option.map_eq_some_iff.1 infoQu
  simp only [Prod.mk.injEq] at hzz
  obtain ⟨hz, hs, hb⟩ := hzz
  have h := run_make (P := Tryz.prog) w 40 51 i _ Tryz.underlying40 hi hz .i64 .i64 n n (by omega) (Int.le_refl _) (by rw [hb]; omega) (by omega)
  rw [hs] at h
  simpa [zerosQu, Value.cells] using h
theorem zerosQu_get (n i j : Nat) (h : i < n) (hj : j < 3) : (zerosQu n)[i * 3 + j]? = some (#[.bool false, .int .i64 0, .int .i64 0] : Array Value)[j]! := by
  simp only [zerosQu, madeCells, Array.getElem?_map, Array.getElem?_range]
  rw [if_pos (by omega)]
  simp only [Option.map_some]
  have e : (i * 3 + j) % 3 = j := by omega
  exact congrArg (fun m => some ((#[.bool false, .int .i64 0, .int .i64 0] : Array Value)[m]!)) e
theorem zerosQu_at (w : World) (n : Nat) (T : Nat) (j : Nat) (hj : j < n) : QuAt (w.alloc (.cells (zerosQu n) T)) w.heap.size (j * 3) Qu.zero := by
  refine ⟨by rw [World.cell?_alloc_new]; exact zerosQu_get n j 0 hj (by omega), by rw [World.cell?_alloc_new]; exact zerosQu_get n j 1 hj (by omega), by rw [World.cell?_alloc_new]; exact zerosQu_get n j 2 hj (by omega)⟩

set_option maxHeartbeats 2000000 in
theorem toQuantS (w : World) (a : Option Addr) (l : List Qu) (c : Nat) (h : Qus w a l) (hl : l.length ≤ 1048576) :
    Calls Tryz.prog 39 #[.slice a l.length c] w fun e w' => e = .returned (.slice (some ⟨w.heap.size, 0, none⟩) l.length l.length) ∧ WQus w' w.heap.size (some ⟨w.heap.size, 0, none⟩) l ∧ Below w.heap.size w w' := by
  have H : Hid (Qus w a l) := h
  clear h
  have hmk := makeQuants l.length hl
  go_enter Tryz.func39, Tryz.ntmps39
  go_wp2
  clear hmk
  go_loopw [4] (fun i wr => ∃ k : Nat, k ≤ l.length ∧ i = .int .i64 k ∧ Below w.heap.size w wr ∧ w.heap.size < wr.heap.size ∧ (∀ j, j < l.length * 3 → wr.frozen? ⟨w.heap.size, j, none⟩ = false) ∧ ∀ j (hj : j < l.length), ∃ v : Qu, QuAt wr w.heap.size (j * 3) v ∧ (j < k → v = l[j])) (fun i _ => l.length - (intOf i).toNat)
  case atStart =>
    exact ⟨0, Nat.zero_le _, rfl, (Below.refl _ _).alloc (Nat.le_refl _) _, by simp, fun j hj => by simp, fun j hj => ⟨_, zerosQu_at w _ _ j hj, fun x => by omega⟩⟩
  case round =>
    obtain ⟨k, hk, rfl, hb, hz, hf, hx⟩ := hrel
    have HB : Hid (Below w.heap.size w wr) := hb
    by_cases hlt : k < l.length
    · have HN := H.out.below hb
      clear hb
      rcases HN.2 with h0 | ⟨xb, xo, rfl, hc⟩
      · omega
      obtain ⟨p0, p1, p2⟩ := hc k hlt
      clear hc HN
      have HX : Hid (∀ j (hj : j < l.length), ∃ v : Qu, QuAt wr w.heap.size (j * 3) v ∧ (j < k → v = l[j])) := hx
      have HF : Hid (∀ j, j < l.length * 3 → wr.frozen? ⟨w.heap.size, j, none⟩ = false) := hf
      clear hx hf
      have hlz : (k : Int) < (l.length : Int) := by omega
      obtain ⟨nd, hnd⟩ : ∃ nd : Qu, nd = l[k] := ⟨_, rfl⟩
      have HD : Hid (nd = l[k]) := hnd
      rw [← hnd] at p0 p1 p2
      clear hnd
      go_wp2_with fail
      refine (toQuant _ _ _ _).mono ?_
      rintro e w1 ⟨rfl, hb1⟩
      have HB1 : Hid (Below wr.heap.size wr w1) := hb1
      obtain ⟨v, ⟨q0, q1, q2⟩, _⟩ := HX.out k hlt
      have g0 : w1.frozen? ⟨w.heap.size, k * 3, none⟩ = false := by rw [hb1.frozen hz]; exact HF.out (k * 3) (by omega)
      have g1 : w1.frozen? ⟨w.heap.size, k * 3 + 1, none⟩ = false := by rw [hb1.frozen hz]; exact HF.out (k * 3 + 1) (by omega)
      have g2 : w1.frozen? ⟨w.heap.size, k * 3 + 2, none⟩ = false := by rw [hb1.frozen hz]; exact HF.out (k * 3 + 2) (by omega)
      rw [← hb1.cell hz] at q0 q1 q2
      clear hb1 p0 p1 p2
      go_wp2
      go_roundw
      case rel =>
        have F1 : Below w.heap.size w (setQu w1 w.heap.size (k * 3) nd) :=
          HB.out.trans ((setQu_kept (b := w.heap.size) (o := 0) (p := k * 3) (n := nd) (Kept.ofBelow HB1.out)).below (fun i hi => by obtain ⟨x, hx, rfl⟩ := hi; cases hx; exact Nat.le_refl _) HB.out.size)
        have F2 : w.heap.size < (setQu w1 w.heap.size (k * 3) nd).heap.size := by
          have := HB1.out.size
          rw [setQu_size]; omega
        have F3 : ∀ j, j < l.length * 3 → (setQu w1 w.heap.size (k * 3) nd).frozen? ⟨w.heap.size, j, none⟩ = false := by
          intro j hj
          rw [setQu_frozen, HB1.out.frozen hz]; exact HF.out j hj
        have F4 : ∀ j (hj : j < l.length), ∃ v : Qu, QuAt (setQu w1 w.heap.size (k * 3) nd) w.heap.size (j * 3) v ∧ (j < k + 1 → v = l[j]) := by
          intro j hj
          obtain ⟨u, r0, r1⟩ := HX.out j hj
          have r2 : QuAt w1 w.heap.size (j * 3) u := r0.below HB1.out hz
          by_cases e : j = k
          · subst e
            exact ⟨nd, setQu_same r2, fun _ => HD.out⟩
          · exact ⟨u, setQu_other r2 (by omega), fun x => r1 (by omega)⟩
        exact ⟨k + 1, by omega, by go_num, F1, F2, F3, F4⟩
      case measure => simp [intOf]; omega
    · go_wp2
      go_ret
      refine ⟨rfl, ⟨H.out.1, ?_⟩, HB.out⟩
      refine .inr ⟨w.heap.size, 0, rfl, Nat.le_refl _, fun i hi => ?_, fun j hj => by rw [Nat.zero_add]; exact hf j hj⟩
      obtain ⟨v, q0, q1⟩ := hx i hi
      rw [Nat.zero_add, ← q1 (by omega)]
      exact q0

end Go.Proofs.YtdmogjhabladcaaGreat.Qa1
