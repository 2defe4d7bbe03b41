/- The program's machine: its verdict, its counts; MachineOk. Written by tools/gen_mi3.py. -/
import Derived.Test.YtmhambifbimndaaMi2
namespace Go.Proofs.Ytmhambifbimndaa.Mi3
open Go.RowKit
open Ta0 Ta1 Ta2 Tc2 Te1 Mm0 Mm2 Mx0 Ms0 Mi1 Mi2
open Nd0 (Kept Ints set_other set_same lt_of_cell)
open Qc0 (Sn Sns SnAt)
open Ss1 (tl)
set_option linter.unusedVariables false

/-- Of a verdict. -/
def retB (m : Mc) : Bool := if m.ret = -1 then !m.over else bitB m.ret && (!m.over || decide (m.vals.length = 0))
set_option maxRecDepth 100000 in
set_option maxHeartbeats 4000000 in
theorem iRet (w : World) (m : Mc) (ra va ma : Option Addr) (rc vc mc : Nat) :
    Calls Try.prog 35 #[mval m ra va ma rc vc mc] w fun e w' => e = .returned (.bool (retB m)) ∧ Below w.heap.size w w' := by
  have HB0 : Hid (Below w.heap.size w (w.alloc (.cells #[.slice ra m.row.length rc, .int .i64 m.N, .string m.S, .int .i64 m.room, .slice va m.vals.length vc, .int .i64 m.ret, .bool m.over, .int .i64 m.steps, .int .i64 m.looks, .int .i64 m.hits, .slice ma m.memo.length mc] 36))) := (Below.refl _ _).alloc (Nat.le_refl _) _
  have HIB : Hid (∀ W : World, Calls Try.prog 44 #[.int .i64 m.ret] W fun e w' => e = .returned (.bool (bitB m.ret)) ∧ w' = W) := fun W => iBitOk m.ret W
  by_cases h1 : m.ret = -1
  · have h1b : (m.ret == -1) = true := by rw [h1]; rfl

    have HF : Hid (retB m = !m.over) := if_pos h1
    clear h1
    go_enter Try.func35, Try.ntmps35
    go_wp2_with (go_at_call 44; refine (HIB.out _).mono ?_; rintro e w9 ⟨rfl, hw9⟩; (have hw8 := hw9.symm); clear hw9; subst hw8)
    go_ret
    exact ⟨ret_bool HF.out.symm, HB0.out⟩
  have h1b : (m.ret == -1) = false := beq_eq_false_iff_ne.2 h1
  cases hB : bitB m.ret
  · rw [hB] at HIB

    have HF : Hid (retB m = false) := by show _ = _; unfold retB; rw [if_neg h1, hB]; rfl
    clear h1 hB
    go_enter Try.func35, Try.ntmps35
    go_wp2_with (go_at_call 44; refine (HIB.out _).mono ?_; rintro e w9 ⟨rfl, hw9⟩; (have hw8 := hw9.symm); clear hw9; subst hw8)
    go_ret
    exact ⟨ret_bool HF.out.symm, HB0.out⟩
  rw [hB] at HIB
  cases ho : m.over
  · have HF : Hid (retB m = true) := by show _ = _; unfold retB; rw [if_neg h1, hB, ho]; rfl
    rw [ho] at HB0
    clear h1 hB
    go_enter Try.func35, Try.ntmps35
    go_wp2_with (go_at_call 44; refine (HIB.out _).mono ?_; rintro e w9 ⟨rfl, hw9⟩; (have hw8 := hw9.symm); clear hw9; subst hw8)
    go_ret
    exact ⟨ret_bool HF.out.symm, HB0.out⟩
  rw [ho] at HB0
  by_cases hv : m.vals.length = 0
  · have HF : Hid (retB m = true) := by show _ = _; unfold retB; rw [if_neg h1, hB, ho, decide_eq_true hv]; rfl
    rw [hv] at HB0
    have hve : m.vals = [] := List.eq_nil_of_length_eq_zero hv
    clear h1 hB hv
    go_enter Try.func35, Try.ntmps35
    go_wp2_with (go_at_call 44; refine (HIB.out _).mono ?_; rintro e w9 ⟨rfl, hw9⟩; (have hw8 := hw9.symm); clear hw9; subst hw8)
    go_ret
    exact ⟨ret_bool HF.out.symm, HB0.out⟩
  · have HF : Hid (retB m = false) := by show _ = _; unfold retB; rw [if_neg h1, hB, ho, decide_eq_false hv]; rfl
    have hvn : ¬ m.vals = [] := fun e => hv (by rw [e]; rfl)
    have hvb : ((m.vals.length : Int) == 0) = false := beq_eq_false_iff_ne.2 (by omega)
    clear h1 hB hv
    go_enter Try.func35, Try.ntmps35
    go_wp2_with (go_at_call 44; refine (HIB.out _).mono ?_; rintro e w9 ⟨rfl, hw9⟩; (have hw8 := hw9.symm); clear hw9; subst hw8)
    go_ret
    exact ⟨ret_bool HF.out.symm, HB0.out⟩

set_option maxRecDepth 100000 in
set_option maxHeartbeats 4000000 in
theorem iCounts (w : World) (m : Mc) (ra va ma : Option Addr) (rc vc mc : Nat) :
    Calls Try.prog 31 #[mval m ra va ma rc vc mc] w fun e w' => e = .returned (.agg #[.int .i64 m.steps, .int .i64 m.looks, .int .i64 m.hits]) ∧ Below w.heap.size w w' := by
  go_enter Try.func31, Try.ntmps31
  go_wp2
  refine bodyPost_ret (v := .agg #[.int .i64 m.steps, .int .i64 m.looks, .int .i64 m.hits]) (by simp [results, Try.results31, go_sem]) rfl ⟨rfl, ?_⟩
  repeat (first | exact Below.refl _ _ | refine Below.setCell ?_ (by simp <;> omega) _ | refine Below.alloc ?_ (by simp <;> omega) _)

theorem idx3 (f : Nat → Int) {v : Nat} (hv : v < 3) (w : World) : (Instr.index 61 (.agg #[.int .i64 (f 0), .int .i64 (f 1), .int .i64 (f 2)]) (.int .i64 (v : Int))).run Try.prog w = .ok (.int .i64 (f v)) w := by
  rcases (show v = 0 ∨ v = 1 ∨ v = 2 by omega) with h | h | h <;> subst h <;> simp [Instr.index, run_underlying Try.underlying61, asIntOf, go_sem]
/-- A count. -/
def ctB (x : Int) : Bool := decide (0 ≤ x ∧ x ≤ 1000000000)
def countsB (m : Mc) : Bool := ctB m.steps && ctB m.looks && ctB m.hits
set_option maxRecDepth 100000 in
set_option maxHeartbeats 4000000 in
theorem iCountsOk (w : World) (m : Mc) (ra va ma : Option Addr) (rc vc mc : Nat) :
    Calls Try.prog 36 #[mval m ra va ma rc vc mc] w fun e w' => e = .returned (.bool (countsB m)) ∧ Below w.heap.size w w' := by
  have HB0 : Hid (Below w.heap.size w (w.alloc (.cells #[.slice ra m.row.length rc, .int .i64 m.N, .string m.S, .int .i64 m.room, .slice va m.vals.length vc, .int .i64 m.ret, .bool m.over, .int .i64 m.steps, .int .i64 m.looks, .int .i64 m.hits, .slice ma m.memo.length mc] 36))) := (Below.refl _ _).alloc (Nat.le_refl _) _
  have HX0 : Hid (Mb (w.alloc (.cells #[.slice ra m.row.length rc, .int .i64 m.N, .string m.S, .int .i64 m.room, .slice va m.vals.length vc, .int .i64 m.ret, .bool m.over, .int .i64 m.steps, .int .i64 m.looks, .int .i64 m.hits, .slice ma m.memo.length mc] 36)) w.heap.size m ra va ma rc vc mc) := Mb.made _ _ _ _ _ _ _ _ _
  obtain ⟨f, hf⟩ : ∃ f : Nat → Int, f = fun k => if k = 0 then m.steps else if k = 1 then m.looks else m.hits := ⟨_, rfl⟩
  have HC : Hid (∀ j, j < 3 → ctB (f j) = false → countsB m = false) := fun j hj h => by
    rw [hf] at h
    unfold countsB
    have : j = 0 ∨ j = 1 ∨ j = 2 := by omega
    rcases this with rfl | rfl | rfl
    · rw [show ctB m.steps = false from h]; rfl
    · rw [show ctB m.looks = false from h]; simp
    · rw [show ctB m.hits = false from h]; simp
  have HD : Hid ((∀ j, j < 3 → ctB (f j) = true) → countsB m = true) := fun h => by
    unfold countsB
    have a0 := h 0 (by omega)
    have a1 := h 1 (by omega)
    have a2 := h 2 (by omega)
    rw [hf] at a0 a1 a2
    rw [show ctB m.steps = true from a0, show ctB m.looks = true from a1, show ctB m.hits = true from a2]
    rfl
  have HS : Hid (f 0 = m.steps ∧ f 1 = m.looks ∧ f 2 = m.hits) := by rw [hf]; exact ⟨rfl, rfl, rfl⟩
  clear hf
  go_enter Try.func36, Try.ntmps36
  go_wp2_with fail
  refine (iCounts _ m ra va ma rc vc mc).mono ?_
  rintro e w1 ⟨rfl, hb1⟩
  have HB1 : Hid (Below w.heap.size w w1) := HB0.out.trans (hb1.mono HB0.out.size)
  clear hb1 HX0 HB0
  rw [← HS.out.1, ← HS.out.2.1, ← HS.out.2.2]
  clear HS
  go_wp2
  go_loopw [7] (fun i wr => ∃ j : Nat, j ≤ 3 ∧ i = .int .i64 j ∧ wr = w1 ∧ ∀ t, t < j → ctB (f t) = true) (fun i _ => 3 - (intOf i).toNat)
  case atStart => exact ⟨0, Nat.zero_le _, rfl, rfl, fun t h => by omega⟩
  case round =>
    obtain ⟨j, hj, rfl, hwr, hbt⟩ := hrel
    have hwr' := hwr.symm
    clear hwr
    subst hwr'
    have HBT : Hid (∀ t, t < j → ctB (f t) = true) := hbt
    clear hbt
    by_cases hlt : j < 3
    · have hX := fun w => idx3 f hlt w
      have hjz : (j : Int) < 3 := by omega
      cases hq : ctB (f j)
      · have HF : Hid (countsB m = false) := HC.out j hlt hq
        have hr := of_decide_eq_false hq
        clear hq
        generalize f j = x at *
        by_cases h0 : x < 0
        · have h0b : decide (x < 0) = true := decide_eq_true h0
          clear hr
          go_wp2
          go_ret
          exact ⟨ret_bool HF.out.symm, HB1.out⟩
        · have h0b : decide (x < 0) = false := decide_eq_false h0
          have h1b : decide (1000000000 < x) = true := decide_eq_true (by omega)
          clear hr
          go_wp2
          go_ret
          exact ⟨ret_bool HF.out.symm, HB1.out⟩
      · have hr := of_decide_eq_true hq
        have HN : Hid (∀ t, t < j + 1 → ctB (f t) = true) := fun t ht => by
          by_cases e : t = j
          · rw [e]; exact hq
          · exact HBT.out t (by omega)
        clear hq
        generalize f j = x at *
        have h0b : decide (x < 0) = false := decide_eq_false (by omega)
        have h1b : decide (1000000000 < x) = false := decide_eq_false (by omega)
        clear hr
        go_wp2
        go_roundw
        case rel => exact ⟨j + 1, by omega, by go_num, (by first | trivial | rfl), HN.out⟩
        case measure => simp [intOf]; omega
    · have HF : Hid (countsB m = true) := HD.out fun t ht => HBT.out t (by omega)
      have hjz : ¬ (j : Int) < 3 := by omega
      go_wp2
      go_ret
      exact ⟨ret_bool HF.out.symm, HB1.out⟩

end Go.Proofs.Ytmhambifbimndaa.Mi3
