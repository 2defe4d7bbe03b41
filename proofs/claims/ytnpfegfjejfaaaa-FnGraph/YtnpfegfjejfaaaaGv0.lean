/- What GraphValue answers, as plain data. -/
import Derived.Test.YtnpfegfjejfaaaaWv0
import Derived.Test.YtnpfegfjejfaaaaWv1
import Derived.Test.YtnpfegfjejfaaaaWv2
namespace Go.Proofs.Ytnpfegfjejfaaaa.Gv0
open Go.RowKit
open Nd0 Qb0 Gr0 Gr1 Ta0 Wv0 Wv1 Wv2
set_option linter.unusedVariables false

def bI (bs : List Int) (i : Nat) : Bool := decide (bs.getD i 0 = 1)
def bitsB (bs : List Int) : Bool := bs.all fun b => decide (0 ≤ b ∧ b ≤ 1)
def valG (ins : Int) (l : List An) (bs : List Int) (w : Int) : Int := if gokB ins l = true ∧ (bs.length : Int) = ins ∧ wireB ins l w = true ∧ bitsB bs = true then ((gval (bI bs) ins.toNat l w).toNat : Int) else -1
theorem bits_stop {bs : List Int} {k : Nat} (hk : k < bs.length) (h : ¬ (0 ≤ bs[k] ∧ bs[k] ≤ 1)) : bitsB bs = false := by
  unfold bitsB
  rw [List.all_eq_false]
  exact ⟨bs[k], List.getElem_mem hk, by simpa using h⟩
theorem bits_all {bs : List Int} (h : ∀ j (hj : j < bs.length), 0 ≤ bs[j] ∧ bs[j] ≤ 1) : bitsB bs = true := by
  unfold bitsB
  rw [List.all_eq_true]
  intro b hb
  obtain ⟨j, hj, rfl⟩ := List.getElem_of_mem hb
  exact decide_eq_true (h j hj)
theorem bit_at {bs : List Int} {j : Nat} (hj : j < bs.length) (h : 0 ≤ bs[j] ∧ bs[j] ≤ 1) : bs[j] = (((bI bs j).toNat : Nat) : Int) := by
  have e : bs.getD j 0 = bs[j] := by simp [List.getD, hj]
  unfold bI
  rw [e]
  rcases (by omega : bs[j] = 0 ∨ bs[j] = 1) with x | x
  · rw [x, decide_eq_false (by omega)]; rfl
  · rw [x, decide_eq_true rfl]; rfl
/-- Bits in memory are numbers. -/
theorem is_of {w : World} {gx ox : Nat} {bs : List Int} (h : Ints w (some ⟨gx, ox, none⟩) bs) (hb : ∀ j (hj : j < bs.length), 0 ≤ bs[j] ∧ bs[j] ≤ 1) : Is w gx ox ((List.range bs.length).map fun i => (bI bs i).toNat) := by
  intro j hj
  have hj' : j < bs.length := by simpa using hj
  rcases h.2 with e | ⟨b, o, ha, hc⟩
  · omega
  · cases ha
    rw [hc j hj', bit_at hj' (hb j hj')]
    simp
/-- A word with the bit of the first choice alone. -/
def U1 (bs : List Int) (i k : Nat) : Bool := decide (k = 0) && bI bs i
theorem wd_one (b : Bool) : wdN (fun k => decide (k = 0) && b) 64 = b.toNat := by
  refine Eq.symm (wdN_of _ _ _ fun j => ?_)
  cases b
  · simp
  · cases j with
    | zero => simp
    | succ j => simp [Nat.testBit_succ]
theorem wW_low (U : Nat → Nat → Bool) (n : Nat) (l : List An) (m : Nat) (w : Int) : wW U n l m w &&& 1 = (wv (vl (fun i => U i 0) n l m) w).toNat := by
  rw [Nat.and_one_is_mod]
  have h := wdN_bit (fun k => wv (vl (fun i => U i k) n l m) w) 64 0
  rw [Nat.testBit_zero] at h
  change decide (wW U n l m w % 2 = 1) = _ at h
  simp only [show decide (0 < 64) = true from rfl, Bool.true_and] at h
  cases hb : wv (vl (fun i => U i 0) n l m) w
  · rw [hb] at h
    have := of_decide_eq_false h
    simp only [Bool.toNat_false]
    omega
  · rw [hb] at h
    have := of_decide_eq_true h
    simp only [Bool.toNat_true]
    omega

end Go.Proofs.Ytnpfegfjejfaaaa.Gv0
