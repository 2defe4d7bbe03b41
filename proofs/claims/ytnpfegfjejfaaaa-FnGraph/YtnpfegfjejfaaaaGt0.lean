/- The table of a wire: plain facts; the program's inputWord. -/
import Derived.Test.YtnpfegfjejfaaaaGp7
import Derived.Test.YtnpfegfjejfaaaaPkHk
namespace Go.Proofs.Ytnpfegfjejfaaaa.Gt0
open Go.RowKit
open Nd0 Qb0 Gr0 Gr1 Ta0 Ta1 Tc4 Wv0 Gp7
set_option linter.unusedVariables false

/-- Bit i of place p among n. -/
def pbit (n i p : Nat) : Bool := decide (p / 2 ^ (n - 1 - i) % 2 = 1)
/-- What a wire is at place p. -/
def gtab (n : Nat) (l : List An) (x : Int) (p : Nat) : Bool := gval (fun i => pbit n i p) n l x
theorem use_and (F : Nat → Bool) (n i : Nat) (hi : i < nw n) : wd F i &&& use (2 ^ n) = wd (upto (2 ^ n) F) i := by
  refine wd_of fun j => ?_
  rw [Nat.testBit_and, wd_bit, use_bit]
  unfold upto
  by_cases hj : j < 64
  · rw [decide_eq_true hj, Bool.true_and, Bool.true_and, Bool.true_and]
    have e : decide (j < 2 ^ n) = decide (64 * i + j < 2 ^ n) := by
      refine decide_eq_decide.2 ?_
      unfold nw at hi
      by_cases h6 : 2 ^ n < 64
      · omega
      · have h7 : 6 ≤ n := by
          apply Classical.byContradiction
          intro h
          have : 2 ^ n ≤ 2 ^ 5 := Nat.pow_le_pow_right (by omega) (by omega)
          omega
        have h8 : 2 ^ n = 64 * 2 ^ (n - 6) := by rw [show (64 : Nat) = 2 ^ 6 by rfl, ← Nat.pow_add]; congr 1; omega
        omega
    rw [e, Bool.and_comm]
  · rw [decide_eq_false hj]; simp
theorem or_step (f : Nat → Bool) (j : Nat) (hj : j < 64) : wdN f j ||| (f j).toNat * 2 ^ j = wdN f (j + 1) := by
  refine wdN_of _ _ _ fun t => ?_
  rw [Nat.testBit_or, wdN_bit]
  cases hf : f j
  · simp only [Bool.toNat_false, Nat.zero_mul, Nat.zero_testBit, Bool.or_false]
    by_cases e : t = j
    · subst e; simp [hf]
    · rw [show decide (t < j + 1) = decide (t < j) from decide_eq_decide.2 (by omega)]
  · simp only [Bool.toNat_true, Nat.one_mul, Nat.testBit_two_pow]
    by_cases e : t = j
    · subst e; simp [hf]
    · rw [show decide (t < j + 1) = decide (t < j) from decide_eq_decide.2 (by omega), decide_eq_false (by omega : ¬ j = t), Bool.or_false]

theorem boru {x y : Nat} (hx : x < 18446744073709551616) (hy : y < 18446744073709551616) : bits .or .u64 (x : Int) (y : Int) = ((x ||| y : Nat) : Int) := by
  have e : bits .or .u64 (x : Int) (y : Int) = IntKind.u64.wrap ((BitVec.ofInt 64 (x : Int) ||| BitVec.ofInt 64 (y : Int)).toNat : Int) := rfl
  have h := Nat.or_lt_two_pow (n := 64) hx hy
  rw [e, BitVec.toNat_or, BitVec.toNat_ofInt, BitVec.toNat_ofInt]
  have e2 : ((2 ^ 64 : Nat) : Int) = 18446744073709551616 := by decide
  rw [e2, show ((x : Int) % 18446744073709551616).toNat = x by omega, show ((y : Int) % 18446744073709551616).toNat = y by omega, IntKind.wrap_u64]
  have e3 : (2 : Nat) ^ 64 = 18446744073709551616 := by decide
  rw [e3] at h
  omega
theorem bit_nat (p s : Nat) : p / 2 ^ s % 2 = (decide (p / 2 ^ s % 2 = 1)).toNat := by
  rcases (by omega : p / 2 ^ s % 2 = 0 ∨ p / 2 ^ s % 2 = 1) with e | e
  · rw [e]; rfl
  · rw [e]; rfl
theorem in_step (n i k j : Nat) (hk : k < 64) (hj : j < 64) : bits .or .u64 ((wdN (fun j => pbit n i (64 * k + j)) j : Nat) : Int) (IntKind.u64.wrap (IntKind.u64.wrap (bits .and .i64 (((k : Int) * 64 + (j : Int)) / 2 ^ (n - 1 - i)) 1) * 2 ^ j)) = ((wdN (fun j => pbit n i (64 * k + j)) (j + 1) : Nat) : Int) := by
  have e1 : ((k : Int) * 64 + (j : Int)) / 2 ^ (n - 1 - i) = (((64 * k + j) / 2 ^ (n - 1 - i) : Nat) : Int) := by
    rw [show (k : Int) * 64 + (j : Int) = ((64 * k + j : Nat) : Int) by omega]
    exact pow_div _ _
  have hle : (64 * k + j) / 2 ^ (n - 1 - i) ≤ 64 * k + j := Nat.div_le_self _ _
  have e2 : bits .and .i64 ((((64 * k + j) / 2 ^ (n - 1 - i) : Nat) : Int)) 1 = (((pbit n i (64 * k + j)).toNat : Nat) : Int) := by
    have e3 : ∀ q : Nat, q ≤ 100000 → bits .and .i64 (q : Int) 1 = ((q % 2 : Nat) : Int) := fun q hq => by rw [and1 (by omega) (by omega)]; omega
    rw [e3 _ (by omega), bit_nat]
    rfl
  rw [e1, e2]
  have hb : (pbit n i (64 * k + j)).toNat ≤ 1 := by cases pbit n i (64 * k + j) <;> decide
  have hp : 2 ^ j < 2 ^ 64 := Nat.pow_lt_pow_right (by omega) hj
  have hpz : (2 : Int) ^ j = ((2 ^ j : Nat) : Int) := by push_cast; rfl
  have e3 : (2 : Nat) ^ 64 = 18446744073709551616 := by decide
  have hm : (pbit n i (64 * k + j)).toNat * 2 ^ j < 18446744073709551616 := by
    cases pbit n i (64 * k + j)
    · simp
    · simp only [Bool.toNat_true, Nat.one_mul]; omega
  rw [show IntKind.u64.wrap (((pbit n i (64 * k + j)).toNat : Nat) : Int) = (((pbit n i (64 * k + j)).toNat : Nat) : Int) by rw [IntKind.wrap_u64]; omega]
  rw [hpz, show (((pbit n i (64 * k + j)).toNat : Nat) : Int) * ((2 ^ j : Nat) : Int) = (((pbit n i (64 * k + j)).toNat * 2 ^ j : Nat) : Int) by push_cast; rfl, wrapu hm]
  have hx : wdN (fun j => pbit n i (64 * k + j)) j < 18446744073709551616 := Nat.lt_of_lt_of_le (wdN_lt _ j) (by omega)
  rw [boru hx hm, or_step _ _ hj]

set_option maxHeartbeats 2000000 in
theorem inputWord (n i k : Nat) (w : World) (hn : n ≤ 12) (hi : i < n) (hk : k < 64) :
    Calls Try.prog 55 #[.int .i64 (n : Int), .int .i64 (i : Int), .int .i64 (k : Int)] w fun e w' => e = .returned (.int .u64 (wdN (fun j => pbit n i (64 * k + j)) 64 : Int)) ∧ w' = w := by
  have hsh : (n : Int) - 1 - (i : Int) = ((n - 1 - i : Nat) : Int) := by omega
  have HP : Hid (∀ j, pbit n i (64 * k + j) = decide ((64 * k + j) / 2 ^ (n - 1 - i) % 2 = 1)) := fun j => rfl
  obtain ⟨s, hs⟩ : ∃ s, s = n - 1 - i := ⟨_, rfl⟩
  rw [← hs] at hsh
  have hs12 : s ≤ 11 := by omega
  go_enter Try.func55, Try.ntmps55
  go_wp2
  go_loop [7, 10] (fun q c => ∃ j : Nat, j ≤ 64 ∧ c = .int .i64 j ∧ q = .int .u64 (wdN (fun j => pbit n i (64 * k + j)) j : Int)) (fun _ c => 64 - (intOf c).toNat)
  case atStart => exact ⟨0, Nat.zero_le _, rfl, rfl⟩
  case round =>
    obtain ⟨j, hj, rfl, rfl⟩ := hrel
    by_cases hlt : j < 64
    · have hlz : (j : Int) < 64 := by omega
      go_wp2
      go_round
      case rel => exact ⟨j + 1, by omega, by go_num, congrArg (Value.int .u64) (in_step n i k j hk hlt)⟩
      case measure => simp [intOf]; omega
    · have e : j = 64 := by omega
      subst e
      go_wp2
      go_ret
      exact ⟨rfl, rfl⟩

end Go.Proofs.Ytnpfegfjejfaaaa.Gt0
