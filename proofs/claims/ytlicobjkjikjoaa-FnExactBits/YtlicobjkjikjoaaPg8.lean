/- Walks of the program's sets of variables: justVar and numbers. -/
import Derived.WalkSpells
import Derived.Test.YtlicobjkjikjoaaPkA
import Derived.Test.YtlicobjkjikjoaaPkB
namespace Go.Proofs.Ytlicobjkjikjoaa.Pg8
open Go.RowKit
open Nd0 Pl1 Tm0 Tm1 Tm4 Tm7 Ap0
open Ws1 (ret_int ret_bool)
set_option linter.unusedVariables false

set_option maxHeartbeats 1000000 in
theorem iJust (kk : Nat) (w : World) (h7 : kk ≤ 7) :
    Calls Try.prog 60 #[.int .i64 kk] w fun e w' => e = .returned (.int .u8 ((2 ^ kk : Nat) : Int)) ∧ w' = w := by
  have h8 : kk = 0 ∨ kk = 1 ∨ kk = 2 ∨ kk = 3 ∨ kk = 4 ∨ kk = 5 ∨ kk = 6 ∨ kk = 7 := by omega
  rcases h8 with rfl | rfl | rfl | rfl | rfl | rfl | rfl | rfl
  all_goals
    go_enter Try.func60, Try.ntmps60
    go_wp2
    go_ret
    exact ⟨ret_int (by decide), rfl⟩

set_option maxHeartbeats 1000000 in
theorem iNumbers (s : Nat) (w : World) (hs : s < 256) :
    Calls Try.prog 39 #[.int .u8 s] w fun e w' => (∃ a' c', e = .returned (.slice a' (numsTo s 8).length c') ∧ WInts w' w.heap.size a' (numsTo s 8)) ∧ Below w.heap.size w w' := by
  go_enter Try.func39, Try.ntmps39
  go_wp2
  go_loopw [0, 3, 4] (fun x v q wr => ∃ k : Nat, k ≤ 8 ∧ q = .int .i64 k ∧ x = .int .u8 ((s / 2 ^ k : Nat) : Int) ∧ Ows wr w.heap.size v (numsTo s k) ∧ Below w.heap.size w wr) (fun x _ _ _ => (intOf x).toNat)
  case atStart => exact ⟨0, by omega, rfl, by simp, Ows.lit w _ (Nat.le_refl _), (Below.refl _ _).alloc (Nat.le_refl _) _⟩
  case round =>
    obtain ⟨k, hk, rfl, rfl, ho, hb⟩ := hrel
    have HO : Hid (Ows wr w.heap.size u3 (numsTo s k)) := ho
    have HB : Hid (Below w.heap.size w wr) := hb
    have hBs : w.heap.size ≤ wr.heap.size := hb.size
    have hln := numsTo_length s k
    have HLB := low_bit s k
    have hle : s / 2 ^ k ≤ s := Nat.div_le_self _ _
    have HSH : Hid (s / 2 ^ k / 2 = s / 2 ^ (k + 1)) := by show _ = _; rw [Nat.div_div_eq_div_mul, ← Nat.pow_succ]
    have HEND : Hid (s / 2 ^ k = 0 → numsTo s k = numsTo s 8) := fun h => nums_end s k h hk
    have HK8 : Hid (¬ s / 2 ^ k = 0 → k < 8) := by
      show _ → _
      intro h
      rcases Nat.lt_or_ge k 8 with h8 | h8
      · exact h8
      · exact absurd (Nat.div_eq_zero_iff.2 (.inr (Nat.lt_of_lt_of_le hs (Nat.pow_le_pow_right (n := 2) (by omega) h8)))) h
    have HLB' : Hid ((s / 2 ^ k) % 2 = 1 ↔ s.testBit k = true) := HLB
    clear hb HLB
    generalize s / 2 ^ k = t at hle HSH HEND HK8 HLB' ⊢
    by_cases h0 : t = 0
    · have hz0 : ((t : Int) != 0) = false := by simp; omega
      obtain ⟨a9, c9, rfl, hw9⟩ := ho.form
      have HW9 : Hid (WInts wr w.heap.size a9 (numsTo s k)) := hw9
      clear ho hw9 HO
      have HE9 : Hid (numsTo s k = numsTo s 8) := HEND.out h0
      clear HEND h0 HK8 HSH HLB' hle
      go_wp2
      go_ret
      refine ⟨⟨a9, c9, ?_, ?_⟩, HB.out⟩
      · rw [← HE9.out]; simp
      · rw [← HE9.out]; exact HW9.out
    · have hk8 := HK8.out h0
      clear ho
      have ht : (t : Int) ≤ 255 := by omega
      have hnz : ((t : Int) != 0) = true := by simp; omega
      have hand : bits .and .u8 (t : Int) (1 : Int) = ((t % 2 : Nat) : Int) := by
        have := bits_and_u8_nat t 1 (by omega) (by omega)
        rw [Nat.and_one_is_mod] at this
        exact this
      by_cases h1 : t % 2 = 1
      · have HT2 : Hid (numsTo s (k + 1) = numsTo s k ++ [(k : Int)]) := by
          show _ = _
          rw [numsTo_succ, HLB'.out.1 h1]; rfl
        rw [h1] at hand
        go_wp2_with (at_builtin; go_must (refine app_int _ rfl _ _ rfl w.heap.size u3 (numsTo s k) (k : Int) rfl rfl HO.out hBs (by omega) ?_; intro g' cp w3 ho3 hk3 hg3))
        have HO3 : Hid (Ows w3 w.heap.size (.slice (some ⟨g', 0, none⟩) ((numsTo s k).length + 1) cp) (numsTo s k ++ [(k : Int)])) := ho3
        have HK3 : Hid (Kept (fun k => u3.ownBlock = some k) wr w3) := hk3
        clear ho3 hk3 hg3
        go_wp2
        go_roundw
        case rel => exact ⟨k + 1, by omega, by go_num, by rw [← HSH.out]; go_num, HT2.out.symm ▸ HO3.out, HB.out.trans (HK3.out.below (fun k hk => (HO.out.lt k hk).1) hBs)⟩
        case measure => simp [intOf]; omega
      · have HT2 : Hid (numsTo s (k + 1) = numsTo s k) := by
          show _ = _
          rw [numsTo_succ, if_neg (fun h => h1 (HLB'.out.2 h))]
        have h10 : t % 2 = 0 := by omega
        rw [h10] at hand
        go_wp2
        go_roundw
        case rel => exact ⟨k + 1, by omega, by go_num, by rw [← HSH.out]; go_num, HT2.out.symm ▸ HO.out, HB.out⟩
        case measure => simp [intOf]; omega

end Go.Proofs.Ytlicobjkjikjoaa.Pg8
