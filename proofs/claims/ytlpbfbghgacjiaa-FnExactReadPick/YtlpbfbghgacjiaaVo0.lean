/- Values: whether they are bits (as in Mi2, without the machine). -/
import Derived.Test.YtlpbfbghgacjiaaTe3
import Derived.Test.YtlpbfbghgacjiaaTd1
namespace Go.Proofs.Ytlpbfbghgacjiaa.Vo0
open Go.RowKit
open Ta0 Ta1 Ta2 Tc2 Te1
open Nd0 (Kept Ints set_other set_same lt_of_cell)
set_option linter.unusedVariables false

/-- Whether all are bits. -/
def allB (l : List Int) : Bool := l.all bitB
theorem allB_no {l : List Int} {k : Nat} (h : k < l.length) (hb : bitB l[k] = false) : allB l = false := by
  unfold allB
  rw [List.all_eq_false]
  exact ⟨_, List.getElem_mem h, by rw [hb]; simp⟩
set_option maxHeartbeats 2000000 in
theorem iPlaceAny (a : Option Addr) (l : List Int) (c : Nat) (w : World) (hI : Ints w a l) :
    Calls Try.prog 89 #[.slice a l.length c] w fun e w' => (∃ p : Int, e = .returned (.tuple #[.int .i64 p, .bool (allB l)])) ∧ w' = w := by
  have HI1 : Hid (Ints w a l) := hI
  have hm := hI.1
  unfold maxLen at hm
  clear hI
  go_enter Try.func89, Try.ntmps89
  go_wp2
  go_loop [4, 9] (fun p i => ∃ (k : Nat) (y : Int), k ≤ l.length ∧ i = .int .i64 k ∧ p = .int .i64 y ∧ ∀ j (hj : j < l.length), j < k → bitB l[j] = true) (fun _ i => l.length - (intOf i).toNat)
  case atStart => exact ⟨0, 0, Nat.zero_le _, rfl, rfl, fun j _ hj => by omega⟩
  case round =>
    obtain ⟨k, y, hk, rfl, rfl, hbt⟩ := hrel
    have HBT : Hid (∀ j (hj : j < l.length), j < k → bitB l[j] = true) := hbt
    clear hbt
    by_cases hlt : k < l.length
    · have hkz : (k : Int) < (l.length : Int) := by omega
      rcases HI1.out.2 with h0 | ⟨xb, xo, rfl, hc⟩
      · omega
      have p0 := hc k hlt
      clear hc
      have HN : Hid (bitB l[k] = false → allB l = false) := allB_no hlt
      have HY : Hid (bitB l[k] = true → ∀ j (hj : j < l.length), j < k + 1 → bitB l[j] = true) := fun h j hj h2 => by
        by_cases e : j = k
        · subst e; exact h
        · exact HBT.out j hj (by omega)
      generalize l[k] = x at *
      have HIC : Hid (∀ W, Calls Try.prog 72 #[.int .i64 x] W fun e w' => e = .returned (.bool (bitB x)) ∧ w' = W) := fun W => iBitOk x W
      cases hB : bitB x
      · have HBd : Hid (allB l = false) := HN.out hB
        rw [hB] at HIC
        clear hB
        go_wp2_with (go_at_call 72; refine (HIC.out _).mono ?_; rintro e w' ⟨rfl, rfl⟩)
        go_ret2
        exact ⟨⟨0, by rw [HBd.out]; rfl⟩, rfl⟩
      · have HT := HY.out hB
        have HT2 : Hid (∀ j (hj : j < l.length), j < k + 1 → bitB l[j] = true) := HT
        rw [hB] at HIC
        clear hB HT
        go_wp2_with (go_at_call 72; refine (HIC.out _).mono ?_; rintro e w' ⟨rfl, rfl⟩)
        go_round
        case rel => exact ⟨k + 1, _, by omega, by go_num, rfl, HT2.out⟩
        case measure => simp [intOf]; omega
    · have HT : Hid (allB l = true) := by
        show _ = _
        unfold allB
        rw [List.all_eq_true]
        intro x hx
        obtain ⟨t, ht, rfl⟩ := List.getElem_of_mem hx
        exact HBT.out t ht (by omega)
      go_wp2
      go_ret2
      exact ⟨⟨y, by rw [HT.out]; rfl⟩, rfl⟩

/-- At most n bits. -/
def valB (l : List Int) (n : Int) : Bool := allB l && decide ((l.length : Int) ≤ n)
set_option maxHeartbeats 2000000 in
theorem iVals (a : Option Addr) (l : List Int) (c : Nat) (n : Int) (w : World) (hI : Ints w a l) :
    Calls Try.prog 71 #[.slice a l.length c, .int .i64 n] w fun e w' => e = .returned (.bool (valB l n)) ∧ w' = w := by
  have HI1 : Hid (Ints w a l) := hI
  clear hI
  cases hA : allB l
  · have HF : Hid (valB l n = false) := by show _ = _; unfold valB; rw [hA]; rfl
    go_enter Try.func71, Try.ntmps71
    go_wp2_with fail
    refine (iPlaceAny a l c _ HI1.out).mono ?_
    rw [hA]
    rintro e w2 ⟨⟨p, rfl⟩, rfl⟩
    clear hA
    go_wp2
    go_ret
    exact ⟨ret_bool HF.out.symm, rfl⟩
  · by_cases hn : (l.length : Int) ≤ n
    · have HF : Hid (valB l n = true) := by show _ = _; unfold valB; rw [hA, decide_eq_true hn]; rfl
      have hnb : decide ((l.length : Int) ≤ n) = true := decide_eq_true hn
      go_enter Try.func71, Try.ntmps71
      go_wp2_with fail
      refine (iPlaceAny a l c _ HI1.out).mono ?_
      rw [hA]
      rintro e w2 ⟨⟨p, rfl⟩, rfl⟩
      clear hA
      go_wp2
      go_ret
      exact ⟨ret_bool HF.out.symm, rfl⟩
    · have HF : Hid (valB l n = false) := by show _ = _; unfold valB; rw [decide_eq_false hn]; simp
      have hnb : decide ((l.length : Int) ≤ n) = false := decide_eq_false hn
      go_enter Try.func71, Try.ntmps71
      go_wp2_with fail
      refine (iPlaceAny a l c _ HI1.out).mono ?_
      rw [hA]
      rintro e w2 ⟨⟨p, rfl⟩, rfl⟩
      clear hA
      go_wp2
      go_ret
      exact ⟨ret_bool HF.out.symm, rfl⟩

end Go.Proofs.Ytlpbfbghgacjiaa.Vo0
