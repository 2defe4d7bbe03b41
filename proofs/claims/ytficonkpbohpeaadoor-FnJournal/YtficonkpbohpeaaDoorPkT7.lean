/- Small texts of mine, one behind the other. -/
import Derived.Test.YtficonkpbohpeaaDoorRows
import Derived.WalkKit
import Derived.WalkSpells
import Derived.WalkLawsBesides
import Derived.Deep.QuietTactic
import Derived.BigQuiet
import Derived.Test.YtficonkpbohpeaaDoorTx0
import Derived.Test.YtficonkpbohpeaaDoorPl1
/- Strings as lists of bytes; the walk of the model's number in decimal digits. -/
namespace Go.Proofs.YtficonkpbohpeaaDoor.Ss0
open Go.RowKit
open Nd0 Tx0
set_option linter.unusedVariables false

/-- Bytes as a string. -/
def bs (l : List UInt8) : ByteArray := ⟨l.toArray⟩
theorem bs_size (l : List UInt8) : (bs l).size = l.length := by simp [bs, ByteArray.size]
theorem bs_app (a b : List UInt8) : bs a ++ bs b = bs (a ++ b) := by
  apply ByteArray.ext
  simp [bs, ByteArray.data_append]
theorem bs_of (s : ByteArray) : bs s.data.toList = s := by cases s; rfl
theorem bs_inj {a b : List UInt8} (h : bs a = bs b) : a = b := by
  have := congrArg (fun s => s.data.toList) h
  simpa [bs] using this
theorem bs_ext (l : List UInt8) (i j : Nat) : (bs l).extract i j = bs ((l.take j).drop i) := by
  apply ByteArray.ext
  simp only [bs, ByteArray.data_extract]
  apply Array.ext'
  simp [List.extract_eq_take_drop, List.drop_take]
theorem ret_str {a b : ByteArray} (h : a = b) : Ending.returned (.string a) = .returned (.string b) := by rw [h]
theorem digit_cut (d : Nat) (h : d < 10) : (ByteArray.mk #[48, 49, 50, 51, 52, 53, 54, 55, 56, 57]).extract d (d + 1) = bs [UInt8.ofNat (48 + d)] := by
  have : d = 0 ∨ d = 1 ∨ d = 2 ∨ d = 3 ∨ d = 4 ∨ d = 5 ∨ d = 6 ∨ d = 7 ∨ d = 8 ∨ d = 9 := by omega
  rcases this with h | h | h | h | h | h | h | h | h | h <;> subst h <;> rfl

set_option maxHeartbeats 400000 in
theorem sDec (n : Nat) (w : World) (h : n < 1000000000) :
    Calls Tryd.prog 36 #[.int .i64 n] w fun e w' => e = .returned (.string (bs (dec n))) ∧ w' = w := by
  by_cases h0 : n = 0
  · subst h0
    go_enter Tryd.func36, Tryd.ntmps36
    go_wp2
    go_ret
    exact ⟨rfl, rfl⟩
  · have hz : ¬ (n : Int) = 0 := by omega
    go_enter Tryd.func36, Tryd.ntmps36
    go_wp2
    go_loop [3, 4] (fun o m => ∃ (k : Nat) (s : List UInt8), k ≤ n ∧ m = .int .i64 k ∧ o = .string (bs s) ∧ digs n = digs k ++ s ∧ s.length + (digs k).length ≤ 9) (fun _ m => (intOf m).toNat)
    case atStart => exact ⟨n, [], Nat.le_refl _, rfl, rfl, by simp, by have := digs_len 9 n h; simpa using this⟩
    case round =>
      obtain ⟨k, s, hk, rfl, rfl, hd, hl⟩ := hrel
      have HD : Hid (digs n = digs k ++ s) := hd
      clear hd
      by_cases hk0 : k = 0
      · subst hk0
        have HE : Hid (bs s = bs (dec n)) := by
          show _ = _
          unfold dec
          rw [if_neg h0, HD.out, digs_zero]; rfl
        have hnn : ¬ (n : Int) < 0 := by omega
        go_wp2
        go_ret
        exact ⟨ret_str HE.out, rfl⟩
      · have hkz : ¬ (k : Int) = 0 := by omega
        have hr1 : 0 ≤ (k : Int) % 10 := by omega
        have hr2 : (k : Int) % 10 < 10 := by omega
        have hr3 : ¬ (k : Int) % 10 < 0 := by omega
        have hss : (bs s).size ≤ 9 := by rw [bs_size]; omega
        have hp := digs_pos (n := k) (by omega)
        have HN : Hid (digs n = digs (k / 10) ++ (UInt8.ofNat (48 + k % 10) :: s)) := by
          show _ = _
          rw [HD.out, hp]; simp
        have HL : Hid ((UInt8.ofNat (48 + k % 10) :: s).length + (digs (k / 10)).length ≤ 9) := by
          show _ ≤ _
          rw [hp] at hl
          simp at hl ⊢; omega
        clear hp
        go_wp2
        go_round
        case rel => exact ⟨k / 10, UInt8.ofNat (48 + k % 10) :: s, by omega, by go_num, by rw [digit_cut _ (by omega), bs_app]; rfl, HN.out, HL.out⟩
        case measure => simp [intOf]; omega

end Go.Proofs.YtficonkpbohpeaaDoor.Ss0

/- Walks of the model's powers of two and of its test of words. -/
namespace Go.Proofs.YtficonkpbohpeaaDoor.Ws1
open Go.RowKit
open Pl1
set_option linter.unusedVariables false

theorem ret_int {k : IntKind} {a b : Int} (h : a = b) : Ending.returned (.int k a) = .returned (.int k b) := by rw [h]
theorem ret_bool {a b : Bool} (h : a = b) : Ending.returned (.bool a) = .returned (.bool b) := by rw [h]

set_option maxHeartbeats 400000 in
theorem sIn (x a b : Int) (w : World) :
    Calls Tryd.prog 41 #[.int .i64 x, .int .i64 a, .int .i64 b] w fun e w' => e = .returned (.bool (decide (a ≤ x ∧ x ≤ b))) ∧ w' = w := by
  by_cases h1 : a ≤ x <;> by_cases h2 : x ≤ b
  all_goals
    go_enter Tryd.func41, Tryd.ntmps41
    go_wp2
    go_ret
    exact ⟨ret_bool (by simp <;> omega), rfl⟩

end Go.Proofs.YtficonkpbohpeaaDoor.Ws1
