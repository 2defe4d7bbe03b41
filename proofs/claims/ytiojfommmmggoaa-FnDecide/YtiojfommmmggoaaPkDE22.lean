/- Small texts of mine, one behind the other. -/
import Derived.WalkKit
import Derived.Laws.Bits64
import Derived.Laws.Bits64b
import Derived.Test.YtiojfommmmggoaaRows
import Derived.WalkSpells
import Derived.WalkLawsBesides
import Derived.Deep.QuietTactic
import Derived.BigQuiet
import Derived.Deep.Upon
import Derived.Test.YtiojfommmmggoaaPkDE21
import Derived.Test.YtiojfommmmggoaaPkDE2
import Derived.Test.YtiojfommmmggoaaPkDE1
import Derived.Test.YtiojfommmmggoaaPkDE10
import Derived.Test.YtiojfommmmggoaaPkDE3
import Derived.Test.YtiojfommmmggoaaPkDE0
/- Right tables as plain data: signs 48 and 49 at their places; words of 64 bits as Go reckons them. -/
namespace Go.Proofs.Ytiojfommmmggoaa.Ta1
open Go.RowKit
open Ta0
set_option linter.unusedVariables false

def sgn (b : Bool) : UInt8 := if b then 49 else 48
theorem sgn_toNat (b : Bool) : (sgn b).toNat = 48 + b.toNat := by cases b <;> rfl
def tab (n : Nat) (F : Nat → Bool) : List UInt8 := (List.range (2 ^ n)).map fun i => sgn (F i)
theorem tab_length (n : Nat) (F : Nat → Bool) : (tab n F).length = 2 ^ n := by simp [tab]
theorem tab_get (n : Nat) (F : Nat → Bool) (i : Nat) (h : i < (tab n F).length) : (tab n F)[i] = sgn (F i) := by simp [tab]
theorem tab_ext {n : Nat} {F G : Nat → Bool} (h : ∀ i, i < 2 ^ n → F i = G i) : tab n F = tab n G := by
  unfold tab
  refine List.map_congr_left fun i hi => ?_
  rw [h i (List.mem_range.1 hi)]
theorem list_tab {n : Nat} {F : Nat → Bool} {l : List UInt8} (hl : l.length = 2 ^ n) (h : ∀ i (hi : i < l.length), l[i] = sgn (F i)) : l = tab n F :=
  List.ext_getElem (by rw [tab_length, hl]) fun i h1 h2 => by rw [h i h1, tab_get]
def tokB (N : Int) (l : List UInt8) : Bool := decide (0 ≤ N ∧ N ≤ 12 ∧ l.length = 2 ^ N.toNat ∧ ∀ c ∈ l, c = 48 ∨ c = 49)
theorem tab_tok {n : Nat} (F : Nat → Bool) (hn : n ≤ 12) : tokB (n : Int) (tab n F) = true := by
  refine decide_eq_true ⟨by omega, by omega, by rw [tab_length, Int.toNat_natCast], fun c hc => ?_⟩
  obtain ⟨i, _, rfl⟩ := List.mem_map.1 hc
  cases F i
  · exact .inl rfl
  · exact .inr rfl
theorem tok_no {N : Int} {l : List UInt8} (h : ¬ (0 ≤ N ∧ N ≤ 12)) : tokB N l = false := decide_eq_false fun k => h ⟨k.1, k.2.1⟩
theorem tok_len {N : Int} {l : List UInt8} (h : l.length ≠ 2 ^ N.toNat) : tokB N l = false := decide_eq_false fun k => h k.2.2.1
theorem tok_sign {N : Int} {l : List UInt8} {c : UInt8} (hc : c ∈ l) (h : c ≠ 48 ∧ c ≠ 49) : tokB N l = false := decide_eq_false fun k => by
  rcases k.2.2.2 c hc with e | e
  · exact h.1 e
  · exact h.2 e
theorem p12 {n : Nat} (h : n ≤ 12) : 1 ≤ 2 ^ n ∧ 2 ^ n ≤ 4096 := ⟨Nat.one_le_two_pow, Nat.pow_le_pow_right (by omega) h⟩
theorem pcast (n : Nat) : (2 : Int) ^ n = ((2 ^ n : Nat) : Int) := by push_cast; rfl

theorem band62 {m n : Nat} (hm : m < 2 ^ 62) (hn : n < 2 ^ 62) : bits .and .i64 (m : Int) (n : Int) = ((m &&& n : Nat) : Int) := by
  have e : bits .and .i64 (m : Int) (n : Int) = IntKind.i64.wrap ((BitVec.ofInt 64 (m : Int) &&& BitVec.ofInt 64 (n : Int)).toNat : Int) := rfl
  have h := Nat.and_lt_two_pow m hn
  rw [e, BitVec.toNat_and, BitVec.ofInt_natCast, BitVec.ofInt_natCast, BitVec.toNat_ofNat, BitVec.toNat_ofNat, Nat.mod_eq_of_lt (by omega), Nat.mod_eq_of_lt (by omega), IntKind.wrap_i64]
  omega
theorem bor62 {m n : Nat} (hm : m < 2 ^ 62) (hn : n < 2 ^ 62) : bits .or .i64 (m : Int) (n : Int) = ((m ||| n : Nat) : Int) := by
  have e : bits .or .i64 (m : Int) (n : Int) = IntKind.i64.wrap ((BitVec.ofInt 64 (m : Int) ||| BitVec.ofInt 64 (n : Int)).toNat : Int) := rfl
  have h := Nat.or_lt_two_pow hm hn
  rw [e, BitVec.toNat_or, BitVec.ofInt_natCast, BitVec.ofInt_natCast, BitVec.toNat_ofNat, BitVec.toNat_ofNat, Nat.mod_eq_of_lt (by omega), Nat.mod_eq_of_lt (by omega), IntKind.wrap_i64]
  omega
theorem wrapu {x : Nat} (h : x < 18446744073709551616) : IntKind.u64.wrap (x : Int) = (x : Int) := by rw [IntKind.wrap_u64]; omega

end Go.Proofs.Ytiojfommmmggoaa.Ta1

/- Strings as lists of bytes; the walk of the model's number in decimal digits. -/
namespace Go.Proofs.Ytiojfommmmggoaa.Ss0
open Go.RowKit
open Nd0 Tx0
set_option linter.unusedVariables false

def bs (l : List UInt8) : ByteArray := ⟨l.toArray⟩
theorem bs_size (l : List UInt8) : (bs l).size = l.length := by simp [bs, ByteArray.size]
theorem bs_ext (l : List UInt8) (i j : Nat) : (bs l).extract i j = bs ((l.take j).drop i) := by
  apply ByteArray.ext
  simp only [bs, ByteArray.data_extract]
  apply Array.ext'
  simp [List.extract_eq_take_drop, List.drop_take]
end Go.Proofs.Ytiojfommmmggoaa.Ss0

/- What TableOf tells. -/
namespace Go.Proofs.Ytiojfommmmggoaa.To0t
open Go.RowKit
open Nd0 Qa0 Fr0 To0
open Ta1 (tab)
open Ss0 (bs)
set_option linter.unusedVariables false

def toB (q : List Qu) (l : List Nd) : Bool := fewB q && frontOkB q l
def toN (q : List Qu) (l : List Nd) : Int := if toB q l then (bitL q : Int) else 0
def toS (q : List Qu) (l : List Nd) : ByteArray := if toB q l then bs (tab (bitL q) (atL q l)) else ⟨#[]⟩
theorem to_no {q : List Qu} {l : List Nd} (h : toB q l = false) : toN q l = 0 ∧ toS q l = ⟨#[]⟩ := by unfold toN toS; rw [h]; exact ⟨rfl, rfl⟩
theorem to_yes {q : List Qu} {l : List Nd} (h : toB q l = true) : toN q l = (bitL q : Int) ∧ toS q l = bs (tab (bitL q) (atL q l)) := by unfold toN toS; rw [h]; exact ⟨rfl, rfl⟩

end Go.Proofs.Ytiojfommmmggoaa.To0t

/- Walks of the program's small tests of operators, of words, and of its Parts. -/
namespace Go.Proofs.Ytiojfommmmggoaa.Pg1
open Go.RowKit
open Nd0 Tm0 Tm5 Pl1 Ap0
open Ws1 (ret_int ret_bool)
set_option linter.unusedVariables false

end Go.Proofs.Ytiojfommmmggoaa.Pg1

/- Walks of chapter 1: the small functions on words, in the program and in its model. -/
namespace Go.Proofs.Ytiojfommmmggoaa.Wd1
open Go.RowKit
open Pl1
set_option linter.unusedVariables false

theorem ret_int {k : IntKind} {a b : Int} (h : a = b) : Ending.returned (.int k a) = .returned (.int k b) := by rw [h]
theorem ret_bool {a b : Bool} (h : a = b) : Ending.returned (.bool a) = .returned (.bool b) := by rw [h]

set_option maxHeartbeats 400000 in
theorem spow (m : Int) (w : World) (h0 : 0 ≤ m) (h1 : m ≤ 8) :
    Calls Try.prog 26 #[.int .i64 m] w fun e w' => e = .returned (.int .i64 (p2 m.toNat)) ∧ w' = w := by
  obtain ⟨n, rfl⟩ := Int.eq_ofNat_of_zero_le h0
  rw [Int.toNat_natCast]
  go_enter Try.func26, Try.ntmps26
  go_wp2
  go_loop [3, 4] (fun x i => ∃ k : Nat, k ≤ n ∧ i = .int .i64 k ∧ x = .int .i64 (p2 k)) (fun _ i => n - (intOf i).toNat)
  case atStart => exact ⟨0, Nat.zero_le _, rfl, rfl⟩
  case round =>
    obtain ⟨k, hk, rfl, rfl⟩ := hrel
    have hp := p2_pos k
    have hl := p2_le k (by omega)
    by_cases hlt : k < n
    · go_wp2
      go_round
      case rel => exact ⟨k + 1, by omega, by go_num, by rw [p2_succ]⟩
      case measure => simp [intOf]; omega
    · go_wp2
      go_ret
      have : k = n := by omega
      subst this
      exact ⟨rfl, rfl⟩

set_option maxHeartbeats 400000 in
theorem sIn (x a b : Int) (w : World) :
    Calls Try.prog 46 #[.int .i64 x, .int .i64 a, .int .i64 b] w fun e w' => e = .returned (.bool (decide (a ≤ x ∧ x ≤ b))) ∧ w' = w := by
  by_cases h1 : a ≤ x <;> by_cases h2 : x ≤ b
  all_goals
    go_enter Try.func46, Try.ntmps46
    go_wp2
    go_ret
    exact ⟨ret_bool (by simp <;> omega), rfl⟩

set_option maxHeartbeats 400000 in
theorem sWordOk (m a : Int) (w : World) :
    Calls Try.prog 65 #[.int .i64 m, .int .i64 a] w fun e w' => e = .returned (.bool (wok m a)) ∧ w' = w := by
  by_cases h : 1 ≤ m ∧ m ≤ 8
  · have hp := p2_pos m.toNat
    have hl := p2_le m.toNat (by omega)
    have hd : decide (1 ≤ m ∧ m ≤ 8) = true := by simpa using h
    go_enter Try.func65, Try.ntmps65
    go_wp2_with (first | (go_at_call 46; refine (sIn _ _ _ _).mono ?_; rintro e w' ⟨rfl, rfl⟩) | (go_at_call 26; refine (spow m _ (by omega) (by omega)).mono ?_; rintro e w' ⟨rfl, rfl⟩))
    go_ret
    exact ⟨ret_bool (by rw [Bool.eq_iff_iff]; simp [wok]; omega), rfl⟩
  · have hd : decide (1 ≤ m ∧ m ≤ 8) = false := by simpa using h
    go_enter Try.func65, Try.ntmps65
    go_wp2_with (go_at_call 46; refine (sIn _ _ _ _).mono ?_; rintro e w' ⟨rfl, rfl⟩)
    go_ret
    exact ⟨ret_bool (by unfold wok; symm; rw [decide_eq_false_iff_not]; omega), rfl⟩

set_option maxHeartbeats 400000 in
theorem sTwo (m a b : Int) (w : World) :
    Calls Try.prog 83 #[.int .i64 m, .int .i64 a, .int .i64 b] w fun e w' => e = .returned (.bool (wok m a && wok m b)) ∧ w' = w := by
  cases hA : wok m a
  all_goals
    go_enter Try.func83, Try.ntmps83
    go_wp2_with (go_at_call 65; refine (sWordOk _ _ _).mono ?_; rintro e w' ⟨rfl, rfl⟩)
    go_ret
    exact ⟨ret_bool (by simp), rfl⟩

end Go.Proofs.Ytiojfommmmggoaa.Wd1

/- Walks of chapter 1: the operations on words, in the program and in its model: each answers the same plain function. -/
namespace Go.Proofs.Ytiojfommmmggoaa.Wd2
open Go.RowKit
open Pl1 Wd1
set_option linter.unusedVariables false

theorem two_iff {m a b : Int} (h : (wok m a && wok m b) = true) : 1 ≤ m ∧ m ≤ 8 ∧ 0 ≤ a ∧ a < p2 m.toNat ∧ 0 ≤ b ∧ b < p2 m.toNat ∧ p2 m.toNat ≤ 256 := by
  rw [Bool.and_eq_true] at h
  obtain ⟨h1, h2, h3, h4⟩ := wok_iff.1 h.1
  obtain ⟨_, _, h5, h6⟩ := wok_iff.1 h.2
  exact ⟨h1, h2, h3, h4, h5, h6, p2_le _ (by omega)⟩
theorem one_iff {m a : Int} (h : wok m a = true) : 1 ≤ m ∧ m ≤ 8 ∧ 0 ≤ a ∧ a < p2 m.toNat ∧ p2 m.toNat ≤ 256 := by
  obtain ⟨h1, h2, h3, h4⟩ := wok_iff.1 h
  exact ⟨h1, h2, h3, h4, p2_le _ (by omega)⟩

set_option maxHeartbeats 400000 in
theorem sAdd (m a b : Int) (w : World) :
    Calls Try.prog 70 #[.int .i64 m, .int .i64 a, .int .i64 b] w fun e w' => e = .returned (.int .i64 (vAdd m a b)) ∧ w' = w := by
  cases h : (wok m a && wok m b)
  · have HV : Hid (vAdd m a b = 0) := by show vAdd m a b = 0; simp [vAdd, h]
    go_enter Try.func70, Try.ntmps70
    go_wp2_with (go_at_call 83; refine (sTwo _ _ _ _).mono ?_; rintro e w' ⟨rfl, rfl⟩)
    go_ret
    exact ⟨ret_int HV.out.symm, rfl⟩
  · obtain ⟨h1, h2, h3, h4, h5, h6, h7⟩ := two_iff h
    have HV : Hid (vAdd m a b = (a + b) % p2 m.toNat) := by show vAdd m a b = _; simp [vAdd, h]
    have hp := p2_pos m.toNat
    go_enter Try.func70, Try.ntmps70
    go_wp2_with (first | (go_at_call 83; refine (sTwo _ _ _ _).mono ?_; rintro e w' ⟨rfl, rfl⟩) | (go_at_call 26; refine (spow _ _ (by omega) (by omega)).mono ?_; rintro e w' ⟨rfl, rfl⟩))
    go_ret
    exact ⟨ret_int HV.out.symm, rfl⟩

set_option maxHeartbeats 400000 in
theorem sSub (m a b : Int) (w : World) :
    Calls Try.prog 71 #[.int .i64 m, .int .i64 a, .int .i64 b] w fun e w' => e = .returned (.int .i64 (vSub m a b)) ∧ w' = w := by
  cases h : (wok m a && wok m b)
  · have HV : Hid (vSub m a b = 0) := by show vSub m a b = 0; simp [vSub, h]
    go_enter Try.func71, Try.ntmps71
    go_wp2_with (go_at_call 83; refine (sTwo _ _ _ _).mono ?_; rintro e w' ⟨rfl, rfl⟩)
    go_ret
    exact ⟨ret_int HV.out.symm, rfl⟩
  · obtain ⟨h1, h2, h3, h4, h5, h6, h7⟩ := two_iff h
    have HV : Hid (vSub m a b = (a + p2 m.toNat - b) % p2 m.toNat) := by show vSub m a b = _; rw [sub_spec]; simp [vSub, h]
    have hp := p2_pos m.toNat
    go_enter Try.func71, Try.ntmps71
    go_wp2_with (first | (go_at_call 83; refine (sTwo _ _ _ _).mono ?_; rintro e w' ⟨rfl, rfl⟩) | (go_at_call 26; refine (spow _ _ (by omega) (by omega)).mono ?_; rintro e w' ⟨rfl, rfl⟩))
    go_ret
    exact ⟨ret_int HV.out.symm, rfl⟩

set_option maxHeartbeats 400000 in
theorem sMul (m a b : Int) (w : World) :
    Calls Try.prog 72 #[.int .i64 m, .int .i64 a, .int .i64 b] w fun e w' => e = .returned (.int .i64 (vMul m a b)) ∧ w' = w := by
  cases h : (wok m a && wok m b)
  · have HV : Hid (vMul m a b = 0) := by show vMul m a b = 0; simp [vMul, h]
    go_enter Try.func72, Try.ntmps72
    go_wp2_with (go_at_call 83; refine (sTwo _ _ _ _).mono ?_; rintro e w' ⟨rfl, rfl⟩)
    go_ret
    exact ⟨ret_int HV.out.symm, rfl⟩
  · obtain ⟨h1, h2, h3, h4, h5, h6, h7⟩ := two_iff h
    have HV : Hid (vMul m a b = a * b % p2 m.toNat) := by show vMul m a b = _; simp [vMul, h]
    have hp := p2_pos m.toNat
    obtain ⟨hb1, hb2⟩ := mul_bd h3 (by omega) h5 (by omega)
    go_enter Try.func72, Try.ntmps72
    go_wp2_with (first | (go_at_call 83; refine (sTwo _ _ _ _).mono ?_; rintro e w' ⟨rfl, rfl⟩) | (go_at_call 26; refine (spow _ _ (by omega) (by omega)).mono ?_; rintro e w' ⟨rfl, rfl⟩))
    go_ret
    exact ⟨ret_int HV.out.symm, rfl⟩

end Go.Proofs.Ytiojfommmmggoaa.Wd2

/- Walks of chapter 1, second part: division, shifts, flips, orders, joins and slices of words, in the program and in its model. -/
namespace Go.Proofs.Ytiojfommmmggoaa.Wd3
open Go.RowKit
open Pl1 Wd1 Wd2
set_option linter.unusedVariables false

theorem div_bd {a b : Int} (ha : 0 ≤ a) (hb : 0 ≤ b) : 0 ≤ a / b ∧ a / b ≤ a := ⟨Int.ediv_nonneg ha hb, Int.ediv_le_self _ ha⟩
theorem rem_bd {a b : Int} (ha : 0 ≤ a) (hb : 0 ≤ b) (hz : ¬ b = 0) : 0 ≤ a % b ∧ a % b < b := ⟨Int.emod_nonneg _ hz, Int.emod_lt_of_pos _ (by omega)⟩

set_option maxHeartbeats 400000 in
theorem sDiv (m a b : Int) (w : World) :
    Calls Try.prog 73 #[.int .i64 m, .int .i64 a, .int .i64 b] w fun e w' => e = .returned (.int .i64 (vDiv m a b)) ∧ w' = w := by
  cases h : (wok m a && wok m b)
  · have HV : Hid (vDiv m a b = 0) := by show vDiv m a b = 0; simp [vDiv, h]
    go_enter Try.func73, Try.ntmps73
    go_wp2_with (go_at_call 83; refine (sTwo _ _ _ _).mono ?_; rintro e w' ⟨rfl, rfl⟩)
    go_ret
    exact ⟨ret_int HV.out.symm, rfl⟩
  · obtain ⟨h1, h2, h3, h4, h5, h6, h7⟩ := two_iff h
    by_cases hz : b = 0
    · subst hz
      have HV : Hid (vDiv m a 0 = p2 m.toNat - 1) := by show vDiv m a 0 = _; unfold vDiv; rw [h]; rfl
      have hp := p2_pos m.toNat
      go_enter Try.func73, Try.ntmps73
      go_wp2_with (first | (go_at_call 83; refine (sTwo _ _ _ _).mono ?_; rintro e w' ⟨rfl, rfl⟩) | (go_at_call 26; refine (spow _ _ (by omega) (by omega)).mono ?_; rintro e w' ⟨rfl, rfl⟩))
      all_goals
        go_ret
        exact ⟨ret_int HV.out.symm, rfl⟩
    · have HV : Hid (vDiv m a b = a / b) := by show vDiv m a b = _; simp [vDiv, h, hz]
      have hp := p2_pos m.toNat
      have hz' : (b == 0) = false := by simpa using hz
      obtain ⟨hd1, hd2⟩ := div_bd h3 h5
      go_enter Try.func73, Try.ntmps73
      go_wp2_with (first | (go_at_call 83; refine (sTwo _ _ _ _).mono ?_; rintro e w' ⟨rfl, rfl⟩) | (go_at_call 26; refine (spow _ _ (by omega) (by omega)).mono ?_; rintro e w' ⟨rfl, rfl⟩))
      all_goals
        go_ret
        exact ⟨ret_int HV.out.symm, rfl⟩

set_option maxHeartbeats 400000 in
theorem sRem (m a b : Int) (w : World) :
    Calls Try.prog 74 #[.int .i64 m, .int .i64 a, .int .i64 b] w fun e w' => e = .returned (.int .i64 (vRem m a b)) ∧ w' = w := by
  cases h : (wok m a && wok m b)
  · have HV : Hid (vRem m a b = 0) := by show vRem m a b = 0; simp [vRem, h]
    go_enter Try.func74, Try.ntmps74
    go_wp2_with (go_at_call 83; refine (sTwo _ _ _ _).mono ?_; rintro e w' ⟨rfl, rfl⟩)
    go_ret
    exact ⟨ret_int HV.out.symm, rfl⟩
  · obtain ⟨h1, h2, h3, h4, h5, h6, h7⟩ := two_iff h
    by_cases hz : b = 0
    · subst hz
      have HV : Hid (vRem m a 0 = a) := by show vRem m a 0 = _; unfold vRem; rw [h]; rfl
      have hp := p2_pos m.toNat
      go_enter Try.func74, Try.ntmps74
      go_wp2_with (first | (go_at_call 83; refine (sTwo _ _ _ _).mono ?_; rintro e w' ⟨rfl, rfl⟩) | fail)
      all_goals
        go_ret
        exact ⟨ret_int HV.out.symm, rfl⟩
    · have HV : Hid (vRem m a b = a % b) := by show vRem m a b = _; simp [vRem, h, hz]
      have hp := p2_pos m.toNat
      have hz' : (b == 0) = false := by simpa using hz
      obtain ⟨hd1, hd2⟩ := rem_bd h3 h5 hz
      go_enter Try.func74, Try.ntmps74
      go_wp2_with (first | (go_at_call 83; refine (sTwo _ _ _ _).mono ?_; rintro e w' ⟨rfl, rfl⟩) | fail)
      all_goals
        go_ret
        exact ⟨ret_int HV.out.symm, rfl⟩

end Go.Proofs.Ytiojfommmmggoaa.Wd3
