/- Small texts of mine, one behind the other. -/
import Derived.Test.YtejgcchkhljnjaaGreatRows
import Derived.WalkKit
import Derived.WalkSpells
import Derived.WalkLawsBesides
import Derived.Test.YtejgcchkhljnjaaGreatPkNM0
import Derived.Test.YtejgcchkhljnjaaGreatPkNM2
import Derived.Test.YtejgcchkhljnjaaGreatPkNM3
import Derived.Test.YtejgcchkhljnjaaGreatPkNM17
import Derived.Test.YtejgcchkhljnjaaGreatPkNM16
import Derived.Test.YtejgcchkhljnjaaGreatPkNM1
/- What the program's functions of chapter 2 are to do. -/
namespace Go.Proofs.YtejgcchkhljnjaaGreat.Lx1
open Go.RowKit
open Nd0 Nd3 Tm0 Tm1 Tm2 Tm3 Tm4 Tm5 Tm6 Tm11
/-- What the program's TermOk is to do. -/
def ITermOk : Prop := ∀ (w : World) (a : Option Addr) (l : List Nd) (c : Nat), Nodes w a l → l.length ≤ c → l.length ≤ 1048576 →
    Calls Tryz.prog 44 #[.slice a l.length c] w fun e w' => e = .returned (.bool (termOk l)) ∧ Below w.heap.size w w'
end Go.Proofs.YtejgcchkhljnjaaGreat.Lx1
namespace Go.Proofs.YtejgcchkhljnjaaGreat.Lx2
open Go.RowKit
open Nd0 Nd3 Tm0 Tm1 Tm2 Tm3 Tm4 Tm5 Tm6 Tm11
/-- What the program's Reached is to do. -/
def IReached : Prop := ∀ (w : World) (a : Option Addr) (l : List Nd) (c : Nat), Nodes w a l → l.length ≤ c → l.length ≤ 1048576 →
    Calls Tryz.prog 86 #[.slice a l.length c] w fun e w' => (∃ a' c', e = .returned (.slice a' (reachedL l).length c') ∧ WInts w' w.heap.size a' (reachedL l)) ∧ Below w.heap.size w w'
end Go.Proofs.YtejgcchkhljnjaaGreat.Lx2
namespace Go.Proofs.YtejgcchkhljnjaaGreat.Lx3
open Go.RowKit
open Nd0 Nd3 Tm0 Tm1 Tm2 Tm3 Tm4 Tm5 Tm6 Tm11
/-- What the program's Free is to do. -/
def IFree : Prop := ∀ (w : World) (a : Option Addr) (l : List Nd) (c : Nat), Nodes w a l → l.length ≤ c → l.length ≤ 1048576 →
    Calls Tryz.prog 28 #[.slice a l.length c] w fun e w' => (∃ a' c', e = .returned (.slice a' (freeL l).length c') ∧ WInts w' w.heap.size a' (freeL l)) ∧ Below w.heap.size w w'
end Go.Proofs.YtejgcchkhljnjaaGreat.Lx3
namespace Go.Proofs.YtejgcchkhljnjaaGreat.Lx4
open Go.RowKit
open Nd0 Nd3 Tm0 Tm1 Tm2 Tm3 Tm4 Tm5 Tm6 Tm11
/-- What the program's Prune is to do. -/
def IPrune : Prop := ∀ (w : World) (a : Option Addr) (l : List Nd) (c : Nat), Nodes w a l → l.length ≤ c → l.length ≤ 1048576 →
    Calls Tryz.prog 45 #[.slice a l.length c] w fun e w' => (∃ a' c', e = .returned (.slice a' (pruneL l).length c') ∧ WNodes w' w.heap.size a' (pruneL l) ∧ (pruneL l).length ≤ c') ∧ Below w.heap.size w w'
end Go.Proofs.YtejgcchkhljnjaaGreat.Lx4
namespace Go.Proofs.YtejgcchkhljnjaaGreat.Lx6
open Go.RowKit
open Nd0 Nd3 Tm0 Tm1 Tm2 Tm3 Tm4 Tm5 Tm6 Tm11
/-- What the program's Sentence is to do. -/
def ISentence : Prop := ∀ (w : World) (a : Option Addr) (l : List Nd) (c : Nat), Nodes w a l → l.length ≤ c → l.length ≤ 1048576 →
    Calls Tryz.prog 36 #[.slice a l.length c] w fun e w' => e = .returned (.bool (sentB l)) ∧ Below w.heap.size w w'
/-- What the program's Bits is to do. -/
def IBits : Prop := ∀ (w : World) (a : Option Addr) (l : List Nd) (c : Nat), Nodes w a l → l.length ≤ c → l.length ≤ 1048576 →
    Calls Tryz.prog 37 #[.slice a l.length c] w fun e w' => e = .returned (.int .i64 (bitsL l)) ∧ Below w.heap.size w w'
end Go.Proofs.YtejgcchkhljnjaaGreat.Lx6

/- What the program's functions of chapter 4 are to do. -/
namespace Go.Proofs.YtejgcchkhljnjaaGreat.Ic4
open Go.RowKit
open Nd0 Nd3 Tm0 Vl1 Vl4 Vl5
def IApply : Prop := ∀ (n : Nd) (W a b c : Int) (w : World), (Lit.int .i64 n.k).wf = true →
    Calls Tryz.prog 98 #[.agg #[.int .i64 n.op, .int .i64 n.w, .int .i64 n.k, .int .i64 n.a, .int .i64 n.b, .int .i64 n.c], .int .i64 W, .int .i64 a, .int .i64 b, .int .i64 c] w fun e w' => e = .returned (.int .i64 (applyL n.op n.w n.k W a b c)) ∧ Below w.heap.size w w'
def IValue : Prop := ∀ (w : World) (a ae : Option Addr) (l : List Nd) (e : List Int) (c ce : Nat), Nodes w a l → l.length ≤ c → l.length ≤ 1048576 → Ints w ae e → e.length ≤ ce →
    Calls Tryz.prog 16 #[.slice a l.length c, .slice ae e.length ce] w fun x w' => x = .returned (.tuple #[.int .i64 ((valueL l e).getD 0), .bool (valueL l e).isSome]) ∧ Below w.heap.size w w'
def IHolds : Prop := ∀ (w : World) (a : Option Addr) (l : List Nd) (c : Nat), Nodes w a l → l.length ≤ c → l.length ≤ 1048576 →
    Calls Tryz.prog 21 #[.slice a l.length c] w fun x w' => x = .returned (.tuple #[.int .i64 ((holdsL l).getD 0), .bool (holdsL l).isSome]) ∧ Below w.heap.size w w'
end Go.Proofs.YtejgcchkhljnjaaGreat.Ic4

/- What is kept, past blocks that were made since. -/
namespace Go.Proofs.YtejgcchkhljnjaaGreat.Kp1
open Go.RowKit
open Nd0 Rw0 Rw1 Tm6
theorem Kept.past {S T : Nat → Prop} {u v w : World} (h : Kept S u v) (k : Kept T v w) (hT : ∀ b, T b → S b ∨ u.heap.size ≤ b) : Kept S u w :=
  ⟨k.os.trans h.os, k.tape.trans h.tape, k.output.trans h.output, Nat.le_trans h.size k.size, fun i hi hb => (k.block i (Nat.lt_of_lt_of_le hi h.size) (fun t => by
    rcases hT i t with e | e
    · exact hb e
    · omega)).trans (h.block i hi hb)⟩
def Env (w : World) (g : Nat) (e : List Int) : Prop := Row w g 8 (fun i => .int .i64 (wd e (i : Int)))
theorem Env.kept {w w' : World} {g : Nat} {e : List Int} (h : Env w g e) {S : Nat → Prop} (k : Kept S w w') (hs : ¬ S g) : Env w' g e := Row.kept h k hs
theorem Env.lt {w : World} {g : Nat} {e : List Int} (h : Env w g e) : g < w.heap.size := Row.lt h (by omega)
theorem Env.set {w : World} {g : Nat} {e : List Int} (h : Env w g e) (he : e.length = 8) {p : Nat} (hp : p < 8) (x : Int) : Env (w.setCell ⟨g, p, none⟩ (.int .i64 x)) g (e.set p x) := row_set_int h he hp x
theorem Env.at {w : World} {g : Nat} {e : List Int} (h : Env w g e) {k : Int} (h0 : 0 ≤ k) (h7 : k ≤ 7) : w.cell? ⟨g, k.toNat, none⟩ = some (.int .i64 (wd e k)) ∧ w.frozen? ⟨g, k.toNat, none⟩ = false := by
  have := h k.toNat (by omega)
  dsimp only at this
  rw [Int.toNat_of_nonneg h0] at this
  exact this
end Go.Proofs.YtejgcchkhljnjaaGreat.Kp1

/- Bits of small numbers. -/
namespace Go.Proofs.YtejgcchkhljnjaaGreat.Bt0
open Go.RowKit
open Pl1 Vl1 Vl2
set_option linter.unusedVariables false

theorem nat8 {a : Int} (h : 0 ≤ a ∧ a ≤ 255) : ∃ m : Nat, a = (m : Int) ∧ m < 2 ^ 8 := ⟨a.toNat, by omega, by omega⟩
theorem wrap8 {m : Nat} (h : m < 2 ^ 8) : IntKind.i64.wrap (m : Int) = (m : Int) := by rw [IntKind.wrap_i64]; omega
theorem mod64 {m : Nat} (h : m < 2 ^ 8) : m % 2 ^ 64 = m := Nat.mod_eq_of_lt (by omega)
theorem band {a b : Int} (ha : 0 ≤ a ∧ a ≤ 255) (hb : 0 ≤ b ∧ b ≤ 255) : bits .and .i64 a b = nAnd a b := by
  obtain ⟨m, rfl, hm⟩ := nat8 ha
  obtain ⟨n, rfl, hn⟩ := nat8 hb
  have e : bits .and .i64 (m : Int) (n : Int) = IntKind.i64.wrap ((BitVec.ofInt 64 (m : Int) &&& BitVec.ofInt 64 (n : Int)).toNat : Int) := rfl
  rw [e, BitVec.toNat_and, BitVec.ofInt_natCast, BitVec.ofInt_natCast, BitVec.toNat_ofNat, BitVec.toNat_ofNat, mod64 hm, mod64 hn, wrap8 (Nat.and_lt_two_pow _ hn)]
  rfl
theorem bor {a b : Int} (ha : 0 ≤ a ∧ a ≤ 255) (hb : 0 ≤ b ∧ b ≤ 255) : bits .or .i64 a b = nOr a b := by
  obtain ⟨m, rfl, hm⟩ := nat8 ha
  obtain ⟨n, rfl, hn⟩ := nat8 hb
  have e : bits .or .i64 (m : Int) (n : Int) = IntKind.i64.wrap ((BitVec.ofInt 64 (m : Int) ||| BitVec.ofInt 64 (n : Int)).toNat : Int) := rfl
  rw [e, BitVec.toNat_or, BitVec.ofInt_natCast, BitVec.ofInt_natCast, BitVec.toNat_ofNat, BitVec.toNat_ofNat, mod64 hm, mod64 hn, wrap8 (Nat.or_lt_two_pow hm hn)]
  rfl
theorem bxor {a b : Int} (ha : 0 ≤ a ∧ a ≤ 255) (hb : 0 ≤ b ∧ b ≤ 255) : bits .xor .i64 a b = nXor a b := by
  obtain ⟨m, rfl, hm⟩ := nat8 ha
  obtain ⟨n, rfl, hn⟩ := nat8 hb
  have e : bits .xor .i64 (m : Int) (n : Int) = IntKind.i64.wrap ((BitVec.ofInt 64 (m : Int) ^^^ BitVec.ofInt 64 (n : Int)).toNat : Int) := rfl
  rw [e, BitVec.toNat_xor, BitVec.ofInt_natCast, BitVec.ofInt_natCast, BitVec.toNat_ofNat, BitVec.toNat_ofNat, mod64 hm, mod64 hn, wrap8 (Nat.xor_lt_two_pow hm hn)]
  rfl
theorem bor16 {m n : Nat} (hm : m < 2 ^ 9) (hn : n < 2 ^ 9) : bits .or .i64 (m : Int) (n : Int) = ((m ||| n : Nat) : Int) := by
  have e : bits .or .i64 (m : Int) (n : Int) = IntKind.i64.wrap ((BitVec.ofInt 64 (m : Int) ||| BitVec.ofInt 64 (n : Int)).toNat : Int) := rfl
  have h := Nat.or_lt_two_pow hm hn
  rw [e, BitVec.toNat_or, BitVec.ofInt_natCast, BitVec.ofInt_natCast, BitVec.toNat_ofNat, BitVec.toNat_ofNat, Nat.mod_eq_of_lt (by omega), Nat.mod_eq_of_lt (by omega), IntKind.wrap_i64]
  omega

end Go.Proofs.YtejgcchkhljnjaaGreat.Bt0

/- Walks of chapter 1: the small functions on words, in the program and in its model. -/
namespace Go.Proofs.YtejgcchkhljnjaaGreat.Wd1
open Go.RowKit
open Pl1
set_option linter.unusedVariables false

theorem ret_int {k : IntKind} {a b : Int} (h : a = b) : Ending.returned (.int k a) = .returned (.int k b) := by rw [h]
theorem ret_bool {a b : Bool} (h : a = b) : Ending.returned (.bool a) = .returned (.bool b) := by rw [h]

set_option maxHeartbeats 400000 in
theorem spow (m : Int) (w : World) (h0 : 0 ≤ m) (h1 : m ≤ 8) :
    Calls Tryz.prog 111 #[.int .i64 m] w fun e w' => e = .returned (.int .i64 (p2 m.toNat)) ∧ w' = w := by
  obtain ⟨n, rfl⟩ := Int.eq_ofNat_of_zero_le h0
  rw [Int.toNat_natCast]
  go_enter Tryz.func111, Tryz.ntmps111
  go_wp2
  go_loop [3, 4] (fun x i => ∃ k : Nat, k ≤ n ∧ i = .int .i64 k ∧ x = .int .i64 (p2 k)) (fun _ i => n - (intOf i).toNat)
  case atStart => exact ⟨0, Nat.zero_le _, rfl, rfl⟩
  case round =>
    obtain ⟨k, hk, rfl, rfl⟩ := hrel
    have hp := p2_pos k
    have hl := p2_le k (by omega)
    by_cases hlt : k < n
    · go_wp2
      go_round
      case rel => exact ⟨k + 1, by omega, by go_num, by rw [p2_succ]⟩
      case measure => simp [intOf]; omega
    · go_wp2
      go_ret
      have : k = n := by omega
      subst this
      exact ⟨rfl, rfl⟩

set_option maxHeartbeats 400000 in
theorem mask (m : Int) (w : World) (h0 : 1 ≤ m) (h1 : m ≤ 8) :
    Calls Tryz.prog 214 #[.int .i64 m] w fun e w' => e = .returned (.int .u8 (p2 m.toNat - 1)) ∧ w' = w := by
  rcases eight h0 h1 with rfl | rfl | rfl | rfl | rfl | rfl | rfl | rfl
  all_goals
    go_enter Tryz.func214, Tryz.ntmps214
    go_wp2
    go_ret
    exact ⟨rfl, rfl⟩

set_option maxHeartbeats 400000 in
theorem cut (a m : Int) (w : World) (ha : 0 ≤ a) (hb : a ≤ 255) (h0 : 1 ≤ m) (h1 : m ≤ 8) :
    Calls Tryz.prog 209 #[.int .u8 a, .int .i64 m] w fun e w' => e = .returned (.int .u8 (a % p2 m.toNat)) ∧ w' = w := by
  have hm := and_mask a m.toNat ha hb (by omega)
  go_enter Tryz.func209, Tryz.ntmps209
  go_wp2_with (go_at_call 214; refine (mask m _ h0 h1).mono ?_; rintro e w' ⟨rfl, rfl⟩)
  go_ret
  exact ⟨rfl, rfl⟩

set_option maxHeartbeats 400000 in
theorem sIn (x a b : Int) (w : World) :
    Calls Tryz.prog 64 #[.int .i64 x, .int .i64 a, .int .i64 b] w fun e w' => e = .returned (.bool (decide (a ≤ x ∧ x ≤ b))) ∧ w' = w := by
  by_cases h1 : a ≤ x <;> by_cases h2 : x ≤ b
  all_goals
    go_enter Tryz.func64, Tryz.ntmps64
    go_wp2
    go_ret
    exact ⟨ret_bool (by simp <;> omega), rfl⟩

set_option maxHeartbeats 400000 in
theorem sWordOk (m a : Int) (w : World) :
    Calls Tryz.prog 139 #[.int .i64 m, .int .i64 a] w fun e w' => e = .returned (.bool (wok m a)) ∧ w' = w := by
  by_cases h : 1 ≤ m ∧ m ≤ 8
  · have hp := p2_pos m.toNat
    have hl := p2_le m.toNat (by omega)
    have hd : decide (1 ≤ m ∧ m ≤ 8) = true := by simpa using h
    go_enter Tryz.func139, Tryz.ntmps139
    go_wp2_with (first | (go_at_call 64; refine (sIn _ _ _ _).mono ?_; rintro e w' ⟨rfl, rfl⟩) | (go_at_call 111; refine (spow m _ (by omega) (by omega)).mono ?_; rintro e w' ⟨rfl, rfl⟩))
    go_ret
    exact ⟨ret_bool (by rw [Bool.eq_iff_iff]; simp [wok]; omega), rfl⟩
  · have hd : decide (1 ≤ m ∧ m ≤ 8) = false := by simpa using h
    go_enter Tryz.func139, Tryz.ntmps139
    go_wp2_with (go_at_call 64; refine (sIn _ _ _ _).mono ?_; rintro e w' ⟨rfl, rfl⟩)
    go_ret
    exact ⟨ret_bool (by unfold wok; symm; rw [decide_eq_false_iff_not]; omega), rfl⟩

set_option maxHeartbeats 400000 in
theorem sTwo (m a b : Int) (w : World) :
    Calls Tryz.prog 147 #[.int .i64 m, .int .i64 a, .int .i64 b] w fun e w' => e = .returned (.bool (wok m a && wok m b)) ∧ w' = w := by
  cases hA : wok m a
  all_goals
    go_enter Tryz.func147, Tryz.ntmps147
    go_wp2_with (go_at_call 139; refine (sWordOk _ _ _).mono ?_; rintro e w' ⟨rfl, rfl⟩)
    go_ret
    exact ⟨ret_bool (by simp), rfl⟩

set_option maxHeartbeats 400000 in
theorem iWidthOk (m : Int) (w : World) :
    Calls Tryz.prog 140 #[.int .i64 m] w fun e w' => e = .returned (.bool (decide (1 ≤ m ∧ m ≤ 8))) ∧ w' = w := by
  by_cases h1 : 1 ≤ m <;> by_cases h2 : m ≤ 8
  all_goals
    go_enter Tryz.func140, Tryz.ntmps140
    go_wp2
    go_ret
    exact ⟨ret_bool (by simp <;> omega), rfl⟩

set_option maxHeartbeats 400000 in
theorem iWordOk (m a : Int) (w : World) :
    Calls Tryz.prog 151 #[.int .i64 m, .int .i64 a] w fun e w' => e = .returned (.bool (wok m a)) ∧ w' = w := by
  by_cases h : 1 ≤ m ∧ m ≤ 8
  · have hd : decide (1 ≤ m ∧ m ≤ 8) = true := by simpa using h
    by_cases ha : 0 ≤ a
    all_goals
      go_enter Tryz.func151, Tryz.ntmps151
      go_wp2_with (go_at_call 140; refine (iWidthOk _ _).mono ?_; rintro e w' ⟨rfl, rfl⟩)
      go_ret
      exact ⟨ret_bool (by rw [Bool.eq_iff_iff]; try rw [wrap_p2 _ (by omega)]
                          simp [wok]; omega), rfl⟩
  · have hd : decide (1 ≤ m ∧ m ≤ 8) = false := by simpa using h
    go_enter Tryz.func151, Tryz.ntmps151
    go_wp2_with (go_at_call 140; refine (iWidthOk _ _).mono ?_; rintro e w' ⟨rfl, rfl⟩)
    go_ret
    exact ⟨ret_bool (by unfold wok; symm; rw [decide_eq_false_iff_not]; omega), rfl⟩

set_option maxHeartbeats 400000 in
theorem iTwo (m a b : Int) (w : World) :
    Calls Tryz.prog 200 #[.int .i64 m, .int .i64 a, .int .i64 b] w fun e w' => e = .returned (.bool (wok m a && wok m b)) ∧ w' = w := by
  cases hA : wok m a
  all_goals
    go_enter Tryz.func200, Tryz.ntmps200
    go_wp2_with (go_at_call 151; refine (iWordOk _ _ _).mono ?_; rintro e w' ⟨rfl, rfl⟩)
    go_ret
    exact ⟨ret_bool (by simp), rfl⟩

set_option maxHeartbeats 400000 in
theorem plus (a b m : Int) (w : World) (ha : 0 ≤ a) (ha' : a ≤ 255) (hb : 0 ≤ b) (hb' : b ≤ 255) (h0 : 1 ≤ m) (h1 : m ≤ 8) :
    Calls Tryz.prog 201 #[.int .u8 a, .int .i64 m, .int .u8 b] w fun e w' => e = .returned (.int .u8 ((a + b) % p2 m.toNat)) ∧ w' = w := by
  go_enter Tryz.func201, Tryz.ntmps201
  go_wp2_with (go_at_call 209; refine (cut _ m _ (by omega) (by omega) h0 h1).mono ?_; rintro e w' ⟨rfl, rfl⟩)
  go_ret
  exact ⟨ret_int (mod256 _ _ (by omega)), rfl⟩

set_option maxHeartbeats 400000 in
theorem minus (a b m : Int) (w : World) (ha : 0 ≤ a) (ha' : a ≤ 255) (hb : 0 ≤ b) (hb' : b ≤ 255) (h0 : 1 ≤ m) (h1 : m ≤ 8) :
    Calls Tryz.prog 202 #[.int .u8 a, .int .i64 m, .int .u8 b] w fun e w' => e = .returned (.int .u8 ((a - b) % p2 m.toNat)) ∧ w' = w := by
  go_enter Tryz.func202, Tryz.ntmps202
  go_wp2_with (go_at_call 209; refine (cut _ m _ (by omega) (by omega) h0 h1).mono ?_; rintro e w' ⟨rfl, rfl⟩)
  go_ret
  exact ⟨ret_int (mod256 _ _ (by omega)), rfl⟩

set_option maxHeartbeats 400000 in
theorem times (a b m : Int) (w : World) (ha : 0 ≤ a) (ha' : a ≤ 255) (hb : 0 ≤ b) (hb' : b ≤ 255) (h0 : 1 ≤ m) (h1 : m ≤ 8) :
    Calls Tryz.prog 203 #[.int .u8 a, .int .i64 m, .int .u8 b] w fun e w' => e = .returned (.int .u8 (a * b % p2 m.toNat)) ∧ w' = w := by
  go_enter Tryz.func203, Tryz.ntmps203
  go_wp2_with (go_at_call 209; refine (cut _ m _ (by omega) (by omega) h0 h1).mono ?_; rintro e w' ⟨rfl, rfl⟩)
  go_ret
  exact ⟨ret_int (mod256 _ _ (by omega)), rfl⟩

set_option maxHeartbeats 400000 in
theorem over (a b m : Int) (w : World) (ha : 0 ≤ a) (ha' : a ≤ 255) (hb : 0 ≤ b) (hb' : b ≤ 255) (h0 : 1 ≤ m) (h1 : m ≤ 8) :
    Calls Tryz.prog 204 #[.int .u8 a, .int .i64 m, .int .u8 b] w fun e w' => e = .returned (.int .u8 (if b = 0 then p2 m.toNat - 1 else a / b)) ∧ w' = w := by
  by_cases hz : b = 0
  · subst hz
    go_enter Tryz.func204, Tryz.ntmps204
    go_wp2_with (go_at_call 214; refine (mask m _ h0 h1).mono ?_; rintro e w' ⟨rfl, rfl⟩)
    go_ret
    exact ⟨rfl, rfl⟩
  · have hz' : (b == 0) = false := by simpa using hz
    go_enter Tryz.func204, Tryz.ntmps204
    go_wp2
    go_ret
    exact ⟨rfl, rfl⟩

set_option maxHeartbeats 400000 in
theorem rest (a b : Int) (w : World) (ha : 0 ≤ a) (ha' : a ≤ 255) (hb : 0 ≤ b) (hb' : b ≤ 255) :
    Calls Tryz.prog 205 #[.int .u8 a, .int .u8 b] w fun e w' => e = .returned (.int .u8 (if b = 0 then a else a % b)) ∧ w' = w := by
  by_cases hz : b = 0
  · subst hz
    go_enter Tryz.func205, Tryz.ntmps205
    go_wp2
    go_ret
    exact ⟨rfl, rfl⟩
  · have hz' : (b == 0) = false := by simpa using hz
    go_enter Tryz.func205, Tryz.ntmps205
    go_wp2
    go_ret
    exact ⟨rfl, rfl⟩

set_option maxHeartbeats 400000 in
theorem up (a b m : Int) (w : World) (ha : 0 ≤ a) (ha' : a ≤ 255) (hb : 0 ≤ b) (hb' : b ≤ 7) (h0 : 1 ≤ m) (h1 : m ≤ 8) :
    Calls Tryz.prog 206 #[.int .u8 a, .int .i64 m, .int .u8 b] w fun e w' => e = .returned (.int .u8 (a * p2 b.toNat % p2 m.toNat)) ∧ w' = w := by
  go_enter Tryz.func206, Tryz.ntmps206
  go_wp2_with (go_at_call 209; refine (cut _ m _ (by omega) (by omega) h0 h1).mono ?_; rintro e w' ⟨rfl, rfl⟩)
  go_ret
  exact ⟨ret_int (mod256 _ _ (by omega)), rfl⟩

set_option maxHeartbeats 400000 in
theorem upFar (a b m : Int) (w : World) (ha : 0 ≤ a) (ha' : a ≤ 255) (hb : 8 ≤ b) (h0 : 1 ≤ m) (h1 : m ≤ 8) :
    Calls Tryz.prog 206 #[.int .u8 a, .int .i64 m, .int .u8 b] w fun e w' => e = .returned (.int .u8 0) ∧ w' = w := by
  have hs := shl8 a b .u8 hb
  go_enter Tryz.func206, Tryz.ntmps206
  go_wp2_with (go_at_call 209; refine (cut _ m _ (by omega) (by omega) h0 h1).mono ?_; rintro e w' ⟨rfl, rfl⟩)
  go_ret
  exact ⟨ret_int (by simp), rfl⟩

set_option maxHeartbeats 400000 in
theorem down (a b : Int) (w : World) (ha : 0 ≤ a) (ha' : a ≤ 255) (hb : 0 ≤ b) (hb' : b ≤ 7) :
    Calls Tryz.prog 207 #[.int .u8 a, .int .u8 b] w fun e w' => e = .returned (.int .u8 (a / p2 b.toNat)) ∧ w' = w := by
  go_enter Tryz.func207, Tryz.ntmps207
  go_wp2
  go_ret
  exact ⟨rfl, rfl⟩

set_option maxHeartbeats 400000 in
theorem downFar (a b : Int) (w : World) (ha : 0 ≤ a) (ha' : a ≤ 255) (hb : 8 ≤ b) :
    Calls Tryz.prog 207 #[.int .u8 a, .int .u8 b] w fun e w' => e = .returned (.int .u8 0) ∧ w' = w := by
  have hs := shr8 a b .u8 hb ha ha'
  go_enter Tryz.func207, Tryz.ntmps207
  go_wp2
  go_ret
  exact ⟨rfl, rfl⟩

set_option maxHeartbeats 400000 in
theorem flip (a m : Int) (w : World) (ha : 0 ≤ a) (ha' : a < p2 m.toNat) (h0 : 1 ≤ m) (h1 : m ≤ 8) :
    Calls Tryz.prog 199 #[.int .u8 a, .int .i64 m] w fun e w' => e = .returned (.int .u8 (p2 m.toNat - 1 - a)) ∧ w' = w := by
  have hl := p2_le m.toNat (by omega)
  have hx := xor255 a ha (by omega)
  have HF : Hid ((255 - a) % p2 m.toNat = p2 m.toNat - 1 - a) := flip_spec a _ (by omega) ha ha'
  go_enter Tryz.func199, Tryz.ntmps199
  go_wp2_with (go_at_call 209; refine (cut _ m _ (by omega) (by omega) h0 h1).mono ?_; rintro e w' ⟨rfl, rfl⟩)
  go_ret
  exact ⟨ret_int HF.out, rfl⟩

set_option maxHeartbeats 400000 in
theorem signed (a m : Int) (w : World) (ha : 0 ≤ a) (ha' : a < p2 m.toNat) (h0 : 1 ≤ m) (h1 : m ≤ 8) :
    Calls Tryz.prog 208 #[.int .u8 a, .int .i64 m] w fun e w' => e = .returned (.int .i64 (sgn m a)) ∧ w' = w := by
  have hp := p2_le m.toNat (by omega)
  have hq := p2_pos m.toNat
  have HW : Hid (wrap64 (2 ^ m.toNat) = p2 m.toNat) := wrap_p2 _ (by omega)
  by_cases hs : p2 (m - 1).toNat ≤ a
  · have hd : (a / 2 ^ (m.toNat - 1) == 0) = false := sgn_hi h0 hs
    have HS : Hid (sgn m a = a - p2 m.toNat) := sgn_pos hs
    clear hs
    go_enter Tryz.func208, Tryz.ntmps208
    go_wp2
    go_ret
    exact ⟨ret_int (by rw [HS.out, HW.out]; unfold wrap64; omega), rfl⟩
  · have hd : (a / 2 ^ (m.toNat - 1) == 0) = true := sgn_lo h0 ha hs
    have HS : Hid (sgn m a = a) := sgn_neg hs
    clear hs
    go_enter Tryz.func208, Tryz.ntmps208
    go_wp2
    go_ret
    exact ⟨ret_int (by rw [HS.out]), rfl⟩

end Go.Proofs.YtejgcchkhljnjaaGreat.Wd1

/- Walks of chapter 1: the operations on words, in the program and in its model: each answers the same plain function. -/
namespace Go.Proofs.YtejgcchkhljnjaaGreat.Wd2
open Go.RowKit
open Pl1 Wd1
set_option linter.unusedVariables false

theorem two_iff {m a b : Int} (h : (wok m a && wok m b) = true) : 1 ≤ m ∧ m ≤ 8 ∧ 0 ≤ a ∧ a < p2 m.toNat ∧ 0 ≤ b ∧ b < p2 m.toNat ∧ p2 m.toNat ≤ 256 := by
  rw [Bool.and_eq_true] at h
  obtain ⟨h1, h2, h3, h4⟩ := wok_iff.1 h.1
  obtain ⟨_, _, h5, h6⟩ := wok_iff.1 h.2
  exact ⟨h1, h2, h3, h4, h5, h6, p2_le _ (by omega)⟩
theorem one_iff {m a : Int} (h : wok m a = true) : 1 ≤ m ∧ m ≤ 8 ∧ 0 ≤ a ∧ a < p2 m.toNat ∧ p2 m.toNat ≤ 256 := by
  obtain ⟨h1, h2, h3, h4⟩ := wok_iff.1 h
  exact ⟨h1, h2, h3, h4, p2_le _ (by omega)⟩

set_option maxHeartbeats 400000 in
theorem iAdd (m a b : Int) (w : World) :
    Calls Tryz.prog 170 #[.int .i64 m, .int .i64 a, .int .i64 b] w fun e w' => e = .returned (.int .i64 (vAdd m a b)) ∧ w' = w := by
  cases h : (wok m a && wok m b)
  · have HV : Hid (vAdd m a b = 0) := by show vAdd m a b = 0; simp [vAdd, h]
    go_enter Tryz.func170, Tryz.ntmps170
    go_wp2_with (go_at_call 200; refine (iTwo _ _ _ _).mono ?_; rintro e w' ⟨rfl, rfl⟩)
    go_ret
    exact ⟨ret_int HV.out.symm, rfl⟩
  · obtain ⟨h1, h2, h3, h4, h5, h6, h7⟩ := two_iff h
    have HV : Hid (vAdd m a b = (a + b) % p2 m.toNat) := by show vAdd m a b = _; simp [vAdd, h]
    have hm := emod_le (a := (a + b)) m.toNat
    go_enter Tryz.func170, Tryz.ntmps170
    go_wp2_with (first | (go_at_call 200; refine (iTwo _ _ _ _).mono ?_; rintro e w' ⟨rfl, rfl⟩) | (go_at_call 201; refine (plus a b m _ h3 (by omega) h5 (by omega) h1 h2).mono ?_; rintro e w' ⟨rfl, rfl⟩))
    go_ret
    exact ⟨ret_int HV.out.symm, rfl⟩

set_option maxHeartbeats 400000 in
theorem iSub (m a b : Int) (w : World) :
    Calls Tryz.prog 172 #[.int .i64 m, .int .i64 a, .int .i64 b] w fun e w' => e = .returned (.int .i64 (vSub m a b)) ∧ w' = w := by
  cases h : (wok m a && wok m b)
  · have HV : Hid (vSub m a b = 0) := by show vSub m a b = 0; simp [vSub, h]
    go_enter Tryz.func172, Tryz.ntmps172
    go_wp2_with (go_at_call 200; refine (iTwo _ _ _ _).mono ?_; rintro e w' ⟨rfl, rfl⟩)
    go_ret
    exact ⟨ret_int HV.out.symm, rfl⟩
  · obtain ⟨h1, h2, h3, h4, h5, h6, h7⟩ := two_iff h
    have HV : Hid (vSub m a b = (a - b) % p2 m.toNat) := by show vSub m a b = _; simp [vSub, h]
    have hm := emod_le (a := (a - b)) m.toNat
    go_enter Tryz.func172, Tryz.ntmps172
    go_wp2_with (first | (go_at_call 200; refine (iTwo _ _ _ _).mono ?_; rintro e w' ⟨rfl, rfl⟩) | (go_at_call 202; refine (minus a b m _ h3 (by omega) h5 (by omega) h1 h2).mono ?_; rintro e w' ⟨rfl, rfl⟩))
    go_ret
    exact ⟨ret_int HV.out.symm, rfl⟩

set_option maxHeartbeats 400000 in
theorem iMul (m a b : Int) (w : World) :
    Calls Tryz.prog 174 #[.int .i64 m, .int .i64 a, .int .i64 b] w fun e w' => e = .returned (.int .i64 (vMul m a b)) ∧ w' = w := by
  cases h : (wok m a && wok m b)
  · have HV : Hid (vMul m a b = 0) := by show vMul m a b = 0; simp [vMul, h]
    go_enter Tryz.func174, Tryz.ntmps174
    go_wp2_with (go_at_call 200; refine (iTwo _ _ _ _).mono ?_; rintro e w' ⟨rfl, rfl⟩)
    go_ret
    exact ⟨ret_int HV.out.symm, rfl⟩
  · obtain ⟨h1, h2, h3, h4, h5, h6, h7⟩ := two_iff h
    have HV : Hid (vMul m a b = a * b % p2 m.toNat) := by show vMul m a b = _; simp [vMul, h]
    have hm := emod_le (a := a * b) m.toNat
    go_enter Tryz.func174, Tryz.ntmps174
    go_wp2_with (first | (go_at_call 200; refine (iTwo _ _ _ _).mono ?_; rintro e w' ⟨rfl, rfl⟩) | (go_at_call 203; refine (times a b m _ h3 (by omega) h5 (by omega) h1 h2).mono ?_; rintro e w' ⟨rfl, rfl⟩))
    go_ret
    exact ⟨ret_int HV.out.symm, rfl⟩

set_option maxHeartbeats 400000 in
theorem sAdd (m a b : Int) (w : World) :
    Calls Tryz.prog 101 #[.int .i64 m, .int .i64 a, .int .i64 b] w fun e w' => e = .returned (.int .i64 (vAdd m a b)) ∧ w' = w := by
  cases h : (wok m a && wok m b)
  · have HV : Hid (vAdd m a b = 0) := by show vAdd m a b = 0; simp [vAdd, h]
    go_enter Tryz.func101, Tryz.ntmps101
    go_wp2_with (go_at_call 147; refine (sTwo _ _ _ _).mono ?_; rintro e w' ⟨rfl, rfl⟩)
    go_ret
    exact ⟨ret_int HV.out.symm, rfl⟩
  · obtain ⟨h1, h2, h3, h4, h5, h6, h7⟩ := two_iff h
    have HV : Hid (vAdd m a b = (a + b) % p2 m.toNat) := by show vAdd m a b = _; simp [vAdd, h]
    have hp := p2_pos m.toNat
    go_enter Tryz.func101, Tryz.ntmps101
    go_wp2_with (first | (go_at_call 147; refine (sTwo _ _ _ _).mono ?_; rintro e w' ⟨rfl, rfl⟩) | (go_at_call 111; refine (spow _ _ (by omega) (by omega)).mono ?_; rintro e w' ⟨rfl, rfl⟩))
    go_ret
    exact ⟨ret_int HV.out.symm, rfl⟩

set_option maxHeartbeats 400000 in
theorem sSub (m a b : Int) (w : World) :
    Calls Tryz.prog 102 #[.int .i64 m, .int .i64 a, .int .i64 b] w fun e w' => e = .returned (.int .i64 (vSub m a b)) ∧ w' = w := by
  cases h : (wok m a && wok m b)
  · have HV : Hid (vSub m a b = 0) := by show vSub m a b = 0; simp [vSub, h]
    go_enter Tryz.func102, Tryz.ntmps102
    go_wp2_with (go_at_call 147; refine (sTwo _ _ _ _).mono ?_; rintro e w' ⟨rfl, rfl⟩)
    go_ret
    exact ⟨ret_int HV.out.symm, rfl⟩
  · obtain ⟨h1, h2, h3, h4, h5, h6, h7⟩ := two_iff h
    have HV : Hid (vSub m a b = (a + p2 m.toNat - b) % p2 m.toNat) := by show vSub m a b = _; rw [sub_spec]; simp [vSub, h]
    have hp := p2_pos m.toNat
    go_enter Tryz.func102, Tryz.ntmps102
    go_wp2_with (first | (go_at_call 147; refine (sTwo _ _ _ _).mono ?_; rintro e w' ⟨rfl, rfl⟩) | (go_at_call 111; refine (spow _ _ (by omega) (by omega)).mono ?_; rintro e w' ⟨rfl, rfl⟩))
    go_ret
    exact ⟨ret_int HV.out.symm, rfl⟩

set_option maxHeartbeats 400000 in
theorem sMul (m a b : Int) (w : World) :
    Calls Tryz.prog 103 #[.int .i64 m, .int .i64 a, .int .i64 b] w fun e w' => e = .returned (.int .i64 (vMul m a b)) ∧ w' = w := by
  cases h : (wok m a && wok m b)
  · have HV : Hid (vMul m a b = 0) := by show vMul m a b = 0; simp [vMul, h]
    go_enter Tryz.func103, Tryz.ntmps103
    go_wp2_with (go_at_call 147; refine (sTwo _ _ _ _).mono ?_; rintro e w' ⟨rfl, rfl⟩)
    go_ret
    exact ⟨ret_int HV.out.symm, rfl⟩
  · obtain ⟨h1, h2, h3, h4, h5, h6, h7⟩ := two_iff h
    have HV : Hid (vMul m a b = a * b % p2 m.toNat) := by show vMul m a b = _; simp [vMul, h]
    have hp := p2_pos m.toNat
    obtain ⟨hb1, hb2⟩ := mul_bd h3 (by omega) h5 (by omega)
    go_enter Tryz.func103, Tryz.ntmps103
    go_wp2_with (first | (go_at_call 147; refine (sTwo _ _ _ _).mono ?_; rintro e w' ⟨rfl, rfl⟩) | (go_at_call 111; refine (spow _ _ (by omega) (by omega)).mono ?_; rintro e w' ⟨rfl, rfl⟩))
    go_ret
    exact ⟨ret_int HV.out.symm, rfl⟩

end Go.Proofs.YtejgcchkhljnjaaGreat.Wd2
