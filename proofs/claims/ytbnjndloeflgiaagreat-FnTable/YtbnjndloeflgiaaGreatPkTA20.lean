/- Small texts of mine, one behind the other. -/
import Derived.WalkKit
import Derived.Laws.Bits64
import Derived.Laws.Bits64b
import Derived.Test.YtbnjndloeflgiaaGreatRows
import Derived.WalkSpells
import Derived.WalkLawsBesides
import Derived.Deep.QuietTactic
import Derived.BigQuiet
import Derived.RangeFuncNested
import Derived.RangeFuncBound
import Derived.RangeFuncCalls
import Derived.RangeFuncLeaves
import Derived.Shelf.Abstract
import Derived.Shelf.RegionOpen
import Derived.OwnWalkIn
import Derived.TacticsInMore
import Derived.LoopNIn
import Derived.LoopIn
import Derived.OrdersHeld
import Derived.OrdersIn
import Derived.TacticsIn
import Derived.Deep.RegionHeld
import Derived.Test.YtbnjndloeflgiaaGreatPkTA1
import Derived.Test.YtbnjndloeflgiaaGreatPkTA16
import Derived.Test.YtbnjndloeflgiaaGreatPkTA4
/- Bits in words of 64, and how many are set: plain facts. -/
namespace Go.Proofs.YtbnjndloeflgiaaGreat.Ta0
set_option linter.unusedVariables false

def wdN (F : Nat → Bool) : Nat → Nat
  | 0 => 0
  | k + 1 => wdN F k + (if F k then 2 ^ k else 0)
theorem wdN_lt (F : Nat → Bool) (k : Nat) : wdN F k < 2 ^ k := by
  induction k with
  | zero => simp [wdN]
  | succ k ih => unfold wdN; rw [Nat.pow_succ]; split <;> omega
theorem wdN_bit (F : Nat → Bool) (k j : Nat) : (wdN F k).testBit j = (decide (j < k) && F j) := by
  induction k with
  | zero => simp [wdN]
  | succ k ih =>
    unfold wdN
    have hl := wdN_lt F k
    split
    · rename_i h
      rw [Nat.add_comm]
      by_cases e : j = k
      · subst e; rw [Nat.testBit_two_pow_add_eq, ih]; simp [h]
      · by_cases hj : j < k
        · rw [Nat.testBit_two_pow_add_gt hj, ih]; simp [hj]; intro; omega
        · rw [Nat.testBit_lt_two_pow (Nat.lt_of_lt_of_le (by rw [Nat.pow_succ]; omega : 2 ^ k + wdN F k < 2 ^ (k + 1)) (Nat.pow_le_pow_right (by omega) (by omega)))]
          simp; intro; omega
    · rename_i h
      rw [Nat.add_zero, ih]
      by_cases e : j = k
      · subst e; simp [h]
      · have : (j < k) ↔ (j < k + 1) := by omega
        simp [this]
theorem wdN_of (x k : Nat) (F : Nat → Bool) (hx : ∀ j, x.testBit j = (decide (j < k) && F j)) : x = wdN F k :=
  Nat.eq_of_testBit_eq fun j => by rw [hx, wdN_bit]
def wd (F : Nat → Bool) (i : Nat) : Nat := wdN (fun j => F (64 * i + j)) 64
theorem wd_bit (F : Nat → Bool) (i j : Nat) : (wd F i).testBit j = (decide (j < 64) && F (64 * i + j)) := wdN_bit _ _ _
theorem wd_lt (F : Nat → Bool) (i : Nat) : wd F i < 18446744073709551616 := wdN_lt _ 64
theorem wd_of {x : Nat} {F : Nat → Bool} {i : Nat} (hx : ∀ j, x.testBit j = (decide (j < 64) && F (64 * i + j))) : x = wd F i := wdN_of _ _ _ hx
theorem wd_congr {F G : Nat → Bool} {i : Nat} (h : ∀ j, j < 64 → F (64 * i + j) = G (64 * i + j)) : wd F i = wd G i :=
  wd_of fun j => by rw [wd_bit]; by_cases hj : j < 64 <;> simp [hj, h]
theorem wd_zero {F : Nat → Bool} {i : Nat} (h : ∀ j, j < 64 → F (64 * i + j) = false) : wd F i = 0 := by
  refine (wd_of fun j => ?_).symm
  by_cases hj : j < 64 <;> simp [hj, h]
def upto (m : Nat) (F : Nat → Bool) (p : Nat) : Bool := decide (p < m) && F p
theorem upto_zero (F : Nat → Bool) (i : Nat) : wd (upto 0 F) i = 0 := wd_zero fun j _ => by simp [upto]
theorem wd_next_other (F : Nat → Bool) (k i : Nat) (h : i ≠ k / 64) : wd (upto (k + 1) F) i = wd (upto k F) i := by
  refine wd_congr fun j hj => ?_
  have e : (64 * i + j < k + 1) ↔ (64 * i + j < k) := by
    have : 64 * i + j ≠ k := by omega
    omega
  simp [upto, e]
theorem wd_next_no (F : Nat → Bool) (k i : Nat) (h : F k = false) : wd (upto (k + 1) F) i = wd (upto k F) i := by
  refine wd_congr fun j hj => ?_
  by_cases e : 64 * i + j = k
  · simp [upto, e, h]
  · have e : (64 * i + j < k + 1) ↔ (64 * i + j < k) := by omega
    simp [upto, e]
theorem wd_next_yes (F : Nat → Bool) (k : Nat) (h : F k = true) : wd (upto (k + 1) F) (k / 64) = wd (upto k F) (k / 64) ||| 2 ^ (k % 64) := by
  refine (wd_of fun j => ?_).symm
  rw [Nat.testBit_or, wd_bit, Nat.testBit_two_pow]
  by_cases hj : j < 64
  · by_cases e : k % 64 = j
    · have : 64 * (k / 64) + j = k := by omega
      simp [upto, this, h, e, hj]
    · have : (64 * (k / 64) + j < k + 1) ↔ (64 * (k / 64) + j < k) := by omega
      simp [upto, this, e, hj]
  · have : ¬ k % 64 = j := by omega
    simp [hj, this]
theorem wd_at (F : Nat → Bool) (p : Nat) : wd F (p / 64) / 2 ^ (p % 64) % 2 = (F p).toNat := by
  have h := wd_bit F (p / 64) (p % 64)
  rw [show 64 * (p / 64) + p % 64 = p by omega, decide_eq_true (by omega : p % 64 < 64), Bool.true_and] at h
  have e := Nat.testBit_eq_decide_div_mod_eq (x := wd F (p / 64)) (i := p % 64)
  rw [h] at e
  cases hF : F p
  · rw [hF] at e; have := of_decide_eq_false e.symm; simp; omega
  · rw [hF] at e; have := of_decide_eq_true e.symm; simp; omega
end Go.Proofs.YtbnjndloeflgiaaGreat.Ta0

/- Right tables as plain data: signs 48 and 49 at their places; words of 64 bits as Go reckons them. -/
namespace Go.Proofs.YtbnjndloeflgiaaGreat.Ta1
open Go.RowKit
open Ta0
set_option linter.unusedVariables false

def sgn (b : Bool) : UInt8 := if b then 49 else 48
theorem sgn_toNat (b : Bool) : (sgn b).toNat = 48 + b.toNat := by cases b <;> rfl
def tab (n : Nat) (F : Nat → Bool) : List UInt8 := (List.range (2 ^ n)).map fun i => sgn (F i)
theorem tab_length (n : Nat) (F : Nat → Bool) : (tab n F).length = 2 ^ n := by simp [tab]
theorem tab_get (n : Nat) (F : Nat → Bool) (i : Nat) (h : i < (tab n F).length) : (tab n F)[i] = sgn (F i) := by simp [tab]
def tokB (N : Int) (l : List UInt8) : Bool := decide (0 ≤ N ∧ N ≤ 12 ∧ l.length = 2 ^ N.toNat ∧ ∀ c ∈ l, c = 48 ∨ c = 49)
theorem tab_tok {n : Nat} (F : Nat → Bool) (hn : n ≤ 12) : tokB (n : Int) (tab n F) = true := by
  refine decide_eq_true ⟨by omega, by omega, by rw [tab_length, Int.toNat_natCast], fun c hc => ?_⟩
  obtain ⟨i, _, rfl⟩ := List.mem_map.1 hc
  cases F i
  · exact .inl rfl
  · exact .inr rfl
theorem tok_no {N : Int} {l : List UInt8} (h : ¬ (0 ≤ N ∧ N ≤ 12)) : tokB N l = false := decide_eq_false fun k => h ⟨k.1, k.2.1⟩
theorem tok_len {N : Int} {l : List UInt8} (h : l.length ≠ 2 ^ N.toNat) : tokB N l = false := decide_eq_false fun k => h k.2.2.1
theorem tok_sign {N : Int} {l : List UInt8} {c : UInt8} (hc : c ∈ l) (h : c ≠ 48 ∧ c ≠ 49) : tokB N l = false := decide_eq_false fun k => by
  rcases k.2.2.2 c hc with e | e
  · exact h.1 e
  · exact h.2 e
theorem p12 {n : Nat} (h : n ≤ 12) : 1 ≤ 2 ^ n ∧ 2 ^ n ≤ 4096 := ⟨Nat.one_le_two_pow, Nat.pow_le_pow_right (by omega) h⟩
theorem pcast (n : Nat) : (2 : Int) ^ n = ((2 ^ n : Nat) : Int) := by push_cast; rfl

theorem band62 {m n : Nat} (hm : m < 2 ^ 62) (hn : n < 2 ^ 62) : bits .and .i64 (m : Int) (n : Int) = ((m &&& n : Nat) : Int) := by
  have e : bits .and .i64 (m : Int) (n : Int) = IntKind.i64.wrap ((BitVec.ofInt 64 (m : Int) &&& BitVec.ofInt 64 (n : Int)).toNat : Int) := rfl
  have h := Nat.and_lt_two_pow m hn
  rw [e, BitVec.toNat_and, BitVec.ofInt_natCast, BitVec.ofInt_natCast, BitVec.toNat_ofNat, BitVec.toNat_ofNat, Nat.mod_eq_of_lt (by omega), Nat.mod_eq_of_lt (by omega), IntKind.wrap_i64]
  omega
theorem bor62 {m n : Nat} (hm : m < 2 ^ 62) (hn : n < 2 ^ 62) : bits .or .i64 (m : Int) (n : Int) = ((m ||| n : Nat) : Int) := by
  have e : bits .or .i64 (m : Int) (n : Int) = IntKind.i64.wrap ((BitVec.ofInt 64 (m : Int) ||| BitVec.ofInt 64 (n : Int)).toNat : Int) := rfl
  have h := Nat.or_lt_two_pow hm hn
  rw [e, BitVec.toNat_or, BitVec.ofInt_natCast, BitVec.ofInt_natCast, BitVec.toNat_ofNat, BitVec.toNat_ofNat, Nat.mod_eq_of_lt (by omega), Nat.mod_eq_of_lt (by omega), IntKind.wrap_i64]
  omega
theorem wrapu {x : Nat} (h : x < 18446744073709551616) : IntKind.u64.wrap (x : Int) = (x : Int) := by rw [IntKind.wrap_u64]; omega

end Go.Proofs.YtbnjndloeflgiaaGreat.Ta1

/- Strings as lists of bytes; the walk of the model's number in decimal digits. -/
namespace Go.Proofs.YtbnjndloeflgiaaGreat.Ss0
open Go.RowKit
open Nd0 Tx0
set_option linter.unusedVariables false

def bs (l : List UInt8) : ByteArray := ⟨l.toArray⟩
theorem bs_size (l : List UInt8) : (bs l).size = l.length := by simp [bs, ByteArray.size]
end Go.Proofs.YtbnjndloeflgiaaGreat.Ss0

/- What TableOf tells. -/
namespace Go.Proofs.YtbnjndloeflgiaaGreat.To0t
open Go.RowKit
open Nd0 Qa0 Fr0 To0
open Ta1 (tab)
open Ss0 (bs)
set_option linter.unusedVariables false

def toB (q : List Qu) (l : List Nd) : Bool := fewB q && frontOkB q l
def toN (q : List Qu) (l : List Nd) : Int := if toB q l then (bitL q : Int) else 0
def toS (q : List Qu) (l : List Nd) : ByteArray := if toB q l then bs (tab (bitL q) (atL q l)) else ⟨#[]⟩
theorem to_no {q : List Qu} {l : List Nd} (h : toB q l = false) : toN q l = 0 ∧ toS q l = ⟨#[]⟩ := by unfold toN toS; rw [h]; exact ⟨rfl, rfl⟩
theorem to_yes {q : List Qu} {l : List Nd} (h : toB q l = true) : toN q l = (bitL q : Int) ∧ toS q l = bs (tab (bitL q) (atL q l)) := by unfold toN toS; rw [h]; exact ⟨rfl, rfl⟩

end Go.Proofs.YtbnjndloeflgiaaGreat.To0t

/- The words of a width, told one by one: the program's eachWord. -/
namespace Go.Proofs.YtbnjndloeflgiaaGreat.Pv6
open Go.RowKit Go.Shelf
open Pl1 Vl1 Vl2
open Pg1 (iWordOk)
attribute [local go_sem] Oper.semAt_some
set_option linter.unusedVariables false

set_option maxHeartbeats 1000000 in
theorem iEach (b : Int) (w : World) :
    Calls Tryz.prog 78 #[.int .i64 b] w fun e w' => e = .returned (.func (.func 95) #[] #[.pointer (some ⟨w.heap.size, 0, none⟩)]) ∧ w' = w.alloc (.cells #[.int .i64 b] 3) := by
  go_enter Tryz.func78, Tryz.ntmps78
  go_wp2
  go_ret
  exact ⟨rfl, rfl⟩

theorem fin_take {M j : Nat} (h : j < M) : (List.finRange M).take (j + 1) = (List.finRange M).take j ++ [⟨j, h⟩] := by
  rw [List.take_succ_eq_append_getElem (by simp; exact h)]
  simp
theorem wok_lt {b : Int} (h1 : 1 ≤ b) (h8 : b ≤ 8) (j : Nat) : wok b (j : Int) = decide (j < 2 ^ b.toNat) := by
  rw [Bool.eq_iff_iff, wok_iff, decide_eq_true_iff, p2_nat]
  omega

set_option maxRecDepth 100000 in
set_option maxHeartbeats 2000000 in
theorem words_stops (n n₀ Bn : Nat) (b : Int) (h1 : 1 ≤ b) (h8 : b ≤ 8) (w : World) (hB : Bn < n₀) (hn : n₀ ≤ w.heap.size) (hc : w.cell? ⟨Bn, 0, none⟩ = some (.int .i64 b)) :
    SeqStopsK Fence.wide n Tryz.prog 95 #[.pointer (some ⟨Bn, 0, none⟩)] (fun k : Fin (2 ^ b.toNat) => #[Value.int .i64 (k.val : Int)]) (Below n₀) (fun xs => xs = List.finRange (2 ^ b.toNat)) (fun _ => True) (2 ^ b.toNat) w := fun l J Jx W hW hJ hJx hY h0 => by
  have hcW : W.cell? ⟨Bn, 0, none⟩ = some (.int .i64 b) := (hW.cell (p := ⟨Bn, 0, none⟩) (show Bn < w.heap.size by omega)).trans hc
  have hw : ∀ j : Nat, wok b (j : Int) = decide (j < 2 ^ b.toNat) := fun j => wok_lt h1 h8 j
  have hM : 2 ^ b.toNat ≤ 256 := Nat.pow_le_pow_right (n := 2) (by omega) (show b.toNat ≤ 8 by omega)
  generalize 2 ^ b.toNat = M at *
  refine callsIn_of_wp Tryz.func95 rfl trivial ?_ rfl
  simp only [Tryz.ntmps95, List.size_toArray, List.length_cons, List.length_nil, Nat.reduceAdd, Nat.reduceSub, Array.replicate_succ, Array.replicate_zero, List.push_toArray, List.append_toArray, List.nil_append, List.cons_append]
  gi_wp2
  gi_loopw [3] (fun q wr => ∃ j : Nat, j ≤ M ∧ q = .int .i64 (j : Int) ∧ J ((List.finRange M).take j) wr ∧ Below n₀ W wr) (fun q _ => M - (intOf q).toNat)
  case atStart => exact ⟨0, Nat.zero_le _, rfl, h0, Below.refl _ _⟩
  case round =>
    obtain ⟨j, hj, rfl, hJs, hBe⟩ := hrel
    have HJS : Hid (J ((List.finRange M).take j) wr) := hJs
    have HBE : Hid (Below n₀ W wr) := hBe
    have hcr : wr.cell? ⟨Bn, 0, none⟩ = some (.int .i64 b) := (hBe.cell (p := ⟨Bn, 0, none⟩) hB).trans hcW
    have hwj := hw j
    by_cases hlt : j < M
    · rw [decide_eq_true hlt] at hwj
      obtain ⟨fn, tmps, assign, body, hy, hR⟩ := hY ((List.finRange M).take j) ⟨j, hlt⟩ wr hJs (by simp; omega)
      have hjz : (j : Int) ≤ 255 := by omega
      clear hw hY hJs hBe
      gi_wp2_with (refine ⟨trivial, (fun h => absurd h (by decide)), ?_⟩; gi_at_call 94; refine (callsIn_wide.2 (iWordOk _ _ _)).mono ?_; rintro e wr ⟨rfl, rfl⟩; rw [hwj])
      refine ⟨(fun h => absurd h (by decide)), hR.mono ?_⟩
      rintro e W3 (⟨rfl, hJ3, hk3⟩ | ⟨rfl, hJx3⟩)
      · have HJ3 : Hid (J ((List.finRange M).take (j + 1)) W3) := by rw [fin_take hlt]; exact hJ3
        have HB3 : Hid (Below n₀ W W3) := HBE.out.trans hk3
        clear hJ3 hk3
        gi_wp2
        go_roundw
        case rel => exact ⟨j + 1, by omega, by go_num, HJ3.out, HB3.out⟩
        case measure => simp [intOf]; omega
      · have HJ3 : Hid (Jx ((List.finRange M).take j ++ [⟨j, hlt⟩]) W3) := hJx3
        clear hJx3
        gi_wp2
        refine bodyPost_ret (results_none rfl _ _ _) rfl ?_
        exact ⟨⟨_, rfl⟩, .inr ⟨_, trivial, HJ3.out⟩⟩
    · rw [decide_eq_false hlt] at hwj
      have HJE : Hid (j = M) := by
        show _ = _
        omega
      clear hw hY hJs hBe
      gi_wp2_with (refine ⟨trivial, (fun h => absurd h (by decide)), ?_⟩; gi_at_call 94; refine (callsIn_wide.2 (iWordOk _ _ _)).mono ?_; rintro e wr ⟨rfl, rfl⟩; rw [hwj])
      go_end0
      exact ⟨⟨_, rfl⟩, .inl ⟨_, rfl, by have h9 := HJS.out; rw [HJE.out, List.take_of_length_le (by simp)] at h9; exact h9⟩⟩

end Go.Proofs.YtbnjndloeflgiaaGreat.Pv6

/- A region that draws its order, in a round of a loop over a function: out of the plain calculus. -/
namespace Go.Proofs.YtbnjndloeflgiaaGreat.Lift
open Go.RowKit

variable {l n : Nat} {P : Program} {ops : Array Oper} {Q : Exit → Act → World → Prop} {md : Region.Mode}

theorem op_lift {o : Oper} {a : Act} {w : World} {K : Act → World → Prop} (hd : ∀ c, o.op ≠ .defer c) (h : o.wp P a w K Q) : o.wpIn (Fence.wide.inRound l) n P a w K Q := by
  refine ⟨fun f _ => trivial, ?_⟩
  show o.uponIn (Fence.wide.inRound l) n P a K Q ((o.semAt (some l) a.eval).run P w)
  rw [Oper.semAt_some l a.eval o hd]
  unfold Oper.wp at h
  generalize (execOp a.eval o).run P w = r at h ⊢
  cases r with
  | ok x w' =>
    cases x <;> simp only [Oper.upon] at h <;> simp only [Oper.uponIn]
    all_goals first
      | exact h
      | exact ⟨(fun h0 => Bool.noConfusion (show false = true from h0)), CallsIn.inRound l (callsIn_wide.2 h)⟩
      | exact ⟨(fun h0 => Bool.noConfusion (show false = true from h0)), (fun c cs _ => by
          obtain ⟨v, w', r, s⟩ := h c cs
          exact ⟨v, w', r, stepsIn_wide.2 s⟩)⟩
  | halt x w' => cases x <;> simp only [Oper.upon] at h <;> simp only [Oper.uponIn] <;> exact h

theorem any_lift (hL : ¬ LetsOut Q) (hd : ∀ (i : Nat) (o : Oper), ops[i]? = some o → ∀ c, o.op ≠ .defer c) : ∀ (fuel : Nat) (listed : Array Bool) (a : Act) (w : World), wpAny P md ops Q fuel listed a w → wpAnyIn (Fence.wide.inRound l) n P md ops Q fuel listed a w := by
  intro fuel
  induction fuel with
  | zero => intro listed a w h; exact h
  | succ fuel ih =>
    intro listed a w h
    refine ⟨h.1, fun i hi => ?_⟩
    have h2 := h.2 i hi
    unfold wpOp at h2
    unfold wpOpIn
    cases ho : ops[i]? with
    | none => rw [ho] at h2; exact ih _ _ _ h2
    | some o =>
      rw [ho] at h2
      dsimp only at h2 ⊢
      split
      · rename_i hw
        rw [if_pos hw] at h2
        rcases h2 with h3 | h3
        · exact op_lift (hd i o ho) (Oper.wp_mono (fun a w h => ih _ _ _ h) h3)
        · exact absurd h3.2 hL
      · rename_i hw
        rw [if_neg hw] at h2
        exact ⟨fun f _ => trivial, ih _ _ _ h2⟩

def noDefer (ops : Array Oper) : Bool := ops.toList.all fun o => match o.op with
  | .defer _ => false
  | _ => true
theorem noDefer_of (h : noDefer ops = true) : ∀ (i : Nat) (o : Oper), ops[i]? = some o → ∀ c, o.op ≠ .defer c := by
  intro i o ho c hc
  have h2 := List.all_eq_true.1 h o (by
    obtain ⟨hi, rfl⟩ := Array.getElem?_eq_some_iff.1 ho
    simp)
  rw [hc] at h2
  cases h2
theorem region_lift {S : World → Prop} {id : Nat} {a : Act} {w : World} (hm : P.follows .mixedOrders = true) (hL : ¬ LetsOut Q) (hd : noDefer ops = true)
    (hS : S w.drew) (h : S w.drew → wpAnyH P .any ops Q S ops.size (Array.replicate ops.size false) a w.drew) : (Code.region id ops true).wpIn (Fence.wide.inRound l) n P Q a w :=
  wpIn_region_any hm (any_lift hL (noDefer_of hd) _ _ _ _ (wpAny_of_held _ _ _ _ (h hS)))

end Go.Proofs.YtbnjndloeflgiaaGreat.Lift

/- Which widths each variable wants, node by node: as plain data. -/
namespace Go.Proofs.YtbnjndloeflgiaaGreat.Vm1
open Nd0 Pl1 Pl2 Tm0 Tm1 Tm3 Tm5 Tm6 Tm8 Tm11 Tm13 Tm14 Tr0 Vl1 Vl2 Vm0
set_option linter.unusedVariables false

def rowN (l : List Nd) (j : Nat) : List Nat := (needT (tr l j)).getD []
def preN (l : List Nd) (n : Nd) (v : Nat) : Nat → Nat
  | 0 => if n.op = 1 ∧ n.k = (v : Int) then 2 ^ n.w.toNat else 0
  | d + 1 => preN l n v d ||| (rowN l ((parts n).getD d 0).toNat).getD v 0
def preA (l : List Nd) (n : Nd) (v : Nat) : Nat := preN l n v (parts n).length
def badQ (l : List Nd) (n : Nd) : Bool := quant n.op && decide (preA l n n.k.toNat ≠ 0 ∧ preA l n n.k.toNat ≠ 2 ^ n.b.toNat)

theorem getD_map8 (f : Nat → Nat) {v : Nat} (hv : v < 8) : ((List.range 8).map f).getD v 0 = f v := by
  rw [List.getD_eq_getElem?_getD, List.getElem?_map, List.getElem?_range hv]; rfl

theorem need_row {l : List Nd} {i : Nat} (hp : ∀ p ∈ parts (nth l i), (needT (tr l p.toNat)).isSome = true) : ∀ p ∈ parts (nth l i), needT (tr l p.toNat) = some (rowN l p.toNat) := fun p h => by
  obtain ⟨r, hr⟩ := Option.isSome_iff_exists.1 (hp p h)
  unfold rowN; rw [hr]; rfl
section
variable {l : List Nd} (hD : Down l) {i : Nat} (hi : i < l.length) (hp : ∀ p ∈ parts (nth l i), (needT (tr l p.toNat)).isSome = true)
include hD hi hp
theorem need_none (hb : badQ l (nth l i) = true) : needT (tr l i) = none := by
  have hr := need_row hp
  unfold badQ at hb
  simp only [Bool.and_eq_true] at hb
  obtain ⟨hq, hb⟩ := hb
  have hb := of_decide_eq_true hb
  rw [tr_at hD hi]
  generalize nth l i = n at hr hq hb
  have hq2 : n.op = 19 ∨ n.op = 20 := by simpa [quant] using hq
  have h1 : n.op = 2 ∨ n.op = 17 ∨ n.op = 19 ∨ n.op = 20 := by omega
  rw [mk_one h1]
  have hpp := parts_one h1
  simp only [needT]
  rw [hr n.a (by rw [hpp]; simp)]
  simp only [Option.bind_some, hq, if_true]
  have e : preA l n n.k.toNat = (rowN l n.a.toNat).getD n.k.toNat 0 := by
    unfold preA
    rw [hpp]
    show preN l n n.k.toNat (0 + 1) = _
    unfold preN
    rw [hpp]
    have : ¬ (n.op = 1 ∧ n.k = (n.k.toNat : Int)) := fun h => by omega
    simp only [preN]
    rw [if_neg this]
    simp
  rw [e] at hb
  rw [if_pos hb]
theorem need_some (hb : badQ l (nth l i) = false) (hk : quant (nth l i).op = true → 0 ≤ (nth l i).k) : ∃ r, needT (tr l i) = some r ∧ ∀ v, v < 8 → r.getD v 0 = if quant (nth l i).op ∧ (nth l i).k = (v : Int) then 0 else preA l (nth l i) v := by
  have hr := need_row hp
  unfold badQ at hb
  rw [tr_at hD hi]
  generalize nth l i = n at hr hb hk
  by_cases h1 : n.op = 2 ∨ n.op = 17 ∨ n.op = 19 ∨ n.op = 20
  · rw [mk_one h1]
    have hpp := parts_one h1
    simp only [needT]
    have hra := hr n.a (by rw [hpp]; simp)
    have hrl := need_len _ _ hra
    have e : ∀ v, preA l n v = (rowN l n.a.toNat).getD v 0 := fun v => by
      unfold preA
      rw [hpp]
      show preN l n v (0 + 1) = _
      unfold preN
      rw [hpp]
      have : ¬ (n.op = 1 ∧ n.k = (v : Int)) := fun h => by omega
      simp only [preN]
      rw [if_neg this]
      simp
    rw [hra]
    simp only [Option.bind_some]
    cases hq : quant n.op
    · simp only [Bool.false_eq_true, if_false]
      exact ⟨_, rfl, fun v hv => by rw [if_neg (by simp), e v]⟩
    · simp only [if_true]
      rw [hq] at hb
      simp only [Bool.true_and] at hb
      have hb := of_decide_eq_false hb
      rw [e] at hb
      rw [if_neg hb]
      refine ⟨_, rfl, fun v hv => ?_⟩
      have h0 := hk hq
      by_cases ev : n.k = (v : Int)
      · rw [if_pos ⟨by simp, ev⟩]
        have : n.k.toNat = v := by omega
        rw [this, List.getD_eq_getElem?_getD, List.getElem?_set_self (by rw [hrl]; exact hv)]; rfl
      · rw [if_neg (fun h => ev h.2), e v, List.getD_eq_getElem?_getD, List.getElem?_set_ne (by omega), ← List.getD_eq_getElem?_getD]
  · have hq : quant n.op = false := by
      have : ¬ n.op = 19 ∧ ¬ n.op = 20 := by omega
      simp [quant, this]
    by_cases h2 : 3 ≤ n.op ∧ n.op ≤ 16
    · rw [mk_two h2]
      have hpp := parts_two h2
      simp only [needT]
      rw [hr n.a (by rw [hpp]; simp), hr n.b (by rw [hpp]; simp)]
      simp only [Option.bind_some]
      refine ⟨_, rfl, fun v hv => ?_⟩
      rw [hq, if_neg (by simp), or_at _ _ hv]
      unfold preA
      rw [hpp]
      show _ = preN l n v (0 + 1 + 1)
      have : ¬ (n.op = 1 ∧ n.k = (v : Int)) := fun h => by omega
      simp only [preN, hpp]
      rw [if_neg this]
      simp
    · by_cases h3 : n.op = 18
      · rw [mk_three h3]
        have hpp := parts_three h3
        simp only [needT]
        rw [hr n.a (by rw [hpp]; simp), hr n.b (by rw [hpp]; simp), hr n.c (by rw [hpp]; simp)]
        simp only [Option.bind_some]
        refine ⟨_, rfl, fun v hv => ?_⟩
        rw [hq, if_neg (by simp), or_at _ _ hv, or_at _ _ hv]
        unfold preA
        rw [hpp]
        show _ = preN l n v (0 + 1 + 1 + 1)
        have : ¬ (n.op = 1 ∧ n.k = (v : Int)) := fun h => by omega
        simp only [preN, hpp]
        rw [if_neg this]
        simp
      · rw [mk_leaf h1 h2 h3]
        have hpp := parts_none h1 h2 h3
        simp only [needT]
        refine ⟨_, rfl, fun v hv => ?_⟩
        rw [hq, if_neg (by simp), getD_map8 _ hv]
        unfold preA
        rw [hpp]
        rfl
end
theorem part_none {l : List Nd} (hD : Down l) {i : Nat} (hi : i < l.length) {p : Int} (hp : p ∈ parts (nth l i)) (h : needT (tr l p.toNat) = none) : needT (tr l i) = none := by
  rw [tr_at hD hi]
  generalize nth l i = n at hp
  by_cases h1 : n.op = 2 ∨ n.op = 17 ∨ n.op = 19 ∨ n.op = 20
  · rw [mk_one h1]
    rw [parts_one h1] at hp
    simp only [List.mem_cons, List.not_mem_nil, or_false] at hp
    subst hp
    simp only [needT]
    rw [h]; rfl
  · by_cases h2 : 3 ≤ n.op ∧ n.op ≤ 16
    · rw [mk_two h2]
      rw [parts_two h2] at hp
      simp only [List.mem_cons, List.not_mem_nil, or_false] at hp
      simp only [needT]
      rcases hp with rfl | rfl
      · rw [h]; rfl
      · rw [h]; cases needT (tr l n.a.toNat) <;> rfl
    · by_cases h3 : n.op = 18
      · rw [mk_three h3]
        rw [parts_three h3] at hp
        simp only [List.mem_cons, List.not_mem_nil, or_false] at hp
        simp only [needT]
        rcases hp with rfl | rfl | rfl
        · rw [h]; rfl
        · rw [h]; cases needT (tr l n.a.toNat) <;> rfl
        · rw [h]; cases needT (tr l n.a.toNat) <;> cases needT (tr l n.b.toNat) <;> rfl
      · rw [parts_none h1 h2 h3] at hp
        cases hp
theorem root_none {l : List Nd} (hD : Down l) : ∀ d i, l.length = i + 1 + d → flag (reachL l) i = true → needT (tr l i) = none → needT (root l) = none := by
  intro d
  induction d using Nat.strongRecOn with
  | ind d ih =>
    intro i hi hf hn
    rcases reach_why hD (i := i) (by omega) hf with e | ⟨j, h1, h2, h3, h4⟩
    · unfold root; rw [← e]; exact hn
    · refine ih (l.length - (j + 1)) (by omega) j (by omega) h3 (part_none hD (by omega) h4 ?_)
      rw [Int.toNat_natCast]; exact hn
theorem need_bd : ∀ (x : Tr) (r : List Nat), Rt x → needT x = some r → ∀ v, r.getD v 0 < 2 ^ 9 := by
  have hor : ∀ (r s : List Nat) (v : Nat), (∀ v, r.getD v 0 < 2 ^ 9) → (∀ v, s.getD v 0 < 2 ^ 9) → (orL r s).getD v 0 < 2 ^ 9 := by
    intro r s v hr hs
    by_cases hv : v < 8
    · rw [or_at r s hv]; exact Nat.or_lt_two_pow (hr v) (hs v)
    · rw [List.getD_eq_getElem?_getD, List.getElem?_eq_none (by unfold orL; simp; omega)]; decide
  intro x
  induction x with
  | leaf op w k =>
    intro r hR h v
    simp only [needT] at h
    cases h
    by_cases hv : v < 8
    · rw [getD_map8 _ hv]
      split
      · have h8 : w.toNat ≤ 8 := by have := hR.2.1; omega
        exact Nat.lt_of_le_of_lt (Nat.pow_le_pow_right (by omega) h8) (by decide)
      · decide
    · rw [List.getD_eq_getElem?_getD, List.getElem?_eq_none (by simp; omega)]; decide
  | one op w k b x ih =>
    intro r hR h v
    simp only [needT] at h
    cases hn : needT x with
    | none => rw [hn] at h; cases h
    | some s =>
      rw [hn] at h
      simp only [Option.bind_some] at h
      have hs := ih s hR.2.2.1 hn
      split at h
      · split at h
        · cases h
        · cases h
          rw [List.getD_eq_getElem?_getD]
          by_cases e : k.toNat = v
          · subst e
            by_cases hl : k.toNat < s.length
            · rw [List.getElem?_set_self hl]; decide
            · rw [List.getElem?_eq_none (by rw [List.length_set]; omega)]; decide
          · rw [List.getElem?_set_ne e, ← List.getD_eq_getElem?_getD]; exact hs v
      · cases h; exact hs v
  | two op w x y ihx ihy =>
    intro r hR h v
    simp only [needT] at h
    cases hx : needT x with
    | none => rw [hx] at h; cases h
    | some s =>
      cases hy : needT y with
      | none => rw [hx, hy] at h; cases h
      | some t =>
        rw [hx, hy] at h
        simp only [Option.bind_some] at h
        cases h
        exact hor s t v (ihx s hR.2.2.1 hx) (ihy t hR.2.2.2.1 hy)
  | three op w x y z ihx ihy ihz =>
    intro r hR h v
    simp only [needT] at h
    cases hx : needT x with
    | none => rw [hx] at h; cases h
    | some s =>
      cases hy : needT y with
      | none => rw [hx, hy] at h; cases h
      | some t =>
        cases hz : needT z with
        | none => rw [hx, hy, hz] at h; cases h
        | some u =>
          rw [hx, hy, hz] at h
          simp only [Option.bind_some] at h
          cases h
          exact hor _ u v (fun v => hor s t v (ihx s hR.2.2.1 hx) (ihy t hR.2.2.2.1 hy)) (ihz u hR.2.2.2.2.1 hz)

end Go.Proofs.YtbnjndloeflgiaaGreat.Vm1
