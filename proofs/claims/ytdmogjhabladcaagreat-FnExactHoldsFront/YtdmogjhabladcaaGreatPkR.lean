/- Small texts of mine, one behind the other. -/
import Derived.Deep.RegionHeld
import Derived.Deep.RegionWith
import Derived.Laws.PanicsMore
import Derived.Deep.MidRow
import Derived.Test.YtdmogjhabladcaaGreatPkH
import Derived.Test.YtdmogjhabladcaaGreatPkN
import Derived.Test.YtdmogjhabladcaaGreatPkI
import Derived.Test.YtdmogjhabladcaaGreatSv5
import Derived.Test.YtdmogjhabladcaaGreatPkA
import Derived.Test.YtdmogjhabladcaaGreatPkQ
import Derived.Test.YtdmogjhabladcaaGreatPkB
import Derived.Test.YtdmogjhabladcaaGreatPkO
/- The program's sets of widths. -/
namespace Go.Proofs.YtdmogjhabladcaaGreat.Pv5
open Go.RowKit
open Nd0 Pl1 Vl1 Vl2
open Wd1 (ret_int ret_bool)
open Pg1 (iWordOk)
set_option linter.unusedVariables false

theorem and1 {d : Nat} (h : d < 2 ^ 9) : (bits .and .u16 (d : Int) 1 == 1) = decide (d % 2 = 1) := by
  have h2 : ∀ d : Fin 512, (bits .and .u16 ((d : Nat) : Int) 1 == 1) = decide ((d : Nat) % 2 = 1) := by decide +kernel
  exact h2 ⟨d, h⟩
theorem or16 {a b : Nat} (ha : a < 2 ^ 9) (hb : b < 2 ^ 9) : bits .or .u16 (a : Int) (b : Int) = ((a ||| b : Nat) : Int) := by
  have e : bits .or .u16 (a : Int) (b : Int) = IntKind.u16.wrap ((BitVec.ofInt 16 (a : Int) ||| BitVec.ofInt 16 (b : Int)).toNat : Int) := rfl
  have h := Nat.or_lt_two_pow ha hb
  rw [e, BitVec.toNat_or, BitVec.ofInt_natCast, BitVec.ofInt_natCast, BitVec.toNat_ofNat, BitVec.toNat_ofNat, Nat.mod_eq_of_lt (by omega), Nat.mod_eq_of_lt (by omega)]
  unfold IntKind.wrap
  simp [IntKind.signed, IntKind.bits]
  omega
theorem not16 {a j : Nat} (ha : a < 2 ^ 9) (hj : j ≤ 8) : (bits .andNot .u16 (a : Int) ((2 ^ j : Nat) : Int) != 0) = decide (a ≠ 0 ∧ a ≠ 2 ^ j) := by
  have h2 : ∀ j : Fin 9, ∀ d : Fin 512, (bits .andNot .u16 ((d : Nat) : Int) ((2 ^ (j : Nat) : Nat) : Int) != 0) = decide ((d : Nat) ≠ 0 ∧ (d : Nat) ≠ 2 ^ (j : Nat)) := by decide +kernel
  exact h2 ⟨j, by omega⟩ ⟨a, ha⟩
theorem wrap16 {j : Nat} (h8 : j ≤ 8) : IntKind.u16.wrap ((2 ^ j : Nat) : Int) = ((2 ^ j : Nat) : Int) := by
  have h2 : ∀ j : Fin 9, IntKind.u16.wrap ((2 ^ (j : Nat) : Nat) : Int) = ((2 ^ (j : Nat) : Nat) : Int) := by decide +kernel
  exact h2 ⟨j, by omega⟩
set_option maxHeartbeats 1000000 in
theorem iJustW (j : Nat) (w : World) (h8 : j ≤ 8) :
    Calls Tryz.prog 114 #[.int .i64 (j : Int)] w fun e w' => e = .returned (.int .u16 ((2 ^ j : Nat) : Int)) ∧ w' = w := by
  have hjz : ¬ (j : Int) < 0 := by omega
  go_enter Tryz.func114, Tryz.ntmps114
  go_wp2
  go_ret
  exact ⟨ret_int (by have := wrap16 h8; push_cast at this; exact this), rfl⟩

set_option maxHeartbeats 1000000 in
theorem iHas (m j : Nat) (w : World) (hm : m < 2 ^ 9) (h1 : 1 ≤ j) (h8 : j ≤ 8) :
    Calls Tryz.prog 115 #[.int .u16 (m : Int), .int .i64 (j : Int)] w fun e w' => e = .returned (.bool (m.testBit j)) ∧ w' = w := by
  have hjz : ¬ (j : Int) < 0 := by omega
  have HB : Hid ((bits .and .u16 ((m : Int) / 2 ^ j) 1 == 1) = m.testBit j) := by
    show _ = _
    have h2 : (m : Int) / 2 ^ j = ((m / 2 ^ j : Nat) : Int) := by push_cast; rfl
    rw [h2, and1 (Nat.lt_of_le_of_lt (Nat.div_le_self _ _) hm), Nat.testBit_eq_decide_div_mod_eq]
  go_enter Tryz.func115, Tryz.ntmps115
  go_wp2
  go_ret
  exact ⟨ret_bool HB.out, rfl⟩

set_option maxHeartbeats 1000000 in
/-- Whether a number is a word of each width of a set. -/
def wordsB (m : Nat) (k : Int) : Bool := (List.range 8).all fun (j : Nat) => !m.testBit (j + 1) || wok ((j : Int) + 1) k
theorem words_iff {m : Nat} {k : Int} : wordsB m k = true ↔ ∀ j, 1 ≤ j → j ≤ 8 → m.testBit j = true → wok (j : Int) k = true := by
  unfold wordsB
  rw [List.all_eq_true]
  constructor
  · intro h j h1 h8 hb
    have := h (j - 1) (List.mem_range.2 (by omega))
    rw [show j - 1 + 1 = j by omega, hb] at this
    rw [show ((j - 1 : Nat) : Int) + 1 = (j : Int) by omega] at this
    simpa using this
  · intro h j hj
    have hj := List.mem_range.1 hj
    cases hb : m.testBit (j + 1)
    · rfl
    · have := h (j + 1) (by omega) (by omega) hb
      push_cast at this
      simp [this]
set_option maxHeartbeats 1000000 in
theorem iWords (m : Nat) (k : Int) (w : World) (hm : m < 2 ^ 9) :
    Calls Tryz.prog 88 #[.int .u16 (m : Int), .int .i64 k] w fun e w' => e = .returned (.bool (wordsB m k)) ∧ w' = w := by
  go_enter Tryz.func88, Tryz.ntmps88
  go_wp2
  go_loop [5] (fun q => ∃ j : Nat, 1 ≤ j ∧ j ≤ 9 ∧ q = .int .i64 (j : Int) ∧ ∀ i, 1 ≤ i → i < j → m.testBit i = true → wok (i : Int) k = true) (fun q => 9 - (intOf q).toNat)
  case atStart => exact ⟨1, by omega, by omega, rfl, fun i h1 h2 => by omega⟩
  case round =>
    obtain ⟨j, h1, h9, rfl, hok⟩ := hrel
    have HOK : Hid (∀ i, 1 ≤ i → i < j → m.testBit i = true → wok (i : Int) k = true) := hok
    clear hok
    by_cases hj : j ≤ 8
    · have hjz : (j : Int) ≤ 8 := by omega
      cases hb : m.testBit j
      · go_wp2_with (first | (go_at_call 115; refine (iHas m j _ hm h1 hj).mono ?_; rintro e w ⟨rfl, rfl⟩; rw [hb]) | (go_at_call 54; refine (iWordOk _ _ _).mono ?_; rintro e w ⟨rfl, rfl⟩))
        go_round
        case rel => exact ⟨j + 1, by omega, by omega, by go_num, fun i h2 h3 h4 => by
          by_cases e1 : i = j
          · rw [e1, hb] at h4; cases h4
          · exact HOK.out i h2 (by omega) h4⟩
        case measure => simp [intOf]; omega
      · cases hwk : wok (j : Int) k
        · have HF : Hid (wordsB m k = false) := by
            show _ = _
            cases hf : wordsB m k
            · rfl
            · rw [words_iff.1 hf j h1 hj hb] at hwk; cases hwk
          go_wp2_with (first | (go_at_call 115; refine (iHas m j _ hm h1 hj).mono ?_; rintro e w ⟨rfl, rfl⟩; rw [hb]) | (go_at_call 54; refine (iWordOk _ _ _).mono ?_; rintro e w ⟨rfl, rfl⟩; rw [hwk]))
          go_ret
          exact ⟨ret_bool HF.out.symm, rfl⟩
        · go_wp2_with (first | (go_at_call 115; refine (iHas m j _ hm h1 hj).mono ?_; rintro e w ⟨rfl, rfl⟩; rw [hb]) | (go_at_call 54; refine (iWordOk _ _ _).mono ?_; rintro e w ⟨rfl, rfl⟩; rw [hwk]))
          go_round
          case rel => exact ⟨j + 1, by omega, by omega, by go_num, fun i h2 h3 h4 => by
            by_cases e1 : i = j
            · rw [e1]; exact hwk
            · exact HOK.out i h2 (by omega) h4⟩
          case measure => simp [intOf]; omega
    · have hjz : ¬ (j : Int) ≤ 8 := by omega
      have HF : Hid (wordsB m k = true) := words_iff.2 (fun i h1 h2 h3 => HOK.out i h1 (by omega) h3)
      go_wp2
      go_ret
      exact ⟨ret_bool HF.out.symm, rfl⟩

end Go.Proofs.YtdmogjhabladcaaGreat.Pv5

/- Which widths each variable wants: the program's rows, of the reached nodes alone, as plain data. -/
namespace Go.Proofs.YtdmogjhabladcaaGreat.Vm3
open Go.RowKit
open Nd0 Pl1 Tm0 Tm1 Tm2 Tm5 Tm6 Tm8 Tr0 Rw0 Vl1 Vl2 Vm0 Vm1 Sv5
set_option linter.unusedVariables false

/-- Place i is reached, and one of the first m of these. -/
def doneB (l : List Nd) (m i : Nat) : Bool := flag (reachL l) i && decide ((reachTo l i).length < m)
theorem done_zero (l : List Nd) (i : Nat) : doneB l 0 i = false := by simp [doneB]
/-- The place that comes next. -/
structure Next (l : List Nd) (m x : Nat) : Prop where
  lt : x < l.length
  fl : flag (reachL l) x = true
  rank : (reachTo l x).length = m
theorem Next.not {l : List Nd} {m x : Nat} (h : Next l m x) : doneB l m x = false := by
  unfold doneB; rw [h.rank]; simp
theorem Next.succ {l : List Nd} {m x : Nat} (h : Next l m x) (i : Nat) : doneB l (m + 1) i = (doneB l m i || decide (i = x)) := by
  by_cases e : i = x
  · subst e
    unfold doneB; rw [h.rank, h.fl]; simp
  · rw [decide_eq_false e, Bool.or_false]
    unfold doneB
    cases hf : flag (reachL l) i with
    | false => rfl
    | true =>
      rw [Bool.true_and, Bool.true_and]
      have hne : (reachTo l i).length ≠ m := fun h2 => e (reachTo_inj l hf h.fl (h2.trans h.rank.symm))
      exact decide_eq_decide.2 (by omega)
theorem Next.part {l : List Nd} {m x : Nat} (h : Next l m x) (hD : Down l) {p : Int} (hp : p ∈ parts (nth l x)) : doneB l m p.toNat = true ∧ 0 ≤ p ∧ p.toNat < x := by
  have hf := reach_closed hD h.lt h.fl hp
  have hd := hD x h.lt p hp
  have hl : p.toNat < x := by omega
  have := reachTo_lt l hl hf
  rw [h.rank] at this
  unfold doneB
  rw [hf]
  exact ⟨by simpa using this, hd.1, hl⟩
theorem done_root {l : List Nd} (h : 1 ≤ l.length) : doneB l (reachTo l l.length).length (l.length - 1) = true := by
  have hf := reach_root h
  have := reachTo_lt l (a := l.length - 1) (b := l.length) (by omega) hf
  unfold doneB
  rw [hf]
  simpa using this

/-- Rows of eight, one a node, in one block. -/
def R2 (F : Nat → Nat → Nat) : Nat → Value := fun j => .int .u16 ((F (j / 8) (j % 8) : Nat) : Int)
def put (F : Nat → Nat → Nat) (x v z : Nat) : Nat → Nat → Nat := fun i u => if i = x ∧ u = v then z else F i u
theorem row_at {w : World} {g : Nat} {F : Nat → Nat → Nat} (h : Row w g 640 (R2 F)) {x v : Nat} (hx : x < 80) (hv : v < 8) : w.cell? ⟨g, x * 8 + v, none⟩ = some (.int .u16 ((F x v : Nat) : Int)) ∧ w.frozen? ⟨g, x * 8 + v, none⟩ = false := by
  have h2 := h (x * 8 + v) (by omega)
  unfold R2 at h2
  rw [show (x * 8 + v) / 8 = x by omega, show (x * 8 + v) % 8 = v by omega] at h2
  exact h2
theorem row_put {w : World} {g : Nat} {F : Nat → Nat → Nat} (h : Row w g 640 (R2 F)) {x v : Nat} (hx : x < 80) (hv : v < 8) (z : Nat) : Row (w.setCell ⟨g, x * 8 + v, none⟩ (.int .u16 ((z : Nat) : Int))) g 640 (R2 (put F x v z)) := by
  refine (h.set (p := x * 8 + v) (by omega) _).congr (fun j hj => ?_)
  unfold R2 put
  by_cases e : j = x * 8 + v
  · rw [if_pos e, if_pos (by omega)]
  · rw [if_neg e, if_neg (by omega)]
theorem row_congr {w : World} {g : Nat} {F F' : Nat → Nat → Nat} (h : Row w g 640 (R2 F)) (e : ∀ i u, u < 8 → F i u = F' i u) : Row w g 640 (R2 F') := h.congr (fun j hj => by
  unfold R2
  rw [e _ _ (by omega)])

/-- The rows with m nodes worked out. -/
def stage (l : List Nd) (m : Nat) : Nat → Nat → Nat := fun i u => if doneB l m i then rowV l (nth l i) u else 0
/-- And in the next one, x, the first d parts taken in, of the part behind them the first v variables. -/
def mid (l : List Nd) (m x d v : Nat) : Nat → Nat → Nat := fun i u => if i = x then (if u < v then preN l (nth l x) u (d + 1) else preN l (nth l x) u d) else stage l m i u
theorem mid_step (l : List Nd) (m x d v : Nat) : ∀ i u, put (mid l m x d v) x v (preN l (nth l x) v (d + 1)) i u = mid l m x d (v + 1) i u := by
  intro i u
  unfold put mid
  by_cases hi : i = x
  · by_cases hu : u = v
    · rw [if_pos ⟨hi, hu⟩, if_pos hi, if_pos (by omega), hu]
    · rw [if_neg (fun h => hu h.2), if_pos hi, if_pos hi]
      by_cases h2 : u < v
      · rw [if_pos h2, if_pos (by omega)]
      · rw [if_neg h2, if_neg (by omega)]
  · rw [if_neg (fun h => hi h.1), if_neg hi, if_neg hi]
theorem mid_next (l : List Nd) (m x d : Nat) : ∀ i u, u < 8 → mid l m x d 8 i u = mid l m x (d + 1) 0 i u := by
  intro i u hu
  unfold mid
  by_cases hi : i = x
  · rw [if_pos hi, if_pos hi, if_pos hu, if_neg (by omega)]
  · rw [if_neg hi, if_neg hi]
theorem mid_at (l : List Nd) (m x d u : Nat) : mid l m x d 0 x u = preN l (nth l x) u d := by
  unfold mid; rw [if_pos rfl, if_neg (by omega)]
theorem mid_ne (l : List Nd) {m x d v i : Nat} (u : Nat) (h : ¬ i = x) : mid l m x d v i u = stage l m i u := by
  unfold mid; rw [if_neg h]
theorem stage_x {l : List Nd} {m x : Nat} (hX : Next l m x) (u : Nat) : stage l m x u = 0 := by
  unfold stage; rw [hX.not]; rfl
/-- At a variable its own width is put in first. -/
theorem mid_var {l : List Nd} {m x : Nat} (hX : Next l m x) (h1 : (nth l x).op = 1) (hk : 0 ≤ (nth l x).k) : ∀ i u, put (stage l m) x (nth l x).k.toNat (2 ^ (nth l x).w.toNat) i u = mid l m x 0 0 i u := by
  intro i u
  by_cases hi : i = x
  · subst hi
    rw [mid_at]
    unfold put
    show _ = if _ then _ else _
    by_cases hu : u = (nth l i).k.toNat
    · rw [if_pos ⟨rfl, hu⟩, if_pos ⟨h1, by omega⟩]
    · rw [if_neg (fun h => hu h.2), if_neg (fun h => hu (by omega)), stage_x hX]
  · rw [mid_ne l u hi]
    unfold put
    rw [if_neg (fun h => hi h.1)]
theorem mid_other {l : List Nd} {m x : Nat} (hX : Next l m x) (h1 : ¬ (nth l x).op = 1) : ∀ i u, stage l m i u = mid l m x 0 0 i u := by
  intro i u
  by_cases hi : i = x
  · subst hi
    rw [mid_at, stage_x hX]
    show _ = if _ then _ else _
    rw [if_neg (fun h => h1 h.1)]
  · rw [mid_ne l u hi]
/-- The node is worked out: no quantifier. -/
theorem mid_end {l : List Nd} {m x : Nat} (hX : Next l m x) (hq : quant (nth l x).op = false) : ∀ i u, mid l m x (parts (nth l x)).length 0 i u = stage l (m + 1) i u := by
  intro i u
  by_cases hi : i = x
  · subst hi
    rw [mid_at]
    unfold stage
    rw [hX.succ i, decide_eq_true rfl, Bool.or_true, if_pos rfl]
    unfold rowV
    rw [if_neg (by rw [hq]; simp)]; rfl
  · rw [mid_ne l u hi]
    unfold stage
    rw [hX.succ i, decide_eq_false hi, Bool.or_false]
theorem mid_quant {l : List Nd} {m x : Nat} (hX : Next l m x) (hq : quant (nth l x).op = true) (hk : 0 ≤ (nth l x).k) : ∀ i u, put (mid l m x (parts (nth l x)).length 0) x (nth l x).k.toNat 0 i u = stage l (m + 1) i u := by
  intro i u
  by_cases hi : i = x
  · subst hi
    unfold put stage
    rw [hX.succ i, decide_eq_true rfl, Bool.or_true]
    by_cases hu : u = (nth l i).k.toNat
    · rw [if_pos ⟨rfl, hu⟩, if_pos rfl]
      unfold rowV
      rw [if_pos ⟨hq, by omega⟩]
    · rw [if_neg (fun h => hu h.2), mid_at, if_pos rfl]
      unfold rowV
      rw [if_neg (fun h => hu (by omega))]; rfl
  · unfold put
    rw [if_neg (fun h => hi h.1), mid_ne l u hi]
    unfold stage
    rw [hX.succ i, decide_eq_false hi, Bool.or_false]

/-- All that are worked out have rows. -/
def Goods (l : List Nd) (m : Nat) : Prop := ∀ i, i < l.length → doneB l m i = true → Sv5.Good l i
theorem goods_next {l : List Nd} (hT : termOk l = true) {m x : Nat} (hX : Next l m x) (hG : Goods l m) (hb : badQ l (nth l x) = false) (hk : quant (nth l x).op = true → 0 ≤ (nth l x).k) : Goods l (m + 1) := by
  intro i hi hd
  rw [hX.succ i] at hd
  by_cases e : i = x
  · subst e
    exact need_some (down_of hT) hi (fun p hp => by
      obtain ⟨h1, h2, h3⟩ := hX.part (down_of hT) hp
      exact (hG p.toNat (by omega) h1).some) hb hk
  · rw [decide_eq_false e, Bool.or_false] at hd
    exact hG i hi hd
theorem bad_none {l : List Nd} (hT : termOk l = true) {m x : Nat} (hX : Next l m x) (hG : Goods l m) (hb : badQ l (nth l x) = true) : needT (root l) = none := by
  refine root_none (down_of hT) (l.length - x - 1) x (by have := hX.lt; omega) hX.fl ?_
  exact need_none (down_of hT) hX.lt (fun p hp => by
    obtain ⟨h1, h2, h3⟩ := hX.part (down_of hT) hp
    exact (hG p.toNat (by have := hX.lt; omega) h1).some) hb
/-- What is taken in from a part is its row. -/
theorem pre_step {l : List Nd} (hT : termOk l = true) {m x : Nat} (hX : Next l m x) (hG : Goods l m) {d : Nat} (hd : d < (parts (nth l x)).length) {v : Nat} (hv : v < 8) :
    preN l (nth l x) v (d + 1) = preN l (nth l x) v d ||| stage l m ((parts (nth l x))[d]).toNat v := by
  obtain ⟨h1, h2, h3⟩ := hX.part (down_of hT) (List.getElem_mem hd)
  have e : (parts (nth l x)).getD d 0 = (parts (nth l x))[d] := by rw [List.getD_eq_getElem?_getD, List.getElem?_eq_getElem hd]; rfl
  show _ ||| _ = _
  rw [e, (hG _ (by have := hX.lt; omega) h1).row hv]
  unfold stage
  rw [if_pos h1]
theorem stage_bd {l : List Nd} (hT : termOk l = true) {m : Nat} (hG : Goods l m) {i v : Nat} (hi : i < l.length) (hv : v < 8) : stage l m i v < 2 ^ 9 := by
  unfold stage
  split
  · rename_i h
    exact (hG i hi h).bd hT hi hv
  · decide
theorem preN_bd {l : List Nd} (hT : termOk l = true) {m x : Nat} (hX : Next l m x) (hG : Goods l m) {v : Nat} (hv : v < 8) : ∀ d, d ≤ (parts (nth l x)).length → preN l (nth l x) v d < 2 ^ 9 := by
  intro d
  induction d with
  | zero =>
    intro _
    have h8 := (node_width (term_node hT hX.lt)).2
    show (if _ then _ else _) < _
    split
    · exact Nat.lt_of_le_of_lt (Nat.pow_le_pow_right (by omega) (show (nth l x).w.toNat ≤ 8 by omega)) (by decide)
    · decide
  | succ d ih =>
    intro hd
    rw [pre_step hT hX hG hd hv]
    obtain ⟨h1, h2, h3⟩ := hX.part (down_of hT) (List.getElem_mem hd)
    exact Nat.or_lt_two_pow (ih (by omega)) (stage_bd hT hG (by have := hX.lt; omega) hv)

end Go.Proofs.YtdmogjhabladcaaGreat.Vm3

/- The walk of the program's freeWidths. -/
namespace Go.Proofs.YtdmogjhabladcaaGreat.Pv13
open Go.RowKit
open Nd0 Pl1 Tm0 Tm1 Tm2 Tm5 Tm6 Tm8 Tr0 Rw0 Vl1 Vl2 Vm0 Vm1 Kp1 Sv5 Vm3 Pg1 Pg2
open Lx1 (ITermOk)
open Pg7 (iReached)
open Pg9 (var_of)
open Pv5 (iJustW or16 not16)
set_option linter.unusedVariables false

theorem zeros640 : Tryz.zeroCells142 = Array.replicate 640 (.int .u16 0) := by kernel_rfl

/-- What freeWidths tells. -/
def FW (l : List Nd) (r : Nat → Nat) (b : Bool) : Prop := b = (needT (root l)).isSome ∧ (∀ v, v < 8 → r v < 2 ^ 9) ∧ ∀ q, needT (root l) = some q → ∀ v, v < 8 → r v = q.getD v 0
def agg8 (r : Nat → Nat) : Value := .agg #[.int .u16 (r 0 : Int), .int .u16 (r 1 : Int), .int .u16 (r 2 : Int), .int .u16 (r 3 : Int), .int .u16 (r 4 : Int), .int .u16 (r 5 : Int), .int .u16 (r 6 : Int), .int .u16 (r 7 : Int)]

set_option maxRecDepth 100000 in
set_option maxHeartbeats 1000000 in
theorem idx8 (Y : Nat → Nat) {v : Nat} (hv : v < 8) (w : World) : (Instr.index 114 (.agg #[.int .u16 (Y 0 : Int), .int .u16 (Y 1 : Int), .int .u16 (Y 2 : Int), .int .u16 (Y 3 : Int), .int .u16 (Y 4 : Int), .int .u16 (Y 5 : Int), .int .u16 (Y 6 : Int), .int .u16 (Y 7 : Int)]) (.int .i64 (v : Int))).run Tryz.prog w = .ok (.int .u16 (Y v : Int)) w := by
  rcases (show v = 0 ∨ v = 1 ∨ v = 2 ∨ v = 3 ∨ v = 4 ∨ v = 5 ∨ v = 6 ∨ v = 7 by omega) with h | h | h | h | h | h | h | h <;> subst h <;> simp [Instr.index, run_underlying Tryz.underlying114, asIntOf, go_sem]

def list8 (r : Nat → Nat) : List Value := [.int .u16 (r 0 : Int), .int .u16 (r 1 : Int), .int .u16 (r 2 : Int), .int .u16 (r 3 : Int), .int .u16 (r 4 : Int), .int .u16 (r 5 : Int), .int .u16 (r 6 : Int), .int .u16 (r 7 : Int)]
set_option maxRecDepth 100000 in
set_option maxHeartbeats 1000000 in
theorem results_two {w : World} {gr : Nat} {r : Nat → Nat} {b : Bool} {tmps : Array Value} (hp : tmps.getD 2 undef = .pointer (some ⟨gr, 0, none⟩)) (hq : tmps.getD 3 undef = .bool b) (hc : ∀ v, v < 8 → w.cell? ⟨gr, v, none⟩ = some (.int .u16 (r v : Int))) :
    (results Tryz.f87 tmps).run Tryz.prog w = .ok (.tuple #[agg8 r, .bool b]) w := by
  have hr : w.rangeAt gr 0 (list8 r) := fun j v hv => by
    rw [Nat.zero_add]
    have hj : j < 8 := by
      have := (List.getElem?_eq_some_iff.1 hv).1
      simpa [list8] using this
    rw [hc j hj]
    rcases (show j = 0 ∨ j = 1 ∨ j = 2 ∨ j = 3 ∨ j = 4 ∨ j = 5 ∨ j = 6 ∨ j = 7 by omega) with h | h | h | h | h | h | h | h <;> subst h <;> exact hv
  have hl := run_loadVar_mid (P := Tryz.prog) w gr 0 114 (list8 r) _ hr Tryz.underlying114 rfl rfl
  have hp' : tmps[2]?.getD undef = .pointer (some ⟨gr, 0, none⟩) := by simpa using hp
  have hq' : tmps[3]?.getD undef = .bool b := by simpa using hq
  simp [results, hp', hq', asAddr, hl]
  rfl
theorem kept_drewN {S : Nat → Prop} {u w : World} (h : Kept S u w) (n : Nat) : Kept S u (w.drewN n) := ⟨h.os, h.tape, h.output, h.size, h.block⟩
theorem kept_set8 {gr : Nat} {u w : World} (h : Kept (fun b => b = gr) u w) (v0 v1 v2 v3 v4 v5 v6 v7 : Value) : Kept (fun b => b = gr) u ((((((((w.setCell ⟨gr, 0, none⟩ v0).setCell ⟨gr, 1, none⟩ v1).setCell ⟨gr, 2, none⟩ v2).setCell ⟨gr, 3, none⟩ v3).setCell ⟨gr, 4, none⟩ v4).setCell ⟨gr, 5, none⟩ v5).setCell ⟨gr, 6, none⟩ v6).setCell ⟨gr, 7, none⟩ v7) :=
  (((((((h.setCell rfl _).setCell rfl _).setCell rfl _).setCell rfl _).setCell rfl _).setCell rfl _).setCell rfl _).setCell rfl _
theorem row_set8 {gr : Nat} {w : World} {f : Nat → Value} (h : Row w gr 8 f) (r : Nat → Nat) : ∀ v, v < 8 → ((((((((w.setCell ⟨gr, 0, none⟩ (.int .u16 (r 0 : Int))).setCell ⟨gr, 1, none⟩ (.int .u16 (r 1 : Int))).setCell ⟨gr, 2, none⟩ (.int .u16 (r 2 : Int))).setCell ⟨gr, 3, none⟩ (.int .u16 (r 3 : Int))).setCell ⟨gr, 4, none⟩ (.int .u16 (r 4 : Int))).setCell ⟨gr, 5, none⟩ (.int .u16 (r 5 : Int))).setCell ⟨gr, 6, none⟩ (.int .u16 (r 6 : Int))).setCell ⟨gr, 7, none⟩ (.int .u16 (r 7 : Int))).cell? ⟨gr, v, none⟩ = some (.int .u16 (r v : Int)) := by
  have h8 := (((((((h.set (p := 0) (by omega) (.int .u16 (r 0 : Int))).set (p := 1) (by omega) (.int .u16 (r 1 : Int))).set (p := 2) (by omega) (.int .u16 (r 2 : Int))).set (p := 3) (by omega) (.int .u16 (r 3 : Int))).set (p := 4) (by omega) (.int .u16 (r 4 : Int))).set (p := 5) (by omega) (.int .u16 (r 5 : Int))).set (p := 6) (by omega) (.int .u16 (r 6 : Int))).set (p := 7) (by omega) (.int .u16 (r 7 : Int))
  intro v hv
  rw [(h8 v hv).1]
  rcases (show v = 0 ∨ v = 1 ∨ v = 2 ∨ v = 3 ∨ v = 4 ∨ v = 5 ∨ v = 6 ∨ v = 7 by omega) with h | h | h | h | h | h | h | h <;> subst h <;> rfl

set_option maxRecDepth 100000 in
set_option maxHeartbeats 8000000 in
theorem iFreeW (hTO : ITermOk) (w : World) (a : Option Addr) (l : List Nd) (c : Nat) (hN : Nodes w a l) (hcap : l.length ≤ c) (hT : termOk l = true) :
    Calls Tryz.prog 87 #[.slice a l.length c] w fun e w' => (∃ r b, e = .returned (.tuple #[agg8 r, .bool b]) ∧ FW l r b) ∧ Below w.heap.size w w' := by
  have HN : Hid (Nodes w a l) := hN
  have HT : Hid (termOk l = true) := hT
  have HTO : Hid ITermOk := hTO
  have HCAP : Hid (l.length ≤ c) := hcap
  obtain ⟨hl1, hl2⟩ := term_len hT
  clear hN hT hTO hcap
  obtain ⟨gr, hgr⟩ : ∃ gr : Nat, gr = w.heap.size := ⟨_, rfl⟩
  obtain ⟨g, hg⟩ : ∃ g : Nat, g = w.heap.size + 1 := ⟨_, rfl⟩
  obtain ⟨wa, hwa⟩ : ∃ wa : World, wa = (w.alloc (.cells #[.int .u16 0, .int .u16 0, .int .u16 0, .int .u16 0, .int .u16 0, .int .u16 0, .int .u16 0, .int .u16 0] 114)).alloc (.cells Tryz.zeroCells142 142) := ⟨_, rfl⟩
  obtain ⟨wz, hwz⟩ : ∃ wz : World, wz = w.alloc (.cells #[.int .u16 0, .int .u16 0, .int .u16 0, .int .u16 0, .int .u16 0, .int .u16 0, .int .u16 0, .int .u16 0] 114) := ⟨_, rfl⟩
  have hsz : wz.heap.size = w.heap.size + 1 := by rw [hwz]; simp
  have hwa2 : wa = wz.alloc (.cells Tryz.zeroCells142 142) := by rw [hwa, hwz]
  have hsa : wa.heap.size = w.heap.size + 2 := by rw [hwa2]; simp [hsz]
  have hBz : Below w.heap.size w wz := by rw [hwz]; exact (Below.refl _ _).alloc (Nat.le_refl _) _
  have hBa : Below wz.heap.size wz wa := by rw [hwa2]; exact (Below.refl _ _).alloc (Nat.le_refl _) _
  have HBA : Hid (Below w.heap.size w wa) := hBz.trans (hBa.mono (by omega))
  have HR0 : Hid (Row wa g 640 (R2 (stage l 0))) := by
    rw [hg, ← hsz, hwa2]
    refine Row.new _ _ _ _ _ (fun i hi => ?_)
    rw [zeros640, Array.getElem?_replicate, if_pos hi]
    unfold R2 stage
    rw [done_zero]; rfl
  have HRR : Hid (Row wa gr 8 (fun _ => .int .u16 0)) := by
    refine Row.below ?_ hBa
    rw [hgr, hwz]
    exact Row.new _ _ _ _ _ (fun i hi => by
      rcases (show i = 0 ∨ i = 1 ∨ i = 2 ∨ i = 3 ∨ i = 4 ∨ i = 5 ∨ i = 6 ∨ i = 7 by omega) with h | h | h | h | h | h | h | h <;> subst h <;> rfl)
  have HG : Hid (gr = w.heap.size ∧ g = w.heap.size + 1 ∧ wa.heap.size = w.heap.size + 2) := ⟨hgr, hg, hsa⟩
  clear hBz hBa hwa2 hwz hsz hsa
  have HRE : Hid (reachedL l = reachTo l l.length) := by
    show _ = _
    unfold reachedL; rw [HT.out]; rfl
  have hRL : (reachedL l).length ≤ 80 := by
    rw [HRE.out]; unfold reachTo; rw [List.length_map]
    exact Nat.le_trans (List.length_filter_le _ _) (by simp; omega)
  go_enter Tryz.func87, Tryz.ntmps87
  go_wp2_with fail
  rw [← hwa, ← hg, ← hgr]
  clear hwa hg hgr
  refine (iReached HTO.out wa a l c (HN.out.below HBA.out) HCAP.out (by omega)).mono ?_
  rintro e0 w1 ⟨⟨ra, rc, rfl, hri⟩, hb1⟩
  have HRI : Hid (IntsIn w1 wa.heap.size w1.heap.size ra (reachedL l)) := hri.within
  have HB1 : Hid (Below w.heap.size w w1) := HBA.out.trans (hb1.mono HBA.out.size)
  have HR1 : Hid (Row w1 g 640 (R2 (stage l 0))) := HR0.out.below hb1
  have HRR1 : Hid (Row w1 gr 8 (fun _ => .int .u16 0)) := HRR.out.below hb1
  have HS1 : Hid (wa.heap.size ≤ w1.heap.size) := hb1.size
  have HRA : Hid (∀ m (h : m < (reachedL l).length), ∃ x : Nat, (reachedL l)[m] = (x : Int) ∧ Vm3.Next l m x) := by
    show ∀ _, _
    intro m h
    have e := HRE.out
    obtain ⟨x, h1, h2, h3, h4⟩ := reach_at l l.length m (by rw [← e]; exact h)
    exact ⟨x, by simp only [e]; exact h1, h2, h3, h4⟩
  clear hri hb1 HR0 HRR
  go_wp2_with fail
  go_loopw [15] (fun q wr => ∃ m : Nat, m ≤ (reachedL l).length ∧ q = .int .i64 (m : Int) ∧ Row wr g 640 (R2 (stage l m)) ∧ Goods l m ∧ Kept (fun b => b = g) w1 wr) (fun q _ => (reachedL l).length - (intOf q).toNat)
  case atStart => exact ⟨0, Nat.zero_le _, rfl, HR1.out, (fun i _ h => by rw [done_zero] at h; cases h), Kept.refl _ _⟩
  case round =>
    obtain ⟨m, hm, rfl, hr, hg, hk⟩ := hrel
    have HR : Hid (Row wr g 640 (R2 (stage l m))) := hr
    have HGD : Hid (Goods l m) := hg
    have HK : Hid (Kept (fun b => b = g) w1 wr) := hk
    have hgl : g < wr.heap.size := hr.lt (by omega)
    clear hr hg hk
    by_cases hlt : m < (reachedL l).length
    · have hmz : (m : Int) < ((reachedL l).length : Int) := by omega
      obtain ⟨x, hx, hX⟩ := HRA.out m hlt
      have HX : Hid (Vm3.Next l m x) := hX
      have hxl := hX.lt
      have HLT : Hid (m < (reachedL l).length) := hlt
      have hxz : (x : Int) < (l.length : Int) := by omega
      have hx80 : (x : Int) < 80 := by omega
      clear hX
      have HGG := HG.out
      rcases (HRI.out.kept HK.out (fun b h1 h2 e => by omega)).2 with h0 | ⟨rb, ro, rfl, hrB, hrU, hrc⟩
      · omega
      have q0 := (hrc m hlt).1
      rw [hx] at q0
      have HNR : Hid (Nodes wr a l) := (HN.out.below HB1.out).kept HK.out (fun y hy h => by
        have h2 : y.block < w.heap.size := by
          rcases HN.out.2 with h0 | ⟨xb, xo, rfl, hc⟩
          · omega
          · have e := Option.some.inj hy
            subst e
            exact (hc x hxl).lt
        have h' : y.block = g := h
        omega)
      rcases HNR.out.2 with h0 | ⟨xb, xo, rfl, hc⟩
      · omega
      obtain ⟨p0, p1, p2, p3, p4, p5⟩ := hc x hxl
      rw [nth_get hxl] at p0 p1 p2 p3 p4 p5
      clear hc hrc hx HGG hrB hrU
      have HOK : Hid (nodeOk l x = true) := term_node HT.out hxl
      have HV : Hid ((nth l x).op = 1 ∨ quant (nth l x).op = true → ∃ kk : Nat, (nth l x).k = (kk : Int) ∧ kk ≤ 7) := fun h => var_of (term_node HT.out hxl) h
      by_cases h1 : (nth l x).op = 1
      · obtain ⟨kk, hkk, hk7⟩ := HV.out (.inl h1)
        have hww := node_width (term_node HT.out hxl)
        obtain ⟨j, hj⟩ : ∃ j : Nat, (nth l x).w = (j : Int) := ⟨(nth l x).w.toNat, by omega⟩
        have h1b : ((nth l x).op == 1) = true := by simpa using h1
        have hq : quant (nth l x).op = false := by rw [h1]; decide
        have hk8z : (kk : Int) < 8 := by omega
        have HP0 : Hid (parts (nth l x) = []) := parts_none (by omega) (by omega) (by omega)
        have HGN : Hid (Goods l (m + 1)) := goods_next HT.out HX.out HGD.out (by unfold badQ; rw [hq]; rfl) (fun h => by rw [hq] at h; cases h)
        rw [h1] at p0
        rw [hj] at p1
        rw [hkk] at p2
        obtain ⟨nn, hnn⟩ : ∃ nn : Nd, nn = ⟨1, (j : Int), (kk : Int), (nth l x).a, (nth l x).b, (nth l x).c⟩ := ⟨_, rfl⟩
        have HPN : Hid (parts ⟨1, (j : Int), (kk : Int), (nth l x).a, (nth l x).b, (nth l x).c⟩ = []) := parts_none (by simp) (by simp) (by simp)
        obtain ⟨wn, hwn⟩ : ∃ wn : World, wn = wr.alloc (.cells #[.int .i64 1, .int .i64 (j : Int), .int .i64 (kk : Int), .int .i64 (nth l x).a, .int .i64 (nth l x).b, .int .i64 (nth l x).c] 31) := ⟨_, rfl⟩
        have hBN : Below wr.heap.size wr wn := by rw [hwn]; exact (Below.refl _ _).alloc (Nat.le_refl _) _
        have hNA : NodeAt wn wr.heap.size 0 ⟨1, (j : Int), (kk : Int), (nth l x).a, (nth l x).b, (nth l x).c⟩ := by rw [hwn]; exact Dw4.node_new wr ⟨1, (j : Int), (kk : Int), (nth l x).a, (nth l x).b, (nth l x).c⟩ _ _ rfl 0 (by simp)
        have HRW : Hid (Row wn g 640 (R2 (stage l m))) := HR.out.below hBN
        obtain ⟨s1, s2⟩ := row_at HRW.out (x := x) (v := kk) (by omega) (by omega)
        have HRP : Hid (Row (wn.setCell ⟨g, x * 8 + kk, none⟩ (.int .u16 ((2 ^ j : Nat) : Int))) g 640 (R2 (stage l (m + 1)))) := row_congr (row_put HRW.out (by omega) (by omega) (2 ^ j)) (fun i u _ => by
          have e1 := mid_var HX.out h1 (by omega) i u
          have e2 := mid_end HX.out hq i u
          rw [HP0.out] at e2
          rw [hkk, hj, Int.toNat_natCast, Int.toNat_natCast] at e1
          exact e1.trans e2)
        have HKP : Hid (Kept (fun b => b = g) w1 (wn.setCell ⟨g, x * 8 + kk, none⟩ (.int .u16 ((2 ^ j : Nat) : Int)))) := (HK.out.trans (Kept.ofBelow hBN)).setCell (p := ⟨g, x * 8 + kk, none⟩) rfl _
        have HJ : Hid (∀ w : World, Calls Tryz.prog 114 #[.int .i64 (j : Int)] w fun e w' => e = .returned (.int .u16 ((2 ^ j : Nat) : Int)) ∧ w' = w) := fun w => iJustW j w (by omega)
        have HNZ : Hid (NodeAt (wn.setCell ⟨g, x * 8 + kk, none⟩ (.int .u16 ((2 ^ j : Nat) : Int))).drew wr.heap.size 0 ⟨1, (j : Int), (kk : Int), (nth l x).a, (nth l x).b, (nth l x).c⟩) := by
          have hne : ∀ o : Nat, (⟨g, x * 8 + kk, none⟩ : Addr) ≠ ⟨wr.heap.size, o, none⟩ := fun o e => by
            have := congrArg Addr.block e
            dsimp only at this
            omega
          exact ⟨(set_other (hne _)).trans hNA.c0, (set_other (hne _)).trans hNA.c1, (set_other (hne _)).trans hNA.c2, (set_other (hne _)).trans hNA.c3, (set_other (hne _)).trans hNA.c4, (set_other (hne _)).trans hNA.c5⟩
        obtain ⟨n0, n1, n2, _, _, _⟩ := hNA
        have z1 := HNZ.out.c1
        have z2 := HNZ.out.c2
        have hq1 : quant 1 = false := by decide
        have HSZ : Hid (wr.heap.size < wn.heap.size) := lt_of_cell n0
        generalize 2 ^ j = pw at HRP HKP HJ HNZ z1 z2
        clear h1 h1b hkk hj hww hq n0 hnn
        go_wp2_with fail
        rw [← hwn]
        clear hwn hBN
        go_region_held (fun w' => w'.cell? ⟨wr.heap.size, 1, none⟩ = some (.int .i64 (j : Int)) ∧ w'.cell? ⟨wr.heap.size, 2, none⟩ = some (.int .i64 (kk : Int))) ((first | exact ⟨n1, n2⟩ | exact ⟨z1, z2⟩)) ((go_at_call 114; refine (HJ.out _).mono ?_; rintro e wn ⟨rfl, rfl⟩))
        obtain ⟨y0, y1, y2, y3, y4, y5⟩ := HNZ.out
        have HR9 : Hid (Row (wn.setCell ⟨g, x * 8 + kk, none⟩ (.int .u16 (pw : Int))).drew g 640 (R2 (stage l (m + 1)))) := HRP.out.drew
        have HK9 : Hid (Kept (fun b => b = g) w1 (wn.setCell ⟨g, x * 8 + kk, none⟩ (.int .u16 (pw : Int))).drew) := HKP.out.drew
        have HNA9 : Hid (NodeAt (wn.setCell ⟨g, x * 8 + kk, none⟩ (.int .u16 (pw : Int))).drew wr.heap.size 0 ⟨1, (j : Int), (kk : Int), (nth l x).a, (nth l x).b, (nth l x).c⟩) := HNZ.out
        clear HRP HKP HNZ z1 z2 n1 n2 s1 s2
        generalize (wn.setCell ⟨g, x * 8 + kk, none⟩ (.int .u16 (pw : Int))).drew = wc at HR9 HK9 HNA9 y0 y1 y2 y3 y4 y5 ⊢
        go_wp2_with fail
        refine (iParts ⟨1, (j : Int), (kk : Int), (nth l x).a, (nth l x).b, (nth l x).c⟩ _).mono ?_
        rintro e w2 ⟨⟨pa, pc, rfl, hpi⟩, hb2⟩
        have b0 : w2.cell? ⟨wr.heap.size, 0, none⟩ = some (.int .i64 1) := (hb2.cell (p := ⟨wr.heap.size, 0, none⟩) HNA9.out.lt).trans y0
        have HR2 : Hid (Row w2 g 640 (R2 (stage l (m + 1)))) := HR9.out.below hb2
        have HK2 : Hid (Kept (fun b => b = g) w1 w2) := HK9.out.trans (Kept.ofBelow hb2)
        have hpe : (parts ⟨1, (j : Int), (kk : Int), (nth l x).a, (nth l x).b, (nth l x).c⟩).length = 0 := by rw [HPN.out]; rfl
        clear hpi hb2 y0 y1 y2 y3 y4 y5
        go_wp2_with fail
        go_loopw [37] (fun q wq => q = .int .i64 0 ∧ wq = w2) (fun _ _ => 0)
        case atStart => exact ⟨rfl, rfl⟩
        case round =>
          obtain ⟨rfl, rfl⟩ := hrel
          go_wp2_with (go_at_call 53; refine (iQuant _ _).mono ?_; rintro e w' ⟨rfl, rfl⟩; rw [hq1])
          go_roundw
          case rel => exact ⟨m + 1, HLT.out, by go_num, HR2.out, HGN.out, HK2.out⟩
          case measure => have := HLT.out; simp [intOf]; omega
      · have h1b : ((nth l x).op == 1) = false := by simpa using h1
        have HRM : Hid (Row wr g 640 (R2 (mid l m x 0 0))) := row_congr HR.out (fun i u _ => mid_other HX.out h1 i u)
        obtain ⟨wb, rfl⟩ : ∃ wb : World, wb = wr := ⟨_, rfl⟩
        have hpd : ∀ p ∈ parts (nth l x), doneB l m p.toNat = true ∧ 0 ≤ p ∧ p.toNat < x := fun p hp => HX.out.part (down_of HT.out) hp
        have HPS : Hid (∀ d (hd : d < (parts (nth l x)).length) v, v < 8 → preN l (nth l x) v (d + 1) = preN l (nth l x) v d ||| stage l m ((parts (nth l x))[d]).toNat v ∧ preN l (nth l x) v d < 2 ^ 9 ∧ stage l m ((parts (nth l x))[d]).toNat v < 2 ^ 9) := fun d hd v hv => by
          obtain ⟨_, z2, z3⟩ := hpd _ (List.getElem_mem hd)
          exact ⟨pre_step HT.out HX.out HGD.out hd hv, preN_bd HT.out HX.out HGD.out hv d (by omega), stage_bd HT.out HGD.out (by omega) hv⟩
        have HPD : Hid (∀ d (hd : d < (parts (nth l x)).length), 0 ≤ (parts (nth l x))[d] ∧ (parts (nth l x))[d] < (x : Int)) := fun d hd => by
          obtain ⟨_, z2, z3⟩ := hpd _ (List.getElem_mem hd)
          exact ⟨z2, by omega⟩
        have HNX : Hid (∀ i u, u < 8 → mid l m x (parts (nth l x)).length 0 i u = mid l m x (parts (nth l x)).length 0 i u) := fun _ _ _ => rfl
        have HBAD : Hid (badQ l (nth l x) = (quant (nth l x).op && decide (preN l (nth l x) (nth l x).k.toNat (parts (nth l x)).length ≠ 0 ∧ preN l (nth l x) (nth l x).k.toNat (parts (nth l x)).length ≠ 2 ^ (nth l x).b.toNat))) := rfl
        have HPB : Hid (∀ v, v < 8 → preN l (nth l x) v (parts (nth l x)).length < 2 ^ 9) := fun v hv => preN_bd HT.out HX.out HGD.out hv _ (Nat.le_refl _)
        have HQB : Hid (quant (nth l x).op = true → 1 ≤ (nth l x).b ∧ (nth l x).b ≤ 8) := fun h => Tm11.quant_b (term_node HT.out hxl) h
        clear hpd h1
        go_wp2_with fail
        refine (iParts (nth l x) _).mono ?_
        rintro e1 w2 ⟨⟨pa, pc, rfl, hpi⟩, hb2⟩
        have hBA : Below wb.heap.size wb (wb.alloc (.cells #[.int .i64 (nth l x).op, .int .i64 (nth l x).w, .int .i64 (nth l x).k, .int .i64 (nth l x).a, .int .i64 (nth l x).b, .int .i64 (nth l x).c] 31)) := (Below.refl _ _).alloc (Nat.le_refl _) _
        have hBA2 : Below wb.heap.size wb w2 := hBA.trans (hb2.mono (by simp))
        have HP : Hid (IntsIn w2 (wb.heap.size + 1) w2.heap.size pa (parts (nth l x))) := by
          have h9 := hpi.within
          simp at h9
          exact h9
        have HR2 : Hid (Row w2 g 640 (R2 (mid l m x 0 0))) := HRM.out.below hBA2
        have HK2 : Hid (Kept (fun b => b = g) w1 w2) := HK.out.trans (Kept.ofBelow hBA2)
        have HNA : Hid (NodeAt w2 wb.heap.size 0 (nth l x)) := NodeAt.below (Dw4.node_new wb (nth l x) _ _ rfl 0 (by simp)) hb2 (show wb.heap.size < _ by simp)
        have HS2 : Hid (wb.heap.size < w2.heap.size) := HNA.out.lt
        clear hpi hb2 hBA hBA2 p0 p1 p2 p3 p4 p5 h1b HRM
        have hpl := parts_le (nth l x)
        have hgb : ¬ wb.heap.size = g := by omega
        go_wp2_with fail
        go_loopw [37] (fun q wq => ∃ d : Nat, d ≤ (parts (nth l x)).length ∧ q = .int .i64 (d : Int) ∧ Row wq g 640 (R2 (mid l m x d 0)) ∧ Kept (fun b => b = g) w2 wq) (fun q _ => (parts (nth l x)).length - (intOf q).toNat)
        case atStart => exact ⟨0, Nat.zero_le _, rfl, HR2.out, Kept.refl _ _⟩
        case round =>
          obtain ⟨d, hd, rfl, hrx, hkx⟩ := hrel
          have HRX : Hid (Row wr g 640 (R2 (mid l m x d 0))) := hrx
          have HKX : Hid (Kept (fun b => b = g) w2 wr) := hkx
          clear hrx hkx
          by_cases hlt2 : d < (parts (nth l x)).length
          · have hdz : (d : Int) < ((parts (nth l x)).length : Int) := by omega
            rcases (HP.out.kept HKX.out (fun b h1 h2 e => by have := HG.out; omega)).2 with h0 | ⟨pb, po, rfl, hpB, hpU, hpc⟩
            · omega
            have r0 := (hpc d hlt2).1
            obtain ⟨hy0, hy1⟩ := HPD.out d hlt2
            have HST := HPS.out d hlt2
            generalize (parts (nth l x))[d] = y at r0 hy0 hy1 HST
            obtain ⟨y, rfl⟩ := Int.eq_ofNat_of_zero_le hy0
            rw [Int.toNat_natCast] at HST
            have hyx : ¬ y = x := by omega
            have hy80 : (y : Int) < 80 := by omega
            obtain ⟨Y, hY⟩ : ∃ Y : Nat → Nat, Y = fun v => stage l m y v := ⟨_, rfl⟩
            have HYV : Hid (∀ v, v < 8 → wr.cell? ⟨g, y * 8 + v, none⟩ = some (.int .u16 ((Y v : Nat) : Int))) := by
              show ∀ _, _
              intro v hv
              have := (row_at HRX.out (x := y) (v := v) (by omega) hv).1
              rw [mid_ne l v hyx] at this
              rw [hY]; exact this
            have HST2 : Hid (∀ v, v < 8 → preN l (nth l x) v (d + 1) = preN l (nth l x) v d ||| Y v ∧ preN l (nth l x) v d < 2 ^ 9 ∧ Y v < 2 ^ 9) := by
              show ∀ _, _
              intro v hv
              rw [hY]; exact HST v hv
            have e0 := HYV.out 0 (by omega)
            have e1 := HYV.out 1 (by omega)
            have e2 := HYV.out 2 (by omega)
            have e3 := HYV.out 3 (by omega)
            have e4 := HYV.out 4 (by omega)
            have e5 := HYV.out 5 (by omega)
            have e6 := HYV.out 6 (by omega)
            have e7 := HYV.out 7 (by omega)
            rw [Nat.add_zero] at e0
            clear hpc hpB hpU hy0 hy1 HST hY HYV hyx
            obtain ⟨wq, rfl⟩ : ∃ wq : World, wq = wr := ⟨_, rfl⟩
            go_wp2_with fail
            clear e0 e1 e2 e3 e4 e5 e6 e7 r0
            go_loopw [44] (fun q wi => ∃ v : Nat, v ≤ 8 ∧ q = .int .i64 (v : Int) ∧ Row wi g 640 (R2 (mid l m x d v)) ∧ Kept (fun b => b = g) wq wi) (fun q _ => 8 - (intOf q).toNat)
            case atStart => exact ⟨0, Nat.zero_le _, rfl, HRX.out, Kept.refl _ _⟩
            case round =>
              obtain ⟨v, hv, rfl, hri, hki⟩ := hrel
              have HRV : Hid (Row wr g 640 (R2 (mid l m x d v))) := hri
              have HKV : Hid (Kept (fun b => b = g) wq wr) := hki
              clear hri hki
              by_cases hv8 : v < 8
              · obtain ⟨s1, s2, s3⟩ := HST2.out v hv8
                obtain ⟨c1, c2⟩ := row_at HRV.out (x := x) (v := v) (by omega) hv8
                have em : mid l m x d v x v = preN l (nth l x) v d := by unfold mid; rw [if_pos rfl, if_neg (by omega)]
                rw [em] at c1
                have HRN : Hid (Row (wr.setCell ⟨g, x * 8 + v, none⟩ (.int .u16 ((preN l (nth l x) v (d + 1) : Nat) : Int))) g 640 (R2 (mid l m x d (v + 1)))) := row_congr (row_put HRV.out (by omega) hv8 _) (fun i u _ => mid_step l m x d v i u)
                have HKN : Hid (Kept (fun b => b = g) wq (wr.setCell ⟨g, x * 8 + v, none⟩ (.int .u16 ((preN l (nth l x) v (d + 1) : Nat) : Int)))) := HKV.out.setCell (p := ⟨g, x * 8 + v, none⟩) rfl _
                rw [s1] at HRN HKN
                have hor := or16 s2 s3
                generalize preN l (nth l x) v d = z at c1 hor HRN HKN s2
                clear s1 em
                have hX := fun w => idx8 Y hv8 w
                have hvz : (v : Int) < 8 := by omega
                generalize z ||| Y v = t at hor HRN HKN
                generalize Y v = yv at hX hor s3
                go_wp2
                go_region
                all_goals
                  go_wp2
                  go_roundw
                  case rel => exact ⟨v + 1, by omega, by go_num, HRN.out.drew, HKN.out.drew⟩
                  case measure => simp [intOf]; omega
              · have hvz : ¬ (v : Int) < 8 := by omega
                have e8 : v = 8 := by omega
                subst e8
                have HRE2 : Hid (Row wr g 640 (R2 (mid l m x (d + 1) 0))) := row_congr HRV.out (fun i u hu => mid_next l m x d i u hu)
                have HKE2 : Hid (Kept (fun b => b = g) w2 wr) := HKX.out.trans HKV.out
                go_wp2
                go_roundw
                case rel => exact ⟨d + 1, by omega, by go_num, HRE2.out, HKE2.out⟩
                case measure => simp [intOf]; omega
          · have hdz : ¬ (d : Int) < ((parts (nth l x)).length : Int) := by omega
            have ed : d = (parts (nth l x)).length := by omega
            subst ed
            have hsk : wb.heap.size < w2.heap.size := HS2.out
            obtain ⟨n0, _, n2, _, n4, _⟩ := HNA.out
            have b0 : wr.cell? ⟨wb.heap.size, 0, none⟩ = some (.int .i64 (nth l x).op) := (HKX.out.cell (p := ⟨wb.heap.size, 0, none⟩) hsk hgb).trans n0
            have b2 : wr.cell? ⟨wb.heap.size, 2, none⟩ = some (.int .i64 (nth l x).k) := (HKX.out.cell (p := ⟨wb.heap.size, 2, none⟩) hsk hgb).trans n2
            have b4 : wr.cell? ⟨wb.heap.size, 4, none⟩ = some (.int .i64 (nth l x).b) := (HKX.out.cell (p := ⟨wb.heap.size, 4, none⟩) hsk hgb).trans n4
            have HKE : Hid (Kept (fun b => b = g) w1 wr) := HK2.out.trans HKX.out
            clear n0 n2 n4 hsk
            cases hq : quant (nth l x).op
            · have HGN : Hid (Goods l (m + 1)) := goods_next HT.out HX.out HGD.out (by rw [HBAD.out, hq]; rfl) (fun h => by rw [hq] at h; cases h)
              have HRN : Hid (Row wr g 640 (R2 (stage l (m + 1)))) := row_congr HRX.out (fun i u _ => mid_end HX.out hq i u)
              go_wp2_with (go_at_call 53; refine (iQuant _ _).mono ?_; rintro e wr ⟨rfl, rfl⟩; rw [hq])
              go_roundw
              case rel => exact ⟨m + 1, HLT.out, by go_num, HRN.out, HGN.out, HKE.out⟩
              case measure => have := HLT.out; simp [intOf]; omega
            · obtain ⟨kk, hkk, hk7⟩ := HV.out (.inr hq)
              obtain ⟨hb1, hb8⟩ := HQB.out hq
              obtain ⟨j, hj⟩ : ∃ j : Nat, (nth l x).b = (j : Int) := ⟨(nth l x).b.toNat, by omega⟩
              rw [hkk] at b2
              rw [hj] at b4
              have hk8z : (kk : Int) < 8 := by omega
              obtain ⟨c1, c2⟩ := row_at HRX.out (x := x) (v := kk) (by omega) (by omega)
              rw [mid_at] at c1
              have hz := HPB.out kk (by omega)
              have HBV : Hid (badQ l (nth l x) = decide (preN l (nth l x) kk (parts (nth l x)).length ≠ 0 ∧ preN l (nth l x) kk (parts (nth l x)).length ≠ 2 ^ j)) := by
                show _ = _
                rw [HBAD.out, hq, hkk, hj, Int.toNat_natCast, Int.toNat_natCast, Bool.true_and]
              have hnot := not16 hz (show j ≤ 8 by omega)
              have HRN : Hid (∀ k, Row ((wr.drewN k).setCell ⟨g, x * 8 + kk, none⟩ (.int .u16 0)) g 640 (R2 (stage l (m + 1)))) := fun k => row_congr (row_put (show Row (wr.drewN k) g 640 (R2 (mid l m x (parts (nth l x)).length 0)) from fun i hi => HRX.out i hi) (by omega) (by omega) 0) (fun i u _ => by
                have := mid_quant HX.out hq (by omega) i u
                rw [hkk, Int.toNat_natCast] at this
                exact this)
              have HKN : Hid (∀ k, Kept (fun b => b = g) w1 ((wr.drewN k).setCell ⟨g, x * 8 + kk, none⟩ (.int .u16 0))) := fun k => (kept_drewN HKE.out k).setCell (p := ⟨g, x * 8 + kk, none⟩) rfl _
              have HJ : Hid (∀ w : World, Calls Tryz.prog 114 #[.int .i64 (j : Int)] w fun e w' => e = .returned (.int .u16 ((2 ^ j : Nat) : Int)) ∧ w' = w) := fun w => iJustW j w (by omega)
              generalize 2 ^ j = pw at hnot HBV HJ
              rw [← HBV.out] at hnot
              generalize preN l (nth l x) kk (parts (nth l x)).length = z at c1 hnot
              clear HBV hz
              have HKK : Hid (0 ≤ (nth l x).k) := (by omega : 0 ≤ (nth l x).k)
              clear hkk hj hb1 hb8
              cases hbad : badQ l (nth l x)
              · rw [hbad] at hnot
                have HGN : Hid (Goods l (m + 1)) := goods_next HT.out HX.out HGD.out hbad (fun _ => HKK.out)
                go_wp2_with (go_at_call 53; refine (iQuant _ _).mono ?_; rintro e wr ⟨rfl, rfl⟩; rw [hq])
                go_quiet ((go_at_call 114; exact Calls.quiet_of_same (HJ.out _)))
                go_wp2
                go_region
                all_goals
                  go_wp2
                  go_roundw
                  case rel => exact ⟨m + 1, HLT.out, by go_num, HRN.out _, HGN.out, HKN.out _⟩
                  case measure => have := HLT.out; simp [intOf]; omega
              · rw [hbad] at hnot
                have HNO : Hid (needT (root l) = none) := bad_none HT.out HX.out HGD.out hbad
                go_wp2_with (go_at_call 53; refine (iQuant _ _).mono ?_; rintro e wr ⟨rfl, rfl⟩; rw [hq])
                have HGX := HG.out
                have HRG : Row wr gr 8 (fun _ => .int .u16 0) := HRR1.out.kept HKE.out (fun h => by have h' : gr = g := h; omega)
                obtain ⟨k0, f0⟩ := HRG 0 (by omega)
                obtain ⟨k1, f1⟩ := HRG 1 (by omega)
                obtain ⟨k2, f2⟩ := HRG 2 (by omega)
                obtain ⟨k3, f3⟩ := HRG 3 (by omega)
                obtain ⟨k4, f4⟩ := HRG 4 (by omega)
                obtain ⟨k5, f5⟩ := HRG 5 (by omega)
                obtain ⟨k6, f6⟩ := HRG 6 (by omega)
                obtain ⟨k7, f7⟩ := HRG 7 (by omega)
                have HRG2 : Hid (Row wr gr 8 (fun _ => .int .u16 0)) := HRG
                clear HGX HRG
                go_quiet ((go_at_call 114; exact Calls.quiet_of_same (HJ.out _)))
                go_wp2
                try simp only [Exit.inBlock, Exit.then]
                refine bodyPost_ret (results_two (r := fun _ => 0) (b := false) rfl rfl (row_set8 (show Row (wr.drewN nq) gr 8 (fun _ => .int .u16 0) from fun i hi => HRG2.out i hi) (fun _ => 0))) rfl ?_
                refine ⟨⟨fun _ => 0, .inl ⟨rfl, ?_⟩⟩, ?_⟩
                · refine ⟨by rw [HNO.out]; rfl, fun v _ => by show 0 < 2 ^ 9; decide, fun q hq => ?_⟩
                  rw [HNO.out] at hq; cases hq
                · have hk8 := kept_set8 (gr := gr) (Kept.refl (fun b => b = gr) (wr.drewN nq)) (.int .u16 0) (.int .u16 0) (.int .u16 0) (.int .u16 0) (.int .u16 0) (.int .u16 0) (.int .u16 0) (.int .u16 0)
                  have hG := HG.out
                  have hk1 : Kept (fun b => b = g) w1 (wr.drewN nq) := kept_drewN HKE.out nq
                  have hk2 := Kept.past (Kept.past (Kept.ofBelow (S := fun _ => False) HB1.out) hk1 (fun b h => .inr (by omega))) hk8 (fun b h => .inr (by omega))
                  exact ⟨hk2.os, hk2.tape, hk2.output, hk2.size, fun b hb => hk2.block b hb (fun h => h)⟩
    · have hmz : ¬ (m : Int) < ((reachedL l).length : Int) := by omega
      have em : m = (reachedL l).length := by omega
      have HGX := HG.out
      have HDN : Hid (doneB l m (l.length - 1) = true) := by
        show _ = _
        rw [em, HRE.out]; exact done_root hl1
      have HGL := HGD.out (l.length - 1) (by omega) HDN.out
      obtain ⟨r, hr⟩ : ∃ r : Nat → Nat, r = fun v => stage l m (l.length - 1) v := ⟨_, rfl⟩
      have HFW : Hid (FW l r true) := by
        obtain ⟨q, hq, hqv⟩ := HGL
        have hrt : needT (root l) = some q := hq
        refine ⟨by rw [hrt]; rfl, fun v hv => ?_, fun q' hq' v hv => ?_⟩
        · rw [hr]; exact stage_bd HT.out HGD.out (by omega) hv
        · rw [hrt] at hq'
          have e := Option.some.inj hq'
          subst e
          rw [hr, hqv v hv]
          show stage l m (l.length - 1) v = _
          unfold stage
          rw [if_pos HDN.out]
      have HYV : Hid (∀ v, v < 8 → wr.cell? ⟨g, (l.length - 1) * 8 + v, none⟩ = some (.int .u16 ((r v : Nat) : Int))) := by
        show ∀ _, _
        intro v hv
        rw [hr]; exact (row_at HR.out (by omega) hv).1
      have e0 := HYV.out 0 (by omega)
      have e1 := HYV.out 1 (by omega)
      have e2 := HYV.out 2 (by omega)
      have e3 := HYV.out 3 (by omega)
      have e4 := HYV.out 4 (by omega)
      have e5 := HYV.out 5 (by omega)
      have e6 := HYV.out 6 (by omega)
      have e7 := HYV.out 7 (by omega)
      rw [Nat.add_zero] at e0
      have HRG : Row wr gr 8 (fun _ => .int .u16 0) := HRR1.out.kept HK.out (fun h => by have h' : gr = g := h; omega)
      obtain ⟨k0, f0⟩ := HRG 0 (by omega)
      obtain ⟨k1, f1⟩ := HRG 1 (by omega)
      obtain ⟨k2, f2⟩ := HRG 2 (by omega)
      obtain ⟨k3, f3⟩ := HRG 3 (by omega)
      obtain ⟨k4, f4⟩ := HRG 4 (by omega)
      obtain ⟨k5, f5⟩ := HRG 5 (by omega)
      obtain ⟨k6, f6⟩ := HRG 6 (by omega)
      obtain ⟨k7, f7⟩ := HRG 7 (by omega)
      have HRG2 : Hid (Row wr gr 8 (fun _ => .int .u16 0)) := HRG
      have hw1 : IntKind.i64.wrap ((l.length : Int) - 1) = (l.length : Int) - 1 := by rw [IntKind.wrap_i64] <;> omega
      have hl0 : 1 ≤ (l.length : Int) := by omega
      have hl8 : (l.length : Int) - 1 < 80 := by omega
      clear HGX HRG em HGL hr HYV HDN
      go_wp2
      try simp only [Exit.inBlock, Exit.then]
      refine bodyPost_ret (results_two (r := r) (b := true) rfl rfl (row_set8 HRG2.out r)) rfl ?_
      refine ⟨⟨r, .inr ⟨rfl, HFW.out⟩⟩, ?_⟩
      have hk8 := kept_set8 (gr := gr) (Kept.refl (fun b => b = gr) wr) (.int .u16 (r 0 : Int)) (.int .u16 (r 1 : Int)) (.int .u16 (r 2 : Int)) (.int .u16 (r 3 : Int)) (.int .u16 (r 4 : Int)) (.int .u16 (r 5 : Int)) (.int .u16 (r 6 : Int)) (.int .u16 (r 7 : Int))
      have hG := HG.out
      have hk2 := Kept.past (Kept.past (Kept.ofBelow (S := fun _ => False) HB1.out) HK.out (fun b h => .inr (by omega))) hk8 (fun b h => .inr (by omega))
      exact ⟨hk2.os, hk2.tape, hk2.output, hk2.size, fun b hb => hk2.block b hb (fun h => h)⟩

end Go.Proofs.YtdmogjhabladcaaGreat.Pv13

/- The walk of the program's hasValue. -/
namespace Go.Proofs.YtdmogjhabladcaaGreat.Pv14
open Go.RowKit
open Nd0 Pl1 Tm0 Tm1 Tm2 Tm5 Tm6 Tm8 Tm11 Tr0 Rw0 Vl1 Vl2 Vm0 Vm1 Sv5 Vm3 Pv5 Pv13
open Lx1 (ITermOk)
open Lx2 (IReached)
open Pg14 (iQBits)
open Ws1 (ret_int ret_bool)
set_option linter.unusedVariables false

/-- The first v variables have words. -/
def upTo (r : Nat → Nat) (e : List Int) (b : Bool) : Nat → Bool
  | 0 => b
  | v + 1 => upTo r e b v && wordsB (r v) (e.getD v 0)
theorem upTo_false (r : Nat → Nat) (e : List Int) (v : Nat) : upTo r e false v = false := by
  induction v with
  | zero => rfl
  | succ v ih => show (_ && _) = _; rw [ih]; rfl
theorem upTo_true (r : Nat → Nat) (e : List Int) (v : Nat) : upTo r e true v = (List.range v).all fun v => wordsB (r v) (e.getD v 0) := by
  induction v with
  | zero => rfl
  | succ v ih => show (_ && _) = _; rw [ih, List.range_succ, List.all_append]; simp
theorem upTo_fit {l : List Nd} {r : Nat → Nat} {b : Bool} (h : FW l r b) (e : List Int) : upTo r e b 8 = fitT (root l) e := by
  obtain ⟨h1, _, h3⟩ := h
  cases hn : needT (root l) with
  | none =>
    rw [hn] at h1
    rw [h1, fit_none hn]
    exact upTo_false r e 8
  | some q =>
    rw [hn] at h1
    rw [h1, fit_some hn]
    show upTo r e true 8 = _
    rw [upTo_true]
    have h4 := h3 q hn
    show _ = (List.range 8).all fun v => wordsB (q.getD v 0) (e.getD v 0)
    rw [Bool.eq_iff_iff, List.all_eq_true, List.all_eq_true]
    constructor
    · intro h v hv
      rw [← h4 v (List.mem_range.1 hv)]; exact h v hv
    · intro h v hv
      rw [h4 v (List.mem_range.1 hv)]; exact h v hv

set_option maxRecDepth 100000 in
set_option maxHeartbeats 4000000 in
theorem iHasV (hTO : ITermOk) (hRE : IReached) (w : World) (a ae : Option Addr) (l : List Nd) (e : List Int) (c ce : Nat) (hN : Nodes w a l) (hcap : l.length ≤ c) (hT : termOk l = true) (hI : Ints w ae e) :
    Calls Tryz.prog 47 #[.slice a l.length c, .slice ae e.length ce] w fun x w' => x = .returned (.bool (decide (e.length = 8) && decide (bitsTo l l.length ≤ 12) && fitT (root l) e)) ∧ Below w.heap.size w w' := by
  have HN : Hid (Nodes w a l) := hN
  have HT : Hid (termOk l = true) := hT
  have HTO : Hid ITermOk := hTO
  have HRE : Hid IReached := hRE
  have HCAP : Hid (l.length ≤ c) := hcap
  have HI : Hid (Ints w ae e) := hI
  obtain ⟨hl1, hl2⟩ := term_len hT
  clear hN hT hTO hcap hI hRE
  obtain ⟨B, hB⟩ : ∃ B, B = (decide (e.length = 8) && decide (bitsTo l l.length ≤ 12) && fitT (root l) e) := ⟨_, rfl⟩
  rw [← hB]
  have HBV : Hid (B = (decide (e.length = 8) && decide (bitsTo l l.length ≤ 12) && fitT (root l) e)) := hB
  clear hB
  by_cases he : e.length = 8
  · have HL : Hid (e.length = 8) := he
    have HV : Hid (B = (decide (bitsTo l l.length ≤ 12) && fitT (root l) e)) := by
      show _ = _
      rw [HBV.out, decide_eq_true he, Bool.true_and]
    rw [he]
    clear he HBV
    go_enter Tryz.func47, Tryz.ntmps47
    go_wp2_with fail
    refine (iQBits HRE.out w a l c HN.out HCAP.out (by omega) HT.out).mono ?_
    rintro e0 w1 ⟨rfl, hb1⟩
    have HB1 : Hid (Below w.heap.size w w1) := hb1
    clear hb1
    by_cases hb : bitsTo l l.length ≤ 12
    · have HV2 : Hid (B = fitT (root l) e) := by
        show _ = _
        rw [HV.out, decide_eq_true hb, Bool.true_and]
      clear HV
      go_wp2_with fail
      refine (iFreeW HTO.out w1 a l c (HN.out.below HB1.out) HCAP.out HT.out).mono ?_
      rintro e0 w2 ⟨⟨r, b, rfl, hfw⟩, hb2⟩
      have HFW : Hid (FW l r b) := hfw
      have HB2 : Hid (Below w.heap.size w w2) := HB1.out.trans (hb2.mono HB1.out.size)
      have HRB : Hid (∀ v, v < 8 → r v < 2 ^ 9) := hfw.2.1
      unfold agg8
      clear hb2 hfw
      have HB3 : Hid (Below w.heap.size w (w2.alloc (.cells #[.int .u16 (r 0 : Int), .int .u16 (r 1 : Int), .int .u16 (r 2 : Int), .int .u16 (r 3 : Int), .int .u16 (r 4 : Int), .int .u16 (r 5 : Int), .int .u16 (r 6 : Int), .int .u16 (r 7 : Int)] 114))) := HB2.out.alloc HB2.out.size _
      go_wp2_with fail
      generalize w2.alloc (.cells #[.int .u16 (r 0 : Int), .int .u16 (r 1 : Int), .int .u16 (r 2 : Int), .int .u16 (r 3 : Int), .int .u16 (r 4 : Int), .int .u16 (r 5 : Int), .int .u16 (r 6 : Int), .int .u16 (r 7 : Int)] 114) = w3 at HB3 ⊢
      go_loopw [6, 23] (fun vb q wr => ∃ v : Nat, v ≤ 8 ∧ vb = .bool (upTo r e b v) ∧ q = .int .i64 (v : Int) ∧ wr = w3) (fun _ q _ => 8 - (intOf q).toNat)
      case atStart => exact ⟨0, Nat.zero_le _, rfl, rfl, rfl⟩
      case round =>
        obtain ⟨v, hv, rfl, rfl, rfl⟩ := hrel
        by_cases hv8 : v < 8
        · have hvz : (v : Int) < 8 := by omega
          have hX := fun w => idx8 r hv8 w
          have hm := HRB.out v hv8
          rcases (HI.out.below HB3.out).2 with h0 | ⟨xb, xo, rfl, hc⟩
          · have := HL.out; omega
          have q0 := hc v (by have := HL.out; omega)
          have HU : Hid (upTo r e b (v + 1) = (upTo r e b v && wordsB (r v) (e.getD v 0))) := rfl
          have hev : e[v]'(by have := HL.out; omega) = e.getD v 0 := by rw [List.getD_eq_getElem?_getD, List.getElem?_eq_getElem (by have := HL.out; omega)]; rfl
          rw [hev] at q0
          clear hev hc
          have HW : Hid (∀ w : World, Calls Tryz.prog 88 #[.int .u16 (r v : Int), .int .i64 (e.getD v 0)] w fun x w' => x = .returned (.bool (wordsB (r v) (e.getD v 0))) ∧ w' = w) := fun w => iWords (r v) (e.getD v 0) w hm
          generalize e.getD v 0 = ev at q0 HU HW
          generalize wordsB (r v) ev = wb at HU HW
          cases hu : upTo r e b v
          · have HN1 : Hid (upTo r e b (v + 1) = false) := by
              show _ = _
              rw [HU.out, hu]; rfl
            go_wp2
            go_roundw
            case rel => exact ⟨v + 1, by omega, by rw [HN1.out], by go_num, trivial⟩
            case measure => simp [intOf]; omega
          · have HN1 : Hid (upTo r e b (v + 1) = wb) := by
              show _ = _
              rw [HU.out, hu]; rfl
            go_wp2_with (go_at_call 88; refine (HW.out _).mono ?_; rintro e9 wr ⟨rfl, rfl⟩)
            go_roundw
            case rel => exact ⟨v + 1, by omega, by rw [HN1.out], by go_num, trivial⟩
            case measure => simp [intOf]; omega
        · have hvz : ¬ (v : Int) < 8 := by omega
          have e8 : v = 8 := by omega
          subst e8
          have HE : Hid (upTo r e b 8 = B) := (upTo_fit HFW.out e).trans HV2.out.symm
          go_wp2
          go_ret
          exact ⟨ret_bool HE.out, HB3.out⟩
    · have HV2 : Hid (false = B) := by
        show _ = _
        rw [HV.out, decide_eq_false hb, Bool.false_and]
      clear HV
      go_wp2
      go_ret
      exact ⟨ret_bool HV2.out, HB1.out⟩
  · have HV : Hid (false = B) := by
      show _ = _
      rw [HBV.out, decide_eq_false he, Bool.false_and, Bool.false_and]
    have hez : ((e.length : Int) != 8) = true := by simp; omega
    go_enter Tryz.func47, Tryz.ntmps47
    go_wp2
    go_ret
    exact ⟨ret_bool HV.out, Below.refl _ _⟩

end Go.Proofs.YtdmogjhabladcaaGreat.Pv14

/- The walk of the program's Value. -/
namespace Go.Proofs.YtdmogjhabladcaaGreat.Pv15
open Go.RowKit
open Nd0 Pl1 Tm0 Tm1 Tm2 Tm5 Tm6 Tm8 Tm11 Tr0 Rw0 Vl1 Vl2 Vm0 Vm1 Vm2 Kp1 Sv5 Vm3 Pv5 Pv7 Pv12 Pv13 Pv14 Ic4
open Lx1 (ITermOk)
open Lx2 (IReached)
open Ws1 (ret_int ret_bool)
set_option linter.unusedVariables false

set_option maxRecDepth 100000 in
set_option maxHeartbeats 1000000 in
theorem toArr (b o ce : Nat) (w : World) : (Instr.arrayAt 72 (.slice (some ⟨b, o, none⟩) 8 ce)).run Tryz.prog w = .ok (.pointer (some ⟨b, o, none⟩)) w := by
  simp [Instr.arrayAt, run_underlying Tryz.underlying72, go_sem]

theorem store_new {ops : Array Oper} {rest : List Oper} {op : Oper} {a : Act} {Q : Exit → Act → World → Prop} (w : World) (hgd : op.guard = none) (ty : TypeId) (x y : Operand) (ho : op.op = .store ty x y)
    (c c' : Array Value) (g : Nat) (hx : a.eval x = .pointer (some ⟨g, 0, none⟩)) (hg : g = w.heap.size) (hy : a.eval y = .agg c') (hi : (Tryz.prog.info? ty).map (·.size) = some c'.size) (hs : c.size = c'.size) (h1 : c'.all (·.oneCell') = true)
    (h : wpList Tryz.prog ops Q rest (a.put op.dst undef) (w.alloc (.cells c' ty))) : wpList Tryz.prog ops Q (op :: rest) a (w.alloc (.cells c ty)) :=
  wpList_plain hgd fun _ hK => wp_store_new w ty x y ho c c' g hx hg hy hi hs h1 (hK _ _ h)

set_option maxRecDepth 100000 in
set_option maxHeartbeats 8000000 in
theorem iValue (hTO : ITermOk) (hRE : IReached) (hIA : IApply) : IValue := by
  intro w a ae l e c ce hN hcap hlen hI hce
  have HN : Hid (Nodes w a l) := hN
  have HTO : Hid ITermOk := hTO
  have HRE : Hid IReached := hRE
  have HIA : Hid IApply := hIA
  have HCAP : Hid (l.length ≤ c) := hcap
  have HI : Hid (Ints w ae e) := hI
  obtain ⟨V, hV⟩ : ∃ V, V = valueL l e := ⟨_, rfl⟩
  rw [← hV]
  have HV : Hid (V = valueL l e) := hV
  clear hN hTO hcap hI hRE hIA hV
  cases hT : termOk l
  · have HVN : Hid (V = none) := by
      show _ = _
      rw [HV.out]; unfold valueL; rw [hT]; rfl
    go_enter Tryz.func14, Tryz.ntmps14
    go_wp2_with (go_at_call 46; refine (HTO.out w a l c HN.out HCAP.out hlen).mono ?_; rintro e0 w1 ⟨rfl, hb1⟩; rw [hT])
    go_ret2
    rw [HVN.out]
    exact ⟨rfl, hb1⟩
  · obtain ⟨hl1, hl2⟩ := term_len hT
    have HT : Hid (termOk l = true) := hT
    obtain ⟨F, hF⟩ : ∃ F, F = (decide (e.length = 8) && decide (bitsTo l l.length ≤ 12) && fitT (root l) e) := ⟨_, rfl⟩
    have HF : Hid (F = (decide (e.length = 8) && decide (bitsTo l l.length ≤ 12) && fitT (root l) e)) := hF
    have HVF : Hid (V = if F then some (vT (root l) e) else none) := by
      show _ = _
      rw [HV.out, hF]; unfold valueL; rw [hT, Bool.true_and]
    clear hF
    have HHV : Hid (∀ w1, Below w.heap.size w w1 → Calls Tryz.prog 47 #[.slice a l.length c, .slice ae e.length ce] w1 fun x w' => x = .returned (.bool F) ∧ Below w1.heap.size w1 w') := fun w1 hb => by
      rw [HF.out]
      exact iHasV HTO.out HRE.out w1 a ae l e c ce (HN.out.below hb) HCAP.out HT.out (HI.out.below hb)
    cases hFb : F
    · rw [hFb] at HVF HHV
      have HVN : Hid (V = none) := HVF.out
      go_enter Tryz.func14, Tryz.ntmps14
      go_wp2_with (first | (go_at_call 46; refine (HTO.out w a l c HN.out HCAP.out hlen).mono ?_; rintro e0 w1 ⟨rfl, hb1⟩; rw [hT]) | (go_at_call 47; refine (HHV.out _ hb1).mono ?_; rintro e0 w2 ⟨rfl, hb2⟩))
      go_ret2
      rw [HVN.out]
      exact ⟨rfl, hb1.trans (hb2.mono hb1.size)⟩
    · rw [hFb] at HVF HHV
      have HVS : Hid (V = some (vT (root l) e)) := HVF.out
      have hFF : (decide (e.length = 8) && decide (bitsTo l l.length ≤ 12) && fitT (root l) e) = true := by rw [← HF.out]; exact hFb
      simp only [Bool.and_eq_true] at hFF
      have he : e.length = 8 := of_decide_eq_true hFF.1.1
      have HE : Hid (e.length = 8) := he
      have HFN : Hid (FitN l (l.length - 1) e) := by
        have hf := hFF.2
        cases hn : needT (root l) with
        | none => rw [fit_none hn] at hf; cases hf
        | some q =>
          rw [fit_some hn] at hf
          exact ⟨q, hn, fit_iff.1 hf⟩
      rw [he] at HHV ⊢
      clear hFF HF HVF he hFb
      obtain ⟨zc, hzc⟩ : ∃ zc : Array Value, zc = Tryz.zeroCells76 := ⟨_, rfl⟩
      have hZ : Zc zc := by rw [hzc]; exact zc_of
      rcases HI.out.2 with h0 | ⟨xb, xo, rfl, hc⟩
      · have := HE.out; omega
      have hX := fun w => toArr xb xo ce w
      have hxl : xb < w.heap.size := lt_of_cell (hc 0 (by have := HE.out; omega))
      have HQ : Hid (∀ W : World, Below w.heap.size w W → ∀ i : Nat, i < 8 → W.cell? ⟨xb, xo + i, none⟩ = some (.int .i64 (wd e (i : Int)))) := by
        show ∀ _, _
        intro W hW i hi
        rw [hW.cell (p := ⟨xb, xo + i, none⟩) hxl, hc i (by have := HE.out; omega), wd_get (by have := HE.out; omega)]
      have hw1 : IntKind.i64.wrap ((l.length : Int) - 1) = (l.length : Int) - 1 := by rw [IntKind.wrap_i64] <;> omega
      clear hc hxl
      go_enter Tryz.func14, Tryz.ntmps14
      go_wp2_with (first | (go_at_call 46; refine (HTO.out w a l c HN.out HCAP.out hlen).mono ?_; rintro e0 w1 ⟨rfl, hb1⟩; rw [hT]; have HB1 : Hid (Below w.heap.size w w1) := hb1; clear hb1) | (go_at_call 47; refine (HHV.out _ HB1.out).mono ?_; rintro e0 w2 ⟨rfl, hb2⟩; have HB2 : Hid (Below w.heap.size w w2) := HB1.out.trans (hb2.mono HB1.out.size); have q0 := HQ.out _ HB2.out 0 (by omega); have q1 := HQ.out _ HB2.out 1 (by omega); have q2 := HQ.out _ HB2.out 2 (by omega); have q3 := HQ.out _ HB2.out 3 (by omega); have q4 := HQ.out _ HB2.out 4 (by omega); have q5 := HQ.out _ HB2.out 5 (by omega); have q6 := HQ.out _ HB2.out 6 (by omega); have q7 := HQ.out _ HB2.out 7 (by omega); rw [Nat.add_zero] at q0; clear hb2) | (rw [← hzc]; refine store_new _ rfl 76 (.tmp 6) (.tmp 20) rfl zc (scCells zc a l.length c e) _ rfl rfl rfl (by rw [sc_size hZ]; exact info_sc) (by rw [sc_size hZ]; exact hZ.size) (sc_one hZ _ _ _ _) ?_; clear hzc))
      have hBW : Below w2.heap.size w2 (w2.alloc (.cells (scCells zc a l.length c e) 76)) := (Below.refl _ _).alloc (Nat.le_refl _) _
      have hsc := (sc_new w2 hZ a l c 76 e).1
      have hcall := pVal HIA.out HT.out hl2 (l.length - 1) (by omega) _ w2.heap.size a c e _ _ ((HN.out.below HB2.out).below hBW) (fun y hy h => by
        have h2 : y.block < w.heap.size := by
          rcases HN.out.2 with h0 | ⟨yb, yo, rfl, hc⟩
          · omega
          · have e := Option.some.inj hy
            subst e
            exact (hc 0 (by omega)).lt
        have := HB2.out.size
        omega) HE.out hsc HFN.out
      have e1 : ((l.length - 1 : Nat) : Int) = (l.length : Int) - 1 := by omega
      rw [e1] at hcall
      refine hcall.mono ?_
      rintro x0 w3 ⟨rfl, _, hK3⟩
      have HR : Hid (V = some (vT (tr l (l.length - 1)) e)) := HVS.out
      have HB3 : Hid (Below w.heap.size w w3) := by
        have h1 := Kept.past (Kept.ofBelow (S := fun _ => False) (HB2.out.trans (hBW.mono HB2.out.size))) hK3 (fun b h => .inr (by have := HB2.out.size; omega))
        exact ⟨h1.os, h1.tape, h1.output, h1.size, fun b hb => h1.block b hb (fun h => h)⟩
      clear hcall hsc hBW hK3 e1
      generalize vT (tr l (l.length - 1)) e = val at HR ⊢
      go_wp2
      go_ret2
      rw [HR.out]
      exact ⟨rfl, HB3.out⟩

end Go.Proofs.YtdmogjhabladcaaGreat.Pv15

/- The walk of the program's Holds. -/
namespace Go.Proofs.YtdmogjhabladcaaGreat.Pv16
open Go.RowKit
open Nd0 Pl1 Tm0 Tm6 Rw0 Vl1 Vl5 Ic4
open Pg11 (makeInts noughts noughts_get)
open Pg14 (iSentence)
open Lx1 (ITermOk)
open Lx2 (IReached)
set_option linter.unusedVariables false

set_option maxRecDepth 100000 in
set_option maxHeartbeats 4000000 in
theorem iHolds (hTO : ITermOk) (hRE : IReached) (hV : IValue) : IHolds := by
  intro w a l c hN hcap hlen
  have HN : Hid (Nodes w a l) := hN
  have HTO : Hid ITermOk := hTO
  have HRE : Hid IReached := hRE
  have HVA : Hid IValue := hV
  have HCAP : Hid (l.length ≤ c) := hcap
  obtain ⟨V, hV⟩ : ∃ V, V = holdsL l := ⟨_, rfl⟩
  rw [← hV]
  have HV : Hid (V = holdsL l) := hV
  clear hN hTO hcap hRE hV
  cases hS : sentB l
  · have HVN : Hid (V = none) := by
      show _ = _
      rw [HV.out]; unfold holdsL; rw [hS]; rfl
    go_enter Tryz.func19, Tryz.ntmps19
    go_wp2_with (go_at_call 56; refine (iSentence HTO.out HRE.out w a l c HN.out HCAP.out hlen).mono ?_; rintro e0 w1 ⟨rfl, hb1⟩; rw [hS])
    go_ret2
    rw [HVN.out]
    exact ⟨rfl, hb1⟩
  · have HVS : Hid (V = valueL l (List.replicate 8 0)) := by
      show _ = _
      rw [HV.out]; unfold holdsL; rw [hS]; rfl
    have hmk : ∀ w : World, (Instr.makeSlice 25 (.int .i64 8) (.int .i64 8)).run Tryz.prog w = .ok (.slice (some ⟨w.heap.size, 0, none⟩) 8 8) (w.alloc (.cells (noughts 8) 3)) := fun w => makeInts 8 (by omega) w
    go_enter Tryz.func19, Tryz.ntmps19
    go_wp2_with (go_at_call 56; refine (iSentence HTO.out HRE.out w a l c HN.out HCAP.out hlen).mono ?_; rintro e0 w1 ⟨rfl, hb1⟩; rw [hS]; have HB1 : Hid (Below w.heap.size w w1) := hb1; clear hb1)
    clear hmk
    have hAl : Below w1.heap.size w1 (w1.alloc (.cells (noughts 8) 3)) := (Below.refl _ _).alloc (Nat.le_refl _) _
    have hB2 : Below w.heap.size w (w1.alloc (.cells (noughts 8) 3)) := HB1.out.trans (hAl.mono HB1.out.size)
    have hI : Ints (w1.alloc (.cells (noughts 8) 3)) (some ⟨w1.heap.size, 0, none⟩) (List.replicate 8 0) := by
      refine ⟨by decide, .inr ⟨w1.heap.size, 0, rfl, fun i hi => ?_⟩⟩
      rw [Nat.zero_add, World.cell?_alloc_new, List.getElem_replicate]
      exact noughts_get _ _ (by simpa using hi)
    have hcall := HVA.out _ a (some ⟨w1.heap.size, 0, none⟩) l (List.replicate 8 0) c 8 (HN.out.below hB2) HCAP.out hlen hI (by simp)
    rw [List.length_replicate] at hcall
    refine hcall.mono ?_
    rintro x0 w3 ⟨rfl, hb3⟩
    rw [← HVS.out]
    have HB3 : Hid (Below w.heap.size w w3) := hB2.trans (hb3.mono hB2.size)
    clear hcall hI hB2 hAl hb3
    go_wp2
    go_ret2
    exact ⟨rfl, HB3.out⟩

end Go.Proofs.YtdmogjhabladcaaGreat.Pv16
