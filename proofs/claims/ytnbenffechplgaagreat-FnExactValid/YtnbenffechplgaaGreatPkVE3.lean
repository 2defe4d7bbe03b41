/- Small texts of mine, one behind the other. -/
import Derived.Test.YtnbenffechplgaaGreatSp3
import Derived.Test.YtnbenffechplgaaGreatPkVE0
/- The walk of the model's test of a term. -/
namespace Go.Proofs.YtnbenffechplgaaGreat.Sp4
open Go.RowKit
open Nd0 Nd1 Tm0 Ap0 Sp2 Sp3
set_option linter.unusedVariables false

set_option maxHeartbeats 1000000 in
theorem sTermOk (w : World) (a : Option Addr) (l : List Nd) (c : Nat) (hN : Nodes w a l) :
    Calls Tryz.prog 18 #[.slice a l.length c] w fun e w' => e = .returned (.bool (termOk l)) ∧ Below w.heap.size w w' := by
  have HN : Hid (Nodes w a l) := hN
  have hm := hN.1
  unfold maxLen at hm
  clear hN
  by_cases hl : 1 ≤ l.length ∧ l.length ≤ 80
  · have hd : decide (1 ≤ (l.length : Int) ∧ (l.length : Int) ≤ 80) = true := by simp; omega
    obtain ⟨hl1, hl2⟩ := hl
    go_enter Tryz.func18, Tryz.ntmps18
    go_wp2_with (go_at_call 34; refine (sIn _ _ _ _).mono ?_; rintro e w' ⟨rfl, rfl⟩)
    go_loopw [3] (fun q wr => ∃ k : Nat, k ≤ l.length ∧ q = .int .i64 k ∧ Below w'.heap.size w' wr ∧ ∀ j, j < k → nodeOk l j = true) (fun q _ => l.length - (intOf q).toNat)
    case atStart => exact ⟨0, Nat.zero_le _, rfl, Below.refl _ _, fun j hj => by omega⟩
    case round =>
      obtain ⟨k, hk, rfl, hb, hall⟩ := hrel
      have HB : Hid (Below w'.heap.size w' wr) := hb
      have HA : Hid (∀ j, j < k → nodeOk l j = true) := hall
      clear hb hall
      by_cases hlt : k < l.length
      · have hlz : (k : Int) < (l.length : Int) := by omega
        have HS := sNode wr a l c k hlt (by omega) (HN.out.below HB.out) (fun j hj => node_width (HA.out j hj))
        have HSH : Hid (Calls Tryz.prog 35 #[.slice a l.length c, .int .i64 k] wr fun e w' => e = .returned (.bool (nodeOk l k)) ∧ Below wr.heap.size wr w') := HS
        clear HS
        cases hno : nodeOk l k
        · have HT : Hid (termOk l = false) := term_bad k hlt hno
          go_wp2_with fail
          refine HSH.out.mono ?_
          rintro e w2 ⟨rfl, hb2⟩
          have HB2 : Hid (Below w'.heap.size w' w2) := HB.out.trans (hb2.mono HB.out.size)
          clear hb2
          go_wp2
          go_ret
          exact ⟨ret_bool HT.out.symm, HB2.out⟩
        · go_wp2_with fail
          refine HSH.out.mono ?_
          rintro e w2 ⟨rfl, hb2⟩
          have HB2 : Hid (Below w'.heap.size w' w2) := HB.out.trans (hb2.mono HB.out.size)
          clear hb2
          go_wp2
          go_roundw
          case rel =>
            refine ⟨k + 1, by omega, by go_num, HB2.out, fun j hj => ?_⟩
            by_cases e : j = k
            · subst e; exact hno
            · exact HA.out j (by omega)
          case measure => simp [intOf]; omega
      · have HT : Hid (termOk l = true) := term_good ⟨hl1, hl2⟩ (fun j hj => HA.out j (by omega))
        go_wp2
        go_ret
        exact ⟨ret_bool HT.out.symm, HB.out⟩
  · have hd : decide (1 ≤ (l.length : Int) ∧ (l.length : Int) ≤ 80) = false := by simp; omega
    have HT : Hid (termOk l = false) := term_long hl
    go_enter Tryz.func18, Tryz.ntmps18
    go_wp2_with (go_at_call 34; refine (sIn _ _ _ _).mono ?_; rintro e w' ⟨rfl, rfl⟩)
    go_ret
    exact ⟨ret_bool HT.out.symm, Below.refl _ _⟩

end Go.Proofs.YtnbenffechplgaaGreat.Sp4

/- What the root reaches, as plain data. -/
namespace Go.Proofs.YtnbenffechplgaaGreat.Tm1
open Nd0 Pl1 Tm0

def markAll (bs : List Bool) (ps : List Int) : List Bool := ps.foldl (fun b p => b.set p.toNat true) bs
theorem markAll_length (ps : List Int) : ∀ bs : List Bool, (markAll bs ps).length = bs.length := by
  induction ps with
  | nil => intro bs; rfl
  | cons p ps ih => intro bs; show (markAll (bs.set p.toNat true) ps).length = _; rw [ih, List.length_set]
def flag (bs : List Bool) (i : Nat) : Bool := bs.getD i false
theorem flag_get {bs : List Bool} {i : Nat} (h : i < bs.length) : bs[i] = flag bs i := by simp [flag, List.getD, h]
theorem flag_set {bs : List Bool} {i j : Nat} (h : i < bs.length) (x : Bool) : flag (bs.set i x) j = if i = j then x else flag bs j := by
  by_cases e : i = j
  · subst e; simp [flag, List.getD, h]
  · simp [flag, List.getD, e]
def reachStep (l : List Nd) (bs : List Bool) (i : Nat) : List Bool := if flag bs i then markAll bs (parts (nth l i)) else bs
def reachDown (l : List Nd) : Nat → List Bool → List Bool
  | 0, bs => bs
  | k + 1, bs => reachDown l k (reachStep l bs k)
def reachInit (n : Nat) : List Bool := (List.range n).map fun i => i + 1 == n
def reachL (l : List Nd) : List Bool := reachDown l l.length (reachInit l.length)
theorem reachStep_length (l : List Nd) (bs : List Bool) (i : Nat) : (reachStep l bs i).length = bs.length := by
  unfold reachStep; split
  · exact markAll_length _ _
  · rfl
theorem reachDown_length (l : List Nd) : ∀ (k : Nat) (bs : List Bool), (reachDown l k bs).length = bs.length := by
  intro k
  induction k with
  | zero => intro bs; rfl
  | succ k ih => intro bs; show (reachDown l k (reachStep l bs k)).length = _; rw [ih, reachStep_length]
theorem reachInit_length (n : Nat) : (reachInit n).length = n := by simp [reachInit]
theorem reachL_length (l : List Nd) : (reachL l).length = l.length := by unfold reachL; rw [reachDown_length, reachInit_length]
theorem parts_ok {l : List Nd} {i : Nat} (h : nodeOk l i = true) : ∀ k (hk : k < (parts (nth l i)).length), 0 ≤ (parts (nth l i))[k] ∧ (parts (nth l i))[k] < i := by
  simp only [nodeOk, Bool.and_eq_true, List.all_eq_true, decide_eq_true_eq] at h
  intro k hk
  exact h.1.1 _ (List.getElem_mem hk)

end Go.Proofs.YtnbenffechplgaaGreat.Tm1

/- Which variables stand free, as plain data. -/
namespace Go.Proofs.YtnbenffechplgaaGreat.Tm4
open Nd0 Pl1 Tm0 Tm1

def row (rows : List (List Bool)) (p : Int) : List Bool := rows.getD p.toNat []
def inParts (rows : List (List Bool)) (ps : List Int) (v : Nat) : Bool := ps.any fun p => flag (row rows p) v
def freeAt (rows : List (List Bool)) (n : Nd) (v : Nat) : Bool :=
  if (n.op == 19 || n.op == 20) && n.k == (v : Int) then false else (n.op == 1 && n.k == (v : Int)) || inParts rows (parts n) v
def freeRow (rows : List (List Bool)) (n : Nd) : List Bool := (List.range 8).map (freeAt rows n)
def freeRows (l : List Nd) : Nat → List (List Bool)
  | 0 => []
  | k + 1 => freeRows l k ++ [freeRow (freeRows l k) (nth l k)]
theorem freeRows_length (l : List Nd) (k : Nat) : (freeRows l k).length = k := by
  induction k with
  | zero => rfl
  | succ k ih => show (freeRows l k ++ [_]).length = _; rw [List.length_append, ih]; rfl
theorem freeRow_length (rows : List (List Bool)) (n : Nd) : (freeRow rows n).length = 8 := by simp [freeRow]
theorem freeRow_take (rows : List (List Bool)) (n : Nd) (v : Nat) (h : v < 8) : (freeRow rows n).take (v + 1) = (freeRow rows n).take v ++ [freeAt rows n v] := by
  rw [List.take_succ_eq_append_getElem (by rw [freeRow_length]; exact h)]
  simp [freeRow]
def freeTop (l : List Nd) : List Bool := row (freeRows l l.length) ((l.length : Int) - 1)
def freeTo (l : List Nd) (k : Nat) : List Int := ((List.range k).filter (flag (freeTop l))).map fun (i : Nat) => (i : Int)
def freeL (l : List Nd) : List Int := if termOk l then freeTo l 8 else []
theorem freeTo_succ (l : List Nd) (k : Nat) : freeTo l (k + 1) = if flag (freeTop l) k then freeTo l k ++ [(k : Int)] else freeTo l k := by
  unfold freeTo
  rw [List.range_succ, List.filter_append, List.map_append]
  cases h : flag (freeTop l) k <;> simp [h]
theorem freeTo_length (l : List Nd) (k : Nat) : (freeTo l k).length ≤ k := by
  unfold freeTo
  rw [List.length_map]
  exact Nat.le_trans (List.length_filter_le _ _) (by simp)
theorem inParts_take (rows : List (List Bool)) (ps : List Int) (v k : Nat) (h : k < ps.length) : inParts rows (ps.take (k + 1)) v = (inParts rows (ps.take k) v || flag (row rows ps[k]) v) := by
  unfold inParts
  rw [List.take_succ_eq_append_getElem h, List.any_append]
  simp

end Go.Proofs.YtnbenffechplgaaGreat.Tm4

/- From which nodes a quantifier is reached, as plain data. -/
namespace Go.Proofs.YtnbenffechplgaaGreat.Tm5
open Nd0 Pl1 Tm0 Tm1

def quant (op : Int) : Bool := op == 19 || op == 20
def outer (op : Int) : Bool := op == 2 || op == 3 || op == 4 || quant op
def below (bs : List Bool) (ps : List Int) : Bool := ps.any fun p => flag bs p.toNat
def holdTo (l : List Nd) : Nat → List Bool
  | 0 => []
  | k + 1 => holdTo l k ++ [quant (nth l k).op || below (holdTo l k) (parts (nth l k))]
theorem holdTo_length (l : List Nd) (k : Nat) : (holdTo l k).length = k := by
  induction k with
  | zero => rfl
  | succ k ih => show (holdTo l k ++ [_]).length = _; rw [List.length_append, ih]; rfl
theorem below_take (bs : List Bool) (ps : List Int) (k : Nat) (h : k < ps.length) : below bs (ps.take (k + 1)) = (below bs (ps.take k) || flag bs (ps[k]).toNat) := by
  unfold below
  rw [List.take_succ_eq_append_getElem h, List.any_append]
  simp

end Go.Proofs.YtnbenffechplgaaGreat.Tm5

/- Sets of variables as words of bits, as plain data. -/
namespace Go.Proofs.YtnbenffechplgaaGreat.Tm7
open Nd0 Pl1 Tm0 Tm1 Tm4
open Go.RowKit

theorem bits_andNot_u8_nat (a b : Nat) (ha : a < 256) (hb : b < 256) : bits .andNot .u8 (a : Int) (b : Int) = ((a &&& (255 - b) : Nat) : Int) := by
  have hx : a &&& (255 - b) < 2 ^ 8 := Nat.and_lt_two_pow _ (by omega)
  have h1 : (BitVec.ofInt 8 (a : Int)).toNat = a := by
    rw [BitVec.ofInt_natCast, BitVec.toNat_ofNat]; exact Nat.mod_eq_of_lt (by omega)
  have h2 : (BitVec.ofInt 8 (b : Int)).toNat = b := by
    rw [BitVec.ofInt_natCast, BitVec.toNat_ofNat]; exact Nat.mod_eq_of_lt (by omega)
  show IntKind.u8.wrap ((BitVec.ofInt 8 (a : Int) &&& ~~~ BitVec.ofInt 8 (b : Int)).toNat : Int) = _
  rw [BitVec.toNat_and, BitVec.toNat_not, h1, h2]
  simp only [IntKind.wrap, IntKind.signed, IntKind.bits]
  simp
  omega

theorem bit_not (b v : Nat) (hb : b < 256) (hv : v < 8) : (255 - b).testBit v = !b.testBit v := by
  have h := Nat.testBit_two_pow_sub_succ (x := b) (n := 8) (by omega) v
  have e : 2 ^ 8 - (b + 1) = 255 - b := by omega
  rw [e] at h
  rw [h, decide_eq_true hv, Bool.true_and]

def numsTo (s k : Nat) : List Int := ((List.range k).filter fun v => s.testBit v).map fun (i : Nat) => (i : Int)
def Has (s : Nat) (r : List Bool) : Prop := s < 256 ∧ ∀ v, v < 8 → s.testBit v = flag r v

theorem bit_one (k v : Nat) : (2 ^ k).testBit v = decide (k = v) := Nat.testBit_two_pow

def Some_ (s : Nat) (rows : List (List Bool)) (n : Nd) (j : Nat) : Prop := s < 256 ∧ ∀ v, v < 8 → s.testBit v = ((n.op == 1 && n.k == (v : Int)) || inParts rows ((parts n).take j) v)

theorem some_start_var {rows : List (List Bool)} {n : Nd} {kk : Nat} (h1 : n.op = 1) (hk : n.k = (kk : Int)) (h7 : kk ≤ 7) : Some_ (2 ^ kk) rows n 0 := by
  have e := Nat.pow_le_pow_right (n := 2) (by omega) h7
  refine ⟨by omega, fun v hv => ?_⟩
  rw [bit_one, h1, hk]
  simp only [List.take_zero, inParts, List.any_nil, Bool.or_false]
  rw [Bool.eq_iff_iff]; simp
  omega
theorem some_start {rows : List (List Bool)} {n : Nd} (h1 : (n.op == 1) = false) : Some_ 0 rows n 0 := by
  refine ⟨by omega, fun v hv => ?_⟩
  rw [h1]; simp [inParts]
theorem some_next {s t : Nat} {rows : List (List Bool)} {n : Nd} {j : Nat} (h : Some_ s rows n j) (hj : j < (parts n).length) (ht : Has t (row rows (parts n)[j])) : Some_ (s ||| t) rows n (j + 1) := by
  refine ⟨Nat.or_lt_two_pow (n := 8) h.1 ht.1, fun v hv => ?_⟩
  rw [Nat.testBit_or, h.2 v hv, ht.2 v hv, inParts_take _ _ _ _ hj, Bool.or_assoc]
theorem flag_freeRow (rows : List (List Bool)) (n : Nd) (v : Nat) (hv : v < 8) : flag (freeRow rows n) v = freeAt rows n v := by
  simp [flag, freeRow, List.getD, hv]
theorem some_end {s : Nat} {rows : List (List Bool)} {n : Nd} {j : Nat} (h : Some_ s rows n j) (hj : (parts n).length ≤ j) (hq : (n.op == 19 || n.op == 20) = false) : Has s (freeRow rows n) := by
  refine ⟨h.1, fun v hv => ?_⟩
  rw [h.2 v hv, flag_freeRow _ _ _ hv, List.take_of_length_le hj]
  unfold freeAt
  rw [hq]; simp
theorem some_end_quant {s : Nat} {rows : List (List Bool)} {n : Nd} {j kk : Nat} (h : Some_ s rows n j) (hj : (parts n).length ≤ j) (hq : (n.op == 19 || n.op == 20) = true) (hk : n.k = (kk : Int)) (h7 : kk ≤ 7) : Has (s &&& (255 - 2 ^ kk)) (freeRow rows n) := by
  have e := Nat.pow_le_pow_right (n := 2) (by omega) h7
  refine ⟨Nat.and_lt_two_pow _ (n := 8) (Nat.lt_of_le_of_lt (Nat.sub_le _ _) (by decide)), fun v hv => ?_⟩
  rw [Nat.testBit_and, h.2 v hv, flag_freeRow _ _ _ hv, List.take_of_length_le hj, bit_not _ _ (by omega) hv, bit_one]
  unfold freeAt
  rw [hq, hk]
  by_cases ev : kk = v
  · subst ev; simp
  · have e1 : ((kk : Int) == (v : Int)) = false := by simp; omega
    rw [e1]; simp [ev]
theorem row_old (l : List Nd) (k : Nat) (p : Int) (h0 : 0 ≤ p) (hp : p < k) : row (freeRows l (k + 1)) p = row (freeRows l k) p := by
  unfold row
  show (freeRows l k ++ [_]).getD p.toNat [] = _
  rw [List.getD_eq_getElem?_getD, List.getElem?_append_left (by rw [freeRows_length]; omega), ← List.getD_eq_getElem?_getD]
theorem row_new (l : List Nd) (k : Nat) : row (freeRows l (k + 1)) (k : Int) = freeRow (freeRows l k) (nth l k) := by
  unfold row
  show (freeRows l k ++ [_]).getD k [] = _
  rw [List.getD_eq_getElem?_getD, List.getElem?_append_right (by rw [freeRows_length]; exact Nat.le_refl _), freeRows_length]
  simp

theorem nums_free {l : List Nd} {s : Nat} (h : Has s (freeTop l)) : numsTo s 8 = freeTo l 8 := by
  unfold numsTo freeTo
  congr 1
  apply List.filter_congr
  intro v hv
  exact h.2 v (List.mem_range.1 hv)
theorem set_zero {l : List Nd} {s : Nat} (hT : termOk l = true) (h : Has s (freeTop l)) : s = 0 ↔ (freeL l).length = 0 := by
  have e : freeL l = numsTo s 8 := by unfold freeL; rw [hT, nums_free h]; rfl
  rw [e]
  constructor
  · intro h0; subst h0; simp [numsTo]
  · intro h0
    apply Nat.eq_of_testBit_eq
    intro v
    rw [Nat.zero_testBit]
    by_cases hv : v < 8
    · cases hb : s.testBit v
      · rfl
      · have : (v : Int) ∈ numsTo s 8 := by
          unfold numsTo
          exact List.mem_map.2 ⟨v, List.mem_filter.2 ⟨List.mem_range.2 hv, hb⟩, rfl⟩
        rw [List.eq_nil_of_length_eq_zero h0] at this
        cases this
    · exact Nat.testBit_lt_two_pow (Nat.lt_of_lt_of_le h.1 (Nat.pow_le_pow_right (n := 2) (by omega) (by omega : 8 ≤ v)))

end Go.Proofs.YtnbenffechplgaaGreat.Tm7

/- A quantifier put on a formula: what is free in it, as plain data. -/
namespace Go.Proofs.YtnbenffechplgaaGreat.Tm12
open Nd0 Pl1 Tm0 Tm1 Tm4 Tm7

end Go.Proofs.YtnbenffechplgaaGreat.Tm12

/- The places of the reached nodes, as plain data. -/
namespace Go.Proofs.YtnbenffechplgaaGreat.Tm2
open Nd0 Pl1 Tm0 Tm1

def reachTo (l : List Nd) (k : Nat) : List Int := ((List.range k).filter (flag (reachL l))).map fun (i : Nat) => (i : Int)
def reachedL (l : List Nd) : List Int := if termOk l then reachTo l l.length else []
theorem reachTo_succ (l : List Nd) (k : Nat) : reachTo l (k + 1) = if flag (reachL l) k then reachTo l k ++ [(k : Int)] else reachTo l k := by
  unfold reachTo
  rw [List.range_succ, List.filter_append, List.map_append]
  cases h : flag (reachL l) k <;> simp [h]
theorem reachTo_length (l : List Nd) (k : Nat) : (reachTo l k).length ≤ k := by
  unfold reachTo
  rw [List.length_map]
  exact Nat.le_trans (List.length_filter_le _ _) (by simp)

end Go.Proofs.YtnbenffechplgaaGreat.Tm2

/- A term without what its root does not reach, as plain data. -/
namespace Go.Proofs.YtnbenffechplgaaGreat.Tm3
open Nd0 Pl1 Tm0 Tm1 Tm2

def plc (l : List Nd) (p : Int) : Int := ((reachTo l p.toNat).length : Int)
def places (l : List Nd) (k : Nat) : List Int := (List.range k).map fun i => ((reachTo l i).length : Int)
theorem places_length (l : List Nd) (k : Nat) : (places l k).length = k := by simp [places]
theorem places_get (l : List Nd) (k i : Nat) (h : i < (places l k).length) : (places l k)[i] = plc l (i : Int) := by simp [places, plc]
theorem places_succ (l : List Nd) (k : Nat) : places l (k + 1) = places l k ++ [((reachTo l k).length : Int)] := by
  unfold places; rw [List.range_succ, List.map_append]; rfl
def remap (l : List Nd) (n : Nd) : Nd :=
  ⟨n.op, n.w, n.k, if 0 < (parts n).length then plc l n.a else n.a, if 1 < (parts n).length then plc l n.b else n.b, if 2 < (parts n).length then plc l n.c else n.c⟩
def pruneTo (l : List Nd) (k : Nat) : List Nd := ((List.range k).filter (flag (reachL l))).map fun i => remap l (nth l i)
def pruneL (l : List Nd) : List Nd := if termOk l then pruneTo l l.length else []
theorem pruneTo_succ (l : List Nd) (k : Nat) : pruneTo l (k + 1) = if flag (reachL l) k then pruneTo l k ++ [remap l (nth l k)] else pruneTo l k := by
  unfold pruneTo
  rw [List.range_succ, List.filter_append, List.map_append]
  cases h : flag (reachL l) k <;> simp [h]
theorem pruneTo_length (l : List Nd) (k : Nat) : (pruneTo l k).length = (reachTo l k).length := by simp [pruneTo, reachTo]
theorem pruneL_le (l : List Nd) : (pruneL l).length ≤ l.length := by
  unfold pruneL; split
  · rw [pruneTo_length]; exact reachTo_length l _
  · exact Nat.zero_le _
theorem parts_cases (n : Nd) : parts n = [] ∨ parts n = [n.a] ∨ parts n = [n.a, n.b] ∨ parts n = [n.a, n.b, n.c] := by
  unfold parts
  split
  · exact .inr (.inl rfl)
  · split
    · exact .inr (.inr (.inl rfl))
    · split
      · exact .inr (.inr (.inr rfl))
      · exact .inl rfl

end Go.Proofs.YtnbenffechplgaaGreat.Tm3

/- What the root reaches: the root, the parts of what it reaches, and nothing else. -/
namespace Go.Proofs.YtnbenffechplgaaGreat.Tm8
open Nd0 Pl1 Tm0 Tm1 Tm2 Tm3

theorem markAll_flag (ps : List Int) : ∀ (bs : List Bool) (i : Nat), i < bs.length → flag (markAll bs ps) i = (flag bs i || ps.any fun p => p.toNat == i) := by
  induction ps with
  | nil => intro bs i _; simp [markAll]
  | cons p ps ih =>
    intro bs i hi
    show flag (markAll (bs.set p.toNat true) ps) i = _
    rw [ih _ _ (by rw [List.length_set]; exact hi)]
    by_cases hp : p.toNat < bs.length
    · rw [flag_set hp]
      by_cases e : p.toNat = i
      · simp [e]
      · have e' : (p.toNat == i) = false := by simpa using e
        rw [if_neg e, List.any_cons, e', Bool.false_or]
    · have : bs.set p.toNat true = bs := List.set_eq_of_length_le (by omega)
      rw [this]
      have e' : (p.toNat == i) = false := by simp; omega
      rw [List.any_cons, e', Bool.false_or]
def Down (l : List Nd) : Prop := ∀ i, i < l.length → ∀ p ∈ parts (nth l i), 0 ≤ p ∧ p < (i : Int)
theorem down_of {l : List Nd} (h : termOk l = true) : Down l := by
  intro i hi p hp
  obtain ⟨j, hj, rfl⟩ := List.getElem_of_mem hp
  exact parts_ok (term_node h hi) j hj
theorem step_flag {l : List Nd} (bs : List Bool) (k i : Nat) (hi : i < bs.length) : flag (reachStep l bs k) i = (flag bs i || (flag bs k && (parts (nth l k)).any fun p => p.toNat == i)) := by
  unfold reachStep
  cases h : flag bs k
  · simp
  · rw [if_pos rfl, markAll_flag _ _ _ hi]; simp
theorem down_high {l : List Nd} (hD : Down l) : ∀ (k : Nat) (bs : List Bool), bs.length = l.length → k ≤ l.length → ∀ i, k ≤ i + 1 → i < l.length → flag (reachDown l k bs) i = flag bs i := by
  intro k
  induction k with
  | zero => intro bs _ _ i _ _; rfl
  | succ k ih =>
    intro bs hb hk i hi hl
    show flag (reachDown l k (reachStep l bs k)) i = _
    rw [ih _ (by rw [reachStep_length]; exact hb) (by omega) i (by omega) hl, step_flag _ _ _ (by omega)]
    have : ((parts (nth l k)).any fun p => p.toNat == i) = false := by
      rw [List.any_eq_false]
      intro p hp
      have := hD k (by omega) p hp
      simp; omega
    rw [this]; simp
theorem down_closed {l : List Nd} (hD : Down l) : ∀ (k : Nat) (bs : List Bool), bs.length = l.length → k ≤ l.length → (∀ i, k ≤ i → i < l.length → flag bs i = true → ∀ p ∈ parts (nth l i), flag bs p.toNat = true) →
    ∀ i, i < l.length → flag (reachDown l k bs) i = true → ∀ p ∈ parts (nth l i), flag (reachDown l k bs) p.toNat = true := by
  intro k
  induction k with
  | zero => intro bs _ _ h i hi hf p hp; exact h i (by omega) hi hf p hp
  | succ k ih =>
    intro bs hb hk h
    refine ih (reachStep l bs k) (by rw [reachStep_length]; exact hb) (by omega) ?_
    intro i hki hi hf p hp
    have hpd := hD i hi p hp
    rw [step_flag _ _ _ (by omega)] at hf
    rw [step_flag _ _ _ (by omega)]
    have hna : ((parts (nth l k)).any fun q => q.toNat == i) = false := by
      rw [List.any_eq_false]
      intro q hq
      have := hD k (by omega) q hq
      simp; omega
    rw [hna, Bool.and_false, Bool.or_false] at hf
    by_cases e : i = k
    · subst e
      rw [hf]
      have : ((parts (nth l i)).any fun q => q.toNat == p.toNat) = true := List.any_eq_true.2 ⟨p, hp, by simp⟩
      rw [this]; simp
    · rw [h i (by omega) hi hf p hp]; simp
theorem init_flag (n i : Nat) (h : i < n) : flag (reachInit n) i = (i + 1 == n) := by simp [flag, reachInit, List.getD, h]
theorem reach_closed {l : List Nd} (hD : Down l) {i : Nat} (hi : i < l.length) (hf : flag (reachL l) i = true) {p : Int} (hp : p ∈ parts (nth l i)) : flag (reachL l) p.toNat = true :=
  down_closed hD l.length _ (reachInit_length _) (Nat.le_refl _) (fun i h1 h2 => by omega) i hi hf p hp
theorem down_more {l : List Nd} : ∀ (k : Nat) (bs : List Bool), bs.length = l.length → ∀ i, i < l.length → flag bs i = true → flag (reachDown l k bs) i = true := by
  intro k
  induction k with
  | zero => intro bs _ i _ h; exact h
  | succ k ih =>
    intro bs hb i hi h
    refine ih (reachStep l bs k) (by rw [reachStep_length]; exact hb) i hi ?_
    rw [step_flag _ _ _ (by omega), h]; rfl
theorem reach_root {l : List Nd} (h : 1 ≤ l.length) : flag (reachL l) (l.length - 1) = true :=
  down_more l.length _ (reachInit_length _) _ (by omega) (by rw [init_flag _ _ (by omega)]; simp; omega)
theorem down_why {l : List Nd} (hD : Down l) : ∀ (k : Nat) (bs : List Bool), bs.length = l.length → k ≤ l.length → ∀ i, i < l.length → flag (reachDown l k bs) i = true → flag bs i = true ∨ ∃ j, i < j ∧ j < l.length ∧ flag (reachDown l k bs) j = true ∧ (i : Int) ∈ parts (nth l j) := by
  intro k
  induction k with
  | zero => intro bs _ _ i _ h; exact .inl h
  | succ k ih =>
    intro bs hb hk i hi h
    rcases ih (reachStep l bs k) (by rw [reachStep_length]; exact hb) (by omega) i hi h with h1 | h1
    · rw [step_flag _ _ _ (by omega)] at h1
      simp only [Bool.or_eq_true, Bool.and_eq_true] at h1
      rcases h1 with h1 | ⟨h1, h2⟩
      · exact .inl h1
      · obtain ⟨p, hp, hpe⟩ := List.any_eq_true.1 h2
        have hd := hD k (by omega) p hp
        simp at hpe
        have hpi : p = (i : Int) := by omega
        subst hpi
        refine .inr ⟨k, by omega, by omega, ?_, hp⟩
        exact down_more k _ (by rw [reachStep_length]; exact hb) k (by omega) (by rw [step_flag _ _ _ (by omega), h1]; rfl)
    · exact .inr h1
theorem reach_why {l : List Nd} (hD : Down l) {i : Nat} (hi : i < l.length) (hf : flag (reachL l) i = true) : i + 1 = l.length ∨ ∃ j, i < j ∧ j < l.length ∧ flag (reachL l) j = true ∧ (i : Int) ∈ parts (nth l j) := by
  rcases down_why hD l.length _ (reachInit_length _) (Nat.le_refl _) i hi hf with h | h
  · rw [init_flag _ _ hi] at h; exact .inl (by simpa using h)
  · exact .inr h

theorem reach_at (l : List Nd) : ∀ (k j : Nat) (h : j < (reachTo l k).length), ∃ x : Nat, (reachTo l k)[j] = (x : Int) ∧ x < k ∧ flag (reachL l) x = true ∧ (reachTo l x).length = j := by
  intro k
  induction k with
  | zero => intro j h; simp [reachTo] at h
  | succ k ih =>
    intro j h
    have e := reachTo_succ l k
    cases hf : flag (reachL l) k
    · rw [hf] at e
      simp only [Bool.false_eq_true, if_false] at e
      have h' : j < (reachTo l k).length := by rw [← e]; exact h
      obtain ⟨x, h1, h2, h3, h4⟩ := ih j h'
      exact ⟨x, by simp only [e]; exact h1, by omega, h3, h4⟩
    · rw [hf, if_pos rfl] at e
      have hlen : (reachTo l (k + 1)).length = (reachTo l k).length + 1 := by rw [e]; simp
      by_cases hj : j < (reachTo l k).length
      · obtain ⟨x, h1, h2, h3, h4⟩ := ih j hj
        refine ⟨x, ?_, by omega, h3, h4⟩
        simp only [e]
        rw [List.getElem_append_left hj]; exact h1
      · have hje : j = (reachTo l k).length := by omega
        refine ⟨k, ?_, by omega, hf, hje.symm⟩
        simp only [e, hje]
        rw [List.getElem_append_right (Nat.le_refl _)]
        simp
theorem reachTo_mono (l : List Nd) {a b : Nat} (h : a ≤ b) : (reachTo l a).length ≤ (reachTo l b).length := by
  induction b with
  | zero => have : a = 0 := by omega
            subst this; exact Nat.le_refl _
  | succ b ih =>
    by_cases e : a = b + 1
    · subst e; exact Nat.le_refl _
    · refine Nat.le_trans (ih (by omega)) ?_
      rw [reachTo_succ]; split
      · simp
      · exact Nat.le_refl _
theorem reachTo_lt (l : List Nd) {a b : Nat} (h : a < b) (hf : flag (reachL l) a = true) : (reachTo l a).length < (reachTo l b).length := by
  have h1 := reachTo_mono l (a := a + 1) (b := b) (by omega)
  rw [reachTo_succ, hf, if_pos rfl, List.length_append] at h1
  simp at h1; omega
theorem reachTo_inj (l : List Nd) {a b : Nat} (ha : flag (reachL l) a = true) (hb : flag (reachL l) b = true) (h : (reachTo l a).length = (reachTo l b).length) : a = b := by
  rcases Nat.lt_trichotomy a b with h1 | h1 | h1
  · have := reachTo_lt l h1 ha; omega
  · exact h1
  · have := reachTo_lt l h1 hb; omega
end Go.Proofs.YtnbenffechplgaaGreat.Tm8
