/- Small texts of mine, one behind the other. -/
import Derived.Test.YtnkkigoeffghdaaPk153
import Derived.Test.YtnkkigoeffghdaaSp7
/- Which variables stand free, as plain data. -/
namespace Go.Proofs.Ytnkkigoeffghdaa.Tm4
open Nd0 Pl1 Tm0 Tm1

def row (rows : List (List Bool)) (p : Int) : List Bool := rows.getD p.toNat []
def inParts (rows : List (List Bool)) (ps : List Int) (v : Nat) : Bool := ps.any fun p => flag (row rows p) v
def freeAt (rows : List (List Bool)) (n : Nd) (v : Nat) : Bool :=
  if (n.op == 19 || n.op == 20) && n.k == (v : Int) then false else (n.op == 1 && n.k == (v : Int)) || inParts rows (parts n) v
def freeRow (rows : List (List Bool)) (n : Nd) : List Bool := (List.range 8).map (freeAt rows n)
/-- For each of the first k nodes which variables are free in it. -/
def freeRows (l : List Nd) : Nat → List (List Bool)
  | 0 => []
  | k + 1 => freeRows l k ++ [freeRow (freeRows l k) (nth l k)]
theorem freeRows_length (l : List Nd) (k : Nat) : (freeRows l k).length = k := by
  induction k with
  | zero => rfl
  | succ k ih => show (freeRows l k ++ [_]).length = _; rw [List.length_append, ih]; rfl
theorem freeRow_length (rows : List (List Bool)) (n : Nd) : (freeRow rows n).length = 8 := by simp [freeRow]
theorem freeRow_take (rows : List (List Bool)) (n : Nd) (v : Nat) (h : v < 8) : (freeRow rows n).take (v + 1) = (freeRow rows n).take v ++ [freeAt rows n v] := by
  rw [List.take_succ_eq_append_getElem (by rw [freeRow_length]; exact h)]
  simp [freeRow]
def freeTop (l : List Nd) : List Bool := row (freeRows l l.length) ((l.length : Int) - 1)
def freeTo (l : List Nd) (k : Nat) : List Int := ((List.range k).filter (flag (freeTop l))).map fun (i : Nat) => (i : Int)
/-- The variables that are free in the root. -/
def freeL (l : List Nd) : List Int := if termOk l then freeTo l 8 else []
theorem freeTo_succ (l : List Nd) (k : Nat) : freeTo l (k + 1) = if flag (freeTop l) k then freeTo l k ++ [(k : Int)] else freeTo l k := by
  unfold freeTo
  rw [List.range_succ, List.filter_append, List.map_append]
  cases h : flag (freeTop l) k <;> simp [h]
theorem freeTo_length (l : List Nd) (k : Nat) : (freeTo l k).length ≤ k := by
  unfold freeTo
  rw [List.length_map]
  exact Nat.le_trans (List.length_filter_le _ _) (by simp)
theorem inParts_take (rows : List (List Bool)) (ps : List Int) (v k : Nat) (h : k < ps.length) : inParts rows (ps.take (k + 1)) v = (inParts rows (ps.take k) v || flag (row rows ps[k]) v) := by
  unfold inParts
  rw [List.take_succ_eq_append_getElem h, List.any_append]
  simp

end Go.Proofs.Ytnkkigoeffghdaa.Tm4

/- Lists of lists of flags: the law at the walk, and how they are read. -/
namespace Go.Proofs.Ytnkkigoeffghdaa.Ap3
open Go.RowKit
open Nd0 Tm1 Tm4
set_option linter.unusedVariables false

theorem infoRow : (Try.prog.info? 67).map (fun i => (i.zero, i.size, i.bytes)) = some (some (.slice none 0 0), 1, 24) := by kernel_rfl

/-- The slice v, in a block from B on, is the slices xs and may be appended to. -/
def Owv (w : World) (B : Nat) (v : Value) (xs : List Value) : Prop := w.ownsRow B 67 1 v xs.length xs
theorem Owv.lit (w : World) (B : Nat) (hB : B ≤ w.heap.size) : Owv (w.alloc (.cells #[] 67)) B (.slice (some ⟨w.heap.size, 0, none⟩) 0 0) [] :=
  World.ownsRow_lit w #[] 0 hB (Nat.zero_le _) rfl
theorem Owv.lt {w : World} {B : Nat} {v : Value} {l : List Value} (h : Owv w B v l) : ∀ k, v.ownBlock = some k → B ≤ k ∧ k < w.heap.size := World.ownsRow.lt h
theorem Owv.kept {w w' : World} {B : Nat} {v : Value} {l : List Value} (h : Owv w B v l) {S : Nat → Prop} (k : Kept S w w') (hs : ∀ i, v.ownBlock = some i → ¬ S i) : Owv w' B v l := by
  refine ⟨h.1, ?_⟩
  rcases h.2 with hn | ⟨g, cap, cur, rfl, hb, hgg, rest⟩
  · exact .inl hn
  · refine .inr ⟨g, cap, cur, rfl, hb, ?_, rest⟩
    rw [k.block g (Array.getElem?_eq_some_iff.1 hgg).1 (hs g rfl)]
    exact hgg
theorem Owv.at {w : World} {B : Nat} {v : Value} {l : List Value} (h : Owv w B v l) (hl : 1 ≤ l.length) : ∃ g c, v = .slice (some ⟨g, 0, none⟩) l.length c ∧ (∀ i, i < l.length → w.cell? ⟨g, i, none⟩ = l[i]?) := by
  rcases h.2 with ⟨rfl, h0⟩ | ⟨g, cap, cur, rfl, hb, hg, hn, hm, hs, ht⟩
  · omega
  · refine ⟨g, cap, rfl, fun i hi => ?_⟩
    rw [cell_of_row w g i cur _ _ hg]
    have e : (cur.toList.take (l.length * 1))[i]? = l[i]? := by rw [ht]
    rw [List.getElem?_take_of_lt (by omega)] at e
    simpa using e

/-- One slice more. -/
theorem app_row {ops : Array Oper} {rest : List Oper} {o : Oper} {a : Act} {Q : Exit → Act → World → Prop} (W : World) (hgd : o.guard = none) (s x : Operand)
    (ho : o.op = .call { callee := .builtin .append, args := #[s, x], argTypes := #[128, 128] })
    (B : Nat) (v : Value) (l : List Value) (ya : Option Addr) (yn yc : Nat) (hs : a.eval s = v) (hx : a.eval x = .slice (some ⟨W.heap.size, 0, none⟩) 1 1)
    (hown : Owv W B v l) (hB : B ≤ W.heap.size) (hlen : l.length ≤ 1048576)
    (h : ∀ g cap w', Owv w' B (.slice (some ⟨g, 0, none⟩) (l.length + 1) cap) (l ++ [.slice ya yn yc]) → Kept (fun k => v.ownBlock = some k) W w' → (v.ownBlock = some g ∨ W.heap.size ≤ g) → wpList Try.prog ops Q rest (a.put o.dst (.slice (some ⟨g, 0, none⟩) (l.length + 1) cap)) w') :
    wpList Try.prog ops Q (o :: rest) a (W.alloc (.cells #[.slice ya yn yc] 67)) := by
  obtain ⟨i, hi, hzz⟩ := Option.map_eq_some_iff.1 infoRow
  simp only [Prod.mk.injEq] at hzz
  obtain ⟨hz, hsz, hb⟩ := hzz
  refine wpList_append_lies (W.alloc (.cells #[.slice ya yn yc] 67)) hgd s x 128 ho B 67 i (.slice none 0 0) 1 24 Try.underlying128 hi hz hsz hb rfl (by omega) v l.length l hs (World.ownsRow.alloc hown _)
    ⟨W.heap.size, 0, none⟩ 1 1 [.slice ya yn yc] hx rfl ?_ ?_ (by omega) (by unfold maxLen; omega) (by omega) (by simp; omega) _ rfl ?_
  · intro j u hu
    exact World.news_of_block (heap_alloc_new W _) j u hu
  · intro u hu
    simp at hu
    subst hu
    rfl
  · intro g cap w' h1 h2 h3 h4
    refine h g cap w' ?_ ?_ ?_
    · unfold Owv
      simpa using h1
    · have k1 : Kept (fun k => v.ownBlock = some k) W (W.alloc (.cells #[.slice ya yn yc] 67)) := (Kept.refl _ W).alloc _
      exact k1.trans ⟨h2.os, h2.tape, h2.output, h2.size, fun k hk hn => h2.block k hk (fun e => hn e.symm)⟩
    · rcases h3 with h3 | h3
      · exact .inl h3
      · exact .inr (by rw [h3]; simp)

/-- The slices vs hold the rows, each of eight flags, none of them in block v's. -/
def Rws (w : World) (v : Value) (vs : List Value) (rows : List (List Bool)) : Prop :=
  vs.length = rows.length ∧ ∀ j, j < rows.length → ∃ g c, vs[j]? = some (.slice (some ⟨g, 0, none⟩) 8 c) ∧ g < w.heap.size ∧ v.ownBlock ≠ some g ∧ ∀ x, x < 8 → w.cell? ⟨g, x, none⟩ = some (.bool (flag (rows.getD j []) x))
theorem Rws.kept {w w' : World} {v : Value} {vs : List Value} {rows : List (List Bool)} (h : Rws w v vs rows) (k : Kept (fun b => v.ownBlock = some b) w w') : Rws w' v vs rows := by
  refine ⟨h.1, fun j hj => ?_⟩
  obtain ⟨g, c, h1, h2, h3, h4⟩ := h.2 j hj
  exact ⟨g, c, h1, Nat.lt_of_lt_of_le h2 k.size, h3, fun x hx => by rw [k.cell (p := ⟨g, x, none⟩) h2 h3]; exact h4 x hx⟩
theorem Rws.below {w w' : World} {v : Value} {vs : List Value} {rows : List (List Bool)} (h : Rws w v vs rows) (k : Below w.heap.size w w') : Rws w' v vs rows := h.kept (Kept.ofBelow k)

end Go.Proofs.Ytnkkigoeffghdaa.Ap3

/- From which nodes a quantifier is reached, as plain data. -/
namespace Go.Proofs.Ytnkkigoeffghdaa.Tm5
open Nd0 Pl1 Tm0 Tm1

def quant (op : Int) : Bool := op == 19 || op == 20
def outer (op : Int) : Bool := op == 2 || op == 3 || op == 4 || quant op
def below (bs : List Bool) (ps : List Int) : Bool := ps.any fun p => flag bs p.toNat
/-- For each of the first k nodes whether a quantifier is reached from it. -/
def holdTo (l : List Nd) : Nat → List Bool
  | 0 => []
  | k + 1 => holdTo l k ++ [quant (nth l k).op || below (holdTo l k) (parts (nth l k))]
theorem holdTo_length (l : List Nd) (k : Nat) : (holdTo l k).length = k := by
  induction k with
  | zero => rfl
  | succ k ih => show (holdTo l k ++ [_]).length = _; rw [List.length_append, ih]; rfl
theorem below_take (bs : List Bool) (ps : List Int) (k : Nat) (h : k < ps.length) : below bs (ps.take (k + 1)) = (below bs (ps.take k) || flag bs (ps[k]).toNat) := by
  unfold below
  rw [List.take_succ_eq_append_getElem h, List.any_append]
  simp

end Go.Proofs.Ytnkkigoeffghdaa.Tm5

/- The walks of the model's tests of operators, and of its search for nodes that hold quantifiers. -/
namespace Go.Proofs.Ytnkkigoeffghdaa.Sp10
open Go.RowKit
open Nd0 Nd1 Tm0 Tm1 Tm5 Ap1 Sp2
open Sp7 (nodeAt_of)
set_option linter.unusedVariables false

set_option maxHeartbeats 400000 in
theorem sQuant (op : Int) (w : World) :
    Calls Try.prog 65 #[.int .i64 op] w fun e w' => e = .returned (.bool (quant op)) ∧ w' = w := by
  cases h1 : (op == 19) <;> cases h2 : (op == 20)
  all_goals
    go_enter Try.func65, Try.ntmps65
    go_wp2
    go_ret
    exact ⟨ret_bool (by unfold quant; rw [h1, h2]; rfl), rfl⟩

set_option maxHeartbeats 400000 in
theorem sOuter (op : Int) (w : World) :
    Calls Try.prog 118 #[.int .i64 op] w fun e w' => e = .returned (.bool (outer op)) ∧ w' = w := by
  cases h1 : (op == 2) <;> cases h2 : (op == 3) <;> cases h3 : (op == 4)
  all_goals
    go_enter Try.func118, Try.ntmps118
    go_wp2_with (go_at_call 65; refine (sQuant _ _).mono ?_; rintro e w' ⟨rfl, rfl⟩)
    go_ret
    exact ⟨ret_bool (by unfold outer; rw [h1, h2, h3]; rfl), rfl⟩

set_option maxRecDepth 100000 in
set_option maxHeartbeats 4000000 in
theorem sHolder (w : World) (a : Option Addr) (l : List Nd) (c : Nat) (hN : Nodes w a l) (hT : termOk l = true) :
    Calls Try.prog 117 #[.slice a l.length c] w fun e w' => (∃ v, e = .returned v ∧ Owb w' w.heap.size v (holdTo l l.length)) ∧ Below w.heap.size w w' := by
  have HN : Hid (Nodes w a l) := hN
  have HT : Hid (termOk l = true) := hT
  obtain ⟨hl1, hl2⟩ := term_len hT
  rcases hN.2 with h0 | ⟨xb, xo, rfl, hxc⟩
  · omega
  clear hN hT hxc
  go_enter Try.func117, Try.ntmps117
  go_wp2
  go_loopw [3, 4] (fun vo q wr => ∃ k : Nat, k ≤ l.length ∧ q = .int .i64 k ∧ Below w.heap.size w wr ∧ ∃ go co, vo = .slice (some ⟨go, 0, none⟩) k co ∧ Owb wr w.heap.size vo (holdTo l k)) (fun _ q _ => l.length - (intOf q).toNat)
  case atStart => exact ⟨0, Nat.zero_le _, rfl, (Below.refl _ _).alloc (Nat.le_refl _) _, _, _, rfl, Owb.lit w _ (Nat.le_refl _)⟩
  case round =>
    obtain ⟨k, hk, rfl, hb, go, co, rfl, hoo⟩ := hrel
    have HB : Hid (Below w.heap.size w wr) := hb
    have HO : Hid (Owb wr w.heap.size (.slice (some ⟨go, 0, none⟩) k co) (holdTo l k)) := hoo
    have hbs : w.heap.size ≤ wr.heap.size := hb.size
    have hhl : (holdTo l k).length = k := holdTo_length l k
    by_cases hlt : k < l.length
    · have hlz : (k : Int) < (l.length : Int) := by omega
      have HSC : Hid (holdTo l (k + 1) = holdTo l k ++ [quant (nth l k).op || below (holdTo l k) (parts (nth l k))]) := rfl
      have HPO0 := parts_ok (term_node HT.out hlt)
      obtain ⟨p0, p1, p2, p3, p4, p5⟩ := nodeAt_of (HN.out.below hb) hlt
      clear hb hoo
      generalize holdTo l k = bs at HO HSC hhl
      generalize nth l k = n at HSC HPO0 p0 p1 p2 p3 p4 p5
      have HPO : Hid (∀ j (hj : j < (parts n).length), 0 ≤ (parts n)[j] ∧ (parts n)[j] < k) := HPO0
      clear HPO0
      obtain ⟨wi, rfl⟩ : ∃ wi : World, wi = wr := ⟨_, rfl⟩
      go_wp2_with fail
      refine (sQuant n.op _).mono ?_
      rintro e wj ⟨rfl, rfl⟩
      go_wp2_with fail
      refine (sParts n _).mono ?_
      rintro e w4 ⟨⟨pa, pc, rfl, hpi⟩, hb4⟩
      have HP : Hid (WInts w4 wj.heap.size pa (parts n)) := hpi
      have HB4 : Hid (Below w.heap.size w w4) := HB.out.trans (hb4.mono hbs)
      have HO4 : Hid (Owb w4 w.heap.size (.slice (some ⟨go, 0, none⟩) k co) bs) := HO.out.kept (S := fun _ => False) (Kept.ofBelow hb4) (fun _ _ h => h)
      have hs4 : w.heap.size ≤ w4.heap.size := HB4.out.size
      clear hpi hb4 p0 p1 p2 p3 p4 p5
      have hpl := parts_le n
      go_wp2_with fail
      go_loop [5, 7] (fun f q => ∃ j : Nat, j ≤ (parts n).length ∧ q = .int .i64 j ∧ f = .bool (quant n.op || below bs ((parts n).take j))) (fun _ q => (parts n).length - (intOf q).toNat)
      case atStart => exact ⟨0, Nat.zero_le _, rfl, by rw [List.take_zero]; simp [below]⟩
      case round =>
        obtain ⟨j, hj, rfl, rfl⟩ := hrel
        by_cases hlj : j < (parts n).length
        · have hljz : (j : Int) < ((parts n).length : Int) := by omega
          have HST : Hid (below bs ((parts n).take (j + 1)) = (below bs ((parts n).take j) || flag bs ((parts n)[j]).toNat)) := below_take bs (parts n) j hlj
          cases hcur : (quant n.op || below bs ((parts n).take j))
          · rcases HP.out.2 with h0 | ⟨pb, po, rfl, hpB, hpc⟩
            · omega
            have r0 := (hpc j hlj).1
            obtain ⟨hx0, hx1⟩ := HPO.out j hlj
            clear hpc
            generalize (parts n)[j] = x at r0 hx0 hx1 HST
            have r2 := (HO4.out.cell' hhl x.toNat (by omega)).1
            rw [flag_get] at r2
            have hxz : x < (k : Int) := hx1
            go_wp2
            go_round
            case rel =>
              refine ⟨j + 1, by omega, by go_num, ?_⟩
              rw [HST.out, ← Bool.or_assoc, hcur]; rfl
            case measure => simp [intOf]; omega
          · go_wp2
            go_round
            case rel =>
              refine ⟨j + 1, by omega, by go_num, ?_⟩
              rw [HST.out, ← Bool.or_assoc, hcur]; rfl
            case measure => simp [intOf]; omega
        · have ej : j = (parts n).length := by omega
          subst ej
          rw [List.take_length]
          go_wp2_with (at_builtin; go_must (refine app_bool _ rfl _ _ rfl w.heap.size (.slice (some ⟨go, 0, none⟩) k co) bs _ rfl rfl HO4.out hs4 (by omega) ?_; intro g cp w5 ho5 hk5 hg5))
          have HO5 : Hid (Owb w5 w.heap.size (.slice (some ⟨g, 0, none⟩) (bs.length + 1) cp) (bs ++ [quant n.op || below bs (parts n)])) := ho5
          have HB5 : Hid (Below w.heap.size w w5) := HB4.out.trans (hk5.below (fun b hb => (HO4.out.lt b hb).1) hs4)
          clear ho5 hk5 hg5
          go_wp2
          go_roundw
          case rel =>
            refine ⟨k + 1, by omega, by go_num, HB5.out, g, cp, rfl, ?_⟩
            rw [HSC.out]
            have h9 := HO5.out
            rw [hhl] at h9
            exact h9
          case measure => simp [intOf]; omega
    · have e : k = l.length := by omega
      subst e
      clear hoo
      go_wp2
      go_ret
      exact ⟨⟨_, rfl, HO.out⟩, HB.out⟩

end Go.Proofs.Ytnkkigoeffghdaa.Sp10

/- Sets of variables as words of bits, as plain data. -/
namespace Go.Proofs.Ytnkkigoeffghdaa.Tm7
open Nd0 Pl1 Tm0 Tm1 Tm4
open Go.RowKit

theorem bits_andNot_u8_nat (a b : Nat) (ha : a < 256) (hb : b < 256) : bits .andNot .u8 (a : Int) (b : Int) = ((a &&& (255 - b) : Nat) : Int) := by
  have hx : a &&& (255 - b) < 2 ^ 8 := Nat.and_lt_two_pow _ (by omega)
  have h1 : (BitVec.ofInt 8 (a : Int)).toNat = a := by
    rw [BitVec.ofInt_natCast, BitVec.toNat_ofNat]; exact Nat.mod_eq_of_lt (by omega)
  have h2 : (BitVec.ofInt 8 (b : Int)).toNat = b := by
    rw [BitVec.ofInt_natCast, BitVec.toNat_ofNat]; exact Nat.mod_eq_of_lt (by omega)
  show IntKind.u8.wrap ((BitVec.ofInt 8 (a : Int) &&& ~~~ BitVec.ofInt 8 (b : Int)).toNat : Int) = _
  rw [BitVec.toNat_and, BitVec.toNat_not, h1, h2]
  simp only [IntKind.wrap, IntKind.signed, IntKind.bits]
  simp
  omega

theorem bit_not (b v : Nat) (hb : b < 256) (hv : v < 8) : (255 - b).testBit v = !b.testBit v := by
  have h := Nat.testBit_two_pow_sub_succ (x := b) (n := 8) (by omega) v
  have e : 2 ^ 8 - (b + 1) = 255 - b := by omega
  rw [e] at h
  rw [h, decide_eq_true hv, Bool.true_and]

/-- The numbers of the variables in a set. -/
def numsTo (s k : Nat) : List Int := ((List.range k).filter fun v => s.testBit v).map fun (i : Nat) => (i : Int)
theorem numsTo_succ (s k : Nat) : numsTo s (k + 1) = if s.testBit k then numsTo s k ++ [(k : Int)] else numsTo s k := by
  unfold numsTo
  rw [List.range_succ, List.filter_append, List.map_append]
  cases h : s.testBit k <;> simp [h]
theorem numsTo_length (s k : Nat) : (numsTo s k).length ≤ k := by
  unfold numsTo
  rw [List.length_map]
  exact Nat.le_trans (List.length_filter_le _ _) (by simp)
theorem bits_over (s k : Nat) (h : s / 2 ^ k = 0) (v : Nat) (hv : k ≤ v) : s.testBit v = false := by
  have h2 : s < 2 ^ k := by
    rcases Nat.div_eq_zero_iff.1 h with h0 | h0
    · have := Nat.two_pow_pos k; omega
    · exact h0
  exact Nat.testBit_lt_two_pow (Nat.lt_of_lt_of_le h2 (Nat.pow_le_pow_right (by omega) hv))
theorem nums_end (s k : Nat) (h : s / 2 ^ k = 0) (hk : k ≤ 8) : numsTo s k = numsTo s 8 := by
  have : ∀ d, k + d ≤ 8 → numsTo s (k + d) = numsTo s k := by
    intro d
    induction d with
    | zero => intro _; rfl
    | succ d ih =>
      intro hd
      rw [← Nat.add_assoc, numsTo_succ, bits_over s k h _ (by omega)]
      exact ih (by omega)
  have h8 := this (8 - k) (by omega)
  rw [← h8]; congr 1; omega
theorem low_bit (s k : Nat) : (s / 2 ^ k) % 2 = 1 ↔ s.testBit k = true := by
  rw [Nat.testBit_eq_decide_div_mod_eq, decide_eq_true_eq]

/-- The word s is the set of the variables that the row tells. -/
def Has (s : Nat) (r : List Bool) : Prop := s < 256 ∧ ∀ v, v < 8 → s.testBit v = flag r v

theorem bit_one (k v : Nat) : (2 ^ k).testBit v = decide (k = v) := Nat.testBit_two_pow

/-- The set of node n, whose parts' first j are joined so far. -/
def Some_ (s : Nat) (rows : List (List Bool)) (n : Nd) (j : Nat) : Prop := s < 256 ∧ ∀ v, v < 8 → s.testBit v = ((n.op == 1 && n.k == (v : Int)) || inParts rows ((parts n).take j) v)

theorem some_start_var {rows : List (List Bool)} {n : Nd} {kk : Nat} (h1 : n.op = 1) (hk : n.k = (kk : Int)) (h7 : kk ≤ 7) : Some_ (2 ^ kk) rows n 0 := by
  have e := Nat.pow_le_pow_right (n := 2) (by omega) h7
  refine ⟨by omega, fun v hv => ?_⟩
  rw [bit_one, h1, hk]
  simp only [List.take_zero, inParts, List.any_nil, Bool.or_false]
  rw [Bool.eq_iff_iff]; simp
  omega
theorem some_start {rows : List (List Bool)} {n : Nd} (h1 : (n.op == 1) = false) : Some_ 0 rows n 0 := by
  refine ⟨by omega, fun v hv => ?_⟩
  rw [h1]; simp [inParts]
theorem some_next {s t : Nat} {rows : List (List Bool)} {n : Nd} {j : Nat} (h : Some_ s rows n j) (hj : j < (parts n).length) (ht : Has t (row rows (parts n)[j])) : Some_ (s ||| t) rows n (j + 1) := by
  refine ⟨Nat.or_lt_two_pow (n := 8) h.1 ht.1, fun v hv => ?_⟩
  rw [Nat.testBit_or, h.2 v hv, ht.2 v hv, inParts_take _ _ _ _ hj, Bool.or_assoc]
theorem flag_freeRow (rows : List (List Bool)) (n : Nd) (v : Nat) (hv : v < 8) : flag (freeRow rows n) v = freeAt rows n v := by
  simp [flag, freeRow, List.getD, hv]
theorem some_end {s : Nat} {rows : List (List Bool)} {n : Nd} {j : Nat} (h : Some_ s rows n j) (hj : (parts n).length ≤ j) (hq : (n.op == 19 || n.op == 20) = false) : Has s (freeRow rows n) := by
  refine ⟨h.1, fun v hv => ?_⟩
  rw [h.2 v hv, flag_freeRow _ _ _ hv, List.take_of_length_le hj]
  unfold freeAt
  rw [hq]; simp
theorem some_end_quant {s : Nat} {rows : List (List Bool)} {n : Nd} {j kk : Nat} (h : Some_ s rows n j) (hj : (parts n).length ≤ j) (hq : (n.op == 19 || n.op == 20) = true) (hk : n.k = (kk : Int)) (h7 : kk ≤ 7) : Has (s &&& (255 - 2 ^ kk)) (freeRow rows n) := by
  have e := Nat.pow_le_pow_right (n := 2) (by omega) h7
  refine ⟨Nat.and_lt_two_pow _ (n := 8) (Nat.lt_of_le_of_lt (Nat.sub_le _ _) (by decide)), fun v hv => ?_⟩
  rw [Nat.testBit_and, h.2 v hv, flag_freeRow _ _ _ hv, List.take_of_length_le hj, bit_not _ _ (by omega) hv, bit_one]
  unfold freeAt
  rw [hq, hk]
  by_cases ev : kk = v
  · subst ev; simp
  · have e1 : ((kk : Int) == (v : Int)) = false := by simp; omega
    rw [e1]; simp [ev]
theorem row_old (l : List Nd) (k : Nat) (p : Int) (h0 : 0 ≤ p) (hp : p < k) : row (freeRows l (k + 1)) p = row (freeRows l k) p := by
  unfold row
  show (freeRows l k ++ [_]).getD p.toNat [] = _
  rw [List.getD_eq_getElem?_getD, List.getElem?_append_left (by rw [freeRows_length]; omega), ← List.getD_eq_getElem?_getD]
theorem row_new (l : List Nd) (k : Nat) : row (freeRows l (k + 1)) (k : Int) = freeRow (freeRows l k) (nth l k) := by
  unfold row
  show (freeRows l k ++ [_]).getD k [] = _
  rw [List.getD_eq_getElem?_getD, List.getElem?_append_right (by rw [freeRows_length]; exact Nat.le_refl _), freeRows_length]
  simp

theorem nums_free {l : List Nd} {s : Nat} (h : Has s (freeTop l)) : numsTo s 8 = freeTo l 8 := by
  unfold numsTo freeTo
  congr 1
  apply List.filter_congr
  intro v hv
  exact h.2 v (List.mem_range.1 hv)
theorem set_zero {l : List Nd} {s : Nat} (hT : termOk l = true) (h : Has s (freeTop l)) : s = 0 ↔ (freeL l).length = 0 := by
  have e : freeL l = numsTo s 8 := by unfold freeL; rw [hT, nums_free h]; rfl
  rw [e]
  constructor
  · intro h0; subst h0; simp [numsTo]
  · intro h0
    apply Nat.eq_of_testBit_eq
    intro v
    rw [Nat.zero_testBit]
    by_cases hv : v < 8
    · cases hb : s.testBit v
      · rfl
      · have : (v : Int) ∈ numsTo s 8 := by
          unfold numsTo
          exact List.mem_map.2 ⟨v, List.mem_filter.2 ⟨List.mem_range.2 hv, hb⟩, rfl⟩
        rw [List.eq_nil_of_length_eq_zero h0] at this
        cases this
    · exact Nat.testBit_lt_two_pow (Nat.lt_of_lt_of_le h.1 (Nat.pow_le_pow_right (n := 2) (by omega) (by omega : 8 ≤ v)))

end Go.Proofs.Ytnkkigoeffghdaa.Tm7

/- A quantifier put on a formula: what is free in it, as plain data. -/
namespace Go.Proofs.Ytnkkigoeffghdaa.Tm12
open Nd0 Pl1 Tm0 Tm1 Tm4 Tm7

theorem nth_app_left {l : List Nd} {n : Nd} {i : Nat} (h : i < l.length) : nth (l ++ [n]) i = nth l i := by
  unfold nth
  rw [List.getD_eq_getElem?_getD, List.getElem?_append_left h, ← List.getD_eq_getElem?_getD]
theorem nth_app_last (l : List Nd) (n : Nd) : nth (l ++ [n]) l.length = n := by
  unfold nth
  rw [List.getD_eq_getElem?_getD, List.getElem?_append_right (Nat.le_refl _)]
  simp
theorem nodeOk_app {l : List Nd} {n : Nd} {i : Nat} (hi : i < l.length) (h : nodeOk l i = true) : nodeOk (l ++ [n]) i = true := by
  have hp := parts_ok h
  have e : (parts (nth (l ++ [n]) i)).map (width (l ++ [n])) = (parts (nth l i)).map (width l) := by
    rw [nth_app_left hi]
    apply List.map_congr_left
    intro p hpm
    obtain ⟨j, hj, rfl⟩ := List.getElem_of_mem hpm
    have := hp j hj
    unfold width
    rw [nth_app_left (by omega)]
  simp only [nodeOk] at h ⊢
  rw [e, nth_app_left hi]
  exact h
/-- A right term with a quantifier on its root is right. -/
theorem termOk_quant {l : List Nd} (hT : termOk l = true) (hw : (nth l (l.length - 1)).w = 1) (hl : l.length < 80) {op k b : Int} (hop : op = 19 ∨ op = 20) (hk : 0 ≤ k ∧ k ≤ 7) (hb : 1 ≤ b ∧ b ≤ 8) :
    termOk (l ++ [⟨op, 1, k, (l.length : Int) - 1, b, 0⟩]) = true := by
  obtain ⟨hl1, hl2⟩ := term_len hT
  refine term_good (by simp; omega) (fun i hi => ?_)
  simp at hi
  by_cases e : i < l.length
  · exact nodeOk_app e (term_node hT e)
  · have e2 : i = l.length := by omega
    subst e2
    have hp : parts (nth (l ++ [⟨op, 1, k, (l.length : Int) - 1, b, 0⟩]) l.length) = [(l.length : Int) - 1] := by
      rw [nth_app_last]; exact parts_one (by simp only; omega)
    refine (node_kind (fun j hj => ?_) ?_).trans ?_
    · simp only [hp] at hj ⊢
      simp at hj
      subst hj
      simp; omega
    · rw [nth_app_last]; simp
    · rw [hp]
      have ew : width (l ++ [⟨op, 1, k, (l.length : Int) - 1, b, 0⟩]) ((l.length : Int) - 1) = 1 := by
        unfold width
        have : ((l.length : Int) - 1).toNat = l.length - 1 := by omega
        rw [this, nth_app_left (by omega)]; exact hw
      rw [nth_app_last]
      simp only [List.map_cons, List.map_nil, ew]
      unfold shapeOk
      dsimp only
      rw [if_neg (by omega), if_neg (by omega), if_neg (by omega), if_neg (by omega), if_neg (by omega), if_neg (by omega), if_neg (by omega), if_neg (by omega), if_pos hop]
      simp; omega
theorem freeRows_app (l : List Nd) (n : Nd) : ∀ k, k ≤ l.length → freeRows (l ++ [n]) k = freeRows l k := by
  intro k
  induction k with
  | zero => intro _; rfl
  | succ k ih =>
    intro hk
    show freeRows (l ++ [n]) k ++ [_] = freeRows l k ++ [_]
    rw [ih (by omega), nth_app_left (by omega)]
/-- What is free under the quantifier: all that was, but its own variable. -/
theorem free_quant {l : List Nd} (hT : termOk l = true) (hw : (nth l (l.length - 1)).w = 1) (hl : l.length < 80) {op k b : Int} (hop : op = 19 ∨ op = 20) (hk : 0 ≤ k ∧ k ≤ 7) (hb : 1 ≤ b ∧ b ≤ 8) :
    freeL (l ++ [⟨op, 1, k, (l.length : Int) - 1, b, 0⟩]) = (freeL l).filter (fun x => x != k) := by
  obtain ⟨hl1, hl2⟩ := term_len hT
  have hT2 := termOk_quant hT hw hl hop hk hb
  have et : freeTop (l ++ [⟨op, 1, k, (l.length : Int) - 1, b, 0⟩]) = freeRow (freeRows l l.length) ⟨op, 1, k, (l.length : Int) - 1, b, 0⟩ := by
    unfold freeTop
    have e1 : ((l ++ [(⟨op, 1, k, (l.length : Int) - 1, b, 0⟩ : Nd)]).length : Int) - 1 = (l.length : Int) := by simp
    have e2 : (l ++ [(⟨op, 1, k, (l.length : Int) - 1, b, 0⟩ : Nd)]).length = l.length + 1 := by simp
    rw [e1, e2, row_new, nth_app_last, freeRows_app l _ _ (Nat.le_refl _)]
  have ef : ∀ v, v < 8 → flag (freeTop (l ++ [⟨op, 1, k, (l.length : Int) - 1, b, 0⟩])) v = (flag (freeTop l) v && !(k == (v : Int))) := by
    intro v hv
    rw [et, flag_freeRow _ _ _ hv]
    unfold freeAt
    have hq : ((op == 19) || (op == 20)) = true := by simp; omega
    have h1 : (op == 1) = false := by simp; omega
    have hp : parts (⟨op, 1, k, (l.length : Int) - 1, b, 0⟩ : Nd) = [(l.length : Int) - 1] := parts_one (by simp only; omega)
    dsimp only
    rw [hq, h1, hp]
    have hin : inParts (freeRows l l.length) [(l.length : Int) - 1] v = flag (freeTop l) v := by simp [inParts, freeTop]
    rw [hin]
    cases hkv : (k == (v : Int)) <;> simp
  unfold freeL
  rw [hT, hT2]
  simp only [if_true]
  unfold freeTo
  rw [List.filter_map]
  congr 1
  rw [List.filter_filter]
  apply List.filter_congr
  intro v hv
  rw [ef v (List.mem_range.1 hv)]
  simp only [Function.comp]
  rw [Bool.and_comm]
  congr 1
  cases hkv : (k == (v : Int))
  · have : ¬ k = (v : Int) := by simpa using hkv
    simp; exact fun e => this e.symm
  · have : k = (v : Int) := by simpa using hkv
    simp [this]

end Go.Proofs.Ytnkkigoeffghdaa.Tm12
