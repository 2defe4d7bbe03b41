/- Small texts of mine, one behind the other. -/
import Derived.Test.YtejgcchkhljnjaaGreatRows
import Derived.Test.YtejgcchkhljnjaaGreatPkFO15
import Derived.Test.YtejgcchkhljnjaaGreatPkFO0
import Derived.Test.YtejgcchkhljnjaaGreatPkFO12
import Derived.Test.YtejgcchkhljnjaaGreatPkFO8
import Derived.Test.YtejgcchkhljnjaaGreatPkFO10
import Derived.Test.YtejgcchkhljnjaaGreatPkFO1
/- How many bits a sentence quantifies, as plain data. -/
namespace Go.Proofs.YtejgcchkhljnjaaGreat.Tm11
open Nd0 Pl1 Tm0 Tm1 Tm2 Tm4 Tm5 Tm6 Tm8 Tm9 Tm10

def bitsTo (l : List Nd) : Nat → Int
  | 0 => 0
  | k + 1 => if flag (reachL l) k && quant (nth l k).op then bitsTo l k + (nth l k).b else bitsTo l k
def bitsL (l : List Nd) : Int := if sentB l then bitsTo l l.length else 0
theorem quant_b {l : List Nd} {k : Nat} (h : nodeOk l k = true) (hq : quant (nth l k).op = true) : 1 ≤ (nth l k).b ∧ (nth l k).b ≤ 8 := by
  simp only [nodeOk, Bool.and_eq_true] at h
  have hs := h.2
  unfold shapeOk at hs
  have h2 : (nth l k).op = 19 ∨ (nth l k).op = 20 := by simpa [quant] using hq
  rw [if_neg (by omega), if_neg (by omega), if_neg (by omega), if_neg (by omega), if_neg (by omega), if_neg (by omega), if_neg (by omega), if_neg (by omega), if_pos h2] at hs
  simp at hs; omega
theorem bits_bound {l : List Nd} (hT : termOk l = true) : ∀ k, k ≤ l.length → 0 ≤ bitsTo l k ∧ bitsTo l k ≤ 8 * (k : Int) := by
  intro k
  induction k with
  | zero => intro _; exact ⟨Int.le_refl _, Int.le_refl _⟩
  | succ k ih =>
    intro hk
    have := ih (by omega)
    have e : bitsTo l (k + 1) = if flag (reachL l) k && quant (nth l k).op then bitsTo l k + (nth l k).b else bitsTo l k := rfl
    rw [e]
    split
    · rename_i h
      simp only [Bool.and_eq_true] at h
      have := quant_b (term_node hT (by omega : k < l.length)) h.2
      omega
    · omega
theorem bits_skip (l : List Nd) {x y : Nat} (hxy : x ≤ y) (h : (reachTo l x).length = (reachTo l y).length) : bitsTo l y = bitsTo l x := by
  induction y with
  | zero => have : x = 0 := by omega
            subst this; rfl
  | succ y ih =>
    by_cases e : x = y + 1
    · subst e; rfl
    · have hf : flag (reachL l) y = false := flag_between l h (by omega) (by omega)
      have e1 : bitsTo l (y + 1) = bitsTo l y := by show (if _ then _ else _) = _; rw [hf]; rfl
      rw [e1]
      refine ih (by omega) ?_
      have := reachTo_succ l y
      rw [hf] at this
      rw [h, this]; rfl
theorem bits_same (l : List Nd) {x y : Nat} (h : (reachTo l x).length = (reachTo l y).length) : bitsTo l y = bitsTo l x := by
  rcases Nat.le_total x y with hh | hh
  · exact bits_skip l hh h
  · exact (bits_skip l hh h.symm).symm
end Go.Proofs.YtejgcchkhljnjaaGreat.Tm11

/- What the program's functions of chapter 2 are to do. -/
namespace Go.Proofs.YtejgcchkhljnjaaGreat.Lx1
open Go.RowKit
open Nd0 Nd3 Tm0 Tm1 Tm2 Tm3 Tm4 Tm5 Tm6 Tm11
/-- What the program's TermOk is to do. -/
def ITermOk : Prop := ∀ (w : World) (a : Option Addr) (l : List Nd) (c : Nat), Nodes w a l → l.length ≤ c → l.length ≤ 1048576 →
    Calls Tryz.prog 44 #[.slice a l.length c] w fun e w' => e = .returned (.bool (termOk l)) ∧ Below w.heap.size w w'
end Go.Proofs.YtejgcchkhljnjaaGreat.Lx1
namespace Go.Proofs.YtejgcchkhljnjaaGreat.Lx2
open Go.RowKit
open Nd0 Nd3 Tm0 Tm1 Tm2 Tm3 Tm4 Tm5 Tm6 Tm11
/-- What the program's Reached is to do. -/
def IReached : Prop := ∀ (w : World) (a : Option Addr) (l : List Nd) (c : Nat), Nodes w a l → l.length ≤ c → l.length ≤ 1048576 →
    Calls Tryz.prog 86 #[.slice a l.length c] w fun e w' => (∃ a' c', e = .returned (.slice a' (reachedL l).length c') ∧ WInts w' w.heap.size a' (reachedL l)) ∧ Below w.heap.size w w'
end Go.Proofs.YtejgcchkhljnjaaGreat.Lx2
namespace Go.Proofs.YtejgcchkhljnjaaGreat.Lx3
open Go.RowKit
open Nd0 Nd3 Tm0 Tm1 Tm2 Tm3 Tm4 Tm5 Tm6 Tm11
/-- What the program's Free is to do. -/
def IFree : Prop := ∀ (w : World) (a : Option Addr) (l : List Nd) (c : Nat), Nodes w a l → l.length ≤ c → l.length ≤ 1048576 →
    Calls Tryz.prog 28 #[.slice a l.length c] w fun e w' => (∃ a' c', e = .returned (.slice a' (freeL l).length c') ∧ WInts w' w.heap.size a' (freeL l)) ∧ Below w.heap.size w w'
end Go.Proofs.YtejgcchkhljnjaaGreat.Lx3
namespace Go.Proofs.YtejgcchkhljnjaaGreat.Lx4
open Go.RowKit
open Nd0 Nd3 Tm0 Tm1 Tm2 Tm3 Tm4 Tm5 Tm6 Tm11
/-- What the program's Prune is to do. -/
def IPrune : Prop := ∀ (w : World) (a : Option Addr) (l : List Nd) (c : Nat), Nodes w a l → l.length ≤ c → l.length ≤ 1048576 →
    Calls Tryz.prog 45 #[.slice a l.length c] w fun e w' => (∃ a' c', e = .returned (.slice a' (pruneL l).length c') ∧ WNodes w' w.heap.size a' (pruneL l) ∧ (pruneL l).length ≤ c') ∧ Below w.heap.size w w'
end Go.Proofs.YtejgcchkhljnjaaGreat.Lx4
namespace Go.Proofs.YtejgcchkhljnjaaGreat.Lx6
open Go.RowKit
open Nd0 Nd3 Tm0 Tm1 Tm2 Tm3 Tm4 Tm5 Tm6 Tm11
/-- What the program's Sentence is to do. -/
def ISentence : Prop := ∀ (w : World) (a : Option Addr) (l : List Nd) (c : Nat), Nodes w a l → l.length ≤ c → l.length ≤ 1048576 →
    Calls Tryz.prog 36 #[.slice a l.length c] w fun e w' => e = .returned (.bool (sentB l)) ∧ Below w.heap.size w w'
/-- What the program's Bits is to do. -/
def IBits : Prop := ∀ (w : World) (a : Option Addr) (l : List Nd) (c : Nat), Nodes w a l → l.length ≤ c → l.length ≤ 1048576 →
    Calls Tryz.prog 37 #[.slice a l.length c] w fun e w' => e = .returned (.int .i64 (bitsL l)) ∧ Below w.heap.size w w'
end Go.Proofs.YtejgcchkhljnjaaGreat.Lx6

/- Texts of terms as plain data: numbers in decimal digits, words, the text of a node. -/
namespace Go.Proofs.YtejgcchkhljnjaaGreat.Tx0
open Nd0 Pl1 Tm0 Tm1

end Go.Proofs.YtejgcchkhljnjaaGreat.Tx0

/- The reader of a text is local: what it took it takes again, whatever stands behind; where it fails. -/
namespace Go.Proofs.YtejgcchkhljnjaaGreat.Tx1
open Nd0 Pl1 Tm0 Tm1 Tx0

end Go.Proofs.YtejgcchkhljnjaaGreat.Tx1

/- The text of a node is read as that node, when its parts are. -/
namespace Go.Proofs.YtejgcchkhljnjaaGreat.Tx2
open Nd0 Pl1 Tm0 Tm1 Tm3 Tm8 Tx0 Tx1

end Go.Proofs.YtejgcchkhljnjaaGreat.Tx2

/- Sets of variables as words of bits, as plain data. -/
namespace Go.Proofs.YtejgcchkhljnjaaGreat.Tm7
open Nd0 Pl1 Tm0 Tm1 Tm4
open Go.RowKit

end Go.Proofs.YtejgcchkhljnjaaGreat.Tm7

/- A quantifier put on a formula: what is free in it, as plain data. -/
namespace Go.Proofs.YtejgcchkhljnjaaGreat.Tm12
open Nd0 Pl1 Tm0 Tm1 Tm4 Tm7

end Go.Proofs.YtejgcchkhljnjaaGreat.Tm12

/- What is written of a term is read: as its canonical form, of which the same is written. -/
namespace Go.Proofs.YtejgcchkhljnjaaGreat.Tx3
open Nd0 Pl1 Tm0 Tm1 Tm3 Tm8 Tx0 Tx1 Tx2

end Go.Proofs.YtejgcchkhljnjaaGreat.Tx3

/- Terms as trees: what a node is with all that lies below it. -/
namespace Go.Proofs.YtejgcchkhljnjaaGreat.Tr0
open Nd0 Pl1 Tm0 Tm1 Tm3 Tm8 Tx0 Tx1 Tx2 Tx3

inductive Tr where
  | leaf (op w k : Int)
  | one (op w k b : Int) (x : Tr)
  | two (op w : Int) (x y : Tr)
  | three (op w : Int) (x y z : Tr)
def Tr.nil : Tr := .leaf 0 0 0
def Tr.op : Tr → Int
  | .leaf o _ _ => o
  | .one o _ _ _ _ => o
  | .two o _ _ _ => o
  | .three o _ _ _ _ => o
def Tr.wid : Tr → Int
  | .leaf _ w _ => w
  | .one _ w _ _ _ => w
  | .two _ w _ _ => w
  | .three _ w _ _ _ => w
def mkF (n : Nd) (f : Nat → Tr) : Tr :=
  if n.op = 2 ∨ n.op = 17 ∨ n.op = 19 ∨ n.op = 20 then .one n.op n.w n.k n.b (f n.a.toNat)
  else if 3 ≤ n.op ∧ n.op ≤ 16 then .two n.op n.w (f n.a.toNat) (f n.b.toNat)
  else if n.op = 18 then .three n.op n.w (f n.a.toNat) (f n.b.toNat) (f n.c.toNat)
  else .leaf n.op n.w n.k
def trTo (l : List Nd) : Nat → List Tr
  | 0 => []
  | k + 1 => trTo l k ++ [mkF (nth l k) fun i => (trTo l k).getD i Tr.nil]
def tr (l : List Nd) (i : Nat) : Tr := (trTo l l.length).getD i Tr.nil

theorem mk_one {n : Nd} (h : n.op = 2 ∨ n.op = 17 ∨ n.op = 19 ∨ n.op = 20) (f : Nat → Tr) : mkF n f = .one n.op n.w n.k n.b (f n.a.toNat) := if_pos h
theorem mk_two {n : Nd} (h : 3 ≤ n.op ∧ n.op ≤ 16) (f : Nat → Tr) : mkF n f = .two n.op n.w (f n.a.toNat) (f n.b.toNat) := by unfold mkF; rw [if_neg (by omega), if_pos h]
theorem mk_three {n : Nd} (h : n.op = 18) (f : Nat → Tr) : mkF n f = .three n.op n.w (f n.a.toNat) (f n.b.toNat) (f n.c.toNat) := by unfold mkF; rw [if_neg (by omega), if_neg (by omega), if_pos h]
theorem mk_leaf {n : Nd} (h : ¬ (n.op = 2 ∨ n.op = 17 ∨ n.op = 19 ∨ n.op = 20)) (h2 : ¬ (3 ≤ n.op ∧ n.op ≤ 16)) (h3 : ¬ n.op = 18) (f : Nat → Tr) : mkF n f = .leaf n.op n.w n.k := by unfold mkF; rw [if_neg h, if_neg h2, if_neg h3]
theorem mk_wid (n : Nd) (f : Nat → Tr) : (mkF n f).wid = n.w := by
  unfold mkF
  split
  · rfl
  · split
    · rfl
    · split <;> rfl
theorem mk_congr {n : Nd} {f g : Nat → Tr} (h : ∀ p ∈ parts n, f p.toNat = g p.toNat) : mkF n f = mkF n g := by
  by_cases h1 : n.op = 2 ∨ n.op = 17 ∨ n.op = 19 ∨ n.op = 20
  · rw [parts_one h1] at h
    rw [mk_one h1, mk_one h1, h n.a (by simp)]
  · by_cases h2 : 3 ≤ n.op ∧ n.op ≤ 16
    · rw [parts_two h2] at h
      rw [mk_two h2, mk_two h2, h n.a (by simp), h n.b (by simp)]
    · by_cases h3 : n.op = 18
      · rw [parts_three h3] at h
        rw [mk_three h3, mk_three h3, h n.a (by simp), h n.b (by simp), h n.c (by simp)]
      · rw [mk_leaf h1 h2 h3, mk_leaf h1 h2 h3]
theorem trTo_length (l : List Nd) (k : Nat) : (trTo l k).length = k := by
  induction k with
  | zero => rfl
  | succ k ih => show (trTo l k ++ [_]).length = _; rw [List.length_append, ih]; rfl
theorem tr_prefix (l : List Nd) {i k : Nat} (hi : i < k) : ∀ n, k ≤ n → (trTo l n).getD i Tr.nil = (trTo l k).getD i Tr.nil := by
  intro n hn
  obtain ⟨d, rfl⟩ : ∃ d, n = k + d := ⟨n - k, by omega⟩
  clear hn
  induction d with
  | zero => rfl
  | succ d ih =>
    rw [← ih]
    show (trTo l (k + d) ++ [_]).getD i Tr.nil = _
    rw [List.getD_eq_getElem?_getD, List.getElem?_append_left (by rw [trTo_length]; omega), ← List.getD_eq_getElem?_getD]
theorem tr_at {l : List Nd} (hD : Down l) {i : Nat} (hi : i < l.length) : tr l i = mkF (nth l i) (tr l) := by
  unfold tr
  rw [tr_prefix l (k := i + 1) (by omega) l.length (by omega)]
  show (trTo l i ++ [mkF (nth l i) fun j => (trTo l i).getD j Tr.nil]).getD i Tr.nil = _
  rw [List.getD_eq_getElem?_getD, List.getElem?_append_right (by rw [trTo_length]; exact Nat.le_refl _), trTo_length, Nat.sub_self]
  show mkF (nth l i) (fun j => (trTo l i).getD j Tr.nil) = _
  refine mk_congr (fun p hp => ?_)
  have := hD i hi p hp
  exact (tr_prefix l (i := p.toNat) (k := i) (by omega) l.length (by omega)).symm
end Go.Proofs.YtejgcchkhljnjaaGreat.Tr0

/- Plain laws of words: what the laws of chapter 1 ask of the numbers. -/
namespace Go.Proofs.YtejgcchkhljnjaaGreat.Pl2
open Go.RowKit
open Pl1

theorem wok_mod {m : Int} (x : Int) (h1 : 1 ≤ m) (h2 : m ≤ 8) : wok m (x % p2 m.toNat) = true :=
  wok_iff.2 ⟨h1, h2, emod_le _⟩
theorem add_eq {m a b : Int} (ha : wok m a = true) (hb : wok m b = true) : vAdd m a b = (a + b) % p2 m.toNat := by simp [vAdd, ha, hb]
theorem sub_eq {m a b : Int} (ha : wok m a = true) (hb : wok m b = true) : vSub m a b = (a - b) % p2 m.toNat := by simp [vSub, ha, hb]
theorem mul_eq {m a b : Int} (ha : wok m a = true) (hb : wok m b = true) : vMul m a b = a * b % p2 m.toNat := by simp [vMul, ha, hb]
theorem flip_eq {m a : Int} (ha : wok m a = true) : vFlip m a = p2 m.toNat - 1 - a := by simp [vFlip, ha]
theorem wok_add {m a b : Int} (ha : wok m a = true) (hb : wok m b = true) : wok m (vAdd m a b) = true := by
  obtain ⟨h1, h2, _⟩ := wok_iff.1 ha
  rw [add_eq ha hb]; exact wok_mod _ h1 h2
theorem wok_sub {m a b : Int} (ha : wok m a = true) (hb : wok m b = true) : wok m (vSub m a b) = true := by
  obtain ⟨h1, h2, _⟩ := wok_iff.1 ha
  rw [sub_eq ha hb]; exact wok_mod _ h1 h2
theorem wok_mul {m a b : Int} (ha : wok m a = true) (hb : wok m b = true) : wok m (vMul m a b) = true := by
  obtain ⟨h1, h2, _⟩ := wok_iff.1 ha
  rw [mul_eq ha hb]; exact wok_mod _ h1 h2
theorem wok_flip {m a : Int} (ha : wok m a = true) : wok m (vFlip m a) = true := by
  obtain ⟨h1, h2, h3, h4⟩ := wok_iff.1 ha
  rw [flip_eq ha]; exact wok_iff.2 ⟨h1, h2, by omega, by omega⟩

theorem wok_zero {m : Int} (h1 : 1 ≤ m) (h2 : m ≤ 8) : wok m 0 = true := wok_iff.2 ⟨h1, h2, by omega, by have := p2_pos m.toNat; omega⟩
end Go.Proofs.YtejgcchkhljnjaaGreat.Pl2

/- A term without what its root does not reach: it is right, all of it is reached, and it is pruned already, as plain data. -/
namespace Go.Proofs.YtejgcchkhljnjaaGreat.Tm13
open Nd0 Pl1 Tm0 Tm1 Tm2 Tm3 Tm4 Tm5 Tm6 Tm8 Tm9 Tm10

def pl (l : List Nd) (x : Nat) : Nat := (reachTo l x).length
theorem plc_pl (l : List Nd) (x : Nat) : plc l (x : Int) = (pl l x : Int) := by simp [plc, pl]
theorem pl_succ (l : List Nd) (x : Nat) : pl l (x + 1) = if flag (reachL l) x then pl l x + 1 else pl l x := by
  unfold pl; rw [reachTo_succ]; split
  · simp
  · rfl
theorem prune_ok {l : List Nd} (hT : termOk l = true) : pruneL l = pruneTo l l.length := by unfold pruneL; rw [hT]; rfl
theorem prune_len {l : List Nd} (hT : termOk l = true) : (pruneL l).length = pl l l.length := by rw [prune_ok hT, pruneTo_length]; rfl
theorem pruneTo_nth (l : List Nd) {x : Nat} (hf : flag (reachL l) x = true) : ∀ k, x < k → nth (pruneTo l k) (pl l x) = remap l (nth l x) := by
  intro k
  induction k with
  | zero => intro h; omega
  | succ k ih =>
    intro h
    by_cases e : x = k
    · subst e
      rw [pruneTo_succ, hf, if_pos rfl]
      unfold nth pl
      rw [List.getD_eq_getElem?_getD, List.getElem?_append_right (by rw [pruneTo_length]; exact Nat.le_refl _), pruneTo_length]
      simp
    · have h1 := ih (by omega)
      rw [pruneTo_succ]
      split
      · rw [← h1]
        unfold nth
        rw [List.getD_eq_getElem?_getD, List.getElem?_append_left (by rw [pruneTo_length]; exact reachTo_lt l (by omega) hf), ← List.getD_eq_getElem?_getD]
      · exact h1
theorem prune_nth {l : List Nd} (hT : termOk l = true) {x : Nat} (hx : x < l.length) (hf : flag (reachL l) x = true) : nth (pruneL l) (pl l x) = remap l (nth l x) := by
  rw [prune_ok hT]; exact pruneTo_nth l hf _ hx
theorem pl_lt {l : List Nd} (hT : termOk l = true) {x : Nat} (hx : x < l.length) (hf : flag (reachL l) x = true) : pl l x < (pruneL l).length := by
  rw [prune_len hT]; exact reachTo_lt l hx hf
theorem pl_all {l : List Nd} (hT : termOk l = true) {j : Nat} (hj : j < (pruneL l).length) : ∃ x, x < l.length ∧ flag (reachL l) x = true ∧ pl l x = j := by
  rw [prune_len hT] at hj
  obtain ⟨x, _, h2, h3, h4⟩ := reach_at l l.length j hj
  exact ⟨x, h2, h3, h4⟩
theorem parts_remap (l : List Nd) (n : Nd) : parts (remap l n) = (parts n).map (plc l) := by
  rcases parts_cases n with h | h | h | h
  · have e : remap l n = n := by unfold remap; rw [h]; rfl
    rw [e, h]; rfl
  · have h0 := h
    have e : remap l n = ⟨n.op, n.w, n.k, plc l n.a, n.b, n.c⟩ := by unfold remap; rw [h]; rfl
    rw [e, h]
    have : n.op = 2 ∨ n.op = 17 ∨ n.op = 19 ∨ n.op = 20 := by
      unfold parts at h0
      split at h0
      · assumption
      · split at h0
        · simp at h0
        · split at h0 <;> simp at h0
    exact parts_one (n := ⟨n.op, n.w, n.k, plc l n.a, n.b, n.c⟩) this
  · have h0 := h
    have e : remap l n = ⟨n.op, n.w, n.k, plc l n.a, plc l n.b, n.c⟩ := by unfold remap; rw [h]; rfl
    rw [e, h]
    have : 3 ≤ n.op ∧ n.op ≤ 16 := by
      unfold parts at h0
      split at h0
      · simp at h0
      · split at h0
        · assumption
        · split at h0 <;> simp at h0
    exact parts_two (n := ⟨n.op, n.w, n.k, plc l n.a, plc l n.b, n.c⟩) this
  · have h0 := h
    have e : remap l n = ⟨n.op, n.w, n.k, plc l n.a, plc l n.b, plc l n.c⟩ := by unfold remap; rw [h]; rfl
    rw [e, h]
    have : n.op = 18 := by
      unfold parts at h0
      split at h0
      · simp at h0
      · split at h0
        · simp at h0
        · split at h0
          · assumption
          · simp at h0
    exact parts_three (n := ⟨n.op, n.w, n.k, plc l n.a, plc l n.b, plc l n.c⟩) this
theorem remap_op (l : List Nd) (n : Nd) : (remap l n).op = n.op := rfl
theorem remap_k (l : List Nd) (n : Nd) : (remap l n).k = n.k := rfl
theorem shape_remap (l : List Nd) (n : Nd) (ws : List Int) : shapeOk (remap l n) ws = shapeOk n ws := by
  obtain ⟨op, w, k, a, b, c⟩ := n
  by_cases h1 : op = 2 ∨ op = 17 ∨ op = 19 ∨ op = 20
  · have e : remap l ⟨op, w, k, a, b, c⟩ = ⟨op, w, k, plc l a, b, c⟩ := by unfold remap; rw [parts_one h1]; rfl
    rw [e]
    unfold shapeOk
    dsimp only
    rcases h1 with h | h | h | h <;> subst h <;> rfl
  · by_cases h2 : 3 ≤ op ∧ op ≤ 16
    · have e : remap l ⟨op, w, k, a, b, c⟩ = ⟨op, w, k, plc l a, plc l b, c⟩ := by unfold remap; rw [parts_two h2]; rfl
      rw [e]
      unfold shapeOk
      dsimp only
      have n0 : ¬ op = 0 := by omega
      have n1 : ¬ op = 1 := by omega
      have n2 : ¬ op = 2 := by omega
      have n3 : ¬ op = 17 := by omega
      have n4 : ¬ op = 18 := by omega
      have n5 : ¬ (op = 19 ∨ op = 20) := by omega
      simp only [if_neg n0, if_neg n1, if_neg n2, if_neg n3, if_neg n4, if_neg n5]
    · by_cases h3 : op = 18
      · subst h3
        have e : remap l ⟨18, w, k, a, b, c⟩ = ⟨18, w, k, plc l a, plc l b, plc l c⟩ := by unfold remap; rw [parts_three rfl]; rfl
        rw [e]; rfl
      · have e : remap l ⟨op, w, k, a, b, c⟩ = ⟨op, w, k, a, b, c⟩ := by unfold remap; rw [parts_none h1 h2 h3]; rfl
        rw [e]
theorem part_reached {l : List Nd} (hT : termOk l = true) {x : Nat} (hx : x < l.length) (hf : flag (reachL l) x = true) {p : Int} (hp : p ∈ parts (nth l x)) :
    ∃ y : Nat, p = (y : Int) ∧ y < x ∧ flag (reachL l) y = true ∧ plc l p = (pl l y : Int) := by
  have hd := down_of hT x hx p hp
  have hr := reach_closed (down_of hT) hx hf hp
  refine ⟨p.toNat, by omega, by omega, hr, ?_⟩
  rw [← plc_pl]; congr 1; omega
theorem prune_node {l : List Nd} (hT : termOk l = true) {x : Nat} (hx : x < l.length) (hf : flag (reachL l) x = true) : nodeOk (pruneL l) (pl l x) = true := by
  have hn := prune_nth hT hx hf
  have hk := term_node hT hx
  have e : (parts (nth (pruneL l) (pl l x))).map (width (pruneL l)) = (parts (nth l x)).map (width l) := by
    rw [hn, parts_remap, List.map_map]
    apply List.map_congr_left
    intro p hp
    obtain ⟨y, rfl, hyx, hy, hpl⟩ := part_reached hT hx hf hp
    simp only [Function.comp, width]
    rw [hpl, Int.toNat_natCast, prune_nth hT (by omega) hy, Int.toNat_natCast]
    rfl
  simp only [nodeOk, Bool.and_eq_true, List.all_eq_true, decide_eq_true_eq] at hk ⊢
  rw [e]
  refine ⟨⟨?_, ?_⟩, ?_⟩
  · intro q hq
    rw [hn, parts_remap] at hq
    obtain ⟨p, hp, rfl⟩ := List.mem_map.1 hq
    obtain ⟨y, rfl, hyx, hy, hpl⟩ := part_reached hT hx hf hp
    have := reachTo_lt l hyx hy
    rw [hpl]
    unfold pl
    omega
  · rw [hn]; exact hk.1.2
  · rw [hn, shape_remap]; exact hk.2
theorem prune_root {l : List Nd} (hT : termOk l = true) : pl l (l.length - 1) = (pruneL l).length - 1 ∧ 1 ≤ (pruneL l).length := by
  have hl := term_len hT
  have hr := reach_root (l := l) hl.1
  have h1 := pl_succ l (l.length - 1)
  rw [hr, if_pos rfl] at h1
  have e : l.length - 1 + 1 = l.length := by omega
  rw [e] at h1
  rw [prune_len hT]
  omega
theorem prune_term {l : List Nd} (hT : termOk l = true) : termOk (pruneL l) = true := by
  have hl := term_len hT
  have h1 := (prune_root hT).2
  have h2 := pruneL_le l
  refine term_good ⟨h1, by omega⟩ (fun j hj => ?_)
  obtain ⟨x, hx, hf, rfl⟩ := pl_all hT hj
  exact prune_node hT hx hf
theorem prune_reach_at {l : List Nd} (hT : termOk l = true) : ∀ d x, l.length = x + 1 + d → flag (reachL l) x = true → flag (reachL (pruneL l)) (pl l x) = true := by
  intro d
  induction d using Nat.strongRecOn with
  | ind d ih =>
    intro x hd hf
    rcases reach_why (down_of hT) (by omega) hf with h | ⟨j, h1, h2, h3, h4⟩
    · have hr := prune_root hT
      have e : x = l.length - 1 := by omega
      rw [e, hr.1]
      exact reach_root hr.2
    · have hj := ih (l.length - j - 1) (by omega) j (by omega) h3
      have hp : (pl l x : Int) ∈ parts (nth (pruneL l) (pl l j)) := by
        rw [prune_nth hT h2 h3, parts_remap, ← plc_pl]
        exact List.mem_map_of_mem h4
      have := reach_closed (down_of (prune_term hT)) (pl_lt hT h2 h3) hj hp
      rw [Int.toNat_natCast] at this
      exact this
theorem prune_reach {l : List Nd} (hT : termOk l = true) {j : Nat} (hj : j < (pruneL l).length) : flag (reachL (pruneL l)) j = true := by
  obtain ⟨x, hx, hf, rfl⟩ := pl_all hT hj
  exact prune_reach_at hT (l.length - x - 1) x (by omega) hf
theorem reachTo_full {m : List Nd} (h : ∀ j, j < m.length → flag (reachL m) j = true) : ∀ k, k ≤ m.length → reachTo m k = (List.range k).map fun (i : Nat) => (i : Int) := by
  intro k hk
  unfold reachTo
  congr 1
  rw [List.filter_eq_self]
  intro j hj
  exact h j (by have := List.mem_range.1 hj; omega)
theorem remap_self {m : List Nd} (hM : termOk m = true) (h : ∀ j, j < m.length → flag (reachL m) j = true) {i : Nat} (hi : i < m.length) : remap m (nth m i) = nth m i := by
  have hp : ∀ p ∈ parts (nth m i), plc m p = p := by
    intro p hp
    have hd := down_of hM i hi p hp
    unfold plc
    rw [reachTo_full h _ (by omega)]
    simp; omega
  unfold remap
  rcases parts_cases (nth m i) with e | e | e | e
  · rw [e]; rfl
  · rw [e] at hp ⊢
    have := hp (nth m i).a (by simp)
    simp [this]
  · rw [e] at hp ⊢
    have h1 := hp (nth m i).a (by simp)
    have h2 := hp (nth m i).b (by simp)
    simp [h1, h2]
  · rw [e] at hp ⊢
    have h1 := hp (nth m i).a (by simp)
    have h2 := hp (nth m i).b (by simp)
    have h3 := hp (nth m i).c (by simp)
    simp [h1, h2, h3]
theorem map_nth (m : List Nd) : (List.range m.length).map (nth m) = m := by
  apply List.ext_getElem
  · simp
  · intro i h1 h2
    simp only [List.getElem_map, List.getElem_range]
    exact (nth_get h2).symm
theorem prune_prune {l : List Nd} (hT : termOk l = true) : pruneL (pruneL l) = pruneL l := by
  have hM := prune_term hT
  rw [prune_ok hM, prune_map, reachTo_full (fun j hj => prune_reach hT hj) _ (Nat.le_refl _), List.map_map]
  refine Eq.trans ?_ (map_nth (pruneL l))
  apply List.map_congr_left
  intro i hi
  simp only [Function.comp, Int.toNat_natCast]
  exact remap_self hM (fun j hj => prune_reach hT hj) (List.mem_range.1 hi)
end Go.Proofs.YtejgcchkhljnjaaGreat.Tm13

/- A pruned term has the same free variables, is a sentence just when the term was, and has its bits, as plain data. -/
namespace Go.Proofs.YtejgcchkhljnjaaGreat.Tm14
open Nd0 Pl1 Tm0 Tm1 Tm2 Tm3 Tm4 Tm5 Tm6 Tm8 Tm9 Tm10 Tm11 Tm13 Rw1

theorem remap_b_quant (l : List Nd) (n : Nd) (h : quant n.op = true) : (remap l n).b = n.b := by
  have h2 : n.op = 19 ∨ n.op = 20 := by simpa [quant] using h
  unfold remap
  rw [parts_one (by omega)]; rfl
theorem quants_pl {l : List Nd} (hT : termOk l = true) : ∀ x, x ≤ l.length → quantsTo (pruneL l) (pl l x) = quantsTo l x := by
  intro x
  induction x with
  | zero => intro _; rfl
  | succ x ih =>
    intro hx
    rw [pl_succ]
    cases hf : flag (reachL l) x
    · rw [quants_skip1 l x hf]; exact ih (by omega)
    · rw [if_pos rfl]
      show (quantsTo (pruneL l) (pl l x)).bind _ = (quantsTo l x).bind _
      rw [ih (by omega)]
      congr 1
      funext ws
      unfold qStep
      rw [prune_reach hT (pl_lt hT (by omega) hf), hf, prune_nth hT (by omega) hf, remap_op, remap_k]
      cases hq : quant (nth l x).op
      · rfl
      · rw [remap_b_quant l _ hq]
theorem bits_pl {l : List Nd} (hT : termOk l = true) : ∀ x, x ≤ l.length → bitsTo (pruneL l) (pl l x) = bitsTo l x := by
  intro x
  induction x with
  | zero => intro _; rfl
  | succ x ih =>
    intro hx
    rw [pl_succ]
    have e : bitsTo l (x + 1) = if flag (reachL l) x && quant (nth l x).op then bitsTo l x + (nth l x).b else bitsTo l x := rfl
    cases hf : flag (reachL l) x
    · rw [e, hf]; exact ih (by omega)
    · rw [if_pos rfl, e]
      show (if flag (reachL (pruneL l)) (pl l x) && quant (nth (pruneL l) (pl l x)).op then bitsTo (pruneL l) (pl l x) + (nth (pruneL l) (pl l x)).b else bitsTo (pruneL l) (pl l x)) = _
      rw [prune_reach hT (pl_lt hT (by omega) hf), hf, prune_nth hT (by omega) hf, remap_op, ih (by omega)]
      cases hq : quant (nth l x).op
      · rfl
      · rw [remap_b_quant l _ hq]
end Go.Proofs.YtejgcchkhljnjaaGreat.Tm14
