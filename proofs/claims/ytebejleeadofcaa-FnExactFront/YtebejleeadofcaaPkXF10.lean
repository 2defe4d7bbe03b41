/- Small texts of mine, one behind the other. -/
import Derived.Test.YtebejleeadofcaaRows
import Derived.Deep.AppendLies
import Derived.OwnWalk
import Derived.Test.YtebejleeadofcaaTx3
import Derived.Test.YtebejleeadofcaaPkXF2
import Derived.Test.YtebejleeadofcaaNd0
/- Terms as trees: what a node is with all that lies below it. -/
namespace Go.Proofs.Ytebejleeadofcaa.Tr0
open Nd0 Pl1 Tm0 Tm1 Tm3 Tm8 Tx0 Tx1 Tx2 Tx3

inductive Tr where
  | leaf (op w k : Int)
  | one (op w k b : Int) (x : Tr)
  | two (op w : Int) (x y : Tr)
  | three (op w : Int) (x y z : Tr)
def Tr.nil : Tr := .leaf 0 0 0
def Tr.op : Tr → Int
  | .leaf o _ _ => o
  | .one o _ _ _ _ => o
  | .two o _ _ _ => o
  | .three o _ _ _ _ => o
def Tr.wid : Tr → Int
  | .leaf _ w _ => w
  | .one _ w _ _ _ => w
  | .two _ w _ _ => w
  | .three _ w _ _ _ => w
/-- A node over the trees of its parts. -/
def mkF (n : Nd) (f : Nat → Tr) : Tr :=
  if n.op = 2 ∨ n.op = 17 ∨ n.op = 19 ∨ n.op = 20 then .one n.op n.w n.k n.b (f n.a.toNat)
  else if 3 ≤ n.op ∧ n.op ≤ 16 then .two n.op n.w (f n.a.toNat) (f n.b.toNat)
  else if n.op = 18 then .three n.op n.w (f n.a.toNat) (f n.b.toNat) (f n.c.toNat)
  else .leaf n.op n.w n.k
def trTo (l : List Nd) : Nat → List Tr
  | 0 => []
  | k + 1 => trTo l k ++ [mkF (nth l k) fun i => (trTo l k).getD i Tr.nil]
/-- The tree of node i. -/
def tr (l : List Nd) (i : Nat) : Tr := (trTo l l.length).getD i Tr.nil

theorem mk_one {n : Nd} (h : n.op = 2 ∨ n.op = 17 ∨ n.op = 19 ∨ n.op = 20) (f : Nat → Tr) : mkF n f = .one n.op n.w n.k n.b (f n.a.toNat) := if_pos h
theorem mk_two {n : Nd} (h : 3 ≤ n.op ∧ n.op ≤ 16) (f : Nat → Tr) : mkF n f = .two n.op n.w (f n.a.toNat) (f n.b.toNat) := by unfold mkF; rw [if_neg (by omega), if_pos h]
theorem mk_three {n : Nd} (h : n.op = 18) (f : Nat → Tr) : mkF n f = .three n.op n.w (f n.a.toNat) (f n.b.toNat) (f n.c.toNat) := by unfold mkF; rw [if_neg (by omega), if_neg (by omega), if_pos h]
theorem mk_leaf {n : Nd} (h : ¬ (n.op = 2 ∨ n.op = 17 ∨ n.op = 19 ∨ n.op = 20)) (h2 : ¬ (3 ≤ n.op ∧ n.op ≤ 16)) (h3 : ¬ n.op = 18) (f : Nat → Tr) : mkF n f = .leaf n.op n.w n.k := by unfold mkF; rw [if_neg h, if_neg h2, if_neg h3]
theorem mk_op (n : Nd) (f : Nat → Tr) : (mkF n f).op = n.op := by
  unfold mkF
  split
  · rfl
  · split
    · rfl
    · split <;> rfl
theorem mk_wid (n : Nd) (f : Nat → Tr) : (mkF n f).wid = n.w := by
  unfold mkF
  split
  · rfl
  · split
    · rfl
    · split <;> rfl
theorem mk_congr {n : Nd} {f g : Nat → Tr} (h : ∀ p ∈ parts n, f p.toNat = g p.toNat) : mkF n f = mkF n g := by
  by_cases h1 : n.op = 2 ∨ n.op = 17 ∨ n.op = 19 ∨ n.op = 20
  · rw [parts_one h1] at h
    rw [mk_one h1, mk_one h1, h n.a (by simp)]
  · by_cases h2 : 3 ≤ n.op ∧ n.op ≤ 16
    · rw [parts_two h2] at h
      rw [mk_two h2, mk_two h2, h n.a (by simp), h n.b (by simp)]
    · by_cases h3 : n.op = 18
      · rw [parts_three h3] at h
        rw [mk_three h3, mk_three h3, h n.a (by simp), h n.b (by simp), h n.c (by simp)]
      · rw [mk_leaf h1 h2 h3, mk_leaf h1 h2 h3]
/-- The same node with other places for its parts. -/
theorem mk_parts {n : Nd} {is : List Nat} {f g : Nat → Tr} (hl : is.length = (parts n).length) (h : is.map f = (parts n).map (fun p => g p.toNat)) : mkF (reparts n is) f = mkF n g := by
  obtain ⟨op, w, k, a, b, c⟩ := n
  by_cases h1 : op = 2 ∨ op = 17 ∨ op = 19 ∨ op = 20
  · rw [parts_one h1] at hl h
    match is, hl, h with
    | [i], _, h =>
      simp only [List.map_cons, List.map_nil, List.cons.injEq, and_true] at h
      rw [mk_one (n := reparts ⟨op, w, k, a, b, c⟩ [i]) (by exact h1), mk_one (by exact h1), ← h]
      rfl
  · by_cases h2 : 3 ≤ op ∧ op ≤ 16
    · rw [parts_two h2] at hl h
      match is, hl, h with
      | [i, j], _, h =>
        simp only [List.map_cons, List.map_nil, List.cons.injEq, and_true] at h
        rw [mk_two (n := reparts ⟨op, w, k, a, b, c⟩ [i, j]) (by exact h2), mk_two (by exact h2), ← h.1, ← h.2]
        rfl
    · by_cases h3 : op = 18
      · rw [parts_three h3] at hl h
        match is, hl, h with
        | [i, j, m], _, h =>
          simp only [List.map_cons, List.map_nil, List.cons.injEq, and_true] at h
          rw [mk_three (n := reparts ⟨op, w, k, a, b, c⟩ [i, j, m]) (by exact h3), mk_three (by exact h3), ← h.1, ← h.2.1, ← h.2.2]
          rfl
      · rw [mk_leaf (n := reparts ⟨op, w, k, a, b, c⟩ is) (by exact h1) (by exact h2) (by exact h3), mk_leaf (by exact h1) (by exact h2) (by exact h3)]
        rfl
theorem trTo_length (l : List Nd) (k : Nat) : (trTo l k).length = k := by
  induction k with
  | zero => rfl
  | succ k ih => show (trTo l k ++ [_]).length = _; rw [List.length_append, ih]; rfl
theorem tr_prefix (l : List Nd) {i k : Nat} (hi : i < k) : ∀ n, k ≤ n → (trTo l n).getD i Tr.nil = (trTo l k).getD i Tr.nil := by
  intro n hn
  obtain ⟨d, rfl⟩ : ∃ d, n = k + d := ⟨n - k, by omega⟩
  clear hn
  induction d with
  | zero => rfl
  | succ d ih =>
    rw [← ih]
    show (trTo l (k + d) ++ [_]).getD i Tr.nil = _
    rw [List.getD_eq_getElem?_getD, List.getElem?_append_left (by rw [trTo_length]; omega), ← List.getD_eq_getElem?_getD]
theorem tr_at {l : List Nd} (hD : Down l) {i : Nat} (hi : i < l.length) : tr l i = mkF (nth l i) (tr l) := by
  unfold tr
  rw [tr_prefix l (k := i + 1) (by omega) l.length (by omega)]
  show (trTo l i ++ [mkF (nth l i) fun j => (trTo l i).getD j Tr.nil]).getD i Tr.nil = _
  rw [List.getD_eq_getElem?_getD, List.getElem?_append_right (by rw [trTo_length]; exact Nat.le_refl _), trTo_length, Nat.sub_self]
  show mkF (nth l i) (fun j => (trTo l i).getD j Tr.nil) = _
  refine mk_congr (fun p hp => ?_)
  have := hD i hi p hp
  exact (tr_prefix l (i := p.toNat) (k := i) (by omega) l.length (by omega)).symm
theorem trTo_app (t m : List Nd) : ∀ k, k ≤ t.length → trTo (t ++ m) k = trTo t k := by
  intro k
  induction k with
  | zero => intro _; rfl
  | succ k ih =>
    intro hk
    show trTo (t ++ m) k ++ [_] = trTo t k ++ [_]
    rw [ih (by omega), nth_app (by omega)]
theorem tr_app (t m : List Nd) {j : Nat} (h : j < t.length) : tr (t ++ m) j = tr t j := by
  unfold tr
  rw [tr_prefix (t ++ m) (k := t.length) h (t ++ m).length (by simp), trTo_app t m _ (Nat.le_refl _)]
theorem tr_same {l T : List Nd} (hD : Down l) (hT : Down T) {i j : Nat} (hi : i < l.length) (hj : j < T.length) {is : List Nat} (hl : is.length = (parts (nth l i)).length)
    (hn : nth T j = reparts (nth l i) is) (hx : is.map (tr T) = (parts (nth l i)).map (fun p => tr l p.toNat)) : tr T j = tr l i := by
  rw [tr_at hD hi, tr_at hT hj, hn]
  exact mk_parts hl hx

end Go.Proofs.Ytebejleeadofcaa.Tr0

/- Plain laws of words: what the laws of chapter 1 ask of the numbers. -/
namespace Go.Proofs.Ytebejleeadofcaa.Pl2
open Go.RowKit
open Pl1

theorem wok_mod {m : Int} (x : Int) (h1 : 1 ≤ m) (h2 : m ≤ 8) : wok m (x % p2 m.toNat) = true :=
  wok_iff.2 ⟨h1, h2, emod_le _⟩
theorem add_eq {m a b : Int} (ha : wok m a = true) (hb : wok m b = true) : vAdd m a b = (a + b) % p2 m.toNat := by simp [vAdd, ha, hb]
theorem sub_eq {m a b : Int} (ha : wok m a = true) (hb : wok m b = true) : vSub m a b = (a - b) % p2 m.toNat := by simp [vSub, ha, hb]
theorem mul_eq {m a b : Int} (ha : wok m a = true) (hb : wok m b = true) : vMul m a b = a * b % p2 m.toNat := by simp [vMul, ha, hb]
theorem flip_eq {m a : Int} (ha : wok m a = true) : vFlip m a = p2 m.toNat - 1 - a := by simp [vFlip, ha]
theorem wok_add {m a b : Int} (ha : wok m a = true) (hb : wok m b = true) : wok m (vAdd m a b) = true := by
  obtain ⟨h1, h2, _⟩ := wok_iff.1 ha
  rw [add_eq ha hb]; exact wok_mod _ h1 h2
theorem wok_sub {m a b : Int} (ha : wok m a = true) (hb : wok m b = true) : wok m (vSub m a b) = true := by
  obtain ⟨h1, h2, _⟩ := wok_iff.1 ha
  rw [sub_eq ha hb]; exact wok_mod _ h1 h2
theorem wok_mul {m a b : Int} (ha : wok m a = true) (hb : wok m b = true) : wok m (vMul m a b) = true := by
  obtain ⟨h1, h2, _⟩ := wok_iff.1 ha
  rw [mul_eq ha hb]; exact wok_mod _ h1 h2
theorem wok_flip {m a : Int} (ha : wok m a = true) : wok m (vFlip m a) = true := by
  obtain ⟨h1, h2, h3, h4⟩ := wok_iff.1 ha
  rw [flip_eq ha]; exact wok_iff.2 ⟨h1, h2, by omega, by omega⟩

theorem sub_add {m a b : Int} (ha : wok m a = true) (hb : wok m b = true) : vSub m (vAdd m a b) b = a := by
  obtain ⟨h1, h2, h3, h4⟩ := wok_iff.1 ha
  rw [sub_eq (wok_add ha hb) hb, add_eq ha hb, Int.emod_sub_emod, show a + b - b = a by omega, Int.emod_eq_of_lt h3 h4]
theorem mul_add {m a b c : Int} (ha : wok m a = true) (hb : wok m b = true) (hc : wok m c = true) : vMul m a (vAdd m b c) = vAdd m (vMul m a b) (vMul m a c) := by
  rw [mul_eq ha (wok_add hb hc), add_eq hb hc, add_eq (wok_mul ha hb) (wok_mul ha hc), mul_eq ha hb, mul_eq ha hc, ← Int.add_emod, Int.mul_emod, Int.emod_emod, ← Int.mul_emod, Int.mul_add]
theorem add_comm {m a b : Int} : vAdd m a b = vAdd m b a := by
  unfold vAdd; rw [Bool.and_comm, Int.add_comm]
theorem wok_zero {m : Int} (h1 : 1 ≤ m) (h2 : m ≤ 8) : wok m 0 = true := wok_iff.2 ⟨h1, h2, by omega, by have := p2_pos m.toNat; omega⟩
theorem p2_two {m : Int} (h1 : 1 ≤ m) : 2 ≤ p2 m.toNat := by
  have := p2_mono (show 1 ≤ m.toNat by omega); have e : p2 1 = 2 := rfl; omega
theorem wok_one {m : Int} (h1 : 1 ≤ m) (h2 : m ≤ 8) : wok m 1 = true := wok_iff.2 ⟨h1, h2, by omega, by have := p2_two h1; omega⟩
theorem flip_sub {m a : Int} (ha : wok m a = true) : vFlip m a = vSub m (vSub m 0 a) 1 := by
  obtain ⟨h1, h2, h3, h4⟩ := wok_iff.1 ha
  have h0 := wok_zero h1 h2
  rw [flip_eq ha, sub_eq (wok_sub h0 ha) (wok_one h1 h2), sub_eq h0 ha, Int.emod_sub_emod, ← Int.add_emod_right, Int.emod_eq_of_lt (by omega) (by omega)]
  omega
theorem flip_flip {m a : Int} (ha : wok m a = true) : vFlip m (vFlip m a) = a := by
  rw [flip_eq (wok_flip ha), flip_eq ha]; omega
theorem div_zero {m a b : Int} (ha : wok m a = true) (hb : wok m b = true) (hz : b = 0) : vDiv m a b = p2 m.toNat - 1 ∧ vRem m a b = a := by
  subst hz; simp [vDiv, vRem, ha, hb]
theorem div_rem {m a b : Int} (ha : wok m a = true) (hb : wok m b = true) (hz : b ≠ 0) : vDiv m a b * b + vRem m a b = a ∧ vRem m a b < b ∧ 0 ≤ vDiv m a b ∧ vDiv m a b ≤ 255 ∧ 0 ≤ vRem m a b := by
  obtain ⟨h1, h2, h3, h4⟩ := wok_iff.1 ha
  obtain ⟨_, _, h5, h6⟩ := wok_iff.1 hb
  have e1 : vDiv m a b = a / b := by simp [vDiv, ha, hb, hz]
  have e2 : vRem m a b = a % b := by simp [vRem, ha, hb, hz]
  have hl := p2_le m.toNat (by omega)
  rw [e1, e2]
  refine ⟨by rw [Int.mul_comm]; exact Int.mul_ediv_add_emod a b, Int.emod_lt_of_pos _ (by omega), Int.ediv_nonneg h3 h5, ?_, Int.emod_nonneg _ hz⟩
  have := Int.ediv_le_self b h3
  omega
theorem none_two {m a b : Int} (h : (wok m a && wok m b) = false) : vAdd m a b = 0 ∧ vSub m a b = 0 ∧ vMul m a b = 0 ∧ vDiv m a b = 0 ∧ vLess m a b = 0 ∧ vLessSigned m a b = 0 := by
  simp [vAdd, vSub, vMul, vDiv, vLess, vLessSigned, h]

end Go.Proofs.Ytebejleeadofcaa.Pl2

/- Arrays: what a block holds, cell by cell. -/
namespace Go.Proofs.Ytebejleeadofcaa.Rw0
open Go.RowKit
open Nd0

/-- The first n cells of block g hold what f tells, and may be written. -/
def Row (w : World) (g n : Nat) (f : Nat → Value) : Prop := ∀ i, i < n → w.cell? ⟨g, i, none⟩ = some (f i) ∧ w.frozen? ⟨g, i, none⟩ = false

theorem Row.set {w : World} {g n : Nat} {f : Nat → Value} (h : Row w g n f) {p : Nat} (hp : p < n) (v : Value) : Row (w.setCell ⟨g, p, none⟩ v) g n (fun i => if i = p then v else f i) := by
  intro i hi
  by_cases e : i = p
  · subst e
    dsimp only
    rw [if_pos rfl]
    exact ⟨set_same (h i hi).1, by simp only [World.frozen?_setCell]; exact (h i hi).2⟩
  · dsimp only
    rw [if_neg e]
    exact ⟨by rw [set_other (by intro x; cases x; exact e rfl)]; exact (h i hi).1, by simp only [World.frozen?_setCell]; exact (h i hi).2⟩
theorem Row.kept {w w' : World} {g n : Nat} {f : Nat → Value} (h : Row w g n f) {S : Nat → Prop} (k : Kept S w w') (hs : ¬ S g) : Row w' g n f := fun i hi =>
  ⟨by rw [k.cell (p := ⟨g, i, none⟩) (lt_of_cell (h i hi).1) hs]; exact (h i hi).1, by rw [k.frozen (p := ⟨g, i, none⟩) (lt_of_cell (h i hi).1) hs]; exact (h i hi).2⟩
theorem Row.below {w w' : World} {g n : Nat} {f : Nat → Value} (h : Row w g n f) (k : Below w.heap.size w w') : Row w' g n f := h.kept (S := fun _ => False) (Kept.ofBelow k) (fun h => h)
theorem Row.congr {w : World} {g n : Nat} {f f' : Nat → Value} (h : Row w g n f) (e : ∀ i, i < n → f i = f' i) : Row w g n f' := fun i hi => by rw [← e i hi]; exact h i hi
theorem Row.new (w : World) (cs : Array Value) (T n : Nat) (f : Nat → Value) (h : ∀ i, i < n → cs[i]? = some (f i)) : Row (w.alloc (.cells cs T)) w.heap.size n f := by
  intro i hi
  refine ⟨?_, by simp⟩
  rw [World.cell?_alloc_new]
  exact h i hi
theorem Row.drew {w : World} {g n : Nat} {f : Nat → Value} (h : Row w g n f) : Row w.drew g n f := fun i hi => h i hi
theorem Row.lt {w : World} {g n : Nat} {f : Nat → Value} (h : Row w g n f) (hn : 0 < n) : g < w.heap.size := lt_of_cell (p := ⟨g, 0, none⟩) (h 0 hn).1

end Go.Proofs.Ytebejleeadofcaa.Rw0

/- Lists of whole numbers and of flags that are appended to: the law at the walk, and how they are read. -/
namespace Go.Proofs.Ytebejleeadofcaa.Ap0
open Go.RowKit
open Nd0
set_option linter.unusedVariables false

theorem infoInt : (Try.prog.info? 3).map (fun i => (i.zero, i.size, i.bytes)) = some (some (.int .i64 0), 1, 8) := by kernel_rfl

/-- The slice v, in a block from B on, is the numbers l and may be appended to. -/
def Ows (w : World) (B : Nat) (v : Value) (l : List Int) : Prop := w.ownsRow B 3 1 v l.length (l.map fun x => .int .i64 x)

theorem Ows.form {w : World} {B : Nat} {v : Value} {l : List Int} (h : Ows w B v l) : ∃ a c, v = .slice a l.length c ∧ WInts w B a l := by
  obtain ⟨h1, h2⟩ := h
  rcases h2 with ⟨rfl, h0⟩ | ⟨g, cap, cur, rfl, hb, hg, hn, hm, hs, ht⟩
  · have : l = [] := List.eq_nil_of_length_eq_zero h0
    subst this
    exact ⟨none, 0, rfl, Nat.zero_le _, .inl rfl⟩
  · refine ⟨_, _, rfl, by omega, .inr ⟨g, 0, rfl, hb, fun i hi => ⟨?_, ?_⟩⟩⟩
    · rw [Nat.zero_add, cell_of_row w g i cur _ _ hg]
      have e : (cur.toList.take (l.length * 1))[i]? = some (.int .i64 l[i]) := by rw [ht]; simp [hi]
      rw [List.getElem?_take_of_lt (by omega)] at e
      simpa using e
    · rw [Nat.zero_add]
      simp [World.frozen?, hg]
theorem Ows.lit (w : World) (B : Nat) (hB : B ≤ w.heap.size) : Ows (w.alloc (.cells #[] 3)) B (.slice (some ⟨w.heap.size, 0, none⟩) 0 0) [] :=
  World.ownsRow_lit w #[] 0 hB (Nat.zero_le _) rfl
theorem Ows.lt {w : World} {B : Nat} {v : Value} {l : List Int} (h : Ows w B v l) : ∀ k, v.ownBlock = some k → B ≤ k ∧ k < w.heap.size := World.ownsRow.lt h
theorem Ows.kept {w w' : World} {B : Nat} {v : Value} {l : List Int} (h : Ows w B v l) {S : Nat → Prop} (k : Kept S w w') (hs : ∀ i, v.ownBlock = some i → ¬ S i) : Ows w' B v l := by
  refine ⟨h.1, ?_⟩
  rcases h.2 with hn | ⟨g, cap, cur, rfl, hb, hgg, rest⟩
  · exact .inl hn
  · refine .inr ⟨g, cap, cur, rfl, hb, ?_, rest⟩
    rw [k.block g (Array.getElem?_eq_some_iff.1 hgg).1 (hs g rfl)]
    exact hgg

/-- One number more. -/
theorem app_int {ops : Array Oper} {rest : List Oper} {o : Oper} {a : Act} {Q : Exit → Act → World → Prop} (W : World) (hgd : o.guard = none) (s x : Operand)
    (ho : o.op = .call { callee := .builtin .append, args := #[s, x], argTypes := #[40, 40] })
    (B : Nat) (v : Value) (l : List Int) (y : Int) (hs : a.eval s = v) (hx : a.eval x = .slice (some ⟨W.heap.size, 0, none⟩) 1 1)
    (hown : Ows W B v l) (hB : B ≤ W.heap.size) (hlen : l.length ≤ 1048576)
    (h : ∀ g cap w', Ows w' B (.slice (some ⟨g, 0, none⟩) (l.length + 1) cap) (l ++ [y]) → Kept (fun k => v.ownBlock = some k) W w' → (v.ownBlock = some g ∨ W.heap.size ≤ g) → wpList Try.prog ops Q rest (a.put o.dst (.slice (some ⟨g, 0, none⟩) (l.length + 1) cap)) w') :
    wpList Try.prog ops Q (o :: rest) a (W.alloc (.cells #[.int .i64 y] 3)) := by
  obtain ⟨i, hi, hzz⟩ := Option.map_eq_some_iff.1 infoInt
  simp only [Prod.mk.injEq] at hzz
  obtain ⟨hz, hsz, hb⟩ := hzz
  refine wpList_append_lies (W.alloc (.cells #[.int .i64 y] 3)) hgd s x 40 ho B 3 i (.int .i64 0) 1 8 Try.underlying40 hi hz hsz hb rfl (by omega) v l.length (l.map fun x => .int .i64 x) hs (World.ownsRow.alloc hown _)
    ⟨W.heap.size, 0, none⟩ 1 1 [.int .i64 y] hx rfl ?_ ?_ (by omega) (by unfold maxLen; omega) (by omega) (by simp; omega) _ rfl ?_
  · intro j u hu
    exact World.news_of_block (heap_alloc_new W _) j u hu
  · intro u hu
    simp at hu
    subst hu
    rfl
  · intro g cap w' h1 h2 h3 h4
    refine h g cap w' ?_ ?_ ?_
    · unfold Ows
      simpa using h1
    · have k1 : Kept (fun k => v.ownBlock = some k) W (W.alloc (.cells #[.int .i64 y] 3)) := (Kept.refl _ W).alloc _
      exact k1.trans ⟨h2.os, h2.tape, h2.output, h2.size, fun k hk hn => h2.block k hk (fun e => hn e.symm)⟩
    · rcases h3 with h3 | h3
      · exact .inl h3
      · exact .inr (by rw [h3]; simp)

end Go.Proofs.Ytebejleeadofcaa.Ap0
