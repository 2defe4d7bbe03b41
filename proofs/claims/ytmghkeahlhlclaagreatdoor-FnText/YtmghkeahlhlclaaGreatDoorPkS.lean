/- Small texts of mine, one behind the other. -/
import Derived.Maps.OwnSet
import Derived.Maps.Views
import Derived.DeepKeys4
import Derived.MapViews
import Derived.Deep.RegionHeld
import Derived.Test.YtmghkeahlhlclaaGreatDoorPkP
import Derived.Test.YtmghkeahlhlclaaGreatDoorPg6
import Derived.Test.YtmghkeahlhlclaaGreatDoorPkH
/- The map of places by nodes: what it holds, a look-up, a store. -/
namespace Go.Proofs.YtmghkeahlhlclaaGreatDoor.Mp0
open Go.RowKit
open Nd0 Nd3 Tm0 Tx0 Tx1 Ss0 Ss1 Tb0 Tb1 Px0 Pr1 Pr2
open Go.Maps Go.WideMaps
open Ss4 (Fit)
set_option linter.unusedVariables false

theorem laidOut : laidOutB Tryz.prog = true := by kernel_rfl
theorem rowNode : (48 : TypeId) < Tryz.prog.types.size := of_decide_eq_true (by kernel_rfl)
theorem wideNode : (match Tryz.prog.underlying 48 with | some (.array _ _) | some (.struct _) => true | _ => false) = true := by kernel_rfl
set_option maxRecDepth 100000 in
theorem law : Keyed Tryz.prog 48 := Keyed.of_law (deep_law_laid laidOut (m := 2) (by omega) rowNode (by kernel_rfl) wideNode)
theorem zeroInt (w : World) : (zeroValue 3).run Tryz.prog w = .ok (.int .i64 0) w := by kernel_rfl

theorem wf_small {x : Int} (h0 : 0 ≤ x) (h1 : x ≤ 1000000000) : (Lit.int .i64 x).wf = true := by
  have e1 : IntKind.i64.min = -9223372036854775808 := by decide
  have e2 : IntKind.i64.max = 9223372036854775807 := by decide
  simp [Lit.wf, e1, e2]; omega
/-- A node's numbers are int's. -/
def WfN (n : Nd) : Prop := (Lit.int .i64 n.op).wf = true ∧ (Lit.int .i64 n.w).wf = true ∧ (Lit.int .i64 n.k).wf = true ∧ (Lit.int .i64 n.a).wf = true ∧ (Lit.int .i64 n.b).wf = true ∧ (Lit.int .i64 n.c).wf = true
def agg (n : Nd) : Value := .agg #[.int .i64 n.op, .int .i64 n.w, .int .i64 n.k, .int .i64 n.a, .int .i64 n.b, .int .i64 n.c]
theorem agg_inj {m n : Nd} (h : agg m = agg n) : m = n := by
  unfold agg at h
  injection h with h
  have h1 := congrArg (fun z => z.toList) h
  simp at h1
  exact Nd.ext' h1
theorem lits_int (d : Nat) {x : Int} (h : (Lit.int .i64 x).wf = true) : Tryz.prog.keyLits (d + 1) 3 [.int .i64 x] = some [.int .i64 x] := by
  simp only [Program.keyLits, Tryz.underlying3]
  rw [if_pos ⟨trivial, h⟩]
theorem cellsInt : Tryz.prog.cellsOf 3 = 1 := by kernel_rfl
theorem cellsNode : Tryz.prog.cellsOf 48 = 6 := by kernel_rfl
theorem underNode : ∃ fs, Tryz.prog.underlying 48 = some (.struct fs) ∧ fs.all (·.name != "_") = true ∧ fs.toList.map (fun f => (f.type, f.offset)) = [(3, 0), (3, 1), (3, 2), (3, 3), (3, 4), (3, 5)] := ⟨_, Tryz.underlying48, by decide +kernel, rfl⟩
set_option maxRecDepth 100000 in
theorem lits_node (d : Nat) {n : Nd} (h : WfN n) : ∃ l, Tryz.prog.keyLits (d + 1 + 1) 48 n.cells = some l := by
  obtain ⟨h0, h1, h2, h3, h4, h5⟩ := h
  obtain ⟨fs, hu, hall, hts⟩ := underNode
  have hlen : n.cells.length = Tryz.prog.cellsOf 48 := by rw [cellsNode]; rfl
  unfold Program.keyLits
  simp only [hu]
  rw [if_pos ⟨hlen, hall⟩]
  have hm : (fs.toList.mapM fun f => Tryz.prog.keyLits (d + 1) f.type ((n.cells.drop f.offset).take (Tryz.prog.cellsOf f.type))) = ((fs.toList.map (fun f => (f.type, f.offset))).mapM fun y => Tryz.prog.keyLits (d + 1) y.1 ((n.cells.drop y.2).take (Tryz.prog.cellsOf y.1))) := by
    rw [List.mapM_map]
    simp only [Function.comp_def]
  rw [hm, hts]
  simp [cellsInt, Nd.cells, lits_int d h0, lits_int d h1, lits_int d h2, lits_int d h3, lits_int d h4, lits_int d h5]
theorem formedNode (n : Nd) : (agg n).formed Tryz.prog 48 = true := by
  obtain ⟨fs, hu, _, _⟩ := underNode
  simp [agg, Value.formed, hu, cellsNode]
theorem key_some {n : Nd} (h : WfN n) : ∃ l, keyOf Tryz.prog 48 (agg n) = some l := by
  obtain ⟨d, hd⟩ : ∃ d, Tryz.prog.types.size + 1 = d + 1 + 1 := ⟨Tryz.prog.types.size - 1, by
    have h9 : 1 ≤ Tryz.prog.types.size := Nat.le_trans (by decide) (Nat.le_of_lt rowNode)
    omega⟩
  obtain ⟨l, hl⟩ := lits_node d h
  have hkt : Tryz.prog.keyType 48 = true := by kernel_rfl
  obtain ⟨fs, hu, _, _⟩ := underNode
  unfold keyOf
  simp only [hu]
  rw [hkt, formedNode, hd]
  refine ⟨.string (keyBytes l), ?_⟩
  have hc : (agg n).cells.toList = n.cells := rfl
  rw [hc, hl]; rfl
/-- The key of a node. -/
noncomputable def keyN (n : Nd) : Lit := (keyOf Tryz.prog 48 (agg n)).getD .nil
theorem key_eq {n : Nd} (h : WfN n) : keyOf Tryz.prog 48 (agg n) = some (keyN n) := by
  obtain ⟨l, hl⟩ := key_some h
  unfold keyN; rw [hl]; rfl
theorem key_ne {m n : Nd} (hm : WfN m) (hn : WfN n) (h : m ≠ n) : keyN m ≠ keyN n := fun e => h (agg_inj (law.inj (key_eq hm) (by rw [key_eq hn, e])))

theorem find_congr {f g : Nat → Bool} : ∀ {l : List Nat}, (∀ i ∈ l, f i = g i) → l.find? f = l.find? g := by
  intro l
  induction l with
  | nil => intro _; rfl
  | cons x l ih =>
    intro h
    rw [List.find?_cons, List.find?_cons, h x (by simp), ih (fun i hi => h i (by simp [hi]))]
theorem place_new {t : List Nd} {n : Nd} (h : placeOf t n = none) : placeOf (t ++ [n]) n = some t.length := by
  unfold placeOf
  rw [List.length_append, List.length_singleton, List.range_succ, List.find?_append]
  have h1 : (List.range t.length).find? (fun i => decide ((nth (t ++ [n]) i).op = n.op ∧ (nth (t ++ [n]) i).w = n.w ∧ (nth (t ++ [n]) i).k = n.k ∧ (nth (t ++ [n]) i).a = n.a ∧ (nth (t ++ [n]) i).b = n.b ∧ (nth (t ++ [n]) i).c = n.c)) = none := by
    unfold placeOf at h
    rw [List.find?_eq_none] at h ⊢
    intro i hi
    rw [Tx2.nth_app (List.mem_range.1 hi)]
    exact h i hi
  rw [h1]
  simp [Tx2.nth_end]
theorem place_old {t : List Nd} {m n : Nd} (h : m ≠ n) : placeOf (t ++ [n]) m = placeOf t m := by
  unfold placeOf
  rw [List.length_append, List.length_singleton, List.range_succ, List.find?_append]
  have h2 : [t.length].find? (fun i => decide ((nth (t ++ [n]) i).op = m.op ∧ (nth (t ++ [n]) i).w = m.w ∧ (nth (t ++ [n]) i).k = m.k ∧ (nth (t ++ [n]) i).a = m.a ∧ (nth (t ++ [n]) i).b = m.b ∧ (nth (t ++ [n]) i).c = m.c)) = none := by
    rw [List.find?_eq_none]
    intro i hi
    obtain rfl : i = t.length := by simpa using hi
    rw [Tx2.nth_end]
    simp only [decide_eq_true_eq]
    intro e
    exact h (Nd.ext' ⟨e.1.symm, e.2.1.symm, e.2.2.1.symm, e.2.2.2.1.symm, e.2.2.2.2.1.symm, e.2.2.2.2.2.symm⟩)
  rw [h2, Option.or_none]
  apply find_congr
  intro i hi
  rw [Tx2.nth_app (List.mem_range.1 hi)]

/-- The map in block bm tells the places of the nodes t. -/
def Mp (w : World) (bm : Nat) (t : List Nd) : Prop :=
  ∃ D : DataW Unit, w.ownsMap Tryz.prog 48 (plainElem Tryz.prog 3) bm t.length D ∧ ∀ n, WfN n → (placeOf t n = none → Maps.has D (keyN n) = false) ∧ ∀ i, placeOf t n = some i → Maps.has D (keyN n) = true ∧ ∀ z, D.atKey (keyN n) z = .lit (.int .i64 (i : Int))
theorem Mp.new (w : World) : Mp (w.alloc (.map #[] 0)) w.heap.size [] :=
  ⟨.map [], World.ownsMap_made w _ _ _, fun n _ => ⟨fun _ => rfl, fun i hi => by cases hi⟩⟩
theorem Mp.lt {w : World} {bm : Nat} {t : List Nd} (h : Mp w bm t) : bm < w.heap.size := by obtain ⟨D, h, _⟩ := h; exact h.lt
theorem Mp.kept {w w' : World} {bm : Nat} {t : List Nd} (h : Mp w bm t) {S : Nat → Prop} (k : Kept S w w') (hs : ¬ S bm) : Mp w' bm t := by
  obtain ⟨D, ho, hp⟩ := h
  refine ⟨D, ?_, hp⟩
  obtain ⟨es, clock, hb, F⟩ := ho
  exact ⟨es, clock, by rw [k.block bm (Array.getElem?_eq_some_iff.1 hb).1 hs]; exact hb, F⟩
theorem Mp.look {w : World} {bm : Nat} {t : List Nd} (h : Mp w bm t) {n : Nd} (hn : WfN n) :
    (Instr.lookup 53 (.map (some bm)) (agg n) true).run Tryz.prog w = .ok (.tuple #[.int .i64 ((placeOf t n).getD 0 : Nat), .bool (placeOf t n).isSome]) w := by
  obtain ⟨D, ho, hp⟩ := h
  obtain ⟨v, ps, hrun, hv⟩ := ho.look_ok law Tryz.underlying53 (zeroInt w) (plainElem_int Tryz.underlying3 (a := 0) rfl) (key_eq hn)
  rw [hrun]
  obtain ⟨h1, h2⟩ := hp n hn
  obtain ⟨a, rfl, hz, _⟩ := plainElem_int_inv Tryz.underlying3 hv
  cases hpl : placeOf t n with
  | none =>
    have hn0 := h1 hpl
    rw [Maps.atKey_of_not_has hn0] at hz
    rw [hn0]
    cases hz; rfl
  | some i =>
    obtain ⟨h3, h4⟩ := h2 i hpl
    rw [h3]
    rw [h4] at hz
    cases hz; rfl
set_option maxRecDepth 100000 in
theorem Mp.store {w : World} {bm : Nat} {t : List Nd} (h : Mp w bm t) {n : Nd} (hn : WfN n) (hp : placeOf t n = none) (hl : t.length ≤ 80) :
    ∃ w', (Instr.mapUpdate 53 (.map (some bm)) (agg n) (.int .i64 (t.length : Int))).run Tryz.prog w = .ok () w' ∧ Mp w' bm (t ++ [n]) ∧ Kept (fun k => k = bm) w w' := by
  obtain ⟨D, ho, hpp⟩ := h
  obtain ⟨w', hrun, ho', hg⟩ := ho.update law Tryz.underlying53 (by unfold maxLen; omega) (key_eq hn) (plainElem_int Tryz.underlying3 (a := (t.length : Int)) (wf_small (by omega) (by omega)))
  refine ⟨w', hrun, ⟨_, by rw [List.length_append]; exact ho', fun m hm => ?_⟩, ⟨hg.os, hg.tape, hg.output, hg.size, fun i hi hne => hg.block i hi (fun e => hne (by cases e; rfl))⟩⟩
  by_cases e : m = n
  · subst e
    rw [place_new hp]
    refine ⟨fun h => (by cases h), fun i hi => ?_⟩
    cases hi
    exact ⟨Maps.has_put_same ho.isMap (law.key (key_eq hn)) _, fun z => Maps.atKey_put_same ho.isMap (law.key (key_eq hn)) _ z⟩
  · rw [place_old e]
    have hk := key_ne hm hn e
    obtain ⟨h1, h2⟩ := hpp m hm
    refine ⟨fun h => by rw [Maps.has_put_other hk]; exact h1 h, fun i hi => ?_⟩
    obtain ⟨h3, h4⟩ := h2 i hi
    exact ⟨by rw [Maps.has_put_other hk]; exact h3, fun z => by rw [Maps.atKey_put_other hk]; exact h4 z⟩

end Go.Proofs.YtmghkeahlhlclaaGreatDoor.Mp0

/- Plain facts on what the program's reader reads: small numbers, places in the list. -/
namespace Go.Proofs.YtmghkeahlhlclaaGreatDoor.Px4
open Nd0 Tm0 Tx0 Tx1 Tx5 Px0 Px1
open Mp0 (WfN wf_small)
set_option linter.unusedVariables false

theorem put_grow {st p : Nat} {t : List Nd} {n : Nd} {y : Nat × St} (h : pPut st p t n = .ok y) : y.1 < y.2.2.length ∧ ∃ m, y.2.2 = t ++ m := by
  unfold pPut at h
  obtain ⟨z, hz, h⟩ := bind_ok h
  cases h
  exact put_ok hz
theorem many_grow {s : List UInt8} {rd : St → Except Er (Nat × St)} {st : Nat} (hr : ∀ x y, rd x = .ok y → y.1 < y.2.2.length ∧ ∃ m, y.2.2 = x.2 ++ m) : ∀ {k : Nat} {x : St} {y : List Nat × St}, pMany s rd st k x = .ok y → (∀ i ∈ y.1, i < y.2.2.length) ∧ ∃ m, y.2.2 = x.2 ++ m := by
  intro k
  induction k with
  | zero => intro x y h; simp only [pMany] at h; cases h; exact ⟨by simp, [], by simp⟩
  | succ k ih =>
    intro x y h
    simp only [pMany] at h
    obtain ⟨p1, h1, h⟩ := bind_ok h
    obtain ⟨u, h2, h⟩ := bind_ok h
    obtain ⟨z, h3, h⟩ := bind_ok h
    cases h
    obtain ⟨a1, m1, a2⟩ := hr _ _ h2
    obtain ⟨b1, m2, b2⟩ := ih h3
    simp only at a2
    refine ⟨?_, m1 ++ m2, by rw [b2, a2]; simp⟩
    intro i hi
    rcases List.mem_cons.1 hi with e | e
    · subst e; simp only; rw [b2, List.length_append]; omega
    · exact b1 i e
theorem node_grow (s : List UInt8) : ∀ (f : Nat) (x : St) (y : Nat × St), pNode s f x = .ok y → y.1 < y.2.2.length ∧ ∃ m, y.2.2 = x.2 ++ m := by
  intro f
  induction f with
  | zero => intro x y h; cases h
  | succ f ih =>
    intro x y h
    simp only [pNode] at h
    split at h
    · obtain ⟨z, h1, h⟩ := bind_ok h
      exact put_grow h
    · split at h
      · obtain ⟨z, h1, h⟩ := bind_ok h
        exact put_grow h
      · obtain ⟨o, h1, h⟩ := bind_ok h
        obtain ⟨z, h2, h⟩ := bind_ok h
        obtain ⟨u, h3, h⟩ := bind_ok h
        unfold pParts at h3
        obtain ⟨m, h5, h3⟩ := bind_ok h3
        obtain ⟨q, h6, h3⟩ := bind_ok h3
        cases h3
        obtain ⟨_, m1, a2⟩ := many_grow (fun x y h => ih x y h) h5
        obtain ⟨b1, m2, b2⟩ := put_grow h
        exact ⟨b1, m1 ++ m2, by rw [b2]; simp only at a2 ⊢; rw [a2]; simp⟩
theorem num_small {s : List UInt8} {st p : Nat} {y : Nat × Nat} (h : pNum s st p = .ok y) : y.1 < 1000000000 := by
  unfold pNum at h
  split at h
  · rename_i k hk
    cases h
    exact (num_some hk).2.1
  · cases h
theorem pair_small {s : List UInt8} {c : UInt8} {st p : Nat} {y : (Nat × Nat) × Nat} (h : pPair s c st p = .ok y) : y.1.1 < 1000000000 ∧ y.1.2 < 1000000000 := by
  unfold pPair at h
  obtain ⟨p1, h1, h⟩ := bind_ok h
  obtain ⟨x, h2, h⟩ := bind_ok h
  obtain ⟨p3, h3, h⟩ := bind_ok h
  obtain ⟨z, h4, h⟩ := bind_ok h
  obtain ⟨q, h5, h⟩ := bind_ok h
  cases h
  have a1 := num_small h2
  have a2 := num_small h4
  exact ⟨a1, a2⟩
/-- A node of small numbers. -/
structure Sm (n : Nd) : Prop where
  w0 : 0 ≤ n.w
  w1 : n.w ≤ 1000000000
  k0 : 0 ≤ n.k
  k1 : n.k ≤ 1000000000
  b0 : 0 ≤ n.b
  b1 : n.b ≤ 1000000000
theorem op_le {s : List UInt8} {st p : Nat} {y : Nat × Nat} (h : pOp s st p = .ok y) : 2 ≤ y.1 ∧ y.1 ≤ 20 := by
  unfold pOp at h
  obtain ⟨p1, h1, h⟩ := bind_ok h
  split at h
  · rename_i o ho
    cases h
    unfold opP at ho
    obtain ⟨i, hi, rfl⟩ := Option.map_eq_some_iff.1 ho
    have := List.mem_range.1 (List.mem_of_find?_eq_some hi)
    simp only
    omega
  · cases h
theorem nums_small {s : List UInt8} {o st p : Nat} {y : Nd × Nat} (h : pNums s o st p = .ok y) : y.1.op = (o : Int) ∧ Sm y.1 := by
  unfold pNums at h
  split at h
  · obtain ⟨p1, h1, h⟩ := bind_ok h
    obtain ⟨x, h2, h⟩ := bind_ok h
    obtain ⟨p3, h3, h⟩ := bind_ok h
    obtain ⟨z, h4, h⟩ := bind_ok h
    cases h
    have := num_small h2
    have := num_small h4
    refine ⟨rfl, ?_⟩
    constructor <;> simp only <;> omega
  · split at h
    · obtain ⟨p1, h1, h⟩ := bind_ok h
      obtain ⟨x, h2, h⟩ := bind_ok h
      cases h
      have := pair_small h2
      refine ⟨rfl, ?_⟩
      constructor <;> simp only <;> omega
    · cases h
      refine ⟨rfl, ?_⟩
      constructor <;> simp
theorem getD_small {is : List Nat} {L : Nat} (h : ∀ i ∈ is, i < L) (j : Nat) : is.getD j 0 = 0 ∨ is.getD j 0 < L := by
  by_cases hj : j < is.length
  · rw [List.getD_eq_getElem?_getD, List.getElem?_eq_getElem hj, Option.getD_some]
    exact .inr (h _ (List.getElem_mem _))
  · rw [List.getD_eq_getElem?_getD, List.getElem?_eq_none (by omega)]
    exact .inl rfl
theorem getD_in {is : List Nat} {L : Nat} (h : ∀ i ∈ is, i < L) {j : Nat} (hj : j < is.length) : is.getD j 0 < L := by
  rw [List.getD_eq_getElem?_getD, List.getElem?_eq_getElem hj, Option.getD_some]
  exact h _ (List.getElem_mem _)
/-- What a node is whose parts were read. -/
structure Pn (n m : Nd) (L : Nat) : Prop where
  op : m.op = n.op
  w : m.w = n.w
  k : m.k = n.k
  a0 : 0 ≤ m.a
  a1 : m.a ≤ L
  b0 : 0 ≤ m.b
  b1 : m.b ≤ 1000000000
  c0 : 0 ≤ m.c
  c1 : m.c ≤ L
  ha : 2 ≤ m.op ∧ m.op ≤ 12 ∨ m.op = 16 → 0 ≤ m.a ∧ m.a < L
  hb : m.op = 16 ∨ m.op = 18 → 0 ≤ m.b ∧ m.b < L
theorem parts_read {s : List UInt8} {f : Nat} {n : Nd} {st : Nat} {x : St} {z : Nd × St} (h : pParts s (pNode s f) n st x = .ok z) (hop : 2 ≤ n.op ∧ n.op ≤ 20) (hs : Sm n) (hL : z.2.2.length ≤ 80) : Pn n z.1 z.2.2.length := by
  unfold pParts at h
  obtain ⟨m, h5, h⟩ := bind_ok h
  obtain ⟨q, h6, h⟩ := bind_ok h
  cases h
  have hl := many_len h5
  obtain ⟨hi, _⟩ := many_grow (fun x y h => node_grow s f x y h) h5
  simp only at hL
  have g0 := getD_small hi 0
  have g1 := getD_small hi 1
  have g2 := getD_small hi 2
  unfold setParts
  refine ⟨rfl, rfl, rfl, ?_, ?_, ?_, ?_, ?_, ?_, ?_, ?_⟩
  · simp only; omega
  · simp only; omega
  · simp only; split
    · omega
    · exact hs.b0
  · simp only; split
    · omega
    · exact hs.b1
  · simp only; omega
  · simp only; omega
  · intro hc
    simp only at hc ⊢
    have : 1 ≤ m.1.length := by
      rw [hl]
      by_cases e2 : n.op = 2
      · rw [parts_one (.inl e2)]; simp
      · rw [parts_two (by omega)]; simp
    have := getD_in hi (j := 0) (by omega)
    omega
  · intro hc
    simp only at hc ⊢
    have h2 : 1 < m.1.length := by
      rw [hl]
      rcases hc with e | e
      · rw [parts_two (by omega)]; simp
      · rw [parts_three e]; simp
    have := getD_in hi (j := 1) h2
    rw [if_pos h2]
    omega
theorem wid_small {t : List Nd} {n m : Nd} (hw : ∀ j, j < t.length → 1 ≤ (nth t j).w ∧ (nth t j).w ≤ 8) (hm : Pn n m t.length) (hs : Sm n) : 0 ≤ pWid t m ∧ pWid t m ≤ 1000000000 := by
  unfold pWid
  split
  · rename_i h
    have := hm.ha (.inl h)
    have := hw m.a.toNat (by omega)
    omega
  · split
    · rename_i h
      have := hm.ha (.inr h)
      have := hm.hb (.inl h)
      have := hw m.a.toNat (by omega)
      have := hw m.b.toNat (by omega)
      omega
    · split
      · rw [hm.w]; exact ⟨hs.w0, hs.w1⟩
      · split
        · rename_i h
          have := hm.hb (.inr h)
          have := hw m.b.toNat (by omega)
          omega
        · omega
theorem wf_node {t : List Nd} {n m : Nd} (hw : ∀ j, j < t.length → 1 ≤ (nth t j).w ∧ (nth t j).w ≤ 8) (hL : t.length ≤ 80) (hop : 2 ≤ n.op ∧ n.op ≤ 20) (hm : Pn n m t.length) (hs : Sm n) : WfN { m with w := pWid t m } := by
  have h := wid_small hw hm hs
  have ho := hm.op
  have hk := hm.k
  have := hs.k0
  have := hs.k1
  refine ⟨wf_small ?_ ?_, wf_small h.1 h.2, wf_small ?_ ?_, wf_small hm.a0 ?_, wf_small hm.b0 hm.b1, wf_small hm.c0 ?_⟩
  · simp only; omega
  · simp only; omega
  · simp only; omega
  · simp only; omega
  · have := hm.a1; simp only; omega
  · have := hm.c1; simp only; omega
theorem wf_leaf (o : Int) (a b : Nat) (ho : o = 0 ∨ o = 1) (ha : a < 1000000000) (hb : b < 1000000000) : WfN ⟨o, a, b, 0, 0, 0⟩ := by
  refine ⟨wf_small ?_ ?_, wf_small ?_ ?_, wf_small ?_ ?_, wf_small ?_ ?_, wf_small ?_ ?_, wf_small ?_ ?_⟩ <;> simp only <;> omega

end Go.Proofs.YtmghkeahlhlclaaGreatDoor.Px4

/- The walk of the program's reader: a node put in. -/
namespace Go.Proofs.YtmghkeahlhlclaaGreatDoor.Pr4
open Go.RowKit
open Dw3 Dw4 Nd0 Nd3 Ap2 Tm0 Tx0 Tx1 Ss0 Ss1 Tb0 Tb1 Px0 Pr1 Pr2 Mp0
open Ss4 (Fit put_new put_found own_cap)
open Pg6 (rightB iRight right_take)
open Ws1 (ret_int ret_bool)
set_option linter.unusedVariables false

/-- The program's reader as a whole: its place, its nodes, its map; F: blocks that it leaves alone. -/
structure PR (w : World) (B b : Nat) (S : ByteArray) (p : Nat) (t : List Nd) (bm : Nat) (F : Nat → Prop) : Prop where
  ex : ∃ v, RB w b S p v bm ∧ Own w B v t ∧ ∀ k, v.ownBlock = some k → ¬ F k ∧ k ≠ b ∧ k ≠ bm
  mp : Mp w bm t
  fb : ¬ F b
  fm : ¬ F bm
  ne : b ≠ bm
  bB : B ≤ b
  mB : B ≤ bm
  fit : Fit t
  pS : p ≤ S.size
  hF : ∀ k, F k → k < w.heap.size
  wf : ∀ n ∈ t, WfN n

theorem right_end {t : List Nd} (n : Nd) : rightB t n = nodeOk (t ++ [n]) t.length := by
  have h := right_take (l := t ++ [n]) (k := t.length) (by simp)
  rw [List.take_left' rfl, Tx2.nth_end] at h
  exact h
theorem place_none {t : List Nd} {n : Nd} (h : placeOf t n = none) (q : Nat) : putL t n q = if nodeOk (t ++ [n]) t.length then (if 80 < t.length + 1 then .error (4, q) else .ok (t ++ [n], t.length)) else .error (3, q) := by
  unfold putL; rw [h]
theorem place_some {t : List Nd} {n : Nd} {i : Nat} (h : placeOf t n = some i) (q : Nat) : putL t n q = .ok (t, i) := by
  unfold putL; rw [h]

theorem RB.list {w : World} {b : Nat} {S : ByteArray} {p : Nat} {v : Value} {bm : Nat} (h : RB w b S p v bm) (u : Value) : RB (w.setCell ⟨b, 2, none⟩ u) b S p u bm :=
  ⟨by rw [set_other (by simp)]; exact h.c0, by rw [set_other (by simp)]; exact h.c1, set_same h.c2, by rw [set_other (by simp)]; exact h.c3, by simpa using h.f1, by simpa using h.f2⟩
theorem PR.below {w w' : World} {B b : Nat} {S : ByteArray} {p : Nat} {t : List Nd} {bm : Nat} {F : Nat → Prop} (h : PR w B b S p t bm F) (k : Below w.heap.size w w') : PR w' B b S p t bm F := by
  obtain ⟨v, h1, h2, h3⟩ := h.ex
  exact ⟨⟨v, h1.below k, h2.kept (S := fun _ => False) (Kept.ofBelow k) (fun _ _ e => e), h3⟩, h.mp.kept (S := fun _ => False) (Kept.ofBelow k) (fun e => e), h.fb, h.fm, h.ne, h.bB, h.mB, h.fit, h.pS, fun i hi => Nat.lt_of_lt_of_le (h.hF i hi) k.size, h.wf⟩
theorem keptF_below {F : Nat → Prop} {w w' : World} (h : Below w.heap.size w w') : Kept (fun k => ¬ F k) w w' := ⟨h.os, h.tape, h.output, h.size, fun i hi _ => h.block i hi⟩
theorem keptF_of {F D : Nat → Prop} {w w' : World} (h : Kept D w w') (hd : ∀ k, D k → ¬ F k) : Kept (fun k => ¬ F k) w w' := ⟨h.os, h.tape, h.output, h.size, fun i hi hn => h.block i hi (fun e => hn (hd i e))⟩
theorem nodeat_kept {w w' : World} {bn : Nat} {n : Nd} {D : Nat → Prop} (h : NodeAt w bn 0 n) (k : Kept D w w') (hd : ¬ D bn) : NodeAt w' bn 0 n := by
  obtain ⟨c0, c1, c2, c3, c4, c5⟩ := h
  have hb : bn < w.heap.size := lt_of_cell (p := ⟨bn, 0, none⟩) c0
  exact ⟨by rw [k.cell (p := ⟨bn, 0, none⟩) hb hd]; exact c0, by rw [k.cell (p := ⟨bn, 0 + 1, none⟩) hb hd]; exact c1, by rw [k.cell (p := ⟨bn, 0 + 2, none⟩) hb hd]; exact c2, by rw [k.cell (p := ⟨bn, 0 + 3, none⟩) hb hd]; exact c3, by rw [k.cell (p := ⟨bn, 0 + 4, none⟩) hb hd]; exact c4, by rw [k.cell (p := ⟨bn, 0 + 5, none⟩) hb hd]; exact c5⟩

set_option maxRecDepth 100000 in
set_option maxHeartbeats 8000000 in
theorem iPut (w : World) (B b : Nat) (S : ByteArray) (p : Nat) (t : List Nd) (bm : Nat) (F : Nat → Prop) (n : Nd) (st : Nat) (h : PR w B b S p t bm F) (hn : WfN n) :
    Calls Tryz.prog 57 #[.pointer (some ⟨b, 0, none⟩), .agg #[.int .i64 n.op, .int .i64 n.w, .int .i64 n.k, .int .i64 n.a, .int .i64 n.b, .int .i64 n.c], .int .i64 st] w fun e w' => Out (putL t n st) (fun x => e = .returned (.int .i64 (x.2 : Int)) ∧ PR w' B b S p x.1 bm F) (fun x => e = .panicked [fl x]) ∧ Kept (fun k => ¬ F k) w w' := by
  have H : Hid (PR w B b S p t bm F) := h
  have HWF : Hid (WfN n) := hn
  obtain ⟨v, hrb, hown, hvb⟩ := h.ex
  obtain ⟨a, c, rfl, hwn⟩ := hown.form
  obtain ⟨w1, hw1⟩ : ∃ w1 : World, w1 = w.alloc (.cells #[.int .i64 n.op, .int .i64 n.w, .int .i64 n.k, .int .i64 n.a, .int .i64 n.b, .int .i64 n.c] 48) := ⟨_, rfl⟩
  have hb1 : Below w.heap.size w w1 := by rw [hw1]; exact (Below.refl _ _).alloc (Nat.le_refl _) _
  have HB1 : Hid (Below w.heap.size w w1) := hb1
  obtain ⟨bn, hbn⟩ : ∃ bn : Nat, bn = w.heap.size := ⟨_, rfl⟩
  have HND : Hid (NodeAt w1 bn 0 n) := by
    show NodeAt w1 bn 0 n
    rw [hw1]; exact Dw4.node_new w n 48 bn hbn 0 (by simp)
  have HRB : Hid (RB w1 b S p (.slice a t.length c) bm) := hrb.below hb1
  have HOW : Hid (Own w1 B (.slice a t.length c) t) := hown.kept (S := fun _ => False) (Kept.ofBelow hb1) (fun _ _ e => e)
  have HVB : Hid (∀ k, (Value.slice a t.length c).ownBlock = some k → ¬ F k ∧ k ≠ b ∧ k ≠ bm) := hvb
  have HVN : Hid (∀ k, (Value.slice a t.length c).ownBlock = some k → k ≠ bn) := fun k hk e => by have := (hown.lt k hk).2; omega
  have HMP : Hid (Mp w1 bm t) := h.mp.kept (S := fun _ => False) (Kept.ofBelow hb1) (fun e => e)
  have HNT : Hid (Nodes w1 a t) := hwn.nodes.below hb1
  have HFT : Hid (Fit t) := h.fit
  have HWD : Hid (∀ j, j < t.length → 1 ≤ (nth t j).w ∧ (nth t j).w ≤ 8) := fun j hj => node_width (h.fit.2 j hj)
  have HBN : Hid (bn = w.heap.size) := hbn
  have HBNB : Hid (bn ≠ b ∧ bn ≠ bm) := ⟨fun e => by have := hrb.lt; omega, fun e => by have := h.mp.lt; omega⟩
  have hlook : ∀ m, (Instr.lookup 53 (.map (some bm)) (.agg #[.int .i64 n.op, .int .i64 n.w, .int .i64 n.k, .int .i64 n.a, .int .i64 n.b, .int .i64 n.c]) true).run Tryz.prog (w1.drewN m) = .ok (.tuple #[.int .i64 ((placeOf t n).getD 0 : Nat), .bool (placeOf t n).isSome]) (w1.drewN m) := fun m => Mp.look (w := w1.drewN m) (HMP.out.kept (S := fun _ => False) ((Kept.refl _ _).drewN _) (fun e => e)) hn
  have e0 := HND.out.c0
  have e1 := HND.out.c1
  have e2 := HND.out.c2
  have e3 := HND.out.c3
  have e4 := HND.out.c4
  have e5 := HND.out.c5
  simp only [Nat.zero_add] at e1 e2 e3 e4 e5
  have m3 := HRB.out.c3
  have m2 := HRB.out.c2
  have hbl : b < w1.heap.size := HRB.out.lt
  have hbnl : bn < w1.heap.size := HND.out.lt
  have HW1 : Hid (w1 = w.alloc (.cells #[.int .i64 n.op, .int .i64 n.w, .int .i64 n.k, .int .i64 n.a, .int .i64 n.b, .int .i64 n.c] 48)) := hw1
  clear hw1 hrb hown hvb h hn hb1 hwn
  go_enter Tryz.func57, Tryz.ntmps57
  go_wp2
  rw [← HW1.out, ← hbn]
  clear hbn
  cases hpl : placeOf t n with
  | some i =>
    have HP : Hid (putL t n st = .ok (t, i)) := place_some hpl st
    rw [hpl] at hlook
    simp only [Option.getD_some, Option.isSome_some] at hlook
    clear hpl
    go_quiet (fail)
    go_wp2
    go_ret
    have hb9 : Below w.heap.size w (w1.drewN nq) := ⟨HB1.out.os, HB1.out.tape, HB1.out.output, HB1.out.size, HB1.out.block⟩
    exact ⟨Out.ok HP.out ⟨rfl, H.out.below hb9⟩, keptF_below hb9⟩
  | none =>
    have HPL : Hid (placeOf t n = none) := hpl
    have HPN : Hid (putL t n st = if nodeOk (t ++ [n]) t.length then (if 80 < t.length + 1 then .error (4, st) else .ok (t ++ [n], t.length)) else .error (3, st)) := place_none hpl st
    rw [hpl] at hlook
    simp only [Option.getD_none, Option.isSome_none] at hlook
    clear hpl
    go_quiet (fail)
    go_wp2
    clear hlook
    have HBQ : Hid (Below w1.heap.size w1 (w1.drewN nq)) := ⟨rfl, rfl, rfl, Nat.le_refl _, fun _ _ => rfl⟩
    cases hr : nodeOk (t ++ [n]) t.length
    · have HR : Hid (rightB t n = false) := (right_end n).trans hr
      have HP : Hid (putL t n st = .error (3, st)) := by show _ = _; rw [HPN.out, hr]; rfl
      clear hr
      refine wp_region_held_drew (S := fun w' => Below w1.heap.size w1 w') (by kernel_rfl) (HBQ.out.drew) (fun hHeld => ?_)
      refine wpAnyH_take (i := 0) (v := ?_) rfl (by kernel_rfl) (by kernel_rfl) (by kernel_rfl) (fun _ _ _ h => h) (Or.inl ⟨by rfl, ?_⟩) hHeld ?_
      rotate_left
      · intro v9 hS9
        try dsimp only at hS9
        go_simp
        try with_reducible rfl
      try simp only [Act.put, List.setIfInBounds_toArray, List.set_cons_zero, List.set_cons_succ, List.getElem_toArray, List.getElem_cons_zero]
      refine wpAnyH_take (i := 1) (v := ?_) rfl (by kernel_rfl) (by kernel_rfl) (by kernel_rfl) (fun _ _ _ h => h) (Or.inl ⟨by rfl, ?_⟩) hHeld ?_
      rotate_left
      · intro v9 hS9
        try dsimp only at hS9
        go_simp
        try with_reducible rfl
      try simp only [Act.put, List.setIfInBounds_toArray, List.set_cons_zero, List.set_cons_succ, List.getElem_toArray, List.getElem_cons_zero, List.getElem_cons_succ]
      refine wpAnyH_take (i := 2) (v := ?_) rfl (by kernel_rfl) (by kernel_rfl) (by kernel_rfl) (fun _ _ _ h => h) (Or.inl ⟨by rfl, ?_⟩) hHeld ?_
      rotate_left
      · intro v9 hS9
        try dsimp only at hS9
        go_simp
        try with_reducible rfl
      try simp only [Act.put, List.setIfInBounds_toArray, List.set_cons_zero, List.set_cons_succ, List.getElem_toArray, List.getElem_cons_zero, List.getElem_cons_succ]
      refine wpAnyH_take (i := 3) (v := ?_) rfl (by kernel_rfl) (by kernel_rfl) (by kernel_rfl) (fun _ _ _ h => h) (Or.inl ⟨by rfl, ?_⟩) hHeld ?_
      rotate_left
      · intro v9 hS9
        try dsimp only at hS9
        have q2b : v9.cell? ⟨b, 2, none⟩ = some (.slice a t.length c) := by rw [hS9.cell hbl]; exact m2
        go_simp
        try with_reducible rfl
      try simp only [Act.put, List.setIfInBounds_toArray, List.set_cons_zero, List.set_cons_succ, List.getElem_toArray, List.getElem_cons_zero, List.getElem_cons_succ]
      refine wpAnyH_take (i := 4) (v := ?_) rfl (by kernel_rfl) (by kernel_rfl) (by kernel_rfl) (fun _ _ _ h => h) (Or.inl ⟨by rfl, ?_⟩) hHeld ?_
      rotate_left
      · intro v9 hS9
        try dsimp only at hS9
        have q0bn : v9.cell? ⟨bn, 0, none⟩ = some (.int .i64 n.op) := by rw [hS9.cell hbnl]; exact e0
        have q1bn : v9.cell? ⟨bn, 1, none⟩ = some (.int .i64 n.w) := by rw [hS9.cell hbnl]; exact e1
        have q2bn : v9.cell? ⟨bn, 2, none⟩ = some (.int .i64 n.k) := by rw [hS9.cell hbnl]; exact e2
        have q3bn : v9.cell? ⟨bn, 3, none⟩ = some (.int .i64 n.a) := by rw [hS9.cell hbnl]; exact e3
        have q4bn : v9.cell? ⟨bn, 4, none⟩ = some (.int .i64 n.b) := by rw [hS9.cell hbnl]; exact e4
        have q5bn : v9.cell? ⟨bn, 5, none⟩ = some (.int .i64 n.c) := by rw [hS9.cell hbnl]; exact e5
        go_simp
        try with_reducible rfl
      try simp only [Act.put, List.setIfInBounds_toArray, List.set_cons_zero, List.set_cons_succ, List.getElem_toArray, List.getElem_cons_zero, List.getElem_cons_succ]
      refine wpAnyH_ready (rs := [5]) (by kernel_rfl) (by simp) ?_
      refine (AllReadyH.cons rfl (fun K hK => ?_) AllReadyH.nil)
      ·
        go_simp
        go_wp2_with (go_at_call 41; refine (iRight _ a t c t.length rfl n (HNT.out.below hHeld) HFT.out.1 HWD.out).mono ?_; rintro e wx ⟨rfl, hbx⟩; have HBX : Hid (Below w1.heap.size w1 wx) := hHeld.trans (hbx.mono hHeld.size); clear hbx; rw [HR.out])
        refine hK.out _ _ (HBX.out) (fun hNext => ?_)
        clear hK K hHeld
        have hHeld := hNext
        clear hNext
        refine wpAnyH_take (i := 6) (v := ?_) rfl (by kernel_rfl) (by kernel_rfl) (by kernel_rfl) (fun _ _ _ h => h) (Or.inl ⟨by rfl, ?_⟩) hHeld ?_
        rotate_left
        · intro v9 hS9
          try dsimp only at hS9
          go_simp
          try with_reducible rfl
        try simp only [Act.put, List.setIfInBounds_toArray, List.set_cons_zero, List.set_cons_succ, List.getElem_toArray, List.getElem_cons_zero, List.getElem_cons_succ]
        refine wpAnyH_done (by kernel_rfl) ?_ _
        go_wp2_with fail
        refine (iFail _ _ _).mono ?_
        rintro e w' ⟨rfl, rfl⟩
        go_wp2
        exact ⟨rfl, Out.error HP.out rfl, keptF_below (HB1.out.trans (HBX.out.mono HB1.out.size))⟩
    · have HR : Hid (rightB t n = true) := (right_end n).trans hr
      have HPT : Hid (putL t n st = if 80 < t.length + 1 then .error (4, st) else .ok (t ++ [n], t.length)) := by show _ = _; rw [HPN.out, hr]; rfl
      clear hr
      refine wp_region_held_drew (S := fun w' => Below w1.heap.size w1 w') (by kernel_rfl) (HBQ.out.drew) (fun hHeld => ?_)
      refine wpAnyH_take (i := 0) (v := ?_) rfl (by kernel_rfl) (by kernel_rfl) (by kernel_rfl) (fun _ _ _ h => h) (Or.inl ⟨by rfl, ?_⟩) hHeld ?_
      rotate_left
      · intro v9 hS9
        try dsimp only at hS9
        go_simp
        try with_reducible rfl
      try simp only [Act.put, List.setIfInBounds_toArray, List.set_cons_zero, List.set_cons_succ, List.getElem_toArray, List.getElem_cons_zero]
      refine wpAnyH_take (i := 1) (v := ?_) rfl (by kernel_rfl) (by kernel_rfl) (by kernel_rfl) (fun _ _ _ h => h) (Or.inl ⟨by rfl, ?_⟩) hHeld ?_
      rotate_left
      · intro v9 hS9
        try dsimp only at hS9
        go_simp
        try with_reducible rfl
      try simp only [Act.put, List.setIfInBounds_toArray, List.set_cons_zero, List.set_cons_succ, List.getElem_toArray, List.getElem_cons_zero, List.getElem_cons_succ]
      refine wpAnyH_take (i := 2) (v := ?_) rfl (by kernel_rfl) (by kernel_rfl) (by kernel_rfl) (fun _ _ _ h => h) (Or.inl ⟨by rfl, ?_⟩) hHeld ?_
      rotate_left
      · intro v9 hS9
        try dsimp only at hS9
        go_simp
        try with_reducible rfl
      try simp only [Act.put, List.setIfInBounds_toArray, List.set_cons_zero, List.set_cons_succ, List.getElem_toArray, List.getElem_cons_zero, List.getElem_cons_succ]
      refine wpAnyH_take (i := 3) (v := ?_) rfl (by kernel_rfl) (by kernel_rfl) (by kernel_rfl) (fun _ _ _ h => h) (Or.inl ⟨by rfl, ?_⟩) hHeld ?_
      rotate_left
      · intro v9 hS9
        try dsimp only at hS9
        have q2b : v9.cell? ⟨b, 2, none⟩ = some (.slice a t.length c) := by rw [hS9.cell hbl]; exact m2
        go_simp
        try with_reducible rfl
      try simp only [Act.put, List.setIfInBounds_toArray, List.set_cons_zero, List.set_cons_succ, List.getElem_toArray, List.getElem_cons_zero, List.getElem_cons_succ]
      refine wpAnyH_take (i := 4) (v := ?_) rfl (by kernel_rfl) (by kernel_rfl) (by kernel_rfl) (fun _ _ _ h => h) (Or.inl ⟨by rfl, ?_⟩) hHeld ?_
      rotate_left
      · intro v9 hS9
        try dsimp only at hS9
        have q0bn : v9.cell? ⟨bn, 0, none⟩ = some (.int .i64 n.op) := by rw [hS9.cell hbnl]; exact e0
        have q1bn : v9.cell? ⟨bn, 1, none⟩ = some (.int .i64 n.w) := by rw [hS9.cell hbnl]; exact e1
        have q2bn : v9.cell? ⟨bn, 2, none⟩ = some (.int .i64 n.k) := by rw [hS9.cell hbnl]; exact e2
        have q3bn : v9.cell? ⟨bn, 3, none⟩ = some (.int .i64 n.a) := by rw [hS9.cell hbnl]; exact e3
        have q4bn : v9.cell? ⟨bn, 4, none⟩ = some (.int .i64 n.b) := by rw [hS9.cell hbnl]; exact e4
        have q5bn : v9.cell? ⟨bn, 5, none⟩ = some (.int .i64 n.c) := by rw [hS9.cell hbnl]; exact e5
        go_simp
        try with_reducible rfl
      try simp only [Act.put, List.setIfInBounds_toArray, List.set_cons_zero, List.set_cons_succ, List.getElem_toArray, List.getElem_cons_zero, List.getElem_cons_succ]
      refine wpAnyH_ready (rs := [5]) (by kernel_rfl) (by simp) ?_
      refine (AllReadyH.cons rfl (fun K hK => ?_) AllReadyH.nil)
      ·
        go_simp
        go_wp2_with (go_at_call 41; refine (iRight _ a t c t.length rfl n (HNT.out.below hHeld) HFT.out.1 HWD.out).mono ?_; rintro e wx ⟨rfl, hbx⟩; have HBX : Hid (Below w1.heap.size w1 wx) := hHeld.trans (hbx.mono hHeld.size); clear hbx; rw [HR.out])
        refine hK.out _ _ (HBX.out) (fun hNext => ?_)
        clear hK K hHeld
        have hHeld := hNext
        clear hNext
        refine wpAnyH_take (i := 6) (v := ?_) rfl (by kernel_rfl) (by kernel_rfl) (by kernel_rfl) (fun _ _ _ h => h) (Or.inl ⟨by rfl, ?_⟩) hHeld ?_
        rotate_left
        · intro v9 hS9
          try dsimp only at hS9
          go_simp
          try with_reducible rfl
        try simp only [Act.put, List.setIfInBounds_toArray, List.set_cons_zero, List.set_cons_succ, List.getElem_toArray, List.getElem_cons_zero, List.getElem_cons_succ]
        refine wpAnyH_done (by kernel_rfl) ?_ _
        have x2 : wx.cell? ⟨b, 2, none⟩ = some (.slice a t.length c) := by rw [HBX.out.cell hbl]; exact m2
        by_cases h80 : t.length = 80
        · have hq : ((t.length : Int) == 80) = true := by simp [h80]
          have HP : Hid (putL t n st = .error (4, st)) := by show _ = _; rw [HPT.out, if_pos (by omega)]
          clear h80
          go_wp2_with fail
          refine (iFail _ _ _).mono ?_
          rintro e w' ⟨rfl, rfl⟩
          go_wp2
          exact ⟨rfl, Out.error HP.out rfl, keptF_below (HB1.out.trans (HBX.out.mono HB1.out.size))⟩
        · have hq : ((t.length : Int) == 80) = false := by rw [beq_eq_false_iff_ne]; omega
          have HP : Hid (putL t n st = .ok (t ++ [n], t.length)) := by show _ = _; rw [HPT.out, if_neg (by have := HFT.out.1; omega)]
          clear h80
          go_wp2
          have HMX : Hid (Mp wx.drew bm t) := HMP.out.kept (S := fun _ => False) (Kept.ofBelow HBX.out.drew) (fun e => e)
          obtain ⟨wu, hrun, hmu, hku⟩ := HMX.out.store HWF.out HPL.out HFT.out.1
          have HRX : Hid (RB wx.drew b S p (.slice a t.length c) bm) := HRB.out.below HBX.out.drew
          have HNX : Hid (NodeAt wx.drew bn 0 n) := nodeat_kept (D := fun _ => False) HND.out (Kept.ofBelow HBX.out.drew) (fun e => e)
          have HRU : Hid (RB wu b S p (.slice a t.length c) bm) := HRX.out.kept hku H.out.ne
          have HNU : Hid (NodeAt wu bn 0 n) := nodeat_kept HNX.out hku HBNB.out.2
          have HMU : Hid (Mp wu bm (t ++ [n])) := hmu
          have HKU : Hid (Kept (fun k => k = bm) wx.drew wu) := hku
          have HRUN : Hid ((Instr.mapUpdate 53 (.map (some bm)) (.agg #[.int .i64 n.op, .int .i64 n.w, .int .i64 n.k, .int .i64 n.a, .int .i64 n.b, .int .i64 n.c]) (.int .i64 (t.length : Int))).run Tryz.prog wx.drew = .ok () wu) := hrun
          have HOU : Hid (Own wu B (.slice a t.length c) t) := (HOW.out.kept (S := fun _ => False) (Kept.ofBelow HBX.out.drew) (fun _ _ e => e)).kept hku (fun k hk e => (HVB.out k hk).2.2 e)
          clear hrun hmu hku
          refine wp_region_held_drew (S := fun w' => RB w' b S p (.slice a t.length c) bm ∧ NodeAt w' bn 0 n) (by kernel_rfl) ⟨HRX.out, HNX.out⟩ (fun hHeld => ?_)
          refine wpAnyH_take (i := 0) (v := ?_) rfl (by kernel_rfl) (by kernel_rfl) (by kernel_rfl) (fun _ _ _ h => h) (Or.inl ⟨by rfl, ?_⟩) hHeld ?_
          rotate_left
          · intro v9 hS9
            try dsimp only at hS9
            go_simp
            try with_reducible rfl
          try simp only [Act.put, List.setIfInBounds_toArray, List.set_cons_zero, List.set_cons_succ, List.getElem_toArray, List.getElem_cons_zero]
          refine wpAnyH_take (i := 1) (v := ?_) rfl (by kernel_rfl) (by kernel_rfl) (by kernel_rfl) (fun _ _ _ h => h) (Or.inl ⟨by rfl, ?_⟩) hHeld ?_
          rotate_left
          · intro v9 hS9
            try dsimp only at hS9
            go_simp
            try with_reducible rfl
          try simp only [Act.put, List.setIfInBounds_toArray, List.set_cons_zero, List.set_cons_succ, List.getElem_toArray, List.getElem_cons_zero, List.getElem_cons_succ]
          refine wpAnyH_take (i := 2) (v := ?_) rfl (by kernel_rfl) (by kernel_rfl) (by kernel_rfl) (fun _ _ _ h => h) (Or.inl ⟨by rfl, ?_⟩) hHeld ?_
          rotate_left
          · intro v9 hS9
            try dsimp only at hS9
            go_simp
            try with_reducible rfl
          try simp only [Act.put, List.setIfInBounds_toArray, List.set_cons_zero, List.set_cons_succ, List.getElem_toArray, List.getElem_cons_zero, List.getElem_cons_succ]
          refine wpAnyH_take (i := 3) (v := ?_) rfl (by kernel_rfl) (by kernel_rfl) (by kernel_rfl) (fun _ _ _ h => h) (Or.inl ⟨by rfl, ?_⟩) hHeld ?_
          rotate_left
          · intro v9 hS9
            try dsimp only at hS9
            obtain ⟨⟨c0, c1, c2, c3, f1, f2⟩, ⟨d0, d1, d2, d3, d4, d5⟩⟩ := hS9
            simp only [Nat.zero_add] at d1 d2 d3 d4 d5
            go_simp
            try with_reducible rfl
          try simp only [Act.put, List.setIfInBounds_toArray, List.set_cons_zero, List.set_cons_succ, List.getElem_toArray, List.getElem_cons_zero, List.getElem_cons_succ]
          refine wpAnyH_take (i := 4) (v := ?_) rfl (by kernel_rfl) (by kernel_rfl) (by kernel_rfl) (fun _ _ _ h => h) (Or.inl ⟨by rfl, ?_⟩) hHeld ?_
          rotate_left
          · intro v9 hS9
            try dsimp only at hS9
            obtain ⟨⟨c0, c1, c2, c3, f1, f2⟩, ⟨d0, d1, d2, d3, d4, d5⟩⟩ := hS9
            simp only [Nat.zero_add] at d1 d2 d3 d4 d5
            go_simp
            try with_reducible rfl
          try simp only [Act.put, List.setIfInBounds_toArray, List.set_cons_zero, List.set_cons_succ, List.getElem_toArray, List.getElem_cons_zero, List.getElem_cons_succ]
          refine wpAnyH_take (i := 5) (v := ?_) rfl (by kernel_rfl) (by kernel_rfl) (by kernel_rfl) (fun _ _ _ h => h) (Or.inl ⟨by rfl, ?_⟩) hHeld ?_
          rotate_left
          · intro v9 hS9
            try dsimp only at hS9
            go_simp
            try with_reducible rfl
          try simp only [Act.put, List.setIfInBounds_toArray, List.set_cons_zero, List.set_cons_succ, List.getElem_toArray, List.getElem_cons_zero, List.getElem_cons_succ]
          refine wpAnyH_ready (rs := [6]) (by kernel_rfl) (by simp) ?_
          refine (AllReadyH.cons rfl (fun K hK => ?_) AllReadyH.nil)
          ·
            have hrun := HRUN.out
            go_simp
            refine hK.out _ _ (⟨HRU.out, HNU.out⟩) (fun hNext => ?_)
            clear hK K hHeld
            have hHeld := hNext
            clear hNext
            refine wpAnyH_done (by kernel_rfl) ?_ _
            go_wp2
            have HC2 : Hid (wu.drew.cell? ⟨b, 2, none⟩ = some (.slice a t.length c)) := HRU.out.c2
            have HC2A : Hid ((wu.alloc (.cells #[.int .i64 n.op, .int .i64 n.w, .int .i64 n.k, .int .i64 n.a, .int .i64 n.b, .int .i64 n.c] 48)).drew.cell? ⟨b, 2, none⟩ = some (.slice a t.length c)) := by
              show (wu.alloc _).cell? _ = _
              rw [((Kept.refl (fun _ => False) wu).alloc _).cell (p := ⟨b, 2, none⟩) HRU.out.lt (fun e => e)]; exact HRU.out.c2
            have HBW : Hid (B ≤ wu.heap.size) := Nat.le_trans H.out.bB (Nat.le_of_lt HRU.out.lt)
            have HKW : Hid (Kept (fun k => ¬ F k) w wu) := (keptF_below (HB1.out.trans (HBX.out.drew.mono HB1.out.size))).trans (keptF_of HKU.out (fun k e => e ▸ H.out.fm))
            have FIN : ∀ {g cp : Nat} {wz : World}, Own wz B (.slice (some ⟨g, 0, none⟩) (t.length + 1) cp) (t ++ [n]) → Kept (fun k => (Value.slice a t.length c).ownBlock = some k) wu wz → ((Value.slice a t.length c).ownBlock = some g ∨ wu.heap.size ≤ g) →
                Out (putL t n st) (fun x => Ending.returned (.int .i64 (t.length : Int)) = .returned (.int .i64 (x.2 : Int)) ∧ PR (wz.setCell ⟨b, 2, none⟩ (.slice (some ⟨g, 0, none⟩) (t.length + 1) cp)) B b S p x.1 bm F) (fun x => Ending.returned (.int .i64 (t.length : Int)) = .panicked [fl x]) ∧ Kept (fun k => ¬ F k) w (wz.setCell ⟨b, 2, none⟩ (.slice (some ⟨g, 0, none⟩) (t.length + 1) cp)) := by
              intro g cp wz ho hka hga
              have hrz : RB wz b S p (.slice a t.length c) bm := HRU.out.kept hka (fun e => (HVB.out b e).2.1 rfl)
              have hks : Kept (fun k => k = b) wz (wz.setCell ⟨b, 2, none⟩ (.slice (some ⟨g, 0, none⟩) (t.length + 1) cp)) := (Kept.refl (fun k => k = b) wz).setCell (p := ⟨b, 2, none⟩) rfl _
              have hgb : ¬ F g ∧ g ≠ b ∧ g ≠ bm := by
                rcases hga with e | e
                · exact HVB.out g e
                · have h1 : b < wu.heap.size := HRU.out.lt
                  have h2 : bm < wu.heap.size := HMU.out.lt
                  have h3 : w.heap.size ≤ wu.heap.size := HKW.out.size
                  exact ⟨fun hf => by have := H.out.hF g hf; omega, by omega, by omega⟩
              have hkw : Kept (fun k => ¬ F k) w (wz.setCell ⟨b, 2, none⟩ (.slice (some ⟨g, 0, none⟩) (t.length + 1) cp)) := (HKW.out.trans (keptF_of hka (fun k e => (HVB.out k e).1))).trans (keptF_of hks (fun k e => e ▸ H.out.fb))
              refine ⟨Out.ok HP.out ⟨rfl, ⟨⟨_, Pr4.RB.list hrz _, ho.kept hks (fun k hk e => hgb.2.1 (by cases hk; exact e)), fun k hk => by cases hk; exact hgb⟩, (HMU.out.kept hka (fun e => (HVB.out bm e).2.2 rfl)).kept hks (fun e => H.out.ne e.symm), H.out.fb, H.out.fm, H.out.ne, H.out.bB, H.out.mB, Ss5.put_fit HFT.out HP.out, H.out.pS, fun k hk => Nat.lt_of_lt_of_le (H.out.hF k hk) hkw.size, fun m hm => ?_⟩⟩, hkw⟩
              rcases List.mem_append.1 hm with e | e
              · exact H.out.wf m e
              · have : m = n := by simpa using e
                rw [this]; exact HWF.out
            refine wp_region_held_drew (S := fun w' => NodeAt w' bn 0 n) (by kernel_rfl) (nodeat_kept (D := fun _ => False) HNU.out ((Kept.refl _ _).drewN 1) (fun e => e)) (fun hHeld => ?_)
            refine wpAnyH_take (i := 0) (v := ?_) rfl (by kernel_rfl) (by kernel_rfl) (by kernel_rfl) (fun _ _ _ h => h) (Or.inl ⟨by rfl, ?_⟩) hHeld ?_
            rotate_left
            · intro v9 hS9
              try dsimp only at hS9
              go_simp
              try with_reducible rfl
            try simp only [Act.put, List.setIfInBounds_toArray, List.set_cons_zero, List.set_cons_succ, List.getElem_toArray, List.getElem_cons_zero]
            refine wpAnyH_take (i := 1) (v := ?_) rfl (by kernel_rfl) (by kernel_rfl) (by kernel_rfl) (fun _ _ _ h => h) (Or.inl ⟨by rfl, ?_⟩) hHeld ?_
            rotate_left
            · intro v9 hS9
              try dsimp only at hS9
              go_simp
              try with_reducible rfl
            try simp only [Act.put, List.setIfInBounds_toArray, List.set_cons_zero, List.set_cons_succ, List.getElem_toArray, List.getElem_cons_zero, List.getElem_cons_succ]
            refine wpAnyH_take (i := 2) (v := ?_) rfl (by kernel_rfl) (by kernel_rfl) (by kernel_rfl) (fun _ _ _ h => h) (Or.inl ⟨by rfl, ?_⟩) hHeld ?_
            rotate_left
            · intro v9 hS9
              try dsimp only at hS9
              go_simp
              try with_reducible rfl
            try simp only [Act.put, List.setIfInBounds_toArray, List.set_cons_zero, List.set_cons_succ, List.getElem_toArray, List.getElem_cons_zero, List.getElem_cons_succ]
            refine wpAnyH_take (i := 3) (v := ?_) rfl (by kernel_rfl) (by kernel_rfl) (by kernel_rfl) (fun _ _ _ h => h) (Or.inl ⟨by rfl, ?_⟩) hHeld ?_
            rotate_left
            · intro v9 hS9
              try dsimp only at hS9
              go_simp
              try with_reducible rfl
            try simp only [Act.put, List.setIfInBounds_toArray, List.set_cons_zero, List.set_cons_succ, List.getElem_toArray, List.getElem_cons_zero, List.getElem_cons_succ]
            refine wpAnyH_take (i := 5) (v := ?_) rfl (by kernel_rfl) (by kernel_rfl) (by kernel_rfl) (fun _ _ _ h => h) (Or.inl ⟨by rfl, ?_⟩) hHeld ?_
            rotate_left
            · intro v9 hS9
              try dsimp only at hS9
              obtain ⟨d0, d1, d2, d3, d4, d5⟩ := hS9
              simp only [Nat.zero_add] at d1 d2 d3 d4 d5
              go_simp
              try with_reducible rfl
            try simp only [Act.put, List.setIfInBounds_toArray, List.set_cons_zero, List.set_cons_succ, List.getElem_toArray, List.getElem_cons_zero, List.getElem_cons_succ]
            refine wpAnyH_ready (rs := [4, 6]) (by kernel_rfl) (by simp) ?_
            refine (AllReadyH.cons rfl (fun K hK => ?_) (AllReadyH.cons rfl (fun K hK => ?_) AllReadyH.nil))
            ·
              have k2 := HC2.out
              go_simp
              refine hK.out _ _ (hHeld) (fun hNext => ?_)
              clear hK K hHeld
              have hHeld := hNext
              clear hNext
              refine wpAnyH_ready (rs := [6]) (by kernel_rfl) (by simp) ?_
              refine (AllReadyH.cons rfl (fun K hK => ?_) AllReadyH.nil)
              ·
                go_simp
                refine hK.out _ _ (nodeat_kept (D := fun _ => False) hHeld ((Kept.refl _ _).alloc _) (fun e => e)) (fun hNext => ?_)
                clear hK K hHeld
                have hHeld := hNext
                clear hNext
                refine wpAnyH_ready (rs := [7]) (by kernel_rfl) (by simp) ?_
                refine (AllReadyH.cons rfl (fun K hK => ?_) AllReadyH.nil)
                ·
                  refine step_app_nodes _ rfl _ _ rfl B (.slice a t.length c) t [n] wu.heap.size 0 1 rfl rfl (node_drew (node_new _ _ _ _ rfl)) (by simp) (World.ownsRow.alloc HOU.out _) (by have := HBW.out; simp; omega) (by have := HFT.out.1; simp; omega) ?_
                  intro g cp wz ho hk hg
                  simp only [List.length_cons, List.length_nil, Nat.zero_add] at ho ⊢
                  have HOZ : Hid (Own wz B (.slice (some ⟨g, 0, none⟩) (t.length + 1) cp) (t ++ [n])) := ho
                  have HKA : Hid (Kept (fun k => (Value.slice a t.length c).ownBlock = some k) wu wz) := (((Kept.refl _ wu).alloc _).drewN 1).trans hk
                  have HGA : Hid ((Value.slice a t.length c).ownBlock = some g ∨ wu.heap.size ≤ g) := by
                    rcases hg with e | e
                    · exact .inl e
                    · exact .inr (Nat.le_trans (by simp) e)
                  have HNZ : Hid (NodeAt wz bn 0 n) := nodeat_kept hHeld hk (fun e => HVN.out bn e rfl)
                  have HRZ : Hid (RB wz b S p (.slice a t.length c) bm) := HRU.out.kept HKA.out (fun e => (HVB.out b e).2.1 rfl)
                  have HZ2 : Hid (wz.cell? ⟨b, 2, none⟩ = some (.slice a t.length c)) := HRZ.out.c2
                  have HZF : Hid (wz.frozen? ⟨b, 2, none⟩ = false) := HRZ.out.f2
                  clear ho hk hg
                  refine hK.out _ _ (HNZ.out) (fun hNext => ?_)
                  clear hK K hHeld
                  have hHeld := hNext
                  clear hNext
                  try simp only [Act.put, List.setIfInBounds_toArray, List.set_cons_zero, List.set_cons_succ, List.getElem_toArray, List.getElem_cons_zero, List.getElem_cons_succ]
                  refine wpAnyH_take (i := 8) (v := ?_) rfl (by kernel_rfl) (by kernel_rfl) (by kernel_rfl) (fun _ _ _ h => h) (Or.inl ⟨by rfl, ?_⟩) hHeld ?_
                  rotate_left
                  · intro v9 hS9
                    try dsimp only at hS9
                    go_simp
                    try with_reducible rfl
                  try simp only [Act.put, List.setIfInBounds_toArray, List.set_cons_zero, List.set_cons_succ, List.getElem_toArray, List.getElem_cons_zero, List.getElem_cons_succ]
                  refine wpAnyH_take (i := 9) (v := ?_) rfl (by kernel_rfl) (by kernel_rfl) (by kernel_rfl) (fun _ _ _ h => h) (Or.inl ⟨by rfl, ?_⟩) hHeld ?_
                  rotate_left
                  · intro v9 hS9
                    try dsimp only at hS9
                    go_simp
                    try with_reducible rfl
                  try simp only [Act.put, List.setIfInBounds_toArray, List.set_cons_zero, List.set_cons_succ, List.getElem_toArray, List.getElem_cons_zero, List.getElem_cons_succ]
                  refine wpAnyH_ready (rs := [10]) (by kernel_rfl) (by simp) ?_
                  refine (AllReadyH.cons rfl (fun K hK => ?_) AllReadyH.nil)
                  ·
                    have z2 := HZ2.out
                    have zf := HZF.out
                    go_simp
                    refine hK.out _ _ (nodeat_kept HNZ.out ((Kept.refl (fun k => k = b) wz).setCell (p := ⟨b, 2, none⟩) rfl _) HBNB.out.1) (fun hNext => ?_)
                    clear hK K hHeld
                    have hHeld := hNext
                    clear hNext
                    refine wpAnyH_done (by kernel_rfl) ?_ _
                    go_wp2
                    go_ret
                    exact FIN HOZ.out HKA.out HGA.out
            ·
              go_simp
              refine hK.out _ _ (nodeat_kept (D := fun _ => False) hHeld ((Kept.refl _ _).alloc _) (fun e => e)) (fun hNext => ?_)
              clear hK K hHeld
              have hHeld := hNext
              clear hNext
              refine wpAnyH_ready (rs := [4]) (by kernel_rfl) (by simp) ?_
              refine (AllReadyH.cons rfl (fun K hK => ?_) AllReadyH.nil)
              ·
                have k2 := HC2A.out
                go_simp
                refine hK.out _ _ (hHeld) (fun hNext => ?_)
                clear hK K hHeld
                have hHeld := hNext
                clear hNext
                refine wpAnyH_ready (rs := [7]) (by kernel_rfl) (by simp) ?_
                refine (AllReadyH.cons rfl (fun K hK => ?_) AllReadyH.nil)
                ·
                  refine step_app_nodes _ rfl _ _ rfl B (.slice a t.length c) t [n] wu.heap.size 0 1 rfl rfl (node_drew (node_new _ _ _ _ rfl)) (by simp) (World.ownsRow.alloc HOU.out _) (by have := HBW.out; simp; omega) (by have := HFT.out.1; simp; omega) ?_
                  intro g cp wz ho hk hg
                  simp only [List.length_cons, List.length_nil, Nat.zero_add] at ho ⊢
                  have HOZ : Hid (Own wz B (.slice (some ⟨g, 0, none⟩) (t.length + 1) cp) (t ++ [n])) := ho
                  have HKA : Hid (Kept (fun k => (Value.slice a t.length c).ownBlock = some k) wu wz) := (((Kept.refl _ wu).alloc _).drewN 1).trans hk
                  have HGA : Hid ((Value.slice a t.length c).ownBlock = some g ∨ wu.heap.size ≤ g) := by
                    rcases hg with e | e
                    · exact .inl e
                    · exact .inr (Nat.le_trans (by simp) e)
                  have HNZ : Hid (NodeAt wz bn 0 n) := nodeat_kept hHeld hk (fun e => HVN.out bn e rfl)
                  have HRZ : Hid (RB wz b S p (.slice a t.length c) bm) := HRU.out.kept HKA.out (fun e => (HVB.out b e).2.1 rfl)
                  have HZ2 : Hid (wz.cell? ⟨b, 2, none⟩ = some (.slice a t.length c)) := HRZ.out.c2
                  have HZF : Hid (wz.frozen? ⟨b, 2, none⟩ = false) := HRZ.out.f2
                  clear ho hk hg
                  refine hK.out _ _ (HNZ.out) (fun hNext => ?_)
                  clear hK K hHeld
                  have hHeld := hNext
                  clear hNext
                  try simp only [Act.put, List.setIfInBounds_toArray, List.set_cons_zero, List.set_cons_succ, List.getElem_toArray, List.getElem_cons_zero, List.getElem_cons_succ]
                  refine wpAnyH_take (i := 8) (v := ?_) rfl (by kernel_rfl) (by kernel_rfl) (by kernel_rfl) (fun _ _ _ h => h) (Or.inl ⟨by rfl, ?_⟩) hHeld ?_
                  rotate_left
                  · intro v9 hS9
                    try dsimp only at hS9
                    go_simp
                    try with_reducible rfl
                  try simp only [Act.put, List.setIfInBounds_toArray, List.set_cons_zero, List.set_cons_succ, List.getElem_toArray, List.getElem_cons_zero, List.getElem_cons_succ]
                  refine wpAnyH_take (i := 9) (v := ?_) rfl (by kernel_rfl) (by kernel_rfl) (by kernel_rfl) (fun _ _ _ h => h) (Or.inl ⟨by rfl, ?_⟩) hHeld ?_
                  rotate_left
                  · intro v9 hS9
                    try dsimp only at hS9
                    go_simp
                    try with_reducible rfl
                  try simp only [Act.put, List.setIfInBounds_toArray, List.set_cons_zero, List.set_cons_succ, List.getElem_toArray, List.getElem_cons_zero, List.getElem_cons_succ]
                  refine wpAnyH_ready (rs := [10]) (by kernel_rfl) (by simp) ?_
                  refine (AllReadyH.cons rfl (fun K hK => ?_) AllReadyH.nil)
                  ·
                    have z2 := HZ2.out
                    have zf := HZF.out
                    go_simp
                    refine hK.out _ _ (nodeat_kept HNZ.out ((Kept.refl (fun k => k = b) wz).setCell (p := ⟨b, 2, none⟩) rfl _) HBNB.out.1) (fun hNext => ?_)
                    clear hK K hHeld
                    have hHeld := hNext
                    clear hNext
                    refine wpAnyH_done (by kernel_rfl) ?_ _
                    go_wp2
                    go_ret
                    exact FIN HOZ.out HKA.out HGA.out

/-- What the program's reader of a node is to do, with so much fuel. -/
def INode (f : Nat) : Prop := ∀ (w : World) (B b : Nat) (S : ByteArray) (p : Nat) (t : List Nd) (bm : Nat) (F : Nat → Prop), PR w B b S p t bm F → (∀ k, k < B → F k) → (∀ w', Below B w w' → TabR w') → S.size ≤ 4000 → S.size - p < f →
    Calls Tryz.prog 31 #[.pointer (some ⟨b, 0, none⟩)] w fun e w' => Out (pNode (tl S) f (p, t)) (fun y => e = .returned (.int .i64 (y.1 : Int)) ∧ PR w' B b S y.2.1 y.2.2 bm F) (fun x => e = .panicked [fl x]) ∧ Kept (fun k => ¬ F k) w w'

end Go.Proofs.YtmghkeahlhlclaaGreatDoor.Pr4
