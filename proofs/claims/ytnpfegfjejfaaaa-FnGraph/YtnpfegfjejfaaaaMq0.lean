/- The map of wires by pairs: what it holds, a look-up, a store. -/
import Derived.Test.YtnpfegfjejfaaaaRows
import Derived.Maps.OwnSet
import Derived.Maps.Views
import Derived.DeepKeys4
import Derived.MapViews
import Derived.Test.YtnpfegfjejfaaaaGr0
namespace Go.Proofs.Ytnpfegfjejfaaaa.Mq0
open Go.RowKit
open Nd0 Qb0 Gr0
open Go.Maps Go.WideMaps
set_option linter.unusedVariables false

theorem laidOut : laidOutB Try.prog = true := by kernel_rfl
theorem rowPair : (112 : TypeId) < Try.prog.types.size := of_decide_eq_true (by kernel_rfl)
theorem widePair : (match Try.prog.underlying 112 with | some (.array _ _) | some (.struct _) => true | _ => false) = true := by kernel_rfl
set_option maxRecDepth 100000 in
theorem law : Keyed Try.prog 112 := Keyed.of_law (deep_law_laid laidOut (m := 2) (by omega) rowPair (by kernel_rfl) widePair)
theorem zeroInt (w : World) : (zeroValue 3).run Try.prog w = .ok (.int .i64 0) w := by kernel_rfl

theorem wf_small {x : Int} (h0 : 0 ≤ x) (h1 : x ≤ 1000000000) : (Lit.int .i64 x).wf = true := by
  have e1 : IntKind.i64.min = -9223372036854775808 := by decide
  have e2 : IntKind.i64.max = 9223372036854775807 := by decide
  simp [Lit.wf, e1, e2]; omega
/-- A pair's numbers are small. -/
def Sm (x : An) : Prop := 0 ≤ x.a ∧ x.a ≤ 1000000 ∧ 0 ≤ x.b ∧ x.b ≤ 1000000
def agg (x : An) : Value := .agg #[.int .i64 x.a, .int .i64 x.b]
theorem agg_inj {m n : An} (h : agg m = agg n) : m = n := by
  unfold agg at h
  injection h with h
  have h1 := congrArg (fun z => z.toList) h
  simp at h1
  exact An.ext' h1
theorem lits_int (d : Nat) {x : Int} (h : (Lit.int .i64 x).wf = true) : Try.prog.keyLits (d + 1) 3 [.int .i64 x] = some [.int .i64 x] := by
  simp only [Program.keyLits, Try.underlying3]
  rw [if_pos ⟨trivial, h⟩]
theorem cellsInt : Try.prog.cellsOf 3 = 1 := by kernel_rfl
theorem cellsPair : Try.prog.cellsOf 112 = 2 := by kernel_rfl
theorem lits_pair (d : Nat) {x : An} (h : Sm x) : ∃ l, Try.prog.keyLits (d + 1 + 1) 112 x.cells = some l := by
  obtain ⟨h0, h1, h2, h3⟩ := h
  have hlen : x.cells.length = Try.prog.cellsOf 112 := by rw [cellsPair]; rfl
  unfold Program.keyLits
  simp only [Try.underlying112]
  rw [if_pos hlen]
  have hr : List.range 2 = [0, 1] := by decide
  rw [hr]
  simp [cellsInt, An.cells, lits_int d (wf_small h0 (by omega)), lits_int d (wf_small h2 (by omega))]
theorem formedPair (x : An) : (agg x).formed Try.prog 112 = true := by
  simp [agg, Value.formed, Try.underlying112, cellsPair]
theorem key_some {x : An} (h : Sm x) : ∃ l, keyOf Try.prog 112 (agg x) = some l := by
  obtain ⟨d, hd⟩ : ∃ d, Try.prog.types.size + 1 = d + 1 + 1 := ⟨Try.prog.types.size - 1, by
    have h9 : 1 ≤ Try.prog.types.size := Nat.le_trans (by decide) (Nat.le_of_lt rowPair)
    omega⟩
  obtain ⟨l, hl⟩ := lits_pair d h
  have hkt : Try.prog.keyType 112 = true := by kernel_rfl
  unfold keyOf
  simp only [Try.underlying112]
  rw [hkt, formedPair, hd]
  refine ⟨.string (keyBytes l), ?_⟩
  have hc : (agg x).cells.toList = x.cells := rfl
  rw [hc, hl]; rfl
/-- The key of a pair. -/
noncomputable def keyA (x : An) : Lit := (keyOf Try.prog 112 (agg x)).getD .nil
theorem key_eq {x : An} (h : Sm x) : keyOf Try.prog 112 (agg x) = some (keyA x) := by
  obtain ⟨l, hl⟩ := key_some h
  unfold keyA; rw [hl]; rfl
theorem key_ne {m n : An} (hm : Sm m) (hn : Sm n) (h : m ≠ n) : keyA m ≠ keyA n := fun e => h (agg_inj (law.inj (key_eq hm) (by rw [key_eq hn, e])))

/-- The map in block bm tells the wires of the ands l. -/
def Mq (w : World) (bm : Nat) (ins : Int) (l : List An) : Prop :=
  ∃ D : DataW Unit, w.ownsMap Try.prog 112 (plainElem Try.prog 3) bm l.length D ∧ ∀ x, Sm x → (posOf l x = none → Maps.has D (keyA x) = false) ∧ ∀ i, posOf l x = some i → Maps.has D (keyA x) = true ∧ ∀ z, D.atKey (keyA x) z = .lit (.int .i64 (2 * (ins + 1 + (i : Int))))
theorem Mq.new (w : World) (ins : Int) : Mq (w.alloc (.map #[] 0)) w.heap.size ins [] :=
  ⟨.map [], World.ownsMap_made w _ _ _, fun n _ => ⟨fun _ => rfl, fun i hi => by cases hi⟩⟩
theorem Mq.lt {w : World} {bm : Nat} {ins : Int} {l : List An} (h : Mq w bm ins l) : bm < w.heap.size := by obtain ⟨D, h, _⟩ := h; exact h.lt
theorem Mq.kept {w w' : World} {bm : Nat} {ins : Int} {l : List An} (h : Mq w bm ins l) {S : Nat → Prop} (k : Kept S w w') (hs : ¬ S bm) : Mq w' bm ins l := by
  obtain ⟨D, ho, hp⟩ := h
  refine ⟨D, ?_, hp⟩
  obtain ⟨es, clock, hb, F⟩ := ho
  exact ⟨es, clock, by rw [k.block bm (Array.getElem?_eq_some_iff.1 hb).1 hs]; exact hb, F⟩
/-- What a look-up tells. -/
def lookW (ins : Int) (l : List An) (x : An) : Int := match posOf l x with | some i => 2 * (ins + 1 + (i : Int)) | none => 0
theorem Mq.look {w : World} {bm : Nat} {ins : Int} {l : List An} (h : Mq w bm ins l) {x : An} (hn : Sm x) :
    (Instr.lookup 79 (.map (some bm)) (agg x) true).run Try.prog w = .ok (.tuple #[.int .i64 (lookW ins l x), .bool (posOf l x).isSome]) w := by
  obtain ⟨D, ho, hp⟩ := h
  obtain ⟨v, ps, hrun, hv⟩ := ho.look_ok law Try.underlying79 (zeroInt w) (plainElem_int Try.underlying3 (a := 0) rfl) (key_eq hn)
  rw [hrun]
  obtain ⟨h1, h2⟩ := hp x hn
  obtain ⟨a, rfl, hz, _⟩ := plainElem_int_inv Try.underlying3 hv
  unfold lookW
  cases hpl : posOf l x with
  | none =>
    have hn0 := h1 hpl
    rw [Maps.atKey_of_not_has hn0] at hz
    rw [hn0]
    cases hz; rfl
  | some i =>
    obtain ⟨h3, h4⟩ := h2 i hpl
    rw [h3]
    rw [h4] at hz
    cases hz; rfl
set_option maxRecDepth 100000 in
theorem Mq.store {w : World} {bm : Nat} {ins : Int} {l : List An} (h : Mq w bm ins l) {x : An} (hn : Sm x) (hp : posOf l x = none) (hl : l.length ≤ 3000) (hi0 : 0 ≤ ins) (hi1 : ins ≤ 12) :
    ∃ w', (Instr.mapUpdate 79 (.map (some bm)) (agg x) (.int .i64 (2 * (ins + 1 + (l.length : Int))))).run Try.prog w = .ok () w' ∧ Mq w' bm ins (l ++ [x]) ∧ Kept (fun k => k = bm) w w' := by
  obtain ⟨D, ho, hpp⟩ := h
  obtain ⟨w', hrun, ho', hg⟩ := ho.update law Try.underlying79 (by unfold maxLen; omega) (key_eq hn) (plainElem_int Try.underlying3 (a := (2 * (ins + 1 + (l.length : Int)))) (wf_small (by omega) (by omega)))
  refine ⟨w', hrun, ⟨_, by rw [List.length_append]; exact ho', fun m hm => ?_⟩, ⟨hg.os, hg.tape, hg.output, hg.size, fun i hi hne => hg.block i hi (fun e => hne (by cases e; rfl))⟩⟩
  by_cases e : m = x
  · subst e
    rw [pos_new hp]
    refine ⟨fun h => (by cases h), fun i hi => ?_⟩
    cases hi
    exact ⟨Maps.has_put_same ho.isMap (law.key (key_eq hn)) _, fun z => Maps.atKey_put_same ho.isMap (law.key (key_eq hn)) _ z⟩
  · rw [pos_old e]
    have hk := key_ne hm hn e
    obtain ⟨h1, h2⟩ := hpp m hm
    refine ⟨fun h => by rw [Maps.has_put_other hk]; exact h1 h, fun i hi => ?_⟩
    obtain ⟨h3, h4⟩ := h2 i hi
    exact ⟨by rw [Maps.has_put_other hk]; exact h3, fun z => by rw [Maps.atKey_put_other hk]; exact h4 z⟩

end Go.Proofs.Ytnpfegfjejfaaaa.Mq0
