import Derived.Maps.OwnSet
import Derived.Maps.Views
import Derived.DeepKeys4
import Derived.MapViews
import Derived.Test.YtiaimhgfimhepaaGreatDoorPkVV27
import Derived.Test.YtiaimhgfimhepaaGreatDoorPg6
namespace Go.Proofs.YtiaimhgfimhepaaGreatDoor
set_option maxRecDepth 100000
set_option maxHeartbeats 8000000
set_option linter.unusedVariables false
namespace Mp0
open Go.RowKit
open Nd0 Nd3 Tm0 Tx0 Tx1 Ss0 Ss1 Tb0 Tb1 Px0 Pr1 Pr2
open Go.Maps Go.WideMaps
open Ss4 (Fit)
theorem laidOut : laidOutB Tryz.prog = true := by kernel_rfl
theorem rowNode : (33 : TypeId) < Tryz.prog.types.size := of_decide_eq_true (by kernel_rfl)
theorem wideNode : (match Tryz.prog.underlying 33 with | some (.array _ _) | some (.struct _) => true | _ => false) = true := by kernel_rfl
theorem law : Keyed Tryz.prog 33 := Keyed.of_law (deep_law_laid laidOut (m := 2) (by omega) rowNode (by kernel_rfl) wideNode)
theorem zeroInt (w : World) : (zeroValue 3).run Tryz.prog w = .ok (.int .i64 0) w := by kernel_rfl
theorem wf_small {x : Int} (h0 : 0 <= x) (h1 : x <= 1000000000) : (Lit.int .i64 x).wf = true := by
 have e1 : IntKind.i64.min = -9223372036854775808 := by decide
 have e2 : IntKind.i64.max = 9223372036854775807 := by decide
 simp [Lit.wf, e1, e2]; omega
def WfN (n : Nd) : Prop := (Lit.int .i64 n.op).wf = true /\ (Lit.int .i64 n.w).wf = true /\ (Lit.int .i64 n.k).wf = true /\ (Lit.int .i64 n.a).wf = true /\ (Lit.int .i64 n.b).wf = true /\ (Lit.int .i64 n.c).wf = true
def agg (n : Nd) : Value := .agg #[.int .i64 n.op, .int .i64 n.w, .int .i64 n.k, .int .i64 n.a, .int .i64 n.b, .int .i64 n.c]
theorem agg_inj {m n : Nd} (h : agg m = agg n) : m = n := by
 unfold agg at h
 injection h with h
 have h1 := congrArg (fun z => z.toList) h
 simp at h1
 exact Nd.ext' h1
theorem lits_int (d : Nat) {x : Int} (h : (Lit.int .i64 x).wf = true) : Tryz.prog.keyLits (d + 1) 3 [.int .i64 x] = some [.int .i64 x] := by
 simp only [Program.keyLits, Tryz.underlying3]
 rw [if_pos ⟨trivial, h⟩]
theorem cellsInt : Tryz.prog.cellsOf 3 = 1 := by kernel_rfl
theorem cellsNode : Tryz.prog.cellsOf 33 = 6 := by kernel_rfl
theorem underNode : ∃ fs, Tryz.prog.underlying 33 = some (.struct fs) /\ fs.all (·.name != "_") = true /\ fs.toList.map (fun f => (f.type, f.offset)) = [(3, 0), (3, 1), (3, 2), (3, 3), (3, 4), (3, 5)] := ⟨_, Tryz.underlying33, by decide +kernel, rfl⟩
theorem lits_node (d : Nat) {n : Nd} (h : WfN n) : ∃ l, Tryz.prog.keyLits (d + 1 + 1) 33 n.cells = some l := by
 obtain ⟨h0, h1, h2, h3, h4, h5⟩ := h
 obtain ⟨fs, hu, hall, hts⟩ := underNode
 have hlen : n.cells.length = Tryz.prog.cellsOf 33 := by rw [cellsNode]; rfl
 unfold Program.keyLits
 simp only [hu]
 rw [if_pos ⟨hlen, hall⟩]
 have hm : (fs.toList.mapM fun f => Tryz.prog.keyLits (d + 1) f.type ((n.cells.drop f.offset).take (Tryz.prog.cellsOf f.type))) = ((fs.toList.map (fun f => (f.type, f.offset))).mapM fun y => Tryz.prog.keyLits (d + 1) y.1 ((n.cells.drop y.2).take (Tryz.prog.cellsOf y.1))) := by
  rw [List.mapM_map]
  simp only [Function.comp_def]
 rw [hm, hts]
 simp [cellsInt, Nd.cells, lits_int d h0, lits_int d h1, lits_int d h2, lits_int d h3, lits_int d h4, lits_int d h5]
theorem formedNode (n : Nd) : (agg n).formed Tryz.prog 33 = true := by
 obtain ⟨fs, hu, _, _⟩ := underNode
 simp [agg, Value.formed, hu, cellsNode]
theorem key_some {n : Nd} (h : WfN n) : ∃ l, keyOf Tryz.prog 33 (agg n) = some l := by
 obtain ⟨d, hd⟩ : ∃ d, Tryz.prog.types.size + 1 = d + 1 + 1 := ⟨Tryz.prog.types.size - 1, by
  have h9 : 1 <= Tryz.prog.types.size := Nat.le_trans (by decide) (Nat.le_of_lt rowNode)
  omega⟩
 obtain ⟨l, hl⟩ := lits_node d h
 have hkt : Tryz.prog.keyType 33 = true := by kernel_rfl
 obtain ⟨fs, hu, _, _⟩ := underNode
 unfold keyOf
 simp only [hu]
 rw [hkt, formedNode, hd]
 refine ⟨.string (keyBytes l), ?_⟩
 have hc : (agg n).cells.toList = n.cells := rfl
 rw [hc, hl]; rfl
noncomputable def keyN (n : Nd) : Lit := (keyOf Tryz.prog 33 (agg n)).getD .nil
theorem key_eq {n : Nd} (h : WfN n) : keyOf Tryz.prog 33 (agg n) = some (keyN n) := by
 obtain ⟨l, hl⟩ := key_some h
 unfold keyN; rw [hl]; rfl
theorem key_ne {m n : Nd} (hm : WfN m) (hn : WfN n) (h : m ≠ n) : keyN m ≠ keyN n := fun e => h (agg_inj (law.inj (key_eq hm) (by rw [key_eq hn, e])))
theorem find_congr {f g : Nat -> Bool} : ∀ {l : List Nat}, (∀ i ∈ l, f i = g i) -> l.find? f = l.find? g := by
 intro l
 induction l with
 | nil => intro _; rfl
 | cons x l ih =>
   intro h
   rw [List.find?_cons, List.find?_cons, h x (by simp), ih (fun i hi => h i (by simp [hi]))]
theorem place_new {t : List Nd} {n : Nd} (h : placeOf t n = none) : placeOf (t ++ [n]) n = some t.length := by
 unfold placeOf
 rw [List.length_append, List.length_singleton, List.range_succ, List.find?_append]
 have h1 : (List.range t.length).find? (fun i => decide ((nth (t ++ [n]) i).op = n.op /\ (nth (t ++ [n]) i).w = n.w /\ (nth (t ++ [n]) i).k = n.k /\ (nth (t ++ [n]) i).a = n.a /\ (nth (t ++ [n]) i).b = n.b /\ (nth (t ++ [n]) i).c = n.c)) = none := by
  unfold placeOf at h
  rw [List.find?_eq_none] at h ⊢
  intro i hi
  rw [Tx2.nth_app (List.mem_range.1 hi)]
  exact h i hi
 rw [h1]
 simp [Tx2.nth_end]
theorem place_old {t : List Nd} {m n : Nd} (h : m ≠ n) : placeOf (t ++ [n]) m = placeOf t m := by
 unfold placeOf
 rw [List.length_append, List.length_singleton, List.range_succ, List.find?_append]
 have h2 : [t.length].find? (fun i => decide ((nth (t ++ [n]) i).op = m.op /\ (nth (t ++ [n]) i).w = m.w /\ (nth (t ++ [n]) i).k = m.k /\ (nth (t ++ [n]) i).a = m.a /\ (nth (t ++ [n]) i).b = m.b /\ (nth (t ++ [n]) i).c = m.c)) = none := by
  rw [List.find?_eq_none]
  intro i hi
  obtain rfl : i = t.length := by simpa using hi
  rw [Tx2.nth_end]
  simp only [decide_eq_true_eq]
  intro e
  exact h (Nd.ext' ⟨e.1.symm, e.2.1.symm, e.2.2.1.symm, e.2.2.2.1.symm, e.2.2.2.2.1.symm, e.2.2.2.2.2.symm⟩)
 rw [h2, Option.or_none]
 apply find_congr
 intro i hi
 rw [Tx2.nth_app (List.mem_range.1 hi)]
def Mp (w : World) (bm : Nat) (t : List Nd) : Prop :=
 ∃ D : DataW Unit, w.ownsMap Tryz.prog 33 (plainElem Tryz.prog 3) bm t.length D /\ ∀ n, WfN n -> (placeOf t n = none -> Maps.has D (keyN n) = false) /\ ∀ i, placeOf t n = some i -> Maps.has D (keyN n) = true /\ ∀ z, D.atKey (keyN n) z = .lit (.int .i64 (i : Int))
theorem Mp.new (w : World) : Mp (w.alloc (.map #[] 0)) w.heap.size [] :=
 ⟨.map [], World.ownsMap_made w _ _ _, fun n _ => ⟨fun _ => rfl, fun i hi => by cases hi⟩⟩
theorem Mp.lt {w : World} {bm : Nat} {t : List Nd} (h : Mp w bm t) : bm < w.heap.size := by obtain ⟨D, h, _⟩ := h; exact h.lt
theorem Mp.kept {w w' : World} {bm : Nat} {t : List Nd} (h : Mp w bm t) {S : Nat -> Prop} (k : Kept S w w') (hs : ¬ S bm) : Mp w' bm t := by
 obtain ⟨D, ho, hp⟩ := h
 refine ⟨D, ?_, hp⟩
 obtain ⟨es, clock, hb, F⟩ := ho
 exact ⟨es, clock, by rw [k.block bm (Array.getElem?_eq_some_iff.1 hb).1 hs]; exact hb, F⟩
theorem Mp.look {w : World} {bm : Nat} {t : List Nd} (h : Mp w bm t) {n : Nd} (hn : WfN n) :
 (Instr.lookup 81 (.map (some bm)) (agg n) true).run Tryz.prog w = .ok (.tuple #[.int .i64 ((placeOf t n).getD 0 : Nat), .bool (placeOf t n).isSome]) w := by
 obtain ⟨D, ho, hp⟩ := h
 obtain ⟨v, ps, hrun, hv⟩ := ho.look_ok law Tryz.underlying81 (zeroInt w) (plainElem_int Tryz.underlying3 (a := 0) rfl) (key_eq hn)
 rw [hrun]
 obtain ⟨h1, h2⟩ := hp n hn
 obtain ⟨a, rfl, hz, _⟩ := plainElem_int_inv Tryz.underlying3 hv
 cases hpl : placeOf t n with
 | none =>
   have hn0 := h1 hpl
   rw [Maps.atKey_of_not_has hn0] at hz
   rw [hn0]
   cases hz; rfl
 | some i =>
   obtain ⟨h3, h4⟩ := h2 i hpl
   rw [h3]
   rw [h4] at hz
   cases hz; rfl
theorem Mp.store {w : World} {bm : Nat} {t : List Nd} (h : Mp w bm t) {n : Nd} (hn : WfN n) (hp : placeOf t n = none) (hl : t.length <= 80) :
 ∃ w', (Instr.mapUpdate 81 (.map (some bm)) (agg n) (.int .i64 (t.length : Int))).run Tryz.prog w = .ok () w' /\ Mp w' bm (t ++ [n]) /\ Kept (fun k => k = bm) w w' := by
 obtain ⟨D, ho, hpp⟩ := h
 obtain ⟨w', hrun, ho', hg⟩ := ho.update law Tryz.underlying81 (by unfold maxLen; omega) (key_eq hn) (plainElem_int Tryz.underlying3 (a := (t.length : Int)) (wf_small (by omega) (by omega)))
 refine ⟨w', hrun, ⟨_, by rw [List.length_append]; exact ho', fun m hm => ?_⟩, ⟨hg.os, hg.tape, hg.output, hg.size, fun i hi hne => hg.block i hi (fun e => hne (by cases e; rfl))⟩⟩
 by_cases e : m = n
 ·subst e
  rw [place_new hp]
  refine ⟨fun h => (by cases h), fun i hi => ?_⟩
  cases hi
  exact ⟨Maps.has_put_same ho.isMap (law.key (key_eq hn)) _, fun z => Maps.atKey_put_same ho.isMap (law.key (key_eq hn)) _ z⟩
 ·rw [place_old e]
  have hk := key_ne hm hn e
  obtain ⟨h1, h2⟩ := hpp m hm
  refine ⟨fun h => by rw [Maps.has_put_other hk]; exact h1 h, fun i hi => ?_⟩
  obtain ⟨h3, h4⟩ := h2 i hi
  exact ⟨by rw [Maps.has_put_other hk]; exact h3, fun z => by rw [Maps.atKey_put_other hk]; exact h4 z⟩
end Mp0
end Go.Proofs.YtiaimhgfimhepaaGreatDoor
