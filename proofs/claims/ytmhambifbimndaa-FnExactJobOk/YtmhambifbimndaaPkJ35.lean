/- Small texts of mine, one behind the other. -/
import Derived.Test.YtmhambifbimndaaRows
import Derived.Maps.OwnSet
import Derived.WalkKit
import Derived.Laws.IdiomStrings
import Derived.Test.YtmhambifbimndaaNd0
import Derived.Test.YtmhambifbimndaaTa1
import Derived.Test.YtmhambifbimndaaPkJ25
/- The program's map from keys to verdicts. -/
namespace Go.Proofs.Ytmhambifbimndaa.Ms0
open Go.RowKit Go.Maps Go.WideMaps Go.ChangeMaps
open Nd0 (Kept)
set_option linter.unusedVariables false

theorem law : Keyed Try.prog 9 := string_keyed Try.underlying9
theorem zeroInt (w : World) : (zeroValue 3).run Try.prog w = .ok (.int .i64 0) w := by kernel_rfl
theorem wf_bit {x : Int} (h0 : -1 ≤ x) (h1 : x ≤ 1) : (Lit.int .i64 x).wf = true := by
  have e1 : IntKind.i64.min = -9223372036854775808 := by decide
  have e2 : IntKind.i64.max = 9223372036854775807 := by decide
  simp [Lit.wf, e1, e2]; omega
/-- The key that a text is. -/
noncomputable def keyS (x : ByteArray) : Lit := (keyOf Try.prog 9 (.string x)).getD .nil
theorem key_eq {x : ByteArray} (h : x.size ≤ maxLen) : keyOf Try.prog 9 (.string x) = some (keyS x) := by
  unfold keyS
  rw [keyOf_string_mk Try.underlying9 h]
  rfl
theorem key_ne {x y : ByteArray} (hx : x.size ≤ maxLen) (hy : y.size ≤ maxLen) (h : x ≠ y) : keyS x ≠ keyS y := fun e => h (by
  have := law.inj (key_eq hx) (by rw [key_eq hy, e])
  cases this
  rfl)
/-- The map in block bm has c keys, and says f. -/
def Ms (w : World) (bm : Nat) (c : Nat) (f : ByteArray → Option Int) : Prop :=
  ∃ D : DataW Unit, w.ownsMap Try.prog 9 (plainElem Try.prog 3) bm c D ∧ Maps.size D = c ∧ ∀ x, x.size ≤ maxLen → Maps.has D (keyS x) = (f x).isSome ∧ ∀ v z, f x = some v → D.atKey (keyS x) z = .lit (.int .i64 v)
theorem Ms.new (w : World) : Ms (w.alloc (.map #[] 0)) w.heap.size 0 (fun _ => none) :=
  ⟨.map [], World.ownsMap_made w _ _ _, rfl, fun x _ => ⟨rfl, fun v z h => by cases h⟩⟩
theorem Ms.lt {w : World} {bm c : Nat} {f : ByteArray → Option Int} (h : Ms w bm c f) : bm < w.heap.size := by obtain ⟨D, h, _⟩ := h; exact h.lt
theorem Ms.kept {w w' : World} {bm c : Nat} {f : ByteArray → Option Int} (h : Ms w bm c f) {S : Nat → Prop} (k : Kept S w w') (hs : ¬ S bm) : Ms w' bm c f := by
  obtain ⟨D, ho, hp⟩ := h
  refine ⟨D, ?_, hp⟩
  obtain ⟨es, clock, hb, F⟩ := ho
  exact ⟨es, clock, by rw [k.block bm (Array.getElem?_eq_some_iff.1 hb).1 hs]; exact hb, F⟩
theorem Ms.below {w w' : World} {bm c : Nat} {f : ByteArray → Option Int} (h : Ms w bm c f) (k : Below w.heap.size w w') : Ms w' bm c f := h.kept (S := fun _ => False) (Kept.ofBelow k) (fun h => h)
theorem Ms.len {w : World} {bm c : Nat} {f : ByteArray → Option Int} (h : Ms w bm c f) (ty : TypeId) : (Builtin.len_ #[74] ty #[.map (some bm)]).run Try.prog w = .ok (.int .i64 (c : Int)) w := by
  obtain ⟨D, ho, hc, _⟩ := h
  rw [ho.len Try.underlying74 ty, hc]
theorem Ms.look {w : World} {bm c : Nat} {f : ByteArray → Option Int} (h : Ms w bm c f) {x : ByteArray} (hx : x.size ≤ maxLen) :
    (Instr.lookup 74 (.map (some bm)) (.string x) true).run Try.prog w = .ok (.tuple #[.int .i64 ((f x).getD 0), .bool (f x).isSome]) w := by
  obtain ⟨D, ho, _, hp⟩ := h
  obtain ⟨v, ps, hrun, hv⟩ := ho.look_ok law Try.underlying74 (zeroInt w) (plainElem_int Try.underlying3 (a := 0) rfl) (key_eq hx)
  rw [hrun]
  obtain ⟨h1, h2⟩ := hp x hx
  obtain ⟨a, rfl, hz, _⟩ := plainElem_int_inv Try.underlying3 hv
  cases hf : f x with
  | none =>
    rw [hf] at h1
    rw [Maps.atKey_of_not_has h1] at hz
    rw [h1]
    cases hz; rfl
  | some i =>
    rw [hf] at h1
    rw [h1]
    rw [h2 i _ hf] at hz
    cases hz; rfl
/-- One more, or another word on an old one. -/
def putF (f : ByteArray → Option Int) (x : ByteArray) (v : Int) : ByteArray → Option Int := fun y => if y = x then some v else f y
def delF (f : ByteArray → Option Int) (x : ByteArray) : ByteArray → Option Int := fun y => if y = x then none else f y
set_option maxRecDepth 100000 in
theorem Ms.store {w : World} {bm c : Nat} {f : ByteArray → Option Int} (h : Ms w bm c f) {x : ByteArray} (hx : x.size ≤ maxLen) {v : Int} (hv0 : (Lit.int .i64 v).wf = true) (hl : c ≤ 1048576) :
    ∃ w', (Instr.mapUpdate 74 (.map (some bm)) (.string x) (.int .i64 v)).run Try.prog w = .ok () w' ∧ Ms w' bm (if (f x).isSome then c else c + 1) (putF f x v) ∧ Kept (fun k => k = bm) w w' := by
  obtain ⟨D, ho, hc, hpp⟩ := h
  obtain ⟨w', hrun, ho', hg⟩ := ho.update law Try.underlying74 (by unfold maxLen; omega) (key_eq hx) (plainElem_int Try.underlying3 (a := v) hv0)
  have hsz := Maps.size_put (ho.tidy law) (k := keyS x) (.lit (.int .i64 v))
  rw [(hpp x hx).1, hc] at hsz
  have hown : w'.ownsMap Try.prog 9 (plainElem Try.prog 3) bm (if (f x).isSome then c else c + 1) (D.put (keyS x) (.lit (.int .i64 v))) := by
    obtain ⟨es, clock, h1, h2, h3, h4⟩ := ho'
    refine ⟨es, clock, h1, h2, ?_, h4⟩
    have e1 : Maps.size (DataW.map ((es.toList.map (WideElems.rg Try.prog 9 (plainElem (H := Unit) Try.prog 3))).foldr DataW.insert [])) = es.size := by simp [Maps.size, length_sorted]
    rw [← h4, hsz] at e1
    omega
  refine ⟨w', hrun, ⟨_, hown, hsz, fun y hy => ?_⟩, ⟨hg.os, hg.tape, hg.output, hg.size, fun i hi hne => hg.block i hi (fun e => hne (by cases e; rfl))⟩⟩
  unfold putF
  by_cases e : y = x
  · subst e
    rw [if_pos rfl]
    exact ⟨Maps.has_put_same ho.isMap (law.key (key_eq hx)) _, fun u z hu => by cases hu; exact Maps.atKey_put_same ho.isMap (law.key (key_eq hx)) _ z⟩
  · rw [if_neg e]
    have hk := key_ne hy hx e
    obtain ⟨h1, h2⟩ := hpp y hy
    exact ⟨by rw [Maps.has_put_other hk]; exact h1, fun u z hu => by rw [Maps.atKey_put_other hk]; exact h2 u z hu⟩

end Go.Proofs.Ytmhambifbimndaa.Ms0

/- bits.OnesCount64: how many bits of a word are set. -/
namespace Go.Proofs.Ytmhambifbimndaa.Tc1
open Go.RowKit
open Ta0 Ta1
set_option linter.unusedVariables false

theorem ret_int {k : IntKind} {a b : Int} (h : a = b) : Ending.returned (.int k a) = .returned (.int k b) := by rw [h]
theorem msk85 : msk 85 8 = 6148914691236517205 := by decide
theorem msk51 : msk 51 8 = 3689348814741910323 := by decide
theorem msk15 : msk 15 8 = 1085102592571150095 := by decide
theorem and_le_sum (x m : Nat) : x &&& m ≤ m := Nat.and_le_right

end Go.Proofs.Ytmhambifbimndaa.Tc1

/- Packed tables: the table of one; how many bits are set; the bits in use; whether it needs a bit. -/
namespace Go.Proofs.Ytmhambifbimndaa.Tc6
open Go.RowKit
open Ta0 Ta1 Tc2 Tc4 Tc5
open Nd0 (Kept set_other set_same lt_of_cell)
open Ss0 (bs bs_size ret_str)
open Ss1 (tl tl_length tl_get tl_take bs_tl tl_bs tl_inj eqb)
set_option linter.unusedVariables false

theorem infoB : (Try.prog.info? 5).map (fun i => (i.zero, i.size, i.bytes)) = some (some (.int .u8 0), 1, 1) := by kernel_rfl
def noughtsB (n : Nat) : Array Value := madeCells #[.int .u8 0] (n * 1)
theorem noughtsB_get (n j : Nat) (h : j < n) : (noughtsB n)[j]? = some (.int .u8 0) := by
  simp only [noughtsB, madeCells, Array.getElem?_map, Array.getElem?_range]
  rw [if_pos (by omega)]
  simp only [Option.map_some]
  have e : j % 1 = 0 := Nat.mod_one j
  exact congrArg (fun m => some ((#[.int .u8 0] : Array Value)[m]!)) e
/-- Signs in block c, the first k of them written. -/
def Sgs (W : World) (c P k : Nat) (G : Nat → Bool) : Prop := ∀ j, j < P → (∃ v : Int, W.cell? ⟨c, j, none⟩ = some (.int .u8 v) ∧ (j < k → v = ((sgn (G j)).toNat : Int))) ∧ W.frozen? ⟨c, j, none⟩ = false
theorem Sgs.kept {W W' : World} {c P k : Nat} {G : Nat → Bool} (h : Sgs W c P k G) {S : Nat → Prop} (q : Kept S W W') (hs : ¬ S c) : Sgs W' c P k G := fun j hj => by
  obtain ⟨⟨v, h1, h2⟩, h3⟩ := h j hj
  have hg : c < W.heap.size := World.block_lt_of_cell? _ _ h1
  exact ⟨⟨v, by rw [q.cell (p := ⟨c, j, none⟩) hg hs]; exact h1, h2⟩, by rw [q.frozen (p := ⟨c, j, none⟩) hg hs]; exact h3⟩
theorem Sgs.below {W W' : World} {c P k : Nat} {G : Nat → Bool} (h : Sgs W c P k G) (q : Below W.heap.size W W') : Sgs W' c P k G := h.kept (S := fun _ => False) (Kept.ofBelow q) (fun h => h)
theorem Sgs.set {W : World} {c P k : Nat} {G : Nat → Bool} (h : Sgs W c P k G) (v : Int) (hv : v = ((sgn (G k)).toNat : Int)) : Sgs (W.setCell ⟨c, k, none⟩ (.int .u8 v)) c P (k + 1) G := fun j hj => by
  obtain ⟨⟨u, h1, h2⟩, h3⟩ := h j hj
  by_cases e : j = k
  · subst e
    exact ⟨⟨v, set_same h1, fun _ => hv⟩, by rw [World.frozen?_setCell]; exact h3⟩
  · exact ⟨⟨u, by rw [set_other (by simp <;> omega)]; exact h1, fun x => h2 (by omega)⟩, by rw [World.frozen?_setCell]; exact h3⟩
theorem Sgs.made (W : World) (P : Nat) (G : Nat → Bool) : Sgs (W.alloc (.cells (noughtsB P) 5)) W.heap.size P 0 G := fun j hj =>
  ⟨⟨0, by rw [World.cell?_alloc_new]; exact noughtsB_get _ _ hj, fun x => by omega⟩, by simp⟩
end Go.Proofs.Ytmhambifbimndaa.Tc6
