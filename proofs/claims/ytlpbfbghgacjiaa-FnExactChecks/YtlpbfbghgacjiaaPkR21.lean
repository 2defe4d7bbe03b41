/- Small texts of mine, one behind the other. -/
import Derived.Test.YtlpbfbghgacjiaaRows
import Derived.Maps.OwnSet
import Derived.Maps.Views
import Derived.DeepKeys4
import Derived.MapViews
import Derived.Deep.RegionHeld3
import Derived.Deep.CutBlock
import Derived.Test.YtlpbfbghgacjiaaPkR0
import Derived.Test.YtlpbfbghgacjiaaPkR2
import Derived.Test.YtlpbfbghgacjiaaPkR7
/- The map of values by spots: what it holds, a look-up, a store. -/
namespace Go.Proofs.Ytlpbfbghgacjiaa.Mv0
open Go.RowKit
open Nd0 (Kept)
open Go.Maps Go.WideMaps
set_option linter.unusedVariables false

theorem laidOut : laidOutB Try.prog = true := by kernel_rfl
theorem rowSpot : (85 : TypeId) < Try.prog.types.size := of_decide_eq_true (by kernel_rfl)
theorem wideSpot : (match Try.prog.underlying 85 with | some (.array _ _) | some (.struct _) => true | _ => false) = true := by kernel_rfl
set_option maxRecDepth 100000 in
theorem law : Keyed Try.prog 85 := Keyed.of_law (deep_law_laid laidOut (m := 2) (by omega) rowSpot (by kernel_rfl) wideSpot)
theorem zeroInt (w : World) : (zeroValue 3).run Try.prog w = .ok (.int .i64 0) w := by kernel_rfl
theorem wf_small {x : Nat} (h : x ≤ 1000000) : (Lit.int .i64 (x : Int)).wf = true := by
  have e1 : IntKind.i64.min = -9223372036854775808 := by decide
  have e2 : IntKind.i64.max = 9223372036854775807 := by decide
  simp [Lit.wf, e1, e2]; omega
/-- A spot: so many bits, told as a number. -/
abbrev Sp := Nat × Nat
def Sm (x : Sp) : Prop := x.1 ≤ 1000000 ∧ x.2 ≤ 1000000
def cl (x : Sp) : List Value := [.int .i64 (x.1 : Int), .int .i64 (x.2 : Int)]
abbrev agg (x : Sp) : Value := .agg #[.int .i64 (x.1 : Int), .int .i64 (x.2 : Int)]
theorem agg_inj {m n : Sp} (h : agg m = agg n) : m = n := by
  unfold agg at h
  injection h with h
  have h1 := congrArg (fun z => z.toList) h
  simp at h1
  exact Prod.ext (by omega) (by omega)
theorem lits_int (d : Nat) {x : Int} (h : (Lit.int .i64 x).wf = true) : Try.prog.keyLits (d + 1) 3 [.int .i64 x] = some [.int .i64 x] := by
  simp only [Program.keyLits, Try.underlying3]
  rw [if_pos ⟨trivial, h⟩]
theorem cellsInt : Try.prog.cellsOf 3 = 1 := by kernel_rfl
theorem cellsSpot : Try.prog.cellsOf 85 = 2 := by kernel_rfl
theorem underSpot : ∃ fs, Try.prog.underlying 85 = some (.struct fs) ∧ fs.all (·.name != "_") = true ∧ fs.toList.map (fun f => (f.type, f.offset)) = [(3, 0), (3, 1)] := ⟨_, Try.underlying85, by decide +kernel, by decide +kernel⟩
set_option maxRecDepth 100000 in
theorem lits_spot (d : Nat) {x : Sp} (h : Sm x) : ∃ l, Try.prog.keyLits (d + 1 + 1) 85 (cl x) = some l := by
  obtain ⟨h0, h1⟩ := h
  obtain ⟨fs, hu, hall, hts⟩ := underSpot
  have hlen : (cl x).length = Try.prog.cellsOf 85 := by rw [cellsSpot]; rfl
  unfold Program.keyLits
  simp only [hu]
  rw [if_pos ⟨hlen, hall⟩]
  have hm : (fs.toList.mapM fun f => Try.prog.keyLits (d + 1) f.type (((cl x).drop f.offset).take (Try.prog.cellsOf f.type))) = ((fs.toList.map (fun f => (f.type, f.offset))).mapM fun y => Try.prog.keyLits (d + 1) y.1 (((cl x).drop y.2).take (Try.prog.cellsOf y.1))) := by
    rw [List.mapM_map]
    simp only [Function.comp_def]
  rw [hm, hts]
  simp [cellsInt, cl, lits_int d (wf_small h0), lits_int d (wf_small h1)]
theorem formedSpot (x : Sp) : (agg x).formed Try.prog 85 = true := by
  obtain ⟨fs, hu, _, _⟩ := underSpot
  simp [Value.formed, hu, cellsSpot]
theorem key_some {x : Sp} (h : Sm x) : ∃ l, keyOf Try.prog 85 (agg x) = some l := by
  obtain ⟨d, hd⟩ : ∃ d, Try.prog.types.size + 1 = d + 1 + 1 := ⟨Try.prog.types.size - 1, by
    have h9 : 1 ≤ Try.prog.types.size := Nat.le_trans (by decide) (Nat.le_of_lt rowSpot)
    omega⟩
  obtain ⟨l, hl⟩ := lits_spot d h
  have hkt : Try.prog.keyType 85 = true := by kernel_rfl
  obtain ⟨fs, hu, _, _⟩ := underSpot
  unfold keyOf
  simp only [hu]
  rw [hkt, formedSpot, hd]
  refine ⟨.string (keyBytes l), ?_⟩
  have hc : (agg x).cells.toList = cl x := rfl
  rw [hc, hl]; rfl
noncomputable def keyA (x : Sp) : Lit := (keyOf Try.prog 85 (agg x)).getD .nil
theorem key_eq {x : Sp} (h : Sm x) : keyOf Try.prog 85 (agg x) = some (keyA x) := by
  obtain ⟨l, hl⟩ := key_some h
  unfold keyA; rw [hl]; rfl
theorem key_ne {m n : Sp} (hm : Sm m) (hn : Sm n) (h : m ≠ n) : keyA m ≠ keyA n := fun e => h (agg_inj (law.inj (key_eq hm) (by rw [key_eq hn, e])))

/-- The map in block bm has c keys and says f. -/
def Mv (w : World) (bm c : Nat) (f : Sp → Option Int) : Prop :=
  ∃ D : DataW Unit, w.ownsMap Try.prog 85 (plainElem Try.prog 3) bm c D ∧ ∀ x, Sm x → Maps.has D (keyA x) = (f x).isSome ∧ ∀ v z, f x = some v → D.atKey (keyA x) z = .lit (.int .i64 v)
theorem Mv.new (w : World) : Mv (w.alloc (.map #[] 0)) w.heap.size 0 (fun _ => none) :=
  ⟨.map [], World.ownsMap_made w _ _ _, fun x _ => ⟨rfl, fun v z h => by cases h⟩⟩
theorem Mv.lt {w : World} {bm c : Nat} {f : Sp → Option Int} (h : Mv w bm c f) : bm < w.heap.size := by obtain ⟨D, h, _⟩ := h; exact h.lt
theorem Mv.kept {w w' : World} {bm c : Nat} {f : Sp → Option Int} (h : Mv w bm c f) {S : Nat → Prop} (k : Kept S w w') (hs : ¬ S bm) : Mv w' bm c f := by
  obtain ⟨D, ho, hp⟩ := h
  refine ⟨D, ?_, hp⟩
  obtain ⟨es, clock, hb, F⟩ := ho
  exact ⟨es, clock, by rw [k.block bm (Array.getElem?_eq_some_iff.1 hb).1 hs]; exact hb, F⟩
theorem Mv.below {w w' : World} {bm c : Nat} {f : Sp → Option Int} (h : Mv w bm c f) (k : Below w.heap.size w w') : Mv w' bm c f := h.kept (S := fun _ => False) (Kept.ofBelow k) (fun h => h)
theorem Mv.look {w : World} {bm c : Nat} {f : Sp → Option Int} (h : Mv w bm c f) {x : Sp} (hx : Sm x) :
    (Instr.lookup 82 (.map (some bm)) (agg x) true).run Try.prog w = .ok (.tuple #[.int .i64 ((f x).getD 0), .bool (f x).isSome]) w := by
  obtain ⟨D, ho, hp⟩ := h
  obtain ⟨v, ps, hrun, hv⟩ := ho.look_ok law Try.underlying82 (zeroInt w) (plainElem_int Try.underlying3 (a := 0) rfl) (key_eq hx)
  rw [hrun]
  obtain ⟨h1, h2⟩ := hp x hx
  obtain ⟨a, rfl, hz, _⟩ := plainElem_int_inv Try.underlying3 hv
  cases hf : f x with
  | none =>
    rw [hf] at h1
    rw [Maps.atKey_of_not_has h1] at hz
    rw [h1]
    cases hz; rfl
  | some u =>
    rw [hf] at h1
    rw [h1]
    rw [h2 u _ hf] at hz
    cases hz; rfl
def putF (f : Sp → Option Int) (x : Sp) (v : Int) : Sp → Option Int := fun y => if y = x then some v else f y
set_option maxRecDepth 100000 in
theorem Mv.store {w : World} {bm c : Nat} {f : Sp → Option Int} (h : Mv w bm c f) {x : Sp} (hx : Sm x) {v : Int} (hv : (Lit.int .i64 v).wf = true) (hn : f x = none) (hl : c ≤ 1048576) :
    ∃ w' c', (Instr.mapUpdate 82 (.map (some bm)) (agg x) (.int .i64 v)).run Try.prog w = .ok () w' ∧ c' ≤ c + 1 ∧ Mv w' bm c' (putF f x v) ∧ Kept (fun k => k = bm) w w' := by
  obtain ⟨D, ho, hpp⟩ := h
  obtain ⟨w', hrun, ho', hg⟩ := ho.update law Try.underlying82 (by unfold maxLen; omega) (key_eq hx) (plainElem_int Try.underlying3 (a := v) hv)
  refine ⟨w', _, hrun, ?_, ⟨_, ho', fun m hm => ?_⟩, ⟨hg.os, hg.tape, hg.output, hg.size, fun i hi hne => hg.block i hi (fun e => hne (by cases e; rfl))⟩⟩
  · omega
  · unfold putF
    by_cases e : m = x
    · subst e
      rw [if_pos rfl]
      refine ⟨Maps.has_put_same ho.isMap (law.key (key_eq hx)) _, fun u z hu => ?_⟩
      cases hu
      exact Maps.atKey_put_same ho.isMap (law.key (key_eq hx)) _ z
    · rw [if_neg e]
      have hk := key_ne hm hx e
      obtain ⟨h1, h2⟩ := hpp m hm
      exact ⟨by rw [Maps.has_put_other hk]; exact h1, fun u z hu => by rw [Maps.atKey_put_other hk]; exact h2 u z hu⟩
end Go.Proofs.Ytlpbfbghgacjiaa.Mv0

/- A pick by value; the laws' small functions over one pick. -/
namespace Go.Proofs.Ytlpbfbghgacjiaa.Wp0
open Go.RowKit
open Nd0 (Kept Ints WInts IntsIn Ats marks marks_length lt_of_cell)
open Nd6 (toIntS eqIntB markIntB heldIntB)
open Tc5 (Lay)
set_option linter.unusedVariables false

/-- A pick's value. -/
abbrev pv (a : Option Addr) (n c : Nat) (v : Int) : Value := .agg #[.slice a n c, .int .i64 v]
/-- It lies in a block. -/
structure Pb (W : World) (b : Nat) (a : Option Addr) (n c : Nat) (v : Int) : Prop where
  c0 : W.cell? ⟨b, 0, none⟩ = some (.slice a n c)
  c1 : W.cell? ⟨b, 1, none⟩ = some (.int .i64 v)
theorem Pb.lt {W : World} {b : Nat} {a : Option Addr} {n c : Nat} {v : Int} (h : Pb W b a n c v) : b < W.heap.size := lt_of_cell h.c0
theorem Pb.kept {W W' : World} {b : Nat} {a : Option Addr} {n c : Nat} {v : Int} (h : Pb W b a n c v) {S : Nat → Prop} (k : Kept S W W') (hs : ¬ S b) : Pb W' b a n c v :=
  ⟨by rw [k.cell (p := ⟨b, 0, none⟩) h.lt hs]; exact h.c0, by rw [k.cell (p := ⟨b, 1, none⟩) h.lt hs]; exact h.c1⟩
theorem Pb.below {W W' : World} {b : Nat} {a : Option Addr} {n c : Nat} {v : Int} (h : Pb W b a n c v) (k : Below W.heap.size W W') : Pb W' b a n c v := h.kept (S := fun _ => False) (Kept.ofBelow k) (fun h => h)
theorem Pb.made (W : World) (a : Option Addr) (n c : Nat) (v : Int) (T : Nat) : Pb (W.alloc (.cells #[.slice a n c, .int .i64 v] T)) W.heap.size a n c v := ⟨by simp, by simp⟩

set_option maxHeartbeats 400000 in
theorem szIntS (w : World) (a : Option Addr) (n c : Nat) (left : Int) (h0 : 0 ≤ left) (h1 : left ≤ 1048576) (hn : n ≤ maxLen) :
    Calls Try.prog 70 #[.slice a n c, .int .i64 left] w fun e w' => e = .returned (.int .i64 (if (n : Int) ≤ left then left - n else -1)) ∧ w' = w := by
  unfold maxLen at hn
  by_cases hc : (n : Int) ≤ left
  · go_enter Try.func70, Try.ntmps70
    go_wp2
    go_ret
    exact ⟨rfl, rfl⟩
  · go_enter Try.func70, Try.ntmps70
    go_wp2
    go_ret
    exact ⟨rfl, rfl⟩
set_option maxHeartbeats 1000000 in
theorem szPick (w : World) (a : Option Addr) (n c : Nat) (v left : Int) (h0 : 0 ≤ left) (h1 : left ≤ 1048576) (hn : n ≤ maxLen) :
    Calls Try.prog 32 #[pv a n c v, .int .i64 left] w fun e w' => e = .returned (.int .i64 (if (n : Int) ≤ left then left - n else -1)) ∧ Below w.heap.size w w' := by
  have HB : Hid (Below w.heap.size w (w.alloc (.cells #[.slice a n c, .int .i64 v] 57))) := (Below.refl _ _).alloc (Nat.le_refl _) _
  have HSZ : Hid (∀ W, Calls Try.prog 70 #[.slice a n c, .int .i64 left] W fun e w' => e = .returned (.int .i64 (if (n : Int) ≤ left then left - n else -1)) ∧ w' = W) := fun W => szIntS W a n c left h0 h1 hn
  by_cases hc : (n : Int) ≤ left
  · rw [if_pos hc] at HSZ ⊢
    have hz : ¬ left - (n : Int) < 0 := by omega
    go_enter Try.func32, Try.ntmps32
    go_wp2_with (go_at_call 70; refine (HSZ.out _).mono ?_; rintro e w' ⟨rfl, hw'⟩; have hw'' := hw'.symm; clear hw'; subst hw'')
    go_ret
    exact ⟨rfl, HB.out⟩
  · rw [if_neg hc] at HSZ ⊢
    go_enter Try.func32, Try.ntmps32
    go_wp2_with (go_at_call 70; refine (HSZ.out _).mono ?_; rintro e w' ⟨rfl, hw'⟩; have hw'' := hw'.symm; clear hw'; subst hw'')
    go_ret
    exact ⟨rfl, HB.out⟩
set_option maxHeartbeats 2000000 in
theorem toPick (w : World) (a : Option Addr) (l : List Int) (c : Nat) (v : Int) (h : Ints w a l) (hl : l.length ≤ 1048576) :
    Calls Try.prog 34 #[pv a l.length c v] w fun e w' => ∃ g, e = .returned (pv (some ⟨g, 0, none⟩) l.length l.length v) ∧ IntsIn w' w.heap.size w'.heap.size (some ⟨g, 0, none⟩) l ∧ Below w.heap.size w w' := by
  have H : Hid (Ints w a l) := h
  clear h
  obtain ⟨X1, hX1⟩ : ∃ X, X = w.alloc (.cells #[.slice a l.length c, .int .i64 v] 57) := ⟨_, rfl⟩
  obtain ⟨X2, hX2⟩ : ∃ X, X = X1.alloc (.cells #[.slice none 0 0, .int .i64 0] 60) := ⟨_, rfl⟩
  obtain ⟨X0, hX0⟩ : ∃ X, X = X2.alloc (.cells #[.slice none 0 0, .int .i64 0] 60) := ⟨_, rfl⟩
  have s1 : X1.heap.size = w.heap.size + 1 := by rw [hX1]; simp
  have s2 : X2.heap.size = w.heap.size + 1 + 1 := by rw [hX2]; simp [s1]
  have b1 : Below w.heap.size w X1 := by rw [hX1]; exact (Below.refl _ _).alloc (Nat.le_refl _) _
  have b2 : Below w.heap.size w X2 := by rw [hX2]; exact b1.alloc (by omega) _
  have b0 : Below w.heap.size w X0 := by rw [hX0]; exact b2.alloc (by omega) _
  have HB : Hid (Below w.heap.size w X0) := b0
  have HP : Hid (Pb X0 w.heap.size a l.length c v) := by
    have h1 := Pb.made w a l.length c v 57
    rw [← hX1] at h1
    rw [hX0, hX2]
    exact (h1.kept (S := fun _ => False) ((Kept.refl _ _).alloc _) (fun h => h)).kept (S := fun _ => False) ((Kept.refl _ _).alloc _) (fun h => h)
  have HL2 : Hid (Lay X0 (w.heap.size + 1) (.slice none 0 0) (.int .i64 0)) := by
    have h1 := Lay.made X1 (.slice none 0 0) (.int .i64 0) 60
    rw [← hX2, s1] at h1
    rw [hX0]
    exact h1.alloc _
  have HL3 : Hid (Lay X0 (w.heap.size + 1 + 1) (.slice none 0 0) (.int .i64 0)) := by
    have h1 := Lay.made X2 (.slice none 0 0) (.int .i64 0) 60
    rw [← hX0, s2] at h1
    exact h1
  have hE : ((w.alloc (.cells #[.slice a l.length c, .int .i64 v] 57)).alloc (.cells #[.slice none 0 0, .int .i64 0] 60)).alloc (.cells #[.slice none 0 0, .int .i64 0] 60) = X0 := by rw [hX0, hX2, hX1]
  clear hX1 hX2 hX0 s1 s2 b1 b2 b0
  go_enter Try.func34, Try.ntmps34
  go_upto_region 2 with fail
  clear hE
  obtain ⟨p0, p1⟩ := HP.out
  have hp := HP.out.lt
  go_wp2_with fail
  clear p0 p1 hp
  refine (toIntS X0 a l c (H.out.below HB.out) hl).mono ?_
  rintro e w1 ⟨rfl, hw, hb⟩
  obtain ⟨g, hg⟩ : ∃ g, g = X0.heap.size := ⟨_, rfl⟩
  have hg3 : w.heap.size + 1 + 1 < g := by rw [hg]; exact HL3.out.lt
  rw [← hg] at hw ⊢
  have HW : Hid (WInts w1 g (some ⟨g, 0, none⟩) l) := hw
  obtain ⟨p0, p1⟩ := HP.out.below hb
  have hp := lt_of_cell p0
  have L2 := HL2.out.below hb
  have L3 := HL3.out.below hb
  have HL2' : Hid (Lay w1 (w.heap.size + 1) (.slice none 0 0) (.int .i64 0)) := L2
  have HL3' : Hid (Lay w1 (w.heap.size + 1 + 1) (.slice none 0 0) (.int .i64 0)) := L3
  obtain ⟨d0, d1, d2, d3⟩ := L2
  obtain ⟨e0, e1, e2, e3⟩ := L3
  have hd := lt_of_cell d0
  have he := lt_of_cell e0
  have HB1 : Hid (Below w.heap.size w w1) := HB.out.trans (hb.mono HB.out.size)
  clear hb hw hg HL2 HL3 HP HB H
  go_wp2
  clear d0 d1 d2 d3 e0 e1 e2 e3 p0 p1
  obtain ⟨Y, hY⟩ : ∃ Y, Y = (w1.setCell ⟨w.heap.size + 1 + 1, 0, none⟩ (.slice (some ⟨g, 0, none⟩) l.length l.length)).setCell ⟨w.heap.size + 1 + 1, 1, none⟩ (.int .i64 v) := ⟨_, rfl⟩
  rw [← hY]
  have KY : Kept (fun b => b = w.heap.size + 1 + 1) w1 Y := by rw [hY]; exact ((Kept.refl (fun b => b = w.heap.size + 1 + 1) w1).setCell (p := ⟨w.heap.size + 1 + 1, 0, none⟩) rfl _).setCell (p := ⟨w.heap.size + 1 + 1, 1, none⟩) rfl _
  have L2 := (HL2'.out.kept KY (by omega)).put (.slice (some ⟨g, 0, none⟩) l.length l.length) (.int .i64 v)
  obtain ⟨Z, hZ⟩ : ∃ Z, Z = (Y.setCell ⟨w.heap.size + 1, 0, none⟩ (.slice (some ⟨g, 0, none⟩) l.length l.length)).setCell ⟨w.heap.size + 1, 1, none⟩ (.int .i64 v) := ⟨_, rfl⟩
  rw [← hZ] at L2 ⊢
  have KZ : Kept (fun b => b = w.heap.size + 1) Y Z := by rw [hZ]; exact ((Kept.refl (fun b => b = w.heap.size + 1) Y).setCell (p := ⟨w.heap.size + 1, 0, none⟩) rfl _).setCell (p := ⟨w.heap.size + 1, 1, none⟩) rfl _
  have K : Kept (fun b => w.heap.size ≤ b ∧ b < g) w1 Z := (KY.mono (fun b hb => ⟨by omega, by omega⟩)).trans (KZ.mono (fun b hb => ⟨by omega, by omega⟩))
  clear hY hZ KY KZ
  have HIN : IntsIn Z w.heap.size Z.heap.size (some ⟨g, 0, none⟩) l := by
    refine ⟨HW.out.1, ?_⟩
    rcases HW.out.2 with e | ⟨b, o, ha, hB, hc⟩
    · exact .inl e
    · by_cases e : l.length = 0
      · exact .inl e
      have hlt := lt_of_cell (hc 0 (by omega)).1
      have hlt' : b < w1.heap.size := hlt
      have hs := K.size
      exact .inr ⟨b, o, ha, by omega, by omega, fun i hi => ⟨by rw [K.cell (p := ⟨b, o + i, none⟩) hlt' (by show ¬ (_ ∧ b < g); omega)]; exact (hc i hi).1, by rw [K.frozen (p := ⟨b, o + i, none⟩) hlt' (by show ¬ (_ ∧ b < g); omega)]; exact (hc i hi).2⟩⟩
  obtain ⟨d0, d1, d2, d3⟩ := L2
  exact bodyPost_ret (v := pv (some ⟨g, 0, none⟩) l.length l.length v) (by simp [results, Try.results34, go_sem, d0, d1]) rfl ⟨g, rfl, HIN, HB1.out.trans (K.below (fun b hb => hb.1) HB1.out.size)⟩
set_option maxHeartbeats 2000000 in
theorem eqPick (w : World) (a a' : Option Addr) (l : List Int) (c c' : Nat) (v : Int) (h : Ints w a l) (h' : Ints w a' l) :
    Calls Try.prog 36 #[pv a l.length c v, pv a' l.length c' v] w fun e w' => e = .returned (.bool true) ∧ Below w.heap.size w w' := by
  have H : Hid (Ints w a l) := h
  have H' : Hid (Ints w a' l) := h'
  clear h h'
  obtain ⟨X0, hX0⟩ : ∃ X, X = (w.alloc (.cells #[.slice a l.length c, .int .i64 v] 60)).alloc (.cells #[.slice a' l.length c', .int .i64 v] 60) := ⟨_, rfl⟩
  have HB : Hid (Below w.heap.size w X0) := by rw [hX0]; exact ((Below.refl _ _).alloc (Nat.le_refl _) _).alloc (by simp) _
  have HP : Hid (Pb X0 w.heap.size a l.length c v) := by rw [hX0]; exact (Pb.made _ _ _ _ _ _).kept (S := fun _ => False) ((Kept.refl _ _).alloc _) (fun h => h)
  have HQ : Hid (Pb X0 (w.heap.size + 1) a' l.length c' v) := by
    have := Pb.made (w.alloc (.cells #[.slice a l.length c, .int .i64 v] 60)) a' l.length c' v 60
    rw [← hX0] at this
    have h2 : Pb X0 (w.heap.size + 1) a' l.length c' v := by simpa using this
    exact h2
  have hvv : (v != v) = false := by simp
  go_enter Try.func36, Try.ntmps36
  go_upto_region 1 with fail
  rw [← hX0]
  clear hX0
  obtain ⟨p0, p1⟩ := HP.out
  obtain ⟨q0, q1⟩ := HQ.out
  have hp := HP.out.lt
  have hq := HQ.out.lt
  go_wp2_with fail
  clear p0 p1 q0 q1 hp hq
  refine (eqIntB _ a a' l c c' (H.out.below HB.out) (H'.out.below HB.out)).mono ?_
  rintro e w1 ⟨rfl, hb⟩
  obtain ⟨p0, p1⟩ := HP.out.below hb
  obtain ⟨q0, q1⟩ := HQ.out.below hb
  have hp := lt_of_cell p0
  have hq := lt_of_cell q0
  have HB1 : Hid (Below w.heap.size w w1) := HB.out.trans (hb.mono HB.out.size)
  clear hb
  go_wp2
  go_ret
  exact ⟨rfl, HB1.out⟩
set_option maxHeartbeats 2000000 in
theorem markPick (w : World) (B : Nat) (a : Option Addr) (l : List Int) (c : Nat) (v : Int) (h : WInts w B a l) (hl : l.length ≤ 1048576) :
    Calls Try.prog 39 #[pv a l.length c v, .int .i64 1] w fun e w' => e = .returned (.int .i64 (1 + (l.length : Int))) ∧ WInts w' B a (marks l.length 1) ∧ Kept (Ats l.length a) w w' := by
  have K0 : Kept (fun _ => False) w (w.alloc (.cells #[.slice a l.length c, .int .i64 v] 60)) := (Kept.refl _ _).alloc _
  have HK : Hid (Kept (Ats l.length a) w (w.alloc (.cells #[.slice a l.length c, .int .i64 v] 60))) := K0.mono (fun _ e => e.elim)
  have HW : Hid (WInts (w.alloc (.cells #[.slice a l.length c, .int .i64 v] 60)) B a l) := by
    refine ⟨h.1, ?_⟩
    rcases h.2 with e | ⟨b, o, ha, hB, hc⟩
    · exact .inl e
    · exact .inr ⟨b, o, ha, hB, fun i hi => ⟨by rw [K0.cell (p := ⟨b, o + i, none⟩) (lt_of_cell (hc i hi).1) (fun h => h)]; exact (hc i hi).1, by rw [K0.frozen (p := ⟨b, o + i, none⟩) (lt_of_cell (hc i hi).1) (fun h => h)]; exact (hc i hi).2⟩⟩
  clear K0 h
  go_enter Try.func39, Try.ntmps39
  go_wp2_with fail
  refine (markIntB _ B a l c HW.out 1 (by omega) (by omega) hl).mono ?_
  rintro e w1 ⟨rfl, hw, hk⟩
  have HW1 : Hid (WInts w1 B a (marks l.length 1)) := hw
  have HK1 : Hid (Kept (Ats l.length a) w w1) := HK.out.trans hk
  clear hw hk
  go_wp2
  go_ret
  exact ⟨rfl, HW1.out, HK1.out⟩
set_option maxHeartbeats 2000000 in
theorem heldPick (w : World) (a : Option Addr) (n c : Nat) (v : Int) (h : Ints w a (marks n 1)) (hl : n ≤ 1048576) :
    Calls Try.prog 40 #[pv a n c v, .int .i64 1] w fun e w' => e = .returned (.int .i64 (1 + (n : Int))) ∧ Below w.heap.size w w' := by
  have HB : Hid (Below w.heap.size w (w.alloc (.cells #[.slice a n c, .int .i64 v] 60))) := (Below.refl _ _).alloc (Nat.le_refl _) _
  have H : Hid (Ints (w.alloc (.cells #[.slice a n c, .int .i64 v] 60)) a (marks n 1)) := h.below HB.out
  clear h
  have hz : ¬ (1 : Int) + (n : Int) < 0 := by omega
  go_enter Try.func40, Try.ntmps40
  go_wp2_with fail
  refine (heldIntB _ a n c 1 H.out (by omega) (by omega) hl).mono ?_
  rintro e w1 ⟨rfl, hw⟩
  have hw' := hw.symm
  clear hw
  subst hw'
  go_wp2
  go_ret
  exact ⟨rfl, HB.out⟩
end Go.Proofs.Ytlpbfbghgacjiaa.Wp0
