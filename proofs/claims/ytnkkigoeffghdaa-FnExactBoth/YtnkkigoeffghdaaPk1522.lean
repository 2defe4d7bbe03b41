/- Small texts of mine, one behind the other. -/
import Derived.Test.YtnkkigoeffghdaaRows
import Derived.WalkKit
import Derived.WalkSpells
import Derived.Stop.Asserts
import Derived.Deep.MidRow
import Derived.Test.YtnkkigoeffghdaaPk150
import Derived.Test.YtnkkigoeffghdaaPk1516
import Derived.Test.YtnkkigoeffghdaaPk1511
import Derived.Test.YtnkkigoeffghdaaPk158
/- Quants as plain data, and what it is that a slice of them can be read, written, kept. Written by tools/mkflat.py. -/
namespace Go.Proofs.Ytnkkigoeffghdaa.Qa0
open Go.RowKit
open Nd0
set_option linter.unusedVariables false

structure Qu where
  all : Bool
  vr : Int
  bits : Int

def Qu.zero : Qu := ⟨false, 0, 0⟩
def Qu.cells (x : Qu) : List Value := [.bool x.all, .int .i64 x.vr, .int .i64 x.bits]
structure QuAt (w : World) (b p : Nat) (n : Qu) : Prop where
  c0 : w.cell? ⟨b, p, none⟩ = some (.bool n.all)
  c1 : w.cell? ⟨b, p + 1, none⟩ = some (.int .i64 n.vr)
  c2 : w.cell? ⟨b, p + 2, none⟩ = some (.int .i64 n.bits)
/-- A slice of l can be read at address a. -/
def Qus (w : World) (a : Option Addr) (l : List Qu) : Prop :=
  l.length ≤ maxLen ∧ (l.length = 0 ∨ ∃ b o, a = some ⟨b, o, none⟩ ∧ ∀ i (h : i < l.length), QuAt w b (o + i * 3) l[i])
theorem QuAt.lt {w : World} {b p : Nat} {n : Qu} (h : QuAt w b p n) : b < w.heap.size := lt_of_cell (p := ⟨b, p, none⟩) h.c0
theorem QuAt.below {w w' : World} {b p : Nat} {n : Qu} (h : QuAt w b p n) {B : Nat} (k : Below B w w') (hb : b < B) : QuAt w' b p n :=
  ⟨by rw [k.cell hb]; exact h.c0, by rw [k.cell hb]; exact h.c1, by rw [k.cell hb]; exact h.c2⟩
theorem Qus.below {w w' : World} {a : Option Addr} {l : List Qu} (h : Qus w a l) (k : Below w.heap.size w w') : Qus w' a l := by
  refine ⟨h.1, ?_⟩
  rcases h.2 with h0 | ⟨b, o, rfl, hc⟩
  · exact .inl h0
  · exact .inr ⟨b, o, rfl, fun i hi => (hc i hi).below k (hc i hi).lt⟩
theorem Qus.kept {w w' : World} {a : Option Addr} {l : List Qu} (h : Qus w a l) {S : Nat → Prop} (k : Kept S w w') (hs : ∀ x, a = some x → ¬ S x.block) : Qus w' a l := by
  refine ⟨h.1, ?_⟩
  rcases h.2 with h0 | ⟨b, o, rfl, hc⟩
  · exact .inl h0
  · refine .inr ⟨b, o, rfl, fun i hi => ?_⟩
    have hb := (hc i hi).lt
    have hn : ¬ S b := hs ⟨b, o, none⟩ rfl
    obtain ⟨c0, c1, c2⟩ := hc i hi
    exact ⟨by rw [k.cell hb hn]; exact c0, by rw [k.cell hb hn]; exact c1, by rw [k.cell hb hn]; exact c2⟩
/-- A slice of l, in a block from B on, that may be written. -/
def WQus (w : World) (B : Nat) (a : Option Addr) (l : List Qu) : Prop :=
  l.length ≤ maxLen ∧ (l.length = 0 ∨ ∃ b o, a = some ⟨b, o, none⟩ ∧ B ≤ b ∧ (∀ i (h : i < l.length), QuAt w b (o + i * 3) l[i]) ∧ ∀ j, j < l.length * 3 → w.frozen? ⟨b, o + j, none⟩ = false)
theorem WQus.plain {w : World} {B : Nat} {a : Option Addr} {l : List Qu} (h : WQus w B a l) : Qus w a l := by
  refine ⟨h.1, ?_⟩
  rcases h.2 with h0 | ⟨b, o, ha, _, hc, _⟩
  · exact .inl h0
  · exact .inr ⟨b, o, ha, hc⟩
def setQu (w : World) (b p : Nat) (n : Qu) : World :=
  ((w.setCell ⟨b, p, none⟩ (.bool n.all)).setCell ⟨b, p + 1, none⟩ (.int .i64 n.vr)).setCell ⟨b, p + 2, none⟩ (.int .i64 n.bits)
theorem setQu_same {w : World} {b p : Nat} {v n : Qu} (h : QuAt w b p v) : QuAt (setQu w b p n) b p n := by
  obtain ⟨c0, c1, c2⟩ := h
  unfold setQu
  refine ⟨?_, ?_, ?_⟩
  · rw [set_other (by simp), set_other (by simp)]; exact set_same (c0)
  · rw [set_other (by simp)]; exact set_same (by rw [set_other (by simp)]; exact c1)
  · exact set_same (by rw [set_other (by simp), set_other (by simp)]; exact c2)
theorem setQu_cell {w : World} {b p : Nat} {n : Qu} {q : Nat} (h : q < p ∨ p + 3 ≤ q) : (setQu w b p n).cell? ⟨b, q, none⟩ = w.cell? ⟨b, q, none⟩ := by
  unfold setQu
  rw [set_other (by simp <;> omega), set_other (by simp <;> omega), set_other (by simp <;> omega)]
theorem setQu_frozen {w : World} {b p : Nat} {n : Qu} {q : Addr} : (setQu w b p n).frozen? q = w.frozen? q := by
  unfold setQu; simp only [World.frozen?_setCell]
theorem setQu_size {w : World} {b p : Nat} {n : Qu} : (setQu w b p n).heap.size = w.heap.size := by
  simp [setQu, World.setCell]
theorem setQu_other {w : World} {b p q : Nat} {v n : Qu} (h : QuAt w b q v) (hq : q + 3 ≤ p ∨ p + 3 ≤ q) : QuAt (setQu w b p n) b q v := by
  obtain ⟨c0, c1, c2⟩ := h
  exact ⟨by rw [setQu_cell (by omega)]; exact c0, by rw [setQu_cell (by omega)]; exact c1, by rw [setQu_cell (by omega)]; exact c2⟩
theorem setQu_keptS {S : Nat → Prop} {b p : Nat} {u w : World} {n : Qu} (hS : S b) (h : Kept S u w) : Kept S u (setQu w b p n) :=
  ((h.setCell (p := ⟨b, p, none⟩) hS _).setCell (p := ⟨b, p + 1, none⟩) hS _).setCell (p := ⟨b, p + 2, none⟩) hS _
theorem setQu_kept {b o p : Nat} {u w : World} {n : Qu} (h : Kept (At (some ⟨b, o, none⟩)) u w) : Kept (At (some ⟨b, o, none⟩)) u (setQu w b p n) :=
  setQu_keptS ⟨⟨b, o, none⟩, rfl, rfl⟩ h
/-- A slice of l, in a block from B on and below U, that may be written. -/
def QusIn (w : World) (B U : Nat) (a : Option Addr) (l : List Qu) : Prop :=
  l.length ≤ maxLen ∧ (l.length = 0 ∨ ∃ b o, a = some ⟨b, o, none⟩ ∧ B ≤ b ∧ b < U ∧ (∀ i (h : i < l.length), QuAt w b (o + i * 3) l[i]) ∧ ∀ j, j < l.length * 3 → w.frozen? ⟨b, o + j, none⟩ = false)
theorem WQus.within {w : World} {B : Nat} {a : Option Addr} {l : List Qu} (h : WQus w B a l) : QusIn w B w.heap.size a l := by
  refine ⟨h.1, ?_⟩
  by_cases e : l.length = 0
  · exact .inl e
  · rcases h.2 with h0 | ⟨b, o, ha, hB, hc, hf⟩
    · exact .inl h0
    · exact .inr ⟨b, o, ha, hB, (hc 0 (by omega)).lt, hc, hf⟩
theorem QusIn.wr {w : World} {B U : Nat} {a : Option Addr} {l : List Qu} (h : QusIn w B U a l) : WQus w B a l := by
  refine ⟨h.1, ?_⟩
  rcases h.2 with h0 | ⟨b, o, ha, hB, _, hc, hf⟩
  · exact .inl h0
  · exact .inr ⟨b, o, ha, hB, hc, hf⟩
theorem QusIn.kept {w w' : World} {B U : Nat} {a : Option Addr} {l : List Qu} (h : QusIn w B U a l) {S : Nat → Prop} (k : Kept S w w') (hs : ∀ b, B ≤ b → b < U → ¬ S b) : QusIn w' B U a l := by
  refine ⟨h.1, ?_⟩
  by_cases e : l.length = 0
  · exact .inl e
  rcases h.2 with h0 | ⟨b, o, rfl, hB, hU, hc, hf⟩
  · exact .inl h0
  · have hb : b < w.heap.size := (hc 0 (by omega)).lt
    have hn : ¬ S b := hs b hB hU
    refine .inr ⟨b, o, rfl, hB, hU, fun i hi => ?_, fun j hj => by rw [k.frozen (p := ⟨b, o + j, none⟩) hb hn]; exact hf j hj⟩
    obtain ⟨c0, c1, c2⟩ := hc i hi
    exact ⟨by rw [k.cell hb hn]; exact c0, by rw [k.cell hb hn]; exact c1, by rw [k.cell hb hn]; exact c2⟩
theorem QusIn.again {w w' : World} {B U : Nat} {a : Option Addr} {l l' : List Qu} (h : QusIn w B U a l) (h' : WQus w' B a l') (e : l'.length = l.length) : QusIn w' B U a l' := by
  refine ⟨h'.1, ?_⟩
  rcases h.2 with h0 | ⟨b, o, rfl, hB, hU, hc, hf⟩
  · exact .inl (by omega)
  · rcases h'.2 with h0 | ⟨b', o', ha, hB', hc', hf'⟩
    · exact .inl h0
    · cases ha
      exact .inr ⟨b, o, rfl, hB, hU, hc', hf'⟩
theorem QusIn.ats {w : World} {B U : Nat} {a : Option Addr} {l : List Qu} (h : QusIn w B U a l) {k : Nat} (hk : Ats l.length a k) : B ≤ k ∧ k < U := by
  obtain ⟨hp, x, hx, rfl⟩ := hk
  rcases h.2 with h0 | ⟨b, o, rfl, hB, hU, _⟩
  · omega
  · cases hx; exact ⟨hB, hU⟩
theorem QusIn.below {w w' : World} {B U : Nat} {a : Option Addr} {l : List Qu} (h : QusIn w B U a l) (k : Below w.heap.size w w') : QusIn w' B U a l :=
  h.kept (S := fun _ => False) (Kept.ofBelow k) (fun _ _ _ h => h)
theorem QusIn.plain {w : World} {B U : Nat} {a : Option Addr} {l : List Qu} (h : QusIn w B U a l) : Qus w a l := h.wr.plain
/-- Marks from z on. -/
def mkQu (z : Int) : Qu := ⟨(z) % 3 == 0, z + 1, z + 1 + 1⟩
def markQu (n : Nat) (k0 : Int) : List Qu := (List.range n).map fun (i : Nat) => (mkQu (k0 + 3 * (i : Int)))
theorem markQu_length (n : Nat) (k0 : Int) : (markQu n k0).length = n := by simp [markQu]
theorem markQu_get (n : Nat) (k0 : Int) (i : Nat) (h : i < (markQu n k0).length) : (markQu n k0)[i] = (mkQu (k0 + 3 * (i : Int))) := by simp [markQu]

end Go.Proofs.Ytnkkigoeffghdaa.Qa0

/- Memory that calls leave as it is: three small laws. -/
namespace Go.Proofs.Ytnkkigoeffghdaa.Kp0
open Go.RowKit
open Nd0

theorem below_drewN {B : Nat} {u w : World} (h : Below B u w) (n : Nat) : Below B u (w.drewN n) := ⟨h.os, h.tape, h.output, h.size, h.block⟩
theorem intsIn_below {w w' : World} {B U : Nat} {a : Option Addr} {l : List Int} (h : IntsIn w B U a l) (k : Below w.heap.size w w') : IntsIn w' B U a l :=
  h.kept (S := fun _ => False) (Kept.ofBelow k) (fun _ _ _ h => h)
theorem keep {B : Nat} {u v w : World} (h : Below B u v) (k : Below v.heap.size v w) (hB : B ≤ v.heap.size) : Below B u w := h.trans (k.mono hB)

end Go.Proofs.Ytnkkigoeffghdaa.Kp0

/- The two kinds of quantifiers of the program: values of an interface. -/
namespace Go.Proofs.Ytnkkigoeffghdaa.Qi0
open Go.RowKit
open Nd0 Qa0
set_option linter.unusedVariables false

/-- A quantifier as the program has it. -/
def qv (x : Qu) : Value := .iface (if x.all then 104 else 105) (.agg #[.int .i64 x.vr, .int .i64 x.bits])

set_option maxHeartbeats 1000000 in
theorem iNewQ (al : Bool) (v b : Int) (w : World) :
    Calls Try.prog 57 #[.bool al, .int .i64 v, .int .i64 b] w fun e w' => e = .returned (qv ⟨al, v, b⟩) ∧ w' = w := by
  cases al
  all_goals
    go_enter Try.func57, Try.ntmps57
    go_wp2
    go_ret
    exact ⟨rfl, rfl⟩

theorem qv_all (v b : Int) : qv ⟨true, v, b⟩ = .iface 104 (.agg #[.int .i64 v, .int .i64 b]) := rfl
theorem qv_some (v b : Int) : qv ⟨false, v, b⟩ = .iface 105 (.agg #[.int .i64 v, .int .i64 b]) := rfl

theorem asksNo (v b : Int) (w : World) : (Instr.typeAssert (.iface 105 (.agg #[.int .i64 v, .int .i64 b])) 63 104 true).run Try.prog w = .ok (.tuple #[.agg #[.int .i64 0, .int .i64 0], .bool false]) w := by kernel_rfl
theorem asksYes (v b : Int) (w : World) : (Instr.typeAssert (.iface 104 (.agg #[.int .i64 v, .int .i64 b])) 63 104 true).run Try.prog w = .ok (.tuple #[.agg #[.int .i64 v, .int .i64 b], .bool true]) w := by kernel_rfl

set_option maxRecDepth 100000 in
set_option maxHeartbeats 1000000 in
theorem iOpOf (x : Qu) (w : World) :
    Calls Try.prog 92 #[qv x] w fun e w' => e = .returned (.int .i64 (if x.all then 19 else 20)) ∧ w' = w := by
  obtain ⟨al, v, b⟩ := x
  cases al
  · have hm := asksNo v b
    rw [qv_some]
    go_enter Try.func92, Try.ntmps92
    go_wp2
    go_ret
    exact ⟨rfl, rfl⟩
  · have hm := asksYes v b
    rw [qv_all]
    go_enter Try.func92, Try.ntmps92
    go_wp2
    go_ret
    exact ⟨rfl, rfl⟩

theorem findAll (v b : Int) (w : World) : (method 256 104 (.agg #[.int .i64 v, .int .i64 b]) "loop.example/g00116/impl.variable").run Try.prog w = .ok (199, .agg #[.int .i64 v, .int .i64 b]) w := by kernel_rfl
theorem findSome (v b : Int) (w : World) : (method 256 105 (.agg #[.int .i64 v, .int .i64 b]) "loop.example/g00116/impl.variable").run Try.prog w = .ok (202, .agg #[.int .i64 v, .int .i64 b]) w := by kernel_rfl

set_option maxRecDepth 100000 in
set_option maxHeartbeats 1000000 in
theorem iVarAll (v b : Int) (w : World) : Calls Try.prog 199 #[.agg #[.int .i64 v, .int .i64 b]] w fun e w' => e = .returned (.tuple #[.int .i64 v, .int .i64 b]) ∧ Below w.heap.size w w' := by
  go_enter Try.func199, Try.ntmps199
  go_wp2_with fail
  go_quiet (fail)
  go_wp2
  go_ret2
  exact ⟨rfl, Kp0.below_drewN ((Below.refl _ _).alloc (Nat.le_refl _) _) _⟩
set_option maxRecDepth 100000 in
set_option maxHeartbeats 1000000 in
theorem iVarSome (v b : Int) (w : World) : Calls Try.prog 202 #[.agg #[.int .i64 v, .int .i64 b]] w fun e w' => e = .returned (.tuple #[.int .i64 v, .int .i64 b]) ∧ Below w.heap.size w w' := by
  go_enter Try.func202, Try.ntmps202
  go_wp2_with fail
  go_quiet (fail)
  go_wp2
  go_ret2
  exact ⟨rfl, Kp0.below_drewN ((Below.refl _ _).alloc (Nat.le_refl _) _) _⟩

set_option maxRecDepth 100000 in
set_option maxHeartbeats 1000000 in
theorem results_node {w : World} {g : Nat} {n : Nd} {tmps : Array Value} (hp : tmps.getD 4 undef = .pointer (some ⟨g, 0, none⟩)) (h : NodeAt w g 0 n) :
    (results Try.f56 tmps).run Try.prog w = .ok (.agg #[.int .i64 n.op, .int .i64 n.w, .int .i64 n.k, .int .i64 n.a, .int .i64 n.b, .int .i64 n.c]) w := by
  have hr : w.rangeAt g 0 [.int .i64 n.op, .int .i64 n.w, .int .i64 n.k, .int .i64 n.a, .int .i64 n.b, .int .i64 n.c] := fun j v hv => by
    rw [Nat.zero_add]
    have hj : j < 6 := by
      have := (List.getElem?_eq_some_iff.1 hv).1
      simpa using this
    rcases (show j = 0 ∨ j = 1 ∨ j = 2 ∨ j = 3 ∨ j = 4 ∨ j = 5 by omega) with h' | h' | h' | h' | h' | h' <;> subst h'
    · rw [← hv]; exact h.c0
    · rw [← hv]; exact h.c1
    · rw [← hv]; exact h.c2
    · rw [← hv]; exact h.c3
    · rw [← hv]; exact h.c4
    · rw [← hv]; exact h.c5
  have hl := run_loadVar_mid (P := Try.prog) w g 0 55 _ _ hr Try.underlying55 rfl rfl
  have hp' : tmps[4]?.getD undef = .pointer (some ⟨g, 0, none⟩) := by simpa using hp
  simp [results, hp', asAddr, hl]

set_option maxRecDepth 100000 in
set_option maxHeartbeats 2000000 in
theorem iNodeOf (x : Qu) (p : Int) (w : World) :
    Calls Try.prog 56 #[qv x, .int .i64 p] w fun e w' => e = .returned (.agg #[.int .i64 (if x.all then 19 else 20), .int .i64 1, .int .i64 x.vr, .int .i64 p, .int .i64 x.bits, .int .i64 0]) ∧ Below w.heap.size w w' := by
  obtain ⟨al, v, b⟩ := x
  obtain ⟨W, hW⟩ : ∃ W : World, W = w.alloc (.cells #[.int .i64 0, .int .i64 0, .int .i64 0, .int .i64 0, .int .i64 0, .int .i64 0] 55) := ⟨_, rfl⟩
  obtain ⟨g, hg⟩ : ∃ g : Nat, g = w.heap.size := ⟨_, rfl⟩
  have HBW : Hid (Below w.heap.size w W) := by rw [hW]; exact (Below.refl _ _).alloc (Nat.le_refl _) _
  have HNA : Hid (NodeAt W g 0 ⟨0, 0, 0, 0, 0, 0⟩ ∧ (∀ j, W.frozen? ⟨g, j, none⟩ = false) ∧ g < W.heap.size) := by
    rw [hW, hg]
    exact ⟨⟨by rw [World.cell?_alloc_new]; rfl, by rw [World.cell?_alloc_new]; rfl, by rw [World.cell?_alloc_new]; rfl, by rw [World.cell?_alloc_new]; rfl, by rw [World.cell?_alloc_new]; rfl, by rw [World.cell?_alloc_new]; rfl⟩, fun j => by simp, by simp⟩
  have HEND : Hid (∀ (w1 : World) (n : Nd), Below W.heap.size W w1 → Below w.heap.size w (setNode w1 g 0 n)) := fun w1 n h => by
    have h1 := setNode_keptS (S := fun b => b = g) (b := g) (p := 0) (n := n) rfl (Kept.ofBelow h)
    exact HBW.out.trans (h1.below (fun b hb => by have hb' : b = g := hb; omega) HBW.out.size)
  cases al
  · have HO : Hid (∀ w, Calls Try.prog 92 #[.iface 105 (.agg #[.int .i64 v, .int .i64 b])] w fun e w' => e = .returned (.int .i64 20) ∧ w' = w) := fun w => iOpOf ⟨false, v, b⟩ w
    have hm := findSome v b
    rw [qv_some]
    go_enter Try.func56, Try.ntmps56
    go_wp2_with fail
    rw [← hW]
    refine (iVarSome v b W).mono ?_
    rintro e w1 ⟨rfl, hb1⟩
    have HB1 : Hid (Below W.heap.size W w1) := hb1
    have hgw : g < w1.heap.size := Nat.lt_of_lt_of_le HNA.out.2.2 hb1.size
    have HNX : Hid (NodeAt w1 g 0 ⟨0, 0, 0, 0, 0, 0⟩) := HNA.out.1.below hb1 HNA.out.2.2
    obtain ⟨q0, q1, q2, q3, q4, q5⟩ := HNX.out
    simp only [Nat.zero_add] at q1 q2 q3 q4 q5
    have hf : ∀ j, w1.frozen? ⟨g, j, none⟩ = false := fun j => by rw [hb1.frozen HNA.out.2.2]; exact HNA.out.2.1 j
    have f0 := hf 0
    have f1 := hf 1
    have f2 := hf 2
    have f3 := hf 3
    have f4 := hf 4
    have f5 := hf 5
    rw [← hg]
    clear hb1 hW hm hf hg
    go_wp2_with (go_at_call 92; refine (HO.out _).mono ?_; rintro e w' ⟨rfl, hw'⟩; have hw'' := hw'.symm; clear hw'; subst hw'')
    have HNN := setNode_same (n := ⟨20, 1, v, p, b, 0⟩) HNX.out
    refine bodyPost_ret (v := .agg #[.int .i64 20, .int .i64 1, .int .i64 v, .int .i64 p, .int .i64 b, .int .i64 0]) (results_node rfl HNN) rfl ⟨rfl, HEND.out _ ⟨20, 1, v, p, b, 0⟩ HB1.out⟩
  · have HO : Hid (∀ w, Calls Try.prog 92 #[.iface 104 (.agg #[.int .i64 v, .int .i64 b])] w fun e w' => e = .returned (.int .i64 19) ∧ w' = w) := fun w => iOpOf ⟨true, v, b⟩ w
    have hm := findAll v b
    rw [qv_all]
    go_enter Try.func56, Try.ntmps56
    go_wp2_with fail
    rw [← hW]
    refine (iVarAll v b W).mono ?_
    rintro e w1 ⟨rfl, hb1⟩
    have HB1 : Hid (Below W.heap.size W w1) := hb1
    have hgw : g < w1.heap.size := Nat.lt_of_lt_of_le HNA.out.2.2 hb1.size
    have HNX : Hid (NodeAt w1 g 0 ⟨0, 0, 0, 0, 0, 0⟩) := HNA.out.1.below hb1 HNA.out.2.2
    obtain ⟨q0, q1, q2, q3, q4, q5⟩ := HNX.out
    simp only [Nat.zero_add] at q1 q2 q3 q4 q5
    have hf : ∀ j, w1.frozen? ⟨g, j, none⟩ = false := fun j => by rw [hb1.frozen HNA.out.2.2]; exact HNA.out.2.1 j
    have f0 := hf 0
    have f1 := hf 1
    have f2 := hf 2
    have f3 := hf 3
    have f4 := hf 4
    have f5 := hf 5
    rw [← hg]
    clear hb1 hW hm hf hg
    go_wp2_with (go_at_call 92; refine (HO.out _).mono ?_; rintro e w' ⟨rfl, hw'⟩; have hw'' := hw'.symm; clear hw'; subst hw'')
    have HNN := setNode_same (n := ⟨19, 1, v, p, b, 0⟩) HNX.out
    refine bodyPost_ret (v := .agg #[.int .i64 19, .int .i64 1, .int .i64 v, .int .i64 p, .int .i64 b, .int .i64 0]) (results_node rfl HNN) rfl ⟨rfl, HEND.out _ ⟨19, 1, v, p, b, 0⟩ HB1.out⟩

end Go.Proofs.Ytnkkigoeffghdaa.Qi0

/- What the program puts behind a term: behind, Deny, Quantify. -/
namespace Go.Proofs.Ytnkkigoeffghdaa.Pb3
open Go.RowKit
open Nd0 Nd3 Tm0 Aq0 Ap13
open Ap2 (Own)
open Qa0 Qi0
open Lx1 (ITermOk)
set_option linter.unusedVariables false

/-- TermOk of a list of any length. -/
theorem iTO (hTO : ITermOk) (w : World) (a : Option Addr) (l : List Nd) (c : Nat) (hN : Nodes w a l) (hcap : l.length ≤ c) :
    Calls Try.prog 51 #[.slice a l.length c] w fun e w' => e = .returned (.bool (termOk l)) ∧ Below w.heap.size w w' := by
  by_cases h : l.length ≤ 80
  · exact hTO w a l c hN hcap (by omega)
  · have HE : Hid (termOk l = false) := term_long (by omega)
    have hm := hN.1
    unfold maxLen at hm
    have g1 : ¬ (l.length : Int) < 1 := by omega
    have g2 : (80 : Int) < (l.length : Int) := by omega
    clear hN hcap
    go_enter Try.func51, Try.ntmps51
    go_wp2
    go_ret
    rw [HE.out]
    exact ⟨rfl, Below.refl _ _⟩

/-- A list, where it is a term. -/
def moreL (L : List Nd) : List Nd := if termOk L then L else []

theorem nodeAt_kept {w w' : World} {b p : Nat} {n : Nd} (h : NodeAt w b p n) {S : Nat → Prop} (k : Kept S w w') (hs : ¬ S b) : NodeAt w' b p n := by
  have hb := h.lt
  obtain ⟨c0, c1, c2, c3, c4, c5⟩ := h
  exact ⟨by rw [k.cell hb hs]; exact c0, by rw [k.cell hb hs]; exact c1, by rw [k.cell hb hs]; exact c2, by rw [k.cell hb hs]; exact c3, by rw [k.cell hb hs]; exact c4, by rw [k.cell hb hs]; exact c5⟩
theorem wnodes_below {w w' : World} {B : Nat} {a : Option Addr} {l : List Nd} (h : WNodes w B a l) (k : Below w.heap.size w w') : WNodes w' B a l := by
  refine ⟨h.1, ?_⟩
  rcases h.2 with h0 | ⟨b, o, rfl, hB, hc, hf⟩
  · exact .inl h0
  · refine .inr ⟨b, o, rfl, hB, fun i hi => (hc i hi).below k (hc i hi).lt, fun j hj => ?_⟩
    have hb : b < w.heap.size := (hc 0 (by omega)).lt
    rw [(Kept.ofBelow (S := fun _ => False) k).frozen (p := ⟨b, o + j, none⟩) hb (fun e => e)]
    exact hf j hj

set_option maxRecDepth 100000 in
set_option maxHeartbeats 2000000 in
theorem iBehind (hTO : ITermOk) (w : World) (b o b2 o2 : Nat) (l ys L : List Nd) (hL : l ++ ys = L) (c c2 m : Nat) (hm : m = ys.length) (hN : Nodes w (some ⟨b, o, none⟩) l) (hY : ∀ i (h : i < ys.length), NodeAt w b2 (o2 + i * 6) ys[i]) (hlen : l.length + ys.length ≤ 1048577) :
    Calls Try.prog 55 #[.slice (some ⟨b, o, none⟩) l.length c, .slice (some ⟨b2, o2, none⟩) m c2] w fun e w' => (∃ a' c', e = .returned (.tuple #[.slice a' (moreL L).length c', .bool (termOk L)]) ∧ WNodes w' w.heap.size a' (moreL L) ∧ (moreL L).length ≤ c') ∧ Below w.heap.size w w' := by
  have HTO : Hid ITermOk := hTO
  have HLL : Hid (l ++ ys = L) := hL
  have HN : Hid (∀ i (h : i < l.length), NodeAt w b (o + i * 6) l[i]) := fun i hi => by
    rcases hN.2 with h0 | ⟨b', o', he, hc⟩
    · omega
    · cases he; exact hc i hi
  have HY : Hid (∀ i (h : i < ys.length), NodeAt w b2 (o2 + i * 6) ys[i]) := hY
  have HM : Hid (m = ys.length) := hm
  have HL : Hid (Own (w.alloc (.cells #[] 55)) w.heap.size (.slice (some ⟨w.heap.size, 0, none⟩) ([] : List Nd).length 0) []) := Ap2.Own.lit w _ (Nat.le_refl _)
  have HBA : Hid (Below w.heap.size w (w.alloc (.cells #[] 55))) := (Below.refl _ _).alloc (Nat.le_refl _) _
  clear hN hY hTO hm hL
  obtain ⟨W0, hW0⟩ : ∃ W0 : World, W0 = w.alloc (.cells #[] 55) := ⟨_, rfl⟩
  have hsz : w.heap.size ≤ W0.heap.size := by rw [hW0]; simp
  rw [← hW0] at HL HBA
  have HNW : Hid (∀ i (h : i < l.length), NodeAt W0 b (o + i * 6) l[i]) := fun i hi => (HN.out i hi).below HBA.out (HN.out i hi).lt
  go_enter Try.func55, Try.ntmps55
  go_wp2_with (at_builtin; go_must (first
    | (rw [← hW0]; refine app_any W0 rfl _ _ rfl w.heap.size w.heap.size 0 [] l l rfl b o c 0 l.length rfl rfl rfl rfl HNW.out HL.out hsz (by simp; omega) ?_; intro g1 cp1 w1 ho1 hk1; have HYW : Hid (∀ i (h : i < ys.length), NodeAt w1 b2 (o2 + i * 6) ys[i]) := (fun i hi => by have hlt := (HY.out i hi).lt; exact nodeAt_kept ((HY.out i hi).below HBA.out hlt) hk1 (fun e => by omega)); have HB1 : Hid (Below w.heap.size w w1) := HBA.out.trans (hk1.below (fun k hk => by omega) hsz); have hs1 : w.heap.size ≤ w1.heap.size := HB1.out.size; have HO1 : Hid (Own w1 w.heap.size (.slice (some ⟨g1, 0, none⟩) l.length cp1) l) := ho1; clear hsz hW0 ho1 hk1)
    | (refine app_any w1 rfl _ _ rfl w.heap.size g1 cp1 l ys L HLL.out b2 o2 c2 l.length m rfl rfl rfl HM.out HYW.out HO1.out hs1 hlen ?_; intro g2 cp2 w2 ho2 hk2; have HB2 : Hid (Below w.heap.size w w2) := HB1.out.trans (hk2.below (fun k hk => by have := HO1.out.lt g1 rfl; omega) hs1); have HO2 : Hid (Own w2 w.heap.size (.slice (some ⟨g2, 0, none⟩) L.length cp2) L) := ho2; clear ho2 hk2 hs1)))
  have hcp := (Ap7.own_cap HO2.out).2
  obtain ⟨av, cv, hv, hwn⟩ := HO2.out.form
  obtain ⟨rfl, rfl⟩ : av = some ⟨g2, 0, none⟩ ∧ cv = cp2 := by cases hv; exact ⟨rfl, rfl⟩
  have HW2 : Hid (WNodes w2 w.heap.size (some ⟨g2, 0, none⟩) L) := hwn
  have HML : Hid (moreL L = if termOk L then L else []) := rfl
  clear hv hwn HL HBA HNW HO1 HYW HB1 HN HY hlen
  refine (iTO HTO.out _ (some ⟨g2, 0, none⟩) L cv HW2.out.nodes hcp).mono ?_
  rintro e w3 ⟨rfl, hb3⟩
  have HB3 : Hid (Below w.heap.size w w3) := HB2.out.trans (hb3.mono HB2.out.size)
  have HW3 : Hid (WNodes w3 w.heap.size (some ⟨g2, 0, none⟩) L) := wnodes_below HW2.out hb3
  have HCP : Hid (L.length ≤ cv) := hcp
  clear hb3 HW2 hcp HO2
  cases hT : termOk L
  · rw [hT] at HML
    have HTT : Hid (termOk L = false) := hT
    go_wp2
    go_ret2
    rw [HTT.out, HML.out]
    exact ⟨⟨_, _, rfl, ⟨Nat.zero_le _, .inl rfl⟩, Nat.zero_le _⟩, HB3.out.alloc HB3.out.size _⟩
  · rw [hT] at HML
    have HTT : Hid (termOk L = true) := hT
    go_wp2
    go_ret2
    rw [HTT.out, HML.out]
    exact ⟨⟨_, _, rfl, HW3.out, HCP.out⟩, HB3.out⟩

/-- What is put behind a right list is told the same way by both. -/
theorem behL_more (l : List Nd) (n : Nd) (h1 : 1 ≤ l.length) : moreL (l ++ [n]) = behL l n ∧ termOk (l ++ [n]) = behB l n := by
  unfold moreL behL behB
  cases h : termOk (l ++ [n])
  · simp
  · rw [term_less h h1]; simp

set_option maxRecDepth 100000 in
set_option maxHeartbeats 2000000 in
theorem iDeny (hTO : ITermOk) (w : World) (b o : Nat) (l : List Nd) (c : Nat) (hN : Nodes w (some ⟨b, o, none⟩) l) (hcap : l.length ≤ c) (hlen : l.length ≤ 1048576) :
    Calls Try.prog 38 #[.slice (some ⟨b, o, none⟩) l.length c] w fun e w' => (∃ a' c', e = .returned (.tuple #[.slice a' (behL l (denN l)).length c', .bool (behB l (denN l))]) ∧ WNodes w' w.heap.size a' (behL l (denN l)) ∧ (behL l (denN l)).length ≤ c') ∧ Below w.heap.size w w' := by
  have HN : Hid (Nodes w (some ⟨b, o, none⟩) l) := hN
  have HTO : Hid ITermOk := hTO
  have HCAP : Hid (l.length ≤ c) := hcap
  clear hcap hN hTO
  go_enter Try.func38, Try.ntmps38
  go_wp2_with fail
  refine (HTO.out _ _ l c HN.out HCAP.out hlen).mono ?_
  rintro e w1 ⟨rfl, hb1⟩
  have HB1 : Hid (Below w.heap.size w w1) := hb1
  have hs1 := hb1.size
  clear hb1
  cases hT : termOk l
  · have HE : Hid (behL l (denN l) = [] ∧ behB l (denN l) = false) := by show _ ∧ _; unfold behL behB; rw [hT]; exact ⟨rfl, rfl⟩
    go_wp2
    go_ret2
    rw [HE.out.1, HE.out.2]
    exact ⟨⟨_, _, rfl, ⟨Nat.zero_le _, .inl rfl⟩, Nat.zero_le _⟩, HB1.out.alloc HB1.out.size _⟩
  · have HT : Hid (termOk l = true) := hT
    obtain ⟨hl1, hl2⟩ := term_len hT
    clear hT
    have HM := behL_more l (denN l) hl1
    have HMM : Hid (moreL (l ++ [denN l]) = behL l (denN l) ∧ termOk (l ++ [denN l]) = behB l (denN l)) := HM
    clear HM
    rcases (HN.out.below HB1.out).2 with h0 | ⟨b', o', he, hc⟩
    · omega
    obtain ⟨rfl, rfl⟩ : b = b' ∧ o = o' := by cases he; exact ⟨rfl, rfl⟩
    obtain ⟨-, p1, -, -, -, -⟩ := hc (l.length - 1) (by omega)
    rw [nth_get (by omega)] at p1
    have HDN : Hid (denN l = ⟨2, (nth l (l.length - 1)).w, 0, (l.length : Int) - 1, 0, 0⟩) := rfl
    have HN1 : Hid (Nodes w1 (some ⟨b, o, none⟩) l) := HN.out.below HB1.out
    clear hc he
    have g1 : (0 : Int) ≤ (l.length : Int) - 1 := by omega
    have g2 : (l.length : Int) - 1 < (l.length : Int) := by omega
    generalize hy : denN l = y at HMM HDN
    have HYY : Hid (denN l = y) := hy
    clear hy
    generalize (nth l (l.length - 1)).w = z at p1 HDN
    go_wp2_with fail
    refine (iBehind HTO.out _ b o w1.heap.size 0 l [⟨2, z, 0, (l.length : Int) - 1, 0, 0⟩] _ rfl c _ _ rfl (HN1.out.below ((Below.refl _ _).alloc (Nat.le_refl _) _)) (Dw4.node_new _ _ _ _ rfl) (by simp; omega)).mono ?_
    rintro e w2 ⟨⟨a', c', rfl, hw2, hc2⟩, hb2⟩
    rw [← HDN.out] at hw2 hc2 ⊢
    rw [HMM.out.1] at hw2 hc2 ⊢
    rw [HMM.out.2]
    have HW2 : Hid (WNodes w2 w.heap.size a' (behL l y)) := by
      obtain ⟨h1, h2⟩ := hw2
      refine ⟨h1, ?_⟩
      rcases h2 with h0 | ⟨b2, o2, ha, hB, hcc, hf⟩
      · exact .inl h0
      · exact .inr ⟨b2, o2, ha, by simp at hB; omega, hcc, hf⟩
    have HB2 : Hid (Below w.heap.size w w2) := (HB1.out.alloc HB1.out.size _).trans (hb2.mono (by simp; omega))
    have HC2 : Hid ((behL l y).length ≤ c') := hc2
    clear hw2 hb2 hc2
    go_wp2
    go_ret2
    rw [HYY.out]
    exact ⟨⟨_, _, rfl, HW2.out, HC2.out⟩, HB2.out⟩

/-- A quantifier on a list. -/
theorem quN_more (l : List Nd) (all : Bool) (v w : Int) : moreL (l ++ [quN l all v w]) = behL l (quN l all v w) ∧ termOk (l ++ [quN l all v w]) = behB l (quN l all v w) := by
  by_cases h : 1 ≤ l.length
  · exact behL_more l _ h
  · have e : l = [] := List.eq_nil_of_length_eq_zero (by omega)
    subst e
    unfold moreL behL behB
    rw [term_quN_nil]
    simp

set_option maxRecDepth 100000 in
set_option maxHeartbeats 2000000 in
theorem iQuantify (hTO : ITermOk) (w : World) (b o : Nat) (l : List Nd) (c : Nat) (al : Bool) (v u : Int) (hN : Nodes w (some ⟨b, o, none⟩) l) (hlen : l.length ≤ 1048576) :
    Calls Try.prog 19 #[.slice (some ⟨b, o, none⟩) l.length c, .bool al, .int .i64 v, .int .i64 u] w fun e w' => (∃ a' c', e = .returned (.tuple #[.slice a' (behL l (quN l al v u)).length c', .bool (behB l (quN l al v u))]) ∧ WNodes w' w.heap.size a' (behL l (quN l al v u)) ∧ (behL l (quN l al v u)).length ≤ c') ∧ Below w.heap.size w w' := by
  have HN : Hid (Nodes w (some ⟨b, o, none⟩) l) := hN
  have HTO : Hid ITermOk := hTO
  have HMM : Hid (moreL (l ++ [quN l al v u]) = behL l (quN l al v u) ∧ termOk (l ++ [quN l al v u]) = behB l (quN l al v u)) := quN_more l al v u
  have HDN : Hid (quN l al v u = ⟨if al then 19 else 20, 1, v, (l.length : Int) - 1, u, 0⟩) := rfl
  clear hN hTO
  generalize hy : quN l al v u = y at HMM HDN
  clear hy
  go_enter Try.func19, Try.ntmps19
  go_wp2_with fail
  refine (iNewQ al v u _).mono ?_
  rintro e w' ⟨rfl, rfl⟩
  go_wp2_with fail
  refine (iNodeOf ⟨al, v, u⟩ _ _).mono ?_
  rintro e w1 ⟨rfl, hb1⟩
  have HB1 : Hid (Below w'.heap.size w' w1) := hb1
  have hs1 := hb1.size
  have HN1 : Hid (Nodes w1 (some ⟨b, o, none⟩) l) := HN.out.below hb1
  clear hb1
  dsimp only
  generalize hz : (if al = true then (19 : Int) else 20) = z at HDN
  clear hz
  go_wp2_with fail
  refine (iBehind HTO.out _ b o w1.heap.size 0 l [⟨z, 1, v, (l.length : Int) - 1, u, 0⟩] _ rfl c _ _ rfl (HN1.out.below ((Below.refl _ _).alloc (Nat.le_refl _) _)) (Dw4.node_new _ _ _ _ rfl) (by simp; omega)).mono ?_
  rintro e w2 ⟨⟨a', c', rfl, hw2, hc2⟩, hb2⟩
  rw [← HDN.out] at hw2 hc2 ⊢
  rw [HMM.out.1] at hw2 hc2 ⊢
  rw [HMM.out.2]
  have HW2 : Hid (WNodes w2 w'.heap.size a' (behL l y)) := by
    obtain ⟨h1, h2⟩ := hw2
    refine ⟨h1, ?_⟩
    rcases h2 with h0 | ⟨b2, o2, ha, hB, hcc, hf⟩
    · exact .inl h0
    · exact .inr ⟨b2, o2, ha, by simp at hB; omega, hcc, hf⟩
  have HB2 : Hid (Below w'.heap.size w' w2) := (HB1.out.alloc HB1.out.size _).trans (hb2.mono (by simp; omega))
  have HC2 : Hid ((behL l y).length ≤ c') := hc2
  clear hw2 hb2 hc2
  go_wp2
  go_ret2
  exact ⟨⟨_, _, rfl, HW2.out, HC2.out⟩, HB2.out⟩

end Go.Proofs.Ytnkkigoeffghdaa.Pb3
