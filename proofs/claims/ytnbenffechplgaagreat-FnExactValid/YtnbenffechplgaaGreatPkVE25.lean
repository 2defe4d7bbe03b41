/- Small texts of mine, one behind the other. -/
import Derived.Test.YtnbenffechplgaaGreatRows
import Derived.WalkKit
import Derived.WalkSpells
import Derived.Stop.Asserts
import Derived.Deep.MidRow
import Derived.Deep.Upon
import Derived.Test.YtnbenffechplgaaGreatPkVE23
import Derived.Test.YtnbenffechplgaaGreatSp11
import Derived.Test.YtnbenffechplgaaGreatPkVE0
import Derived.Test.YtnbenffechplgaaGreatPkVE18
import Derived.Test.YtnbenffechplgaaGreatPkVE5
import Derived.Test.YtnbenffechplgaaGreatPkVE4
import Derived.Test.YtnbenffechplgaaGreatPkVE7
import Derived.Test.YtnbenffechplgaaGreatPkVE13
import Derived.Test.YtnbenffechplgaaGreatPkVE3
import Derived.Test.YtnbenffechplgaaGreatPkVE1
/- The walk of the model's Holds. -/
namespace Go.Proofs.YtnbenffechplgaaGreat.Sv7
open Go.RowKit
open Nd0 Pl1 Tm0 Tm6 Ap0 Vl1 Vl5 Sv6
open Sp11 (sSentence)
set_option linter.unusedVariables false

set_option maxHeartbeats 1000000 in
theorem sZeros (w : World) :
    Calls Tryz.prog 27 #[] w fun x w' => (∃ a c, x = .returned (.slice a 8 c) ∧ Ints w' a (List.replicate 8 0)) ∧ Below w.heap.size w w' := by
  go_enter Tryz.func27, Tryz.ntmps27
  go_wp2_with fail
  go_loopw [1, 2] (fun v q wr => ∃ i : Nat, i ≤ 8 ∧ q = .int .i64 (i : Int) ∧ Ows wr w.heap.size v (List.replicate i 0) ∧ Below w.heap.size w wr) (fun _ q _ => 8 - (intOf q).toNat)
  case atStart => exact ⟨0, Nat.zero_le _, rfl, Ows.lit w _ (Nat.le_refl _), (Below.refl _ _).alloc (Nat.le_refl _) _⟩
  case round =>
    obtain ⟨i, hi, rfl, ho, hb⟩ := hrel
    have HO : Hid (Ows wr w.heap.size u1 (List.replicate i 0)) := ho
    have HB : Hid (Below w.heap.size w wr) := hb
    have hbs : w.heap.size ≤ wr.heap.size := hb.size
    have HL : Hid ((List.replicate i (0 : Int)).length = i) := List.length_replicate
    have HS : Hid (List.replicate (i + 1) (0 : Int) = List.replicate i 0 ++ [0]) := by
      show _ = _
      rw [List.replicate_succ']
    clear ho hb
    by_cases hlt : i < 8
    · have hz : (i : Int) < 8 := by omega
      generalize List.replicate i (0 : Int) = L at HO HL HS
      go_wp2_with (at_builtin; go_must (refine app_int _ rfl _ _ rfl w.heap.size u1 L 0 rfl rfl HO.out hbs (by rw [HL.out]; omega) ?_; intro g5 cp5 w5 ho5 hk5 hg5; have HO5 : Hid (Ows w5 w.heap.size (.slice (some ⟨g5, 0, none⟩) (L.length + 1) cp5) (L ++ [0])) := ho5; have HB5 : Hid (Below w.heap.size w w5) := HB.out.trans (hk5.below (fun b hb => (HO.out.lt b hb).1) hbs); clear ho5 hk5 hg5))
      go_roundw
      case rel => exact ⟨i + 1, by omega, by go_num, by rw [HS.out]; exact HO5.out, HB5.out⟩
      case measure => simp [intOf]; omega
    · have hz : ¬ (i : Int) < 8 := by omega
      have e8 : i = 8 := by omega
      subst e8
      obtain ⟨av, cv, hv, hwi⟩ := HO.out.form
      rw [List.length_replicate] at hv
      subst hv
      have HI : Hid (Ints wr av (List.replicate 8 0)) := hwi.ints
      clear hwi HO
      go_wp2
      go_ret
      first
        | exact ⟨HI.out, HB.out⟩
        | exact ⟨⟨av, ⟨cv, rfl⟩, HI.out⟩, HB.out⟩
        | (trace_state; fail)

set_option maxRecDepth 100000 in
set_option maxHeartbeats 4000000 in
theorem sHolds (w : World) (a : Option Addr) (l : List Nd) (c : Nat) (hN : Nodes w a l) :
    Calls Tryz.prog 13 #[.slice a l.length c] w fun x w' => x = .returned (vRes (holdsL l)) ∧ Below w.heap.size w w' := by
  have HN : Hid (Nodes w a l) := hN
  clear hN
  go_enter Tryz.func13, Tryz.ntmps13
  go_wp2_with fail
  refine (sSentence _ a l c HN.out).mono ?_
  rintro x0 w1 ⟨rfl, hb1⟩
  have HB1 : Hid (Below w.heap.size w w1) := hb1
  clear hb1
  cases hS : sentB l
  · have HV : Hid (holdsL l = none) := by
      show _ = _
      unfold holdsL; rw [hS]; rfl
    go_wp2
    go_ret2
    rw [HV.out]
    exact ⟨rfl, HB1.out⟩
  · have HV : Hid (holdsL l = valueL l (List.replicate 8 0)) := by
      show _ = _
      unfold holdsL; rw [hS]; rfl
    go_wp2_with fail
    refine (sZeros _).mono ?_
    rintro x0 w2 ⟨⟨a2, c2, rfl, hi2⟩, hb2⟩
    have HI2 : Hid (Ints w2 a2 (List.replicate 8 0)) := hi2
    have HB2 : Hid (Below w.heap.size w w2) := HB1.out.trans (hb2.mono HB1.out.size)
    clear hi2 hb2
    go_wp2_with fail
    refine (sValue _ a a2 l (List.replicate 8 0) c c2 (HN.out.below HB2.out) HI2.out).mono ?_
    rintro x0 w3 ⟨rfl, hb3⟩
    have HB3 : Hid (Below w.heap.size w w3) := HB2.out.trans (hb3.mono HB2.out.size)
    clear hb3
    unfold vRes
    generalize valueL l (List.replicate 8 0) = o at HV ⊢
    go_wp2
    go_ret2
    rw [HV.out]
    exact ⟨rfl, HB3.out⟩

end Go.Proofs.YtnbenffechplgaaGreat.Sv7

/- Quants as plain data, and what it is that a slice of them can be read, written, kept. Written by tools/mkflat.py. -/
namespace Go.Proofs.YtnbenffechplgaaGreat.Qa0
open Go.RowKit
open Nd0
set_option linter.unusedVariables false

structure Qu where
  all : Bool
  vr : Int
  bits : Int

end Go.Proofs.YtnbenffechplgaaGreat.Qa0

/- The two kinds of quantifiers of the program: values of an interface. -/
namespace Go.Proofs.YtnbenffechplgaaGreat.Qi0
open Go.RowKit
open Nd0 Qa0
set_option linter.unusedVariables false

def qv (x : Qu) : Value := .iface (if x.all then 80 else 81) (.agg #[.int .i64 x.vr, .int .i64 x.bits])

set_option maxHeartbeats 1000000 in
theorem iNewQ (al : Bool) (v b : Int) (w : World) :
    Calls Tryz.prog 30 #[.bool al, .int .i64 v, .int .i64 b] w fun e w' => e = .returned (qv ⟨al, v, b⟩) ∧ w' = w := by
  cases al
  all_goals
    go_enter Tryz.func30, Tryz.ntmps30
    go_wp2
    go_ret
    exact ⟨rfl, rfl⟩

theorem qv_all (v b : Int) : qv ⟨true, v, b⟩ = .iface 80 (.agg #[.int .i64 v, .int .i64 b]) := rfl
theorem qv_some (v b : Int) : qv ⟨false, v, b⟩ = .iface 81 (.agg #[.int .i64 v, .int .i64 b]) := rfl

theorem asksNo (v b : Int) (w : World) : (Instr.typeAssert (.iface 81 (.agg #[.int .i64 v, .int .i64 b])) 53 80 true).run Tryz.prog w = .ok (.tuple #[.agg #[.int .i64 0, .int .i64 0], .bool false]) w := by kernel_rfl
theorem asksYes (v b : Int) (w : World) : (Instr.typeAssert (.iface 80 (.agg #[.int .i64 v, .int .i64 b])) 53 80 true).run Tryz.prog w = .ok (.tuple #[.agg #[.int .i64 v, .int .i64 b], .bool true]) w := by kernel_rfl

set_option maxRecDepth 100000 in
set_option maxHeartbeats 1000000 in
theorem iOpOf (x : Qu) (w : World) :
    Calls Tryz.prog 55 #[qv x] w fun e w' => e = .returned (.int .i64 (if x.all then 19 else 20)) ∧ w' = w := by
  obtain ⟨al, v, b⟩ := x
  cases al
  · have hm := asksNo v b
    rw [qv_some]
    go_enter Tryz.func55, Tryz.ntmps55
    go_wp2
    go_ret
    exact ⟨rfl, rfl⟩
  · have hm := asksYes v b
    rw [qv_all]
    go_enter Tryz.func55, Tryz.ntmps55
    go_wp2
    go_ret
    exact ⟨rfl, rfl⟩

theorem findAll (v b : Int) (w : World) : (method 242 80 (.agg #[.int .i64 v, .int .i64 b]) "loop.example/g00116/impl.variable").run Tryz.prog w = .ok (162, .agg #[.int .i64 v, .int .i64 b]) w := by kernel_rfl
theorem findSome (v b : Int) (w : World) : (method 242 81 (.agg #[.int .i64 v, .int .i64 b]) "loop.example/g00116/impl.variable").run Tryz.prog w = .ok (165, .agg #[.int .i64 v, .int .i64 b]) w := by kernel_rfl

set_option maxRecDepth 100000 in
set_option maxHeartbeats 1000000 in
theorem iVarAll (v b : Int) (w : World) : Calls Tryz.prog 162 #[.agg #[.int .i64 v, .int .i64 b]] w fun e w' => e = .returned (.tuple #[.int .i64 v, .int .i64 b]) ∧ Below w.heap.size w w' := by
  go_enter Tryz.func162, Tryz.ntmps162
  go_wp2_with fail
  go_quiet (fail)
  go_wp2
  go_ret2
  exact ⟨rfl, Kp0.below_drewN ((Below.refl _ _).alloc (Nat.le_refl _) _) _⟩
set_option maxRecDepth 100000 in
set_option maxHeartbeats 1000000 in
theorem iVarSome (v b : Int) (w : World) : Calls Tryz.prog 165 #[.agg #[.int .i64 v, .int .i64 b]] w fun e w' => e = .returned (.tuple #[.int .i64 v, .int .i64 b]) ∧ Below w.heap.size w w' := by
  go_enter Tryz.func165, Tryz.ntmps165
  go_wp2_with fail
  go_quiet (fail)
  go_wp2
  go_ret2
  exact ⟨rfl, Kp0.below_drewN ((Below.refl _ _).alloc (Nat.le_refl _) _) _⟩

set_option maxRecDepth 100000 in
set_option maxHeartbeats 1000000 in
theorem results_node {w : World} {g : Nat} {n : Nd} {tmps : Array Value} (hp : tmps.getD 4 undef = .pointer (some ⟨g, 0, none⟩)) (h : NodeAt w g 0 n) :
    (results Tryz.f29 tmps).run Tryz.prog w = .ok (.agg #[.int .i64 n.op, .int .i64 n.w, .int .i64 n.k, .int .i64 n.a, .int .i64 n.b, .int .i64 n.c]) w := by
  have hr : w.rangeAt g 0 [.int .i64 n.op, .int .i64 n.w, .int .i64 n.k, .int .i64 n.a, .int .i64 n.b, .int .i64 n.c] := fun j v hv => by
    rw [Nat.zero_add]
    have hj : j < 6 := by
      have := (List.getElem?_eq_some_iff.1 hv).1
      simpa using this
    rcases (show j = 0 ∨ j = 1 ∨ j = 2 ∨ j = 3 ∨ j = 4 ∨ j = 5 by omega) with h' | h' | h' | h' | h' | h' <;> subst h'
    · rw [← hv]; exact h.c0
    · rw [← hv]; exact h.c1
    · rw [← hv]; exact h.c2
    · rw [← hv]; exact h.c3
    · rw [← hv]; exact h.c4
    · rw [← hv]; exact h.c5
  have hl := run_loadVar_mid (P := Tryz.prog) w g 0 35 _ _ hr Tryz.underlying35 rfl rfl
  have hp' : tmps[4]?.getD undef = .pointer (some ⟨g, 0, none⟩) := by simpa using hp
  simp [results, hp', asAddr, hl]

set_option maxRecDepth 100000 in
set_option maxHeartbeats 2000000 in
theorem iNodeOf (x : Qu) (p : Int) (w : World) :
    Calls Tryz.prog 29 #[qv x, .int .i64 p] w fun e w' => e = .returned (.agg #[.int .i64 (if x.all then 19 else 20), .int .i64 1, .int .i64 x.vr, .int .i64 p, .int .i64 x.bits, .int .i64 0]) ∧ Below w.heap.size w w' := by
  obtain ⟨al, v, b⟩ := x
  obtain ⟨W, hW⟩ : ∃ W : World, W = w.alloc (.cells #[.int .i64 0, .int .i64 0, .int .i64 0, .int .i64 0, .int .i64 0, .int .i64 0] 35) := ⟨_, rfl⟩
  obtain ⟨g, hg⟩ : ∃ g : Nat, g = w.heap.size := ⟨_, rfl⟩
  have HBW : Hid (Below w.heap.size w W) := by rw [hW]; exact (Below.refl _ _).alloc (Nat.le_refl _) _
  have HNA : Hid (NodeAt W g 0 ⟨0, 0, 0, 0, 0, 0⟩ ∧ (∀ j, W.frozen? ⟨g, j, none⟩ = false) ∧ g < W.heap.size) := by
    rw [hW, hg]
    exact ⟨⟨by rw [World.cell?_alloc_new]; rfl, by rw [World.cell?_alloc_new]; rfl, by rw [World.cell?_alloc_new]; rfl, by rw [World.cell?_alloc_new]; rfl, by rw [World.cell?_alloc_new]; rfl, by rw [World.cell?_alloc_new]; rfl⟩, fun j => by simp, by simp⟩
  have HEND : Hid (∀ (w1 : World) (n : Nd), Below W.heap.size W w1 → Below w.heap.size w (setNode w1 g 0 n)) := fun w1 n h => by
    have h1 := setNode_keptS (S := fun b => b = g) (b := g) (p := 0) (n := n) rfl (Kept.ofBelow h)
    exact HBW.out.trans (h1.below (fun b hb => by have hb' : b = g := hb; omega) HBW.out.size)
  cases al
  · have HO : Hid (∀ w, Calls Tryz.prog 55 #[.iface 81 (.agg #[.int .i64 v, .int .i64 b])] w fun e w' => e = .returned (.int .i64 20) ∧ w' = w) := fun w => iOpOf ⟨false, v, b⟩ w
    have hm := findSome v b
    rw [qv_some]
    go_enter Tryz.func29, Tryz.ntmps29
    go_wp2_with fail
    rw [← hW]
    refine (iVarSome v b W).mono ?_
    rintro e w1 ⟨rfl, hb1⟩
    have HB1 : Hid (Below W.heap.size W w1) := hb1
    have hgw : g < w1.heap.size := Nat.lt_of_lt_of_le HNA.out.2.2 hb1.size
    have HNX : Hid (NodeAt w1 g 0 ⟨0, 0, 0, 0, 0, 0⟩) := HNA.out.1.below hb1 HNA.out.2.2
    obtain ⟨q0, q1, q2, q3, q4, q5⟩ := HNX.out
    simp only [Nat.zero_add] at q1 q2 q3 q4 q5
    have hf : ∀ j, w1.frozen? ⟨g, j, none⟩ = false := fun j => by rw [hb1.frozen HNA.out.2.2]; exact HNA.out.2.1 j
    have f0 := hf 0
    have f1 := hf 1
    have f2 := hf 2
    have f3 := hf 3
    have f4 := hf 4
    have f5 := hf 5
    rw [← hg]
    clear hb1 hW hm hf hg
    go_wp2_with (go_at_call 55; refine (HO.out _).mono ?_; rintro e w' ⟨rfl, hw'⟩; have hw'' := hw'.symm; clear hw'; subst hw'')
    have HNN := setNode_same (n := ⟨20, 1, v, p, b, 0⟩) HNX.out
    refine bodyPost_ret (v := .agg #[.int .i64 20, .int .i64 1, .int .i64 v, .int .i64 p, .int .i64 b, .int .i64 0]) (results_node rfl HNN) rfl ⟨rfl, HEND.out _ ⟨20, 1, v, p, b, 0⟩ HB1.out⟩
  · have HO : Hid (∀ w, Calls Tryz.prog 55 #[.iface 80 (.agg #[.int .i64 v, .int .i64 b])] w fun e w' => e = .returned (.int .i64 19) ∧ w' = w) := fun w => iOpOf ⟨true, v, b⟩ w
    have hm := findAll v b
    rw [qv_all]
    go_enter Tryz.func29, Tryz.ntmps29
    go_wp2_with fail
    rw [← hW]
    refine (iVarAll v b W).mono ?_
    rintro e w1 ⟨rfl, hb1⟩
    have HB1 : Hid (Below W.heap.size W w1) := hb1
    have hgw : g < w1.heap.size := Nat.lt_of_lt_of_le HNA.out.2.2 hb1.size
    have HNX : Hid (NodeAt w1 g 0 ⟨0, 0, 0, 0, 0, 0⟩) := HNA.out.1.below hb1 HNA.out.2.2
    obtain ⟨q0, q1, q2, q3, q4, q5⟩ := HNX.out
    simp only [Nat.zero_add] at q1 q2 q3 q4 q5
    have hf : ∀ j, w1.frozen? ⟨g, j, none⟩ = false := fun j => by rw [hb1.frozen HNA.out.2.2]; exact HNA.out.2.1 j
    have f0 := hf 0
    have f1 := hf 1
    have f2 := hf 2
    have f3 := hf 3
    have f4 := hf 4
    have f5 := hf 5
    rw [← hg]
    clear hb1 hW hm hf hg
    go_wp2_with (go_at_call 55; refine (HO.out _).mono ?_; rintro e w' ⟨rfl, hw'⟩; have hw'' := hw'.symm; clear hw'; subst hw'')
    have HNN := setNode_same (n := ⟨19, 1, v, p, b, 0⟩) HNX.out
    refine bodyPost_ret (v := .agg #[.int .i64 19, .int .i64 1, .int .i64 v, .int .i64 p, .int .i64 b, .int .i64 0]) (results_node rfl HNN) rfl ⟨rfl, HEND.out _ ⟨19, 1, v, p, b, 0⟩ HB1.out⟩

end Go.Proofs.YtnbenffechplgaaGreat.Qi0

/- What the program's functions of chapter 2 are to do. -/
namespace Go.Proofs.YtnbenffechplgaaGreat.Lx1
open Go.RowKit
open Nd0 Nd3 Tm0 Tm1 Tm2 Tm3 Tm4 Tm5 Tm6 Tm11
/-- What the program's TermOk is to do. -/
def ITermOk : Prop := ∀ (w : World) (a : Option Addr) (l : List Nd) (c : Nat), Nodes w a l → l.length ≤ c → l.length ≤ 1048576 →
    Calls Tryz.prog 20 #[.slice a l.length c] w fun e w' => e = .returned (.bool (termOk l)) ∧ Below w.heap.size w w'
end Go.Proofs.YtnbenffechplgaaGreat.Lx1
namespace Go.Proofs.YtnbenffechplgaaGreat.Lx2
open Go.RowKit
open Nd0 Nd3 Tm0 Tm1 Tm2 Tm3 Tm4 Tm5 Tm6 Tm11
/-- What the program's Reached is to do. -/
def IReached : Prop := ∀ (w : World) (a : Option Addr) (l : List Nd) (c : Nat), Nodes w a l → l.length ≤ c → l.length ≤ 1048576 →
    Calls Tryz.prog 57 #[.slice a l.length c] w fun e w' => (∃ a' c', e = .returned (.slice a' (reachedL l).length c') ∧ WInts w' w.heap.size a' (reachedL l)) ∧ Below w.heap.size w w'
end Go.Proofs.YtnbenffechplgaaGreat.Lx2
namespace Go.Proofs.YtnbenffechplgaaGreat.Lx3
open Go.RowKit
open Nd0 Nd3 Tm0 Tm1 Tm2 Tm3 Tm4 Tm5 Tm6 Tm11
end Go.Proofs.YtnbenffechplgaaGreat.Lx3
namespace Go.Proofs.YtnbenffechplgaaGreat.Lx4
open Go.RowKit
open Nd0 Nd3 Tm0 Tm1 Tm2 Tm3 Tm4 Tm5 Tm6 Tm11
end Go.Proofs.YtnbenffechplgaaGreat.Lx4
namespace Go.Proofs.YtnbenffechplgaaGreat.Lx6
open Go.RowKit
open Nd0 Nd3 Tm0 Tm1 Tm2 Tm3 Tm4 Tm5 Tm6 Tm11
/-- What the program's Sentence is to do. -/
def ISentence : Prop := ∀ (w : World) (a : Option Addr) (l : List Nd) (c : Nat), Nodes w a l → l.length ≤ c → l.length ≤ 1048576 →
    Calls Tryz.prog 32 #[.slice a l.length c] w fun e w' => e = .returned (.bool (sentB l)) ∧ Below w.heap.size w w'
end Go.Proofs.YtnbenffechplgaaGreat.Lx6

/- What the program puts behind a term: behind, Deny, Quantify. -/
namespace Go.Proofs.YtnbenffechplgaaGreat.Pb3
open Go.RowKit
open Nd0 Nd3 Tm0 Aq0 Ap13
open Ap2 (Own)
open Qa0 Qi0
open Lx1 (ITermOk)
set_option linter.unusedVariables false

theorem iTO (hTO : ITermOk) (w : World) (a : Option Addr) (l : List Nd) (c : Nat) (hN : Nodes w a l) (hcap : l.length ≤ c) :
    Calls Tryz.prog 20 #[.slice a l.length c] w fun e w' => e = .returned (.bool (termOk l)) ∧ Below w.heap.size w w' := by
  by_cases h : l.length ≤ 80
  · exact hTO w a l c hN hcap (by omega)
  · have HE : Hid (termOk l = false) := term_long (by omega)
    have hm := hN.1
    unfold maxLen at hm
    have g1 : ¬ (l.length : Int) < 1 := by omega
    have g2 : (80 : Int) < (l.length : Int) := by omega
    clear hN hcap
    go_enter Tryz.func20, Tryz.ntmps20
    go_wp2
    go_ret
    rw [HE.out]
    exact ⟨rfl, Below.refl _ _⟩

def moreL (L : List Nd) : List Nd := if termOk L then L else []

theorem nodeAt_kept {w w' : World} {b p : Nat} {n : Nd} (h : NodeAt w b p n) {S : Nat → Prop} (k : Kept S w w') (hs : ¬ S b) : NodeAt w' b p n := by
  have hb := h.lt
  obtain ⟨c0, c1, c2, c3, c4, c5⟩ := h
  exact ⟨by rw [k.cell hb hs]; exact c0, by rw [k.cell hb hs]; exact c1, by rw [k.cell hb hs]; exact c2, by rw [k.cell hb hs]; exact c3, by rw [k.cell hb hs]; exact c4, by rw [k.cell hb hs]; exact c5⟩
theorem wnodes_below {w w' : World} {B : Nat} {a : Option Addr} {l : List Nd} (h : WNodes w B a l) (k : Below w.heap.size w w') : WNodes w' B a l := by
  refine ⟨h.1, ?_⟩
  rcases h.2 with h0 | ⟨b, o, rfl, hB, hc, hf⟩
  · exact .inl h0
  · refine .inr ⟨b, o, rfl, hB, fun i hi => (hc i hi).below k (hc i hi).lt, fun j hj => ?_⟩
    have hb : b < w.heap.size := (hc 0 (by omega)).lt
    rw [(Kept.ofBelow (S := fun _ => False) k).frozen (p := ⟨b, o + j, none⟩) hb (fun e => e)]
    exact hf j hj

set_option maxRecDepth 100000 in
set_option maxHeartbeats 2000000 in
theorem iBehind (hTO : ITermOk) (w : World) (b o b2 o2 : Nat) (l ys L : List Nd) (hL : l ++ ys = L) (c c2 m : Nat) (hm : m = ys.length) (hN : Nodes w (some ⟨b, o, none⟩) l) (hY : ∀ i (h : i < ys.length), NodeAt w b2 (o2 + i * 6) ys[i]) (hlen : l.length + ys.length ≤ 1048577) :
    Calls Tryz.prog 31 #[.slice (some ⟨b, o, none⟩) l.length c, .slice (some ⟨b2, o2, none⟩) m c2] w fun e w' => (∃ a' c', e = .returned (.tuple #[.slice a' (moreL L).length c', .bool (termOk L)]) ∧ WNodes w' w.heap.size a' (moreL L) ∧ (moreL L).length ≤ c') ∧ Below w.heap.size w w' := by
  have HTO : Hid ITermOk := hTO
  have HLL : Hid (l ++ ys = L) := hL
  have HN : Hid (∀ i (h : i < l.length), NodeAt w b (o + i * 6) l[i]) := fun i hi => by
    rcases hN.2 with h0 | ⟨b', o', he, hc⟩
    · omega
    · cases he; exact hc i hi
  have HY : Hid (∀ i (h : i < ys.length), NodeAt w b2 (o2 + i * 6) ys[i]) := hY
  have HM : Hid (m = ys.length) := hm
  have HL : Hid (Own (w.alloc (.cells #[] 35)) w.heap.size (.slice (some ⟨w.heap.size, 0, none⟩) ([] : List Nd).length 0) []) := Ap2.Own.lit w _ (Nat.le_refl _)
  have HBA : Hid (Below w.heap.size w (w.alloc (.cells #[] 35))) := (Below.refl _ _).alloc (Nat.le_refl _) _
  clear hN hY hTO hm hL
  obtain ⟨W0, hW0⟩ : ∃ W0 : World, W0 = w.alloc (.cells #[] 35) := ⟨_, rfl⟩
  have hsz : w.heap.size ≤ W0.heap.size := by rw [hW0]; simp
  rw [← hW0] at HL HBA
  have HNW : Hid (∀ i (h : i < l.length), NodeAt W0 b (o + i * 6) l[i]) := fun i hi => (HN.out i hi).below HBA.out (HN.out i hi).lt
  go_enter Tryz.func31, Tryz.ntmps31
  go_wp2_with (at_builtin; go_must (first
    | (rw [← hW0]; refine app_any W0 rfl _ _ rfl w.heap.size w.heap.size 0 [] l l rfl b o c 0 l.length rfl rfl rfl rfl HNW.out HL.out hsz (by simp; omega) ?_; intro g1 cp1 w1 ho1 hk1; have HYW : Hid (∀ i (h : i < ys.length), NodeAt w1 b2 (o2 + i * 6) ys[i]) := (fun i hi => by have hlt := (HY.out i hi).lt; exact nodeAt_kept ((HY.out i hi).below HBA.out hlt) hk1 (fun e => by omega)); have HB1 : Hid (Below w.heap.size w w1) := HBA.out.trans (hk1.below (fun k hk => by omega) hsz); have hs1 : w.heap.size ≤ w1.heap.size := HB1.out.size; have HO1 : Hid (Own w1 w.heap.size (.slice (some ⟨g1, 0, none⟩) l.length cp1) l) := ho1; clear hsz hW0 ho1 hk1)
    | (refine app_any w1 rfl _ _ rfl w.heap.size g1 cp1 l ys L HLL.out b2 o2 c2 l.length m rfl rfl rfl HM.out HYW.out HO1.out hs1 hlen ?_; intro g2 cp2 w2 ho2 hk2; have HB2 : Hid (Below w.heap.size w w2) := HB1.out.trans (hk2.below (fun k hk => by have := HO1.out.lt g1 rfl; omega) hs1); have HO2 : Hid (Own w2 w.heap.size (.slice (some ⟨g2, 0, none⟩) L.length cp2) L) := ho2; clear ho2 hk2 hs1)))
  have hcp := (Ap7.own_cap HO2.out).2
  obtain ⟨av, cv, hv, hwn⟩ := HO2.out.form
  obtain ⟨rfl, rfl⟩ : av = some ⟨g2, 0, none⟩ ∧ cv = cp2 := by cases hv; exact ⟨rfl, rfl⟩
  have HW2 : Hid (WNodes w2 w.heap.size (some ⟨g2, 0, none⟩) L) := hwn
  have HML : Hid (moreL L = if termOk L then L else []) := rfl
  clear hv hwn HL HBA HNW HO1 HYW HB1 HN HY hlen
  refine (iTO HTO.out _ (some ⟨g2, 0, none⟩) L cv HW2.out.nodes hcp).mono ?_
  rintro e w3 ⟨rfl, hb3⟩
  have HB3 : Hid (Below w.heap.size w w3) := HB2.out.trans (hb3.mono HB2.out.size)
  have HW3 : Hid (WNodes w3 w.heap.size (some ⟨g2, 0, none⟩) L) := wnodes_below HW2.out hb3
  have HCP : Hid (L.length ≤ cv) := hcp
  clear hb3 HW2 hcp HO2
  cases hT : termOk L
  · rw [hT] at HML
    have HTT : Hid (termOk L = false) := hT
    go_wp2
    go_ret2
    rw [HTT.out, HML.out]
    exact ⟨⟨_, _, rfl, ⟨Nat.zero_le _, .inl rfl⟩, Nat.zero_le _⟩, HB3.out.alloc HB3.out.size _⟩
  · rw [hT] at HML
    have HTT : Hid (termOk L = true) := hT
    go_wp2
    go_ret2
    rw [HTT.out, HML.out]
    exact ⟨⟨_, _, rfl, HW3.out, HCP.out⟩, HB3.out⟩

end Go.Proofs.YtnbenffechplgaaGreat.Pb3

/- Walks of the program's small tests of operators, of words, and of its Parts. -/
namespace Go.Proofs.YtnbenffechplgaaGreat.Pg1
open Go.RowKit
open Nd0 Tm0 Tm5 Pl1 Ap0
open Ws1 (ret_int ret_bool)
set_option linter.unusedVariables false

def cnt (op : Int) : Nat := if op = 2 ∨ op = 17 ∨ op = 19 ∨ op = 20 then 1 else if 3 ≤ op ∧ op ≤ 16 then 2 else if op = 18 then 3 else 0
theorem cnt_parts (n : Nd) : (parts n).length = cnt n.op := by
  unfold parts cnt; split
  · rfl
  · split
    · rfl
    · split <;> rfl
theorem cnt_le (op : Int) : cnt op ≤ 3 := by unfold cnt; split; omega; split; omega; split <;> omega
def numbered (op : Int) : Bool := op == 0 || op == 1 || op == 17 || quant op

set_option maxHeartbeats 400000 in
theorem iWidthOk (m : Int) (w : World) :
    Calls Tryz.prog 63 #[.int .i64 m] w fun e w' => e = .returned (.bool (decide (1 ≤ m ∧ m ≤ 8))) ∧ w' = w := by
  by_cases h1 : 1 ≤ m <;> by_cases h2 : m ≤ 8
  all_goals
    go_enter Tryz.func63, Tryz.ntmps63
    go_wp2
    go_ret
    exact ⟨ret_bool (by simp <;> omega), rfl⟩

set_option maxHeartbeats 400000 in
theorem iWordOk (m a : Int) (w : World) :
    Calls Tryz.prog 78 #[.int .i64 m, .int .i64 a] w fun e w' => e = .returned (.bool (wok m a)) ∧ w' = w := by
  by_cases h : 1 ≤ m ∧ m ≤ 8
  · have hd : decide (1 ≤ m ∧ m ≤ 8) = true := by simpa using h
    by_cases ha : 0 ≤ a
    all_goals
      go_enter Tryz.func78, Tryz.ntmps78
      go_wp2_with (go_at_call 63; refine (iWidthOk _ _).mono ?_; rintro e w' ⟨rfl, rfl⟩)
      go_ret
      exact ⟨ret_bool (by rw [Bool.eq_iff_iff]; try rw [wrap_p2 _ (by omega)]
                          simp [wok]; omega), rfl⟩
  · have hd : decide (1 ≤ m ∧ m ≤ 8) = false := by simpa using h
    go_enter Tryz.func78, Tryz.ntmps78
    go_wp2_with (go_at_call 63; refine (iWidthOk _ _).mono ?_; rintro e w' ⟨rfl, rfl⟩)
    go_ret
    exact ⟨ret_bool (by unfold wok; symm; rw [decide_eq_false_iff_not]; omega), rfl⟩

set_option maxHeartbeats 400000 in
theorem iVarOk (m : Int) (w : World) :
    Calls Tryz.prog 79 #[.int .i64 m] w fun e w' => e = .returned (.bool (decide (0 ≤ m ∧ m ≤ 7))) ∧ w' = w := by
  by_cases h1 : 0 ≤ m <;> by_cases h2 : m < 8
  all_goals
    go_enter Tryz.func79, Tryz.ntmps79
    go_wp2
    go_ret
    exact ⟨ret_bool (by simp <;> omega), rfl⟩

set_option maxHeartbeats 400000 in
theorem iQuant (op : Int) (w : World) :
    Calls Tryz.prog 54 #[.int .i64 op] w fun e w' => e = .returned (.bool (quant op)) ∧ w' = w := by
  cases h1 : (op == 19) <;> cases h2 : (op == 20)
  all_goals
    go_enter Tryz.func54, Tryz.ntmps54
    go_wp2
    go_ret
    exact ⟨ret_bool (by unfold quant; rw [h1, h2]; rfl), rfl⟩

set_option maxHeartbeats 400000 in
theorem iOuter (op : Int) (w : World) :
    Calls Tryz.prog 72 #[.int .i64 op] w fun e w' => e = .returned (.bool (outer op)) ∧ w' = w := by
  cases h1 : (op == 2) <;> cases h2 : (op == 3) <;> cases h3 : (op == 4)
  all_goals
    go_enter Tryz.func72, Tryz.ntmps72
    go_wp2_with (go_at_call 54; refine (iQuant _ _).mono ?_; rintro e w' ⟨rfl, rfl⟩)
    go_ret
    exact ⟨ret_bool (by unfold outer; rw [h1, h2, h3]; rfl), rfl⟩

set_option maxHeartbeats 400000 in
theorem iNumbered (op : Int) (w : World) :
    Calls Tryz.prog 77 #[.int .i64 op] w fun e w' => e = .returned (.bool (numbered op)) ∧ w' = w := by
  cases h1 : (op == 0) <;> cases h2 : (op == 1) <;> cases h3 : (op == 17)
  all_goals
    go_enter Tryz.func77, Tryz.ntmps77
    go_wp2_with (go_at_call 54; refine (iQuant _ _).mono ?_; rintro e w' ⟨rfl, rfl⟩)
    go_ret
    exact ⟨ret_bool (by unfold numbered; rw [h1, h2, h3]; rfl), rfl⟩

set_option maxHeartbeats 1000000 in
theorem iCount (op : Int) (w : World) :
    Calls Tryz.prog 68 #[.int .i64 op] w fun e w' => e = .returned (.int .i64 (cnt op : Int)) ∧ w' = w := by
  have HC : Hid (∀ k : Nat, cnt op = k → (k : Int) = (cnt op : Int)) := fun k h => by rw [h]
  have q1 : (op == 2) = false → (op == 17) = false → quant op = false → ¬ (op = 2 ∨ op = 17 ∨ op = 19 ∨ op = 20) := by
    intro a b c; simp [quant] at a b c; omega
  have HQ : Hid ((op == 2) = false → (op == 17) = false → quant op = false → ¬ (op = 2 ∨ op = 17 ∨ op = 19 ∨ op = 20)) := q1
  have HR : Hid ((op == 2) = true ∨ (op == 17) = true ∨ quant op = true → (op = 2 ∨ op = 17 ∨ op = 19 ∨ op = 20)) := by
    show _ → _
    rintro (a | a | a)
    · simp at a; omega
    · simp at a; omega
    · simp [quant] at a; omega
  clear q1
  cases h1 : (op == 2)
  · cases h2 : (op == 17)
    · cases h3 : quant op
      · have HN := HQ.out h1 h2 h3
        have HN' : Hid (¬ (op = 2 ∨ op = 17 ∨ op = 19 ∨ op = 20)) := HN
        clear HN
        by_cases h4 : 3 ≤ op
        · by_cases h5 : op ≤ 16
          · have HE : Hid (cnt op = 2) := by
              show cnt op = 2
              unfold cnt; rw [if_neg HN'.out, if_pos ⟨h4, h5⟩]
            go_enter Tryz.func68, Tryz.ntmps68
            go_wp2_with (go_at_call 54; refine (iQuant _ _).mono ?_; rintro e w' ⟨rfl, rfl⟩)
            go_ret
            exact ⟨ret_int (HC.out 2 HE.out), rfl⟩
          · cases h6 : (op == 18)
            · have HE : Hid (cnt op = 0) := by
                show cnt op = 0
                unfold cnt; rw [if_neg HN'.out, if_neg (by omega), if_neg (by simpa using h6)]
              go_enter Tryz.func68, Tryz.ntmps68
              go_wp2_with (go_at_call 54; refine (iQuant _ _).mono ?_; rintro e w' ⟨rfl, rfl⟩)
              go_ret
              exact ⟨ret_int (HC.out 0 HE.out), rfl⟩
            · have HE : Hid (cnt op = 3) := by
                show cnt op = 3
                unfold cnt; rw [if_neg HN'.out, if_neg (by omega), if_pos (by simpa using h6)]
              go_enter Tryz.func68, Tryz.ntmps68
              go_wp2_with (go_at_call 54; refine (iQuant _ _).mono ?_; rintro e w' ⟨rfl, rfl⟩)
              go_ret
              exact ⟨ret_int (HC.out 3 HE.out), rfl⟩
        · have h6 : (op == 18) = false := by simp; omega
          have HE : Hid (cnt op = 0) := by
            show cnt op = 0
            unfold cnt; rw [if_neg HN'.out, if_neg (by omega), if_neg (by omega)]
          go_enter Tryz.func68, Tryz.ntmps68
          go_wp2_with (go_at_call 54; refine (iQuant _ _).mono ?_; rintro e w' ⟨rfl, rfl⟩)
          go_ret
          exact ⟨ret_int (HC.out 0 HE.out), rfl⟩
      · have HE : Hid (cnt op = 1) := by
          show cnt op = 1
          unfold cnt; rw [if_pos (HR.out (.inr (.inr h3)))]
        go_enter Tryz.func68, Tryz.ntmps68
        go_wp2_with (go_at_call 54; refine (iQuant _ _).mono ?_; rintro e w' ⟨rfl, rfl⟩)
        go_ret
        exact ⟨ret_int (HC.out 1 HE.out), rfl⟩
    · have HE : Hid (cnt op = 1) := by
        show cnt op = 1
        unfold cnt; rw [if_pos (HR.out (.inr (.inl h2)))]
      go_enter Tryz.func68, Tryz.ntmps68
      go_wp2_with (go_at_call 54; refine (iQuant _ _).mono ?_; rintro e w' ⟨rfl, rfl⟩)
      go_ret
      exact ⟨ret_int (HC.out 1 HE.out), rfl⟩
  · have HE : Hid (cnt op = 1) := by
      show cnt op = 1
      unfold cnt; rw [if_pos (HR.out (.inl h1))]
    go_enter Tryz.func68, Tryz.ntmps68
    go_wp2_with (go_at_call 54; refine (iQuant _ _).mono ?_; rintro e w' ⟨rfl, rfl⟩)
    go_ret
    exact ⟨ret_int (HC.out 1 HE.out), rfl⟩

end Go.Proofs.YtnbenffechplgaaGreat.Pg1
