/- The two kinds of quantifiers of the program: values of an interface. -/
import Derived.Test.YtdmogjhabladcaaGreatRows
import Derived.WalkKit
import Derived.WalkSpells
import Derived.Stop.Asserts
import Derived.Deep.MidRow
import Derived.Test.YtdmogjhabladcaaGreatQa0
import Derived.Test.YtdmogjhabladcaaGreatPkB
namespace Go.Proofs.YtdmogjhabladcaaGreat.Qi0
open Go.RowKit
open Nd0 Qa0
set_option linter.unusedVariables false

/-- A quantifier as the program has it. -/
def qv (x : Qu) : Value := .iface (if x.all then 152 else 153) (.agg #[.int .i64 x.vr, .int .i64 x.bits])

set_option maxHeartbeats 1000000 in
theorem iNewQ (al : Bool) (v b : Int) (w : World) :
    Calls Tryz.prog 100 #[.bool al, .int .i64 v, .int .i64 b] w fun e w' => e = .returned (qv ⟨al, v, b⟩) ∧ w' = w := by
  cases al
  all_goals
    go_enter Tryz.func100, Tryz.ntmps100
    go_wp2
    go_ret
    exact ⟨rfl, rfl⟩

theorem qv_all (v b : Int) : qv ⟨true, v, b⟩ = .iface 152 (.agg #[.int .i64 v, .int .i64 b]) := rfl
theorem qv_some (v b : Int) : qv ⟨false, v, b⟩ = .iface 153 (.agg #[.int .i64 v, .int .i64 b]) := rfl

theorem asksNo (v b : Int) (w : World) : (Instr.typeAssert (.iface 153 (.agg #[.int .i64 v, .int .i64 b])) 86 152 true).run Tryz.prog w = .ok (.tuple #[.agg #[.int .i64 0, .int .i64 0], .bool false]) w := by kernel_rfl
theorem asksYes (v b : Int) (w : World) : (Instr.typeAssert (.iface 152 (.agg #[.int .i64 v, .int .i64 b])) 86 152 true).run Tryz.prog w = .ok (.tuple #[.agg #[.int .i64 v, .int .i64 b], .bool true]) w := by kernel_rfl

set_option maxRecDepth 100000 in
set_option maxHeartbeats 1000000 in
theorem iOpOf (x : Qu) (w : World) :
    Calls Tryz.prog 103 #[qv x] w fun e w' => e = .returned (.int .i64 (if x.all then 19 else 20)) ∧ w' = w := by
  obtain ⟨al, v, b⟩ := x
  cases al
  · have hm := asksNo v b
    rw [qv_some]
    go_enter Tryz.func103, Tryz.ntmps103
    go_wp2
    go_ret
    exact ⟨rfl, rfl⟩
  · have hm := asksYes v b
    rw [qv_all]
    go_enter Tryz.func103, Tryz.ntmps103
    go_wp2
    go_ret
    exact ⟨rfl, rfl⟩

theorem findAll (v b : Int) (w : World) : (method 283 152 (.agg #[.int .i64 v, .int .i64 b]) "loop.example/g00116/impl.variable").run Tryz.prog w = .ok (201, .agg #[.int .i64 v, .int .i64 b]) w := by kernel_rfl
theorem findSome (v b : Int) (w : World) : (method 283 153 (.agg #[.int .i64 v, .int .i64 b]) "loop.example/g00116/impl.variable").run Tryz.prog w = .ok (204, .agg #[.int .i64 v, .int .i64 b]) w := by kernel_rfl

set_option maxRecDepth 100000 in
set_option maxHeartbeats 1000000 in
theorem iVarAll (v b : Int) (w : World) : Calls Tryz.prog 201 #[.agg #[.int .i64 v, .int .i64 b]] w fun e w' => e = .returned (.tuple #[.int .i64 v, .int .i64 b]) ∧ Below w.heap.size w w' := by
  go_enter Tryz.func201, Tryz.ntmps201
  go_wp2_with fail
  go_quiet (fail)
  go_wp2
  go_ret2
  exact ⟨rfl, Kp0.below_drewN ((Below.refl _ _).alloc (Nat.le_refl _) _) _⟩
set_option maxRecDepth 100000 in
set_option maxHeartbeats 1000000 in
theorem iVarSome (v b : Int) (w : World) : Calls Tryz.prog 204 #[.agg #[.int .i64 v, .int .i64 b]] w fun e w' => e = .returned (.tuple #[.int .i64 v, .int .i64 b]) ∧ Below w.heap.size w w' := by
  go_enter Tryz.func204, Tryz.ntmps204
  go_wp2_with fail
  go_quiet (fail)
  go_wp2
  go_ret2
  exact ⟨rfl, Kp0.below_drewN ((Below.refl _ _).alloc (Nat.le_refl _) _) _⟩

set_option maxRecDepth 100000 in
set_option maxHeartbeats 1000000 in
theorem results_node {w : World} {g : Nat} {n : Nd} {tmps : Array Value} (hp : tmps.getD 4 undef = .pointer (some ⟨g, 0, none⟩)) (h : NodeAt w g 0 n) :
    (results Tryz.f68 tmps).run Tryz.prog w = .ok (.agg #[.int .i64 n.op, .int .i64 n.w, .int .i64 n.k, .int .i64 n.a, .int .i64 n.b, .int .i64 n.c]) w := by
  have hr : w.rangeAt g 0 [.int .i64 n.op, .int .i64 n.w, .int .i64 n.k, .int .i64 n.a, .int .i64 n.b, .int .i64 n.c] := fun j v hv => by
    rw [Nat.zero_add]
    have hj : j < 6 := by
      have := (List.getElem?_eq_some_iff.1 hv).1
      simpa using this
    rcases (show j = 0 ∨ j = 1 ∨ j = 2 ∨ j = 3 ∨ j = 4 ∨ j = 5 by omega) with h' | h' | h' | h' | h' | h' <;> subst h'
    · rw [← hv]; exact h.c0
    · rw [← hv]; exact h.c1
    · rw [← hv]; exact h.c2
    · rw [← hv]; exact h.c3
    · rw [← hv]; exact h.c4
    · rw [← hv]; exact h.c5
  have hl := run_loadVar_mid (P := Tryz.prog) w g 0 31 _ _ hr Tryz.underlying31 rfl rfl
  have hp' : tmps[4]?.getD undef = .pointer (some ⟨g, 0, none⟩) := by simpa using hp
  simp [results, hp', asAddr, hl]

set_option maxRecDepth 100000 in
set_option maxHeartbeats 2000000 in
theorem iNodeOf (x : Qu) (p : Int) (w : World) :
    Calls Tryz.prog 68 #[qv x, .int .i64 p] w fun e w' => e = .returned (.agg #[.int .i64 (if x.all then 19 else 20), .int .i64 1, .int .i64 x.vr, .int .i64 p, .int .i64 x.bits, .int .i64 0]) ∧ Below w.heap.size w w' := by
  obtain ⟨al, v, b⟩ := x
  obtain ⟨W, hW⟩ : ∃ W : World, W = w.alloc (.cells #[.int .i64 0, .int .i64 0, .int .i64 0, .int .i64 0, .int .i64 0, .int .i64 0] 31) := ⟨_, rfl⟩
  obtain ⟨g, hg⟩ : ∃ g : Nat, g = w.heap.size := ⟨_, rfl⟩
  have HBW : Hid (Below w.heap.size w W) := by rw [hW]; exact (Below.refl _ _).alloc (Nat.le_refl _) _
  have HNA : Hid (NodeAt W g 0 ⟨0, 0, 0, 0, 0, 0⟩ ∧ (∀ j, W.frozen? ⟨g, j, none⟩ = false) ∧ g < W.heap.size) := by
    rw [hW, hg]
    exact ⟨⟨by rw [World.cell?_alloc_new]; rfl, by rw [World.cell?_alloc_new]; rfl, by rw [World.cell?_alloc_new]; rfl, by rw [World.cell?_alloc_new]; rfl, by rw [World.cell?_alloc_new]; rfl, by rw [World.cell?_alloc_new]; rfl⟩, fun j => by simp, by simp⟩
  have HEND : Hid (∀ (w1 : World) (n : Nd), Below W.heap.size W w1 → Below w.heap.size w (setNode w1 g 0 n)) := fun w1 n h => by
    have h1 := setNode_keptS (S := fun b => b = g) (b := g) (p := 0) (n := n) rfl (Kept.ofBelow h)
    exact HBW.out.trans (h1.below (fun b hb => by have hb' : b = g := hb; omega) HBW.out.size)
  cases al
  · have HO : Hid (∀ w, Calls Tryz.prog 103 #[.iface 153 (.agg #[.int .i64 v, .int .i64 b])] w fun e w' => e = .returned (.int .i64 20) ∧ w' = w) := fun w => iOpOf ⟨false, v, b⟩ w
    have hm := findSome v b
    rw [qv_some]
    go_enter Tryz.func68, Tryz.ntmps68
    go_wp2_with fail
    rw [← hW]
    refine (iVarSome v b W).mono ?_
    rintro e w1 ⟨rfl, hb1⟩
    have HB1 : Hid (Below W.heap.size W w1) := hb1
    have hgw : g < w1.heap.size := Nat.lt_of_lt_of_le HNA.out.2.2 hb1.size
    have HNX : Hid (NodeAt w1 g 0 ⟨0, 0, 0, 0, 0, 0⟩) := HNA.out.1.below hb1 HNA.out.2.2
    obtain ⟨q0, q1, q2, q3, q4, q5⟩ := HNX.out
    simp only [Nat.zero_add] at q1 q2 q3 q4 q5
    have hf : ∀ j, w1.frozen? ⟨g, j, none⟩ = false := fun j => by rw [hb1.frozen HNA.out.2.2]; exact HNA.out.2.1 j
    have f0 := hf 0
    have f1 := hf 1
    have f2 := hf 2
    have f3 := hf 3
    have f4 := hf 4
    have f5 := hf 5
    rw [← hg]
    clear hb1 hW hm hf hg
    go_wp2_with (go_at_call 103; refine (HO.out _).mono ?_; rintro e w' ⟨rfl, hw'⟩; have hw'' := hw'.symm; clear hw'; subst hw'')
    have HNN := setNode_same (n := ⟨20, 1, v, p, b, 0⟩) HNX.out
    refine bodyPost_ret (v := .agg #[.int .i64 20, .int .i64 1, .int .i64 v, .int .i64 p, .int .i64 b, .int .i64 0]) (results_node rfl HNN) rfl ⟨rfl, HEND.out _ ⟨20, 1, v, p, b, 0⟩ HB1.out⟩
  · have HO : Hid (∀ w, Calls Tryz.prog 103 #[.iface 152 (.agg #[.int .i64 v, .int .i64 b])] w fun e w' => e = .returned (.int .i64 19) ∧ w' = w) := fun w => iOpOf ⟨true, v, b⟩ w
    have hm := findAll v b
    rw [qv_all]
    go_enter Tryz.func68, Tryz.ntmps68
    go_wp2_with fail
    rw [← hW]
    refine (iVarAll v b W).mono ?_
    rintro e w1 ⟨rfl, hb1⟩
    have HB1 : Hid (Below W.heap.size W w1) := hb1
    have hgw : g < w1.heap.size := Nat.lt_of_lt_of_le HNA.out.2.2 hb1.size
    have HNX : Hid (NodeAt w1 g 0 ⟨0, 0, 0, 0, 0, 0⟩) := HNA.out.1.below hb1 HNA.out.2.2
    obtain ⟨q0, q1, q2, q3, q4, q5⟩ := HNX.out
    simp only [Nat.zero_add] at q1 q2 q3 q4 q5
    have hf : ∀ j, w1.frozen? ⟨g, j, none⟩ = false := fun j => by rw [hb1.frozen HNA.out.2.2]; exact HNA.out.2.1 j
    have f0 := hf 0
    have f1 := hf 1
    have f2 := hf 2
    have f3 := hf 3
    have f4 := hf 4
    have f5 := hf 5
    rw [← hg]
    clear hb1 hW hm hf hg
    go_wp2_with (go_at_call 103; refine (HO.out _).mono ?_; rintro e w' ⟨rfl, hw'⟩; have hw'' := hw'.symm; clear hw'; subst hw'')
    have HNN := setNode_same (n := ⟨19, 1, v, p, b, 0⟩) HNX.out
    refine bodyPost_ret (v := .agg #[.int .i64 19, .int .i64 1, .int .i64 v, .int .i64 p, .int .i64 b, .int .i64 0]) (results_node rfl HNN) rfl ⟨rfl, HEND.out _ ⟨19, 1, v, p, b, 0⟩ HB1.out⟩

end Go.Proofs.YtdmogjhabladcaaGreat.Qi0
