/- Small texts of mine, one behind the other. -/
import Derived.Test.YtdmogjhabladcaaGreatRows
import Derived.WalkKit
import Derived.WalkSpells
import Derived.WalkLawsBesides
import Derived.Deep.QuietTactic
import Derived.BigQuiet
import Derived.Deep.RegionWith
import Derived.Laws.MakeOwn
import Derived.Deep.AppendLies
import Derived.OwnWalk
import Derived.ProofKit
import Derived.Deep.Slices
import Derived.Deep.RegionHeld
import Derived.Deep.CutRange
import Derived.Test.YtdmogjhabladcaaGreatPkA
/- Walks of the exact laws' helpers on single nodes. -/
namespace Go.Proofs.YtdmogjhabladcaaGreat.Nd1
open Go.RowKit
set_option linter.unusedVariables false

theorem ret_bool {a b : Bool} (h : a = b) : Ending.returned (.bool a) = .returned (.bool b) := by rw [h]

set_option maxHeartbeats 1000000 in
theorem toNode (o m k a b c : Int) (w : World) :
    Calls Tryz.prog 78 #[.agg #[.int .i64 o, .int .i64 m, .int .i64 k, .int .i64 a, .int .i64 b, .int .i64 c]] w fun e w' => e = .returned (.agg #[.int .i64 o, .int .i64 m, .int .i64 k, .int .i64 a, .int .i64 b, .int .i64 c]) ∧ Below w.heap.size w w' := by
  go_enter Tryz.func78, Tryz.ntmps78
  go_wp2
  refine bodyPost_ret (v := .agg #[.int .i64 o, .int .i64 m, .int .i64 k, .int .i64 a, .int .i64 b, .int .i64 c]) (by simp [results, Tryz.results78, go_sem]) rfl ⟨rfl, ?_⟩
  exact (((Below.refl _ _).alloc (Nat.le_refl _) _).alloc (by simp) _).alloc (by simp; omega) _

set_option maxHeartbeats 1000000 in
theorem eqNode (o m k a b c o' m' k' a' b' c' : Int) (r : Bool) (hr : r = decide (o = o' ∧ m = m' ∧ k = k' ∧ a = a' ∧ b = b' ∧ c = c')) (w : World) :
    Calls Tryz.prog 79 #[.agg #[.int .i64 o, .int .i64 m, .int .i64 k, .int .i64 a, .int .i64 b, .int .i64 c], .agg #[.int .i64 o', .int .i64 m', .int .i64 k', .int .i64 a', .int .i64 b', .int .i64 c']] w fun e w' => e = .returned (.bool r) ∧ Below w.heap.size w w' := by
  have HR : Hid (r = decide (o = o' ∧ m = m' ∧ k = k' ∧ a = a' ∧ b = b' ∧ c = c')) := hr
  clear hr
  go_enter Tryz.func79, Tryz.ntmps79
  go_wp2
  all_goals
    go_ret
    refine ⟨ret_bool ?_, ((Below.refl _ _).alloc (Nat.le_refl _) _).alloc (by simp) _⟩
    rw [HR.out]
    simp_all

end Go.Proofs.YtdmogjhabladcaaGreat.Nd1

/- Walks of the exact laws' helpers on slices of nodes. -/
namespace Go.Proofs.YtdmogjhabladcaaGreat.Nd2
open Go.RowKit
open Nd0 Nd1
set_option linter.unusedVariables false

set_option maxHeartbeats 1000000 in
theorem eqNodeS (w : World) (a a' : Option Addr) (l : List Nd) (c c' : Nat) (h : Nodes w a l) (h' : Nodes w a' l) :
    Calls Tryz.prog 36 #[.slice a l.length c, .slice a' l.length c'] w fun e w' => e = .returned (.bool true) ∧ Below w.heap.size w w' := by
  have H : Hid (Nodes w a l) := h
  have H' : Hid (Nodes w a' l) := h'
  have hm := h.1
  unfold maxLen at hm
  clear h h'
  go_enter Tryz.func36, Tryz.ntmps36
  go_wp2
  go_loopw [5] (fun i wr => ∃ k : Nat, k ≤ l.length ∧ i = .int .i64 k ∧ Below w.heap.size w wr) (fun i _ => l.length - (intOf i).toNat)
  case atStart => exact ⟨0, Nat.zero_le _, rfl, Below.refl _ _⟩
  case round =>
    obtain ⟨k, hk, rfl, hb⟩ := hrel
    have HB : Hid (Below w.heap.size w wr) := hb
    clear hb
    by_cases hlt : k < l.length
    · have hlz : (k : Int) < (l.length : Int) := by omega
      have HN := H.out.below HB.out
      have HN' := H'.out.below HB.out
      rcases HN.2 with h0 | ⟨xb, xo, rfl, hc⟩
      · omega
      rcases HN'.2 with h0 | ⟨yb, yo, rfl, hc'⟩
      · omega
      obtain ⟨p0, p1, p2, p3, p4, p5⟩ := hc k hlt
      obtain ⟨q0, q1, q2, q3, q4, q5⟩ := hc' k hlt
      clear hc hc' HN HN'
      generalize l[k] = x at p0 p1 p2 p3 p4 p5 q0 q1 q2 q3 q4 q5
      obtain ⟨x0, x1, x2, x3, x4, x5⟩ := x
      simp only at p0 p1 p2 p3 p4 p5 q0 q1 q2 q3 q4 q5
      go_wp2
      go_region_with (go_at_call 79; refine (eqNode _ _ _ _ _ _ _ _ _ _ _ _ true (by simp) _).mono ?_; rintro e w' ⟨rfl, hbe⟩)
      all_goals
        have HB2 : Hid (Below w.heap.size w w') := HB.out.drew.trans (hbe.mono (by have := HB.out.size; simpa using this))
        clear hbe
        go_wp2
        go_roundw
        case rel => exact ⟨k + 1, by omega, by go_num, HB2.out⟩
        case measure => simp [intOf]; omega
    · go_wp2
      go_ret
      exact ⟨rfl, HB.out⟩

set_option maxHeartbeats 1000000 in
theorem eqIntS (w : World) (a a' : Option Addr) (l : List Int) (c c' : Nat) (h : Ints w a l) (h' : Ints w a' l) :
    Calls Tryz.prog 37 #[.slice a l.length c, .slice a' l.length c'] w fun e w' => e = .returned (.bool true) ∧ ∃ m, w' = w.drewN m := by
  have H : Hid (Ints w a l) := h
  have H' : Hid (Ints w a' l) := h'
  have hm := h.1
  unfold maxLen at hm
  clear h h'
  go_enter Tryz.func37, Tryz.ntmps37
  go_wp2
  go_loopw [5] (fun i wr => ∃ k : Nat, k ≤ l.length ∧ i = .int .i64 k ∧ ∃ m, wr = w.drewN m) (fun i _ => l.length - (intOf i).toNat)
  case atStart => exact ⟨0, Nat.zero_le _, rfl, 0, rfl⟩
  case round =>
    obtain ⟨k, hk, rfl, m, rfl⟩ := hrel
    by_cases hlt : k < l.length
    · have hlz : (k : Int) < (l.length : Int) := by omega
      rcases H.out.2 with h0 | ⟨xb, xo, rfl, hc⟩
      · omega
      rcases H'.out.2 with h0 | ⟨yb, yo, rfl, hc'⟩
      · omega
      have p0 := hc k hlt
      have q0 := hc' k hlt
      clear hc hc'
      generalize l[k] = x at p0 q0
      go_wp2
      go_quiet (fail)
      go_wp2
      go_roundw
      case rel => exact ⟨k + 1, by omega, by go_num, _, rfl⟩
      case measure => simp [intOf]; omega
    · go_wp2
      go_ret
      exact ⟨rfl, _, rfl⟩

set_option maxHeartbeats 400000 in
theorem szNodeS (w : World) (a : Option Addr) (n c : Nat) (left : Int) (h0 : 0 ≤ left) (h1 : left ≤ 1048576) (hn : n ≤ maxLen) :
    Calls Tryz.prog 33 #[.slice a n c, .int .i64 left] w fun e w' => e = .returned (.int .i64 (if (n : Int) ≤ left then left - n else -1)) ∧ w' = w := by
  unfold maxLen at hn
  by_cases hc : (n : Int) ≤ left
  · go_enter Tryz.func33, Tryz.ntmps33
    go_wp2
    go_ret
    exact ⟨rfl, rfl⟩
  · go_enter Tryz.func33, Tryz.ntmps33
    go_wp2
    go_ret
    exact ⟨rfl, rfl⟩

end Go.Proofs.YtdmogjhabladcaaGreat.Nd2

/- Walks of the exact laws' helpers that write: marks put into lists, and looked for. -/
namespace Go.Proofs.YtdmogjhabladcaaGreat.Nd3
open Go.RowKit
open Nd0 Nd1
set_option linter.unusedVariables false

/-- Six marks from z on. -/
def mkN (z : Int) : Nd := ⟨z, z + 1, z + 1 + 1, z + 1 + 1 + 1, z + 1 + 1 + 1 + 1, z + 1 + 1 + 1 + 1 + 1⟩
/-- The nodes of marks from k0 on. -/
def markN (n : Nat) (k0 : Int) : List Nd := (List.range n).map fun (i : Nat) => (mkN (k0 + 6 * (i : Int)))
theorem markN_length (n : Nat) (k0 : Int) : (markN n k0).length = n := by simp [markN]
theorem markN_get (n : Nat) (k0 : Int) (i : Nat) (h : i < (markN n k0).length) : (markN n k0)[i] = (mkN (k0 + 6 * (i : Int))) := by simp [markN]

/-- A slice of the nodes l, in a block from B on, that may be written. -/
def WNodes (w : World) (B : Nat) (a : Option Addr) (l : List Nd) : Prop :=
  l.length ≤ maxLen ∧ (l.length = 0 ∨ ∃ b o, a = some ⟨b, o, none⟩ ∧ B ≤ b ∧ (∀ i (h : i < l.length), NodeAt w b (o + i * 6) l[i]) ∧ ∀ j, j < l.length * 6 → w.frozen? ⟨b, o + j, none⟩ = false)
theorem WNodes.nodes {w : World} {B : Nat} {a : Option Addr} {l : List Nd} (h : WNodes w B a l) : Nodes w a l := by
  refine ⟨h.1, ?_⟩
  rcases h.2 with h0 | ⟨b, o, ha, _, hc, _⟩
  · exact .inl h0
  · exact .inr ⟨b, o, ha, hc⟩

end Go.Proofs.YtdmogjhabladcaaGreat.Nd3

/- The walk of the exact laws' copy of a list of nodes. -/
namespace Go.Proofs.YtdmogjhabladcaaGreat.Nd4
open Go.RowKit
open Nd0 Nd1 Nd3
set_option linter.unusedVariables false

theorem infoNode : (Tryz.prog.info? 31).map (fun i => (i.zero, i.size, i.bytes)) = some (some (.agg #[.int .i64 0, .int .i64 0, .int .i64 0, .int .i64 0, .int .i64 0, .int .i64 0]), 6, 48) := by kernel_rfl

/-- n nodes of noughts. -/
def zeros (n : Nat) : Array Value := madeCells #[.int .i64 0, .int .i64 0, .int .i64 0, .int .i64 0, .int .i64 0, .int .i64 0] (n * 6)
theorem zeros_get (n j : Nat) (h : j < n * 6) : (zeros n)[j]? = some (.int .i64 0) := by
  have hz : ∀ m, m < 6 → (#[.int .i64 0, .int .i64 0, .int .i64 0, .int .i64 0, .int .i64 0, .int .i64 0] : Array Value)[m]! = .int .i64 0 := by
    intro m hm
    have : m = 0 ∨ m = 1 ∨ m = 2 ∨ m = 3 ∨ m = 4 ∨ m = 5 := by omega
    rcases this with rfl | rfl | rfl | rfl | rfl | rfl <;> rfl
  simp only [zeros, madeCells, Array.getElem?_map, Array.getElem?_range]
  rw [if_pos h]
  simp only [Option.map_some]
  exact congrArg some (hz _ (Nat.mod_lt _ (by simp)))
theorem makeNodes (n : Nat) (hn : n ≤ 1048576) (w : World) :
    (Instr.makeSlice 24 (.int .i64 (n : Int)) (.int .i64 (n : Int))).run Tryz.prog w = .ok (.slice (some ⟨w.heap.size, 0, none⟩) n n) (w.alloc (.cells (zeros n) 31)) := by
  obtain ⟨i, hi, hzz⟩ := Option.map_eq_some_iff.1 infoNode
  simp only [Prod.mk.injEq] at hzz
  obtain ⟨hz, hs, hb⟩ := hzz
  have h := run_make (P := Tryz.prog) w 24 31 i _ Tryz.underlying24 hi hz .i64 .i64 n n (by omega) (Int.le_refl _) (by rw [hb]; omega) (by omega)
  rw [hs] at h
  simpa [zeros, Value.cells] using h
theorem zeros_at (w : World) (n : Nat) (T : Nat) (j : Nat) (hj : j < n) : NodeAt (w.alloc (.cells (zeros n) T)) w.heap.size (j * 6) Nd.zero := by
  refine ⟨?_, ?_, ?_, ?_, ?_, ?_⟩ <;> rw [World.cell?_alloc_new] <;> exact zeros_get _ _ (by omega)

set_option maxHeartbeats 2000000 in
theorem toNodeS (w : World) (a : Option Addr) (l : List Nd) (c : Nat) (h : Nodes w a l) (hl : l.length ≤ 1048576) :
    Calls Tryz.prog 34 #[.slice a l.length c] w fun e w' => e = .returned (.slice (some ⟨w.heap.size, 0, none⟩) l.length l.length) ∧ WNodes w' w.heap.size (some ⟨w.heap.size, 0, none⟩) l ∧ Below w.heap.size w w' := by
  have H : Hid (Nodes w a l) := h
  clear h
  have hmk := makeNodes l.length hl
  go_enter Tryz.func34, Tryz.ntmps34
  go_wp2
  clear hmk
  go_loopw [4] (fun i wr => ∃ k : Nat, k ≤ l.length ∧ i = .int .i64 k ∧ Below w.heap.size w wr ∧ w.heap.size < wr.heap.size ∧ (∀ j, j < l.length * 6 → wr.frozen? ⟨w.heap.size, j, none⟩ = false) ∧ ∀ j (hj : j < l.length), ∃ v : Nd, NodeAt wr w.heap.size (j * 6) v ∧ (j < k → v = l[j])) (fun i _ => l.length - (intOf i).toNat)
  case atStart =>
    exact ⟨0, Nat.zero_le _, rfl, (Below.refl _ _).alloc (Nat.le_refl _) _, by simp, fun j hj => by simp, fun j hj => ⟨_, zeros_at w _ _ j hj, fun x => by omega⟩⟩
  case round =>
    obtain ⟨k, hk, rfl, hb, hz, hf, hx⟩ := hrel
    have HB : Hid (Below w.heap.size w wr) := hb
    by_cases hlt : k < l.length
    · have HN := H.out.below hb
      clear hb
      rcases HN.2 with h0 | ⟨xb, xo, rfl, hc⟩
      · omega
      obtain ⟨p0, p1, p2, p3, p4, p5⟩ := hc k hlt
      have HL : Hid (l[k] = l[k]) := rfl
      clear hc HN HL
      have HX : Hid (∀ j (hj : j < l.length), ∃ v : Nd, NodeAt wr w.heap.size (j * 6) v ∧ (j < k → v = l[j])) := hx
      have HF : Hid (∀ j, j < l.length * 6 → wr.frozen? ⟨w.heap.size, j, none⟩ = false) := hf
      clear hx hf
      have hlz : (k : Int) < (l.length : Int) := by omega
      obtain ⟨nd, hnd⟩ : ∃ nd : Nd, nd = l[k] := ⟨_, rfl⟩
      have HD : Hid (nd = l[k]) := hnd
      rw [← hnd] at p0 p1 p2 p3 p4 p5
      clear hnd
      go_wp2_with fail
      refine (toNode _ _ _ _ _ _ _).mono ?_
      rintro e w1 ⟨rfl, hb1⟩
      have HB1 : Hid (Below wr.heap.size wr w1) := hb1
      obtain ⟨v, ⟨q0, q1, q2, q3, q4, q5⟩, _⟩ := HX.out k hlt
      have g0 : w1.frozen? ⟨w.heap.size, k * 6, none⟩ = false := by rw [hb1.frozen hz]; exact HF.out (k * 6) (by omega)
      have g1 : w1.frozen? ⟨w.heap.size, k * 6 + 1, none⟩ = false := by rw [hb1.frozen hz]; exact HF.out (k * 6 + 1) (by omega)
      have g2 : w1.frozen? ⟨w.heap.size, k * 6 + 2, none⟩ = false := by rw [hb1.frozen hz]; exact HF.out (k * 6 + 2) (by omega)
      have g3 : w1.frozen? ⟨w.heap.size, k * 6 + 3, none⟩ = false := by rw [hb1.frozen hz]; exact HF.out (k * 6 + 3) (by omega)
      have g4 : w1.frozen? ⟨w.heap.size, k * 6 + 4, none⟩ = false := by rw [hb1.frozen hz]; exact HF.out (k * 6 + 4) (by omega)
      have g5 : w1.frozen? ⟨w.heap.size, k * 6 + 5, none⟩ = false := by rw [hb1.frozen hz]; exact HF.out (k * 6 + 5) (by omega)
      rw [← hb1.cell hz] at q0 q1 q2 q3 q4 q5
      clear hb1 p0 p1 p2 p3 p4 p5
      go_wp2
      go_roundw
      case rel =>
        have F1 : Below w.heap.size w (setNode w1 w.heap.size (k * 6) nd) :=
          HB.out.trans ((setNode_kept (b := w.heap.size) (o := 0) (p := k * 6) (n := nd) (Kept.ofBelow HB1.out)).below (fun i hi => by obtain ⟨x, hx, rfl⟩ := hi; cases hx; exact Nat.le_refl _) HB.out.size)
        have F2 : w.heap.size < (setNode w1 w.heap.size (k * 6) nd).heap.size := by
          have := HB1.out.size
          rw [setNode_size]; omega
        have F3 : ∀ j, j < l.length * 6 → (setNode w1 w.heap.size (k * 6) nd).frozen? ⟨w.heap.size, j, none⟩ = false := by
          intro j hj
          rw [setNode_frozen, HB1.out.frozen hz]; exact HF.out j hj
        have F4 : ∀ j (hj : j < l.length), ∃ v : Nd, NodeAt (setNode w1 w.heap.size (k * 6) nd) w.heap.size (j * 6) v ∧ (j < k + 1 → v = l[j]) := by
          intro j hj
          obtain ⟨u, r0, r1⟩ := HX.out j hj
          have r2 : NodeAt w1 w.heap.size (j * 6) u := r0.below HB1.out hz
          by_cases e : j = k
          · subst e
            exact ⟨nd, setNode_same r2, fun _ => HD.out⟩
          · exact ⟨u, setNode_other r2 (by omega), fun x => r1 (by omega)⟩
        exact ⟨k + 1, by omega, by go_num, F1, F2, F3, F4⟩
      case measure => simp [intOf]; omega
    · go_wp2
      go_ret
      refine ⟨rfl, ⟨H.out.1, ?_⟩, HB.out⟩
      refine .inr ⟨w.heap.size, 0, rfl, Nat.le_refl _, fun i hi => ?_, fun j hj => by rw [Nat.zero_add]; exact hf j hj⟩
      obtain ⟨v, q0, q1⟩ := hx i hi
      rw [Nat.zero_add, ← q1 (by omega)]
      exact q0

end Go.Proofs.YtdmogjhabladcaaGreat.Nd4

/- Lists of nodes that may be written, kept apart by where they lie. -/
namespace Go.Proofs.YtdmogjhabladcaaGreat.Nd5
open Go.RowKit
open Nd0 Nd3

/-- A slice of the nodes l, in a block from B on and below U, that may be written. -/
def NodesIn (w : World) (B U : Nat) (a : Option Addr) (l : List Nd) : Prop :=
  l.length ≤ maxLen ∧ (l.length = 0 ∨ ∃ b o, a = some ⟨b, o, none⟩ ∧ B ≤ b ∧ b < U ∧ (∀ i (h : i < l.length), NodeAt w b (o + i * 6) l[i]) ∧ ∀ j, j < l.length * 6 → w.frozen? ⟨b, o + j, none⟩ = false)
theorem WNodes.within {w : World} {B : Nat} {a : Option Addr} {l : List Nd} (h : WNodes w B a l) : NodesIn w B w.heap.size a l := by
  refine ⟨h.1, ?_⟩
  by_cases e : l.length = 0
  · exact .inl e
  · rcases h.2 with h0 | ⟨b, o, ha, hB, hc, hf⟩
    · exact .inl h0
    · exact .inr ⟨b, o, ha, hB, (hc 0 (by omega)).lt, hc, hf⟩
theorem NodesIn.wnodes {w : World} {B U : Nat} {a : Option Addr} {l : List Nd} (h : NodesIn w B U a l) : WNodes w B a l := by
  refine ⟨h.1, ?_⟩
  rcases h.2 with h0 | ⟨b, o, ha, hB, _, hc, hf⟩
  · exact .inl h0
  · exact .inr ⟨b, o, ha, hB, hc, hf⟩
theorem NodesIn.kept {w w' : World} {B U : Nat} {a : Option Addr} {l : List Nd} (h : NodesIn w B U a l) {S : Nat → Prop} (k : Kept S w w') (hs : ∀ b, B ≤ b → b < U → ¬ S b) : NodesIn w' B U a l := by
  refine ⟨h.1, ?_⟩
  by_cases e : l.length = 0
  · exact .inl e
  rcases h.2 with h0 | ⟨b, o, rfl, hB, hU, hc, hf⟩
  · exact .inl h0
  · have hb : b < w.heap.size := (hc 0 (by omega)).lt
    have hn : ¬ S b := hs b hB hU
    refine .inr ⟨b, o, rfl, hB, hU, fun i hi => ?_, fun j hj => by rw [k.frozen (p := ⟨b, o + j, none⟩) hb hn]; exact hf j hj⟩
    obtain ⟨c0, c1, c2, c3, c4, c5⟩ := hc i hi
    exact ⟨by rw [k.cell hb hn]; exact c0, by rw [k.cell hb hn]; exact c1, by rw [k.cell hb hn]; exact c2, by rw [k.cell hb hn]; exact c3, by rw [k.cell hb hn]; exact c4, by rw [k.cell hb hn]; exact c5⟩
theorem NodesIn.again {w w' : World} {B U : Nat} {a : Option Addr} {l l' : List Nd} (h : NodesIn w B U a l) (h' : WNodes w' B a l') (e : l'.length = l.length) : NodesIn w' B U a l' := by
  refine ⟨h'.1, ?_⟩
  rcases h.2 with h0 | ⟨b, o, rfl, hB, hU, hc, hf⟩
  · exact .inl (by omega)
  · rcases h'.2 with h0 | ⟨b', o', ha, hB', hc', hf'⟩
    · exact .inl h0
    · cases ha
      exact .inr ⟨b, o, rfl, hB, hU, hc', hf'⟩
theorem NodesIn.ats {w : World} {B U : Nat} {a : Option Addr} {l : List Nd} (h : NodesIn w B U a l) {k : Nat} (hk : Ats l.length a k) : B ≤ k ∧ k < U := by
  obtain ⟨hp, x, hx, rfl⟩ := hk
  rcases h.2 with h0 | ⟨b, o, rfl, hB, hU, _⟩
  · omega
  · cases hx; exact ⟨hB, hU⟩
theorem NodesIn.below {w w' : World} {B U : Nat} {a : Option Addr} {l : List Nd} (h : NodesIn w B U a l) (k : Below w.heap.size w w') : NodesIn w' B U a l :=
  h.kept (S := fun _ => False) (Kept.ofBelow k) (fun _ _ _ h => h)
theorem NodesIn.nodes {w : World} {B U : Nat} {a : Option Addr} {l : List Nd} (h : NodesIn w B U a l) : Nodes w a l := h.wnodes.nodes

end Go.Proofs.YtdmogjhabladcaaGreat.Nd5

/- Lists of whole numbers and of flags that are appended to: the law at the walk, and how they are read. -/
namespace Go.Proofs.YtdmogjhabladcaaGreat.Ap0
open Go.RowKit
open Nd0
set_option linter.unusedVariables false

theorem infoInt : (Tryz.prog.info? 3).map (fun i => (i.zero, i.size, i.bytes)) = some (some (.int .i64 0), 1, 8) := by kernel_rfl

/-- The slice v, in a block from B on, is the numbers l and may be appended to. -/
def Ows (w : World) (B : Nat) (v : Value) (l : List Int) : Prop := w.ownsRow B 3 1 v l.length (l.map fun x => .int .i64 x)

theorem Ows.form {w : World} {B : Nat} {v : Value} {l : List Int} (h : Ows w B v l) : ∃ a c, v = .slice a l.length c ∧ WInts w B a l := by
  obtain ⟨h1, h2⟩ := h
  rcases h2 with ⟨rfl, h0⟩ | ⟨g, cap, cur, rfl, hb, hg, hn, hm, hs, ht⟩
  · have : l = [] := List.eq_nil_of_length_eq_zero h0
    subst this
    exact ⟨none, 0, rfl, Nat.zero_le _, .inl rfl⟩
  · refine ⟨_, _, rfl, by omega, .inr ⟨g, 0, rfl, hb, fun i hi => ⟨?_, ?_⟩⟩⟩
    · rw [Nat.zero_add, cell_of_row w g i cur _ _ hg]
      have e : (cur.toList.take (l.length * 1))[i]? = some (.int .i64 l[i]) := by rw [ht]; simp [hi]
      rw [List.getElem?_take_of_lt (by omega)] at e
      simpa using e
    · rw [Nat.zero_add]
      simp [World.frozen?, hg]
theorem Ows.lit (w : World) (B : Nat) (hB : B ≤ w.heap.size) : Ows (w.alloc (.cells #[] 3)) B (.slice (some ⟨w.heap.size, 0, none⟩) 0 0) [] :=
  World.ownsRow_lit w #[] 0 hB (Nat.zero_le _) rfl
theorem Ows.lt {w : World} {B : Nat} {v : Value} {l : List Int} (h : Ows w B v l) : ∀ k, v.ownBlock = some k → B ≤ k ∧ k < w.heap.size := World.ownsRow.lt h
theorem Ows.kept {w w' : World} {B : Nat} {v : Value} {l : List Int} (h : Ows w B v l) {S : Nat → Prop} (k : Kept S w w') (hs : ∀ i, v.ownBlock = some i → ¬ S i) : Ows w' B v l := by
  refine ⟨h.1, ?_⟩
  rcases h.2 with hn | ⟨g, cap, cur, rfl, hb, hgg, rest⟩
  · exact .inl hn
  · refine .inr ⟨g, cap, cur, rfl, hb, ?_, rest⟩
    rw [k.block g (Array.getElem?_eq_some_iff.1 hgg).1 (hs g rfl)]
    exact hgg

/-- One number more. -/
theorem app_int {ops : Array Oper} {rest : List Oper} {o : Oper} {a : Act} {Q : Exit → Act → World → Prop} (W : World) (hgd : o.guard = none) (s x : Operand)
    (ho : o.op = .call { callee := .builtin .append, args := #[s, x], argTypes := #[25, 25] })
    (B : Nat) (v : Value) (l : List Int) (y : Int) (hs : a.eval s = v) (hx : a.eval x = .slice (some ⟨W.heap.size, 0, none⟩) 1 1)
    (hown : Ows W B v l) (hB : B ≤ W.heap.size) (hlen : l.length ≤ 1048576)
    (h : ∀ g cap w', Ows w' B (.slice (some ⟨g, 0, none⟩) (l.length + 1) cap) (l ++ [y]) → Kept (fun k => v.ownBlock = some k) W w' → (v.ownBlock = some g ∨ W.heap.size ≤ g) → wpList Tryz.prog ops Q rest (a.put o.dst (.slice (some ⟨g, 0, none⟩) (l.length + 1) cap)) w') :
    wpList Tryz.prog ops Q (o :: rest) a (W.alloc (.cells #[.int .i64 y] 3)) := by
  obtain ⟨i, hi, hzz⟩ := Option.map_eq_some_iff.1 infoInt
  simp only [Prod.mk.injEq] at hzz
  obtain ⟨hz, hsz, hb⟩ := hzz
  refine wpList_append_lies (W.alloc (.cells #[.int .i64 y] 3)) hgd s x 25 ho B 3 i (.int .i64 0) 1 8 Tryz.underlying25 hi hz hsz hb rfl (by omega) v l.length (l.map fun x => .int .i64 x) hs (World.ownsRow.alloc hown _)
    ⟨W.heap.size, 0, none⟩ 1 1 [.int .i64 y] hx rfl ?_ ?_ (by omega) (by unfold maxLen; omega) (by omega) (by simp; omega) _ rfl ?_
  · intro j u hu
    exact World.news_of_block (heap_alloc_new W _) j u hu
  · intro u hu
    simp at hu
    subst hu
    rfl
  · intro g cap w' h1 h2 h3 h4
    refine h g cap w' ?_ ?_ ?_
    · unfold Ows
      simpa using h1
    · have k1 : Kept (fun k => v.ownBlock = some k) W (W.alloc (.cells #[.int .i64 y] 3)) := (Kept.refl _ W).alloc _
      exact k1.trans ⟨h2.os, h2.tape, h2.output, h2.size, fun k hk hn => h2.block k hk (fun e => hn e.symm)⟩
    · rcases h3 with h3 | h3
      · exact .inl h3
      · exact .inr (by rw [h3]; simp)

end Go.Proofs.YtdmogjhabladcaaGreat.Ap0

/- Lists of flags that are appended to and written: the law at the walk, and how they are read. -/
namespace Go.Proofs.YtdmogjhabladcaaGreat.Ap1
open Go.RowKit
open Nd0
set_option linter.unusedVariables false

/-- A slice of the flags l, in a block from B on, that may be written. -/
def WBools (w : World) (B : Nat) (a : Option Addr) (l : List Bool) : Prop :=
  l.length ≤ maxLen ∧ (l.length = 0 ∨ ∃ b o, a = some ⟨b, o, none⟩ ∧ B ≤ b ∧ ∀ i (h : i < l.length), w.cell? ⟨b, o + i, none⟩ = some (.bool l[i]) ∧ w.frozen? ⟨b, o + i, none⟩ = false)

theorem infoBool : (Tryz.prog.info? 4).map (fun i => (i.zero, i.size, i.bytes)) = some (some (.bool false), 1, 1) := by kernel_rfl

/-- The slice v, in a block from B on, is the flags l and may be appended to. -/
def Owb (w : World) (B : Nat) (v : Value) (l : List Bool) : Prop := w.ownsRow B 4 1 v l.length (l.map fun x => .bool x)

theorem Owb.form {w : World} {B : Nat} {v : Value} {l : List Bool} (h : Owb w B v l) : ∃ a c, v = .slice a l.length c ∧ WBools w B a l := by
  obtain ⟨h1, h2⟩ := h
  rcases h2 with ⟨rfl, h0⟩ | ⟨g, cap, cur, rfl, hb, hg, hn, hm, hs, ht⟩
  · have : l = [] := List.eq_nil_of_length_eq_zero h0
    subst this
    exact ⟨none, 0, rfl, Nat.zero_le _, .inl rfl⟩
  · refine ⟨_, _, rfl, by omega, .inr ⟨g, 0, rfl, hb, fun i hi => ⟨?_, ?_⟩⟩⟩
    · rw [Nat.zero_add, cell_of_row w g i cur _ _ hg]
      have e : (cur.toList.take (l.length * 1))[i]? = some (.bool l[i]) := by rw [ht]; simp [hi]
      rw [List.getElem?_take_of_lt (by omega)] at e
      simpa using e
    · rw [Nat.zero_add]
      simp [World.frozen?, hg]
theorem Owb.lit (w : World) (B : Nat) (hB : B ≤ w.heap.size) : Owb (w.alloc (.cells #[] 4)) B (.slice (some ⟨w.heap.size, 0, none⟩) 0 0) [] :=
  World.ownsRow_lit w #[] 0 hB (Nat.zero_le _) rfl
theorem Owb.lt {w : World} {B : Nat} {v : Value} {l : List Bool} (h : Owb w B v l) : ∀ k, v.ownBlock = some k → B ≤ k ∧ k < w.heap.size := World.ownsRow.lt h
theorem Owb.kept {w w' : World} {B : Nat} {v : Value} {l : List Bool} (h : Owb w B v l) {S : Nat → Prop} (k : Kept S w w') (hs : ∀ i, v.ownBlock = some i → ¬ S i) : Owb w' B v l := by
  refine ⟨h.1, ?_⟩
  rcases h.2 with hn | ⟨g, cap, cur, rfl, hb, hgg, rest⟩
  · exact .inl hn
  · refine .inr ⟨g, cap, cur, rfl, hb, ?_, rest⟩
    rw [k.block g (Array.getElem?_eq_some_iff.1 hgg).1 (hs g rfl)]
    exact hgg

/-- A flag written over. -/
theorem Owb.set {w : World} {B g cap : Nat} {l : List Bool} (h : Owb w B (.slice (some ⟨g, 0, none⟩) l.length cap) l) (j : Nat) (x : Bool) : Owb (w.setCell ⟨g, j, none⟩ (.bool x)) B (.slice (some ⟨g, 0, none⟩) l.length cap) (l.set j x) := by
  have h1 := (World.ownsRow.stored h j (.bool x)).1
  unfold Owb
  rw [List.map_set, List.length_set]
  exact h1
theorem Owb.cell {w : World} {B g cap : Nat} {l : List Bool} (h : Owb w B (.slice (some ⟨g, 0, none⟩) l.length cap) l) (j : Nat) (hj : j < l.length) : w.cell? ⟨g, j, none⟩ = some (.bool l[j]) ∧ w.frozen? ⟨g, j, none⟩ = false := by
  obtain ⟨a, c, hv, hw⟩ := h.form
  cases hv
  rcases hw.2 with h0 | ⟨b, o, hb, _, hc⟩
  · omega
  · cases hb
    have := hc j hj
    rw [Nat.zero_add] at this
    exact this

theorem Owb.set' {w : World} {B g cap n : Nat} {l : List Bool} (h : Owb w B (.slice (some ⟨g, 0, none⟩) n cap) l) (hn : l.length = n) (j : Nat) (x : Bool) : Owb (w.setCell ⟨g, j, none⟩ (.bool x)) B (.slice (some ⟨g, 0, none⟩) n cap) (l.set j x) := by
  subst hn; exact h.set j x
theorem Owb.cell' {w : World} {B g cap n : Nat} {l : List Bool} (h : Owb w B (.slice (some ⟨g, 0, none⟩) n cap) l) (hn : l.length = n) (j : Nat) (hj : j < n) : w.cell? ⟨g, j, none⟩ = some (.bool (l[j]'(by omega))) ∧ w.frozen? ⟨g, j, none⟩ = false := by
  subst hn; exact h.cell j hj
theorem Owb.at {w : World} {B : Nat} {v : Value} {l : List Bool} (h : Owb w B v l) (hl : 1 ≤ l.length) : ∃ g c, v = .slice (some ⟨g, 0, none⟩) l.length c ∧ B ≤ g ∧ g < w.heap.size := by
  rcases h.2 with ⟨rfl, h0⟩ | ⟨g, cap, cur, rfl, hb, hg, _⟩
  · omega
  · exact ⟨g, cap, rfl, hb, (Array.getElem?_eq_some_iff.1 hg).1⟩

/-- One flag more. -/
theorem app_bool {ops : Array Oper} {rest : List Oper} {o : Oper} {a : Act} {Q : Exit → Act → World → Prop} (W : World) (hgd : o.guard = none) (s x : Operand)
    (ho : o.op = .call { callee := .builtin .append, args := #[s, x], argTypes := #[45, 45] })
    (B : Nat) (v : Value) (l : List Bool) (y : Bool) (hs : a.eval s = v) (hx : a.eval x = .slice (some ⟨W.heap.size, 0, none⟩) 1 1)
    (hown : Owb W B v l) (hB : B ≤ W.heap.size) (hlen : l.length ≤ 1048576)
    (h : ∀ g cap w', Owb w' B (.slice (some ⟨g, 0, none⟩) (l.length + 1) cap) (l ++ [y]) → Kept (fun k => v.ownBlock = some k) W w' → (v.ownBlock = some g ∨ W.heap.size ≤ g) → wpList Tryz.prog ops Q rest (a.put o.dst (.slice (some ⟨g, 0, none⟩) (l.length + 1) cap)) w') :
    wpList Tryz.prog ops Q (o :: rest) a (W.alloc (.cells #[.bool y] 4)) := by
  obtain ⟨i, hi, hzz⟩ := Option.map_eq_some_iff.1 infoBool
  simp only [Prod.mk.injEq] at hzz
  obtain ⟨hz, hsz, hb⟩ := hzz
  refine wpList_append_lies (W.alloc (.cells #[.bool y] 4)) hgd s x 45 ho B 4 i (.bool false) 1 1 Tryz.underlying45 hi hz hsz hb rfl (by omega) v l.length (l.map fun x => .bool x) hs (World.ownsRow.alloc hown _)
    ⟨W.heap.size, 0, none⟩ 1 1 [.bool y] hx rfl ?_ ?_ (by omega) (by unfold maxLen; omega) (by omega) (by simp; omega) _ rfl ?_
  · intro j u hu
    exact World.news_of_block (heap_alloc_new W _) j u hu
  · intro u hu
    simp at hu
    subst hu
    rfl
  · intro g cap w' h1 h2 h3 h4
    refine h g cap w' ?_ ?_ ?_
    · unfold Owb
      simpa using h1
    · have k1 : Kept (fun k => v.ownBlock = some k) W (W.alloc (.cells #[.bool y] 4)) := (Kept.refl _ W).alloc _
      exact k1.trans ⟨h2.os, h2.tape, h2.output, h2.size, fun k hk hn => h2.block k hk (fun e => hn e.symm)⟩
    · rcases h3 with h3 | h3
      · exact .inl h3
      · exact .inr (by rw [h3]; simp)

end Go.Proofs.YtdmogjhabladcaaGreat.Ap1

/- Lists of nodes that are appended to: the law at the walk, and how they are read. -/
namespace Go.Proofs.YtdmogjhabladcaaGreat.Ap2
open Go.RowKit
open Nd0 Nd3
set_option linter.unusedVariables false

theorem infoNode : (Tryz.prog.info? 31).map (fun i => (i.zero, i.size, i.bytes)) = some (some (.agg #[.int .i64 0, .int .i64 0, .int .i64 0, .int .i64 0, .int .i64 0, .int .i64 0]), 6, 48) := by kernel_rfl

/-- The cells of a list of nodes. -/
def flat (l : List Nd) : List Value := l.flatMap Nd.cells
theorem cells_length (n : Nd) : n.cells.length = 6 := rfl
theorem flat_length (l : List Nd) : (flat l).length = l.length * 6 := by
  induction l with
  | nil => rfl
  | cons n l ih => show (n.cells ++ flat l).length = _; rw [List.length_append, ih, cells_length, List.length_cons]; omega
theorem flat_get (l : List Nd) : ∀ (i : Nat) (h : i < l.length) (j : Nat), j < 6 → (flat l)[i * 6 + j]? = (l[i].cells)[j]? := by
  induction l with
  | nil => intro i h; exact absurd h (Nat.not_lt_zero _)
  | cons n l ih =>
    intro i h j hj
    show (n.cells ++ flat l)[i * 6 + j]? = _
    cases i with
    | zero => rw [Nat.zero_mul, Nat.zero_add, List.getElem?_append_left (by rw [cells_length]; exact hj)]; rfl
    | succ i =>
      rw [List.getElem?_append_right (by rw [cells_length]; omega), cells_length, show (i + 1) * 6 + j - 6 = i * 6 + j by omega]
      exact ih i (by simpa using h) j hj
theorem flat_snoc (l : List Nd) (n : Nd) : flat (l ++ [n]) = flat l ++ n.cells := by simp [flat]

/-- The slice v, in a block from B on, is the nodes l and may be appended to. -/
def Own (w : World) (B : Nat) (v : Value) (l : List Nd) : Prop := w.ownsRow B 31 6 v l.length (flat l)

theorem Own.form {w : World} {B : Nat} {v : Value} {l : List Nd} (h : Own w B v l) : ∃ a c, v = .slice a l.length c ∧ WNodes w B a l := by
  obtain ⟨h1, h2⟩ := h
  rcases h2 with ⟨rfl, h0⟩ | ⟨g, cap, cur, rfl, hb, hg, hn, hm, hs, ht⟩
  · have : l = [] := List.eq_nil_of_length_eq_zero h0
    subst this
    exact ⟨none, 0, rfl, Nat.zero_le _, .inl rfl⟩
  · have hcell : ∀ j, j < l.length * 6 → w.cell? ⟨g, j, none⟩ = (flat l)[j]? := by
      intro j hj
      rw [cell_of_row w g j cur _ _ hg, ← ht, List.getElem?_take_of_lt hj]
      simp
    refine ⟨_, _, rfl, by omega, .inr ⟨g, 0, rfl, hb, fun i hi => ?_, fun j hj => ?_⟩⟩
    · have hf := flat_get l i hi
      rw [Nat.zero_add]
      refine ⟨?_, ?_, ?_, ?_, ?_, ?_⟩
      · rw [hcell _ (by omega)]; exact hf 0 (by omega)
      · rw [hcell _ (by omega)]; exact hf 1 (by omega)
      · rw [hcell _ (by omega)]; exact hf 2 (by omega)
      · rw [hcell _ (by omega)]; exact hf 3 (by omega)
      · rw [hcell _ (by omega)]; exact hf 4 (by omega)
      · rw [hcell _ (by omega)]; exact hf 5 (by omega)
    · rw [Nat.zero_add]
      simp [World.frozen?, hg]
theorem Own.lit (w : World) (B : Nat) (hB : B ≤ w.heap.size) : Own (w.alloc (.cells #[] 31)) B (.slice (some ⟨w.heap.size, 0, none⟩) 0 0) [] :=
  World.ownsRow_lit w #[] 0 hB (Nat.zero_le _) rfl
theorem Own.lt {w : World} {B : Nat} {v : Value} {l : List Nd} (h : Own w B v l) : ∀ k, v.ownBlock = some k → B ≤ k ∧ k < w.heap.size := World.ownsRow.lt h
theorem Own.kept {w w' : World} {B : Nat} {v : Value} {l : List Nd} (h : Own w B v l) {S : Nat → Prop} (k : Kept S w w') (hs : ∀ i, v.ownBlock = some i → ¬ S i) : Own w' B v l := by
  refine ⟨h.1, ?_⟩
  rcases h.2 with hn | ⟨g, cap, cur, rfl, hb, hgg, rest⟩
  · exact .inl hn
  · refine .inr ⟨g, cap, cur, rfl, hb, ?_, rest⟩
    rw [k.block g (Array.getElem?_eq_some_iff.1 hgg).1 (hs g rfl)]
    exact hgg
theorem Own.len {w : World} {B : Nat} {v : Value} {l : List Nd} (h : Own w B v l) : ∃ a c, v = .slice a l.length c := by
  obtain ⟨a, c, hv, _⟩ := h.form; exact ⟨a, c, hv⟩

/-- One node more. -/
theorem app_node {ops : Array Oper} {rest : List Oper} {o : Oper} {a : Act} {Q : Exit → Act → World → Prop} (W : World) (hgd : o.guard = none) (s x : Operand)
    (ho : o.op = .call { callee := .builtin .append, args := #[s, x], argTypes := #[24, 24] })
    (B : Nat) (v : Value) (l : List Nd) (y : Nd) (hs : a.eval s = v) (G : Nat) (hx : a.eval x = .slice (some ⟨G, 0, none⟩) 1 1) (hG : G = W.heap.size)
    (hown : Own W B v l) (hB : B ≤ W.heap.size) (hlen : l.length ≤ 1048576)
    (h : ∀ g cap w', Own w' B (.slice (some ⟨g, 0, none⟩) (l.length + 1) cap) (l ++ [y]) → Kept (fun k => v.ownBlock = some k) W w' → (v.ownBlock = some g ∨ W.heap.size ≤ g) → wpList Tryz.prog ops Q rest (a.put o.dst (.slice (some ⟨g, 0, none⟩) (l.length + 1) cap)) w') :
    wpList Tryz.prog ops Q (o :: rest) a (W.alloc (.cells #[.int .i64 y.op, .int .i64 y.w, .int .i64 y.k, .int .i64 y.a, .int .i64 y.b, .int .i64 y.c] 31)) := by
  subst hG
  obtain ⟨i, hi, hzz⟩ := Option.map_eq_some_iff.1 infoNode
  simp only [Prod.mk.injEq] at hzz
  obtain ⟨hz, hsz, hb⟩ := hzz
  refine wpList_append_lies (W.alloc (.cells #[.int .i64 y.op, .int .i64 y.w, .int .i64 y.k, .int .i64 y.a, .int .i64 y.b, .int .i64 y.c] 31)) hgd s x 24 ho B 31 i _ 6 48 Tryz.underlying24 hi hz hsz hb rfl (by omega) v l.length (flat l) hs (World.ownsRow.alloc hown _)
    ⟨W.heap.size, 0, none⟩ 1 1 y.cells hx rfl ?_ ?_ (by omega) (by unfold maxLen; omega) (by omega) (by simp; omega) _ rfl ?_
  · intro j u hu
    exact World.news_of_block (heap_alloc_new W _) j u hu
  · intro u hu
    simp [Nd.cells] at hu
    rcases hu with rfl | rfl | rfl | rfl | rfl | rfl <;> rfl
  · intro g cap w' h1 h2 h3 h4
    refine h g cap w' ?_ ?_ ?_
    · unfold Own
      rw [flat_snoc, List.length_append]
      exact h1
    · have k1 : Kept (fun k => v.ownBlock = some k) W (W.alloc (.cells #[.int .i64 y.op, .int .i64 y.w, .int .i64 y.k, .int .i64 y.a, .int .i64 y.b, .int .i64 y.c] 31)) := (Kept.refl _ W).alloc _
      exact k1.trans ⟨h2.os, h2.tape, h2.output, h2.size, fun k hk hn => h2.block k hk (fun e => hn e.symm)⟩
    · rcases h3 with h3 | h3
      · exact .inl h3
      · exact .inr (by rw [h3]; simp)

end Go.Proofs.YtdmogjhabladcaaGreat.Ap2

/- Lists of lists of flags: the law at the walk, and how they are read. -/
namespace Go.Proofs.YtdmogjhabladcaaGreat.Ap3
open Go.RowKit
open Nd0 Tm1 Tm4
set_option linter.unusedVariables false

theorem infoRow : (Tryz.prog.info? 45).map (fun i => (i.zero, i.size, i.bytes)) = some (some (.slice none 0 0), 1, 24) := by kernel_rfl

/-- The slice v, in a block from B on, is the slices xs and may be appended to. -/
def Owv (w : World) (B : Nat) (v : Value) (xs : List Value) : Prop := w.ownsRow B 45 1 v xs.length xs
theorem Owv.lit (w : World) (B : Nat) (hB : B ≤ w.heap.size) : Owv (w.alloc (.cells #[] 45)) B (.slice (some ⟨w.heap.size, 0, none⟩) 0 0) [] :=
  World.ownsRow_lit w #[] 0 hB (Nat.zero_le _) rfl
theorem Owv.lt {w : World} {B : Nat} {v : Value} {l : List Value} (h : Owv w B v l) : ∀ k, v.ownBlock = some k → B ≤ k ∧ k < w.heap.size := World.ownsRow.lt h
theorem Owv.kept {w w' : World} {B : Nat} {v : Value} {l : List Value} (h : Owv w B v l) {S : Nat → Prop} (k : Kept S w w') (hs : ∀ i, v.ownBlock = some i → ¬ S i) : Owv w' B v l := by
  refine ⟨h.1, ?_⟩
  rcases h.2 with hn | ⟨g, cap, cur, rfl, hb, hgg, rest⟩
  · exact .inl hn
  · refine .inr ⟨g, cap, cur, rfl, hb, ?_, rest⟩
    rw [k.block g (Array.getElem?_eq_some_iff.1 hgg).1 (hs g rfl)]
    exact hgg
theorem Owv.at {w : World} {B : Nat} {v : Value} {l : List Value} (h : Owv w B v l) (hl : 1 ≤ l.length) : ∃ g c, v = .slice (some ⟨g, 0, none⟩) l.length c ∧ (∀ i, i < l.length → w.cell? ⟨g, i, none⟩ = l[i]?) := by
  rcases h.2 with ⟨rfl, h0⟩ | ⟨g, cap, cur, rfl, hb, hg, hn, hm, hs, ht⟩
  · omega
  · refine ⟨g, cap, rfl, fun i hi => ?_⟩
    rw [cell_of_row w g i cur _ _ hg]
    have e : (cur.toList.take (l.length * 1))[i]? = l[i]? := by rw [ht]
    rw [List.getElem?_take_of_lt (by omega)] at e
    simpa using e

/-- One slice more. -/
theorem app_row {ops : Array Oper} {rest : List Oper} {o : Oper} {a : Act} {Q : Exit → Act → World → Prop} (W : World) (hgd : o.guard = none) (s x : Operand)
    (ho : o.op = .call { callee := .builtin .append, args := #[s, x], argTypes := #[162, 162] })
    (B : Nat) (v : Value) (l : List Value) (ya : Option Addr) (yn yc : Nat) (hs : a.eval s = v) (hx : a.eval x = .slice (some ⟨W.heap.size, 0, none⟩) 1 1)
    (hown : Owv W B v l) (hB : B ≤ W.heap.size) (hlen : l.length ≤ 1048576)
    (h : ∀ g cap w', Owv w' B (.slice (some ⟨g, 0, none⟩) (l.length + 1) cap) (l ++ [.slice ya yn yc]) → Kept (fun k => v.ownBlock = some k) W w' → (v.ownBlock = some g ∨ W.heap.size ≤ g) → wpList Tryz.prog ops Q rest (a.put o.dst (.slice (some ⟨g, 0, none⟩) (l.length + 1) cap)) w') :
    wpList Tryz.prog ops Q (o :: rest) a (W.alloc (.cells #[.slice ya yn yc] 45)) := by
  obtain ⟨i, hi, hzz⟩ := Option.map_eq_some_iff.1 infoRow
  simp only [Prod.mk.injEq] at hzz
  obtain ⟨hz, hsz, hb⟩ := hzz
  refine wpList_append_lies (W.alloc (.cells #[.slice ya yn yc] 45)) hgd s x 162 ho B 45 i (.slice none 0 0) 1 24 Tryz.underlying162 hi hz hsz hb rfl (by omega) v l.length l hs (World.ownsRow.alloc hown _)
    ⟨W.heap.size, 0, none⟩ 1 1 [.slice ya yn yc] hx rfl ?_ ?_ (by omega) (by unfold maxLen; omega) (by omega) (by simp; omega) _ rfl ?_
  · intro j u hu
    exact World.news_of_block (heap_alloc_new W _) j u hu
  · intro u hu
    simp at hu
    subst hu
    rfl
  · intro g cap w' h1 h2 h3 h4
    refine h g cap w' ?_ ?_ ?_
    · unfold Owv
      simpa using h1
    · have k1 : Kept (fun k => v.ownBlock = some k) W (W.alloc (.cells #[.slice ya yn yc] 45)) := (Kept.refl _ W).alloc _
      exact k1.trans ⟨h2.os, h2.tape, h2.output, h2.size, fun k hk hn => h2.block k hk (fun e => hn e.symm)⟩
    · rcases h3 with h3 | h3
      · exact .inl h3
      · exact .inr (by rw [h3]; simp)

/-- The slices vs hold the rows, each of eight flags, none of them in block v's. -/
def Rws (w : World) (v : Value) (vs : List Value) (rows : List (List Bool)) : Prop :=
  vs.length = rows.length ∧ ∀ j, j < rows.length → ∃ g c, vs[j]? = some (.slice (some ⟨g, 0, none⟩) 8 c) ∧ g < w.heap.size ∧ v.ownBlock ≠ some g ∧ ∀ x, x < 8 → w.cell? ⟨g, x, none⟩ = some (.bool (flag (rows.getD j []) x))
theorem Rws.kept {w w' : World} {v : Value} {vs : List Value} {rows : List (List Bool)} (h : Rws w v vs rows) (k : Kept (fun b => v.ownBlock = some b) w w') : Rws w' v vs rows := by
  refine ⟨h.1, fun j hj => ?_⟩
  obtain ⟨g, c, h1, h2, h3, h4⟩ := h.2 j hj
  exact ⟨g, c, h1, Nat.lt_of_lt_of_le h2 k.size, h3, fun x hx => by rw [k.cell (p := ⟨g, x, none⟩) h2 h3]; exact h4 x hx⟩
theorem Rws.below {w w' : World} {v : Value} {vs : List Value} {rows : List (List Bool)} (h : Rws w v vs rows) (k : Below w.heap.size w w') : Rws w' v vs rows := h.kept (Kept.ofBelow k)

end Go.Proofs.YtdmogjhabladcaaGreat.Ap3

/- Walks of the model's powers of two and of its test of words. -/
namespace Go.Proofs.YtdmogjhabladcaaGreat.Ws1
open Go.RowKit
open Pl1
set_option linter.unusedVariables false

theorem ret_int {k : IntKind} {a b : Int} (h : a = b) : Ending.returned (.int k a) = .returned (.int k b) := by rw [h]
theorem ret_bool {a b : Bool} (h : a = b) : Ending.returned (.bool a) = .returned (.bool b) := by rw [h]

set_option maxHeartbeats 400000 in
theorem spow (m : Int) (w : World) (h0 : 0 ≤ m) (h1 : m ≤ 8) :
    Calls Tryz.prog 91 #[.int .i64 m] w fun e w' => e = .returned (.int .i64 (p2 m.toNat)) ∧ w' = w := by
  obtain ⟨n, rfl⟩ := Int.eq_ofNat_of_zero_le h0
  rw [Int.toNat_natCast]
  go_enter Tryz.func91, Tryz.ntmps91
  go_wp2
  go_loop [3, 4] (fun x i => ∃ k : Nat, k ≤ n ∧ i = .int .i64 k ∧ x = .int .i64 (p2 k)) (fun _ i => n - (intOf i).toNat)
  case atStart => exact ⟨0, Nat.zero_le _, rfl, rfl⟩
  case round =>
    obtain ⟨k, hk, rfl, rfl⟩ := hrel
    have hp := p2_pos k
    have hl := p2_le k (by omega)
    by_cases hlt : k < n
    · go_wp2
      go_round
      case rel => exact ⟨k + 1, by omega, by go_num, by rw [p2_succ]⟩
      case measure => simp [intOf]; omega
    · go_wp2
      go_ret
      have : k = n := by omega
      subst this
      exact ⟨rfl, rfl⟩

set_option maxHeartbeats 400000 in
theorem sIn (x a b : Int) (w : World) :
    Calls Tryz.prog 44 #[.int .i64 x, .int .i64 a, .int .i64 b] w fun e w' => e = .returned (.bool (decide (a ≤ x ∧ x ≤ b))) ∧ w' = w := by
  by_cases h1 : a ≤ x <;> by_cases h2 : x ≤ b
  all_goals
    go_enter Tryz.func44, Tryz.ntmps44
    go_wp2
    go_ret
    exact ⟨ret_bool (by simp <;> omega), rfl⟩

set_option maxHeartbeats 400000 in
theorem sWordOk (m a : Int) (w : World) :
    Calls Tryz.prog 85 #[.int .i64 m, .int .i64 a] w fun e w' => e = .returned (.bool (wok m a)) ∧ w' = w := by
  by_cases h : 1 ≤ m ∧ m ≤ 8
  · have hp := p2_pos m.toNat
    have hl := p2_le m.toNat (by omega)
    have hd : decide (1 ≤ m ∧ m ≤ 8) = true := by simpa using h
    go_enter Tryz.func85, Tryz.ntmps85
    go_wp2_with (first | (go_at_call 44; refine (sIn _ _ _ _).mono ?_; rintro e w' ⟨rfl, rfl⟩) | (go_at_call 91; refine (spow m _ (by omega) (by omega)).mono ?_; rintro e w' ⟨rfl, rfl⟩))
    go_ret
    exact ⟨ret_bool (by rw [Bool.eq_iff_iff]; simp [wok]; omega), rfl⟩
  · have hd : decide (1 ≤ m ∧ m ≤ 8) = false := by simpa using h
    go_enter Tryz.func85, Tryz.ntmps85
    go_wp2_with (go_at_call 44; refine (sIn _ _ _ _).mono ?_; rintro e w' ⟨rfl, rfl⟩)
    go_ret
    exact ⟨ret_bool (by unfold wok; symm; rw [decide_eq_false_iff_not]; omega), rfl⟩

end Go.Proofs.YtdmogjhabladcaaGreat.Ws1

/- Slices that a call has made, read as rows of cells. -/
namespace Go.Proofs.YtdmogjhabladcaaGreat.Rw1
open Go.RowKit
open Nd0 Tm1 Tm6 Ap0 Ap1 Rw0

theorem row_bools {w : World} {B : Nat} {v : Value} {l : List Bool} (h : Owb w B v l) (hl : 1 ≤ l.length) : ∃ g c, v = .slice (some ⟨g, 0, none⟩) l.length c ∧ B ≤ g ∧ g < w.heap.size ∧ Row w g l.length (fun i => .bool (flag l i)) := by
  obtain ⟨g, c, rfl, h1, h2⟩ := h.at hl
  refine ⟨g, c, rfl, h1, h2, fun i hi => ?_⟩
  have h9 := h.cell i hi
  rw [flag_get] at h9
  exact h9
theorem row_ints {w : World} {B : Nat} {v : Value} {l : List Int} (h : Ows w B v l) (hl : 1 ≤ l.length) : ∃ g c, v = .slice (some ⟨g, 0, none⟩) l.length c ∧ B ≤ g ∧ g < w.heap.size ∧ Row w g l.length (fun i => .int .i64 (wd l (i : Int))) := by
  have hlt := h.lt
  obtain ⟨h1, h2⟩ := h
  rcases h2 with ⟨rfl, h0⟩ | ⟨g, cap, cur, rfl, hb, hg, hn, hm, hs, ht⟩
  · omega
  · refine ⟨g, cap, rfl, hb, (hlt g rfl).2, fun i hi => ⟨?_, by simp [World.frozen?, hg]⟩⟩
    rw [cell_of_row w g i cur _ _ hg]
    have e : (cur.toList.take (l.length * 1))[i]? = some (.int .i64 l[i]) := by rw [ht]; simp [hi]
    rw [List.getElem?_take_of_lt (by omega)] at e
    rw [wd_get hi] at e
    simpa using e
theorem wd_set {us : List Int} {i : Nat} (h : i < us.length) (x : Int) (j : Nat) : wd (us.set i x) (j : Int) = if j = i then x else wd us (j : Int) := by
  by_cases e : j = i
  · subst e; simp [wd, List.getD, h]
  · have e' : ¬ i = j := fun x => e x.symm
    simp [wd, List.getD, e, e']
theorem row_set_int {w : World} {g n : Nat} {us : List Int} (h : Row w g n (fun i => .int .i64 (wd us (i : Int)))) (hn : us.length = n) {p : Nat} (hp : p < n) (x : Int) : Row (w.setCell ⟨g, p, none⟩ (.int .i64 x)) g n (fun i => .int .i64 (wd (us.set p x) (i : Int))) := by
  refine (h.set hp _).congr (fun i hi => ?_)
  rw [wd_set (by omega)]
  by_cases e : i = p
  · rw [if_pos e, if_pos e]
  · rw [if_neg e, if_neg e]

end Go.Proofs.YtdmogjhabladcaaGreat.Rw1

/- Arguments that are lists of nodes, opened. -/
namespace Go.Proofs.YtdmogjhabladcaaGreat.Op0
open Go.RowKit Go.ChangeShapes Go.WideShapes
open Nd0
set_option linter.unusedVariables false

theorem cellsInt : Tryz.prog.cellsOf 3 = 1 := by kernel_rfl
theorem cellsNode : Tryz.prog.cellsOf 102 = 6 := by kernel_rfl

theorem six {α : Type} (l : List α) (h : l.length = 6) : ∃ a b c d e f, l = [a, b, c, d, e, f] := by
  match l, h with
  | [a, b, c, d, e, f], _ => exact ⟨a, b, c, d, e, f, rfl⟩

section
variable {H : Type} {enc : TypeId × Value → H} {w : World} {base : Nat} {spare : Nat → Bool} {held : Bool}

theorem node_open {fuel : Nat} {cs : List Value} {x : DataW H × List MemPlace} (h : DataW.trod enc Tryz.prog w base spare held fuel 102 cs = some x) :
    ∃ n : Nd, cs = n.cells := by
  obtain ⟨xs, m, _, rfl, hl, hlen, hf⟩ := DataW.trod_struct Tryz.underlying102 h
  rw [cellsNode] at hl
  obtain ⟨c0, c1, c2, c3, c4, c5, rfl⟩ := six cs hl
  obtain ⟨y0, y1, y2, y3, y4, y5, rfl⟩ := six xs (by simpa using hlen)
  have g0 := hf 0 _ rfl
  have g1 := hf 1 _ rfl
  have g2 := hf 2 _ rfl
  have g3 := hf 3 _ rfl
  have g4 := hf 4 _ rfl
  have g5 := hf 5 _ rfl
  simp [cellsInt] at g0 g1 g2 g3 g4 g5
  obtain ⟨n0, e0, _, _⟩ := DataW.trod_int Tryz.underlying3 g0
  obtain ⟨n1, e1, _, _⟩ := DataW.trod_int Tryz.underlying3 g1
  obtain ⟨n2, e2, _, _⟩ := DataW.trod_int Tryz.underlying3 g2
  obtain ⟨n3, e3, _, _⟩ := DataW.trod_int Tryz.underlying3 g3
  obtain ⟨n4, e4, _, _⟩ := DataW.trod_int Tryz.underlying3 g4
  obtain ⟨n5, e5, _, _⟩ := DataW.trod_int Tryz.underlying3 g5
  simp at e0 e1 e2 e3 e4 e5
  subst e0 e1 e2 e3 e4 e5
  exact ⟨⟨n0, n1, n2, n3, n4, n5⟩, rfl⟩

theorem cells_six {a : Addr} {cs : List Value} (h : w.cells? base a 6 = some cs) : cs.length = 6 ∧ ∀ i, i < 6 → w.cell? (a.add i) = cs[i]? := by
  unfold World.cells? at h
  split at h
  · have hl : cs.length = 6 := by simpa using mapM_some_length h
    refine ⟨hl, fun i hi => ?_⟩
    have := mapM_some_get h i i (by simp [hi])
    exact this
  · cases h

theorem nodes_open {fuel : Nat} {a : Option Addr} {len cap : Nat} {x : DataW H × List MemPlace} (h : DataW.trod enc Tryz.prog w base spare held fuel 53 [.slice a len cap] = some x) :
    len ≤ maxLen ∧ ∃ l : List Nd, l.length = len ∧ Nodes w a l := by
  rcases Deep.open_slice Tryz.underlying53 h with ⟨hcs, _⟩ | ⟨b, len', cap', m, n, D, Pl, hcs, _, hl, hm, hmm, _, hc⟩
  · simp at hcs
    obtain ⟨rfl, rfl, rfl⟩ := hcs
    exact ⟨Nat.zero_le _, [], rfl, Nat.zero_le _, .inl rfl⟩
  · simp at hcs
    obtain ⟨rfl, rfl, rfl⟩ := hcs
    have hlm : len ≤ m := by rw [hmm]; split <;> omega
    have hall : ∀ i, i < len → ∃ nd : Nd, ∀ j, j < 6 → w.cell? ((b.add (i * 6)).add j) = nd.cells[j]? := by
      intro i hi
      obtain ⟨cs', h1, h2⟩ := hc i (by omega)
      rw [cellsNode] at h1
      obtain ⟨nd, rfl⟩ := node_open h2
      exact ⟨nd, (cells_six h1).2⟩
    refine ⟨by omega, ?_⟩
    obtain ⟨f, hf⟩ : ∃ f : Nat → Nd, ∀ i, i < len → ∀ j, j < 6 → w.cell? ((b.add (i * 6)).add j) = (f i).cells[j]? := by
      classical
      refine ⟨fun i => if hi : i < len then Classical.choose (hall i hi) else Nd.zero, fun i hi => ?_⟩
      simp only [dif_pos hi]
      exact Classical.choose_spec (hall i hi)
    refine ⟨(List.range len).map f, by simp, by simp; omega, ?_⟩
    by_cases h0 : len = 0
    · exact .inl (by simp [h0])
    · obtain ⟨xb, xo, spot⟩ := b
      have hs : spot = none := by
        have := hf 0 (by omega) 0 (by omega)
        simp [Addr.add, Nd.cells] at this
        simpa using World.cell?_spot this
      subst hs
      refine .inr ⟨xb, xo, rfl, fun i hi => ?_⟩
      have hi' : i < len := by simpa using hi
      have hg := hf i hi'
      simp only [Addr.add_lit] at hg
      have e : ((List.range len).map f)[i] = f i := by simp
      rw [e]
      exact ⟨hg 0 (by omega), hg 1 (by omega), hg 2 (by omega), hg 3 (by omega), hg 4 (by omega), hg 5 (by omega)⟩
end

end Go.Proofs.YtdmogjhabladcaaGreat.Op0

/- Memory that calls leave as it is: three small laws. -/
namespace Go.Proofs.YtdmogjhabladcaaGreat.Kp0
open Go.RowKit
open Nd0

theorem below_drewN {B : Nat} {u w : World} (h : Below B u w) (n : Nat) : Below B u (w.drewN n) := ⟨h.os, h.tape, h.output, h.size, h.block⟩
theorem intsIn_below {w w' : World} {B U : Nat} {a : Option Addr} {l : List Int} (h : IntsIn w B U a l) (k : Below w.heap.size w w') : IntsIn w' B U a l :=
  h.kept (S := fun _ => False) (Kept.ofBelow k) (fun _ _ _ h => h)
theorem keep {B : Nat} {u v w : World} (h : Below B u v) (k : Below v.heap.size v w) (hB : B ≤ v.heap.size) : Below B u w := h.trans (k.mono hB)

end Go.Proofs.YtdmogjhabladcaaGreat.Kp0

/- Small facts on nodes that are laid and appended. -/
namespace Go.Proofs.YtdmogjhabladcaaGreat.Dw3
open Go.RowKit
open Nd0 Nd3 Ap2
set_option linter.unusedVariables false

theorem flat_app (l ys : List Nd) : flat (l ++ ys) = flat l ++ flat ys := by simp [flat]
theorem nodes_cells {W : World} {gx ox : Nat} {ys : List Nd} (hy : ∀ i (h : i < ys.length), NodeAt W gx (ox + i * 6) ys[i]) (j : Nat) (u : Value) (hu : (flat ys)[j]? = some u) : W.cell? ((⟨gx, ox, none⟩ : Addr).add j) = some u := by
  have hadd : (⟨gx, ox, none⟩ : Addr).add j = ⟨gx, ox + j, none⟩ := by unfold Addr.add; split <;> simp_all
  rw [hadd]
  have hj : j < (flat ys).length := (List.getElem?_eq_some_iff.1 hu).1
  rw [flat_length] at hj
  have hi : j / 6 < ys.length := by omega
  have hf := flat_get ys (j / 6) hi (j % 6) (Nat.mod_lt _ (by omega))
  have e : j / 6 * 6 + j % 6 = j := by omega
  rw [e, hu] at hf
  obtain ⟨c0, c1, c2, c3, c4, c5⟩ := hy (j / 6) hi
  have h6 : j % 6 = 0 ∨ j % 6 = 1 ∨ j % 6 = 2 ∨ j % 6 = 3 ∨ j % 6 = 4 ∨ j % 6 = 5 := by omega
  rcases h6 with r | r | r | r | r | r
  · rw [r] at hf; have e2 : ox + j = ox + j / 6 * 6 := by omega
    rw [e2, c0]; exact hf.symm
  · rw [r] at hf; have e2 : ox + j = ox + j / 6 * 6 + 1 := by omega
    rw [e2, c1]; exact hf.symm
  · rw [r] at hf; have e2 : ox + j = ox + j / 6 * 6 + 2 := by omega
    rw [e2, c2]; exact hf.symm
  · rw [r] at hf; have e2 : ox + j = ox + j / 6 * 6 + 3 := by omega
    rw [e2, c3]; exact hf.symm
  · rw [r] at hf; have e2 : ox + j = ox + j / 6 * 6 + 4 := by omega
    rw [e2, c4]; exact hf.symm
  · rw [r] at hf; have e2 : ox + j = ox + j / 6 * 6 + 5 := by omega
    rw [e2, c5]; exact hf.symm

/-- Some nodes more, at a step of a region that draws its order. -/
theorem step_app_nodes {ops : Array Oper} {o : Oper} {a : Act} {K : Act → World → Prop} {Q : Exit → Act → World → Prop} {E : Prop} (W : World) (hgd : o.guard = none) (s x : Operand)
    (ho : o.op = .call { callee := .builtin .append, args := #[s, x], argTypes := #[24, 24] })
    (B : Nat) (v : Value) (l ys : List Nd) (gx ox c : Nat) (hs : a.eval s = v) (hx : a.eval x = .slice (some ⟨gx, ox, none⟩) ys.length c)
    (hy : ∀ i (h : i < ys.length), NodeAt W gx (ox + i * 6) ys[i]) (hp : 0 < ys.length)
    (hown : Own W B v l) (hB : B ≤ W.heap.size) (hlen : l.length + ys.length ≤ 1048577)
    (h : ∀ g cap w', Own w' B (.slice (some ⟨g, 0, none⟩) (l.length + ys.length) cap) (l ++ ys) → Kept (fun k => v.ownBlock = some k) W w' → (v.ownBlock = some g ∨ W.heap.size ≤ g) → K (a.put o.dst (.slice (some ⟨g, 0, none⟩) (l.length + ys.length) cap)) w') :
    if Region.wanted o (yielded ops a.tmps) = true then Oper.wp Tryz.prog o a W K Q else E := by
  obtain ⟨i, hi, hzz⟩ := Option.map_eq_some_iff.1 infoNode
  simp only [Prod.mk.injEq] at hzz
  obtain ⟨hz, hsz, hb⟩ := hzz
  refine step_append_lies W hgd s x 24 ho B 31 i _ 6 48 Tryz.underlying24 hi hz hsz hb rfl (by omega) v l.length (flat l) hs hown
    ⟨gx, ox, none⟩ ys.length c (flat ys) hx (flat_length ys) (fun j u hu => nodes_cells hy j u hu) ?_ hp (by unfold maxLen; omega) (by omega) hB _ rfl ?_
  · intro u hu
    obtain ⟨n, _, hn⟩ := List.mem_flatMap.1 hu
    simp [Nd.cells] at hn
    rcases hn with rfl | rfl | rfl | rfl | rfl | rfl <;> rfl
  · intro g cap w' h1 h2 h3 h4
    refine h g cap w' ?_ ?_ ?_
    · unfold Own
      rw [flat_app, List.length_append]
      exact h1
    · exact ⟨h2.os, h2.tape, h2.output, h2.size, fun k hk hn => h2.block k hk (fun e => hn e.symm)⟩
    · rcases h3 with h3 | h3
      · exact .inl h3
      · exact .inr (by rw [h3]; exact Nat.le_refl _)

end Go.Proofs.YtdmogjhabladcaaGreat.Dw3
namespace Go.Proofs.YtdmogjhabladcaaGreat.Dw4
open Go.RowKit
open Nd0 Nd3 Ap2
set_option linter.unusedVariables false

theorem own_lit (W : World) (B g : Nat) (hg : g = W.heap.size) (hB : B ≤ g) : Own (W.alloc (.cells #[] 31)) B (.slice (some ⟨g, 0, none⟩) 0 0) [] := by
  subst hg; exact Own.lit W B hB
theorem node_new (W : World) (n : Nd) (T g : Nat) (hg : g = W.heap.size) : ∀ i (h : i < [n].length), NodeAt (W.alloc (.cells #[.int .i64 n.op, .int .i64 n.w, .int .i64 n.k, .int .i64 n.a, .int .i64 n.b, .int .i64 n.c] T)) g (0 + i * 6) [n][i] := by
  subst hg
  intro i hi
  have h0 : i = 0 := by simp at hi; exact hi
  subst h0
  refine ⟨?_, ?_, ?_, ?_, ?_, ?_⟩ <;> (rw [World.cell?_alloc_new]; try rfl)
theorem node_kept {W W' : World} {S : Nat → Prop} {n : Nd} {g : Nat} (k : Kept S W W') (hg : g < W.heap.size) (hs : ¬ S g) (h : ∀ i (h : i < [n].length), NodeAt W g (0 + i * 6) [n][i]) : ∀ i (h : i < [n].length), NodeAt W' g (0 + i * 6) [n][i] := by
  intro i hi
  obtain ⟨c0, c1, c2, c3, c4, c5⟩ := h i hi
  exact ⟨by rw [k.cell (p := ⟨g, _, none⟩) hg hs]; exact c0, by rw [k.cell (p := ⟨g, _, none⟩) hg hs]; exact c1, by rw [k.cell (p := ⟨g, _, none⟩) hg hs]; exact c2, by rw [k.cell (p := ⟨g, _, none⟩) hg hs]; exact c3, by rw [k.cell (p := ⟨g, _, none⟩) hg hs]; exact c4, by rw [k.cell (p := ⟨g, _, none⟩) hg hs]; exact c5⟩
theorem own_ne {g h n c : Nat} (hne : g ≠ h) : ¬ (Value.slice (some ⟨g, 0, none⟩) n c).ownBlock = some h := by
  intro e
  have : some g = some h := e
  exact hne (Option.some.inj this)
theorem sz2 (W : World) (o o' : Obj) : (((W.alloc o).alloc o').drew).heap.size = W.heap.size + 1 + 1 := by
  show ((W.alloc o).alloc o').heap.size = _
  simp
theorem node_drew {W : World} {n : Nd} {g : Nat} (h : ∀ i (h : i < [n].length), NodeAt W g (0 + i * 6) [n][i]) : ∀ i (h : i < [n].length), NodeAt W.drew g (0 + i * 6) [n][i] := fun i hi => ⟨(h i hi).c0, (h i hi).c1, (h i hi).c2, (h i hi).c3, (h i hi).c4, (h i hi).c5⟩
end Go.Proofs.YtdmogjhabladcaaGreat.Dw4

/- Lists of lists of whole numbers: the law at the walk, and how they are read. -/
namespace Go.Proofs.YtdmogjhabladcaaGreat.Ap6
open Go.RowKit
open Nd0 Tm1 Tm6
set_option linter.unusedVariables false

theorem infoRow : (Tryz.prog.info? 25).map (fun i => (i.zero, i.size, i.bytes)) = some (some (.slice none 0 0), 1, 24) := by kernel_rfl

/-- The slice v, in a block from B on, is the slices xs and may be appended to. -/
def Owv (w : World) (B : Nat) (v : Value) (xs : List Value) : Prop := w.ownsRow B 25 1 v xs.length xs
theorem Owv.lit (w : World) (B : Nat) (hB : B ≤ w.heap.size) : Owv (w.alloc (.cells #[] 25)) B (.slice (some ⟨w.heap.size, 0, none⟩) 0 0) [] :=
  World.ownsRow_lit w #[] 0 hB (Nat.zero_le _) rfl
theorem Owv.lt {w : World} {B : Nat} {v : Value} {l : List Value} (h : Owv w B v l) : ∀ k, v.ownBlock = some k → B ≤ k ∧ k < w.heap.size := World.ownsRow.lt h
theorem Owv.kept {w w' : World} {B : Nat} {v : Value} {l : List Value} (h : Owv w B v l) {S : Nat → Prop} (k : Kept S w w') (hs : ∀ i, v.ownBlock = some i → ¬ S i) : Owv w' B v l := by
  refine ⟨h.1, ?_⟩
  rcases h.2 with hn | ⟨g, cap, cur, rfl, hb, hgg, rest⟩
  · exact .inl hn
  · refine .inr ⟨g, cap, cur, rfl, hb, ?_, rest⟩
    rw [k.block g (Array.getElem?_eq_some_iff.1 hgg).1 (hs g rfl)]
    exact hgg
theorem Owv.at {w : World} {B : Nat} {v : Value} {l : List Value} (h : Owv w B v l) (hl : 1 ≤ l.length) : ∃ g c, v = .slice (some ⟨g, 0, none⟩) l.length c ∧ (∀ i, i < l.length → w.cell? ⟨g, i, none⟩ = l[i]?) := by
  rcases h.2 with ⟨rfl, h0⟩ | ⟨g, cap, cur, rfl, hb, hg, hn, hm, hs, ht⟩
  · omega
  · refine ⟨g, cap, rfl, fun i hi => ?_⟩
    rw [cell_of_row w g i cur _ _ hg]
    have e : (cur.toList.take (l.length * 1))[i]? = l[i]? := by rw [ht]
    rw [List.getElem?_take_of_lt (by omega)] at e
    simpa using e

/-- One slice more. -/
theorem app_row {ops : Array Oper} {rest : List Oper} {o : Oper} {a : Act} {Q : Exit → Act → World → Prop} (W : World) (hgd : o.guard = none) (s x : Operand)
    (ho : o.op = .call { callee := .builtin .append, args := #[s, x], argTypes := #[120, 120] })
    (B : Nat) (v : Value) (l : List Value) (ya : Option Addr) (yn yc : Nat) (hs : a.eval s = v) (hx : a.eval x = .slice (some ⟨W.heap.size, 0, none⟩) 1 1)
    (hown : Owv W B v l) (hB : B ≤ W.heap.size) (hlen : l.length ≤ 1048576)
    (h : ∀ g cap w', Owv w' B (.slice (some ⟨g, 0, none⟩) (l.length + 1) cap) (l ++ [.slice ya yn yc]) → Kept (fun k => v.ownBlock = some k) W w' → (v.ownBlock = some g ∨ W.heap.size ≤ g) → wpList Tryz.prog ops Q rest (a.put o.dst (.slice (some ⟨g, 0, none⟩) (l.length + 1) cap)) w') :
    wpList Tryz.prog ops Q (o :: rest) a (W.alloc (.cells #[.slice ya yn yc] 25)) := by
  obtain ⟨i, hi, hzz⟩ := Option.map_eq_some_iff.1 infoRow
  simp only [Prod.mk.injEq] at hzz
  obtain ⟨hz, hsz, hb⟩ := hzz
  refine wpList_append_lies (W.alloc (.cells #[.slice ya yn yc] 25)) hgd s x 120 ho B 25 i (.slice none 0 0) 1 24 Tryz.underlying120 hi hz hsz hb rfl (by omega) v l.length l hs (World.ownsRow.alloc hown _)
    ⟨W.heap.size, 0, none⟩ 1 1 [.slice ya yn yc] hx rfl ?_ ?_ (by omega) (by unfold maxLen; omega) (by omega) (by simp; omega) _ rfl ?_
  · intro j u hu
    exact World.news_of_block (heap_alloc_new W _) j u hu
  · intro u hu
    simp at hu
    subst hu
    rfl
  · intro g cap w' h1 h2 h3 h4
    refine h g cap w' ?_ ?_ ?_
    · unfold Owv
      simpa using h1
    · have k1 : Kept (fun k => v.ownBlock = some k) W (W.alloc (.cells #[.slice ya yn yc] 25)) := (Kept.refl _ W).alloc _
      exact k1.trans ⟨h2.os, h2.tape, h2.output, h2.size, fun k hk hn => h2.block k hk (fun e => hn e.symm)⟩
    · rcases h3 with h3 | h3
      · exact .inl h3
      · exact .inr (by rw [h3]; simp)

/-- The slices vs hold the rows, each of eight numbers, none of them in block v's. -/
def Rws (w : World) (v : Value) (vs : List Value) (rows : List (List Int)) : Prop :=
  vs.length = rows.length ∧ ∀ j, j < rows.length → ∃ g c, vs[j]? = some (.slice (some ⟨g, 0, none⟩) 8 c) ∧ g < w.heap.size ∧ v.ownBlock ≠ some g ∧ ∀ x, x < 8 → w.cell? ⟨g, x, none⟩ = some (.int .i64 (wd (rows.getD j []) (x : Int)))
theorem Rws.kept {w w' : World} {v : Value} {vs : List Value} {rows : List (List Int)} (h : Rws w v vs rows) (k : Kept (fun b => v.ownBlock = some b) w w') : Rws w' v vs rows := by
  refine ⟨h.1, fun j hj => ?_⟩
  obtain ⟨g, c, h1, h2, h3, h4⟩ := h.2 j hj
  exact ⟨g, c, h1, Nat.lt_of_lt_of_le h2 k.size, h3, fun x hx => by rw [k.cell (p := ⟨g, x, none⟩) h2 h3]; exact h4 x hx⟩
theorem Rws.below {w w' : World} {v : Value} {vs : List Value} {rows : List (List Int)} (h : Rws w v vs rows) (k : Below w.heap.size w w') : Rws w' v vs rows := h.kept (Kept.ofBelow k)

end Go.Proofs.YtdmogjhabladcaaGreat.Ap6

/- What is kept, past blocks that were made since. -/
namespace Go.Proofs.YtdmogjhabladcaaGreat.Kp1
open Go.RowKit
open Nd0 Rw0 Rw1 Tm6
theorem Kept.past {S T : Nat → Prop} {u v w : World} (h : Kept S u v) (k : Kept T v w) (hT : ∀ b, T b → S b ∨ u.heap.size ≤ b) : Kept S u w :=
  ⟨k.os.trans h.os, k.tape.trans h.tape, k.output.trans h.output, Nat.le_trans h.size k.size, fun i hi hb => (k.block i (Nat.lt_of_lt_of_le hi h.size) (fun t => by
    rcases hT i t with e | e
    · exact hb e
    · omega)).trans (h.block i hi hb)⟩
/-- The whole numbers e, from the start of block g on. -/
def Env (w : World) (g : Nat) (e : List Int) : Prop := Row w g 8 (fun i => .int .i64 (wd e (i : Int)))
theorem Env.kept {w w' : World} {g : Nat} {e : List Int} (h : Env w g e) {S : Nat → Prop} (k : Kept S w w') (hs : ¬ S g) : Env w' g e := Row.kept h k hs
theorem Env.lt {w : World} {g : Nat} {e : List Int} (h : Env w g e) : g < w.heap.size := Row.lt h (by omega)
theorem Env.set {w : World} {g : Nat} {e : List Int} (h : Env w g e) (he : e.length = 8) {p : Nat} (hp : p < 8) (x : Int) : Env (w.setCell ⟨g, p, none⟩ (.int .i64 x)) g (e.set p x) := row_set_int h he hp x
theorem Env.at {w : World} {g : Nat} {e : List Int} (h : Env w g e) {k : Int} (h0 : 0 ≤ k) (h7 : k ≤ 7) : w.cell? ⟨g, k.toNat, none⟩ = some (.int .i64 (wd e k)) ∧ w.frozen? ⟨g, k.toNat, none⟩ = false := by
  have := h k.toNat (by omega)
  dsimp only at this
  rw [Int.toNat_of_nonneg h0] at this
  exact this
end Go.Proofs.YtdmogjhabladcaaGreat.Kp1
