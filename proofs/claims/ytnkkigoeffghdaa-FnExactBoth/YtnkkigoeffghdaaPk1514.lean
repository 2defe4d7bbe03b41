/- Small texts of mine, one behind the other. -/
import Derived.Laws.MakeOwn
import Derived.Test.YtnkkigoeffghdaaPk153
import Derived.Test.YtnkkigoeffghdaaPk1513
/- The walk of the exact laws' copy of a list of nodes. -/
namespace Go.Proofs.Ytnkkigoeffghdaa.Nd4
open Go.RowKit
open Nd0 Nd1 Nd3
set_option linter.unusedVariables false

theorem infoNode : (Try.prog.info? 55).map (fun i => (i.zero, i.size, i.bytes)) = some (some (.agg #[.int .i64 0, .int .i64 0, .int .i64 0, .int .i64 0, .int .i64 0, .int .i64 0]), 6, 48) := by kernel_rfl

/-- n nodes of noughts. -/
def zeros (n : Nat) : Array Value := madeCells #[.int .i64 0, .int .i64 0, .int .i64 0, .int .i64 0, .int .i64 0, .int .i64 0] (n * 6)
theorem zeros_get (n j : Nat) (h : j < n * 6) : (zeros n)[j]? = some (.int .i64 0) := by
  have hz : ∀ m, m < 6 → (#[.int .i64 0, .int .i64 0, .int .i64 0, .int .i64 0, .int .i64 0, .int .i64 0] : Array Value)[m]! = .int .i64 0 := by
    intro m hm
    have : m = 0 ∨ m = 1 ∨ m = 2 ∨ m = 3 ∨ m = 4 ∨ m = 5 := by omega
    rcases this with rfl | rfl | rfl | rfl | rfl | rfl <;> rfl
  simp only [zeros, madeCells, Array.getElem?_map, Array.getElem?_range]
  rw [if_pos h]
  simp only [Option.map_some]
  exact congrArg some (hz _ (Nat.mod_lt _ (by simp)))
theorem makeNodes (n : Nat) (hn : n ≤ 1048576) (w : World) :
    (Instr.makeSlice 24 (.int .i64 (n : Int)) (.int .i64 (n : Int))).run Try.prog w = .ok (.slice (some ⟨w.heap.size, 0, none⟩) n n) (w.alloc (.cells (zeros n) 55)) := by
  obtain ⟨i, hi, hzz⟩ := Option.map_eq_some_iff.1 infoNode
  simp only [Prod.mk.injEq] at hzz
  obtain ⟨hz, hs, hb⟩ := hzz
  have h := run_make (P := Try.prog) w 24 55 i _ Try.underlying24 hi hz .i64 .i64 n n (by omega) (Int.le_refl _) (by rw [hb]; omega) (by omega)
  rw [hs] at h
  simpa [zeros, Value.cells] using h
theorem zeros_at (w : World) (n : Nat) (T : Nat) (j : Nat) (hj : j < n) : NodeAt (w.alloc (.cells (zeros n) T)) w.heap.size (j * 6) Nd.zero := by
  refine ⟨?_, ?_, ?_, ?_, ?_, ?_⟩ <;> rw [World.cell?_alloc_new] <;> exact zeros_get _ _ (by omega)

set_option maxHeartbeats 2000000 in
theorem toNodeS (w : World) (a : Option Addr) (l : List Nd) (c : Nat) (h : Nodes w a l) (hl : l.length ≤ 1048576) :
    Calls Try.prog 25 #[.slice a l.length c] w fun e w' => e = .returned (.slice (some ⟨w.heap.size, 0, none⟩) l.length l.length) ∧ WNodes w' w.heap.size (some ⟨w.heap.size, 0, none⟩) l ∧ Below w.heap.size w w' := by
  have H : Hid (Nodes w a l) := h
  clear h
  have hmk := makeNodes l.length hl
  go_enter Try.func25, Try.ntmps25
  go_wp2
  clear hmk
  go_loopw [4] (fun i wr => ∃ k : Nat, k ≤ l.length ∧ i = .int .i64 k ∧ Below w.heap.size w wr ∧ w.heap.size < wr.heap.size ∧ (∀ j, j < l.length * 6 → wr.frozen? ⟨w.heap.size, j, none⟩ = false) ∧ ∀ j (hj : j < l.length), ∃ v : Nd, NodeAt wr w.heap.size (j * 6) v ∧ (j < k → v = l[j])) (fun i _ => l.length - (intOf i).toNat)
  case atStart =>
    exact ⟨0, Nat.zero_le _, rfl, (Below.refl _ _).alloc (Nat.le_refl _) _, by simp, fun j hj => by simp, fun j hj => ⟨_, zeros_at w _ _ j hj, fun x => by omega⟩⟩
  case round =>
    obtain ⟨k, hk, rfl, hb, hz, hf, hx⟩ := hrel
    have HB : Hid (Below w.heap.size w wr) := hb
    by_cases hlt : k < l.length
    · have HN := H.out.below hb
      clear hb
      rcases HN.2 with h0 | ⟨xb, xo, rfl, hc⟩
      · omega
      obtain ⟨p0, p1, p2, p3, p4, p5⟩ := hc k hlt
      have HL : Hid (l[k] = l[k]) := rfl
      clear hc HN HL
      have HX : Hid (∀ j (hj : j < l.length), ∃ v : Nd, NodeAt wr w.heap.size (j * 6) v ∧ (j < k → v = l[j])) := hx
      have HF : Hid (∀ j, j < l.length * 6 → wr.frozen? ⟨w.heap.size, j, none⟩ = false) := hf
      clear hx hf
      have hlz : (k : Int) < (l.length : Int) := by omega
      obtain ⟨nd, hnd⟩ : ∃ nd : Nd, nd = l[k] := ⟨_, rfl⟩
      have HD : Hid (nd = l[k]) := hnd
      rw [← hnd] at p0 p1 p2 p3 p4 p5
      clear hnd
      go_wp2_with fail
      refine (toNode _ _ _ _ _ _ _).mono ?_
      rintro e w1 ⟨rfl, hb1⟩
      have HB1 : Hid (Below wr.heap.size wr w1) := hb1
      obtain ⟨v, ⟨q0, q1, q2, q3, q4, q5⟩, _⟩ := HX.out k hlt
      have g0 : w1.frozen? ⟨w.heap.size, k * 6, none⟩ = false := by rw [hb1.frozen hz]; exact HF.out (k * 6) (by omega)
      have g1 : w1.frozen? ⟨w.heap.size, k * 6 + 1, none⟩ = false := by rw [hb1.frozen hz]; exact HF.out (k * 6 + 1) (by omega)
      have g2 : w1.frozen? ⟨w.heap.size, k * 6 + 2, none⟩ = false := by rw [hb1.frozen hz]; exact HF.out (k * 6 + 2) (by omega)
      have g3 : w1.frozen? ⟨w.heap.size, k * 6 + 3, none⟩ = false := by rw [hb1.frozen hz]; exact HF.out (k * 6 + 3) (by omega)
      have g4 : w1.frozen? ⟨w.heap.size, k * 6 + 4, none⟩ = false := by rw [hb1.frozen hz]; exact HF.out (k * 6 + 4) (by omega)
      have g5 : w1.frozen? ⟨w.heap.size, k * 6 + 5, none⟩ = false := by rw [hb1.frozen hz]; exact HF.out (k * 6 + 5) (by omega)
      rw [← hb1.cell hz] at q0 q1 q2 q3 q4 q5
      clear hb1 p0 p1 p2 p3 p4 p5
      go_wp2
      go_roundw
      case rel =>
        have F1 : Below w.heap.size w (setNode w1 w.heap.size (k * 6) nd) :=
          HB.out.trans ((setNode_kept (b := w.heap.size) (o := 0) (p := k * 6) (n := nd) (Kept.ofBelow HB1.out)).below (fun i hi => by obtain ⟨x, hx, rfl⟩ := hi; cases hx; exact Nat.le_refl _) HB.out.size)
        have F2 : w.heap.size < (setNode w1 w.heap.size (k * 6) nd).heap.size := by
          have := HB1.out.size
          rw [setNode_size]; omega
        have F3 : ∀ j, j < l.length * 6 → (setNode w1 w.heap.size (k * 6) nd).frozen? ⟨w.heap.size, j, none⟩ = false := by
          intro j hj
          rw [setNode_frozen, HB1.out.frozen hz]; exact HF.out j hj
        have F4 : ∀ j (hj : j < l.length), ∃ v : Nd, NodeAt (setNode w1 w.heap.size (k * 6) nd) w.heap.size (j * 6) v ∧ (j < k + 1 → v = l[j]) := by
          intro j hj
          obtain ⟨u, r0, r1⟩ := HX.out j hj
          have r2 : NodeAt w1 w.heap.size (j * 6) u := r0.below HB1.out hz
          by_cases e : j = k
          · subst e
            exact ⟨nd, setNode_same r2, fun _ => HD.out⟩
          · exact ⟨u, setNode_other r2 (by omega), fun x => r1 (by omega)⟩
        exact ⟨k + 1, by omega, by go_num, F1, F2, F3, F4⟩
      case measure => simp [intOf]; omega
    · go_wp2
      go_ret
      refine ⟨rfl, ⟨H.out.1, ?_⟩, HB.out⟩
      refine .inr ⟨w.heap.size, 0, rfl, Nat.le_refl _, fun i hi => ?_, fun j hj => by rw [Nat.zero_add]; exact hf j hj⟩
      obtain ⟨v, q0, q1⟩ := hx i hi
      rw [Nat.zero_add, ← q1 (by omega)]
      exact q0

end Go.Proofs.Ytnkkigoeffghdaa.Nd4

/- Lists of nodes that may be written, kept apart by where they lie. -/
namespace Go.Proofs.Ytnkkigoeffghdaa.Nd5
open Go.RowKit
open Nd0 Nd3

/-- A slice of the nodes l, in a block from B on and below U, that may be written. -/
def NodesIn (w : World) (B U : Nat) (a : Option Addr) (l : List Nd) : Prop :=
  l.length ≤ maxLen ∧ (l.length = 0 ∨ ∃ b o, a = some ⟨b, o, none⟩ ∧ B ≤ b ∧ b < U ∧ (∀ i (h : i < l.length), NodeAt w b (o + i * 6) l[i]) ∧ ∀ j, j < l.length * 6 → w.frozen? ⟨b, o + j, none⟩ = false)
theorem WNodes.within {w : World} {B : Nat} {a : Option Addr} {l : List Nd} (h : WNodes w B a l) : NodesIn w B w.heap.size a l := by
  refine ⟨h.1, ?_⟩
  by_cases e : l.length = 0
  · exact .inl e
  · rcases h.2 with h0 | ⟨b, o, ha, hB, hc, hf⟩
    · exact .inl h0
    · exact .inr ⟨b, o, ha, hB, (hc 0 (by omega)).lt, hc, hf⟩
theorem NodesIn.wnodes {w : World} {B U : Nat} {a : Option Addr} {l : List Nd} (h : NodesIn w B U a l) : WNodes w B a l := by
  refine ⟨h.1, ?_⟩
  rcases h.2 with h0 | ⟨b, o, ha, hB, _, hc, hf⟩
  · exact .inl h0
  · exact .inr ⟨b, o, ha, hB, hc, hf⟩
theorem NodesIn.kept {w w' : World} {B U : Nat} {a : Option Addr} {l : List Nd} (h : NodesIn w B U a l) {S : Nat → Prop} (k : Kept S w w') (hs : ∀ b, B ≤ b → b < U → ¬ S b) : NodesIn w' B U a l := by
  refine ⟨h.1, ?_⟩
  by_cases e : l.length = 0
  · exact .inl e
  rcases h.2 with h0 | ⟨b, o, rfl, hB, hU, hc, hf⟩
  · exact .inl h0
  · have hb : b < w.heap.size := (hc 0 (by omega)).lt
    have hn : ¬ S b := hs b hB hU
    refine .inr ⟨b, o, rfl, hB, hU, fun i hi => ?_, fun j hj => by rw [k.frozen (p := ⟨b, o + j, none⟩) hb hn]; exact hf j hj⟩
    obtain ⟨c0, c1, c2, c3, c4, c5⟩ := hc i hi
    exact ⟨by rw [k.cell hb hn]; exact c0, by rw [k.cell hb hn]; exact c1, by rw [k.cell hb hn]; exact c2, by rw [k.cell hb hn]; exact c3, by rw [k.cell hb hn]; exact c4, by rw [k.cell hb hn]; exact c5⟩
theorem NodesIn.again {w w' : World} {B U : Nat} {a : Option Addr} {l l' : List Nd} (h : NodesIn w B U a l) (h' : WNodes w' B a l') (e : l'.length = l.length) : NodesIn w' B U a l' := by
  refine ⟨h'.1, ?_⟩
  rcases h.2 with h0 | ⟨b, o, rfl, hB, hU, hc, hf⟩
  · exact .inl (by omega)
  · rcases h'.2 with h0 | ⟨b', o', ha, hB', hc', hf'⟩
    · exact .inl h0
    · cases ha
      exact .inr ⟨b, o, rfl, hB, hU, hc', hf'⟩
theorem NodesIn.ats {w : World} {B U : Nat} {a : Option Addr} {l : List Nd} (h : NodesIn w B U a l) {k : Nat} (hk : Ats l.length a k) : B ≤ k ∧ k < U := by
  obtain ⟨hp, x, hx, rfl⟩ := hk
  rcases h.2 with h0 | ⟨b, o, rfl, hB, hU, _⟩
  · omega
  · cases hx; exact ⟨hB, hU⟩
theorem NodesIn.below {w w' : World} {B U : Nat} {a : Option Addr} {l : List Nd} (h : NodesIn w B U a l) (k : Below w.heap.size w w') : NodesIn w' B U a l :=
  h.kept (S := fun _ => False) (Kept.ofBelow k) (fun _ _ _ h => h)
theorem NodesIn.nodes {w : World} {B U : Nat} {a : Option Addr} {l : List Nd} (h : NodesIn w B U a l) : Nodes w a l := h.wnodes.nodes

end Go.Proofs.Ytnkkigoeffghdaa.Nd5

/- Lists of flags at the exact laws' helpers; the helpers' marks from greater numbers on; copies of lists of whole numbers. -/
namespace Go.Proofs.Ytnkkigoeffghdaa.Nd6
open Go.RowKit
open Nd0 Nd1 Nd2 Nd3 Ap1
set_option linter.unusedVariables false

/-- A slice of the flags l can be read at address a. -/
def Bools (w : World) (a : Option Addr) (l : List Bool) : Prop :=
  l.length ≤ maxLen ∧ (l.length = 0 ∨ ∃ b o, a = some ⟨b, o, none⟩ ∧ ∀ i (h : i < l.length), w.cell? ⟨b, o + i, none⟩ = some (.bool l[i]))
theorem Bools.below {w w' : World} {a : Option Addr} {l : List Bool} (h : Bools w a l) (k : Below w.heap.size w w') : Bools w' a l := by
  refine ⟨h.1, ?_⟩
  rcases h.2 with h0 | ⟨b, o, rfl, hc⟩
  · exact .inl h0
  · exact .inr ⟨b, o, rfl, fun i hi => by rw [k.cell (lt_of_cell (hc i hi))]; exact hc i hi⟩
def BoolsIn (w : World) (B U : Nat) (a : Option Addr) (l : List Bool) : Prop :=
  l.length ≤ maxLen ∧ (l.length = 0 ∨ ∃ b o, a = some ⟨b, o, none⟩ ∧ B ≤ b ∧ b < U ∧ ∀ i (h : i < l.length), w.cell? ⟨b, o + i, none⟩ = some (.bool l[i]) ∧ w.frozen? ⟨b, o + i, none⟩ = false)
theorem WBools.within {w : World} {B : Nat} {a : Option Addr} {l : List Bool} (h : WBools w B a l) : BoolsIn w B w.heap.size a l := by
  refine ⟨h.1, ?_⟩
  by_cases e : l.length = 0
  · exact .inl e
  · rcases h.2 with h0 | ⟨b, o, ha, hB, hc⟩
    · exact .inl h0
    · exact .inr ⟨b, o, ha, hB, lt_of_cell (p := ⟨b, o + 0, none⟩) (hc 0 (by omega)).1, hc⟩
theorem BoolsIn.wr {w : World} {B U : Nat} {a : Option Addr} {l : List Bool} (h : BoolsIn w B U a l) : WBools w B a l := by
  refine ⟨h.1, ?_⟩
  rcases h.2 with h0 | ⟨b, o, ha, hB, _, hc⟩
  · exact .inl h0
  · exact .inr ⟨b, o, ha, hB, hc⟩
theorem WBools.plain {w : World} {B : Nat} {a : Option Addr} {l : List Bool} (h : WBools w B a l) : Bools w a l := by
  refine ⟨h.1, ?_⟩
  rcases h.2 with h0 | ⟨b, o, ha, _, hc⟩
  · exact .inl h0
  · exact .inr ⟨b, o, ha, fun i hi => (hc i hi).1⟩
theorem BoolsIn.plain {w : World} {B U : Nat} {a : Option Addr} {l : List Bool} (h : BoolsIn w B U a l) : Bools w a l := WBools.plain h.wr
theorem BoolsIn.kept {w w' : World} {B U : Nat} {a : Option Addr} {l : List Bool} (h : BoolsIn w B U a l) {S : Nat → Prop} (k : Kept S w w') (hs : ∀ b, B ≤ b → b < U → ¬ S b) : BoolsIn w' B U a l := by
  refine ⟨h.1, ?_⟩
  rcases h.2 with h0 | ⟨b, o, rfl, hB, hU, hc⟩
  · exact .inl h0
  · exact .inr ⟨b, o, rfl, hB, hU, fun i hi => ⟨by rw [k.cell (lt_of_cell (hc i hi).1) (hs b hB hU)]; exact (hc i hi).1, by rw [k.frozen (p := ⟨b, o + i, none⟩) (lt_of_cell (hc i hi).1) (hs b hB hU)]; exact (hc i hi).2⟩⟩
theorem BoolsIn.below {w w' : World} {B U : Nat} {a : Option Addr} {l : List Bool} (h : BoolsIn w B U a l) (k : Below w.heap.size w w') : BoolsIn w' B U a l :=
  h.kept (S := fun _ => False) (Kept.ofBelow k) (fun _ _ _ h => h)
theorem _root_.Go.Proofs.Ytnkkigoeffghdaa.Nd0.IntsIn.below {w w' : World} {B U : Nat} {a : Option Addr} {l : List Int} (h : IntsIn w B U a l) (k : Below w.heap.size w w') : IntsIn w' B U a l :=
  h.kept (S := fun _ => False) (Kept.ofBelow k) (fun _ _ _ h => h)
theorem _root_.Go.Proofs.Ytnkkigoeffghdaa.Nd0.IntsIn.ints {w : World} {B U : Nat} {a : Option Addr} {l : List Int} (h : IntsIn w B U a l) : Ints w a l := h.wints.ints
theorem BoolsIn.again {w w' : World} {B U : Nat} {a : Option Addr} {l l' : List Bool} (h : BoolsIn w B U a l) (h' : WBools w' B a l') (e : l'.length = l.length) : BoolsIn w' B U a l' := by
  refine ⟨h'.1, ?_⟩
  rcases h.2 with h0 | ⟨b, o, rfl, hB, hU, hc⟩
  · exact .inl (by omega)
  · rcases h'.2 with h0 | ⟨b', o', ha, hB', hc'⟩
    · exact .inl h0
    · cases ha
      exact .inr ⟨b, o, rfl, hB, hU, hc'⟩
theorem BoolsIn.ats {w : World} {B U : Nat} {a : Option Addr} {l : List Bool} (h : BoolsIn w B U a l) {k : Nat} (hk : Ats l.length a k) : B ≤ k ∧ k < U := by
  obtain ⟨hp, x, hx, rfl⟩ := hk
  rcases h.2 with h0 | ⟨b, o, rfl, hB, hU, _⟩
  · omega
  · cases hx; exact ⟨hB, hU⟩
def markB (n : Nat) (k0 : Int) : List Bool := (List.range n).map fun (i : Nat) => ((k0 + (i : Int)) % 3 == 0)
theorem markB_length (n : Nat) (k0 : Int) : (markB n k0).length = n := by simp [markB]
theorem markB_get (n : Nat) (k0 : Int) (i : Nat) (h : i < (markB n k0).length) : (markB n k0)[i] = ((k0 + (i : Int)) % 3 == 0) := by simp [markB]

theorem eqIntB (w : World) (a a' : Option Addr) (l : List Int) (c c' : Nat) (h : Ints w a l) (h' : Ints w a' l) :
    Calls Try.prog 27 #[.slice a l.length c, .slice a' l.length c'] w fun e w' => e = .returned (.bool true) ∧ Below w.heap.size w w' := by
  refine (eqIntS w a a' l c c' h h').mono ?_
  rintro e w' ⟨rfl, m, rfl⟩
  exact ⟨rfl, ⟨rfl, rfl, rfl, Nat.le_refl _, fun _ _ => rfl⟩⟩

theorem infoInt6 : (Try.prog.info? 3).map (fun i => (i.zero, i.size, i.bytes)) = some (some (.int .i64 0), 1, 8) := by kernel_rfl
def noughts6 (n : Nat) : Array Value := madeCells #[.int .i64 0] (n * 1)
theorem noughts6_get (n j : Nat) (h : j < n) : (noughts6 n)[j]? = some (.int .i64 0) := by
  simp only [noughts6, madeCells, Array.getElem?_map, Array.getElem?_range]
  rw [if_pos (by omega)]
  simp only [Option.map_some]
  have e : j % 1 = 0 := Nat.mod_one j
  exact congrArg (fun m => some ((#[.int .i64 0] : Array Value)[m]!)) e
theorem makeInts6 (n : Nat) (hn : n ≤ 1048576) (w : World) :
    (Instr.makeSlice 32 (.int .i64 (n : Int)) (.int .i64 (n : Int))).run Try.prog w = .ok (.slice (some ⟨w.heap.size, 0, none⟩) n n) (w.alloc (.cells (noughts6 n) 3)) := by
  obtain ⟨i, hi, hzz⟩ := Option.map_eq_some_iff.1 infoInt6
  simp only [Prod.mk.injEq] at hzz
  obtain ⟨hz, hs, hb⟩ := hzz
  have h := run_make (P := Try.prog) w 32 3 i _ Try.underlying32 hi hz .i64 .i64 n n (by omega) (Int.le_refl _) (by rw [hb]; omega) (by omega)
  rw [hs] at h
  simpa [noughts6, Value.cells] using h

set_option maxHeartbeats 2000000 in
theorem markNodeB (w : World) (B : Nat) (a : Option Addr) (l : List Nd) (c : Nat) (h : WNodes w B a l) (k0 : Int) (h0 : 0 ≤ k0) (h1 : k0 ≤ 10000000) (hl : l.length ≤ 1048576) :
    Calls Try.prog 29 #[.slice a l.length c, .int .i64 k0] w fun e w' => e = .returned (.int .i64 (k0 + 6 * l.length)) ∧ WNodes w' B a (markN l.length k0) ∧ Kept (Ats l.length a) w w' := by
  have H : Hid (WNodes w B a l) := h
  clear h
  generalize hn : l.length = n at hl ⊢
  go_enter Try.func29, Try.ntmps29
  go_wp2
  go_loopw [1, 5] (fun q i wr => ∃ k : Nat, k ≤ n ∧ i = .int .i64 k ∧ q = .int .i64 (k0 + 6 * k) ∧ Kept (Ats n a) w wr ∧ (n = 0 ∨ ∃ b o, a = some ⟨b, o, none⟩ ∧ B ≤ b ∧ (∀ j, j < n * 6 → wr.frozen? ⟨b, o + j, none⟩ = false) ∧ ∀ j, j < n → ∃ v : Nd, NodeAt wr b (o + j * 6) v ∧ (j < k → v = (mkN (k0 + 6 * (j : Int)))))) (fun _ i _ => n - (intOf i).toNat)
  case atStart =>
    refine ⟨0, Nat.zero_le _, rfl, by simp, Kept.refl _ _, ?_⟩
    rcases H.out.2 with e | ⟨b, o, ha, hB, hc, hf⟩
    · exact .inl (by omega)
    · exact .inr ⟨b, o, ha, hB, fun j hj => hf j (by omega), fun j hj => ⟨l[j]'(by omega), hc j (by omega), fun x => by omega⟩⟩
  case round =>
    obtain ⟨k, hk, rfl, rfl, hb, hx⟩ := hrel
    by_cases hlt : k < n
    · have HK : Hid (Kept (Ats n a) w wr) := hb
      clear hb
      rcases hx with e | ⟨b, o, rfl, hB, hf, hc⟩
      · omega
      have HC : Hid (∀ j, j < n → ∃ v : Nd, NodeAt wr b (o + j * 6) v ∧ (j < k → v = (mkN (k0 + 6 * (j : Int))))) := hc
      have HF : Hid (∀ j, j < n * 6 → wr.frozen? ⟨b, o + j, none⟩ = false) := hf
      have g0 : wr.frozen? ⟨b, o + k * 6, none⟩ = false := hf (k * 6) (by omega)
      have g1 : wr.frozen? ⟨b, o + k * 6 + 1, none⟩ = false := hf (k * 6 + 1) (by omega)
      have g2 : wr.frozen? ⟨b, o + k * 6 + 2, none⟩ = false := hf (k * 6 + 2) (by omega)
      have g3 : wr.frozen? ⟨b, o + k * 6 + 3, none⟩ = false := hf (k * 6 + 3) (by omega)
      have g4 : wr.frozen? ⟨b, o + k * 6 + 4, none⟩ = false := hf (k * 6 + 4) (by omega)
      have g5 : wr.frozen? ⟨b, o + k * 6 + 5, none⟩ = false := hf (k * 6 + 5) (by omega)
      obtain ⟨v, ⟨p0, p1, p2, p3, p4, p5⟩, _⟩ := hc k hlt
      clear hc hf
      have hlz : (k : Int) < (n : Int) := by omega
      go_wp2
      go_roundw
      case rel =>
        refine ⟨k + 1, by omega, by go_num, by go_num, setNode_keptS (b := b) (p := o + k * 6) (n := (mkN (k0 + 6 * (k : Int)))) ⟨by omega, _, rfl, rfl⟩ HK.out, .inr ⟨b, o, rfl, hB, ?_, ?_⟩⟩
        · intro j hj
          exact (setNode_frozen (p := o + k * 6) (n := (mkN (k0 + 6 * (k : Int))))).trans (HF.out j hj)
        · intro j hj
          obtain ⟨u, q0, q1⟩ := HC.out j hj
          by_cases e : j = k
          · subst e
            exact ⟨(mkN (k0 + 6 * (j : Int))), setNode_same (w := wr) (b := b) (p := o + j * 6) (n := mkN (k0 + 6 * (j : Int))) q0, fun _ => rfl⟩
          · exact ⟨u, setNode_other (w := wr) (b := b) (q := o + j * 6) (p := o + k * 6) (n := (mkN (k0 + 6 * (k : Int)))) q0 (by omega), fun x => q1 (by omega)⟩
      case measure => simp [intOf]; omega
    · go_wp2
      go_ret
      have e : k = n := by omega
      subst e
      refine ⟨rfl, ⟨by rw [markN_length]; have := H.out.1; omega, ?_⟩, hb⟩
      rcases hx with e | ⟨b, o, ha, hB, hf, hc⟩
      · exact .inl (by rw [markN_length]; exact e)
      · refine .inr ⟨b, o, ha, hB, fun i hi => ?_, fun j hj => hf j (by rw [markN_length] at hj; exact hj)⟩
        rw [markN_length] at hi
        obtain ⟨v, q0, q1⟩ := hc i hi
        rw [markN_get, ← q1 hi]
        exact q0

set_option maxHeartbeats 2000000 in
theorem heldNodeB (w : World) (a : Option Addr) (n : Nat) (c : Nat) (k0 : Int) (h : Nodes w a (markN n k0)) (h0 : 0 ≤ k0) (h1 : k0 ≤ 10000000) (hl : n ≤ 1048576) :
    Calls Try.prog 34 #[.slice a n c, .int .i64 k0] w fun e w' => e = .returned (.int .i64 (k0 + 6 * n)) ∧ w' = w := by
  have H : Hid (Nodes w a (markN n k0)) := h
  clear h
  go_enter Try.func34, Try.ntmps34
  go_wp2
  go_loop [1, 5] (fun q i => ∃ k : Nat, k ≤ n ∧ i = .int .i64 k ∧ q = .int .i64 (k0 + 6 * k)) (fun _ i => n - (intOf i).toNat)
  case atStart => exact ⟨0, Nat.zero_le _, rfl, by simp⟩
  case round =>
    obtain ⟨k, hk, rfl, rfl⟩ := hrel
    by_cases hlt : k < n
    · rcases H.out.2 with e | ⟨b, o, rfl, hc⟩
      · rw [markN_length] at e; omega
      have hp := hc k (by rw [markN_length]; exact hlt)
      rw [markN_get] at hp
      obtain ⟨p0, p1, p2, p3, p4, p5⟩ := hp
      simp only [mkN] at p0 p1 p2 p3 p4 p5
      clear hc
      have hlz : (k : Int) < (n : Int) := by omega
      go_wp2
      go_round
      case rel => exact ⟨k + 1, by omega, by go_num, by go_num⟩
      case measure => simp [intOf]; omega
    · go_wp2
      go_ret
      have e : k = n := by omega
      subst e
      exact ⟨rfl, rfl⟩

set_option maxHeartbeats 1000000 in
theorem markIntB (w : World) (B : Nat) (a : Option Addr) (l : List Int) (c : Nat) (h : WInts w B a l) (k0 : Int) (h0 : 0 ≤ k0) (h1 : k0 ≤ 10000000) (hl : l.length ≤ 1048576) :
    Calls Try.prog 30 #[.slice a l.length c, .int .i64 k0] w fun e w' => e = .returned (.int .i64 (k0 + l.length)) ∧ WInts w' B a (marks l.length k0) ∧ Kept (Ats l.length a) w w' := by
  have H : Hid (WInts w B a l) := h
  clear h
  generalize hn : l.length = n at hl ⊢
  go_enter Try.func30, Try.ntmps30
  go_wp2
  go_loopw [1, 5] (fun q i wr => ∃ k : Nat, k ≤ n ∧ i = .int .i64 k ∧ q = .int .i64 (k0 + k) ∧ Kept (Ats n a) w wr ∧ (n = 0 ∨ ∃ b o, a = some ⟨b, o, none⟩ ∧ B ≤ b ∧ ∀ j, j < n → ∃ v : Int, wr.cell? ⟨b, o + j, none⟩ = some (.int .i64 v) ∧ wr.frozen? ⟨b, o + j, none⟩ = false ∧ (j < k → v = k0 + j))) (fun _ i _ => n - (intOf i).toNat)
  case atStart =>
    refine ⟨0, Nat.zero_le _, rfl, by simp, Kept.refl _ _, ?_⟩
    rcases H.out.2 with e | ⟨b, o, ha, hB, hc⟩
    · exact .inl (by omega)
    · exact .inr ⟨b, o, ha, hB, fun j hj => ⟨l[j]'(by omega), (hc j (by omega)).1, (hc j (by omega)).2, fun x => by omega⟩⟩
  case round =>
    obtain ⟨k, hk, rfl, rfl, hb, hx⟩ := hrel
    by_cases hlt : k < n
    · have HK : Hid (Kept (Ats n a) w wr) := hb
      clear hb
      rcases hx with e | ⟨b, o, rfl, hB, hc⟩
      · omega
      have HC : Hid (∀ j, j < n → ∃ v : Int, wr.cell? ⟨b, o + j, none⟩ = some (.int .i64 v) ∧ wr.frozen? ⟨b, o + j, none⟩ = false ∧ (j < k → v = k0 + j)) := hc
      obtain ⟨v, p0, p1, _⟩ := hc k hlt
      clear hc
      have hlz : (k : Int) < (n : Int) := by omega
      go_wp2
      go_roundw
      case rel =>
        refine ⟨k + 1, by omega, by go_num, by go_num, HK.out.setCell (p := ⟨b, o + k, none⟩) ⟨by omega, _, rfl, rfl⟩ _, .inr ⟨b, o, rfl, hB, fun j hj => ?_⟩⟩
        obtain ⟨u, q0, q1, q2⟩ := HC.out j hj
        by_cases e : j = k
        · subst e
          exact ⟨_, set_same p0, by rw [World.frozen?_setCell]; exact p1, fun _ => rfl⟩
        · exact ⟨u, by rw [set_other (by simp <;> omega)]; exact q0, by rw [World.frozen?_setCell]; exact q1, fun x => q2 (by omega)⟩
      case measure => simp [intOf]; omega
    · go_wp2
      go_ret
      have e : k = n := by omega
      subst e
      refine ⟨rfl, ⟨by rw [marks_length]; have := H.out.1; omega, ?_⟩, hb⟩
      rcases hx with e | ⟨b, o, ha, hB, hc⟩
      · exact .inl (by rw [marks_length]; exact e)
      · refine .inr ⟨b, o, ha, hB, fun i hi => ?_⟩
        rw [marks_length] at hi
        obtain ⟨v, q0, q1, q2⟩ := hc i hi
        rw [marks_get, ← q2 hi]
        exact ⟨q0, q1⟩

set_option maxHeartbeats 1000000 in
theorem heldIntB (w : World) (a : Option Addr) (n : Nat) (c : Nat) (k0 : Int) (h : Ints w a (marks n k0)) (h0 : 0 ≤ k0) (h1 : k0 ≤ 10000000) (hl : n ≤ 1048576) :
    Calls Try.prog 31 #[.slice a n c, .int .i64 k0] w fun e w' => e = .returned (.int .i64 (k0 + n)) ∧ w' = w := by
  have H : Hid (Ints w a (marks n k0)) := h
  clear h
  go_enter Try.func31, Try.ntmps31
  go_wp2
  go_loop [1, 5] (fun q i => ∃ k : Nat, k ≤ n ∧ i = .int .i64 k ∧ q = .int .i64 (k0 + k)) (fun _ i => n - (intOf i).toNat)
  case atStart => exact ⟨0, Nat.zero_le _, rfl, by simp⟩
  case round =>
    obtain ⟨k, hk, rfl, rfl⟩ := hrel
    by_cases hlt : k < n
    · rcases H.out.2 with e | ⟨b, o, rfl, hc⟩
      · rw [marks_length] at e; omega
      have p0 := hc k (by rw [marks_length]; exact hlt)
      rw [marks_get] at p0
      clear hc
      have hlz : (k : Int) < (n : Int) := by omega
      go_wp2
      go_round
      case rel => exact ⟨k + 1, by omega, by go_num, by go_num⟩
      case measure => simp [intOf]; omega
    · go_wp2
      go_ret
      have e : k = n := by omega
      subst e
      exact ⟨rfl, rfl⟩

end Go.Proofs.Ytnkkigoeffghdaa.Nd6
