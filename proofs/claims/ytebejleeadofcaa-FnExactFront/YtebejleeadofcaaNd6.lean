/- Lists of flags at the exact laws' helpers; the helpers' marks from greater numbers on; copies of lists of whole numbers. -/
import Derived.Laws.MakeOwn
import Derived.Test.YtebejleeadofcaaPkXF42
import Derived.Test.YtebejleeadofcaaPkXF24
import Derived.Test.YtebejleeadofcaaPkXF11
namespace Go.Proofs.Ytebejleeadofcaa.Nd6
open Go.RowKit
open Nd0 Nd1 Nd2 Nd3 Ap1
set_option linter.unusedVariables false

/-- A slice of the flags l can be read at address a. -/
def Bools (w : World) (a : Option Addr) (l : List Bool) : Prop :=
  l.length ≤ maxLen ∧ (l.length = 0 ∨ ∃ b o, a = some ⟨b, o, none⟩ ∧ ∀ i (h : i < l.length), w.cell? ⟨b, o + i, none⟩ = some (.bool l[i]))
theorem Bools.below {w w' : World} {a : Option Addr} {l : List Bool} (h : Bools w a l) (k : Below w.heap.size w w') : Bools w' a l := by
  refine ⟨h.1, ?_⟩
  rcases h.2 with h0 | ⟨b, o, rfl, hc⟩
  · exact .inl h0
  · exact .inr ⟨b, o, rfl, fun i hi => by rw [k.cell (lt_of_cell (hc i hi))]; exact hc i hi⟩
def BoolsIn (w : World) (B U : Nat) (a : Option Addr) (l : List Bool) : Prop :=
  l.length ≤ maxLen ∧ (l.length = 0 ∨ ∃ b o, a = some ⟨b, o, none⟩ ∧ B ≤ b ∧ b < U ∧ ∀ i (h : i < l.length), w.cell? ⟨b, o + i, none⟩ = some (.bool l[i]) ∧ w.frozen? ⟨b, o + i, none⟩ = false)
theorem WBools.within {w : World} {B : Nat} {a : Option Addr} {l : List Bool} (h : WBools w B a l) : BoolsIn w B w.heap.size a l := by
  refine ⟨h.1, ?_⟩
  by_cases e : l.length = 0
  · exact .inl e
  · rcases h.2 with h0 | ⟨b, o, ha, hB, hc⟩
    · exact .inl h0
    · exact .inr ⟨b, o, ha, hB, lt_of_cell (p := ⟨b, o + 0, none⟩) (hc 0 (by omega)).1, hc⟩
theorem BoolsIn.wr {w : World} {B U : Nat} {a : Option Addr} {l : List Bool} (h : BoolsIn w B U a l) : WBools w B a l := by
  refine ⟨h.1, ?_⟩
  rcases h.2 with h0 | ⟨b, o, ha, hB, _, hc⟩
  · exact .inl h0
  · exact .inr ⟨b, o, ha, hB, hc⟩
theorem WBools.plain {w : World} {B : Nat} {a : Option Addr} {l : List Bool} (h : WBools w B a l) : Bools w a l := by
  refine ⟨h.1, ?_⟩
  rcases h.2 with h0 | ⟨b, o, ha, _, hc⟩
  · exact .inl h0
  · exact .inr ⟨b, o, ha, fun i hi => (hc i hi).1⟩
theorem BoolsIn.plain {w : World} {B U : Nat} {a : Option Addr} {l : List Bool} (h : BoolsIn w B U a l) : Bools w a l := WBools.plain h.wr
theorem BoolsIn.kept {w w' : World} {B U : Nat} {a : Option Addr} {l : List Bool} (h : BoolsIn w B U a l) {S : Nat → Prop} (k : Kept S w w') (hs : ∀ b, B ≤ b → b < U → ¬ S b) : BoolsIn w' B U a l := by
  refine ⟨h.1, ?_⟩
  rcases h.2 with h0 | ⟨b, o, rfl, hB, hU, hc⟩
  · exact .inl h0
  · exact .inr ⟨b, o, rfl, hB, hU, fun i hi => ⟨by rw [k.cell (lt_of_cell (hc i hi).1) (hs b hB hU)]; exact (hc i hi).1, by rw [k.frozen (p := ⟨b, o + i, none⟩) (lt_of_cell (hc i hi).1) (hs b hB hU)]; exact (hc i hi).2⟩⟩
theorem BoolsIn.below {w w' : World} {B U : Nat} {a : Option Addr} {l : List Bool} (h : BoolsIn w B U a l) (k : Below w.heap.size w w') : BoolsIn w' B U a l :=
  h.kept (S := fun _ => False) (Kept.ofBelow k) (fun _ _ _ h => h)
theorem _root_.Go.Proofs.Ytebejleeadofcaa.Nd0.IntsIn.below {w w' : World} {B U : Nat} {a : Option Addr} {l : List Int} (h : IntsIn w B U a l) (k : Below w.heap.size w w') : IntsIn w' B U a l :=
  h.kept (S := fun _ => False) (Kept.ofBelow k) (fun _ _ _ h => h)
theorem _root_.Go.Proofs.Ytebejleeadofcaa.Nd0.IntsIn.ints {w : World} {B U : Nat} {a : Option Addr} {l : List Int} (h : IntsIn w B U a l) : Ints w a l := h.wints.ints
theorem BoolsIn.again {w w' : World} {B U : Nat} {a : Option Addr} {l l' : List Bool} (h : BoolsIn w B U a l) (h' : WBools w' B a l') (e : l'.length = l.length) : BoolsIn w' B U a l' := by
  refine ⟨h'.1, ?_⟩
  rcases h.2 with h0 | ⟨b, o, rfl, hB, hU, hc⟩
  · exact .inl (by omega)
  · rcases h'.2 with h0 | ⟨b', o', ha, hB', hc'⟩
    · exact .inl h0
    · cases ha
      exact .inr ⟨b, o, rfl, hB, hU, hc'⟩
theorem BoolsIn.ats {w : World} {B U : Nat} {a : Option Addr} {l : List Bool} (h : BoolsIn w B U a l) {k : Nat} (hk : Ats l.length a k) : B ≤ k ∧ k < U := by
  obtain ⟨hp, x, hx, rfl⟩ := hk
  rcases h.2 with h0 | ⟨b, o, rfl, hB, hU, _⟩
  · omega
  · cases hx; exact ⟨hB, hU⟩
def markB (n : Nat) (k0 : Int) : List Bool := (List.range n).map fun (i : Nat) => ((k0 + (i : Int)) % 3 == 0)
theorem markB_length (n : Nat) (k0 : Int) : (markB n k0).length = n := by simp [markB]
theorem markB_get (n : Nat) (k0 : Int) (i : Nat) (h : i < (markB n k0).length) : (markB n k0)[i] = ((k0 + (i : Int)) % 3 == 0) := by simp [markB]

theorem infoInt6 : (Try.prog.info? 3).map (fun i => (i.zero, i.size, i.bytes)) = some (some (.int .i64 0), 1, 8) := by kernel_rfl
def noughts6 (n : Nat) : Array Value := madeCells #[.int .i64 0] (n * 1)
theorem noughts6_get (n j : Nat) (h : j < n) : (noughts6 n)[j]? = some (.int .i64 0) := by
  simp only [noughts6, madeCells, Array.getElem?_map, Array.getElem?_range]
  rw [if_pos (by omega)]
  simp only [Option.map_some]
  have e : j % 1 = 0 := Nat.mod_one j
  exact congrArg (fun m => some ((#[.int .i64 0] : Array Value)[m]!)) e
theorem makeInts6 (n : Nat) (hn : n ≤ 1048576) (w : World) :
    (Instr.makeSlice 40 (.int .i64 (n : Int)) (.int .i64 (n : Int))).run Try.prog w = .ok (.slice (some ⟨w.heap.size, 0, none⟩) n n) (w.alloc (.cells (noughts6 n) 3)) := by
  obtain ⟨i, hi, hzz⟩ := Option.map_eq_some_iff.1 infoInt6
  simp only [Prod.mk.injEq] at hzz
  obtain ⟨hz, hs, hb⟩ := hzz
  have h := run_make (P := Try.prog) w 40 3 i _ Try.underlying40 hi hz .i64 .i64 n n (by omega) (Int.le_refl _) (by rw [hb]; omega) (by omega)
  rw [hs] at h
  simpa [noughts6, Value.cells] using h

set_option maxHeartbeats 2000000 in
theorem markNodeB (w : World) (B : Nat) (a : Option Addr) (l : List Nd) (c : Nat) (h : WNodes w B a l) (k0 : Int) (h0 : 0 ≤ k0) (h1 : k0 ≤ 10000000) (hl : l.length ≤ 1048576) :
    Calls Try.prog 10 #[.slice a l.length c, .int .i64 k0] w fun e w' => e = .returned (.int .i64 (k0 + 6 * l.length)) ∧ WNodes w' B a (markN l.length k0) ∧ Kept (Ats l.length a) w w' := by
  have H : Hid (WNodes w B a l) := h
  clear h
  generalize hn : l.length = n at hl ⊢
  go_enter Try.func10, Try.ntmps10
  go_wp2
  go_loopw [1, 5] (fun q i wr => ∃ k : Nat, k ≤ n ∧ i = .int .i64 k ∧ q = .int .i64 (k0 + 6 * k) ∧ Kept (Ats n a) w wr ∧ (n = 0 ∨ ∃ b o, a = some ⟨b, o, none⟩ ∧ B ≤ b ∧ (∀ j, j < n * 6 → wr.frozen? ⟨b, o + j, none⟩ = false) ∧ ∀ j, j < n → ∃ v : Nd, NodeAt wr b (o + j * 6) v ∧ (j < k → v = (mkN (k0 + 6 * (j : Int)))))) (fun _ i _ => n - (intOf i).toNat)
  case atStart =>
    refine ⟨0, Nat.zero_le _, rfl, by simp, Kept.refl _ _, ?_⟩
    rcases H.out.2 with e | ⟨b, o, ha, hB, hc, hf⟩
    · exact .inl (by omega)
    · exact .inr ⟨b, o, ha, hB, fun j hj => hf j (by omega), fun j hj => ⟨l[j]'(by omega), hc j (by omega), fun x => by omega⟩⟩
  case round =>
    obtain ⟨k, hk, rfl, rfl, hb, hx⟩ := hrel
    by_cases hlt : k < n
    · have HK : Hid (Kept (Ats n a) w wr) := hb
      clear hb
      rcases hx with e | ⟨b, o, rfl, hB, hf, hc⟩
      · omega
      have HC : Hid (∀ j, j < n → ∃ v : Nd, NodeAt wr b (o + j * 6) v ∧ (j < k → v = (mkN (k0 + 6 * (j : Int))))) := hc
      have HF : Hid (∀ j, j < n * 6 → wr.frozen? ⟨b, o + j, none⟩ = false) := hf
      have g0 : wr.frozen? ⟨b, o + k * 6, none⟩ = false := hf (k * 6) (by omega)
      have g1 : wr.frozen? ⟨b, o + k * 6 + 1, none⟩ = false := hf (k * 6 + 1) (by omega)
      have g2 : wr.frozen? ⟨b, o + k * 6 + 2, none⟩ = false := hf (k * 6 + 2) (by omega)
      have g3 : wr.frozen? ⟨b, o + k * 6 + 3, none⟩ = false := hf (k * 6 + 3) (by omega)
      have g4 : wr.frozen? ⟨b, o + k * 6 + 4, none⟩ = false := hf (k * 6 + 4) (by omega)
      have g5 : wr.frozen? ⟨b, o + k * 6 + 5, none⟩ = false := hf (k * 6 + 5) (by omega)
      obtain ⟨v, ⟨p0, p1, p2, p3, p4, p5⟩, _⟩ := hc k hlt
      clear hc hf
      have hlz : (k : Int) < (n : Int) := by omega
      go_wp2
      go_roundw
      case rel =>
        refine ⟨k + 1, by omega, by go_num, by go_num, setNode_keptS (b := b) (p := o + k * 6) (n := (mkN (k0 + 6 * (k : Int)))) ⟨by omega, _, rfl, rfl⟩ HK.out, .inr ⟨b, o, rfl, hB, ?_, ?_⟩⟩
        · intro j hj
          exact (setNode_frozen (p := o + k * 6) (n := (mkN (k0 + 6 * (k : Int))))).trans (HF.out j hj)
        · intro j hj
          obtain ⟨u, q0, q1⟩ := HC.out j hj
          by_cases e : j = k
          · subst e
            exact ⟨(mkN (k0 + 6 * (j : Int))), setNode_same (w := wr) (b := b) (p := o + j * 6) (n := mkN (k0 + 6 * (j : Int))) q0, fun _ => rfl⟩
          · exact ⟨u, setNode_other (w := wr) (b := b) (q := o + j * 6) (p := o + k * 6) (n := (mkN (k0 + 6 * (k : Int)))) q0 (by omega), fun x => q1 (by omega)⟩
      case measure => simp [intOf]; omega
    · go_wp2
      go_ret
      have e : k = n := by omega
      subst e
      refine ⟨rfl, ⟨by rw [markN_length]; have := H.out.1; omega, ?_⟩, hb⟩
      rcases hx with e | ⟨b, o, ha, hB, hf, hc⟩
      · exact .inl (by rw [markN_length]; exact e)
      · refine .inr ⟨b, o, ha, hB, fun i hi => ?_, fun j hj => hf j (by rw [markN_length] at hj; exact hj)⟩
        rw [markN_length] at hi
        obtain ⟨v, q0, q1⟩ := hc i hi
        rw [markN_get, ← q1 hi]
        exact q0

set_option maxHeartbeats 2000000 in
theorem heldNodeB (w : World) (a : Option Addr) (n : Nat) (c : Nat) (k0 : Int) (h : Nodes w a (markN n k0)) (h0 : 0 ≤ k0) (h1 : k0 ≤ 10000000) (hl : n ≤ 1048576) :
    Calls Try.prog 13 #[.slice a n c, .int .i64 k0] w fun e w' => e = .returned (.int .i64 (k0 + 6 * n)) ∧ w' = w := by
  have H : Hid (Nodes w a (markN n k0)) := h
  clear h
  go_enter Try.func13, Try.ntmps13
  go_wp2
  go_loop [1, 5] (fun q i => ∃ k : Nat, k ≤ n ∧ i = .int .i64 k ∧ q = .int .i64 (k0 + 6 * k)) (fun _ i => n - (intOf i).toNat)
  case atStart => exact ⟨0, Nat.zero_le _, rfl, by simp⟩
  case round =>
    obtain ⟨k, hk, rfl, rfl⟩ := hrel
    by_cases hlt : k < n
    · rcases H.out.2 with e | ⟨b, o, rfl, hc⟩
      · rw [markN_length] at e; omega
      have hp := hc k (by rw [markN_length]; exact hlt)
      rw [markN_get] at hp
      obtain ⟨p0, p1, p2, p3, p4, p5⟩ := hp
      simp only [mkN] at p0 p1 p2 p3 p4 p5
      clear hc
      have hlz : (k : Int) < (n : Int) := by omega
      go_wp2
      go_round
      case rel => exact ⟨k + 1, by omega, by go_num, by go_num⟩
      case measure => simp [intOf]; omega
    · go_wp2
      go_ret
      have e : k = n := by omega
      subst e
      exact ⟨rfl, rfl⟩

end Go.Proofs.Ytebejleeadofcaa.Nd6
