/- Lists of flags at the exact laws' helpers; the helpers' marks from greater numbers on; copies of lists of whole numbers. -/
import Derived.Laws.MakeOwn
import Derived.Test.YtficonkpbohpeaaDoorPkT30
import Derived.Test.YtficonkpbohpeaaDoorPkT31
namespace Go.Proofs.YtficonkpbohpeaaDoor.Nd6
open Go.RowKit
open Nd0 Nd1 Nd2 Nd3 Ap1
set_option linter.unusedVariables false

/-- A slice of the flags l can be read at address a. -/
def Bools (w : World) (a : Option Addr) (l : List Bool) : Prop :=
  l.length ≤ maxLen ∧ (l.length = 0 ∨ ∃ b o, a = some ⟨b, o, none⟩ ∧ ∀ i (h : i < l.length), w.cell? ⟨b, o + i, none⟩ = some (.bool l[i]))
theorem Bools.below {w w' : World} {a : Option Addr} {l : List Bool} (h : Bools w a l) (k : Below w.heap.size w w') : Bools w' a l := by
  refine ⟨h.1, ?_⟩
  rcases h.2 with h0 | ⟨b, o, rfl, hc⟩
  · exact .inl h0
  · exact .inr ⟨b, o, rfl, fun i hi => by rw [k.cell (lt_of_cell (hc i hi))]; exact hc i hi⟩
def BoolsIn (w : World) (B U : Nat) (a : Option Addr) (l : List Bool) : Prop :=
  l.length ≤ maxLen ∧ (l.length = 0 ∨ ∃ b o, a = some ⟨b, o, none⟩ ∧ B ≤ b ∧ b < U ∧ ∀ i (h : i < l.length), w.cell? ⟨b, o + i, none⟩ = some (.bool l[i]) ∧ w.frozen? ⟨b, o + i, none⟩ = false)
theorem WBools.within {w : World} {B : Nat} {a : Option Addr} {l : List Bool} (h : WBools w B a l) : BoolsIn w B w.heap.size a l := by
  refine ⟨h.1, ?_⟩
  by_cases e : l.length = 0
  · exact .inl e
  · rcases h.2 with h0 | ⟨b, o, ha, hB, hc⟩
    · exact .inl h0
    · exact .inr ⟨b, o, ha, hB, lt_of_cell (p := ⟨b, o + 0, none⟩) (hc 0 (by omega)).1, hc⟩
theorem BoolsIn.wr {w : World} {B U : Nat} {a : Option Addr} {l : List Bool} (h : BoolsIn w B U a l) : WBools w B a l := by
  refine ⟨h.1, ?_⟩
  rcases h.2 with h0 | ⟨b, o, ha, hB, _, hc⟩
  · exact .inl h0
  · exact .inr ⟨b, o, ha, hB, hc⟩
theorem WBools.plain {w : World} {B : Nat} {a : Option Addr} {l : List Bool} (h : WBools w B a l) : Bools w a l := by
  refine ⟨h.1, ?_⟩
  rcases h.2 with h0 | ⟨b, o, ha, _, hc⟩
  · exact .inl h0
  · exact .inr ⟨b, o, ha, fun i hi => (hc i hi).1⟩
theorem BoolsIn.plain {w : World} {B U : Nat} {a : Option Addr} {l : List Bool} (h : BoolsIn w B U a l) : Bools w a l := WBools.plain h.wr
theorem BoolsIn.kept {w w' : World} {B U : Nat} {a : Option Addr} {l : List Bool} (h : BoolsIn w B U a l) {S : Nat → Prop} (k : Kept S w w') (hs : ∀ b, B ≤ b → b < U → ¬ S b) : BoolsIn w' B U a l := by
  refine ⟨h.1, ?_⟩
  rcases h.2 with h0 | ⟨b, o, rfl, hB, hU, hc⟩
  · exact .inl h0
  · exact .inr ⟨b, o, rfl, hB, hU, fun i hi => ⟨by rw [k.cell (lt_of_cell (hc i hi).1) (hs b hB hU)]; exact (hc i hi).1, by rw [k.frozen (p := ⟨b, o + i, none⟩) (lt_of_cell (hc i hi).1) (hs b hB hU)]; exact (hc i hi).2⟩⟩
theorem BoolsIn.below {w w' : World} {B U : Nat} {a : Option Addr} {l : List Bool} (h : BoolsIn w B U a l) (k : Below w.heap.size w w') : BoolsIn w' B U a l :=
  h.kept (S := fun _ => False) (Kept.ofBelow k) (fun _ _ _ h => h)
theorem _root_.Go.Proofs.YtficonkpbohpeaaDoor.Nd0.IntsIn.below {w w' : World} {B U : Nat} {a : Option Addr} {l : List Int} (h : IntsIn w B U a l) (k : Below w.heap.size w w') : IntsIn w' B U a l :=
  h.kept (S := fun _ => False) (Kept.ofBelow k) (fun _ _ _ h => h)
theorem _root_.Go.Proofs.YtficonkpbohpeaaDoor.Nd0.IntsIn.ints {w : World} {B U : Nat} {a : Option Addr} {l : List Int} (h : IntsIn w B U a l) : Ints w a l := h.wints.ints
theorem BoolsIn.again {w w' : World} {B U : Nat} {a : Option Addr} {l l' : List Bool} (h : BoolsIn w B U a l) (h' : WBools w' B a l') (e : l'.length = l.length) : BoolsIn w' B U a l' := by
  refine ⟨h'.1, ?_⟩
  rcases h.2 with h0 | ⟨b, o, rfl, hB, hU, hc⟩
  · exact .inl (by omega)
  · rcases h'.2 with h0 | ⟨b', o', ha, hB', hc'⟩
    · exact .inl h0
    · cases ha
      exact .inr ⟨b, o, rfl, hB, hU, hc'⟩
theorem BoolsIn.ats {w : World} {B U : Nat} {a : Option Addr} {l : List Bool} (h : BoolsIn w B U a l) {k : Nat} (hk : Ats l.length a k) : B ≤ k ∧ k < U := by
  obtain ⟨hp, x, hx, rfl⟩ := hk
  rcases h.2 with h0 | ⟨b, o, rfl, hB, hU, _⟩
  · omega
  · cases hx; exact ⟨hB, hU⟩
def markB (n : Nat) (k0 : Int) : List Bool := (List.range n).map fun (i : Nat) => ((k0 + (i : Int)) % 3 == 0)
theorem markB_length (n : Nat) (k0 : Int) : (markB n k0).length = n := by simp [markB]
theorem markB_get (n : Nat) (k0 : Int) (i : Nat) (h : i < (markB n k0).length) : (markB n k0)[i] = ((k0 + (i : Int)) % 3 == 0) := by simp [markB]

theorem infoInt6 : (Tryd.prog.info? 3).map (fun i => (i.zero, i.size, i.bytes)) = some (some (.int .i64 0), 1, 8) := by kernel_rfl
def noughts6 (n : Nat) : Array Value := madeCells #[.int .i64 0] (n * 1)
theorem noughts6_get (n j : Nat) (h : j < n) : (noughts6 n)[j]? = some (.int .i64 0) := by
  simp only [noughts6, madeCells, Array.getElem?_map, Array.getElem?_range]
  rw [if_pos (by omega)]
  simp only [Option.map_some]
  have e : j % 1 = 0 := Nat.mod_one j
  exact congrArg (fun m => some ((#[.int .i64 0] : Array Value)[m]!)) e
theorem makeInts6 (n : Nat) (hn : n ≤ 1048576) (w : World) :
    (Instr.makeSlice 53 (.int .i64 (n : Int)) (.int .i64 (n : Int))).run Tryd.prog w = .ok (.slice (some ⟨w.heap.size, 0, none⟩) n n) (w.alloc (.cells (noughts6 n) 3)) := by
  obtain ⟨i, hi, hzz⟩ := Option.map_eq_some_iff.1 infoInt6
  simp only [Prod.mk.injEq] at hzz
  obtain ⟨hz, hs, hb⟩ := hzz
  have h := run_make (P := Tryd.prog) w 53 3 i _ Tryd.underlying53 hi hz .i64 .i64 n n (by omega) (Int.le_refl _) (by rw [hb]; omega) (by omega)
  rw [hs] at h
  simpa [noughts6, Value.cells] using h

end Go.Proofs.YtficonkpbohpeaaDoor.Nd6
