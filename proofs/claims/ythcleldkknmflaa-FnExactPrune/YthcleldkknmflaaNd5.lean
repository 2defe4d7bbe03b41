/- Lists of nodes that may be written, kept apart by where they lie. -/
import Derived.Test.YthcleldkknmflaaNd3
namespace Go.Proofs.Ythcleldkknmflaa.Nd5
open Go.RowKit
open Nd0 Nd3

/-- A slice of the nodes l, in a block from B on and below U, that may be written. -/
def NodesIn (w : World) (B U : Nat) (a : Option Addr) (l : List Nd) : Prop :=
  l.length ≤ maxLen ∧ (l.length = 0 ∨ ∃ b o, a = some ⟨b, o, none⟩ ∧ B ≤ b ∧ b < U ∧ (∀ i (h : i < l.length), NodeAt w b (o + i * 6) l[i]) ∧ ∀ j, j < l.length * 6 → w.frozen? ⟨b, o + j, none⟩ = false)
theorem WNodes.within {w : World} {B : Nat} {a : Option Addr} {l : List Nd} (h : WNodes w B a l) : NodesIn w B w.heap.size a l := by
  refine ⟨h.1, ?_⟩
  by_cases e : l.length = 0
  · exact .inl e
  · rcases h.2 with h0 | ⟨b, o, ha, hB, hc, hf⟩
    · exact .inl h0
    · exact .inr ⟨b, o, ha, hB, (hc 0 (by omega)).lt, hc, hf⟩
theorem NodesIn.wnodes {w : World} {B U : Nat} {a : Option Addr} {l : List Nd} (h : NodesIn w B U a l) : WNodes w B a l := by
  refine ⟨h.1, ?_⟩
  rcases h.2 with h0 | ⟨b, o, ha, hB, _, hc, hf⟩
  · exact .inl h0
  · exact .inr ⟨b, o, ha, hB, hc, hf⟩
theorem NodesIn.kept {w w' : World} {B U : Nat} {a : Option Addr} {l : List Nd} (h : NodesIn w B U a l) {S : Nat → Prop} (k : Kept S w w') (hs : ∀ b, B ≤ b → b < U → ¬ S b) : NodesIn w' B U a l := by
  refine ⟨h.1, ?_⟩
  by_cases e : l.length = 0
  · exact .inl e
  rcases h.2 with h0 | ⟨b, o, rfl, hB, hU, hc, hf⟩
  · exact .inl h0
  · have hb : b < w.heap.size := (hc 0 (by omega)).lt
    have hn : ¬ S b := hs b hB hU
    refine .inr ⟨b, o, rfl, hB, hU, fun i hi => ?_, fun j hj => by rw [k.frozen (p := ⟨b, o + j, none⟩) hb hn]; exact hf j hj⟩
    obtain ⟨c0, c1, c2, c3, c4, c5⟩ := hc i hi
    exact ⟨by rw [k.cell hb hn]; exact c0, by rw [k.cell hb hn]; exact c1, by rw [k.cell hb hn]; exact c2, by rw [k.cell hb hn]; exact c3, by rw [k.cell hb hn]; exact c4, by rw [k.cell hb hn]; exact c5⟩
theorem NodesIn.again {w w' : World} {B U : Nat} {a : Option Addr} {l l' : List Nd} (h : NodesIn w B U a l) (h' : WNodes w' B a l') (e : l'.length = l.length) : NodesIn w' B U a l' := by
  refine ⟨h'.1, ?_⟩
  rcases h.2 with h0 | ⟨b, o, rfl, hB, hU, hc, hf⟩
  · exact .inl (by omega)
  · rcases h'.2 with h0 | ⟨b', o', ha, hB', hc', hf'⟩
    · exact .inl h0
    · cases ha
      exact .inr ⟨b, o, rfl, hB, hU, hc', hf'⟩
theorem NodesIn.ats {w : World} {B U : Nat} {a : Option Addr} {l : List Nd} (h : NodesIn w B U a l) {k : Nat} (hk : Ats l.length a k) : B ≤ k ∧ k < U := by
  obtain ⟨hp, x, hx, rfl⟩ := hk
  rcases h.2 with h0 | ⟨b, o, rfl, hB, hU, _⟩
  · omega
  · cases hx; exact ⟨hB, hU⟩
theorem NodesIn.below {w w' : World} {B U : Nat} {a : Option Addr} {l : List Nd} (h : NodesIn w B U a l) (k : Below w.heap.size w w') : NodesIn w' B U a l :=
  h.kept (S := fun _ => False) (Kept.ofBelow k) (fun _ _ _ h => h)
theorem NodesIn.nodes {w : World} {B U : Nat} {a : Option Addr} {l : List Nd} (h : NodesIn w B U a l) : Nodes w a l := h.wnodes.nodes

end Go.Proofs.Ythcleldkknmflaa.Nd5
