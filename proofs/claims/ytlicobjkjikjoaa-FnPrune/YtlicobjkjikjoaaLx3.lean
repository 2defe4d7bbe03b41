/- The walk of the exact law of Free, out of a contract of the program's Free. -/
import Derived.Test.YtlicobjkjikjoaaSp9
import Derived.Test.YtlicobjkjikjoaaIc2
import Derived.Test.YtlicobjkjikjoaaPkB
namespace Go.Proofs.Ytlicobjkjikjoaa.Lx3
open Go.RowKit
open Nd0 Nd1 Nd2 Nd3 Nd4 Tm0 Tm1 Tm4 Ap0
open Sp9 (sFree)
set_option linter.unusedVariables false

theorem wnodes_below {w w' : World} {B : Nat} {a : Option Addr} {l : List Nd} (h : WNodes w B a l) (k : Below w.heap.size w w') : WNodes w' B a l := by
  refine ⟨h.1, ?_⟩
  by_cases e : l.length = 0
  · exact .inl e
  · rcases h.2 with h0 | ⟨b, o, rfl, hB, hc, hf⟩
    · exact .inl h0
    · have hb : b < w.heap.size := (hc 0 (by omega)).lt
      exact .inr ⟨b, o, rfl, hB, fun i hi => (hc i hi).below k hb, fun j hj => by rw [k.frozen (p := ⟨b, o + j, none⟩) hb]; exact hf j hj⟩
theorem below_drewN {B : Nat} {u w : World} (h : Below B u w) (n : Nat) : Below B u (w.drewN n) := ⟨h.os, h.tape, h.output, h.size, h.block⟩
theorem intsIn_below {w w' : World} {B U : Nat} {a : Option Addr} {l : List Int} (h : IntsIn w B U a l) (k : Below w.heap.size w w') : IntsIn w' B U a l :=
  h.kept (S := fun _ => False) (Kept.ofBelow k) (fun _ _ _ h => h)
theorem keep {B : Nat} {u v w : World} (h : Below B u v) (k : Below v.heap.size v w) (hB : B ≤ v.heap.size) : Below B u w := h.trans (k.mono hB)

end Go.Proofs.Ytlicobjkjikjoaa.Lx3
