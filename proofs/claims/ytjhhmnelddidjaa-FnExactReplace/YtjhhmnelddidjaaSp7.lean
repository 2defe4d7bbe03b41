/- The walk of the model's Prune. -/
import Derived.Test.YtjhhmnelddidjaaSp6
import Derived.Test.YtjhhmnelddidjaaPkB
import Derived.Test.YtjhhmnelddidjaaPkA
namespace Go.Proofs.Ytjhhmnelddidjaa.Sp7
open Go.RowKit
open Nd0 Nd1 Nd3 Tm0 Tm1 Tm2 Tm3 Ap0 Ap1 Ap2 Sp2 Sp4 Sp5
set_option linter.unusedVariables false

theorem nodeAt_of {w : World} {b o : Nat} {l : List Nd} (h : Nodes w (some ⟨b, o, none⟩) l) {i : Nat} (hi : i < l.length) : NodeAt w b (o + i * 6) (nth l i) := by
  rcases h.2 with h0 | ⟨b', o', hb, hc⟩
  · omega
  · cases hb
    have h9 := hc i hi
    rw [nth_get hi] at h9
    exact h9
theorem ows_cell {w : World} {B g n cap : Nat} {l : List Int} (h : Ows w B (.slice (some ⟨g, 0, none⟩) n cap) l) {i : Nat} (hi : i < l.length) : w.cell? ⟨g, i, none⟩ = some (.int .i64 l[i]) := by
  obtain ⟨a, c, hv, hw⟩ := h.form
  cases hv
  rcases hw.2 with h0 | ⟨b, o, hb, _, hc⟩
  · omega
  · cases hb
    have h9 := (hc i hi).1
    rw [Nat.zero_add] at h9
    exact h9
theorem place_at {l : List Nd} {k : Nat} {y x : Int} (h0 : 0 ≤ x) (h1 : x < k) (h : x.toNat < (places l k ++ [y]).length) : (places l k ++ [y])[x.toNat] = plc l x := by
  have hl : x.toNat < (places l k).length := by rw [places_length]; omega
  rw [List.getElem_append_left hl, places_get]
  unfold plc
  rw [Int.toNat_natCast]
theorem keep {B : Nat} {u v w : World} (h : Below B u v) (k : Below v.heap.size v w) (hB : B ≤ v.heap.size) : Below B u w := h.trans (k.mono hB)

end Go.Proofs.Ytjhhmnelddidjaa.Sp7
