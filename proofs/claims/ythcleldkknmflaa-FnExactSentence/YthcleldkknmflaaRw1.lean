/- Slices that a call has made, read as rows of cells. -/
import Derived.Test.YthcleldkknmflaaRw0
import Derived.Test.YthcleldkknmflaaAp0
import Derived.Test.YthcleldkknmflaaAp1
import Derived.Test.YthcleldkknmflaaTm6
namespace Go.Proofs.Ythcleldkknmflaa.Rw1
open Go.RowKit
open Nd0 Tm1 Tm6 Ap0 Ap1 Rw0

theorem row_bools {w : World} {B : Nat} {v : Value} {l : List Bool} (h : Owb w B v l) (hl : 1 ≤ l.length) : ∃ g c, v = .slice (some ⟨g, 0, none⟩) l.length c ∧ B ≤ g ∧ g < w.heap.size ∧ Row w g l.length (fun i => .bool (flag l i)) := by
  obtain ⟨g, c, rfl, h1, h2⟩ := h.at hl
  refine ⟨g, c, rfl, h1, h2, fun i hi => ?_⟩
  have h9 := h.cell i hi
  rw [flag_get] at h9
  exact h9
theorem row_ints {w : World} {B : Nat} {v : Value} {l : List Int} (h : Ows w B v l) (hl : 1 ≤ l.length) : ∃ g c, v = .slice (some ⟨g, 0, none⟩) l.length c ∧ B ≤ g ∧ g < w.heap.size ∧ Row w g l.length (fun i => .int .i64 (wd l (i : Int))) := by
  have hlt := h.lt
  obtain ⟨h1, h2⟩ := h
  rcases h2 with ⟨rfl, h0⟩ | ⟨g, cap, cur, rfl, hb, hg, hn, hm, hs, ht⟩
  · omega
  · refine ⟨g, cap, rfl, hb, (hlt g rfl).2, fun i hi => ⟨?_, by simp [World.frozen?, hg]⟩⟩
    rw [cell_of_row w g i cur _ _ hg]
    have e : (cur.toList.take (l.length * 1))[i]? = some (.int .i64 l[i]) := by rw [ht]; simp [hi]
    rw [List.getElem?_take_of_lt (by omega)] at e
    rw [wd_get hi] at e
    simpa using e
theorem wd_set {us : List Int} {i : Nat} (h : i < us.length) (x : Int) (j : Nat) : wd (us.set i x) (j : Int) = if j = i then x else wd us (j : Int) := by
  by_cases e : j = i
  · subst e; simp [wd, List.getD, h]
  · have e' : ¬ i = j := fun x => e x.symm
    simp [wd, List.getD, e, e']
theorem row_set_int {w : World} {g n : Nat} {us : List Int} (h : Row w g n (fun i => .int .i64 (wd us (i : Int)))) (hn : us.length = n) {p : Nat} (hp : p < n) (x : Int) : Row (w.setCell ⟨g, p, none⟩ (.int .i64 x)) g n (fun i => .int .i64 (wd (us.set p x) (i : Int))) := by
  refine (h.set hp _).congr (fun i hi => ?_)
  rw [wd_set (by omega)]
  by_cases e : i = p
  · rw [if_pos e, if_pos e]
  · rw [if_neg e, if_neg e]

end Go.Proofs.Ythcleldkknmflaa.Rw1
