/- A variable told by a number: small facts. -/
import Derived.Test.YtdmogjhabladcaaGreatPkH
import Derived.Test.YtdmogjhabladcaaGreatPkB
namespace Go.Proofs.YtdmogjhabladcaaGreat.Rp0
open Go.RowKit
open Nd0 Nd3 Pl1 Tm0 Tm5 Ap2 Vl1 Vl4 Ic4
set_option linter.unusedVariables false

theorem repl_none {l : List Nd} {v k : Int} {i : Nat} (hi : i < l.length) (h : badR v k (nth l i) = true) : replL l v k = none := by
  unfold replL
  have : l.any (badR v k) = true := List.any_eq_true.2 ⟨_, List.getElem_mem hi, by rw [nth_get hi]; exact h⟩
  rw [this]; simp
theorem repl_some {l : List Nd} {v k : Int} (hT : termOk l = true) (h : ∀ i, i < l.length → badR v k (nth l i) = false) : replL l v k = some (l.map (replN v k)) := by
  unfold replL
  have : l.any (badR v k) = false := by
    rw [List.any_eq_false]
    intro n hn
    obtain ⟨i, hi, rfl⟩ := List.getElem_of_mem hn
    rw [nth_get hi, h i hi]; simp
  rw [this, hT]; rfl
theorem repl_term {l : List Nd} {v k : Int} (hT : termOk l = false) : replL l v k = none := by unfold replL; rw [hT]; rfl
theorem take_step {l : List Nd} {v k : Int} {i : Nat} (hi : i < l.length) : (l.take (i + 1)).map (replN v k) = (l.take i).map (replN v k) ++ [replN v k (nth l i)] := by
  rw [List.take_succ_eq_append_getElem hi, List.map_append, nth_get hi]; rfl
theorem own_nil (W : World) (B g : Nat) (hg : g = W.heap.size) (hB : B ≤ g) : Own (W.alloc (.cells #[] 31)) B (.slice (some ⟨g, 0, none⟩) 0 0) [] := by
  subst hg; exact Own.lit W B hB

theorem own_room {w : World} {B n c : Nat} {a : Option Addr} {L : List Nd} (h : Own w B (.slice a n c) L) : L.length ≤ c := by
  obtain ⟨h1, h2⟩ := h
  rcases h2 with ⟨h0, h9⟩ | ⟨g', cap, cur, he, hb, hg, hn, rest⟩
  · cases h0; omega
  · cases he; exact hn

end Go.Proofs.YtdmogjhabladcaaGreat.Rp0
