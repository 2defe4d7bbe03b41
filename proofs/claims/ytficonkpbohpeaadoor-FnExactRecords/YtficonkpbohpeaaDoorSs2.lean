/- The walks of the model's words of operators. -/
import Derived.Deep.RegionWith
import Derived.Test.YtficonkpbohpeaaDoorSs1
namespace Go.Proofs.YtficonkpbohpeaaDoor.Ss2
open Go.RowKit
open Nd0 Tx0 Ss0 Ss1
open Ws1 (ret_int)
set_option linter.unusedVariables false

/-- A slice of the texts ts can be read at address a. -/
def Strs (w : World) (a : Option Addr) (ts : List (List UInt8)) : Prop :=
  ts.length ≤ maxLen ∧ (ts.length = 0 ∨ ∃ b o, a = some ⟨b, o, none⟩ ∧ ∀ i (h : i < ts.length), w.cell? ⟨b, o + i, none⟩ = some (.string (bs ts[i])))
theorem Strs.below {w w' : World} {a : Option Addr} {l : List (List UInt8)} (h : Strs w a l) (k : Below w.heap.size w w') : Strs w' a l := by
  refine ⟨h.1, ?_⟩
  rcases h.2 with h0 | ⟨b, o, rfl, hc⟩
  · exact .inl h0
  · exact .inr ⟨b, o, rfl, fun i hi => by rw [k.cell (lt_of_cell (hc i hi))]; exact hc i hi⟩
theorem strs_lit (W : World) (g : Nat) (l : List (List UInt8)) (T : Nat) (hg : g = W.heap.size) (hl : l.length ≤ maxLen) : Strs (W.alloc (.cells (l.map fun x => .string (bs x)).toArray T)) (some ⟨g, 0, none⟩) l := by
  subst hg
  refine ⟨hl, .inr ⟨W.heap.size, 0, rfl, fun i hi => ?_⟩⟩
  rw [World.cell?_alloc_new]
  simp [hi]
theorem find_range {p : Nat → Bool} : ∀ n k, k < n → p k = true → (∀ j, j < k → p j = false) → (List.range n).find? p = some k := by
  intro n
  induction n with
  | zero => intro k h; omega
  | succ n ih =>
    intro k hk hp hb
    rw [List.range_succ, List.find?_append]
    by_cases e : k < n
    · rw [ih k e hp hb]; rfl
    · have ek : k = n := by omega
      subst ek
      have : (List.range k).find? p = none := by
        rw [List.find?_eq_none]
        intro x hx
        rw [hb x (List.mem_range.1 hx)]; simp
      rw [this]
      simp [hp]
/-- An operator and how many parts it takes, or -1 and 0. -/
def opA (s : List UInt8) : Int := match opOf s with
  | some (o, _) => o
  | none => -1
def opC (s : List UInt8) : Int := match opOf s with
  | some (_, c) => (c : Int)
  | none => 0
theorem op_found {s : List UInt8} {k : Nat} (hk : k < 14) (hb : ∀ j, j < k → wordsL.getD j [] ≠ s) (he : wordsL.getD k [] = s) : opA s = 3 + (k : Int) ∧ opC s = 2 := by
  have : opOf s = some (3 + (k : Int), 2) := by
    unfold opOf
    rw [find_range 14 k hk (decide_eq_true he) (fun j hj => decide_eq_false (hb j hj))]
  unfold opA opC
  rw [this]; exact ⟨rfl, rfl⟩
theorem op_rest {s : List UInt8} (hb : ∀ j, j < 14 → wordsL.getD j [] ≠ s) : opOf s = if s = wNot then some (2, 1) else if s = wSlice then some (17, 1) else if s = wIf then some (18, 3) else if s = wAll then some (19, 1) else if s = wSome then some (20, 1) else none := by
  unfold opOf
  have : (List.range 14).find? (fun i => decide (wordsL.getD i [] = s)) = none := by
    rw [List.find?_eq_none]
    intro x hx
    simpa using hb x (List.mem_range.1 hx)
  rw [this]

end Go.Proofs.YtficonkpbohpeaaDoor.Ss2
