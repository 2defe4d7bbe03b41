/- What the root reaches, as plain data. -/
import Derived.Test.YtficonkpbohpeaaDoorTm0
namespace Go.Proofs.YtficonkpbohpeaaDoor.Tm1
open Nd0 Pl1 Tm0

def markAll (bs : List Bool) (ps : List Int) : List Bool := ps.foldl (fun b p => b.set p.toNat true) bs
theorem markAll_length (ps : List Int) : ∀ bs : List Bool, (markAll bs ps).length = bs.length := by
  induction ps with
  | nil => intro bs; rfl
  | cons p ps ih => intro bs; show (markAll (bs.set p.toNat true) ps).length = _; rw [ih, List.length_set]
def flag (bs : List Bool) (i : Nat) : Bool := bs.getD i false
theorem flag_get {bs : List Bool} {i : Nat} (h : i < bs.length) : bs[i] = flag bs i := by simp [flag, List.getD, h]
theorem flag_set {bs : List Bool} {i j : Nat} (h : i < bs.length) (x : Bool) : flag (bs.set i x) j = if i = j then x else flag bs j := by
  by_cases e : i = j
  · subst e; simp [flag, List.getD, h]
  · simp [flag, List.getD, e]
def reachStep (l : List Nd) (bs : List Bool) (i : Nat) : List Bool := if flag bs i then markAll bs (parts (nth l i)) else bs
def reachDown (l : List Nd) : Nat → List Bool → List Bool
  | 0, bs => bs
  | k + 1, bs => reachDown l k (reachStep l bs k)
def reachInit (n : Nat) : List Bool := (List.range n).map fun i => i + 1 == n
/-- For each node whether the root reaches it. -/
def reachL (l : List Nd) : List Bool := reachDown l l.length (reachInit l.length)
theorem reachStep_length (l : List Nd) (bs : List Bool) (i : Nat) : (reachStep l bs i).length = bs.length := by
  unfold reachStep; split
  · exact markAll_length _ _
  · rfl
theorem reachDown_length (l : List Nd) : ∀ (k : Nat) (bs : List Bool), (reachDown l k bs).length = bs.length := by
  intro k
  induction k with
  | zero => intro bs; rfl
  | succ k ih => intro bs; show (reachDown l k (reachStep l bs k)).length = _; rw [ih, reachStep_length]
theorem reachInit_length (n : Nat) : (reachInit n).length = n := by simp [reachInit]
theorem reachL_length (l : List Nd) : (reachL l).length = l.length := by unfold reachL; rw [reachDown_length, reachInit_length]
theorem parts_ok {l : List Nd} {i : Nat} (h : nodeOk l i = true) : ∀ k (hk : k < (parts (nth l i)).length), 0 ≤ (parts (nth l i))[k] ∧ (parts (nth l i))[k] < i := by
  simp only [nodeOk, Bool.and_eq_true, List.all_eq_true, decide_eq_true_eq] at h
  intro k hk
  exact h.1.1 _ (List.getElem_mem hk)

end Go.Proofs.YtficonkpbohpeaaDoor.Tm1
