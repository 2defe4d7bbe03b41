/- Plain facts of tables put together: FnLogic's. -/
import Derived.Test.YtkcbonocbdfbcaaDoorTa1
import Derived.Test.YtkcbonocbdfbcaaDoorTk0
namespace Go.Proofs.YtkcbonocbdfbcaaDoor.Ta4
open Go.RowKit
open Ta0 Ta1 Tk0
open Ss0 (bs bs_size bs_app)
set_option linter.unusedVariables false

theorem not_not_tab (n : Nat) (F : Nat → Bool) : tab n (fun p => !(!F p)) = tab n F := tab_ext fun i _ => by simp
theorem xor_back (n : Nat) (F G : Nat → Bool) : tab n (fun p => (F p ^^ G p) ^^ G p) = tab n F := tab_ext fun i _ => by cases F i <;> cases G i <;> rfl
theorem xor_parts (n : Nat) (F G : Nat → Bool) : tab n (fun p => (F p && !G p) ^^ (!F p && G p)) = tab n (fun p => F p ^^ G p) := tab_ext fun i _ => by cases F i <;> cases G i <;> rfl
theorem count_and (F G : Nat → Bool) (k : Nat) : cnt (fun p => F p && G p) k + cnt (fun p => F p && !G p) k = cnt F k := by
  induction k with
  | zero => rfl
  | succ k ih =>
    show cnt (fun p => F p && G p) k + (F k && G k).toNat + (cnt (fun p => F p && !G p) k + (F k && !G k).toNat) = cnt F k + (F k).toNat
    cases F k <;> cases G k <;> simp <;> omega
theorem count_xor (F G : Nat → Bool) (k : Nat) : cnt (fun p => F p ^^ G p) k = cnt (fun p => F p && !G p) k + cnt (fun p => !F p && G p) k := by
  induction k with
  | zero => rfl
  | succ k ih =>
    show cnt (fun p => F p ^^ G p) k + (F k ^^ G k).toNat = cnt (fun p => F p && !G p) k + (F k && !G k).toNat + (cnt (fun p => !F p && G p) k + (!F k && G k).toNat)
    cases F k <;> cases G k <;> simp <;> omega
theorem key_inj {n : Nat} {l l' : List UInt8} (h : bs (keyL n l) = bs (keyL n l')) : l = l' := by
  have h1 := Ss0.bs_inj h
  unfold keyL at h1
  have h2 := List.append_cancel_left h1
  exact (List.cons.inj h2).2
theorem key_same {n : Nat} {l l' : List UInt8} : bs (keyL n l) = bs (keyL n l') ↔ bs l = bs l' :=
  ⟨fun h => by rw [key_inj h], fun h => by rw [Ss0.bs_inj h]⟩

end Go.Proofs.YtkcbonocbdfbcaaDoor.Ta4
