/- What the program's functions of chapter 4 are to do. -/
import Derived.Test.YtjhhmnelddidjaaRows
import Derived.Test.YtjhhmnelddidjaaIc2
import Derived.Test.YtjhhmnelddidjaaVl5
namespace Go.Proofs.Ytjhhmnelddidjaa.Ic4
open Go.RowKit
open Nd0 Nd3 Tm0 Vl1 Vl4 Vl5
/-- What is left where a variable is told by a number: nothing where it can't be. -/
def replO (l : List Nd) (v k : Int) : List Nd := (replL l v k).getD []
theorem replO_le (l : List Nd) (v k : Int) : (replO l v k).length ≤ l.length := by
  unfold replO replL
  split
  · simp
  · exact Nat.zero_le _
/-- What the program's Replace is to do. -/
def IReplace : Prop := ∀ (w : World) (a : Option Addr) (l : List Nd) (c : Nat) (v k : Int), Nodes w a l → l.length ≤ c → l.length ≤ 1048576 →
    Calls Try.prog 11 #[.slice a l.length c, .int .i64 v, .int .i64 k] w fun e w' => (∃ a' c', e = .returned (.tuple #[.slice a' (replO l v k).length c', .bool (replL l v k).isSome]) ∧ WNodes w' w.heap.size a' (replO l v k) ∧ (replO l v k).length ≤ c') ∧ Below w.heap.size w w'
/-- What the program's Apply is to do. -/
def IApply : Prop := ∀ (n : Nd) (W a b c : Int) (w : World), (Lit.int .i64 n.k).wf = true →
    Calls Try.prog 7 #[.agg #[.int .i64 n.op, .int .i64 n.w, .int .i64 n.k, .int .i64 n.a, .int .i64 n.b, .int .i64 n.c], .int .i64 W, .int .i64 a, .int .i64 b, .int .i64 c] w fun e w' => e = .returned (.int .i64 (applyL n.op n.w n.k W a b c)) ∧ Below w.heap.size w w'
end Go.Proofs.Ytjhhmnelddidjaa.Ic4
