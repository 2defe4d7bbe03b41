import Derived.Test.YtebejleeadofcaaGreatPkFR1
import Derived.Test.YtebejleeadofcaaGreatPkFR0
namespace Go.Proofs.YtebejleeadofcaaGreat
set_option maxRecDepth 100000
set_option maxHeartbeats 8000000
set_option linter.unusedVariables false
namespace Sp2
open Go.RowKit
open Nd0 Nd1 Tm0
theorem sIn (x a b:Int) (w:World) :
 Calls Tryz.prog 75 #[.int .i64 x,.int .i64 a,.int .i64 b] w fun e w'=>e=.returned (.bool (decide (a<=x/\x<=b)))/\w'=w:=by
 by_cases h1:a<=x<;>by_cases h2:x<=b
 all_goals
  go_enter Tryz.func75,Tryz.ntmps75
  go_wp2
  go_ret
  exact ⟨ret_bool (by simp<;>omega),rfl⟩
theorem sParts (n:Nd) (w:World) :
 Calls Tryz.prog 58 #[.agg #[.int .i64 n.op,.int .i64 n.w,.int .i64 n.k,.int .i64 n.a,.int .i64 n.b,.int .i64 n.c]] w fun e w'=>(∃ a c,e=.returned (.slice a (parts n).length c)/\WInts w' w.heap.size a (parts n))/\Below w.heap.size w w':=by
 by_cases h1:n.op=2\/n.op=17\/n.op=19\/n.op=20
 ·have HP:Hid (parts n=[n.a]):=parts_one h1
  rcases h1 with h|h|h|h
  all_goals
   go_enter Tryz.func58,Tryz.ntmps58
   go_wp2_with (go_at_call 75;refine (sIn _ _ _ _).mono ?_;rintro e w' ⟨rfl,rfl⟩)
   go_ret
   rw [HP.out]
   exact ⟨⟨_,_,rfl,wints_lit _ _ _ [n.a] _ (by simp) (by simp) (by simp [maxLen])⟩,((Below.refl _ _).alloc (Nat.le_refl _) _).alloc (by simp) _⟩
 by_cases h2:3<=n.op/\n.op<=16
 ·have HP:Hid (parts n=[n.a,n.b]):=parts_two h2
  have hd:decide (3<=n.op/\n.op<=16)=true:=by simpa using h2
  have t1:(n.op==2)=false:=by simp;omega
  have t2:(n.op==17)=false:=by simp;omega
  have t3:(n.op==19)=false:=by simp;omega
  have t4:(n.op==20)=false:=by simp;omega
  clear h1 h2
  all_goals
   go_enter Tryz.func58,Tryz.ntmps58
   go_wp2_with (go_at_call 75;refine (sIn _ _ _ _).mono ?_;rintro e w' ⟨rfl,rfl⟩)
   go_ret
   rw [HP.out]
   exact ⟨⟨_,_,rfl,wints_lit _ _ _ [n.a,n.b] _ (by simp) (by simp) (by simp [maxLen])⟩,((Below.refl _ _).alloc (Nat.le_refl _) _).alloc (by simp) _⟩
 have hd:decide (3<=n.op/\n.op<=16)=false:=by simpa using h2
 by_cases h3:n.op=18
 ·have HP:Hid (parts n=[n.a,n.b,n.c]):=parts_three h3
  all_goals
   go_enter Tryz.func58,Tryz.ntmps58
   go_wp2_with (go_at_call 75;refine (sIn _ _ _ _).mono ?_;rintro e w' ⟨rfl,rfl⟩)
   go_ret
   rw [HP.out]
   exact ⟨⟨_,_,rfl,wints_lit _ _ _ [n.a,n.b,n.c] _ (by simp) (by simp) (by simp [maxLen])⟩,((Below.refl _ _).alloc (Nat.le_refl _) _).alloc (by simp) _⟩
 ·have HP:Hid (parts n=[]):=parts_none h1 h2 h3
  have t1:(n.op==2)=false:=by simp;omega
  have t2:(n.op==17)=false:=by simp;omega
  have t3:(n.op==19)=false:=by simp;omega
  have t4:(n.op==20)=false:=by simp;omega
  have t5:(n.op==18)=false:=by simp;omega
  clear h1 h2 h3
  all_goals
   go_enter Tryz.func58,Tryz.ntmps58
   go_wp2_with (go_at_call 75;refine (sIn _ _ _ _).mono ?_;rintro e w' ⟨rfl,rfl⟩)
   go_ret
   rw [HP.out]
   exact ⟨⟨_,_,rfl,wints_lit _ _ _ [] _ (by simp) (by simp) (by simp [maxLen])⟩,((Below.refl _ _).alloc (Nat.le_refl _) _).alloc (by simp) _⟩
end Sp2
end Go.Proofs.YtebejleeadofcaaGreat
