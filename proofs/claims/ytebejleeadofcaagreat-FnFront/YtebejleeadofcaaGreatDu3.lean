import Derived.Deep.RegionHeld
import Derived.Test.YtebejleeadofcaaGreatDu2
import Derived.Test.YtebejleeadofcaaGreatPkFR0
namespace Go.Proofs.YtebejleeadofcaaGreat
set_option maxRecDepth 100000
set_option maxHeartbeats 8000000
set_option linter.unusedVariables false
namespace Du3
open Go.RowKit
open Nd0 Nd3 Ap2 Dw0 Dw1 Du2 Dq0
open Dr0 (Cur Only Bytes Off)
theorem deepC (d:Nat):DeepC d:=by
 induction d with
 | zero=>exact deepAny 0 (fun d h=>by omega)
 | succ d ih=>exact deepAny (d+1) (fun d' h=>by have:d'=d:=by omega
                                                subst this;exact ih)
def gd:Nat->Nat
 | 0=>40
 | d+1=>2*gd d+1
theorem gd_ge (d:Nat):d+40<=gd d:=by
 induction d with
 | zero=>simp [gd]
 | succ d ih=>simp [gd];omega
theorem fd3:fd 3=40:=rfl
def MPost (b:Nat) (a:Option Addr) (len cap:Nat) (v:Value) (L:List Nd) (D:Nat) (next bits:Int) (w:World) (e:Ending) (w':World):Prop :=
 ∃ (v':Value) (L':List Nd) (at_ n' left:Int),e=.returned (.tuple #[v',.int .i64 at_,.int .i64 n',.int .i64 left])/\Dr w' b a len cap v' L'/\Stp b v v' w w'/\L'.length<=L.length+D/\next<=n'/\n'<=8/\0<=left/\left<=bits/\sq L'+left<=sq L+bits
def MadeC (d:Nat):Prop:=∀ (w:World) (b:Nat) (a:Option Addr) (len cap:Nat) (v:Value) (L:List Nd) (va:Option Addr) (vl:List Nd) (vc:Nat) (next bits D:Int),D=(d:Int)->Dr w b a len cap v L->Vs w b v va vl->(∀ i (h:i < vl.length),1<=vl[i].w/\vl[i].w<=8)->(∀ i (h:i < vl.length),vl[i].op=1)->(vl.length:Int)<=next->next<=8->0<=bits->bits<=100->L.length+gd d<=1048576 ->
 Calls Tryz.prog 38 #[.pointer (some ⟨b,0,none⟩),v,.slice va vl.length vc,.int .i64 next,.int .i64 bits,.int .i64 D] w (MPost b a len cap v L (gd d) next bits w)
end Du3
end Go.Proofs.YtebejleeadofcaaGreat
