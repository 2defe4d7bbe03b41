import Derived.Laws.IdiomStrings
import Derived.Test.YtfhdbcfhhbdiiaaPkXW11
import Derived.Test.YtfhdbcfhhbdiiaaPkXW16
namespace Go.Proofs.Ytfhdbcfhhbdiiaa
set_option maxRecDepth 100000
set_option maxHeartbeats 8000000
set_option linter.unusedVariables false
namespace Td1
open Go.RowKit
open Ta0 Ta1 Tc2 Tc5 Ap9
open Nd0 (Kept set_other set_same lt_of_cell)
open Ss0 (bs bs_size ret_str)
open Ss1 (tl tl_length tl_get tl_take bs_tl tl_bs tl_inj eqb)
theorem sOk1 (n:Nat) (F:Nat->Bool) (w:World) (hn:n<=12) :
 Calls Try.prog 62 #[tv (n:Int) (bs (tab n F))] w fun e w'=>e=.returned (.bool true)/\Below w.heap.size w w':=by
 have:=sTableOk (n:Int) (bs (tab n F)) w (by rw [bs_size,tab_length];have:=p12 hn;omega)
 rwa [tl_bs,tab_tok F hn] at this
theorem sOk0 {N:Int} {S:ByteArray} (w:World) (hS:S.size<=1048576) (h:tokB N (tl S)=false) :
 Calls Try.prog 62 #[tv N S] w fun e w'=>e=.returned (.bool false)/\Below w.heap.size w w':=by
 have:=sTableOk N S w hS
 rwa [h] at this
/-- What a right table's string has: its size and its signs. -/
structure Sg (S:ByteArray) (P:Nat) (F:Nat->Bool):Prop where
 size:S.size=P
 at_:∀ k (h:k < S.size),(S[k].toNat:Int)=48+((F k).toNat:Int)
theorem sg_tab (n:Nat) (F:Nat->Bool):Sg (bs (tab n F)) (2 ^ n) F :=
 ⟨by rw [bs_size,tab_length],fun k h=>by rw [bs_tab_get,sgn_toNat];push_cast;rfl⟩
/-- What is known: 0, 1 or nothing. -/
def knw (n:Nat) (F:Nat->Bool):Int:=if cnt F (2 ^ n)=0 then 0 else if cnt F (2 ^ n)=2 ^ n then 1 else -1
theorem knw_same {n:Nat} {F:Nat->Bool} (h:∀ j,j < 2 ^ n->F j=F 0):knw n F=((F 0).toNat:Int):=by
 unfold knw
 have hp:=Nat.one_le_two_pow (n:=n)
 cases h0:F 0
 ·rw [if_pos ((cnt_zero F _).2 fun j hj=>by rw [h j hj,h0])];rfl
 ·have h1:=(cnt_all F (2 ^ n)).2 fun j hj=>by rw [h j hj,h0]
  rw [if_neg (by omega),if_pos h1];rfl
theorem knw_diff {n:Nat} {F:Nat->Bool} {k:Nat} (hk:k < 2 ^ n) (h:F k≠F 0):knw n F = -1:=by
 unfold knw
 have hp:=Nat.one_le_two_pow (n:=n)
 rw [if_neg,if_neg]
 ·intro e
  have:=(cnt_all F _).1 e
  exact h (by rw [this k hk,this 0 (by omega)])
 ·intro e
  have:=(cnt_zero F _).1 e
  exact h (by rw [this k hk,this 0 (by omega)])
theorem sKnown0 {N:Int} {S:ByteArray} (w:World) (hS:S.size<=1048576) (h:tokB N (tl S)=false) :
 Calls Try.prog 73 #[tv N S] w fun e w'=>e=.returned (.int .i64 (-1))/\Below w.heap.size w w':=by
 have HO:Hid (∀ W,Calls Try.prog 62 #[tv N S] W fun e w'=>e=.returned (.bool false)/\Below W.heap.size W w'):=fun W=>sOk0 W hS h
 have HA:Hid (Below w.heap.size w (w.alloc (.cells #[.int .i64 N,.string S] 26))):=(Below.refl _ _).alloc (Nat.le_refl _) _
 clear h
 go_enter Try.func73,Try.ntmps73
 go_wp2_with fail
 refine (HO.out _).mono ?_
 rintro e w1 ⟨rfl,hb⟩
 have HB:Hid (Below w.heap.size w w1):=HA.out.trans (hb.mono HA.out.size)
 clear hb
 go_wp2
 go_ret
 exact ⟨rfl,HB.out⟩
theorem sKnown (n:Nat) (F:Nat->Bool) (w:World) (hn:n<=12) :
 Calls Try.prog 73 #[tv (n:Int) (bs (tab n F))] w fun e w'=>e=.returned (.int .i64 (knw n F))/\Below w.heap.size w w':=by
 have HO:Hid (∀ W,Calls Try.prog 62 #[tv (n:Int) (bs (tab n F))] W fun e w'=>e=.returned (.bool true)/\Below W.heap.size W w'):=fun W=>sOk1 n F W hn
 obtain ⟨hp,hl⟩:=p12 hn
 have HG:Hid (Sg (bs (tab n F)) (2 ^ n) F):=sg_tab n F
 have HKS:Hid ((∀ j,j < 2 ^ n->F j=F 0)->knw n F=((F 0).toNat:Int)):=knw_same
 have HKD:Hid (∀ k,k < 2 ^ n->F k≠F 0->knw n F = -1):=fun k=>knw_diff
 generalize knw n F=KN at *
 generalize bs (tab n F)=S at *
 generalize 2 ^ n=P at *
 have hSP:S.size<=4096:=by rw [HG.out.size];exact hl
 have hS1:1<=S.size:=by rw [HG.out.size];exact hp
 have hS0:0 < (S.size:Int):=by omega
 have hSn:0 < S.size:=by omega
 have hSe:¬ S.size=0:=by omega
 have h8:=HG.out.at_ 0 (by omega)
 have HL0:Hid (Lay (w.alloc (.cells #[.int .i64 (n:Int),.string S] 26)) w.heap.size (.int .i64 (n:Int)) (.string S)):=Lay.made _ _ _ _
 have HA:Hid (Below w.heap.size w (w.alloc (.cells #[.int .i64 (n:Int),.string S] 26))):=(Below.refl _ _).alloc (Nat.le_refl _) _
 go_enter Try.func73,Try.ntmps73
 go_wp2_with fail
 refine (HO.out _).mono ?_
 rintro e w1 ⟨rfl,hb⟩
 have HB:Hid (Below w.heap.size w w1):=HA.out.trans (hb.mono HA.out.size)
 have HX:Hid (Lay w1 w.heap.size (.int .i64 (n:Int)) (.string S)):=HL0.out.below hb
 clear hb
 obtain ⟨x0,x1,_,_⟩:=HX.out
 go_wp2
 clear x0 x1
 go_loopw [3] (fun i wr=>∃ k:Nat,1<=k/\k<=S.size/\i=.int .i64 k/\(∀ j,j < k->F j=F 0)/\Lay wr w.heap.size (.int .i64 (n:Int)) (.string S)/\Below w.heap.size w wr) (fun i _=>S.size - (intOf i).toNat)
 case atStart=>exact ⟨1,Nat.le_refl _,hS1,rfl,fun j hj=>by rw [show j=0 by omega],HX.out,HB.out⟩
 case round =>
  obtain ⟨k,hk1,hk,rfl,hE,hx,hb⟩:=hrel
  have HE:Hid (∀ j,j < k->F j=F 0):=hE
  have HXr:Hid (Lay wr w.heap.size (.int .i64 (n:Int)) (.string S)):=hx
  have HBr:Hid (Below w.heap.size w wr):=hb
  clear hE hb
  obtain ⟨x0,x1,_,_⟩:=hx
  by_cases hlt:k < S.size
  ·have hkz:(k:Int) < (S.size:Int):=by omega
   have h9:=HG.out.at_ k hlt
   by_cases hF:F k=F 0
   ·have hne:(((S[k].toNat:Nat):Int) != ((S[0].toNat:Nat):Int))=false:=by rw [h9,h8,hF];simp
    have HF:Hid (F k=F 0):=hF
    clear hF h9 h8
    go_wp2_with fail
    go_quiet (fail)
    go_wp2
    go_roundw
    case rel=>exact ⟨k+1,by omega,by omega,by go_num,fun j hj=>by
     by_cases e:j=k
     ·rw [e];exact HF.out
     ·exact HE.out j (by omega),HXr.out.kept (S:=fun _=>False) ((Kept.refl _ _).drewN _) (fun h=>h),below_drewN HBr.out _⟩
    case measure=>simp [intOf];omega
   ·have hne:(((S[k].toNat:Nat):Int) != ((S[0].toNat:Nat):Int))=true:=by
     rw [h9,h8]
     cases h1:F k<;>cases h2:F 0<;>simp_all
    have HF:Hid (KN = -1):=HKD.out k (by rw [<- HG.out.size];exact hlt) hF
    clear hF h9 h8
    go_wp2_with fail
    go_quiet (fail)
    go_wp2
    go_ret
    exact ⟨ret_int HF.out.symm,below_drewN HBr.out _⟩
  ·have HF:Hid (KN=((F 0).toNat:Int)):=HKS.out fun j hj=>HE.out j (by have:=HG.out.size;omega)
   cases hF0:F 0
   all_goals
    rw [hF0] at h8 HF
    clear hF0
    simp only [Bool.toNat_false,Bool.toNat_true,Int.natCast_zero,Int.natCast_one] at h8
    go_wp2
    go_ret
    exact ⟨ret_int (by rw [HF.out];rfl),HBr.out⟩
end Td1
end Go.Proofs.Ytfhdbcfhhbdiiaa
