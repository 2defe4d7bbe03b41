import Derived.Deep.CutBlock
import Derived.Test.YtjajkmdoggbicaaGreatDoorPkSV25
import Derived.Test.YtjajkmdoggbicaaGreatDoorPkSV9
import Derived.Test.YtjajkmdoggbicaaGreatDoorPkSV23
import Derived.Test.YtjajkmdoggbicaaGreatDoorPkSV0
import Derived.Test.YtjajkmdoggbicaaGreatDoorPkSV24
import Derived.Test.YtjajkmdoggbicaaGreatDoorPkSV38
import Derived.Test.YtjajkmdoggbicaaGreatDoorPkSV5
namespace Go.Proofs.YtjajkmdoggbicaaGreatDoor
set_option maxRecDepth 100000
set_option maxHeartbeats 8000000
set_option linter.unusedVariables false
namespace Zk1
open Go.RowKit
open Nd0 (lt_of_cell)
open Ta1 (tab tokB tok_tab tab_length)
open Tc2 (tv iTableOk)
open Tc5 (Lay)
open Td2 (finT)
open Ss0 (bs bs_size)
open Ss1 (tl tl_bs bs_tl tl_length)
open Tk0 (keyL iKey)
open Zk0 Zt0
/-- What reading a key comes to. -/
def RkP (S:ByteArray) (e:Ending):Prop:=e=.returned (.tuple #[tv (if rkB (tl S)=true then rkN (tl S) else 0) (bs (if rkB (tl S)=true then cutS 58 (tl S) else [])),.bool (rkB (tl S))])
theorem RkP.yes {S:ByteArray} {N:Int} {T:ByteArray} (h:rkB (tl S)=true) (hN:N=rkN (tl S)) (hT:T=bs (cutS 58 (tl S))):RkP S (.returned (.tuple #[tv N T,.bool true])):=by
 unfold RkP
 rw [h,if_pos rfl,if_pos rfl,hN,hT]
theorem RkP.no {S:ByteArray} (h:rkB (tl S)=false):RkP S (.returned (.tuple #[tv 0 ⟨#[]⟩,.bool false])):=by
 unfold RkP
 rw [h]
 rfl
theorem iReadKey (S:ByteArray) (w:World) (hT:TabZ w) (hs:S.size<=1048576) :
 Calls Tryz.prog 13 #[.string S] w fun e w'=>RkP S e/\Below w.heap.size w w':=by
 have HTZ:Hid (TabZ w):=hT
 obtain ⟨X0,hX0⟩:∃ X,X=w.alloc (.cells #[.int .i64 0,.string ⟨#[]⟩] 26):=⟨_,rfl⟩
 have b0:Below w.heap.size w X0:=by rw [hX0];exact (Below.refl _ _).alloc (Nat.le_refl _) _
 have HB0:Hid (Below w.heap.size w X0):=b0
 have HR0:Hid (Lay X0 w.heap.size (.int .i64 0) (.string ⟨#[]⟩)):=by rw [hX0];exact Lay.made _ _ _ _
 have hE:w.alloc (.cells #[.int .i64 0,.string ⟨#[]⟩] 26)=X0:=hX0.symm
 have HCU:Hid _:=iCut 58 S X0 (hT.below b0) hs
 have hl1:(cutF 58 (tl S)).length<=1048576:=by have:=cutF_le 58 (tl S);rw [tl_length] at this;omega
 have hl2:(cutS 58 (tl S)).length<=1048576:=by have:=cutS_le 58 (tl S);rw [tl_length] at this;omega
 have HRN:Hid (∀ W,TabZ W->Calls Tryz.prog 45 #[.string (bs (cutF 58 (tl S)))] W fun e w'=>e=.returned (.tuple #[.int .i64 (rkN (tl S)),.bool (rnP (cutF 58 (tl S))).2])/\Below W.heap.size W w'):=fun W h=>by
  have:=iReadNumber (bs (cutF 58 (tl S))) W h (by rw [bs_size];exact hl1)
  rw [tl_bs] at this
  exact this
 have HTO:Hid (∀ W,Calls Tryz.prog 39 #[tv (rkN (tl S)) (bs (cutS 58 (tl S)))] W fun e w'=>e=.returned (.bool (tokB (rkN (tl S)) (cutS 58 (tl S))))/\Below W.heap.size W w'):=fun W=>by
  have:=iTableOk (rkN (tl S)) (bs (cutS 58 (tl S))) W (by rw [bs_size];exact hl2)
  rw [tl_bs] at this
  exact this
 obtain ⟨rb,hrb⟩:∃ b,b=(rnP (cutF 58 (tl S))).2:=⟨_,rfl⟩
 obtain ⟨tb,htb⟩:∃ b,b=tokB (rkN (tl S)) (cutS 58 (tl S)):=⟨_,rfl⟩
 have HK:Hid (rkB (tl S)=(rb&&(tb&&decide (keyL (rkN (tl S)).toNat (cutS 58 (tl S))=tl S)))):=by show _=_;rw [hrb,htb];rfl
 have HKY:Hid (tb=true->∀ W,TabZ W->Calls Tryz.prog 46 #[tv (rkN (tl S)) (bs (cutS 58 (tl S)))] W fun e w'=>e=.returned (.string (bs (keyL (rkN (tl S)).toNat (cutS 58 (tl S)))))/\Below W.heap.size W w'):=fun ht W h=>by
  rw [htb] at ht
  obtain ⟨n,F,hn,hN,hl⟩:=tok_tab ht
  rw [hN,hl,Int.toNat_natCast]
  exact iKey n F W hn h.pow
 rw [<- hrb] at HRN
 rw [<- htb] at HTO
 clear hX0 b0 hT hs hl1 hl2 hrb htb
 obtain ⟨N,hN⟩:∃ N,N=rkN (tl S):=⟨_,rfl⟩
 have HN:Hid (N=rkN (tl S)):=hN
 obtain ⟨X,hX⟩:∃ X,X=bs (cutF 58 (tl S)):=⟨_,rfl⟩
 obtain ⟨Y,hY⟩:∃ Y,Y=bs (cutS 58 (tl S)):=⟨_,rfl⟩
 have HY:Hid (Y=bs (cutS 58 (tl S))):=hY
 obtain ⟨KS,hKS⟩:∃ K,K=bs (keyL (rkN (tl S)).toNat (cutS 58 (tl S))):=⟨_,rfl⟩
 have HKS:Hid (KS=bs (keyL (rkN (tl S)).toNat (cutS 58 (tl S)))):=hKS
 rw [<- hX,<- hY] at HCU
 rw [<- hX,<- hN] at HRN
 rw [<- hY,<- hN] at HTO
 rw [<- hKS,<- hY,<- hN] at HKY
 clear hN hX hY hKS
 go_enter Tryz.func13,Tryz.ntmps13
 go_upto_region 1 with fail
 clear hE
 go_wp2_with fail
 refine Calls.mono HCU.out ?_
 rintro e w1 ⟨⟨cb,rfl⟩,hb⟩
 have HB1:Hid (Below w.heap.size w w1):=HB0.out.trans (hb.mono HB0.out.size)
 have HR1:Hid (Lay w1 w.heap.size (.int .i64 0) (.string ⟨#[]⟩)):=HR0.out.below hb
 clear hb HB0 HR0 HCU
 go_wp2_with fail
 refine (HRN.out _ (HTZ.out.below HB1.out)).mono ?_
 rintro e w2 ⟨rfl,hb⟩
 have HB2:Hid (Below w.heap.size w w2):=HB1.out.trans (hb.mono HB1.out.size)
 have HR2:Hid (Lay w2 w.heap.size (.int .i64 0) (.string ⟨#[]⟩)):=HR1.out.below hb
 clear hb HB1 HR1 HRN
 go_upto_region 4 with fail
 obtain ⟨W3,hW3⟩:∃ X,X=w2.alloc (.cells #[.int .i64 N,.string Y] 26):=⟨_,rfl⟩
 obtain ⟨q,hq⟩:∃ q,q=w2.heap.size:=⟨_,rfl⟩
 have hb:Below w2.heap.size w2 W3:=by rw [hW3];exact (Below.refl _ _).alloc (Nat.le_refl _) _
 have HT3:Hid (Lay W3 q (.int .i64 N) (.string Y)):=by rw [hW3,hq];exact Lay.made _ _ _ _
 have HB3:Hid (Below w.heap.size w W3):=HB2.out.trans (hb.mono HB2.out.size)
 have HR3:Hid (Lay W3 w.heap.size (.int .i64 0) (.string ⟨#[]⟩)):=HR2.out.below hb
 rw [<- hW3,<- hq]
 clear hb hW3 hq HB2 HR2
 cases rb
 ·have HF:Hid (rkB (tl S)=false):=by show _=_;rw [HK.out];rfl
  have HFN:Hid _:=finT HR3.out HB3.out (Nat.le_refl _) (.int .i64 0) (.string ⟨#[]⟩)
  obtain ⟨r0,r1,r2,r3⟩:=HR3.out
  go_wp2
  obtain ⟨W,hW,hz,hbz⟩:=HFN.out
  rw [<- hW]
  obtain ⟨z0,z1,_,_⟩:=hz
  exact bodyPost_ret (v:=.tuple #[tv 0 ⟨#[]⟩,.bool false]) (by simp [results,Tryz.results13,go_sem,z0,z1]) rfl ⟨RkP.no HF.out,hbz⟩
 cases tb
 ·have HF:Hid (rkB (tl S)=false):=by show _=_;rw [HK.out];rfl
  obtain ⟨t0,t1,_,_⟩:=HT3.out
  go_wp2_with fail
  clear t0 t1
  refine (HTO.out _).mono ?_
  rintro e w4 ⟨rfl,hb⟩
  have HB4:Hid (Below w.heap.size w w4):=HB3.out.trans (hb.mono HB3.out.size)
  have HR4:Hid (Lay w4 w.heap.size (.int .i64 0) (.string ⟨#[]⟩)):=HR3.out.below hb
  clear hb
  have HFN:Hid _:=finT HR4.out HB4.out (Nat.le_refl _) (.int .i64 0) (.string ⟨#[]⟩)
  obtain ⟨r0,r1,r2,r3⟩:=HR4.out
  go_wp2
  obtain ⟨W,hW,hz,hbz⟩:=HFN.out
  rw [<- hW]
  obtain ⟨z0,z1,_,_⟩:=hz
  exact bodyPost_ret (v:=.tuple #[tv 0 ⟨#[]⟩,.bool false]) (by simp [results,Tryz.results13,go_sem,z0,z1]) rfl ⟨RkP.no HF.out,hbz⟩
 have HKY2:Hid _:=HKY.out rfl
 clear HKY
 obtain ⟨t0,t1,_,_⟩:=HT3.out
 go_wp2_with fail
 clear t0 t1
 refine (HTO.out _).mono ?_
 rintro e w4 ⟨rfl,hb⟩
 have HB4:Hid (Below w.heap.size w w4):=HB3.out.trans (hb.mono HB3.out.size)
 have HR4:Hid (Lay w4 w.heap.size (.int .i64 0) (.string ⟨#[]⟩)):=HR3.out.below hb
 have HT4:Hid (Lay w4 q (.int .i64 N) (.string Y)):=HT3.out.below hb
 clear hb HB3 HR3 HT3
 obtain ⟨t0,t1,_,_⟩:=HT4.out
 go_wp2_with fail
 clear t0 t1
 refine (HKY2.out _ (HTZ.out.below HB4.out)).mono ?_
 rintro e w5 ⟨rfl,hb⟩
 have HB5:Hid (Below w.heap.size w w5):=HB4.out.trans (hb.mono HB4.out.size)
 have HR5:Hid (Lay w5 w.heap.size (.int .i64 0) (.string ⟨#[]⟩)):=HR4.out.below hb
 have HT5:Hid (Lay w5 q (.int .i64 N) (.string Y)):=HT4.out.below hb
 clear hb HB4 HR4 HT4
 by_cases hk:keyL (rkN (tl S)).toNat (cutS 58 (tl S))=tl S
 ·have HF:Hid (rkB (tl S)=true):=by show _=_;rw [HK.out,decide_eq_true hk];rfl
  have hne:(KS.toList==S.toList)=true:=Ss1.eqb_true (by rw [HKS.out,tl_bs,hk])
  have HFN:Hid _:=finT HR5.out HB5.out (Nat.le_refl _) (.int .i64 N) (.string Y)
  clear hk
  obtain ⟨t0,t1,_,_⟩:=HT5.out
  obtain ⟨r0,r1,r2,r3⟩:=HR5.out
  have hq1:=HT5.out.lt
  go_wp2
  obtain ⟨W,hW,hz,hbz⟩:=HFN.out
  rw [<- hW]
  obtain ⟨z0,z1,_,_⟩:=hz
  exact bodyPost_ret (v:=.tuple #[tv N Y,.bool true]) (by simp [results,Tryz.results13,go_sem,z0,z1]) rfl ⟨RkP.yes HF.out HN.out HY.out,hbz⟩
 ·have HF:Hid (rkB (tl S)=false):=by show _=_;rw [HK.out,decide_eq_false hk];rfl
  have hne:(KS.toList==S.toList)=false:=Ss1.eqb_false (by rw [HKS.out,tl_bs];exact hk)
  have HFN:Hid _:=finT HR5.out HB5.out (Nat.le_refl _) (.int .i64 0) (.string ⟨#[]⟩)
  clear hk
  obtain ⟨r0,r1,r2,r3⟩:=HR5.out
  go_wp2
  obtain ⟨W,hW,hz,hbz⟩:=HFN.out
  rw [<- hW]
  obtain ⟨z0,z1,_,_⟩:=hz
  exact bodyPost_ret (v:=.tuple #[tv 0 ⟨#[]⟩,.bool false]) (by simp [results,Tryz.results13,go_sem,z0,z1]) rfl ⟨RkP.no HF.out,hbz⟩
end Zk1
namespace Wp4
open Go.RowKit
open Ta2 (bitB)
open Vo0 (allB valB iVals)
open Nd0 (Kept Ints WInts lt_of_cell)
open Ap0
open Ss0 (bs bs_size)
open Ss1 (tl tl_length)
open Wp0 Wp1 Wp3
theorem iReadVals (S:ByteArray) (w:World) (hS:S.size<=1048576) :
 Calls Tryz.prog 137 #[.string S] w fun e w'=>∃ v,e=.returned (.tuple #[v,.bool (rvB (tl S))])/\Ows w' w.heap.size v (rvL (tl S))/\Below w.heap.size w w':=by
 have hlen:=tl_length S
 by_cases h45:tl S=[45]
 ·have hq:(S.toList==[45])=true:=Ss1.eql_true h45
  have HRL:Hid (rvL (tl S)=[]):=by show _=_;unfold rvL;exact if_pos h45
  have HRB:Hid (rvB (tl S)=true):=by show _=_;unfold rvB;exact if_pos h45
  clear h45 hlen
  go_enter Tryz.func137,Tryz.ntmps137
  go_wp2
  go_ret2
  exact ⟨_,by rw [HRB.out];rfl,by rw [HRL.out];exact Ows.lit _ _ (Nat.le_refl _),(Below.refl _ _).alloc (Nat.le_refl _) _⟩
 have hq:(S.toList==[45])=false:=Ss1.eql_false h45
 have HRL:Hid (rvL (tl S)=(tl S).map un):=by show _=_;unfold rvL;exact if_neg h45
 have HRB:Hid (rvB (tl S)=(decide (tl S≠[])&&valB ((tl S).map un) 12)):=by show _=_;unfold rvB;exact if_neg h45
 clear h45
 obtain ⟨TK,hTK⟩:∃ TK:Nat->List Int,TK=fun k=>((tl S).take k).map un:=⟨_,rfl⟩
 have HTK:Hid (TK=fun k=>((tl S).take k).map un):=hTK
 have HTL:Hid (∀ k,k<=S.size->(TK k).length=k):=by intro k hk;rw [hTK];simp;omega
 have HT0:Hid (TK 0=[]):=by show _=_;rw [hTK];rfl
 have HLEN:Hid ((tl S).length=S.size):=hlen
 clear hTK hlen
 go_enter Tryz.func137,Tryz.ntmps137
 go_wp2
 go_loopw [4,12] (fun v i wr=>∃ k:Nat,k<=S.size/\i=.int .i64 k/\Ows wr w.heap.size v (TK k)/\Below w.heap.size w wr) (fun _ i _=>S.size - (intOf i).toNat)
 case atStart=>exact ⟨0,Nat.zero_le _,rfl,by rw [HT0.out];exact Ows.lit _ _ (Nat.le_refl _),(Below.refl _ _).alloc (Nat.le_refl _) _⟩
 case round =>
  obtain ⟨k,hk,rfl,ho,hbr⟩:=hrel
  have HO:Hid (Ows wr w.heap.size u4 (TK k)):=ho
  have HB:Hid (Below w.heap.size w wr):=hbr
  clear ho hbr
  by_cases hlt:k < S.size
  ·have hlz:(k:Int) < (S.size:Int):=by omega
   have hb1:(S[k].toNat:Int) < 256:=by have:=S[k].toNat_lt;omega
   have hw1:wrap64 (S[k].toNat:Int)=(S[k].toNat:Int):=by unfold wrap64;omega
   have hw2:wrap64 ((S[k].toNat:Int) - 48)=(S[k].toNat:Int) - 48:=by unfold wrap64;omega
   have HNX:Hid (TK (k+1)=TK k++[(S[k].toNat:Int) - 48]):=by
    show _=_
    rw [HTK.out]
    show ((tl S).take (k+1)).map un=((tl S).take k).map un++[_]
    rw [List.take_succ_eq_append_getElem (by rw [tl_length];exact hlt),List.map_append]
    rfl
   go_wp2_with (at_builtin;go_must (refine app_int _ rfl _ _ rfl w.heap.size u4 (TK k) ((S[k].toNat:Int) - 48) rfl rfl HO.out HB.out.size (by rw [HTL.out k hk];omega) ?_;intro g5 cp5 w5 ho5 hk5 hg5;have HO5:Hid (Ows w5 w.heap.size (.slice (some ⟨g5,0,none⟩) ((TK k).length+1) cp5) (TK k++[(S[k].toNat:Int) - 48])):=ho5;have HK5:Hid (Kept (fun i=>u4.ownBlock=some i) wr w5):=hk5;clear ho5 hk5 hg5))
   go_roundw
   case rel=>exact ⟨k+1,by omega,by go_num,by rw [HNX.out];exact HO5.out,HB.out.trans (HK5.out.below (fun i hi=>(HO.out.lt i hi).1) HB.out.size)⟩
   case measure=>simp [intOf];omega
  ·have hlz:¬ (k:Int) < (S.size:Int):=by omega
   have HTE:Hid (TK k=rvL (tl S)):=by
    show _=_
    rw [HRL.out,HTK.out]
    show ((tl S).take k).map un=_
    rw [List.take_of_length_le (by have:=HLEN.out;omega)]
   have ho:=HO.out
   rw [HTE.out] at ho
   have HO2:Hid (Ows wr w.heap.size u4 (rvL (tl S))):=ho
   obtain ⟨a2,c2,e2,f2⟩:=ho.form
   subst e2
   have HI:Hid (Ints wr a2 (rvL (tl S))):=f2.ints
   clear f2 ho HO
   by_cases h0:tl S=[]
   ·have hz:(S.toList==[])=true:=Ss1.eql_true h0
    have HF:Hid (rvB (tl S)=false):=by show _=_;rw [HRB.out,h0];rfl
    clear h0
    go_wp2
    go_ret2
    exact ⟨_,by rw [HF.out];rfl,HO2.out,HB.out⟩
   ·have hz:(S.toList==[])=false:=Ss1.eql_false h0
    have HF:Hid (valB (rvL (tl S)) 12=rvB (tl S)):=by
     show _=_
     rw [HRB.out,HRL.out,decide_eq_true h0]
     rfl
    have HVO:Hid (∀ W,Ints W a2 (rvL (tl S))->Calls Tryz.prog 41 #[.slice a2 (rvL (tl S)).length c2,.int .i64 12] W fun e w'=>e=.returned (.bool (rvB (tl S)))/\w'=W):=fun W hi=>by
     have:=iVals a2 _ c2 12 W hi
     rwa [HF.out] at this
    clear h0
    obtain ⟨rb,hrb⟩:∃ rb,rb=rvB (tl S):=⟨_,rfl⟩
    rw [<- hrb] at HVO
    have HQ:Hid (rb=rvB (tl S)):=hrb
    obtain ⟨rl,hrl⟩:∃ rl,rl=rvL (tl S):=⟨_,rfl⟩
    rw [<- hrl] at HVO HI HO2
    have HQL:Hid (rl=rvL (tl S)):=hrl
    rw [<- hrl]
    clear hrb hrl HF
    go_wp2_with (go_at_call 41;refine (HVO.out _ HI.out).mono ?_;rintro e w' ⟨rfl,hw'⟩;have hw'':=hw'.symm;clear hw';subst hw'')
    go_ret2
    have ho:=HO2.out
    rw [HQL.out] at ho
    exact ⟨_,by rw [<- HQ.out];rfl,by rw [<- HQL.out] at ho ⊢;exact ho,HB.out⟩
end Wp4
namespace Zl1
open Go.RowKit
open Nd0 (Kept Ints WInts IntsIn At lt_of_cell)
open Nd6 (Bools BoolsIn)
open Mm0 (Mc Mb Mr Mok mval)
open Mx0 (Mf Mz)
open Mw9 (OwSo)
open Tc2 (tv)
open Ss0 (bs bs_size)
open Ss1 (tl tl_bs bs_tl tl_length)
open Za1 (rrB rrL iReadRow)
open Zk0 (rnP rkB rkN cutF cutS cutF_le cutS_le)
open Zk1 (RkP iReadKey)
open Zt0 (TabZ iReadNumber iCut)
open Wp3 (rvB rvL)
open Wp4 (iReadVals)
open Zl0
/-- A machine at reading: its block q, its lists behind it, apart. -/
structure Ld (W:World) (q:Nat) (m:Mc) (ra va ma:Option Addr) (rc vc mc u1 u2:Nat):Prop where
 mf:Mf W q [.slice ra m.row.length rc,.int .i64 m.N,.string m.S,.int .i64 m.room,.slice va m.vals.length vc,.int .i64 m.ret,.bool m.over,.int .i64 m.steps,.int .i64 m.looks,.int .i64 m.hits,.slice ma m.memo.length mc]
 h1:q+1<=u1
 h2:u1<=u2
 h3:u2<=W.heap.size
 row:BoolsIn W (q+1) u1 ra m.row
 vals:IntsIn W u1 u2 va m.vals
 memo:OwSo W u2 (.slice ma m.memo.length mc) m.memo
 nm:m.memo=[]->Value.slice ma m.memo.length mc=.slice none 0 0
theorem Ld.lt {W:World} {q:Nat} {m:Mc} {ra va ma:Option Addr} {rc vc mc u1 u2:Nat} (h:Ld W q m ra va ma rc vc mc u1 u2):q < W.heap.size:=h.mf.lt (by simp)
theorem Ld.kept {W W':World} {q:Nat} {m:Mc} {ra va ma:Option Addr} {rc vc mc u1 u2:Nat} (h:Ld W q m ra va ma rc vc mc u1 u2) {S:Nat->Prop} (k:Kept S W W') (hq:∀ b,q<=b->b < W.heap.size->¬ S b):Ld W' q m ra va ma rc vc mc u1 u2 :=
 ⟨h.mf.kept k (hq q (Nat.le_refl _) h.lt),h.h1,h.h2,Nat.le_trans h.h3 k.size,h.row.kept k (fun b h1 h2=>hq b (by omega) (by have:=h.h2;have:=h.h3;omega)),h.vals.kept k (fun b h1 h2=>hq b (by have:=h.h1;omega) (by have:=h.h3;omega)),h.memo.kept k (fun g o n c e=>hq g (by have:=(h.memo.lt g o n c e).1;have:=h.h1;have:=h.h2;omega) (h.memo.lt g o n c e).2),h.nm⟩
theorem Ld.below {W W':World} {q:Nat} {m:Mc} {ra va ma:Option Addr} {rc vc mc u1 u2:Nat} (h:Ld W q m ra va ma rc vc mc u1 u2) (k:Below W.heap.size W W'):Ld W' q m ra va ma rc vc mc u1 u2:=h.kept (S:=fun _=>False) (Kept.ofBelow k) (fun _ _ _ h=>h)
theorem Ld.mr {W:World} {q:Nat} {m:Mc} {ra va ma:Option Addr} {rc vc mc u1 u2:Nat} (h:Ld W q m ra va ma rc vc mc u1 u2):Mr W m ra va ma:=by
 obtain ⟨a,c,e,hw,_⟩:=h.memo.form
 cases e
 exact ⟨h.row.plain,h.vals.ints,hw.plain⟩
/-- What reading a line comes to. -/
def RdO (W:World) (q:Nat) (ma:Option Addr) (o:Option Mc) (e:Ending) (w':World):Prop :=
 e=.returned (.bool o.isSome)/\(∀ m',o=some m'->∃ ra va ma rc vc mc u1 u2,Ld w' q m' ra va ma rc vc mc u1 u2)/\Kept (fun b=>b=q\/At ma b) W w'
theorem nil_bools {W:World} {B U:Nat} (a:Option Addr) {l:List Bool} (h:l=[]):BoolsIn W B U a l:=by subst h;exact ⟨Nat.zero_le _,.inl rfl⟩
theorem nil_ints {W:World} {B U:Nat} (a:Option Addr) {l:List Int} (h:l=[]):IntsIn W B U a l:=by subst h;exact ⟨Nat.zero_le _,.inl rfl⟩
theorem kq (W W1:World) (q:Nat) (ma:Option Addr) (hb:Below W.heap.size W W1) (j:Nat) (v:Value):Kept (fun b=>b=q\/At ma b) W (W1.setCell ⟨q,j,none⟩ v):=(Kept.ofBelow hb).trans ((Kept.refl (fun b=>b=q\/At ma b) W1).setCell (p:=⟨q,j,none⟩) (.inl rfl) v)
theorem low_bools {W:World} {B B' U:Nat} {a:Option Addr} {l:List Bool} (h:BoolsIn W B U a l) (hB:B'<=B):BoolsIn W B' U a l:=by
 refine ⟨h.1,?_⟩
 rcases h.2 with e|⟨b,o,ha,h1,h2,hc⟩
 ·exact .inl e
 ·exact .inr ⟨b,o,ha,by omega,h2,hc⟩
theorem low_ints {W:World} {B B' U:Nat} {a:Option Addr} {l:List Int} (h:IntsIn W B U a l) (hB:B'<=B):IntsIn W B' U a l:=by
 refine ⟨h.1,?_⟩
 rcases h.2 with e|⟨b,o,ha,h1,h2,hc⟩
 ·exact .inl e
 ·exact .inr ⟨b,o,ha,by omega,h2,hc⟩
theorem nil_memo {W:World} {B:Nat} {ma:Option Addr} {m:Mc} {mc:Nat} (h:Value.slice ma m.memo.length mc=.slice none 0 0) (h2:m.memo=[]):OwSo W B (.slice ma m.memo.length mc) m.memo:=.inl ⟨h,h2⟩
theorem r1 (W:World) (q:Nat) (m:Mc) (ra va ma:Option Addr) (rc vc mc u1 u2:Nat) (h:Ld W q m ra va ma rc vc mc u1 u2) (b:List UInt8) (hb:b.length<=400000) (hT:TabZ W) :
 Calls Tryz.prog 130 #[.pointer (some ⟨q,0,none⟩),.string (bs b)] W (RdO W q ma (rd m b 1)):=by
 have HL:Hid (Ld W q m ra va ma rc vc mc u1 u2):=h
 have hk:=iReadKey (bs b) W hT (by rw [bs_size];omega)
 unfold RkP at hk
 rw [tl_bs] at hk
 obtain ⟨x,hx⟩:∃ x,x=if rkB b=true then rkN b else 0:=⟨_,rfl⟩
 obtain ⟨t,ht⟩:∃ t,t=bs (if rkB b=true then cutS 58 b else []):=⟨_,rfl⟩
 obtain ⟨y,hy⟩:∃ y,y=rkB b:=⟨_,rfl⟩
 have HR:Hid (rd m b 1=if y=true then some { m with N:=x,S:=t } else none):=by
  show _=_
  rw [hx,ht,hy]
  show (if rkB b=true then _ else none)=_
  split
  ·rfl
  ·rfl
 rw [<- hx,<- ht,<- hy] at hk
 have HN:Hid _:=hk
 clear h hT hb hx hy ht hk
 go_enter Tryz.func130,Tryz.ntmps130
 go_wp2_with fail
 refine Calls.mono HN.out ?_
 rintro e w1 ⟨rfl,hb1⟩
 have HB:Hid (Below W.heap.size W w1):=hb1
 have HL1:Hid (Ld w1 q m ra va ma rc vc mc u1 u2):=HL.out.below hb1
 clear hb1
 obtain ⟨c0,c1,c2,c3,c4,c5,c6,c7,c8,c9,c10,z0,z1,z2,z3,z4,z5,z6,z7,z8,z9,z10⟩:=HL1.out.mf.all
 have hq:=HL1.out.lt
 go_wp2
 go_ret
 have K:Kept (fun b=>b=q) w1 ((w1.setCell ⟨q,1,none⟩ (.int .i64 x)).setCell ⟨q,2,none⟩ (.string t)):=((Kept.refl (fun b=>b=q) w1).setCell (p:=⟨q,1,none⟩) rfl _).setCell (p:=⟨q,2,none⟩) rfl _
 refine ⟨?_,fun m' hm'=>?_,(Kept.ofBelow HB.out).trans (K.mono (fun b hb=>.inl hb))⟩
 ·rw [HR.out];cases y<;>rfl
 ·rw [HR.out] at hm'
  cases y
  ·cases hm'
  ·cases hm'
   have L:=HL1.out
   exact ⟨ra,va,ma,rc,vc,mc,u1,u2,(L.mf.set 1 (.int .i64 x)).set 2 (.string t),L.h1,L.h2,Nat.le_trans L.h3 K.size,L.row.kept K (fun b h1 h2=>by omega),L.vals.kept K (fun b h1 h2=>by have:=L.h1;omega),L.memo.kept K (fun g o n c e=>by have:=(L.memo.lt g o n c e).1;have:=L.h1;have:=L.h2;omega),L.nm⟩
theorem r5 (W:World) (q:Nat) (m:Mc) (ra va ma:Option Addr) (rc vc mc u1 u2:Nat) (h:Ld W q m ra va ma rc vc mc u1 u2) (b:List UInt8) (hb:b.length<=400000) (hT:TabZ W) :
 Calls Tryz.prog 141 #[.pointer (some ⟨q,0,none⟩),.string (bs b)] W (RdO W q ma (rd m b 5)):=by
 have HL:Hid (Ld W q m ra va ma rc vc mc u1 u2):=h
 have HN:Hid _:=iReadNumber (bs b) W hT (by rw [bs_size];omega)
 rw [tl_bs] at HN
 obtain ⟨x,hx⟩:∃ x,x=(rnP b).1:=⟨_,rfl⟩
 obtain ⟨y,hy⟩:∃ y,y=(rnP b).2:=⟨_,rfl⟩
 rw [<- hx,<- hy] at HN
 obtain ⟨v,hv⟩:∃ v,v=decide (x=1):=⟨_,rfl⟩
 have HR:Hid (rd m b 5=if y=true then some { m with over:=v } else none):=by show _=_;rw [hv,hx,hy];rfl
 have hxv:(x==1)=v:=by rw [hv];by_cases e:x=1<;>simp [e]
 have hxw:decide (x=1)=v:=hv.symm
 clear h hT hb hx hy hv
 go_enter Tryz.func141,Tryz.ntmps141
 go_wp2_with fail
 refine Calls.mono HN.out ?_
 rintro e w1 ⟨rfl,hb1⟩
 have HB:Hid (Below W.heap.size W w1):=hb1
 have HL1:Hid (Ld w1 q m ra va ma rc vc mc u1 u2):=HL.out.below hb1
 clear hb1
 obtain ⟨c0,c1,c2,c3,c4,c5,c6,c7,c8,c9,c10,z0,z1,z2,z3,z4,z5,z6,z7,z8,z9,z10⟩:=HL1.out.mf.all
 have hq:=HL1.out.lt
 go_wp2
 go_ret
 refine ⟨?_,fun m' hm'=>?_,kq W w1 q ma HB.out 6 _⟩
 ·rw [HR.out];cases y<;>rfl
 ·rw [HR.out] at hm'
  cases y
  ·cases hm'
  ·cases hm'
   have K:Kept (fun b=>b=q) w1 (w1.setCell ⟨q,6,none⟩ (.bool v)):=(Kept.refl (fun b=>b=q) w1).setCell (p:=⟨q,6,none⟩) rfl _
   have L:=HL1.out
   exact ⟨ra,va,ma,rc,vc,mc,u1,u2,L.mf.set 6 (.bool v),L.h1,L.h2,Nat.le_trans L.h3 K.size,L.row.kept K (fun b h1 h2=>by omega),L.vals.kept K (fun b h1 h2=>by have:=L.h1;omega),L.memo.kept K (fun g o n c e=>by have:=(L.memo.lt g o n c e).1;have:=L.h1;have:=L.h2;omega),L.nm⟩
theorem r0 (W:World) (q:Nat) (m:Mc) (ra va ma:Option Addr) (rc vc mc u1 u2:Nat) (h:Ld W q m ra va ma rc vc mc u1 u2) (b:List UInt8) (hb:b.length<=400000) (hT:TabZ W) (hv:m.vals=[]) (hm:m.memo=[]) (hs:Value.slice ma m.memo.length mc=.slice none 0 0) :
 Calls Tryz.prog 128 #[.pointer (some ⟨q,0,none⟩),.string (bs b)] W (RdO W q ma (rd m b 0)):=by
 have HL:Hid (Ld W q m ra va ma rc vc mc u1 u2):=h
 have hn:=iReadRow (bs b) W (by rw [bs_size];omega)
 rw [tl_bs] at hn
 have HN:Hid _:=hn
 obtain ⟨l,hl⟩:∃ l,l=rrL b:=⟨_,rfl⟩
 obtain ⟨y,hy⟩:∃ y,y=rrB b:=⟨_,rfl⟩
 rw [<- hl,<- hy] at HN
 have HR:Hid (rd m b 0=if y=true then some { m with row:=l } else none):=by show _=_;rw [hl,hy];rfl
 have HE:Hid (m.vals=[]/\m.memo=[]/\Value.slice ma m.memo.length mc=.slice none 0 0):=⟨hv,hm,hs⟩
 clear h hT hb hl hy hn hv hm hs
 go_enter Tryz.func128,Tryz.ntmps128
 go_wp2_with fail
 refine Calls.mono HN.out ?_
 rintro e w1 ⟨v,rfl,hov,hb1⟩
 obtain ⟨a',c',rfl,hwb⟩:=hov.form
 have HB:Hid (Below W.heap.size W w1):=hb1
 have HL1:Hid (Ld w1 q m ra va ma rc vc mc u1 u2):=HL.out.below hb1
 have HW:Hid (BoolsIn w1 (q+1) w1.heap.size a' l):=low_bools (Nd6.WBools.within hwb) HL.out.lt
 clear hb1 hov hwb
 obtain ⟨c0,c1,c2,c3,c4,c5,c6,c7,c8,c9,c10,z0,z1,z2,z3,z4,z5,z6,z7,z8,z9,z10⟩:=HL1.out.mf.all
 have hq:=HL1.out.lt
 go_wp2
 go_ret
 refine ⟨?_,fun m' hm'=>?_,kq W w1 q ma HB.out 0 _⟩
 ·rw [HR.out];cases y<;>rfl
 ·rw [HR.out] at hm'
  cases y
  ·cases hm'
  ·cases hm'
   have K:Kept (fun b=>b=q) w1 (w1.setCell ⟨q,0,none⟩ (.slice a' l.length c')):=(Kept.refl (fun b=>b=q) w1).setCell (p:=⟨q,0,none⟩) rfl _
   have L:=HL1.out
   have hqW:=HL.out.lt
   have hs:=HB.out.size
   exact ⟨a',va,ma,c',vc,mc,w1.heap.size,w1.heap.size,L.mf.set 0 (.slice a' l.length c'),by omega,Nat.le_refl _,K.size,HW.out.kept K (fun b h1 h2=>by omega),nil_ints va HE.out.1,nil_memo (m:={ m with row:=l }) HE.out.2.2 HE.out.2.1,fun _=>HE.out.2.2⟩
theorem r3 (W:World) (q:Nat) (m:Mc) (ra va ma:Option Addr) (rc vc mc u1 u2:Nat) (h:Ld W q m ra va ma rc vc mc u1 u2) (b:List UInt8) (hb:b.length<=400000) (hT:TabZ W) (hm:m.memo=[]) (hs:Value.slice ma m.memo.length mc=.slice none 0 0) :
 Calls Tryz.prog 136 #[.pointer (some ⟨q,0,none⟩),.string (bs b)] W (RdO W q ma (rd m b 3)):=by
 have HL:Hid (Ld W q m ra va ma rc vc mc u1 u2):=h
 have hn:=iReadVals (bs b) W (by rw [bs_size];omega)
 rw [tl_bs] at hn
 have HN:Hid _:=hn
 obtain ⟨l,hl⟩:∃ l,l=rvL b:=⟨_,rfl⟩
 obtain ⟨y,hy⟩:∃ y,y=rvB b:=⟨_,rfl⟩
 rw [<- hl,<- hy] at HN
 have HR:Hid (rd m b 3=if y=true then some { m with vals:=l } else none):=by show _=_;rw [hl,hy];rfl
 have HE:Hid (m.memo=[]/\Value.slice ma m.memo.length mc=.slice none 0 0):=⟨hm,hs⟩
 clear h hT hb hl hy hn hm hs
 go_enter Tryz.func136,Tryz.ntmps136
 go_wp2_with fail
 refine Calls.mono HN.out ?_
 rintro e w1 ⟨v,rfl,hov,hb1⟩
 obtain ⟨a',c',rfl,hwb⟩:=hov.form
 have HB:Hid (Below W.heap.size W w1):=hb1
 have HL1:Hid (Ld w1 q m ra va ma rc vc mc u1 u2):=HL.out.below hb1
 have HW:Hid (IntsIn w1 u1 w1.heap.size a' l):=low_ints (Nd0.WInts.within hwb) (by have:=HL.out.h2;have:=HL.out.h3;omega)
 clear hb1 hov hwb
 obtain ⟨c0,c1,c2,c3,c4,c5,c6,c7,c8,c9,c10,z0,z1,z2,z3,z4,z5,z6,z7,z8,z9,z10⟩:=HL1.out.mf.all
 have hq:=HL1.out.lt
 go_wp2
 go_ret
 refine ⟨?_,fun m' hm'=>?_,kq W w1 q ma HB.out 4 _⟩
 ·rw [HR.out];cases y<;>rfl
 ·rw [HR.out] at hm'
  cases y
  ·cases hm'
  ·cases hm'
   have K:Kept (fun b=>b=q) w1 (w1.setCell ⟨q,4,none⟩ (.slice a' l.length c')):=(Kept.refl (fun b=>b=q) w1).setCell (p:=⟨q,4,none⟩) rfl _
   have L:=HL1.out
   have hqW:=HL.out.lt
   have hs:=HB.out.size
   exact ⟨ra,a',ma,rc,c',mc,u1,w1.heap.size,L.mf.set 4 (.slice a' l.length c'),L.h1,by have:=L.h2;have:=L.h3;omega,K.size,L.row.kept K (fun b h1 h2=>by omega),HW.out.kept K (fun b h1 h2=>by have:=L.h1;omega),nil_memo (m:={ m with vals:=l }) HE.out.2 HE.out.1,fun _=>HE.out.2⟩
theorem r2 (W:World) (q:Nat) (m:Mc) (ra va ma:Option Addr) (rc vc mc u1 u2:Nat) (h:Ld W q m ra va ma rc vc mc u1 u2) (b:List UInt8) (hb:b.length<=400000) (hT:TabZ W) :
 Calls Tryz.prog 133 #[.pointer (some ⟨q,0,none⟩),.string (bs b)] W (RdO W q ma (rd m b 2)):=by
 have HL:Hid (Ld W q m ra va ma rc vc mc u1 u2):=h
 have HN:Hid _:=iReadNumber (bs b) W hT (by rw [bs_size];omega)
 rw [tl_bs] at HN
 obtain ⟨x,hx⟩:∃ x,x=(rnP b).1:=⟨_,rfl⟩
 obtain ⟨y,hy⟩:∃ y,y=(rnP b).2:=⟨_,rfl⟩
 rw [<- hx,<- hy] at HN
 have HR:Hid (rd m b 2=if y=true then some { m with room:=x } else none):=by show _=_;rw [hx,hy];rfl
 clear h hT hb hx hy
 go_enter Tryz.func133,Tryz.ntmps133
 go_wp2_with fail
 refine Calls.mono HN.out ?_
 rintro e w1 ⟨rfl,hb1⟩
 have HB:Hid (Below W.heap.size W w1):=hb1
 have HL1:Hid (Ld w1 q m ra va ma rc vc mc u1 u2):=HL.out.below hb1
 clear hb1
 obtain ⟨c0,c1,c2,c3,c4,c5,c6,c7,c8,c9,c10,z0,z1,z2,z3,z4,z5,z6,z7,z8,z9,z10⟩:=HL1.out.mf.all
 have hq:=HL1.out.lt
 go_wp2
 go_ret
 refine ⟨?_,fun m' hm'=>?_,kq W w1 q ma HB.out 3 _⟩
 ·rw [HR.out];cases y<;>rfl
 ·rw [HR.out] at hm'
  cases y
  ·cases hm'
  ·cases hm'
   have K:Kept (fun b=>b=q) w1 (w1.setCell ⟨q,3,none⟩ (.int .i64 x)):=(Kept.refl (fun b=>b=q) w1).setCell (p:=⟨q,3,none⟩) rfl _
   have L:=HL1.out
   exact ⟨ra,va,ma,rc,vc,mc,u1,u2,L.mf.set 3 (.int .i64 x),L.h1,L.h2,Nat.le_trans L.h3 K.size,L.row.kept K (fun b h1 h2=>by omega),L.vals.kept K (fun b h1 h2=>by have:=L.h1;omega),L.memo.kept K (fun g o n c e=>by have:=(L.memo.lt g o n c e).1;have:=L.h1;have:=L.h2;omega),L.nm⟩
theorem r4 (W:World) (q:Nat) (m:Mc) (ra va ma:Option Addr) (rc vc mc u1 u2:Nat) (h:Ld W q m ra va ma rc vc mc u1 u2) (b:List UInt8) (hb:b.length<=400000) (hT:TabZ W) :
 Calls Tryz.prog 139 #[.pointer (some ⟨q,0,none⟩),.string (bs b)] W (RdO W q ma (rd m b 4)):=by
 have HL:Hid (Ld W q m ra va ma rc vc mc u1 u2):=h
 have HN:Hid _:=iReadNumber (bs b) W hT (by rw [bs_size];omega)
 rw [tl_bs] at HN
 obtain ⟨x,hx⟩:∃ x,x=(rnP b).1:=⟨_,rfl⟩
 obtain ⟨y,hy⟩:∃ y,y=(rnP b).2:=⟨_,rfl⟩
 rw [<- hx,<- hy] at HN
 have HR:Hid (rd m b 4=if y=true then some { m with ret:=x } else none):=by show _=_;rw [hx,hy];rfl
 clear h hT hb hx hy
 go_enter Tryz.func139,Tryz.ntmps139
 go_wp2_with fail
 refine Calls.mono HN.out ?_
 rintro e w1 ⟨rfl,hb1⟩
 have HB:Hid (Below W.heap.size W w1):=hb1
 have HL1:Hid (Ld w1 q m ra va ma rc vc mc u1 u2):=HL.out.below hb1
 clear hb1
 obtain ⟨c0,c1,c2,c3,c4,c5,c6,c7,c8,c9,c10,z0,z1,z2,z3,z4,z5,z6,z7,z8,z9,z10⟩:=HL1.out.mf.all
 have hq:=HL1.out.lt
 go_wp2
 go_ret
 refine ⟨?_,fun m' hm'=>?_,kq W w1 q ma HB.out 5 _⟩
 ·rw [HR.out];cases y<;>rfl
 ·rw [HR.out] at hm'
  cases y
  ·cases hm'
  ·cases hm'
   have K:Kept (fun b=>b=q) w1 (w1.setCell ⟨q,5,none⟩ (.int .i64 x)):=(Kept.refl (fun b=>b=q) w1).setCell (p:=⟨q,5,none⟩) rfl _
   have L:=HL1.out
   exact ⟨ra,va,ma,rc,vc,mc,u1,u2,L.mf.set 5 (.int .i64 x),L.h1,L.h2,Nat.le_trans L.h3 K.size,L.row.kept K (fun b h1 h2=>by omega),L.vals.kept K (fun b h1 h2=>by have:=L.h1;omega),L.memo.kept K (fun g o n c e=>by have:=(L.memo.lt g o n c e).1;have:=L.h1;have:=L.h2;omega),L.nm⟩
end Zl1
end Go.Proofs.YtjajkmdoggbicaaGreatDoor
