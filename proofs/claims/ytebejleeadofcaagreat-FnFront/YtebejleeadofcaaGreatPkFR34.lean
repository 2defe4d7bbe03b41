import Derived.Deep.MidRow
import Derived.Deep.RegionHeld
import Derived.Test.YtebejleeadofcaaGreatPkFR25
import Derived.Test.YtebejleeadofcaaGreatPkFR30
import Derived.Test.YtebejleeadofcaaGreatPkFR26
import Derived.Test.YtebejleeadofcaaGreatPkFR3
import Derived.Test.YtebejleeadofcaaGreatPkFR2
import Derived.Test.YtebejleeadofcaaGreatPkFR24
import Derived.Test.YtebejleeadofcaaGreatPkFR0
namespace Go.Proofs.YtebejleeadofcaaGreat
set_option maxRecDepth 100000
set_option maxHeartbeats 8000000
set_option linter.unusedVariables false
namespace Fp1
open Go.RowKit
open Nd0 Qa0 Tm0 Tm1 Tm2 Tm5 Tm6 Tm8 Rw0 Rw1 Kp1 Fr0
open Fm1 (quAt below_drewN)
open Pg1 (iWidthOk iVarOk iQuant)
open Lx1 (ITermOk)
open Lx2 (IReached)
open Ws1 (ret_int ret_bool)
def aggI (r:Nat->Int):Value:=.agg #[.int .i64 (r 0),.int .i64 (r 1),.int .i64 (r 2),.int .i64 (r 3),.int .i64 (r 4),.int .i64 (r 5),.int .i64 (r 6),.int .i64 (r 7)]
def listI (r:Nat->Int):List Value:=[.int .i64 (r 0),.int .i64 (r 1),.int .i64 (r 2),.int .i64 (r 3),.int .i64 (r 4),.int .i64 (r 5),.int .i64 (r 6),.int .i64 (r 7)]
theorem results_wid {w:World} {gr:Nat} {r:Nat->Int} {b:Bool} {tmps:Array Value} (hp:tmps.getD 2 undef=.pointer (some ⟨gr,0,none⟩)) (hq:tmps.getD 3 undef=.bool b) (hc:∀ v:Nat,v < 8->w.cell? ⟨gr,v,none⟩=some (.int .i64 (r v))) :
 (results Tryz.f24 tmps).run Tryz.prog w=.ok (.tuple #[aggI r,.bool b]) w:=by
 have hr:w.rangeAt gr 0 (listI r):=fun j v hv=>by
  rw [Nat.zero_add]
  have hj:j < 8:=by
   have:=(List.getElem?_eq_some_iff.1 hv).1
   simpa [listI] using this
  rw [hc j hj]
  rcases (show j=0\/j=1\/j=2\/j=3\/j=4\/j=5\/j=6\/j=7 by omega) with h|h|h|h|h|h|h|h<;>subst h<;>exact hv
 have hl:=run_loadVar_mid (P:=Tryz.prog) w gr 0 54 (listI r) _ hr Tryz.underlying54 rfl rfl
 have hp':tmps[2]?.getD undef=.pointer (some ⟨gr,0,none⟩):=by simpa using hp
 have hq':tmps[3]?.getD undef=.bool b:=by simpa using hq
 simp [results,hp',hq',asAddr,hl]
 rfl
theorem kept_set8 {S:Nat->Prop} {gr:Nat} {u w:World} (h:Kept S u w) (hs:S gr) (v0 v1 v2 v3 v4 v5 v6 v7:Value):Kept S u ((((((((w.setCell ⟨gr,0,none⟩ v0).setCell ⟨gr,1,none⟩ v1).setCell ⟨gr,2,none⟩ v2).setCell ⟨gr,3,none⟩ v3).setCell ⟨gr,4,none⟩ v4).setCell ⟨gr,5,none⟩ v5).setCell ⟨gr,6,none⟩ v6).setCell ⟨gr,7,none⟩ v7) :=
 (((((((h.setCell hs _).setCell hs _).setCell hs _).setCell hs _).setCell hs _).setCell hs _).setCell hs _).setCell hs _
theorem row_set8 {gr:Nat} {w:World} {f:Nat->Value} (h:Row w gr 8 f) (r:Nat->Int):∀ v,v < 8->((((((((w.setCell ⟨gr,0,none⟩ (.int .i64 (r 0))).setCell ⟨gr,1,none⟩ (.int .i64 (r 1))).setCell ⟨gr,2,none⟩ (.int .i64 (r 2))).setCell ⟨gr,3,none⟩ (.int .i64 (r 3))).setCell ⟨gr,4,none⟩ (.int .i64 (r 4))).setCell ⟨gr,5,none⟩ (.int .i64 (r 5))).setCell ⟨gr,6,none⟩ (.int .i64 (r 6))).setCell ⟨gr,7,none⟩ (.int .i64 (r 7))).cell? ⟨gr,v,none⟩=some (.int .i64 (r v)):=by
 have h8:=(((((((h.set (p:=0) (by omega) (.int .i64 (r 0))).set (p:=1) (by omega) (.int .i64 (r 1))).set (p:=2) (by omega) (.int .i64 (r 2))).set (p:=3) (by omega) (.int .i64 (r 3))).set (p:=4) (by omega) (.int .i64 (r 4))).set (p:=5) (by omega) (.int .i64 (r 5))).set (p:=6) (by omega) (.int .i64 (r 6))).set (p:=7) (by omega) (.int .i64 (r 7))
 intro v hv
 rw [(h8 v hv).1]
 rcases (show v=0\/v=1\/v=2\/v=3\/v=4\/v=5\/v=6\/v=7 by omega) with h|h|h|h|h|h|h|h<;>subst h<;>rfl
def WF (q:List Qu) (r:Nat->Int) (b:Bool):Prop:=b=(wqTo q q.length).isSome/\∀ ws,wqTo q q.length=some ws->∀ v:Nat,v < 8->r v=wd ws (v:Int)
def WRes (q:List Qu) (e:Ending):Prop:=∃ r b,e=.returned (.tuple #[aggI r,.bool b])/\WF q r b
theorem wf_no {q:List Qu} (h:wqTo q q.length=none) (r:Nat->Int):WF q r false:=⟨by rw [h];rfl,fun ws hw=>by rw [h] at hw;cases hw⟩
theorem wf_yes {q:List Qu} {us:List Int} (h:wqTo q q.length=some us) {r:Nat->Int} (hr:∀ v:Nat,v < 8->r v=wd us (v:Int)):WF q r true:=⟨by rw [h];rfl,fun ws hw=>by rw [h] at hw;cases hw;exact hr⟩
theorem wd_zero8 {v:Nat} (hv:v < 8):wd (List.replicate 8 0) (v:Int)=0:=by
 rcases (show v=0\/v=1\/v=2\/v=3\/v=4\/v=5\/v=6\/v=7 by omega) with h|h|h|h|h|h|h|h<;>subst h<;>rfl
theorem iWidthsOf (w:World) (a:Option Addr) (q:List Qu) (c:Nat) (hN:Qus w a q) (hl:q.length<=1048576) :
 Calls Tryz.prog 24 #[.slice a q.length c] w fun e w'=>WRes q e/\Below w.heap.size w w':=by
 have HN:Hid (Qus w a q):=hN
 clear hN
 obtain ⟨gr,hgr⟩:∃ gr:Nat,gr=w.heap.size:=⟨_,rfl⟩
 obtain ⟨g,hg⟩:∃ g:Nat,g=w.heap.size+1:=⟨_,rfl⟩
 obtain ⟨z8,hz8⟩:∃ z8:Obj,z8=.cells #[.int .i64 0,.int .i64 0,.int .i64 0,.int .i64 0,.int .i64 0,.int .i64 0,.int .i64 0,.int .i64 0] 54:=⟨_,rfl⟩
 obtain ⟨wa,hwa⟩:∃ wa:World,wa=(w.alloc z8).alloc z8:=⟨_,rfl⟩
 have hsa:wa.heap.size=w.heap.size+2:=by rw [hwa];simp
 have hBz:Below w.heap.size w (w.alloc z8):=(Below.refl _ _).alloc (Nat.le_refl _) _
 have hBa:Below (w.alloc z8).heap.size (w.alloc z8) wa:=by rw [hwa];exact (Below.refl _ _).alloc (Nat.le_refl _) _
 have HBA:Hid (Below w.heap.size w wa):=hBz.trans (hBa.mono (by simp))
 have hnew:∀ W:World,Row (W.alloc z8) W.heap.size 8 (fun i=>.int .i64 (wd (List.replicate 8 0) (i:Int))):=fun W=>by
  rw [hz8]
  exact Row.new _ _ _ _ _ (fun i hi=>by
   rcases (show i=0\/i=1\/i=2\/i=3\/i=4\/i=5\/i=6\/i=7 by omega) with h|h|h|h|h|h|h|h<;>subst h<;>rfl)
 have HR0:Hid (Row wa g 8 (fun i=>.int .i64 (wd (List.replicate 8 0) (i:Int)))):=by
  have h:=hnew (w.alloc z8)
  rw [<- hwa,show (w.alloc z8).heap.size=g by rw [hg];simp] at h
  exact h
 have HRR:Hid (Row wa gr 8 (fun _=>.int .i64 0)):=by
  refine Row.below ?_ hBa
  rw [hgr]
  exact (hnew w).congr (fun i hi=>by rw [wd_zero8 hi])
 have HG:Hid (gr=w.heap.size/\g=w.heap.size+1/\wa.heap.size=w.heap.size+2):=⟨hgr,hg,hsa⟩
 rw [hz8] at hwa
 clear hBz hBa hnew hsa hz8
 go_enter Tryz.func24,Tryz.ntmps24
 go_wp2
 rw [<- hwa,<- hg,<- hgr]
 clear hwa hg hgr
 go_loopw [9] (fun x wr=>∃ k:Nat,k<=q.length/\x=.int .i64 k/\∃ ws,wqTo q k=some ws/\Row wr g 8 (fun i=>.int .i64 (wd ws (i:Int)))/\Kept (fun b=>b=g) wa wr) (fun x _=>q.length - (intOf x).toNat)
 case atStart=>exact ⟨0,Nat.zero_le _,rfl,_,rfl,HR0.out,Kept.refl _ _⟩
 case round =>
  obtain ⟨k,hk,rfl,ws,hq,hr,hkk⟩:=hrel
  have HWL:Hid (ws.length=8):=wq_len ws hq
  have HQ:Hid (wqTo q k=some ws):=hq
  have HR:Hid (Row wr g 8 (fun i=>.int .i64 (wd ws (i:Int)))):=hr
  have HK:Hid (Kept (fun b=>b=g) wa wr):=hkk
  have HGR:Hid (gr < wr.heap.size/\g < wr.heap.size/\gr≠g):=by
   have h1:=HG.out
   have h2:=hkk.size
   exact ⟨by omega,by omega,by omega⟩
  have HBW:Hid (Below w.heap.size w wr):=by
   have h1:=HG.out
   exact HBA.out.trans (hkk.below (fun b (hb:b=g)=>by omega) HBA.out.size)
  have HRG:Hid (Row wr gr 8 (fun _=>.int .i64 0)):=HRR.out.kept hkk (fun h=>HGR.out.2.2 h)
  clear hq hr hkk
  have HEND:Hid (∀ (W:World),Kept (fun b=>b=g) wr W->∀ v0 v1 v2 v3 v4 v5 v6 v7:Value,Below w.heap.size w ((((((((W.setCell ⟨gr,0,none⟩ v0).setCell ⟨gr,1,none⟩ v1).setCell ⟨gr,2,none⟩ v2).setCell ⟨gr,3,none⟩ v3).setCell ⟨gr,4,none⟩ v4).setCell ⟨gr,5,none⟩ v5).setCell ⟨gr,6,none⟩ v6).setCell ⟨gr,7,none⟩ v7)):=fun W hW v0 v1 v2 v3 v4 v5 v6 v7=>by
   have h1:=HG.out
   have h2:=Kept.past (Kept.ofBelow (S:=fun _=>False) HBW.out) hW (fun b h=>.inr (by have h':b=g:=h;omega))
   have h3:=Kept.past h2 (kept_set8 (S:=fun b=>b=gr) (Kept.refl _ W) rfl v0 v1 v2 v3 v4 v5 v6 v7) (fun b h=>.inr (by have h':b=gr:=h;omega))
   exact ⟨h3.os,h3.tape,h3.output,h3.size,fun b hb=>h3.block b hb (fun h=>h)⟩
  by_cases hlt:k < q.length
  ·have hlz:(k:Int) < (q.length:Int):=by omega
   obtain ⟨b,o,rfl,hc⟩:=quAt (HN.out.below HBW.out) hlt
   obtain ⟨p0,p1,p2⟩:=hc k hlt
   clear hc
   have HST:Hid (wqTo q (k+1)=wqStep ws (qth q k)):=wq_succ HQ.out
   have HBAD:Hid (wqTo q (k+1)=none->wqTo q q.length=none):=fun h=>wq_none h _ (by omega)
   unfold wqStep at HST
   generalize (qth q k).all=al at p0
   generalize (qth q k).vr=v at HST p1
   generalize (qth q k).bits=bt at HST p2
   obtain ⟨wx,hwx⟩:∃ wx:World,wx=wr.alloc (.cells #[.bool al,.int .i64 v,.int .i64 bt] 42):=⟨_,rfl⟩
   obtain ⟨gx,hgx⟩:∃ gx:Nat,gx=wr.heap.size:=⟨_,rfl⟩
   have hkx:Kept (fun b=>b=g) wr wx:=by rw [hwx];exact (Kept.refl _ _).alloc _
   have HKX:Hid (Kept (fun b=>b=g) wr wx):=hkx
   have hbx:Below wr.heap.size wr wx:=by rw [hwx];exact (Below.refl _ _).alloc (Nat.le_refl _) _
   have HRX:Hid (Row wx g 8 (fun i=>.int .i64 (wd ws (i:Int)))):=HR.out.below hbx
   have HRGX:Hid (Row wx gr 8 (fun _=>.int .i64 0)):=HRG.out.below hbx
   have x1:wx.cell? ⟨gx,1,none⟩=some (.int .i64 v):=by rw [hwx,hgx,World.cell?_alloc_new];rfl
   have x2:wx.cell? ⟨gx,2,none⟩=some (.int .i64 bt):=by rw [hwx,hgx,World.cell?_alloc_new];rfl
   obtain ⟨k0,f0⟩:=HRGX.out 0 (by omega)
   obtain ⟨k1,f1⟩:=HRGX.out 1 (by omega)
   obtain ⟨k2,f2⟩:=HRGX.out 2 (by omega)
   obtain ⟨k3,f3⟩:=HRGX.out 3 (by omega)
   obtain ⟨k4,f4⟩:=HRGX.out 4 (by omega)
   obtain ⟨k5,f5⟩:=HRGX.out 5 (by omega)
   obtain ⟨k6,f6⟩:=HRGX.out 6 (by omega)
   obtain ⟨k7,f7⟩:=HRGX.out 7 (by omega)
   clear hkx hbx
   by_cases hv:0<=v/\v<=7
   ·have hd:decide (0<=v/\v<=7)=true:=decide_eq_true hv
    obtain ⟨kk,rfl⟩:=Int.eq_ofNat_of_zero_le hv.1
    have hz8:(kk:Int) < 8:=by omega
    by_cases hb:1<=bt/\bt<=8
    ·have hd2:decide (1<=bt/\bt<=8)=true:=decide_eq_true hb
     obtain ⟨c1,c2'⟩:=HRX.out kk (by omega)
     dsimp only at c1
     by_cases hz:wd ws (kk:Int)=0
     ·have HQ2:Hid (wqTo q (k+1)=some (ws.set kk bt)):=by
       show _=_
       rw [HST.out,if_pos ⟨hv.1,hv.2,hb.1,hb.2,hz⟩,Int.toNat_natCast]
      rw [hz] at c1
      clear hv hb k0 k1 k2 k3 k4 k5 k6 k7 f0 f1 f2 f3 f4 f5 f6 f7
      go_wp2_with fail
      rw [<- hwx,<- hgx]
      clear hwx hgx
      refine (iVarOk _ _).mono ?_
      rintro e w' ⟨rfl,hw'⟩
      rw [hd]
      have hw'':=hw'.symm
      clear hw'
      subst hw''
      go_wp2_with (go_at_call 50;refine (iWidthOk _ _).mono ?_;rintro e w' ⟨rfl,hw'⟩;rw [hd2];have hw'':=hw'.symm;clear hw';subst hw'')
      go_roundw
      case rel=>exact ⟨k+1,by omega,by go_num,ws.set kk bt,HQ2.out,row_set_int HRX.out HWL.out (by omega) _,(HK.out.trans HKX.out).setCell (p:=⟨g,kk,none⟩) rfl _⟩
      case measure=>simp [intOf];omega
     ·have HF:Hid (wqTo q q.length=none):=HBAD.out (by rw [HST.out,if_neg (fun h=>hz h.2.2.2.2)])
      have hzb:(wd ws (kk:Int) != 0)=true:=by simpa using hz
      generalize wd ws (kk:Int)=z at c1 hz hzb
      clear hv hb
      go_wp2_with fail
      rw [<- hwx,<- hgx]
      clear hwx hgx
      refine (iVarOk _ _).mono ?_
      rintro e w' ⟨rfl,hw'⟩
      rw [hd]
      have hw'':=hw'.symm
      clear hw'
      subst hw''
      go_wp2_with (go_at_call 50;refine (iWidthOk _ _).mono ?_;rintro e w' ⟨rfl,hw'⟩;rw [hd2];have hw'':=hw'.symm;clear hw';subst hw'')
      try simp only [Exit.inBlock,Exit.then]
      refine bodyPost_ret (results_wid (r:=fun _=>0) (b:=false) rfl rfl (row_set8 HRGX.out (fun _=>0))) rfl ?_
      exact ⟨⟨_,_,rfl,wf_no HF.out _⟩,HEND.out wx HKX.out _ _ _ _ _ _ _ _⟩
    ·have hd2:decide (1<=bt/\bt<=8)=false:=decide_eq_false hb
     have HF:Hid (wqTo q q.length=none):=HBAD.out (by rw [HST.out,if_neg (fun h=>hb ⟨h.2.2.1,h.2.2.2.1⟩)])
     clear hv hb
     go_wp2_with fail
     rw [<- hwx,<- hgx]
     clear hwx hgx
     refine (iVarOk _ _).mono ?_
     rintro e w' ⟨rfl,hw'⟩
     rw [hd]
     have hw'':=hw'.symm
     clear hw'
     subst hw''
     go_wp2_with (go_at_call 50;refine (iWidthOk _ _).mono ?_;rintro e w' ⟨rfl,hw'⟩;rw [hd2];have hw'':=hw'.symm;clear hw';subst hw'')
     try simp only [Exit.inBlock,Exit.then]
     refine bodyPost_ret (results_wid (r:=fun _=>0) (b:=false) rfl rfl (row_set8 HRGX.out (fun _=>0))) rfl ?_
     exact ⟨⟨_,_,rfl,wf_no HF.out _⟩,HEND.out wx HKX.out _ _ _ _ _ _ _ _⟩
   ·have hd:decide (0<=v/\v<=7)=false:=decide_eq_false hv
    have HF:Hid (wqTo q q.length=none):=HBAD.out (by rw [HST.out,if_neg (fun h=>hv ⟨h.1,h.2.1⟩)])
    clear hv
    go_wp2_with fail
    rw [<- hwx,<- hgx]
    clear hwx hgx
    refine (iVarOk _ _).mono ?_
    rintro e w' ⟨rfl,hw'⟩
    rw [hd]
    have hw'':=hw'.symm
    clear hw'
    subst hw''
    go_wp2
    try simp only [Exit.inBlock,Exit.then]
    refine bodyPost_ret (results_wid (r:=fun _=>0) (b:=false) rfl rfl (row_set8 HRGX.out (fun _=>0))) rfl ?_
    exact ⟨⟨_,_,rfl,wf_no HF.out _⟩,HEND.out wx HKX.out _ _ _ _ _ _ _ _⟩
  ·have HF:Hid (wqTo q q.length=some ws):=by
    show _=_
    rw [<- show k=q.length by omega];exact HQ.out
   obtain ⟨r,hr⟩:∃ r:Nat->Int,r=fun (v:Nat)=>wd ws (v:Int):=⟨_,rfl⟩
   have HWF:Hid (WF q r true):=wf_yes HF.out (fun v _=>by rw [hr])
   have HRr:Hid (Row wr g 8 (fun i=>.int .i64 (r i))):=by rw [hr];exact HR.out
   clear hr
   obtain ⟨e0,_⟩:=HRr.out 0 (by omega)
   obtain ⟨e1,_⟩:=HRr.out 1 (by omega)
   obtain ⟨e2,_⟩:=HRr.out 2 (by omega)
   obtain ⟨e3,_⟩:=HRr.out 3 (by omega)
   obtain ⟨e4,_⟩:=HRr.out 4 (by omega)
   obtain ⟨e5,_⟩:=HRr.out 5 (by omega)
   obtain ⟨e6,_⟩:=HRr.out 6 (by omega)
   obtain ⟨e7,_⟩:=HRr.out 7 (by omega)
   obtain ⟨k0,f0⟩:=HRG.out 0 (by omega)
   obtain ⟨k1,f1⟩:=HRG.out 1 (by omega)
   obtain ⟨k2,f2⟩:=HRG.out 2 (by omega)
   obtain ⟨k3,f3⟩:=HRG.out 3 (by omega)
   obtain ⟨k4,f4⟩:=HRG.out 4 (by omega)
   obtain ⟨k5,f5⟩:=HRG.out 5 (by omega)
   obtain ⟨k6,f6⟩:=HRG.out 6 (by omega)
   obtain ⟨k7,f7⟩:=HRG.out 7 (by omega)
   go_wp2
   try simp only [Exit.inBlock,Exit.then]
   refine bodyPost_ret (results_wid (r:=r) (b:=true) rfl rfl (row_set8 HRG.out r)) rfl ?_
   exact ⟨⟨_,_,rfl,HWF.out⟩,HEND.out wr (Kept.refl _ _) _ _ _ _ _ _ _ _⟩
def hasQ (l:List Nd):Bool:=(List.range l.length).any fun i=>quant (nth l i).op
theorem iHasQ (w:World) (a:Option Addr) (l:List Nd) (c:Nat) (hN:Nodes w a l) (hl:l.length<=1048576) :
 Calls Tryz.prog 26 #[.slice a l.length c] w fun e w'=>e=.returned (.bool (hasQ l))/\Below w.heap.size w w':=by
 have HN:Hid (Nodes w a l):=hN
 clear hN
 go_enter Tryz.func26,Tryz.ntmps26
 go_wp2
 go_loopw [7] (fun x wr=>∃ k:Nat,k<=l.length/\x=.int .i64 k/\(∀ i,i < k->quant (nth l i).op=false)/\Below w.heap.size w wr) (fun x _=>l.length - (intOf x).toNat)
 case atStart=>exact ⟨0,Nat.zero_le _,rfl,fun i hi=>by omega,Below.refl _ _⟩
 case round =>
  obtain ⟨k,hk,rfl,hq,hb⟩:=hrel
  have HQ:Hid (∀ i,i < k->quant (nth l i).op=false):=hq
  have HB:Hid (Below w.heap.size w wr):=hb
  clear hq hb
  by_cases hlt:k < l.length
  ·have hlz:(k:Int) < (l.length:Int):=by omega
   rcases (HN.out.below HB.out).2 with h0|⟨xb,xo,rfl,hc⟩
   ·omega
   obtain ⟨p0,p1,p2,p3,p4,p5⟩:=hc k hlt
   rw [nth_get hlt] at p0 p1 p2 p3 p4 p5
   clear hc
   have HX:Hid (quant (nth l k).op=true->hasQ l=true):=fun h=>List.any_eq_true.2 ⟨k,List.mem_range.2 hlt,h⟩
   have HY:Hid (quant (nth l k).op=false->∀ i,i < k+1->quant (nth l i).op=false):=fun h i hi=>by
    by_cases e:i=k
    ·subst e;exact h
    ·exact HQ.out i (by omega)
   generalize nth l k=n at p0 p1 p2 p3 p4 p5 HX HY
   have HBX:Hid (Below w.heap.size w (wr.alloc (.cells #[.int .i64 n.op,.int .i64 n.w,.int .i64 n.k,.int .i64 n.a,.int .i64 n.b,.int .i64 n.c] 58))):=HB.out.alloc HB.out.size _
   cases hqu:quant n.op
   ·go_wp2_with (go_at_call 46;refine (iQuant _ _).mono ?_;rintro e w' ⟨rfl,rfl⟩;rw [hqu])
    go_roundw
    case rel=>exact ⟨k+1,by omega,by go_num,HY.out hqu,HBX.out⟩
    case measure=>simp [intOf];omega
   ·have HT:Hid (hasQ l=true):=HX.out hqu
    go_wp2_with (go_at_call 46;refine (iQuant _ _).mono ?_;rintro e w' ⟨rfl,rfl⟩;rw [hqu])
    go_ret
    exact ⟨ret_bool HT.out.symm,HBX.out⟩
  ·have HF:Hid (hasQ l=false):=by
    show _=_
    unfold hasQ
    rw [List.any_eq_false]
    intro i hi
    rw [HQ.out i (by have:=List.mem_range.1 hi;omega)];simp
   go_wp2
   go_ret
   exact ⟨ret_bool HF.out.symm,HB.out⟩
theorem hasQ_no {l:List Nd} (h:hasQ l=false):∀ i,i < l.length->quant (nth l i).op=false:=by
 intro i hi
 unfold hasQ at h
 rw [List.any_eq_false] at h
 simpa using h i (List.mem_range.2 hi)
theorem hasQ_yes {l:List Nd} (h:hasQ l=true):∃ i,i < l.length/\quant (nth l i).op=true:=by
 obtain ⟨i,h1,h2⟩:=List.any_eq_true.1 h
 exact ⟨i,List.mem_range.1 h1,h2⟩
end Fp1
namespace Fp2
open Go.RowKit
open Nd0 Qa0 Tm0 Tm1 Tm2 Tm5 Tm6 Tm8 Rw0 Rw1 Kp1 Fr0 Fp1
open Fm1 (quAt below_drewN)
open Lx1 (ITermOk)
open Lx2 (IReached)
open Ws1 (ret_int ret_bool)
def IFrontOk:Prop:=∀ (w:World) (aq a:Option Addr) (q:List Qu) (l:List Nd) (cq c:Nat),Qus w aq q->q.length<=1048576->Nodes w a l->l.length<=c->l.length<=1048576 ->
 Calls Tryz.prog 7 #[.slice aq q.length cq,.slice a l.length c] w fun e w'=>e=.returned (.bool (frontOkB q l))/\Below w.heap.size w w'
theorem iFrontOk (hTO:ITermOk) (hRE:IReached):IFrontOk:=by
 intro w aq a q l cq c hQ hql hN hcap hlen
 have HN:Hid (Nodes w a l):=hN
 have HQS:Hid (Qus w aq q):=hQ
 have HTO:Hid ITermOk:=hTO
 have HRE:Hid IReached:=hRE
 have HCAP:Hid (l.length<=c):=hcap
 clear hN hQ hTO hRE hcap
 go_enter Tryz.func7,Tryz.ntmps7
 go_wp2_with fail
 refine (iWidthsOf _ aq q cq HQS.out hql).mono ?_
 rintro e w1 ⟨⟨r,b,rfl,hwf⟩,hb1⟩
 have HWF:Hid (WF q r b):=hwf
 have HB1:Hid (Below w.heap.size w w1):=hb1
 clear hwf hb1
 unfold aggI
 obtain ⟨W,hW⟩:∃ W:World,W=w1.alloc (.cells #[.int .i64 (r 0),.int .i64 (r 1),.int .i64 (r 2),.int .i64 (r 3),.int .i64 (r 4),.int .i64 (r 5),.int .i64 (r 6),.int .i64 (r 7)] 54):=⟨_,rfl⟩
 obtain ⟨g,hg⟩:∃ g:Nat,g=w1.heap.size:=⟨_,rfl⟩
 have HRW:Hid (Row W g 8 (fun i=>.int .i64 (r i))):=by
  rw [hW,hg]
  exact Row.new _ _ _ _ _ (fun i hi=>by
   rcases (show i=0\/i=1\/i=2\/i=3\/i=4\/i=5\/i=6\/i=7 by omega) with h|h|h|h|h|h|h|h<;>subst h<;>rfl)
 have HBW:Hid (Below w.heap.size w W):=by rw [hW];exact HB1.out.alloc HB1.out.size _
 cases hb:b
 ·have HF:Hid (frontOkB q l=false):=by
   have h1:=HWF.out.1
   rw [hb] at h1
   refine fo_wid (k:=q.length) (Nat.le_refl _) ?_
   cases hw:wqTo q q.length with
   | none=>rfl
   | some ws=>rw [hw] at h1;cases h1
  go_wp2
  go_ret
  rw [<- hW]
  exact ⟨ret_bool HF.out.symm,HBW.out⟩
 ·obtain ⟨ws,HWS,HRV⟩:∃ ws,Hid (wqTo q q.length=some ws)/\Hid (∀ v:Nat,v < 8->r v=wd ws (v:Int)):=by
   have h1:=HWF.out.1
   rw [hb] at h1
   cases hw:wqTo q q.length with
   | none=>rw [hw] at h1;cases h1
   | some ws=>exact ⟨ws,rfl,HWF.out.2 ws hw⟩
  clear HWF
  go_wp2_with fail
  rw [<- hW,<- hg]
  clear hW hg hb
  refine (HTO.out W a l c (HN.out.below HBW.out) HCAP.out hlen).mono ?_
  rintro e w2 ⟨rfl,hb2⟩
  have HB2:Hid (Below w.heap.size w w2):=HBW.out.trans (hb2.mono HBW.out.size)
  have HRW2:Hid (Row w2 g 8 (fun i=>.int .i64 (r i))):=HRW.out.below hb2
  clear hb2
  cases hT:termOk l
  ·have HF:Hid (frontOkB q l=false):=fo_term hT
   go_wp2
   go_ret
   exact ⟨ret_bool HF.out.symm,HB2.out⟩
  ·have HT:Hid (termOk l=true):=hT
   obtain ⟨hl1,hl2⟩:=term_len hT
   clear hT
   rcases (HN.out.below HB2.out).2 with h0|⟨xb,xo,rfl,hc⟩
   ·omega
   have p1:=(hc (l.length - 1) (by omega)).c1
   rw [nth_get (by omega:l.length - 1 < l.length)] at p1
   clear hc
   have g1:(0:Int)<=(l.length:Int) - 1:=by omega
   have g2:(l.length:Int) - 1 < (l.length:Int):=by omega
   have e1:IntKind.i64.wrap ((l.length:Int) - 1)=(l.length:Int) - 1:=by rw [IntKind.wrap_i64]<;>omega
   cases hw1:((nth l (l.length - 1)).w != 1)
   rotate_left
   ·have HF:Hid (frontOkB q l=false):=fo_root (by simpa using hw1)
    generalize (nth l (l.length - 1)).w=rw at p1 hw1
    go_wp2
    go_ret
    exact ⟨ret_bool HF.out.symm,HB2.out⟩
   ·have hw1':(nth l (l.length - 1)).w=1:=by simpa using hw1
    have HW1:Hid ((nth l (l.length - 1)).w=1):=hw1'
    clear hw1'
    generalize (nth l (l.length - 1)).w=rw at p1 hw1
    go_wp2_with fail
    refine (iHasQ w2 _ l c (HN.out.below HB2.out) hlen).mono ?_
    rintro e w3 ⟨rfl,hb3⟩
    have HB3:Hid (Below w.heap.size w w3):=HB2.out.trans (hb3.mono HB2.out.size)
    have HRW3:Hid (Row w3 g 8 (fun i=>.int .i64 (r i))):=HRW2.out.below hb3
    clear hb3 p1 g1 g2 e1 hw1
    cases hh:hasQ l
    rotate_left
    ·have HF:Hid (frontOkB q l=false):=by
      obtain ⟨i,hi,hq⟩:=hasQ_yes hh
      exact fo_bad HWS.out hi (by unfold badF;rw [hq];rfl)
     go_wp2
     go_ret
     exact ⟨ret_bool HF.out.symm,HB3.out⟩
    ·have HNQ:Hid (∀ i,i < l.length->quant (nth l i).op=false):=hasQ_no hh
     have HREQ:Hid (reachedL l=reachTo l l.length):=by
      show _=_
      unfold reachedL;rw [HT.out];rfl
     have hRL:(reachedL l).length<=80:=Nat.le_trans (reachedL_le l) hl2
     go_wp2_with fail
     refine (HRE.out w3 _ l c (HN.out.below HB3.out) HCAP.out hlen).mono ?_
     rintro e w4 ⟨⟨ra,rc,rfl,hri⟩,hb4⟩
     have HRI:Hid (Ints w4 ra (reachedL l)):=hri.ints
     have HB4:Hid (Below w.heap.size w w4):=HB3.out.trans (hb4.mono HB3.out.size)
     have HRW4:Hid (Row w4 g 8 (fun i=>.int .i64 (r i))):=HRW3.out.below hb4
     have HRA:Hid (∀ m (h:m < (reachedL l).length),∃ x:Nat,(reachedL l)[m]=(x:Int)/\x < l.length/\flag (reachL l) x=true/\(reachTo l x).length=m):=by
      show ∀ _,_
      intro m h
      have e:=HREQ.out
      obtain ⟨x,h1,h2,h3,h4⟩:=reach_at l l.length m (by rw [<- e];exact h)
      exact ⟨x,by simp only [e];exact h1,h2,h3,h4⟩
     clear hri hb4 hh
     go_wp2_with fail
     go_loopw [39] (fun x wr=>∃ m:Nat,m<=(reachedL l).length/\x=.int .i64 (m:Int)/\(∀ i,i < l.length->flag (reachL l) i=true->(reachTo l i).length < m->badF l ws i=false)/\Below w4.heap.size w4 wr) (fun x _=>(reachedL l).length - (intOf x).toNat)
     case atStart=>exact ⟨0,Nat.zero_le _,rfl,fun i _ _ h=>by omega,Below.refl _ _⟩
     case round =>
      obtain ⟨m,hm,rfl,hgood,hbr⟩:=hrel
      have HG:Hid (∀ i,i < l.length->flag (reachL l) i=true->(reachTo l i).length < m->badF l ws i=false):=hgood
      have HBR:Hid (Below w4.heap.size w4 wr):=hbr
      have HBT:Hid (Below w.heap.size w wr):=HB4.out.trans (hbr.mono HB4.out.size)
      clear hgood hbr
      by_cases hlt:m < (reachedL l).length
      ·have hmz:(m:Int) < ((reachedL l).length:Int):=by omega
       obtain ⟨x,hx,hxl,hxf,hxm⟩:=HRA.out m hlt
       have hxz:(x:Int) < (l.length:Int):=by omega
       rcases (HRI.out.below HBR.out).2 with h0|⟨rb,ro,rfl,hrc⟩
       ·omega
       have q0:=hrc m hlt
       rw [hx] at q0
       rcases (HN.out.below HBT.out).2 with h0|⟨xb',xo',he,hc⟩
       ·omega
       cases he
       obtain ⟨p0,p1,p2,p3,p4,p5⟩:=hc x hxl
       rw [nth_get hxl] at p0 p1 p2 p3 p4 p5
       have HNO:Hid (badF l ws x=false->∀ i,i < l.length->flag (reachL l) i=true->(reachTo l i).length < m+1->badF l ws i=false):=fun h i hi hf hlt2=>by
        by_cases e:(reachTo l i).length=m
        ·have:i=x:=reachTo_inj l hf hxf (by omega)
         subst this;exact h
        ·exact HG.out i hi hf (by omega)
       have HYES:Hid (badF l ws x=true->frontOkB q l=false):=fun h=>fo_bad HWS.out hxl h
       have HBD:Hid (badF l ws x=((nth l x).op==1&&wd ws (nth l x).k != (nth l x).w)):=by
        show _=_
        unfold badF
        rw [HNQ.out x hxl,hxf,Bool.false_or,Bool.true_and]
       have HSV:Hid ((nth l x).op=1\/quant (nth l x).op=true->0<=(nth l x).k/\(nth l x).k<=7):=shape_var (term_node HT.out hxl)
       clear hc hrc hx HG
       generalize nth l x=n at p0 p1 p2 p3 p4 p5 HBD HSV
       obtain ⟨wn,hwn⟩:∃ wn:World,wn=wr.alloc (.cells #[.int .i64 n.op,.int .i64 n.w,.int .i64 n.k,.int .i64 n.a,.int .i64 n.b,.int .i64 n.c] 58):=⟨_,rfl⟩
       obtain ⟨gn,hgn⟩:∃ gn:Nat,gn=wr.heap.size:=⟨_,rfl⟩
       have hbn:Below wr.heap.size wr wn:=by rw [hwn];exact (Below.refl _ _).alloc (Nat.le_refl _) _
       have HBN:Hid (Below w4.heap.size w4 wn):=HBR.out.trans (hbn.mono HBR.out.size)
       have HBNT:Hid (Below w.heap.size w wn):=HBT.out.trans (hbn.mono HBT.out.size)
       have n0:wn.cell? ⟨gn,0,none⟩=some (.int .i64 n.op):=by rw [hwn,hgn,World.cell?_alloc_new];rfl
       have n1:wn.cell? ⟨gn,1,none⟩=some (.int .i64 n.w):=by rw [hwn,hgn,World.cell?_alloc_new];rfl
       have n2:wn.cell? ⟨gn,2,none⟩=some (.int .i64 n.k):=by rw [hwn,hgn,World.cell?_alloc_new];rfl
       clear hbn
       cases ho:(n.op==1)
       ·have HB:Hid (badF l ws x=false):=by
         show _=_
         rw [HBD.out,ho];rfl
        go_wp2_with fail
        rw [<- hwn,<- hgn]
        clear hwn hgn
        go_quiet (fail)
        go_wp2
        go_roundw
        case rel=>exact ⟨m+1,by omega,by go_num,HNO.out HB.out,below_drewN HBN.out _⟩
        case measure=>simp [intOf];omega
       ·rw [ho] at HBD
        obtain ⟨hv0,hv7⟩:=HSV.out (.inl (by simpa using ho))
        clear HSV
        obtain ⟨kk,hkk⟩:=Int.eq_ofNat_of_zero_le hv0
        rw [hkk] at p2 n2 HBD hv7 hwn
        have hz8:(kk:Int) < 8:=by omega
        obtain ⟨c1,_⟩:=(HRW4.out.below HBN.out) kk (by omega)
        dsimp only at c1
        rw [HRV.out kk (by omega)] at c1
        clear hkk hv0
        cases hne:(n.w != wd ws (kk:Int))
        ·have HB:Hid (badF l ws x=false):=by
          show _=_
          have h9:(wd ws (kk:Int) != n.w)=false:=by
           have:n.w=wd ws (kk:Int):=by simpa using hne
           rw [this];simp
          rw [HBD.out,h9];rfl
         generalize wd ws (kk:Int)=z at c1 hne
         go_wp2_with fail
         rw [<- hwn,<- hgn]
         clear hwn hgn
         go_quiet (fail)
         go_wp2
         go_roundw
         case rel=>exact ⟨m+1,by omega,by go_num,HNO.out HB.out,below_drewN HBN.out _⟩
         case measure=>simp [intOf];omega
        ·have HF:Hid (frontOkB q l=false):=HYES.out (by
          have h9:(wd ws (kk:Int) != n.w)=true:=by
           have:¬ n.w=wd ws (kk:Int):=by simpa using hne
           simpa using fun h:wd ws (kk:Int)=n.w=>this h.symm
          rw [HBD.out,h9];rfl)
         generalize wd ws (kk:Int)=z at c1 hne
         go_wp2_with fail
         rw [<- hwn,<- hgn]
         clear hwn hgn
         go_quiet (fail)
         go_wp2
         go_ret
         exact ⟨ret_bool HF.out.symm,below_drewN HBNT.out _⟩
      ·have HF:Hid (frontOkB q l=true):=fo_yes HT.out HW1.out HWS.out (fun i hi=>by
        cases hf:flag (reachL l) i with
        | true =>
          refine HG.out i hi hf ?_
          have h1:=reachTo_lt l hi hf
          have h2:=HREQ.out
          rw [h2] at hlt
          omega
        | false =>
          unfold badF
          rw [HNQ.out i hi,hf];rfl)
       go_wp2
       go_ret
       exact ⟨ret_bool HF.out.symm,HBT.out⟩
end Fp2
namespace Ap8
open Go.RowKit
open Nd0 Nd3 Ap2 Ap7
end Ap8
namespace Fm3
open Go.RowKit
open Nd0 Nd3 Qa0 Ap2 Ap7 Ap8 Fr0
open Fm1 (quAt below_drewN)
def BPost (w:World) (q:List Qu) (l:List Nd) (e:Ending) (w':World):Prop :=
 (∃ a' c',e=.returned (.tuple #[.slice a' (backL q l).length c',.bool (backB q l)])/\WNodes w' w.heap.size a' (backL q l)/\(backL q l).length<=c')/\Below w.heap.size w w'
theorem bpost_no {w W:World} {q:List Qu} {l:List Nd} (h:backB q l=false) (hB:Below w.heap.size w W) (g:Nat):BPost w q l (.returned (.tuple #[.slice (some ⟨g,0,none⟩) 0 0,.bool false])) (W.alloc (.cells #[] 58)):=by
 have e:backL q l=[]:=by unfold backL;rw [h];rfl
 refine ⟨⟨some ⟨g,0,none⟩,0,?_,?_,?_⟩,hB.alloc hB.size _⟩
 ·rw [e,h];rfl
 ·rw [e];exact ⟨Nat.zero_le _,.inl rfl⟩
 ·rw [e];exact Nat.zero_le _
theorem bpost_yes {w W:World} {q:List Qu} {l:List Nd} {v:Value} (h:backB q l=true) (hB:Below w.heap.size w W) (ho:Ap2.Own W w.heap.size v (backTo q l q.length)):BPost w q l (.returned (.tuple #[v,.bool true])) W:=by
 have e:backL q l=backTo q l q.length:=by unfold backL;rw [h];rfl
 obtain ⟨a,c,rfl,hw⟩:=ho.form
 refine ⟨⟨a,c,?_,?_,?_⟩,hB⟩
 ·rw [e,h]
 ·rw [e];exact hw
 ·rw [e];exact (own_cap ho).2
end Fm3
end Go.Proofs.YtebejleeadofcaaGreat
