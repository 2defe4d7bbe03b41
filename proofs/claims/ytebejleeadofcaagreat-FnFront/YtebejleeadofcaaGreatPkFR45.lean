import Derived.Test.YtebejleeadofcaaGreatPkFR44
import Derived.Test.YtebejleeadofcaaGreatPg9
import Derived.Test.YtebejleeadofcaaGreatPkFR3
import Derived.Test.YtebejleeadofcaaGreatPv13
import Derived.Test.YtebejleeadofcaaGreatPkFR39
import Derived.Test.YtebejleeadofcaaGreatPkFR34
import Derived.Test.YtebejleeadofcaaGreatPkFR30
import Derived.Test.YtebejleeadofcaaGreatPkFR22
namespace Go.Proofs.YtebejleeadofcaaGreat
set_option maxRecDepth 100000
set_option maxHeartbeats 8000000
set_option linter.unusedVariables false
namespace Pg14
open Go.RowKit
open Nd0 Pl1 Tm0 Tm1 Tm2 Tm4 Tm5 Tm6 Tm7 Tm8 Tm9 Tm10 Tm11 Ap0 Pg1 Rw0 Pg12 Pg13
open Lx1 (ITermOk)
open Lx2 (IReached)
open Pg9 (iFreeSet)
open Ws1 (ret_int ret_bool)
theorem iSentence (hTO:ITermOk) (hRE:IReached) (w:World) (a:Option Addr) (l:List Nd) (c:Nat) (hN:Nodes w a l) (hcap:l.length<=c) (hlen:l.length<=1048576) :
 Calls Tryz.prog 20 #[.slice a l.length c] w fun e w'=>e=.returned (.bool (sentB l))/\Below w.heap.size w w':=by
 have HN:Hid (Nodes w a l):=hN
 have HTO:Hid ITermOk:=hTO
 have HRE:Hid IReached:=hRE
 have HCAP:Hid (l.length<=c):=hcap
 clear hcap hN hTO hRE
 go_enter Tryz.func20,Tryz.ntmps20
 go_wp2_with fail
 refine (HTO.out _ a l c HN.out HCAP.out hlen).mono ?_
 rintro e w1 ⟨rfl,hb1⟩
 have HB1:Hid (Below w.heap.size w w1):=hb1
 clear hb1
 cases hT:termOk l
 ·have HF:Hid (sentB l=false):=sent_term hT
  go_wp2
  go_ret
  exact ⟨ret_bool HF.out.symm,HB1.out⟩
 ·have HT:Hid (termOk l=true):=hT
  obtain ⟨hl1,hl2⟩:=term_len hT
  clear hT
  rcases (HN.out.below HB1.out).2 with h0|⟨xb,xo,rfl,hc⟩
  ·omega
  have p1:=(hc (l.length - 1) (by omega)).c1
  rw [nth_get (by omega:l.length - 1 < l.length)] at p1
  clear hc
  have g1:(0:Int)<=(l.length:Int) - 1:=by omega
  have g2:(l.length:Int) - 1 < (l.length:Int):=by omega
  cases hw1:((nth l (l.length - 1)).w != 1)
  ·have hw1':(nth l (l.length - 1)).w=1:=by simpa using hw1
   have HW1:Hid ((nth l (l.length - 1)).w=1):=hw1'
   clear hw1'
   generalize (nth l (l.length - 1)).w=rw at p1 hw1
   go_wp2_with fail
   refine (iFreeSet _ _ l c (HN.out.below HB1.out) HT.out).mono ?_
   rintro e w2 ⟨⟨s,rfl,hs⟩,hb2⟩
   have HB2:Hid (Below w.heap.size w w2):=HB1.out.trans (hb2.mono HB1.out.size)
   have HZ:Hid (s=0↔(freeL l).length=0):=set_zero HT.out hs
   clear hs hb2 p1 g1 g2
   by_cases hf:s=0
   ·have HF0:Hid ((freeL l).length=0):=HZ.out.1 hf
    have hz:((s:Int) != 0)=false:=by simp;omega
    clear hf HZ
    go_wp2_with fail
    refine (HRE.out _ _ l c (HN.out.below HB2.out) HCAP.out hlen).mono ?_
    rintro e w3 ⟨⟨a3,c3,rfl,hi3⟩,hb3⟩
    have HRE2:Hid (reachedL l=reachTo l l.length):=by
     show _=_
     unfold reachedL;rw [HT.out];rfl
    rw [HRE2.out] at hi3 ⊢
    have HI3:Hid (Ints w3 a3 (reachTo l l.length)):=hi3.ints
    have HB3:Hid (Below w.heap.size w w3):=HB2.out.trans (hb3.mono HB2.out.size)
    clear hi3 hb3
    go_wp2_with fail
    refine (iBound _ _ a3 l c c3 (HN.out.below HB3.out) HT.out HI3.out).mono ?_
    rintro e w4 ⟨⟨b4,rfl,hy4,hn4⟩,hb4⟩
    have HB4:Hid (Below w.heap.size w w4):=HB3.out.trans (hb4.mono HB3.out.size)
    have HI4:Hid (Ints w4 a3 (reachTo l l.length)):=HI3.out.below hb4
    have HY4:Hid (b4=true->∃ ws,quantsTo l l.length=some ws/\Wid l ws):=hy4
    have HN4:Hid (b4=false->sentB l=false):=hn4
    clear hy4 hn4 hb4
    cases b4
    ·have HF:Hid (sentB l=false):=HN4.out rfl
     clear HY4 HN4
     go_wp2
     go_ret
     exact ⟨ret_bool HF.out.symm,HB4.out⟩
    ·obtain ⟨ws,hq,hw⟩:=HY4.out rfl
     have HQ:Hid (quantsTo l l.length=some ws):=hq
     have HWI:Hid (Wid l ws):=hw
     clear HY4 HN4 hq hw
     go_wp2_with fail
     refine (iMovable _ _ a3 l c c3 (HN.out.below HB4.out) HT.out HI4.out).mono ?_
     rintro e w5 ⟨⟨b5,rfl,hy5,hn5⟩,hb5⟩
     have HB5:Hid (Below w.heap.size w w5):=HB4.out.trans (hb5.mono HB4.out.size)
     have HS:Hid (sentB l=b5):=by
      show _=_
      cases b5
      ·exact hn5 rfl
      ·exact sent_all HT.out HW1.out HF0.out HQ.out HWI.out (hy5 rfl)
     clear hy5 hn5 hb5
     go_wp2
     go_ret
     exact ⟨ret_bool HS.out.symm,HB5.out⟩
   ·have HF:Hid (sentB l=false):=sent_free (fun h=>hf (HZ.out.2 h))
    have hz:((s:Int) != 0)=true:=by simp;omega
    clear hf HZ
    go_wp2
    go_ret
    exact ⟨ret_bool HF.out.symm,HB2.out⟩
  ·have HF:Hid (sentB l=false):=sent_root (by simpa using hw1)
   generalize (nth l (l.length - 1)).w=rw at p1 hw1
   go_wp2
   go_ret
   exact ⟨ret_bool HF.out.symm,HB1.out⟩
theorem iQBits (hRE:IReached) (w:World) (a:Option Addr) (l:List Nd) (c:Nat) (hN:Nodes w a l) (hcap:l.length<=c) (hlen:l.length<=1048576) (hT:termOk l=true) :
 Calls Tryz.prog 33 #[.slice a l.length c] w fun e w'=>e=.returned (.int .i64 (bitsTo l l.length))/\Below w.heap.size w w':=by
 have HN:Hid (Nodes w a l):=hN
 have HRE:Hid IReached:=hRE
 have HCAP:Hid (l.length<=c):=hcap
 have HT:Hid (termOk l=true):=hT
 obtain ⟨hl1,hl2⟩:=term_len hT
 clear hcap hN hRE hT
 go_enter Tryz.func33,Tryz.ntmps33
 go_wp2_with fail
 refine (HRE.out _ _ l c HN.out HCAP.out hlen).mono ?_
 rintro e w2 ⟨⟨a2,c2,rfl,hi2⟩,hb2⟩
 have HRE2:Hid (reachedL l=reachTo l l.length):=by
  show _=_
  unfold reachedL;rw [HT.out];rfl
 rw [HRE2.out] at hi2 ⊢
 have HI2:Hid (Ints w2 a2 (reachTo l l.length)):=hi2.ints
 have HB2:Hid (Below w.heap.size w w2):=hb2
 have hRl:=reachTo_length l l.length
 clear hi2 hb2
 go_wp2_with fail
 go_loop [3,9] (fun v q=>∃ (j:Nat) (x:Nat),j<=(reachTo l l.length).length/\q=.int .i64 j/\x<=l.length/\(reachTo l x).length=j/\v=.int .i64 (bitsTo l x)) (fun _ q=>(reachTo l l.length).length - (intOf q).toNat)
 case atStart=>exact ⟨0,0,Nat.zero_le _,rfl,Nat.zero_le _,rfl,rfl⟩
 case round =>
  obtain ⟨j,x,hj,rfl,hxl,hxj,rfl⟩:=hrel
  have HXJ:Hid ((reachTo l x).length=j):=hxj
  clear hxj
  by_cases hlt:j < (reachTo l l.length).length
  ·have hjz:(j:Int) < ((reachTo l l.length).length:Int):=by omega
   obtain ⟨y,hy,hyl,hyf,hyj⟩:=reach_at l l.length j hlt
   rcases HI2.out.2 with h0|⟨pb,po,rfl,hpc⟩
   ·omega
   have q0:=hpc j hlt
   rw [hy] at q0
   clear hpc hy
   rcases (HN.out.below HB2.out).2 with h0|⟨xb,xo,rfl,hc⟩
   ·omega
   have hyz:(y:Int) < (l.length:Int):=by omega
   have p0:=(hc y hyl).c0
   have p4:=(hc y hyl).c4
   rw [nth_get hyl] at p0 p4
   clear hc
   have HBY:Hid (bitsTo l y=bitsTo l x):=bits_same l (by rw [HXJ.out,hyj])
   have HRS:Hid ((reachTo l (y+1)).length=j+1):=reach_step hyf hyj
   have HBN:Hid (bitsTo l (y+1)=if quant (nth l y).op then bitsTo l x+(nth l y).b else bitsTo l x):=by
    show (if _ then _ else _)=_
    rw [hyf,Bool.true_and,HBY.out]
   have hbb:=bits_bound HT.out x hxl
   have HQB:Hid (quant (nth l y).op=true->1<=(nth l y).b/\(nth l y).b<=8):=fun h=>quant_b (term_node HT.out hyl) h
   clear hyf hyj
   generalize bitsTo l x=z at HBY HBN hbb ⊢
   generalize nth l y=n at p0 p4 HBN HQB
   obtain ⟨hb0,hb9⟩:=hbb
   cases hqu:quant n.op
   ·have HB2':Hid (bitsTo l (y+1)=z):=by
     show _=_
     rw [HBN.out,hqu];rfl
    go_wp2_with (go_at_call 46;refine (iQuant _ _).mono ?_;rintro e w' ⟨rfl,rfl⟩;rw [hqu])
    go_round
    case rel=>exact ⟨j+1,y+1,by omega,by go_num,by omega,HRS.out,by rw [HB2'.out]⟩
    case measure=>simp [intOf];omega
   ·have HB2':Hid (bitsTo l (y+1)=z+n.b):=by
     show _=_
     rw [HBN.out,hqu];rfl
    obtain ⟨hq1,hq2⟩:=HQB.out hqu
    go_wp2_with (go_at_call 46;refine (iQuant _ _).mono ?_;rintro e w' ⟨rfl,rfl⟩;rw [hqu])
    go_round
    case rel=>exact ⟨j+1,y+1,by omega,by go_num,by omega,HRS.out,by rw [HB2'.out]⟩
    case measure=>simp [intOf];omega
  ·have hjz:¬ (j:Int) < ((reachTo l l.length).length:Int):=by omega
   have HBE:Hid (bitsTo l l.length=bitsTo l x):=bits_same l (by rw [HXJ.out];omega)
   go_wp2
   go_ret
   exact ⟨ret_int (by rw [HBE.out]),HB2.out⟩
theorem iBits (hTO:ITermOk) (hRE:IReached) (w:World) (a:Option Addr) (l:List Nd) (c:Nat) (hN:Nodes w a l) (hcap:l.length<=c) (hlen:l.length<=1048576) :
 Calls Tryz.prog 11 #[.slice a l.length c] w fun e w'=>e=.returned (.int .i64 (bitsL l))/\Below w.heap.size w w':=by
 have HN:Hid (Nodes w a l):=hN
 have HRE:Hid IReached:=hRE
 have HSE:=iSentence hTO hRE w a l c hN hcap hlen
 have HCAP:Hid (l.length<=c):=hcap
 clear hcap hN hTO hRE
 go_enter Tryz.func11,Tryz.ntmps11
 go_wp2_with fail
 refine HSE.mono ?_
 rintro e w1 ⟨rfl,hb1⟩
 have HB1:Hid (Below w.heap.size w w1):=hb1
 clear hb1 HSE
 cases hS:sentB l
 ·have HE:Hid (bitsL l=0):=by
   show _=_
   unfold bitsL;rw [hS];rfl
  go_wp2
  go_ret
  exact ⟨ret_int HE.out.symm,HB1.out⟩
 ·have HE:Hid (bitsL l=bitsTo l l.length):=by
   show _=_
   unfold bitsL;rw [hS];rfl
  have HT:Hid (termOk l=true):=sent_ok hS
  clear hS
  go_wp2_with fail
  refine (iQBits HRE.out _ _ l c (HN.out.below HB1.out) HCAP.out hlen HT.out).mono ?_
  rintro e w2 ⟨rfl,hb2⟩
  have HB2:Hid (Below w.heap.size w w2):=HB1.out.trans (hb2.mono HB1.out.size)
  clear hb2
  go_wp2
  go_ret
  exact ⟨ret_int HE.out.symm,HB2.out⟩
end Pg14
namespace Pv14
open Go.RowKit
open Nd0 Pl1 Tm0 Tm1 Tm2 Tm5 Tm6 Tm8 Tm11 Tr0 Rw0 Vl1 Vl2 Vm0 Vm1 Sv5 Vm3 Pv5 Pv13
open Lx1 (ITermOk)
open Lx2 (IReached)
open Pg14 (iQBits)
open Ws1 (ret_int ret_bool)
def upTo (r:Nat->Nat) (e:List Int) (b:Bool):Nat->Bool
 | 0=>b
 | v+1=>upTo r e b v&&wordsB (r v) (e.getD v 0)
theorem upTo_false (r:Nat->Nat) (e:List Int) (v:Nat):upTo r e false v=false:=by
 induction v with
 | zero=>rfl
 | succ v ih=>show (_&&_)=_;rw [ih];rfl
theorem upTo_true (r:Nat->Nat) (e:List Int) (v:Nat):upTo r e true v=(List.range v).all fun v=>wordsB (r v) (e.getD v 0):=by
 induction v with
 | zero=>rfl
 | succ v ih=>show (_&&_)=_;rw [ih,List.range_succ,List.all_append];simp
theorem upTo_fit {l:List Nd} {r:Nat->Nat} {b:Bool} (h:FW l r b) (e:List Int):upTo r e b 8=fitT (root l) e:=by
 obtain ⟨h1,_,h3⟩:=h
 cases hn:needT (root l) with
 | none =>
   rw [hn] at h1
   rw [h1,fit_none hn]
   exact upTo_false r e 8
 | some q =>
   rw [hn] at h1
   rw [h1,fit_some hn]
   show upTo r e true 8=_
   rw [upTo_true]
   have h4:=h3 q hn
   show _=(List.range 8).all fun v=>wordsB (q.getD v 0) (e.getD v 0)
   rw [Bool.eq_iff_iff,List.all_eq_true,List.all_eq_true]
   constructor
   ·intro h v hv
    rw [<- h4 v (List.mem_range.1 hv)];exact h v hv
   ·intro h v hv
    rw [h4 v (List.mem_range.1 hv)];exact h v hv
theorem iHasV (hTO:ITermOk) (hRE:IReached) (w:World) (a ae:Option Addr) (l:List Nd) (e:List Int) (c ce:Nat) (hN:Nodes w a l) (hcap:l.length<=c) (hT:termOk l=true) (hI:Ints w ae e) :
 Calls Tryz.prog 65 #[.slice a l.length c,.slice ae e.length ce] w fun x w'=>x=.returned (.bool (decide (e.length=8)&&decide (bitsTo l l.length<=12)&&fitT (root l) e))/\Below w.heap.size w w':=by
 have HN:Hid (Nodes w a l):=hN
 have HT:Hid (termOk l=true):=hT
 have HTO:Hid ITermOk:=hTO
 have HRE:Hid IReached:=hRE
 have HCAP:Hid (l.length<=c):=hcap
 have HI:Hid (Ints w ae e):=hI
 obtain ⟨hl1,hl2⟩:=term_len hT
 clear hN hT hTO hcap hI hRE
 obtain ⟨B,hB⟩:∃ B,B=(decide (e.length=8)&&decide (bitsTo l l.length<=12)&&fitT (root l) e):=⟨_,rfl⟩
 rw [<- hB]
 have HBV:Hid (B=(decide (e.length=8)&&decide (bitsTo l l.length<=12)&&fitT (root l) e)):=hB
 clear hB
 by_cases he:e.length=8
 ·have HL:Hid (e.length=8):=he
  have HV:Hid (B=(decide (bitsTo l l.length<=12)&&fitT (root l) e)):=by
   show _=_
   rw [HBV.out,decide_eq_true he,Bool.true_and]
  rw [he]
  clear he HBV
  go_enter Tryz.func65,Tryz.ntmps65
  go_wp2_with fail
  refine (iQBits HRE.out w a l c HN.out HCAP.out (by omega) HT.out).mono ?_
  rintro e0 w1 ⟨rfl,hb1⟩
  have HB1:Hid (Below w.heap.size w w1):=hb1
  clear hb1
  by_cases hb:bitsTo l l.length<=12
  ·have HV2:Hid (B=fitT (root l) e):=by
    show _=_
    rw [HV.out,decide_eq_true hb,Bool.true_and]
   clear HV
   go_wp2_with fail
   refine (iFreeW HTO.out w1 a l c (HN.out.below HB1.out) HCAP.out HT.out).mono ?_
   rintro e0 w2 ⟨⟨r,b,rfl,hfw⟩,hb2⟩
   have HFW:Hid (FW l r b):=hfw
   have HB2:Hid (Below w.heap.size w w2):=HB1.out.trans (hb2.mono HB1.out.size)
   have HRB:Hid (∀ v,v < 8->r v < 2 ^ 9):=hfw.2.1
   unfold agg8
   clear hb2 hfw
   have HB3:Hid (Below w.heap.size w (w2.alloc (.cells #[.int .u16 (r 0:Int),.int .u16 (r 1:Int),.int .u16 (r 2:Int),.int .u16 (r 3:Int),.int .u16 (r 4:Int),.int .u16 (r 5:Int),.int .u16 (r 6:Int),.int .u16 (r 7:Int)] 118))):=HB2.out.alloc HB2.out.size _
   go_wp2_with fail
   generalize w2.alloc (.cells #[.int .u16 (r 0:Int),.int .u16 (r 1:Int),.int .u16 (r 2:Int),.int .u16 (r 3:Int),.int .u16 (r 4:Int),.int .u16 (r 5:Int),.int .u16 (r 6:Int),.int .u16 (r 7:Int)] 118)=w3 at HB3 ⊢
   go_loopw [6,23] (fun vb q wr=>∃ v:Nat,v<=8/\vb=.bool (upTo r e b v)/\q=.int .i64 (v:Int)/\wr=w3) (fun _ q _=>8 - (intOf q).toNat)
   case atStart=>exact ⟨0,Nat.zero_le _,rfl,rfl,rfl⟩
   case round =>
    obtain ⟨v,hv,rfl,rfl,rfl⟩:=hrel
    by_cases hv8:v < 8
    ·have hvz:(v:Int) < 8:=by omega
     have hX:=fun w=>idx8 r hv8 w
     have hm:=HRB.out v hv8
     rcases (HI.out.below HB3.out).2 with h0|⟨xb,xo,rfl,hc⟩
     ·have:=HL.out;omega
     have q0:=hc v (by have:=HL.out;omega)
     have HU:Hid (upTo r e b (v+1)=(upTo r e b v&&wordsB (r v) (e.getD v 0))):=rfl
     have hev:e[v]'(by have:=HL.out;omega)=e.getD v 0:=by rw [List.getD_eq_getElem?_getD,List.getElem?_eq_getElem (by have:=HL.out;omega)];rfl
     rw [hev] at q0
     clear hev hc
     have HW:Hid (∀ w:World,Calls Tryz.prog 85 #[.int .u16 (r v:Int),.int .i64 (e.getD v 0)] w fun x w'=>x=.returned (.bool (wordsB (r v) (e.getD v 0)))/\w'=w):=fun w=>iWords (r v) (e.getD v 0) w hm
     generalize e.getD v 0=ev at q0 HU HW
     generalize wordsB (r v) ev=wb at HU HW
     cases hu:upTo r e b v
     ·have HN1:Hid (upTo r e b (v+1)=false):=by
       show _=_
       rw [HU.out,hu];rfl
      go_wp2
      go_roundw
      case rel=>exact ⟨v+1,by omega,by rw [HN1.out],by go_num,trivial⟩
      case measure=>simp [intOf];omega
     ·have HN1:Hid (upTo r e b (v+1)=wb):=by
       show _=_
       rw [HU.out,hu];rfl
      go_wp2_with (go_at_call 85;refine (HW.out _).mono ?_;rintro e9 wr ⟨rfl,rfl⟩)
      go_roundw
      case rel=>exact ⟨v+1,by omega,by rw [HN1.out],by go_num,trivial⟩
      case measure=>simp [intOf];omega
    ·have hvz:¬ (v:Int) < 8:=by omega
     have e8:v=8:=by omega
     subst e8
     have HE:Hid (upTo r e b 8=B):=(upTo_fit HFW.out e).trans HV2.out.symm
     go_wp2
     go_ret
     exact ⟨ret_bool HE.out,HB3.out⟩
  ·have HV2:Hid (false=B):=by
    show _=_
    rw [HV.out,decide_eq_false hb,Bool.false_and]
   clear HV
   go_wp2
   go_ret
   exact ⟨ret_bool HV2.out,HB1.out⟩
 ·have HV:Hid (false=B):=by
   show _=_
   rw [HBV.out,decide_eq_false he,Bool.false_and,Bool.false_and]
  have hez:((e.length:Int) != 8)=true:=by simp;omega
  go_enter Tryz.func65,Tryz.ntmps65
  go_wp2
  go_ret
  exact ⟨ret_bool HV.out,Below.refl _ _⟩
end Pv14
namespace Pv15
open Go.RowKit
open Nd0 Pl1 Tm0 Tm1 Tm2 Tm5 Tm6 Tm8 Tm11 Tr0 Rw0 Vl1 Vl2 Vm0 Vm1 Vm2 Kp1 Sv5 Vm3 Pv5 Pv7 Pv12 Pv13 Pv14 Ic4
open Lx1 (ITermOk)
open Lx2 (IReached)
open Ws1 (ret_int ret_bool)
theorem toArr (b o ce:Nat) (w:World):(Instr.arrayAt 54 (.slice (some ⟨b,o,none⟩) 8 ce)).run Tryz.prog w=.ok (.pointer (some ⟨b,o,none⟩)) w:=by
 simp [Instr.arrayAt,run_underlying Tryz.underlying54,go_sem]
theorem store_new {ops:Array Oper} {rest:List Oper} {op:Oper} {a:Act} {Q:Exit->Act->World->Prop} (w:World) (hgd:op.guard=none) (ty:TypeId) (x y:Operand) (ho:op.op=.store ty x y)
 (c c':Array Value) (g:Nat) (hx:a.eval x=.pointer (some ⟨g,0,none⟩)) (hg:g=w.heap.size) (hy:a.eval y=.agg c') (hi:(Tryz.prog.info? ty).map (·.size)=some c'.size) (hs:c.size=c'.size) (h1:c'.all (·.oneCell')=true)
 (h:wpList Tryz.prog ops Q rest (a.put op.dst undef) (w.alloc (.cells c' ty))):wpList Tryz.prog ops Q (op :: rest) a (w.alloc (.cells c ty)) :=
 wpList_plain hgd fun _ hK=>wp_store_new w ty x y ho c c' g hx hg hy hi hs h1 (hK _ _ h)
theorem iValue (hTO:ITermOk) (hRE:IReached) (hIA:IApply):IValue:=by
 intro w a ae l e c ce hN hcap hlen hI hce
 have HN:Hid (Nodes w a l):=hN
 have HTO:Hid ITermOk:=hTO
 have HRE:Hid IReached:=hRE
 have HIA:Hid IApply:=hIA
 have HCAP:Hid (l.length<=c):=hcap
 have HI:Hid (Ints w ae e):=hI
 obtain ⟨V,hV⟩:∃ V,V=valueL l e:=⟨_,rfl⟩
 rw [<- hV]
 have HV:Hid (V=valueL l e):=hV
 clear hN hTO hcap hI hRE hIA hV
 cases hT:termOk l
 ·have HVN:Hid (V=none):=by
   show _=_
   rw [HV.out];unfold valueL;rw [hT];rfl
  go_enter Tryz.func36,Tryz.ntmps36
  go_wp2_with (go_at_call 25;refine (HTO.out w a l c HN.out HCAP.out hlen).mono ?_;rintro e0 w1 ⟨rfl,hb1⟩;rw [hT])
  go_ret2
  rw [HVN.out]
  exact ⟨rfl,hb1⟩
 ·obtain ⟨hl1,hl2⟩:=term_len hT
  have HT:Hid (termOk l=true):=hT
  obtain ⟨F,hF⟩:∃ F,F=(decide (e.length=8)&&decide (bitsTo l l.length<=12)&&fitT (root l) e):=⟨_,rfl⟩
  have HF:Hid (F=(decide (e.length=8)&&decide (bitsTo l l.length<=12)&&fitT (root l) e)):=hF
  have HVF:Hid (V=if F then some (vT (root l) e) else none):=by
   show _=_
   rw [HV.out,hF];unfold valueL;rw [hT,Bool.true_and]
  clear hF
  have HHV:Hid (∀ w1,Below w.heap.size w w1->Calls Tryz.prog 65 #[.slice a l.length c,.slice ae e.length ce] w1 fun x w'=>x=.returned (.bool F)/\Below w1.heap.size w1 w'):=fun w1 hb=>by
   rw [HF.out]
   exact iHasV HTO.out HRE.out w1 a ae l e c ce (HN.out.below hb) HCAP.out HT.out (HI.out.below hb)
  cases hFb:F
  ·rw [hFb] at HVF HHV
   have HVN:Hid (V=none):=HVF.out
   go_enter Tryz.func36,Tryz.ntmps36
   go_wp2_with (first|(go_at_call 25;refine (HTO.out w a l c HN.out HCAP.out hlen).mono ?_;rintro e0 w1 ⟨rfl,hb1⟩;rw [hT])|(go_at_call 65;refine (HHV.out _ hb1).mono ?_;rintro e0 w2 ⟨rfl,hb2⟩))
   go_ret2
   rw [HVN.out]
   exact ⟨rfl,hb1.trans (hb2.mono hb1.size)⟩
  ·rw [hFb] at HVF HHV
   have HVS:Hid (V=some (vT (root l) e)):=HVF.out
   have hFF:(decide (e.length=8)&&decide (bitsTo l l.length<=12)&&fitT (root l) e)=true:=by rw [<- HF.out];exact hFb
   simp only [Bool.and_eq_true] at hFF
   have he:e.length=8:=of_decide_eq_true hFF.1.1
   have HE:Hid (e.length=8):=he
   have HFN:Hid (FitN l (l.length - 1) e):=by
    have hf:=hFF.2
    cases hn:needT (root l) with
    | none=>rw [fit_none hn] at hf;cases hf
    | some q =>
      rw [fit_some hn] at hf
      exact ⟨q,hn,fit_iff.1 hf⟩
   rw [he] at HHV ⊢
   clear hFF HF HVF he hFb
   obtain ⟨zc,hzc⟩:∃ zc:Array Value,zc=Tryz.zeroCells90:=⟨_,rfl⟩
   have hZ:Zc zc:=by rw [hzc];exact zc_of
   rcases HI.out.2 with h0|⟨xb,xo,rfl,hc⟩
   ·have:=HE.out;omega
   have hX:=fun w=>toArr xb xo ce w
   have hxl:xb < w.heap.size:=lt_of_cell (hc 0 (by have:=HE.out;omega))
   have HQ:Hid (∀ W:World,Below w.heap.size w W->∀ i:Nat,i < 8->W.cell? ⟨xb,xo+i,none⟩=some (.int .i64 (wd e (i:Int)))):=by
    show ∀ _,_
    intro W hW i hi
    rw [hW.cell (p:=⟨xb,xo+i,none⟩) hxl,hc i (by have:=HE.out;omega),wd_get (by have:=HE.out;omega)]
   have hw1:IntKind.i64.wrap ((l.length:Int) - 1)=(l.length:Int) - 1:=by rw [IntKind.wrap_i64]<;>omega
   clear hc hxl
   go_enter Tryz.func36,Tryz.ntmps36
   go_wp2_with (first|(go_at_call 25;refine (HTO.out w a l c HN.out HCAP.out hlen).mono ?_;rintro e0 w1 ⟨rfl,hb1⟩;rw [hT];have HB1:Hid (Below w.heap.size w w1):=hb1;clear hb1)|(go_at_call 65;refine (HHV.out _ HB1.out).mono ?_;rintro e0 w2 ⟨rfl,hb2⟩;have HB2:Hid (Below w.heap.size w w2):=HB1.out.trans (hb2.mono HB1.out.size);have q0:=HQ.out _ HB2.out 0 (by omega);have q1:=HQ.out _ HB2.out 1 (by omega);have q2:=HQ.out _ HB2.out 2 (by omega);have q3:=HQ.out _ HB2.out 3 (by omega);have q4:=HQ.out _ HB2.out 4 (by omega);have q5:=HQ.out _ HB2.out 5 (by omega);have q6:=HQ.out _ HB2.out 6 (by omega);have q7:=HQ.out _ HB2.out 7 (by omega);rw [Nat.add_zero] at q0;clear hb2)|(rw [<- hzc];refine store_new _ rfl 90 (.tmp 6) (.tmp 20) rfl zc (scCells zc a l.length c e) _ rfl rfl rfl (by rw [sc_size hZ];exact info_sc) (by rw [sc_size hZ];exact hZ.size) (sc_one hZ _ _ _ _) ?_;clear hzc))
   have hBW:Below w2.heap.size w2 (w2.alloc (.cells (scCells zc a l.length c e) 90)):=(Below.refl _ _).alloc (Nat.le_refl _) _
   have hsc:=(sc_new w2 hZ a l c 90 e).1
   have hcall:=pVal HIA.out HT.out hl2 (l.length - 1) (by omega) _ w2.heap.size a c e _ _ ((HN.out.below HB2.out).below hBW) (fun y hy h=>by
    have h2:y.block < w.heap.size:=by
     rcases HN.out.2 with h0|⟨yb,yo,rfl,hc⟩
     ·omega
     ·have e:=Option.some.inj hy
      subst e
      exact (hc 0 (by omega)).lt
    have:=HB2.out.size
    omega) HE.out hsc HFN.out
   have e1:((l.length - 1:Nat):Int)=(l.length:Int) - 1:=by omega
   rw [e1] at hcall
   refine hcall.mono ?_
   rintro x0 w3 ⟨rfl,_,hK3⟩
   have HR:Hid (V=some (vT (tr l (l.length - 1)) e)):=HVS.out
   have HB3:Hid (Below w.heap.size w w3):=by
    have h1:=Kept.past (Kept.ofBelow (S:=fun _=>False) (HB2.out.trans (hBW.mono HB2.out.size))) hK3 (fun b h=>.inr (by have:=HB2.out.size;omega))
    exact ⟨h1.os,h1.tape,h1.output,h1.size,fun b hb=>h1.block b hb (fun h=>h)⟩
   clear hcall hsc hBW hK3 e1
   generalize vT (tr l (l.length - 1)) e=val at HR ⊢
   go_wp2
   go_ret2
   rw [HR.out]
   exact ⟨rfl,HB3.out⟩
end Pv15
namespace Fp4
open Go.RowKit
open Nd0 Qa0 Pl1 Tm0 Tm1 Tm6 Tm8 Tr0 Rw0 Vl1 Vl2 Vm0 Vm2 Kp1 Pv7 Pv12 Pv15 Fr0 Fr1 Fr4 Qi0 Qi1 Fp1 Ic4
open Ws1 (ret_int ret_bool)
def agg (e:List Int):Value:=.agg #[.int .i64 (wd e 0),.int .i64 (wd e 1),.int .i64 (wd e 2),.int .i64 (wd e 3),.int .i64 (wd e 4),.int .i64 (wd e 5),.int .i64 (wd e 6),.int .i64 (wd e 7)]
def PWo (ws:List Int) (l:List Nd) (q:List Qu):Prop:=∀ (w:World) (aq a:Option Addr) (cq c:Nat) (e:List Int),Qvs w aq q->q.length<=cq->Nodes w a l->EnvOk ws e ->
 Calls Tryz.prog 31 #[.slice aq q.length cq,.slice a l.length c,agg e] w fun x w'=>x=.returned (.int .i64 (hf q (root l) e))/\Below w.heap.size w w'
theorem results_int {w:World} {g:Nat} {x:Int} {tmps:Array Value} (hp:tmps.getD 6 undef=.pointer (some ⟨g,0,none⟩)) (hc:w.cell? ⟨g,0,none⟩=some (.int .i64 x)) :
 (results Tryz.f31 tmps).run Tryz.prog w=.ok (.int .i64 x) w:=by
 have hp':tmps[6]?.getD undef=.pointer (some ⟨g,0,none⟩):=by simpa using hp
 simp [results,Tryz.results31,go_sem,hp',hc]
structure Four (w W:World) (c0 c1 c2 c3:Array Value):Prop where
 sz:W.heap.size=w.heap.size+1+1+1+1
 below:Below w.heap.size w W
 a0:∀ (j:Nat) v,c0[j]? = some v->W.cell? ⟨w.heap.size,j,none⟩=some v
 a1:∀ (j:Nat) v,c1[j]? = some v->W.cell? ⟨w.heap.size+1,j,none⟩=some v
 a2:∀ (j:Nat) v,c2[j]? = some v->W.cell? ⟨w.heap.size+1+1,j,none⟩=some v/\W.frozen? ⟨w.heap.size+1+1,j,none⟩=false
 a3:∀ (j:Nat) v,c3[j]? = some v->W.cell? ⟨w.heap.size+1+1+1,j,none⟩=some v/\W.frozen? ⟨w.heap.size+1+1+1,j,none⟩=false
theorem four (w W:World) (c0 c1 c2 c3:Array Value) (t0 t1 t2 t3:Nat) (h:W=(((w.alloc (.cells c0 t0)).alloc (.cells c1 t1)).alloc (.cells c2 t2)).alloc (.cells c3 t3)):Four w W c0 c1 c2 c3:=by
 obtain ⟨wa,ha⟩:∃ wa,wa=w.alloc (.cells c0 t0):=⟨_,rfl⟩
 obtain ⟨wb,hb⟩:∃ wb,wb=wa.alloc (.cells c1 t1):=⟨_,rfl⟩
 obtain ⟨wc,hc⟩:∃ wc,wc=wb.alloc (.cells c2 t2):=⟨_,rfl⟩
 rw [<- ha,<- hb,<- hc] at h
 have sa:wa.heap.size=w.heap.size+1:=by rw [ha];simp
 have sb:wb.heap.size=w.heap.size+1+1:=by rw [hb];simp [sa]
 have sc:wc.heap.size=w.heap.size+1+1+1:=by rw [hc];simp [sb]
 have s1:W.heap.size=w.heap.size+1+1+1+1:=by rw [h];simp [sc]
 have ba:Below w.heap.size w wa:=by rw [ha];exact (Below.refl _ _).alloc (Nat.le_refl _) _
 have bb:Below wa.heap.size wa wb:=by rw [hb];exact (Below.refl _ _).alloc (Nat.le_refl _) _
 have bc:Below wb.heap.size wb wc:=by rw [hc];exact (Below.refl _ _).alloc (Nat.le_refl _) _
 have b1:Below wc.heap.size wc W:=by rw [h];exact (Below.refl _ _).alloc (Nat.le_refl _) _
 have bc1:Below wb.heap.size wb W:=bc.trans (b1.mono (by omega))
 have bb1:Below wa.heap.size wa W:=bb.trans (bc1.mono (by omega))
 refine ⟨s1,ba.trans (bb1.mono (by omega)),fun j v hv=>?_,fun j v hv=>?_,fun j v hv=>⟨?_,?_⟩,fun j v hv=>⟨?_,?_⟩⟩
 ·rw [bb1.cell (p:=⟨w.heap.size,j,none⟩) (show w.heap.size < _ by omega),ha,World.cell?_alloc_new];exact hv
 ·rw [<- sa,bc1.cell (p:=⟨wa.heap.size,j,none⟩) (show wa.heap.size < _ by omega),hb,World.cell?_alloc_new];exact hv
 ·rw [<- sb,b1.cell (p:=⟨wb.heap.size,j,none⟩) (show wb.heap.size < _ by omega),hc,World.cell?_alloc_new];exact hv
 ·rw [<- sb,b1.frozen (p:=⟨wb.heap.size,j,none⟩) (show wb.heap.size < _ by omega),hc];simp
 ·rw [<- sc,h,World.cell?_alloc_new];exact hv
 ·rw [<- sc,h];simp
theorem wo_nil (hIA:IApply) {ws:List Int} {l:List Nd} (hT:termOk l=true) (hty:Ty ws (root l)):PWo ws l []:=by
 intro w aq a cq c e hQ hcq hN hE
 obtain ⟨hl1,hl2⟩:=term_len hT
 have HN:Hid (Nodes w a l):=hN
 have HE:Hid (EnvOk ws e):=hE
 have HFN:Hid (FitN l (l.length - 1) e):=by
  obtain ⟨r,h1,h2⟩:=need_ty (root l) (rt_all (down_of hT) (fun k hk=>term_node hT hk) (l.length - 1) (by omega)).1 hty
  exact ⟨r,h1,fits_ty h2 hE⟩
 have HV:Hid (hf [] (root l) e=vT (tr l (l.length - 1)) e):=rfl
 have HPV:Hid (PVal l (l.length - 1)):=pVal hIA hT hl2 (l.length - 1) (by omega)
 obtain ⟨zc,hzc⟩:∃ zc:Array Value,zc=Tryz.zeroCells90:=⟨_,rfl⟩
 have hZ:Zc zc:=by rw [hzc];exact zc_of
 have hw1:IntKind.i64.wrap ((l.length:Int) - 1)=(l.length:Int) - 1:=by rw [IntKind.wrap_i64]<;>omega
 have e1:((l.length - 1:Nat):Int)=(l.length:Int) - 1:=by omega
 clear hN hE hQ
 unfold agg
 rw [show ([]:List Qu).length=0 from rfl]
 obtain ⟨W4,hW4⟩:∃ W4:World,W4=(((w.alloc (.cells #[.slice aq 0 cq] 48)).alloc (.cells #[.slice a l.length c] 24)).alloc (.cells #[.int .i64 (wd e 0),.int .i64 (wd e 1),.int .i64 (wd e 2),.int .i64 (wd e 3),.int .i64 (wd e 4),.int .i64 (wd e 5),.int .i64 (wd e 6),.int .i64 (wd e 7)] 54)).alloc (.cells #[.int .i64 0] 3):=⟨_,rfl⟩
 have F:=four w W4 _ _ _ _ _ _ _ _ hW4
 have hs4:=F.sz
 have HF:Hid (Four w W4 #[.slice aq 0 cq] #[.slice a l.length c] #[.int .i64 (wd e 0),.int .i64 (wd e 1),.int .i64 (wd e 2),.int .i64 (wd e 3),.int .i64 (wd e 4),.int .i64 (wd e 5),.int .i64 (wd e 6),.int .i64 (wd e 7)] #[.int .i64 0]):=F
 clear F
 go_enter Tryz.func31,Tryz.ntmps31
 go_wp2_with (rw [<- hzc,<- hW4];refine store_new _ rfl 90 (.tmp 7) (.tmp 17) rfl zc (scCells zc a l.length c e) _ rfl hs4.symm rfl (by rw [sc_size hZ];exact info_sc) (by rw [sc_size hZ];exact hZ.size) (sc_one hZ _ _ _ _) ?_;clear hzc;have hsc:=(sc_new W4 hZ a l c 90 e).1;have hBW:Below W4.heap.size W4 (W4.alloc (.cells (scCells zc a l.length c e) 90)):=(Below.refl _ _).alloc (Nat.le_refl _) _;generalize W4.alloc (.cells (scCells zc a l.length c e) 90)=W5 at hsc hBW;rw [hs4] at hsc;have r1:W5.cell? ⟨w.heap.size+1,0,none⟩=some (.slice a l.length c):=(hBW.cell (p:=⟨w.heap.size+1,0,none⟩) (show w.heap.size+1 < _ by omega)).trans (HF.out.a1 0 _ rfl);have HSC:Hid (Sc W5 (w.heap.size+1+1+1+1) a l c e (fun _=>false) (fun _=>0)):=hsc;have HBW:Hid (Below W4.heap.size W4 W5):=hBW;clear hsc hBW)
 have hN4:Nodes W4 a l:=HN.out.below HF.out.below
 have hblk:∀ y,a=some y->y.block≠w.heap.size+1+1+1+1:=fun y hy h=>by
  rcases HN.out.2 with h0|⟨xb,xo,hx,hc⟩
  ·omega
  ·rw [hy] at hx
   have h9:=(hc 0 (by omega)).lt
   have h10:=Option.some.inj hx
   rw [h10] at h
   have:xb=w.heap.size+1+1+1+1:=h
   omega
 have hcall:=HPV.out W5 (w.heap.size+1+1+1+1) a c e _ _ (hN4.below HBW.out) hblk HE.out.1 HSC.out HFN.out
 rw [e1] at hcall
 refine hcall.mono ?_
 rintro x0 w6 ⟨rfl,_,hK6⟩
 have q0:w6.cell? ⟨w.heap.size+1+1+1,0,none⟩=some (.int .i64 0):=by
  rw [hK6.cell (p:=⟨w.heap.size+1+1+1,0,none⟩) (show w.heap.size+1+1+1 < _ by have:=HBW.out.size;omega) (show ¬ w.heap.size+1+1+1=_ by omega),HBW.out.cell (p:=⟨w.heap.size+1+1+1,0,none⟩) (show w.heap.size+1+1+1 < _ by omega)]
  exact (HF.out.a3 0 _ rfl).1
 have q1:w6.frozen? ⟨w.heap.size+1+1+1,0,none⟩=false:=by
  rw [hK6.frozen (p:=⟨w.heap.size+1+1+1,0,none⟩) (show w.heap.size+1+1+1 < _ by have:=HBW.out.size;omega) (show ¬ w.heap.size+1+1+1=_ by omega),HBW.out.frozen (p:=⟨w.heap.size+1+1+1,0,none⟩) (show w.heap.size+1+1+1 < _ by omega)]
  exact (HF.out.a3 0 (.int .i64 0) rfl).2
 have HB6:Hid (Below w.heap.size w w6):=by
  have h1:Below w.heap.size w W5:=HF.out.below.trans (HBW.out.mono (by omega))
  exact h1.trans (hK6.below (fun b (hb:b=w.heap.size+1+1+1+1)=>by omega) h1.size)
 clear hcall hK6 hN4 hblk hW4
 generalize vT (tr l (l.length - 1)) e=val at HV ⊢
 go_wp2
 refine bodyPost_ret (results_int rfl (set_same q0)) rfl ?_
 refine ⟨by rw [HV.out],?_⟩
 exact HB6.out.setCell (p:=⟨w.heap.size+1+1+1,0,none⟩) (show w.heap.size<=w.heap.size+1+1+1 by omega) _
end Fp4
end Go.Proofs.YtebejleeadofcaaGreat
