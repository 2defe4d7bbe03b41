import Derived.RangeFuncNested
import Derived.RangeFuncBound
import Derived.RangeFuncCalls
import Derived.RangeFuncLeaves
import Derived.Shelf.RegionOpen
import Derived.OwnWalkIn
import Derived.TacticsInMore
import Derived.LoopNIn
import Derived.LoopIn
import Derived.OrdersHeld
import Derived.OrdersIn
import Derived.TacticsIn
import Derived.Test.YthanhcobfehmnaaGreatPkQU244
namespace Go.Proofs.YthanhcobfehmnaaGreat
set_option maxRecDepth 100000
set_option maxHeartbeats 8000000
set_option linter.unusedVariables false
namespace Pg9
open Go.RowKit
open Nd0 Pl1 Tm0 Tm1 Tm4 Tm5 Tm7 Ap0 Pg1 Pg2 Pg8 Rw0
open Ws1 (ret_int ret_bool)
open Lx1 (ITermOk)
theorem zeros8:Tryz.zeroCells145=Array.replicate 80 (.int .u8 0):=by kernel_rfl
theorem var_of {l:List Nd} {k:Nat} (h:nodeOk l k=true) (hop:(nth l k).op=1\/quant (nth l k).op=true):∃ kk:Nat,(nth l k).k=(kk:Int)/\kk<=7:=by
 simp only [nodeOk,Bool.and_eq_true] at h
 have hs:=h.2
 unfold shapeOk at hs
 have hb:0<=(nth l k).k/\(nth l k).k<=7:=by
  rcases hop with h1|h1
  ·rw [if_neg (by omega),if_pos h1] at hs
   simp at hs;omega
  ·have h2:(nth l k).op=19\/(nth l k).op=20:=by simpa [quant] using h1
   rw [if_neg (by omega),if_neg (by omega),if_neg (by omega),if_neg (by omega),if_neg (by omega),if_neg (by omega),if_neg (by omega),if_neg (by omega),if_pos h2] at hs
   simp at hs;omega
 exact ⟨(nth l k).k.toNat,by omega,by omega⟩
def Sets (l:List Nd) (k:Nat) (s:Nat->Nat):Prop:=(∀ i,i < k->Has (s i) (row (freeRows l k) (i:Int)))/\∀ i,k<=i->s i=0
theorem sets_next {l:List Nd} {k:Nat} {s s':Nat->Nat} {x:Nat} (h:Sets l k s) (hx:Has x (freeRow (freeRows l k) (nth l k))) (hs:∀ i,s' i=if i=k then x else s i):Sets l (k+1) s':=by
 constructor
 ·intro i hi
  rw [hs i]
  by_cases e:i=k
  ·subst e;rw [if_pos rfl,row_new];exact hx
  ·rw [if_neg e,row_old l k (i:Int) (by omega) (by omega)];exact h.1 i (by omega)
 ·intro i hi
  rw [hs i,if_neg (by omega)];exact h.2 i (by omega)
theorem iFreeSet (w:World) (a:Option Addr) (l:List Nd) (c:Nat) (hN:Nodes w a l) (hT:termOk l=true) :
 Calls Tryz.prog 108 #[.slice a l.length c] w fun e w'=>(∃ s:Nat,e=.returned (.int .u8 s)/\Has s (freeTop l))/\Below w.heap.size w w':=by
 have HN:Hid (Nodes w a l):=hN
 have HT:Hid (termOk l=true):=hT
 obtain ⟨hl1,hl2⟩:=term_len hT
 clear hN hT
 obtain ⟨g,hg⟩:∃ g:Nat,g=w.heap.size:=⟨_,rfl⟩
 have HG:Hid (g=w.heap.size):=hg
 have HR0:Hid (Row (w.alloc (.cells Tryz.zeroCells145 145)) g 80 (fun i=>.int .u8 (((fun _=>0) i:Nat):Int))):=by
  rw [hg]
  refine Row.new _ _ _ _ _ (fun i hi=>?_)
  rw [zeros8,Array.getElem?_replicate,if_pos hi];rfl
 have HB0:Hid (Below w.heap.size w (w.alloc (.cells Tryz.zeroCells145 145))):=(Below.refl _ _).alloc (Nat.le_refl _) _
 go_enter Tryz.func108,Tryz.ntmps108
 go_wp2
 rw [<- hg]
 clear hg
 generalize w.alloc (.cells Tryz.zeroCells145 145)=wa at HR0 HB0 ⊢
 go_loopw [10] (fun q wr=>∃ k:Nat,k<=l.length/\q=.int .i64 k/\∃ s:Nat->Nat,Row wr g 80 (fun i=>.int .u8 ((s i:Nat):Int))/\Sets l k s/\Below w.heap.size w wr) (fun q _=>l.length - (intOf q).toNat)
 case atStart=>exact ⟨0,Nat.zero_le _,rfl,_,HR0.out,⟨fun i hi=>by omega,fun i _=>rfl⟩,HB0.out⟩
 case round =>
  clear HR0 HB0
  obtain ⟨k,hk,rfl,s,hr,hs,hb⟩:=hrel
  have HR:Hid (Row wr g 80 (fun i=>.int .u8 ((s i:Nat):Int))):=hr
  have HS:Hid (Sets l k s):=hs
  have HB:Hid (Below w.heap.size w wr):=hb
  clear hr hs hb
  have hgl:g < wr.heap.size:=HR.out.lt (by omega)
  by_cases hlt:k < l.length
  ·have hlz:(k:Int) < (l.length:Int):=by omega
   have hk80:(k:Int) < 80:=by omega
   rcases (HN.out.below HB.out).2 with h0|⟨xb,xo,rfl,hc⟩
   ·omega
   obtain ⟨p0,p1,p2,p3,p4,p5⟩:=hc k hlt
   rw [nth_get hlt] at p0 p1 p2 p3 p4 p5
   clear hc
   have HPO:=parts_ok (term_node HT.out hlt)
   have HV:Hid ((nth l k).op=1\/quant (nth l k).op=true->∃ kk:Nat,(nth l k).k=(kk:Int)/\kk<=7):=fun h=>var_of (term_node HT.out hlt) h
   have HNX:Hid (∀ s' x,Has x (freeRow (freeRows l k) (nth l k))->(∀ i,s' i=if i=k then x else s i)->Sets l (k+1) s'):=fun s' x h1 h2=>sets_next HS.out h1 h2
   generalize hn:nth l k=n at p0 p1 p2 p3 p4 p5 HPO HV HNX
   clear hn
   have HPO':Hid (∀ j (hj:j < (parts n).length),0<=(parts n)[j]/\(parts n)[j] < k):=HPO
   clear HPO
   have hgn:¬ g=wr.heap.size:=by omega
   obtain ⟨c1,c2⟩:=HR.out k (by omega)
   by_cases h1:n.op=1
   ·obtain ⟨kk,hkk,hk7⟩:=HV.out (.inl h1)
    have h1b:(n.op==1)=true:=by simpa using h1
    rw [hkk] at p2
    have HX:Hid (Some_ (2 ^ kk) (freeRows l k) n 0):=some_start_var h1 hkk hk7
    have HP0:Hid (parts n=[]):=parts_none (by omega) (by omega) (by omega)
    have HQ0:Hid ((n.op==19||n.op==20)=false):=by show _=_;simp [h1]
    have hpe:(parts ⟨1,n.w,(kk:Int),n.a,n.b,n.c⟩).length=0:=by
     rw [parts_none (by simp) (by simp) (by simp)];rfl
    have HRX:Hid (Row (wr.setCell ⟨g,k,none⟩ (.int .u8 (2 ^ kk))) g 80 (fun i=>.int .u8 (((fun i=>if i=k then 2 ^ kk else s i) i:Nat):Int))):=by
     refine (HR.out.set (by omega) _).congr (fun i hi=>?_)
     by_cases e:i=k
     ·simp [e]
     ·simp [e]
    have HBX:Hid (Below w.heap.size w (wr.setCell ⟨g,k,none⟩ (.int .u8 (2 ^ kk)))) :=
     HB.out.trans (((Kept.refl (fun b=>b=g) wr).setCell (p:=⟨g,k,none⟩) rfl _).below (fun b hb=>by have:=HG.out;omega) HB.out.size)
    have hsz:(wr.setCell ⟨g,k,none⟩ (.int .u8 (2 ^ kk))).heap.size=wr.heap.size:=by simp [World.setCell]
    have HSZ:Hid ((wr.setCell ⟨g,k,none⟩ (.int .u8 (2 ^ kk))).heap.size=wr.heap.size):=hsz
    clear hsz
    go_wp2_with (go_at_call 124;refine (iJust kk _ hk7).mono ?_;rintro e w' ⟨rfl,rfl⟩)
    generalize wr.setCell ⟨g,k,none⟩ (.int .u8 (2 ^ kk))=wc at HRX HBX HSZ ⊢
    refine (iParts ⟨1,n.w,(kk:Int),n.a,n.b,n.c⟩ _).mono ?_
    rintro e w2 ⟨⟨pa,pc,rfl,hpi⟩,hb2⟩
    have hcs:wr.heap.size < (wc.alloc (.cells #[.int .i64 1,.int .i64 n.w,.int .i64 kk,.int .i64 n.a,.int .i64 n.b,.int .i64 n.c] 44)).heap.size:=by
     have:=HSZ.out;simp;omega
    have b0:w2.cell? ⟨wr.heap.size,0,none⟩=some (.int .i64 1):=by
     rw [hb2.cell hcs,<- HSZ.out,World.cell?_alloc_new];rfl
    have HR2:Hid (Row w2 g 80 (fun i=>.int .u8 (((fun i=>if i=k then 2 ^ kk else s i) i:Nat):Int))):=(HRX.out.below ((Below.refl _ _).alloc (Nat.le_refl _) _)).below hb2
    have HB2:Hid (Below w.heap.size w w2):=(HBX.out.alloc (by have:=HSZ.out;have:=HB.out.size;omega) _).trans (hb2.mono (by have:=HSZ.out;have:=HB.out.size;simp;omega))
    clear hpi hb2 hcs p0 p1 p2 p3 p4 p5 c1 c2
    have hq:quant 1=false:=by decide
    go_wp2_with fail
    go_loopw [26] (fun q wq=>q=.int .i64 0/\wq=w2) (fun _ _=>0)
    case atStart=>exact ⟨rfl,rfl⟩
    case round =>
     obtain ⟨rfl,rfl⟩:=hrel
     go_wp2_with (go_at_call 86;refine (iQuant _ _).mono ?_;rintro e w' ⟨rfl,rfl⟩;rw [hq])
     go_roundw
     case rel=>exact ⟨k+1,by omega,by go_num,_,HR2.out,HNX.out _ _ (some_end HX.out (by rw [HP0.out];simp) HQ0.out) (fun i=>rfl),HB2.out⟩
     case measure=>simp [intOf];omega
   ·have h1b:(n.op==1)=false:=by simpa using h1
    obtain ⟨wb,rfl⟩:∃ wb:World,wb=wr:=⟨_,rfl⟩
    go_wp2_with fail
    refine (iParts n _).mono ?_
    rintro e w2 ⟨⟨pa,pc,rfl,hpi⟩,hb2⟩
    have hBA:Below wb.heap.size wb (wb.alloc (.cells #[.int .i64 n.op,.int .i64 n.w,.int .i64 n.k,.int .i64 n.a,.int .i64 n.b,.int .i64 n.c] 44)):=(Below.refl _ _).alloc (Nat.le_refl _) _
    have HP:Hid (IntsIn w2 (wb.heap.size+1) w2.heap.size pa (parts n)):=by
     have h9:=hpi.within
     simp at h9
     exact h9
    have HR2:Hid (Row w2 g 80 (fun i=>.int .u8 ((s i:Nat):Int))):=(HR.out.below hBA).below hb2
    have HB2:Hid (Below w.heap.size w w2):=(HB.out.trans (hBA.mono HB.out.size)).trans (hb2.mono (by have:=HB.out.size;simp;omega))
    have hcs:wb.heap.size < (wb.alloc (.cells #[.int .i64 n.op,.int .i64 n.w,.int .i64 n.k,.int .i64 n.a,.int .i64 n.b,.int .i64 n.c] 44)).heap.size:=by simp
    have HC0:Hid (w2.cell? ⟨wb.heap.size,0,none⟩=some (.int .i64 n.op)):=by
     show _=_
     rw [hb2.cell hcs,World.cell?_alloc_new];rfl
    have HC2:Hid (w2.cell? ⟨wb.heap.size,2,none⟩=some (.int .i64 n.k)):=by
     show _=_
     rw [hb2.cell hcs,World.cell?_alloc_new];rfl
    have HS2:Hid (wb.heap.size < w2.heap.size):=Nat.lt_of_lt_of_le hcs hb2.size
    have HX0:Hid (Some_ 0 (freeRows l k) n 0):=some_start h1b
    clear hpi hb2 hBA hcs p0 p1 p2 p3 p4 p5 c1 c2 h1b
    have hpl:=parts_le n
    go_wp2_with fail
    go_loopw [26] (fun q wq=>∃ j:Nat,j<=(parts n).length/\q=.int .i64 j/\∃ x:Nat,Some_ x (freeRows l k) n j/\Row wq g 80 (fun i=>.int .u8 (((fun i=>if i=k then x else s i) i:Nat):Int))/\Kept (fun b=>b=g) w2 wq) (fun q _=>(parts n).length - (intOf q).toNat)
    case atStart =>
     refine ⟨0,Nat.zero_le _,rfl,0,HX0.out,HR2.out.congr (fun i hi=>?_),Kept.refl _ _⟩
     by_cases e:i=k
     ·subst e
      have:=HS.out.2 i (Nat.le_refl _)
      simp [this]
     ·simp [e]
    case round =>
     obtain ⟨j,hj,rfl,x,hx,hrx,hkx⟩:=hrel
     have HX:Hid (Some_ x (freeRows l k) n j):=hx
     have HRX:Hid (Row wr g 80 (fun i=>.int .u8 (((fun i=>if i=k then x else s i) i:Nat):Int))):=hrx
     have HKX:Hid (Kept (fun b=>b=g) w2 wr):=hkx
     have hx256:=hx.1
     clear hx hrx hkx
     have HBX:Hid (Below w.heap.size w wr):=HB2.out.trans (HKX.out.below (fun b hb=>by have:=HG.out;omega) HB2.out.size)
     obtain ⟨c1,c2⟩:=HRX.out k (by omega)
     simp only [if_true] at c1 c2
     by_cases hlt2:j < (parts n).length
     ·have hjz:(j:Int) < ((parts n).length:Int):=by omega
      rcases (HP.out.kept HKX.out (fun b h1 h2 e=>by omega)).2 with h0|⟨pb,po,rfl,hpB,hpU,hpc⟩
      ·omega
      have q0:=(hpc j hlt2).1
      obtain ⟨hy0,hy1⟩:=HPO'.out j hlt2
      have HNXT:Hid (∀ t,Has t (row (freeRows l k) (parts n)[j])->Some_ (x ||| t) (freeRows l k) n (j+1)):=fun t ht=>some_next HX.out hlt2 ht
      clear hpc hpB hpU
      generalize (parts n)[j]=y at q0 hy0 hy1 HNXT
      obtain ⟨jy,rfl⟩:=Int.eq_ofNat_of_zero_le hy0
      have hjk:jy < k:=by omega
      have hy80:(jy:Int) < 80:=by omega
      have HHY:Hid (Has (s jy) (row (freeRows l k) (jy:Int))):=HS.out.1 jy hjk
      obtain ⟨d1,_⟩:=HRX.out jy (by omega)
      have hne:¬ jy=k:=by omega
      simp only [if_neg hne] at d1
      have hs256:=HHY.out.1
      have hor:bits .or .u8 (x:Int) (s jy:Int)=((x ||| s jy:Nat):Int):=bits_or_u8_nat _ _ hx256 hs256
      clear hy0 hy1
      have HEND:Hid (∃ x',Some_ x' (freeRows l k) n (j+1)/\x'=x ||| s jy):=⟨_,HNXT.out _ HHY.out,rfl⟩
      generalize x ||| s jy=z at hor HEND
      generalize s jy=y at *
      go_wp2
      go_region
      all_goals
       go_wp2
       go_roundw
       case rel =>
        obtain ⟨x',hx',rfl⟩:=HEND.out
        refine ⟨j+1,by omega,by go_num,x',hx',?_,(HKX.out.setCell (p:=⟨g,k,none⟩) rfl _).drew⟩
        refine Row.drew ((HRX.out.set (by omega) _).congr (fun i hi=>?_))
        by_cases e:i=k
        ·simp [e]
        ·simp [e]
       case measure=>simp [intOf];omega
     ·have hjz:¬ (j:Int) < ((parts n).length:Int):=by omega
      have b0:wr.cell? ⟨wb.heap.size,0,none⟩=some (.int .i64 n.op):=by
       rw [HKX.out.cell (p:=⟨wb.heap.size,0,none⟩) HS2.out (fun e=>by simp at e;omega)];exact HC0.out
      cases hq:quant n.op
      ·go_wp2_with (go_at_call 86;refine (iQuant _ _).mono ?_;rintro e w' ⟨rfl,rfl⟩;rw [hq])
       go_roundw
       case rel=>exact ⟨k+1,by omega,by go_num,_,HRX.out,HNX.out _ _ (some_end HX.out (by omega) hq) (fun i=>rfl),HBX.out⟩
       case measure=>simp [intOf];omega
      ·obtain ⟨kk,hkk,hk7⟩:=HV.out (.inr hq)
       have b2:wr.cell? ⟨wb.heap.size,2,none⟩=some (.int .i64 kk):=by
        rw [HKX.out.cell (p:=⟨wb.heap.size,2,none⟩) HS2.out (fun e=>by simp at e;omega),<- hkk];exact HC2.out
       have HH:Hid (Has (x &&& (255 - 2 ^ kk)) (freeRow (freeRows l k) n)):=some_end_quant HX.out (by omega) hq hkk hk7
       have e256:2 ^ kk < 256:=Nat.lt_of_le_of_lt (Nat.pow_le_pow_right (n:=2) (by omega) hk7) (by decide)
       have hand:bits .andNot .u8 (x:Int) ((2 ^ kk:Nat):Int)=((x &&& (255 - 2 ^ kk):Nat):Int):=bits_andNot_u8_nat _ _ hx256 e256
       obtain ⟨pw,hpw⟩:∃ pw:Nat,pw=2 ^ kk:=⟨_,rfl⟩
       have HJ:Hid (∀ w:World,Calls Tryz.prog 124 #[.int .i64 kk] w fun e w'=>e=.returned (.int .u8 (pw:Int))/\w'=w):=by
        rw [hpw];exact fun w=>iJust kk w hk7
       rw [<- hpw] at hand HH
       clear hpw e256
       generalize x &&& (255 - pw)=z at hand HH
       clear hkk
       go_wp2_with (go_at_call 86;refine (iQuant _ _).mono ?_;rintro e w' ⟨rfl,rfl⟩;rw [hq])
       go_region_with (go_at_call 124;refine (HJ.out _).mono ?_;rintro e w' ⟨rfl,rfl⟩)
       all_goals
        go_wp2
        go_roundw
        case rel =>
         refine ⟨k+1,by omega,by go_num,(fun i=>if i=k then z else s i),?_,HNX.out _ _ HH.out (fun i=>rfl),?_⟩
         ·refine Row.drew ((HRX.out.set (by omega) _).congr (fun i hi=>?_))
          by_cases e:i=k
          ·simp [e]
          ·simp [e]
         ·exact (HBX.out.trans (((Kept.refl (fun b=>b=g) _).setCell (p:=⟨g,k,none⟩) rfl _).below (fun b (hb:b=g)=>by have:=HG.out;omega) HBX.out.size)).drew
        case measure=>simp [intOf];omega
  ·have e2:k=l.length:=by omega
   subst e2
   have cI:wr.cell? ⟨g,l.length - 1,none⟩=some (.int .u8 ((s (l.length - 1):Nat):Int)):=(HR.out (l.length - 1) (by omega)).1
   have HH:Hid (Has (s (l.length - 1)) (freeTop l)):=by
    have h9:=HS.out.1 (l.length - 1) (by omega)
    have e:((l.length - 1:Nat):Int)=(l.length:Int) - 1:=by omega
    rw [e] at h9
    exact h9
   have g1:(0:Int)<=(l.length:Int) - 1:=by omega
   have g2:(l.length:Int) - 1 < 80:=by omega
   go_wp2
   go_ret
   exact ⟨⟨_,rfl,HH.out⟩,HB.out⟩
end Pg9
namespace Pg14
open Go.RowKit
open Nd0 Pl1 Tm0 Tm1 Tm2 Tm4 Tm5 Tm6 Tm7 Tm8 Tm9 Tm10 Tm11 Ap0 Pg1 Rw0 Pg12 Pg13
open Lx1 (ITermOk)
open Lx2 (IReached)
open Pg9 (iFreeSet)
open Ws1 (ret_int ret_bool)
theorem iSentence (hTO:ITermOk) (hRE:IReached) (w:World) (a:Option Addr) (l:List Nd) (c:Nat) (hN:Nodes w a l) (hcap:l.length<=c) (hlen:l.length<=1048576) :
 Calls Tryz.prog 78 #[.slice a l.length c] w fun e w'=>e=.returned (.bool (sentB l))/\Below w.heap.size w w':=by
 have HN:Hid (Nodes w a l):=hN
 have HTO:Hid ITermOk:=hTO
 have HRE:Hid IReached:=hRE
 have HCAP:Hid (l.length<=c):=hcap
 clear hcap hN hTO hRE
 go_enter Tryz.func78,Tryz.ntmps78
 go_wp2_with fail
 refine (HTO.out _ a l c HN.out HCAP.out hlen).mono ?_
 rintro e w1 ⟨rfl,hb1⟩
 have HB1:Hid (Below w.heap.size w w1):=hb1
 clear hb1
 cases hT:termOk l
 ·have HF:Hid (sentB l=false):=sent_term hT
  go_wp2
  go_ret
  exact ⟨ret_bool HF.out.symm,HB1.out⟩
 ·have HT:Hid (termOk l=true):=hT
  obtain ⟨hl1,hl2⟩:=term_len hT
  clear hT
  rcases (HN.out.below HB1.out).2 with h0|⟨xb,xo,rfl,hc⟩
  ·omega
  have p1:=(hc (l.length - 1) (by omega)).c1
  rw [nth_get (by omega:l.length - 1 < l.length)] at p1
  clear hc
  have g1:(0:Int)<=(l.length:Int) - 1:=by omega
  have g2:(l.length:Int) - 1 < (l.length:Int):=by omega
  cases hw1:((nth l (l.length - 1)).w != 1)
  ·have hw1':(nth l (l.length - 1)).w=1:=by simpa using hw1
   have HW1:Hid ((nth l (l.length - 1)).w=1):=hw1'
   clear hw1'
   generalize (nth l (l.length - 1)).w=rw at p1 hw1
   go_wp2_with fail
   refine (iFreeSet _ _ l c (HN.out.below HB1.out) HT.out).mono ?_
   rintro e w2 ⟨⟨s,rfl,hs⟩,hb2⟩
   have HB2:Hid (Below w.heap.size w w2):=HB1.out.trans (hb2.mono HB1.out.size)
   have HZ:Hid (s=0↔(freeL l).length=0):=set_zero HT.out hs
   clear hs hb2 p1 g1 g2
   by_cases hf:s=0
   ·have HF0:Hid ((freeL l).length=0):=HZ.out.1 hf
    have hz:((s:Int) != 0)=false:=by simp;omega
    clear hf HZ
    go_wp2_with fail
    refine (HRE.out _ _ l c (HN.out.below HB2.out) HCAP.out hlen).mono ?_
    rintro e w3 ⟨⟨a3,c3,rfl,hi3⟩,hb3⟩
    have HRE2:Hid (reachedL l=reachTo l l.length):=by
     show _=_
     unfold reachedL;rw [HT.out];rfl
    rw [HRE2.out] at hi3 ⊢
    have HI3:Hid (Ints w3 a3 (reachTo l l.length)):=hi3.ints
    have HB3:Hid (Below w.heap.size w w3):=HB2.out.trans (hb3.mono HB2.out.size)
    clear hi3 hb3
    go_wp2_with fail
    refine (iBound _ _ a3 l c c3 (HN.out.below HB3.out) HT.out HI3.out).mono ?_
    rintro e w4 ⟨⟨b4,rfl,hy4,hn4⟩,hb4⟩
    have HB4:Hid (Below w.heap.size w w4):=HB3.out.trans (hb4.mono HB3.out.size)
    have HI4:Hid (Ints w4 a3 (reachTo l l.length)):=HI3.out.below hb4
    have HY4:Hid (b4=true->∃ ws,quantsTo l l.length=some ws/\Wid l ws):=hy4
    have HN4:Hid (b4=false->sentB l=false):=hn4
    clear hy4 hn4 hb4
    cases b4
    ·have HF:Hid (sentB l=false):=HN4.out rfl
     clear HY4 HN4
     go_wp2
     go_ret
     exact ⟨ret_bool HF.out.symm,HB4.out⟩
    ·obtain ⟨ws,hq,hw⟩:=HY4.out rfl
     have HQ:Hid (quantsTo l l.length=some ws):=hq
     have HWI:Hid (Wid l ws):=hw
     clear HY4 HN4 hq hw
     go_wp2_with fail
     refine (iMovable _ _ a3 l c c3 (HN.out.below HB4.out) HT.out HI4.out).mono ?_
     rintro e w5 ⟨⟨b5,rfl,hy5,hn5⟩,hb5⟩
     have HB5:Hid (Below w.heap.size w w5):=HB4.out.trans (hb5.mono HB4.out.size)
     have HS:Hid (sentB l=b5):=by
      show _=_
      cases b5
      ·exact hn5 rfl
      ·exact sent_all HT.out HW1.out HF0.out HQ.out HWI.out (hy5 rfl)
     clear hy5 hn5 hb5
     go_wp2
     go_ret
     exact ⟨ret_bool HS.out.symm,HB5.out⟩
   ·have HF:Hid (sentB l=false):=sent_free (fun h=>hf (HZ.out.2 h))
    have hz:((s:Int) != 0)=true:=by simp;omega
    clear hf HZ
    go_wp2
    go_ret
    exact ⟨ret_bool HF.out.symm,HB2.out⟩
  ·have HF:Hid (sentB l=false):=sent_root (by simpa using hw1)
   generalize (nth l (l.length - 1)).w=rw at p1 hw1
   go_wp2
   go_ret
   exact ⟨ret_bool HF.out.symm,HB1.out⟩
theorem iQBits (hRE:IReached) (w:World) (a:Option Addr) (l:List Nd) (c:Nat) (hN:Nodes w a l) (hcap:l.length<=c) (hlen:l.length<=1048576) (hT:termOk l=true) :
 Calls Tryz.prog 45 #[.slice a l.length c] w fun e w'=>e=.returned (.int .i64 (bitsTo l l.length))/\Below w.heap.size w w':=by
 have HN:Hid (Nodes w a l):=hN
 have HRE:Hid IReached:=hRE
 have HCAP:Hid (l.length<=c):=hcap
 have HT:Hid (termOk l=true):=hT
 obtain ⟨hl1,hl2⟩:=term_len hT
 clear hcap hN hRE hT
 go_enter Tryz.func45,Tryz.ntmps45
 go_wp2_with fail
 refine (HRE.out _ _ l c HN.out HCAP.out hlen).mono ?_
 rintro e w2 ⟨⟨a2,c2,rfl,hi2⟩,hb2⟩
 have HRE2:Hid (reachedL l=reachTo l l.length):=by
  show _=_
  unfold reachedL;rw [HT.out];rfl
 rw [HRE2.out] at hi2 ⊢
 have HI2:Hid (Ints w2 a2 (reachTo l l.length)):=hi2.ints
 have HB2:Hid (Below w.heap.size w w2):=hb2
 have hRl:=reachTo_length l l.length
 clear hi2 hb2
 go_wp2_with fail
 go_loop [3,9] (fun v q=>∃ (j:Nat) (x:Nat),j<=(reachTo l l.length).length/\q=.int .i64 j/\x<=l.length/\(reachTo l x).length=j/\v=.int .i64 (bitsTo l x)) (fun _ q=>(reachTo l l.length).length - (intOf q).toNat)
 case atStart=>exact ⟨0,0,Nat.zero_le _,rfl,Nat.zero_le _,rfl,rfl⟩
 case round =>
  obtain ⟨j,x,hj,rfl,hxl,hxj,rfl⟩:=hrel
  have HXJ:Hid ((reachTo l x).length=j):=hxj
  clear hxj
  by_cases hlt:j < (reachTo l l.length).length
  ·have hjz:(j:Int) < ((reachTo l l.length).length:Int):=by omega
   obtain ⟨y,hy,hyl,hyf,hyj⟩:=reach_at l l.length j hlt
   rcases HI2.out.2 with h0|⟨pb,po,rfl,hpc⟩
   ·omega
   have q0:=hpc j hlt
   rw [hy] at q0
   clear hpc hy
   rcases (HN.out.below HB2.out).2 with h0|⟨xb,xo,rfl,hc⟩
   ·omega
   have hyz:(y:Int) < (l.length:Int):=by omega
   have p0:=(hc y hyl).c0
   have p4:=(hc y hyl).c4
   rw [nth_get hyl] at p0 p4
   clear hc
   have HBY:Hid (bitsTo l y=bitsTo l x):=bits_same l (by rw [HXJ.out,hyj])
   have HRS:Hid ((reachTo l (y+1)).length=j+1):=reach_step hyf hyj
   have HBN:Hid (bitsTo l (y+1)=if quant (nth l y).op then bitsTo l x+(nth l y).b else bitsTo l x):=by
    show (if _ then _ else _)=_
    rw [hyf,Bool.true_and,HBY.out]
   have hbb:=bits_bound HT.out x hxl
   have HQB:Hid (quant (nth l y).op=true->1<=(nth l y).b/\(nth l y).b<=8):=fun h=>quant_b (term_node HT.out hyl) h
   clear hyf hyj
   generalize bitsTo l x=z at HBY HBN hbb ⊢
   generalize nth l y=n at p0 p4 HBN HQB
   obtain ⟨hb0,hb9⟩:=hbb
   cases hqu:quant n.op
   ·have HB2':Hid (bitsTo l (y+1)=z):=by
     show _=_
     rw [HBN.out,hqu];rfl
    go_wp2_with (go_at_call 86;refine (iQuant _ _).mono ?_;rintro e w' ⟨rfl,rfl⟩;rw [hqu])
    go_round
    case rel=>exact ⟨j+1,y+1,by omega,by go_num,by omega,HRS.out,by rw [HB2'.out]⟩
    case measure=>simp [intOf];omega
   ·have HB2':Hid (bitsTo l (y+1)=z+n.b):=by
     show _=_
     rw [HBN.out,hqu];rfl
    obtain ⟨hq1,hq2⟩:=HQB.out hqu
    go_wp2_with (go_at_call 86;refine (iQuant _ _).mono ?_;rintro e w' ⟨rfl,rfl⟩;rw [hqu])
    go_round
    case rel=>exact ⟨j+1,y+1,by omega,by go_num,by omega,HRS.out,by rw [HB2'.out]⟩
    case measure=>simp [intOf];omega
  ·have hjz:¬ (j:Int) < ((reachTo l l.length).length:Int):=by omega
   have HBE:Hid (bitsTo l l.length=bitsTo l x):=bits_same l (by rw [HXJ.out];omega)
   go_wp2
   go_ret
   exact ⟨ret_int (by rw [HBE.out]),HB2.out⟩
end Pg14
namespace Pv6
open Go.RowKit Go.Shelf
open Pl1 Vl1 Vl2
open Pg1 (iWordOk)
attribute [local go_sem] Oper.semAt_some
theorem iEach (b:Int) (w:World) :
 Calls Tryz.prog 117 #[.int .i64 b] w fun e w'=>e=.returned (.func (.func 127) #[] #[.pointer (some ⟨w.heap.size,0,none⟩)])/\w'=w.alloc (.cells #[.int .i64 b] 3):=by
 go_enter Tryz.func117,Tryz.ntmps117
 go_wp2
 go_ret
 exact ⟨rfl,rfl⟩
theorem fin_take {M j:Nat} (h:j < M):(List.finRange M).take (j+1)=(List.finRange M).take j++[⟨j,h⟩]:=by
 rw [List.take_succ_eq_append_getElem (by simp;exact h)]
 simp
theorem wok_lt {b:Int} (h1:1<=b) (h8:b<=8) (j:Nat):wok b (j:Int)=decide (j < 2 ^ b.toNat):=by
 rw [Bool.eq_iff_iff,wok_iff,decide_eq_true_iff,p2_nat]
 omega
theorem words_stops (n n₀ Bn:Nat) (b:Int) (h1:1<=b) (h8:b<=8) (w:World) (hB:Bn < n₀) (hn:n₀<=w.heap.size) (hc:w.cell? ⟨Bn,0,none⟩=some (.int .i64 b)) :
 SeqStopsK Fence.wide n Tryz.prog 127 #[.pointer (some ⟨Bn,0,none⟩)] (fun k:Fin (2 ^ b.toNat) => #[Value.int .i64 (k.val:Int)]) (Below n₀) (fun xs=>xs=List.finRange (2 ^ b.toNat)) (fun _=>True) (2 ^ b.toNat) w:=fun l J Jx W hW hJ hJx hY h0=>by
 have hcW:W.cell? ⟨Bn,0,none⟩=some (.int .i64 b):=(hW.cell (p:=⟨Bn,0,none⟩) (show Bn < w.heap.size by omega)).trans hc
 have hw:∀ j:Nat,wok b (j:Int)=decide (j < 2 ^ b.toNat):=fun j=>wok_lt h1 h8 j
 have hM:2 ^ b.toNat<=256:=Nat.pow_le_pow_right (n:=2) (by omega) (show b.toNat<=8 by omega)
 generalize 2 ^ b.toNat=M at *
 refine callsIn_of_wp Tryz.func127 rfl trivial ?_ rfl
 simp only [Tryz.ntmps127,List.size_toArray,List.length_cons,List.length_nil,Nat.reduceAdd,Nat.reduceSub,Array.replicate_succ,Array.replicate_zero,List.push_toArray,List.append_toArray,List.nil_append,List.cons_append]
 gi_wp2
 gi_loopw [3] (fun q wr=>∃ j:Nat,j<=M/\q=.int .i64 (j:Int)/\J ((List.finRange M).take j) wr/\Below n₀ W wr) (fun q _=>M - (intOf q).toNat)
 case atStart=>exact ⟨0,Nat.zero_le _,rfl,h0,Below.refl _ _⟩
 case round =>
  obtain ⟨j,hj,rfl,hJs,hBe⟩:=hrel
  have HJS:Hid (J ((List.finRange M).take j) wr):=hJs
  have HBE:Hid (Below n₀ W wr):=hBe
  have hcr:wr.cell? ⟨Bn,0,none⟩=some (.int .i64 b):=(hBe.cell (p:=⟨Bn,0,none⟩) hB).trans hcW
  have hwj:=hw j
  by_cases hlt:j < M
  ·rw [decide_eq_true hlt] at hwj
   obtain ⟨fn,tmps,assign,body,hy,hR⟩:=hY ((List.finRange M).take j) ⟨j,hlt⟩ wr hJs (by simp;omega)
   have hjz:(j:Int)<=255:=by omega
   clear hw hY hJs hBe
   gi_wp2_with (refine ⟨trivial,(fun h=>absurd h (by decide)),?_⟩;gi_at_call 89;refine (callsIn_wide.2 (iWordOk _ _ _)).mono ?_;rintro e wr ⟨rfl,rfl⟩;rw [hwj])
   refine ⟨(fun h=>absurd h (by decide)),hR.mono ?_⟩
   rintro e W3 (⟨rfl,hJ3,hk3⟩|⟨rfl,hJx3⟩)
   ·have HJ3:Hid (J ((List.finRange M).take (j+1)) W3):=by rw [fin_take hlt];exact hJ3
    have HB3:Hid (Below n₀ W W3):=HBE.out.trans hk3
    clear hJ3 hk3
    gi_wp2
    go_roundw
    case rel=>exact ⟨j+1,by omega,by go_num,HJ3.out,HB3.out⟩
    case measure=>simp [intOf];omega
   ·have HJ3:Hid (Jx ((List.finRange M).take j++[⟨j,hlt⟩]) W3):=hJx3
    clear hJx3
    gi_wp2
    refine bodyPost_ret (results_none rfl _ _ _) rfl ?_
    exact ⟨⟨_,rfl⟩,.inr ⟨_,trivial,HJ3.out⟩⟩
  ·rw [decide_eq_false hlt] at hwj
   have HJE:Hid (j=M):=by
    show _=_
    omega
   clear hw hY hJs hBe
   gi_wp2_with (refine ⟨trivial,(fun h=>absurd h (by decide)),?_⟩;gi_at_call 89;refine (callsIn_wide.2 (iWordOk _ _ _)).mono ?_;rintro e wr ⟨rfl,rfl⟩;rw [hwj])
   go_end0
   exact ⟨⟨_,rfl⟩,.inl ⟨_,rfl,by have h9:=HJS.out;rw [HJE.out,List.take_of_length_le (by simp)] at h9;exact h9⟩⟩
end Pv6
namespace Lift
open Go.RowKit
variable {l n:Nat} {P:Program} {ops:Array Oper} {Q:Exit->Act->World->Prop} {md:Region.Mode}
theorem op_lift {o:Oper} {a:Act} {w:World} {K:Act->World->Prop} (hd:∀ c,o.op≠.defer c) (h:o.wp P a w K Q):o.wpIn (Fence.wide.inRound l) n P a w K Q:=by
 refine ⟨fun f _=>trivial,?_⟩
 show o.uponIn (Fence.wide.inRound l) n P a K Q ((o.semAt (some l) a.eval).run P w)
 rw [Oper.semAt_some l a.eval o hd]
 unfold Oper.wp at h
 generalize (execOp a.eval o).run P w=r at h ⊢
 cases r with
 | ok x w' =>
   cases x<;>simp only [Oper.upon] at h<;>simp only [Oper.uponIn]
   all_goals first
    | exact h
    | exact ⟨(fun h0=>Bool.noConfusion (show false=true from h0)),CallsIn.inRound l (callsIn_wide.2 h)⟩
    | exact ⟨(fun h0=>Bool.noConfusion (show false=true from h0)),(fun c cs _=>by
     obtain ⟨v,w',r,s⟩:=h c cs
     exact ⟨v,w',r,stepsIn_wide.2 s⟩)⟩
 | halt x w'=>cases x<;>simp only [Oper.upon] at h<;>simp only [Oper.uponIn]<;>exact h
theorem any_lift (hL:¬ LetsOut Q) (hd:∀ (i:Nat) (o:Oper),ops[i]? = some o->∀ c,o.op≠.defer c):∀ (fuel:Nat) (listed:Array Bool) (a:Act) (w:World),wpAny P md ops Q fuel listed a w->wpAnyIn (Fence.wide.inRound l) n P md ops Q fuel listed a w:=by
 intro fuel
 induction fuel with
 | zero=>intro listed a w h;exact h
 | succ fuel ih =>
   intro listed a w h
   refine ⟨h.1,fun i hi=>?_⟩
   have h2:=h.2 i hi
   unfold wpOp at h2
   unfold wpOpIn
   cases ho:ops[i]? with
   | none=>rw [ho] at h2;exact ih _ _ _ h2
   | some o =>
     rw [ho] at h2
     dsimp only at h2 ⊢
     split
     ·rename_i hw
      rw [if_pos hw] at h2
      rcases h2 with h3|h3
      ·exact op_lift (hd i o ho) (Oper.wp_mono (fun a w h=>ih _ _ _ h) h3)
      ·exact absurd h3.2 hL
     ·rename_i hw
      rw [if_neg hw] at h2
      exact ⟨fun f _=>trivial,ih _ _ _ h2⟩
def noDefer (ops:Array Oper):Bool:=ops.toList.all fun o=>match o.op with
 | .defer _=>false
 | _=>true
theorem noDefer_of (h:noDefer ops=true):∀ (i:Nat) (o:Oper),ops[i]? = some o->∀ c,o.op≠.defer c:=by
 intro i o ho c hc
 have h2:=List.all_eq_true.1 h o (by
  obtain ⟨hi,rfl⟩:=Array.getElem?_eq_some_iff.1 ho
  simp)
 rw [hc] at h2
 cases h2
theorem region_lift {S:World->Prop} {id:Nat} {a:Act} {w:World} (hm:P.follows .mixedOrders=true) (hL:¬ LetsOut Q) (hd:noDefer ops=true)
 (hS:S w.drew) (h:S w.drew->wpAnyH P .any ops Q S ops.size (Array.replicate ops.size false) a w.drew):(Code.region id ops true).wpIn (Fence.wide.inRound l) n P Q a w :=
 wpIn_region_any hm (any_lift hL (noDefer_of hd) _ _ _ _ (wpAny_of_held _ _ _ _ (h hS)))
end Lift
namespace Vm2
open Nd0 Pl1 Pl2 Tm0 Tm1 Tm3 Tm5 Tm6 Tm8 Tm11 Tm13 Tm14 Tr0 Vl1 Vl2 Vm0 Vm1
def FitN (l:List Nd) (i:Nat) (e:List Int):Prop:=∃ r,needT (tr l i)=some r/\Fits r e
theorem FitN.part {l:List Nd} (hD:Down l) {i:Nat} (hi:i < l.length) {e:List Int} (h:FitN l i e) (hq:quant (nth l i).op=false) {p:Int} (hp:p∈parts (nth l i)):FitN l p.toNat e:=by
 obtain ⟨r,hr,hF⟩:=h
 rw [tr_at hD hi] at hr
 generalize nth l i=n at hp hq hr
 have hq2:¬ n.op=19/\¬ n.op=20:=by simpa [quant] using hq
 by_cases h1:n.op=2\/n.op=17\/n.op=19\/n.op=20
 ·rw [mk_one h1] at hr
  rw [parts_one h1] at hp
  simp only [List.mem_cons,List.not_mem_nil,or_false] at hp
  subst hp
  simp only [needT] at hr
  cases hn:needT (tr l n.a.toNat) with
  | none=>rw [hn] at hr;cases hr
  | some s =>
    rw [hn] at hr
    simp only [Option.bind_some,hq,Bool.false_eq_true,if_false] at hr
    cases hr
    exact ⟨_,hn,hF⟩
 ·by_cases h2:3<=n.op/\n.op<=16
  ·rw [mk_two h2] at hr
   rw [parts_two h2] at hp
   simp only [List.mem_cons,List.not_mem_nil,or_false] at hp
   simp only [needT] at hr
   cases hx:needT (tr l n.a.toNat) with
   | none=>rw [hx] at hr;cases hr
   | some s =>
     cases hy:needT (tr l n.b.toNat) with
     | none=>rw [hx,hy] at hr;cases hr
     | some t =>
       rw [hx,hy] at hr
       simp only [Option.bind_some] at hr
       cases hr
       rcases hp with rfl|rfl
       ·exact ⟨s,hx,hF.left⟩
       ·exact ⟨t,hy,hF.right⟩
  ·by_cases h3:n.op=18
   ·rw [mk_three h3] at hr
    rw [parts_three h3] at hp
    simp only [List.mem_cons,List.not_mem_nil,or_false] at hp
    simp only [needT] at hr
    cases hx:needT (tr l n.a.toNat) with
    | none=>rw [hx] at hr;cases hr
    | some s =>
      cases hy:needT (tr l n.b.toNat) with
      | none=>rw [hx,hy] at hr;cases hr
      | some t =>
        cases hz:needT (tr l n.c.toNat) with
        | none=>rw [hx,hy,hz] at hr;cases hr
        | some u =>
          rw [hx,hy,hz] at hr
          simp only [Option.bind_some] at hr
          cases hr
          rcases hp with rfl|rfl|rfl
          ·exact ⟨s,hx,hF.left.left⟩
          ·exact ⟨t,hy,hF.left.right⟩
          ·exact ⟨u,hz,hF.right⟩
   ·rw [parts_none h1 h2 h3] at hp
    cases hp
theorem FitN.below {l:List Nd} (hD:Down l) {i:Nat} (hi:i < l.length) (hN:nodeOk l i=true) {e:List Int} (he:e.length=8) (h:FitN l i e) (hq:quant (nth l i).op=true) {k:Nat} (hk:k < 2 ^ (nth l i).b.toNat):FitN l (nth l i).a.toNat (e.set (nth l i).k.toNat (k:Int)):=by
 obtain ⟨r,hr,hF⟩:=h
 have hkk:=shape_var hN (.inr hq)
 have hbb:=quant_b hN hq
 rw [tr_at hD hi] at hr
 generalize nth l i=n at hq hr hkk hbb hk
 have hq2:n.op=19\/n.op=20:=by simpa [quant] using hq
 rw [mk_one (by omega)] at hr
 simp only [needT] at hr
 cases hn:needT (tr l n.a.toNat) with
 | none=>rw [hn] at hr;cases hr
 | some s =>
   rw [hn] at hr
   simp only [Option.bind_some,hq,if_true] at hr
   by_cases hc:s.getD n.k.toNat 0≠0/\s.getD n.k.toNat 0≠2 ^ n.b.toNat
   ·rw [if_pos hc] at hr;cases hr
   ·rw [if_neg hc] at hr
    cases hr
    exact ⟨s,hn,Fits.below (need_len _ _ hn) he hkk hbb hk hc hF⟩
theorem FitN.word {l:List Nd} (hT:termOk l=true) {i:Nat} (hi:i < l.length) {e:List Int} (he:e.length=8) (h:FitN l i e):wok (nth l i).w (vT (tr l i) e)=true:=by
 obtain ⟨r,hr,hF⟩:=h
 have h2:=rt_all (down_of hT) (fun k hk=>term_node hT hk) i hi
 have:=value_word _ r e h2.1 hr he hF
 rw [h2.2] at this
 exact this
def hitB (l:List Nd) (e:List Int) (n:Nd) (x:Int):Bool:=(List.range (2 ^ n.b.toNat)).any fun (k:Nat)=>vT (tr l n.a.toNat) (e.set n.k.toNat (k:Int))==x
theorem hit_iff {l:List Nd} {e:List Int} {n:Nd} {x:Int}:hitB l e n x=true↔∃ k:Nat,k < 2 ^ n.b.toNat/\vT (tr l n.a.toNat) (e.set n.k.toNat (k:Int))=x:=by
 unfold hitB
 rw [List.any_eq_true]
 constructor
 ·rintro ⟨k,h1,h2⟩;exact ⟨k,List.mem_range.1 h1,by simpa using h2⟩
 ·rintro ⟨k,h1,h2⟩;exact ⟨k,List.mem_range.2 h1,by simpa using h2⟩
theorem vT_hit {l:List Nd} (hT:termOk l=true) {i:Nat} (hi:i < l.length) {e:List Int} (he:e.length=8) (h:FitN l i e) (hq:quant (nth l i).op=true) :
 vT (tr l i) e=if (nth l i).op=19 then (if (!hitB l e (nth l i) 0) then 1 else 0) else (if hitB l e (nth l i) 1 then 1 else 0):=by
 have hD:=down_of hT
 have hq2:(nth l i).op=19\/(nth l i).op=20:=by simpa [quant] using hq
 have haa:=hD i hi (nth l i).a (by rw [parts_one (by omega)];simp)
 have hw1:(nth l (nth l i).a.toNat).w=1:=by
  have h2:=(rt_all hD (fun k hk=>term_node hT hk) i hi).1
  rw [tr_at hD hi,mk_one (by omega)] at h2
  have h3:=h2.2.2.2
  have h4:=(rt_all hD (fun k hk=>term_node hT hk) (nth l i).a.toNat (by omega)).2
  rcases h3 with h5|h5|h5
  ·omega
  ·omega
  ·rw [<- h4];exact h5.2.1
 have hbit:∀ k:Nat,k < 2 ^ (nth l i).b.toNat->vT (tr l (nth l i).a.toNat) (e.set (nth l i).k.toNat (k:Int))=0\/vT (tr l (nth l i).a.toNat) (e.set (nth l i).k.toNat (k:Int))=1:=fun k hk=>by
  have h2:=FitN.word hT (by omega) (by rw [List.length_set];exact he) (h.below hD hi (term_node hT hi) he hq hk)
  rw [hw1] at h2
  have h3:=wok_iff.1 h2
  have h4:p2 (1:Int).toNat=2:=rfl
  rw [h4] at h3
  omega
 rw [vT_quant hD hi e hq]
 by_cases h19:(nth l i).op=19
 ·rw [if_pos h19,if_pos h19]
  cases hh:hitB l e (nth l i) 0
  ·simp only [Bool.not_false,if_true]
   refine allN_one.2 (fun k hk=>?_)
   rcases hbit k hk with h5|h5
   ·rw [hit_iff.2 ⟨k,hk,h5⟩] at hh;cases hh
   ·exact h5
  ·obtain ⟨k,hk,h5⟩:=hit_iff.1 hh
   simp only [Bool.not_true,Bool.false_eq_true,if_false]
   rcases allN_bit (fun i_1=>vT (tr l (nth l i).a.toNat) (e.set (nth l i).k.toNat (i_1:Int))) (2 ^ (nth l i).b.toNat) with h6|h6
   ·exact h6
   ·have h7:=allN_one.1 h6 k hk
    rw [h5] at h7;cases h7
 ·rw [if_neg h19,if_neg h19]
  cases hh:hitB l e (nth l i) 1
  ·simp only [Bool.false_eq_true,if_false]
   rcases anyN_bit (fun i_1=>vT (tr l (nth l i).a.toNat) (e.set (nth l i).k.toNat (i_1:Int))) (2 ^ (nth l i).b.toNat) with h6|h6
   ·exact h6
   ·rw [hit_iff.2 (anyN_one.1 h6)] at hh;cases hh
  ·simp only [if_true]
   exact anyN_one.2 (hit_iff.1 hh)
end Vm2
end Go.Proofs.YthanhcobfehmnaaGreat
