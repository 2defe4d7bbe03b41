import Derived.Laws.PanicsMore
import Derived.Test.YthanhcobfehmnaaGreatPkQU249
import Derived.Test.YthanhcobfehmnaaGreatPkQU245
namespace Go.Proofs.YthanhcobfehmnaaGreat
set_option maxRecDepth 100000
set_option maxHeartbeats 8000000
set_option linter.unusedVariables false
namespace Pv13
open Go.RowKit
open Nd0 Pl1 Tm0 Tm1 Tm2 Tm5 Tm6 Tm8 Tr0 Rw0 Vl1 Vl2 Vm0 Vm1 Kp1 Sv5 Vm3 Pg1 Pg2
open Lx1 (ITermOk)
open Pg7 (iReached)
open Pg9 (var_of)
open Pv5 (iJustW or16 not16)
theorem zeros640:Tryz.zeroCells110=Array.replicate 640 (.int .u16 0):=by kernel_rfl
def FW (l:List Nd) (r:Nat->Nat) (b:Bool):Prop:=b=(needT (root l)).isSome/\(∀ v,v < 8->r v < 2 ^ 9)/\∀ q,needT (root l)=some q->∀ v,v < 8->r v=q.getD v 0
def agg8 (r:Nat->Nat):Value:=.agg #[.int .u16 (r 0:Int),.int .u16 (r 1:Int),.int .u16 (r 2:Int),.int .u16 (r 3:Int),.int .u16 (r 4:Int),.int .u16 (r 5:Int),.int .u16 (r 6:Int),.int .u16 (r 7:Int)]
theorem idx8 (Y:Nat->Nat) {v:Nat} (hv:v < 8) (w:World):(Instr.index 77 (.agg #[.int .u16 (Y 0:Int),.int .u16 (Y 1:Int),.int .u16 (Y 2:Int),.int .u16 (Y 3:Int),.int .u16 (Y 4:Int),.int .u16 (Y 5:Int),.int .u16 (Y 6:Int),.int .u16 (Y 7:Int)]) (.int .i64 (v:Int))).run Tryz.prog w=.ok (.int .u16 (Y v:Int)) w:=by
 rcases (show v=0\/v=1\/v=2\/v=3\/v=4\/v=5\/v=6\/v=7 by omega) with h|h|h|h|h|h|h|h<;>subst h<;>simp [Instr.index,run_underlying Tryz.underlying77,asIntOf,go_sem]
def list8 (r:Nat->Nat):List Value:=[.int .u16 (r 0:Int),.int .u16 (r 1:Int),.int .u16 (r 2:Int),.int .u16 (r 3:Int),.int .u16 (r 4:Int),.int .u16 (r 5:Int),.int .u16 (r 6:Int),.int .u16 (r 7:Int)]
theorem results_two {w:World} {gr:Nat} {r:Nat->Nat} {b:Bool} {tmps:Array Value} (hp:tmps.getD 2 undef=.pointer (some ⟨gr,0,none⟩)) (hq:tmps.getD 3 undef=.bool b) (hc:∀ v,v < 8->w.cell? ⟨gr,v,none⟩=some (.int .u16 (r v:Int))) :
 (results Tryz.f46 tmps).run Tryz.prog w=.ok (.tuple #[agg8 r,.bool b]) w:=by
 have hr:w.rangeAt gr 0 (list8 r):=fun j v hv=>by
  rw [Nat.zero_add]
  have hj:j < 8:=by
   have:=(List.getElem?_eq_some_iff.1 hv).1
   simpa [list8] using this
  rw [hc j hj]
  rcases (show j=0\/j=1\/j=2\/j=3\/j=4\/j=5\/j=6\/j=7 by omega) with h|h|h|h|h|h|h|h<;>subst h<;>exact hv
 have hl:=run_loadVar_mid (P:=Tryz.prog) w gr 0 77 (list8 r) _ hr Tryz.underlying77 rfl rfl
 have hp':tmps[2]?.getD undef=.pointer (some ⟨gr,0,none⟩):=by simpa using hp
 have hq':tmps[3]?.getD undef=.bool b:=by simpa using hq
 simp [results,hp',hq',asAddr,hl]
 rfl
theorem kept_drewN {S:Nat->Prop} {u w:World} (h:Kept S u w) (n:Nat):Kept S u (w.drewN n):=⟨h.os,h.tape,h.output,h.size,h.block⟩
theorem kept_set8 {gr:Nat} {u w:World} (h:Kept (fun b=>b=gr) u w) (v0 v1 v2 v3 v4 v5 v6 v7:Value):Kept (fun b=>b=gr) u ((((((((w.setCell ⟨gr,0,none⟩ v0).setCell ⟨gr,1,none⟩ v1).setCell ⟨gr,2,none⟩ v2).setCell ⟨gr,3,none⟩ v3).setCell ⟨gr,4,none⟩ v4).setCell ⟨gr,5,none⟩ v5).setCell ⟨gr,6,none⟩ v6).setCell ⟨gr,7,none⟩ v7) :=
 (((((((h.setCell rfl _).setCell rfl _).setCell rfl _).setCell rfl _).setCell rfl _).setCell rfl _).setCell rfl _).setCell rfl _
theorem row_set8 {gr:Nat} {w:World} {f:Nat->Value} (h:Row w gr 8 f) (r:Nat->Nat):∀ v,v < 8->((((((((w.setCell ⟨gr,0,none⟩ (.int .u16 (r 0:Int))).setCell ⟨gr,1,none⟩ (.int .u16 (r 1:Int))).setCell ⟨gr,2,none⟩ (.int .u16 (r 2:Int))).setCell ⟨gr,3,none⟩ (.int .u16 (r 3:Int))).setCell ⟨gr,4,none⟩ (.int .u16 (r 4:Int))).setCell ⟨gr,5,none⟩ (.int .u16 (r 5:Int))).setCell ⟨gr,6,none⟩ (.int .u16 (r 6:Int))).setCell ⟨gr,7,none⟩ (.int .u16 (r 7:Int))).cell? ⟨gr,v,none⟩=some (.int .u16 (r v:Int)):=by
 have h8:=(((((((h.set (p:=0) (by omega) (.int .u16 (r 0:Int))).set (p:=1) (by omega) (.int .u16 (r 1:Int))).set (p:=2) (by omega) (.int .u16 (r 2:Int))).set (p:=3) (by omega) (.int .u16 (r 3:Int))).set (p:=4) (by omega) (.int .u16 (r 4:Int))).set (p:=5) (by omega) (.int .u16 (r 5:Int))).set (p:=6) (by omega) (.int .u16 (r 6:Int))).set (p:=7) (by omega) (.int .u16 (r 7:Int))
 intro v hv
 rw [(h8 v hv).1]
 rcases (show v=0\/v=1\/v=2\/v=3\/v=4\/v=5\/v=6\/v=7 by omega) with h|h|h|h|h|h|h|h<;>subst h<;>rfl
theorem iFreeW (hTO:ITermOk) (w:World) (a:Option Addr) (l:List Nd) (c:Nat) (hN:Nodes w a l) (hcap:l.length<=c) (hT:termOk l=true) :
 Calls Tryz.prog 46 #[.slice a l.length c] w fun e w'=>(∃ r b,e=.returned (.tuple #[agg8 r,.bool b])/\FW l r b)/\Below w.heap.size w w':=by
 have HN:Hid (Nodes w a l):=hN
 have HT:Hid (termOk l=true):=hT
 have HTO:Hid ITermOk:=hTO
 have HCAP:Hid (l.length<=c):=hcap
 obtain ⟨hl1,hl2⟩:=term_len hT
 clear hN hT hTO hcap
 obtain ⟨gr,hgr⟩:∃ gr:Nat,gr=w.heap.size:=⟨_,rfl⟩
 obtain ⟨g,hg⟩:∃ g:Nat,g=w.heap.size+1:=⟨_,rfl⟩
 obtain ⟨wa,hwa⟩:∃ wa:World,wa=(w.alloc (.cells #[.int .u16 0,.int .u16 0,.int .u16 0,.int .u16 0,.int .u16 0,.int .u16 0,.int .u16 0,.int .u16 0] 77)).alloc (.cells Tryz.zeroCells110 110):=⟨_,rfl⟩
 obtain ⟨wz,hwz⟩:∃ wz:World,wz=w.alloc (.cells #[.int .u16 0,.int .u16 0,.int .u16 0,.int .u16 0,.int .u16 0,.int .u16 0,.int .u16 0,.int .u16 0] 77):=⟨_,rfl⟩
 have hsz:wz.heap.size=w.heap.size+1:=by rw [hwz];simp
 have hwa2:wa=wz.alloc (.cells Tryz.zeroCells110 110):=by rw [hwa,hwz]
 have hsa:wa.heap.size=w.heap.size+2:=by rw [hwa2];simp [hsz]
 have hBz:Below w.heap.size w wz:=by rw [hwz];exact (Below.refl _ _).alloc (Nat.le_refl _) _
 have hBa:Below wz.heap.size wz wa:=by rw [hwa2];exact (Below.refl _ _).alloc (Nat.le_refl _) _
 have HBA:Hid (Below w.heap.size w wa):=hBz.trans (hBa.mono (by omega))
 have HR0:Hid (Row wa g 640 (R2 (stage l 0))):=by
  rw [hg,<- hsz,hwa2]
  refine Row.new _ _ _ _ _ (fun i hi=>?_)
  rw [zeros640,Array.getElem?_replicate,if_pos hi]
  unfold R2 stage
  rw [done_zero];rfl
 have HRR:Hid (Row wa gr 8 (fun _=>.int .u16 0)):=by
  refine Row.below ?_ hBa
  rw [hgr,hwz]
  exact Row.new _ _ _ _ _ (fun i hi=>by
   rcases (show i=0\/i=1\/i=2\/i=3\/i=4\/i=5\/i=6\/i=7 by omega) with h|h|h|h|h|h|h|h<;>subst h<;>rfl)
 have HG:Hid (gr=w.heap.size/\g=w.heap.size+1/\wa.heap.size=w.heap.size+2):=⟨hgr,hg,hsa⟩
 clear hBz hBa hwa2 hwz hsz hsa
 have HRE:Hid (reachedL l=reachTo l l.length):=by
  show _=_
  unfold reachedL;rw [HT.out];rfl
 have hRL:(reachedL l).length<=80:=by
  rw [HRE.out];unfold reachTo;rw [List.length_map]
  exact Nat.le_trans (List.length_filter_le _ _) (by simp;omega)
 go_enter Tryz.func46,Tryz.ntmps46
 go_wp2_with fail
 rw [<- hwa,<- hg,<- hgr]
 clear hwa hg hgr
 refine (iReached HTO.out wa a l c (HN.out.below HBA.out) HCAP.out (by omega)).mono ?_
 rintro e0 w1 ⟨⟨ra,rc,rfl,hri⟩,hb1⟩
 have HRI:Hid (IntsIn w1 wa.heap.size w1.heap.size ra (reachedL l)):=hri.within
 have HB1:Hid (Below w.heap.size w w1):=HBA.out.trans (hb1.mono HBA.out.size)
 have HR1:Hid (Row w1 g 640 (R2 (stage l 0))):=HR0.out.below hb1
 have HRR1:Hid (Row w1 gr 8 (fun _=>.int .u16 0)):=HRR.out.below hb1
 have HS1:Hid (wa.heap.size<=w1.heap.size):=hb1.size
 have HRA:Hid (∀ m (h:m < (reachedL l).length),∃ x:Nat,(reachedL l)[m]=(x:Int)/\Vm3.Next l m x):=by
  show ∀ _,_
  intro m h
  have e:=HRE.out
  obtain ⟨x,h1,h2,h3,h4⟩:=reach_at l l.length m (by rw [<- e];exact h)
  exact ⟨x,by simp only [e];exact h1,h2,h3,h4⟩
 clear hri hb1 HR0 HRR
 go_wp2_with fail
 go_loopw [15] (fun q wr=>∃ m:Nat,m<=(reachedL l).length/\q=.int .i64 (m:Int)/\Row wr g 640 (R2 (stage l m))/\Goods l m/\Kept (fun b=>b=g) w1 wr) (fun q _=>(reachedL l).length - (intOf q).toNat)
 case atStart=>exact ⟨0,Nat.zero_le _,rfl,HR1.out,(fun i _ h=>by rw [done_zero] at h;cases h),Kept.refl _ _⟩
 case round =>
  obtain ⟨m,hm,rfl,hr,hg,hk⟩:=hrel
  have HR:Hid (Row wr g 640 (R2 (stage l m))):=hr
  have HGD:Hid (Goods l m):=hg
  have HK:Hid (Kept (fun b=>b=g) w1 wr):=hk
  have hgl:g < wr.heap.size:=hr.lt (by omega)
  clear hr hg hk
  by_cases hlt:m < (reachedL l).length
  ·have hmz:(m:Int) < ((reachedL l).length:Int):=by omega
   obtain ⟨x,hx,hX⟩:=HRA.out m hlt
   have HX:Hid (Vm3.Next l m x):=hX
   have hxl:=hX.lt
   have HLT:Hid (m < (reachedL l).length):=hlt
   have hxz:(x:Int) < (l.length:Int):=by omega
   have hx80:(x:Int) < 80:=by omega
   clear hX
   have HGG:=HG.out
   rcases (HRI.out.kept HK.out (fun b h1 h2 e=>by omega)).2 with h0|⟨rb,ro,rfl,hrB,hrU,hrc⟩
   ·omega
   have q0:=(hrc m hlt).1
   rw [hx] at q0
   have HNR:Hid (Nodes wr a l):=(HN.out.below HB1.out).kept HK.out (fun y hy h=>by
    have h2:y.block < w.heap.size:=by
     rcases HN.out.2 with h0|⟨xb,xo,rfl,hc⟩
     ·omega
     ·have e:=Option.some.inj hy
      subst e
      exact (hc x hxl).lt
    have h':y.block=g:=h
    omega)
   rcases HNR.out.2 with h0|⟨xb,xo,rfl,hc⟩
   ·omega
   obtain ⟨p0,p1,p2,p3,p4,p5⟩:=hc x hxl
   rw [nth_get hxl] at p0 p1 p2 p3 p4 p5
   clear hc hrc hx HGG hrB hrU
   have HOK:Hid (nodeOk l x=true):=term_node HT.out hxl
   have HV:Hid ((nth l x).op=1\/quant (nth l x).op=true->∃ kk:Nat,(nth l x).k=(kk:Int)/\kk<=7):=fun h=>var_of (term_node HT.out hxl) h
   by_cases h1:(nth l x).op=1
   ·obtain ⟨kk,hkk,hk7⟩:=HV.out (.inl h1)
    have hww:=node_width (term_node HT.out hxl)
    obtain ⟨j,hj⟩:∃ j:Nat,(nth l x).w=(j:Int):=⟨(nth l x).w.toNat,by omega⟩
    have h1b:((nth l x).op==1)=true:=by simpa using h1
    have hq:quant (nth l x).op=false:=by rw [h1];decide
    have hk8z:(kk:Int) < 8:=by omega
    have HP0:Hid (parts (nth l x)=[]):=parts_none (by omega) (by omega) (by omega)
    have HGN:Hid (Goods l (m+1)):=goods_next HT.out HX.out HGD.out (by unfold badQ;rw [hq];rfl) (fun h=>by rw [hq] at h;cases h)
    rw [h1] at p0
    rw [hj] at p1
    rw [hkk] at p2
    obtain ⟨nn,hnn⟩:∃ nn:Nd,nn=⟨1,(j:Int),(kk:Int),(nth l x).a,(nth l x).b,(nth l x).c⟩:=⟨_,rfl⟩
    have HPN:Hid (parts ⟨1,(j:Int),(kk:Int),(nth l x).a,(nth l x).b,(nth l x).c⟩=[]):=parts_none (by simp) (by simp) (by simp)
    obtain ⟨wn,hwn⟩:∃ wn:World,wn=wr.alloc (.cells #[.int .i64 1,.int .i64 (j:Int),.int .i64 (kk:Int),.int .i64 (nth l x).a,.int .i64 (nth l x).b,.int .i64 (nth l x).c] 44):=⟨_,rfl⟩
    have hBN:Below wr.heap.size wr wn:=by rw [hwn];exact (Below.refl _ _).alloc (Nat.le_refl _) _
    have hNA:NodeAt wn wr.heap.size 0 ⟨1,(j:Int),(kk:Int),(nth l x).a,(nth l x).b,(nth l x).c⟩:=by rw [hwn];exact Dw4.node_new wr ⟨1,(j:Int),(kk:Int),(nth l x).a,(nth l x).b,(nth l x).c⟩ _ _ rfl 0 (by simp)
    have HRW:Hid (Row wn g 640 (R2 (stage l m))):=HR.out.below hBN
    obtain ⟨s1,s2⟩:=row_at HRW.out (x:=x) (v:=kk) (by omega) (by omega)
    have HRP:Hid (Row (wn.setCell ⟨g,x*8+kk,none⟩ (.int .u16 ((2 ^ j:Nat):Int))) g 640 (R2 (stage l (m+1)))):=row_congr (row_put HRW.out (by omega) (by omega) (2 ^ j)) (fun i u _=>by
     have e1:=mid_var HX.out h1 (by omega) i u
     have e2:=mid_end HX.out hq i u
     rw [HP0.out] at e2
     rw [hkk,hj,Int.toNat_natCast,Int.toNat_natCast] at e1
     exact e1.trans e2)
    have HKP:Hid (Kept (fun b=>b=g) w1 (wn.setCell ⟨g,x*8+kk,none⟩ (.int .u16 ((2 ^ j:Nat):Int)))):=(HK.out.trans (Kept.ofBelow hBN)).setCell (p:=⟨g,x*8+kk,none⟩) rfl _
    have HJ:Hid (∀ w:World,Calls Tryz.prog 87 #[.int .i64 (j:Int)] w fun e w'=>e=.returned (.int .u16 ((2 ^ j:Nat):Int))/\w'=w):=fun w=>iJustW j w (by omega)
    have HNZ:Hid (NodeAt (wn.setCell ⟨g,x*8+kk,none⟩ (.int .u16 ((2 ^ j:Nat):Int))).drew wr.heap.size 0 ⟨1,(j:Int),(kk:Int),(nth l x).a,(nth l x).b,(nth l x).c⟩):=by
     have hne:∀ o:Nat,(⟨g,x*8+kk,none⟩:Addr)≠⟨wr.heap.size,o,none⟩:=fun o e=>by
      have:=congrArg Addr.block e
      dsimp only at this
      omega
     exact ⟨(set_other (hne _)).trans hNA.c0,(set_other (hne _)).trans hNA.c1,(set_other (hne _)).trans hNA.c2,(set_other (hne _)).trans hNA.c3,(set_other (hne _)).trans hNA.c4,(set_other (hne _)).trans hNA.c5⟩
    obtain ⟨n0,n1,n2,_,_,_⟩:=hNA
    have z1:=HNZ.out.c1
    have z2:=HNZ.out.c2
    have hq1:quant 1=false:=by decide
    have HSZ:Hid (wr.heap.size < wn.heap.size):=lt_of_cell n0
    generalize 2 ^ j=pw at HRP HKP HJ HNZ z1 z2
    clear h1 h1b hkk hj hww hq n0 hnn
    go_wp2_with fail
    rw [<- hwn]
    clear hwn hBN
    go_region_held (fun w'=>w'.cell? ⟨wr.heap.size,1,none⟩=some (.int .i64 (j:Int))/\w'.cell? ⟨wr.heap.size,2,none⟩=some (.int .i64 (kk:Int))) ((first|exact ⟨n1,n2⟩|exact ⟨z1,z2⟩)) ((go_at_call 87;refine (HJ.out _).mono ?_;rintro e wn ⟨rfl,rfl⟩))
    obtain ⟨y0,y1,y2,y3,y4,y5⟩:=HNZ.out
    have HR9:Hid (Row (wn.setCell ⟨g,x*8+kk,none⟩ (.int .u16 (pw:Int))).drew g 640 (R2 (stage l (m+1)))):=HRP.out.drew
    have HK9:Hid (Kept (fun b=>b=g) w1 (wn.setCell ⟨g,x*8+kk,none⟩ (.int .u16 (pw:Int))).drew):=HKP.out.drew
    have HNA9:Hid (NodeAt (wn.setCell ⟨g,x*8+kk,none⟩ (.int .u16 (pw:Int))).drew wr.heap.size 0 ⟨1,(j:Int),(kk:Int),(nth l x).a,(nth l x).b,(nth l x).c⟩):=HNZ.out
    clear HRP HKP HNZ z1 z2 n1 n2 s1 s2
    generalize (wn.setCell ⟨g,x*8+kk,none⟩ (.int .u16 (pw:Int))).drew=wc at HR9 HK9 HNA9 y0 y1 y2 y3 y4 y5 ⊢
    go_wp2_with fail
    refine (iParts ⟨1,(j:Int),(kk:Int),(nth l x).a,(nth l x).b,(nth l x).c⟩ _).mono ?_
    rintro e w2 ⟨⟨pa,pc,rfl,hpi⟩,hb2⟩
    have b0:w2.cell? ⟨wr.heap.size,0,none⟩=some (.int .i64 1):=(hb2.cell (p:=⟨wr.heap.size,0,none⟩) HNA9.out.lt).trans y0
    have HR2:Hid (Row w2 g 640 (R2 (stage l (m+1)))):=HR9.out.below hb2
    have HK2:Hid (Kept (fun b=>b=g) w1 w2):=HK9.out.trans (Kept.ofBelow hb2)
    have hpe:(parts ⟨1,(j:Int),(kk:Int),(nth l x).a,(nth l x).b,(nth l x).c⟩).length=0:=by rw [HPN.out];rfl
    clear hpi hb2 y0 y1 y2 y3 y4 y5
    go_wp2_with fail
    go_loopw [37] (fun q wq=>q=.int .i64 0/\wq=w2) (fun _ _=>0)
    case atStart=>exact ⟨rfl,rfl⟩
    case round =>
     obtain ⟨rfl,rfl⟩:=hrel
     go_wp2_with (go_at_call 86;refine (iQuant _ _).mono ?_;rintro e w' ⟨rfl,rfl⟩;rw [hq1])
     go_roundw
     case rel=>exact ⟨m+1,HLT.out,by go_num,HR2.out,HGN.out,HK2.out⟩
     case measure=>have:=HLT.out;simp [intOf];omega
   ·have h1b:((nth l x).op==1)=false:=by simpa using h1
    have HRM:Hid (Row wr g 640 (R2 (mid l m x 0 0))):=row_congr HR.out (fun i u _=>mid_other HX.out h1 i u)
    obtain ⟨wb,rfl⟩:∃ wb:World,wb=wr:=⟨_,rfl⟩
    have hpd:∀ p∈parts (nth l x),doneB l m p.toNat=true/\0<=p/\p.toNat < x:=fun p hp=>HX.out.part (down_of HT.out) hp
    have HPS:Hid (∀ d (hd:d < (parts (nth l x)).length) v,v < 8->preN l (nth l x) v (d+1)=preN l (nth l x) v d ||| stage l m ((parts (nth l x))[d]).toNat v/\preN l (nth l x) v d < 2 ^ 9/\stage l m ((parts (nth l x))[d]).toNat v < 2 ^ 9):=fun d hd v hv=>by
     obtain ⟨_,z2,z3⟩:=hpd _ (List.getElem_mem hd)
     exact ⟨pre_step HT.out HX.out HGD.out hd hv,preN_bd HT.out HX.out HGD.out hv d (by omega),stage_bd HT.out HGD.out (by omega) hv⟩
    have HPD:Hid (∀ d (hd:d < (parts (nth l x)).length),0<=(parts (nth l x))[d]/\(parts (nth l x))[d] < (x:Int)):=fun d hd=>by
     obtain ⟨_,z2,z3⟩:=hpd _ (List.getElem_mem hd)
     exact ⟨z2,by omega⟩
    have HNX:Hid (∀ i u,u < 8->mid l m x (parts (nth l x)).length 0 i u=mid l m x (parts (nth l x)).length 0 i u):=fun _ _ _=>rfl
    have HBAD:Hid (badQ l (nth l x)=(quant (nth l x).op&&decide (preN l (nth l x) (nth l x).k.toNat (parts (nth l x)).length≠0/\preN l (nth l x) (nth l x).k.toNat (parts (nth l x)).length≠2 ^ (nth l x).b.toNat))):=rfl
    have HPB:Hid (∀ v,v < 8->preN l (nth l x) v (parts (nth l x)).length < 2 ^ 9):=fun v hv=>preN_bd HT.out HX.out HGD.out hv _ (Nat.le_refl _)
    have HQB:Hid (quant (nth l x).op=true->1<=(nth l x).b/\(nth l x).b<=8):=fun h=>Tm11.quant_b (term_node HT.out hxl) h
    clear hpd h1
    go_wp2_with fail
    refine (iParts (nth l x) _).mono ?_
    rintro e1 w2 ⟨⟨pa,pc,rfl,hpi⟩,hb2⟩
    have hBA:Below wb.heap.size wb (wb.alloc (.cells #[.int .i64 (nth l x).op,.int .i64 (nth l x).w,.int .i64 (nth l x).k,.int .i64 (nth l x).a,.int .i64 (nth l x).b,.int .i64 (nth l x).c] 44)):=(Below.refl _ _).alloc (Nat.le_refl _) _
    have hBA2:Below wb.heap.size wb w2:=hBA.trans (hb2.mono (by simp))
    have HP:Hid (IntsIn w2 (wb.heap.size+1) w2.heap.size pa (parts (nth l x))):=by
     have h9:=hpi.within
     simp at h9
     exact h9
    have HR2:Hid (Row w2 g 640 (R2 (mid l m x 0 0))):=HRM.out.below hBA2
    have HK2:Hid (Kept (fun b=>b=g) w1 w2):=HK.out.trans (Kept.ofBelow hBA2)
    have HNA:Hid (NodeAt w2 wb.heap.size 0 (nth l x)):=NodeAt.below (Dw4.node_new wb (nth l x) _ _ rfl 0 (by simp)) hb2 (show wb.heap.size < _ by simp)
    have HS2:Hid (wb.heap.size < w2.heap.size):=HNA.out.lt
    clear hpi hb2 hBA hBA2 p0 p1 p2 p3 p4 p5 h1b HRM
    have hpl:=parts_le (nth l x)
    have hgb:¬ wb.heap.size=g:=by omega
    go_wp2_with fail
    go_loopw [37] (fun q wq=>∃ d:Nat,d<=(parts (nth l x)).length/\q=.int .i64 (d:Int)/\Row wq g 640 (R2 (mid l m x d 0))/\Kept (fun b=>b=g) w2 wq) (fun q _=>(parts (nth l x)).length - (intOf q).toNat)
    case atStart=>exact ⟨0,Nat.zero_le _,rfl,HR2.out,Kept.refl _ _⟩
    case round =>
     obtain ⟨d,hd,rfl,hrx,hkx⟩:=hrel
     have HRX:Hid (Row wr g 640 (R2 (mid l m x d 0))):=hrx
     have HKX:Hid (Kept (fun b=>b=g) w2 wr):=hkx
     clear hrx hkx
     by_cases hlt2:d < (parts (nth l x)).length
     ·have hdz:(d:Int) < ((parts (nth l x)).length:Int):=by omega
      rcases (HP.out.kept HKX.out (fun b h1 h2 e=>by have:=HG.out;omega)).2 with h0|⟨pb,po,rfl,hpB,hpU,hpc⟩
      ·omega
      have r0:=(hpc d hlt2).1
      obtain ⟨hy0,hy1⟩:=HPD.out d hlt2
      have HST:=HPS.out d hlt2
      generalize (parts (nth l x))[d]=y at r0 hy0 hy1 HST
      obtain ⟨y,rfl⟩:=Int.eq_ofNat_of_zero_le hy0
      rw [Int.toNat_natCast] at HST
      have hyx:¬ y=x:=by omega
      have hy80:(y:Int) < 80:=by omega
      obtain ⟨Y,hY⟩:∃ Y:Nat->Nat,Y=fun v=>stage l m y v:=⟨_,rfl⟩
      have HYV:Hid (∀ v,v < 8->wr.cell? ⟨g,y*8+v,none⟩=some (.int .u16 ((Y v:Nat):Int))):=by
       show ∀ _,_
       intro v hv
       have:=(row_at HRX.out (x:=y) (v:=v) (by omega) hv).1
       rw [mid_ne l v hyx] at this
       rw [hY];exact this
      have HST2:Hid (∀ v,v < 8->preN l (nth l x) v (d+1)=preN l (nth l x) v d ||| Y v/\preN l (nth l x) v d < 2 ^ 9/\Y v < 2 ^ 9):=by
       show ∀ _,_
       intro v hv
       rw [hY];exact HST v hv
      have e0:=HYV.out 0 (by omega)
      have e1:=HYV.out 1 (by omega)
      have e2:=HYV.out 2 (by omega)
      have e3:=HYV.out 3 (by omega)
      have e4:=HYV.out 4 (by omega)
      have e5:=HYV.out 5 (by omega)
      have e6:=HYV.out 6 (by omega)
      have e7:=HYV.out 7 (by omega)
      rw [Nat.add_zero] at e0
      clear hpc hpB hpU hy0 hy1 HST hY HYV hyx
      obtain ⟨wq,rfl⟩:∃ wq:World,wq=wr:=⟨_,rfl⟩
      go_wp2_with fail
      clear e0 e1 e2 e3 e4 e5 e6 e7 r0
      go_loopw [44] (fun q wi=>∃ v:Nat,v<=8/\q=.int .i64 (v:Int)/\Row wi g 640 (R2 (mid l m x d v))/\Kept (fun b=>b=g) wq wi) (fun q _=>8 - (intOf q).toNat)
      case atStart=>exact ⟨0,Nat.zero_le _,rfl,HRX.out,Kept.refl _ _⟩
      case round =>
       obtain ⟨v,hv,rfl,hri,hki⟩:=hrel
       have HRV:Hid (Row wr g 640 (R2 (mid l m x d v))):=hri
       have HKV:Hid (Kept (fun b=>b=g) wq wr):=hki
       clear hri hki
       by_cases hv8:v < 8
       ·obtain ⟨s1,s2,s3⟩:=HST2.out v hv8
        obtain ⟨c1,c2⟩:=row_at HRV.out (x:=x) (v:=v) (by omega) hv8
        have em:mid l m x d v x v=preN l (nth l x) v d:=by unfold mid;rw [if_pos rfl,if_neg (by omega)]
        rw [em] at c1
        have HRN:Hid (Row (wr.setCell ⟨g,x*8+v,none⟩ (.int .u16 ((preN l (nth l x) v (d+1):Nat):Int))) g 640 (R2 (mid l m x d (v+1)))):=row_congr (row_put HRV.out (by omega) hv8 _) (fun i u _=>mid_step l m x d v i u)
        have HKN:Hid (Kept (fun b=>b=g) wq (wr.setCell ⟨g,x*8+v,none⟩ (.int .u16 ((preN l (nth l x) v (d+1):Nat):Int)))):=HKV.out.setCell (p:=⟨g,x*8+v,none⟩) rfl _
        rw [s1] at HRN HKN
        have hor:=or16 s2 s3
        generalize preN l (nth l x) v d=z at c1 hor HRN HKN s2
        clear s1 em
        have hX:=fun w=>idx8 Y hv8 w
        have hvz:(v:Int) < 8:=by omega
        generalize z ||| Y v=t at hor HRN HKN
        generalize Y v=yv at hX hor s3
        go_wp2
        go_region
        all_goals
         go_wp2
         go_roundw
         case rel=>exact ⟨v+1,by omega,by go_num,HRN.out.drew,HKN.out.drew⟩
         case measure=>simp [intOf];omega
       ·have hvz:¬ (v:Int) < 8:=by omega
        have e8:v=8:=by omega
        subst e8
        have HRE2:Hid (Row wr g 640 (R2 (mid l m x (d+1) 0))):=row_congr HRV.out (fun i u hu=>mid_next l m x d i u hu)
        have HKE2:Hid (Kept (fun b=>b=g) w2 wr):=HKX.out.trans HKV.out
        go_wp2
        go_roundw
        case rel=>exact ⟨d+1,by omega,by go_num,HRE2.out,HKE2.out⟩
        case measure=>simp [intOf];omega
     ·have hdz:¬ (d:Int) < ((parts (nth l x)).length:Int):=by omega
      have ed:d=(parts (nth l x)).length:=by omega
      subst ed
      have hsk:wb.heap.size < w2.heap.size:=HS2.out
      obtain ⟨n0,_,n2,_,n4,_⟩:=HNA.out
      have b0:wr.cell? ⟨wb.heap.size,0,none⟩=some (.int .i64 (nth l x).op):=(HKX.out.cell (p:=⟨wb.heap.size,0,none⟩) hsk hgb).trans n0
      have b2:wr.cell? ⟨wb.heap.size,2,none⟩=some (.int .i64 (nth l x).k):=(HKX.out.cell (p:=⟨wb.heap.size,2,none⟩) hsk hgb).trans n2
      have b4:wr.cell? ⟨wb.heap.size,4,none⟩=some (.int .i64 (nth l x).b):=(HKX.out.cell (p:=⟨wb.heap.size,4,none⟩) hsk hgb).trans n4
      have HKE:Hid (Kept (fun b=>b=g) w1 wr):=HK2.out.trans HKX.out
      clear n0 n2 n4 hsk
      cases hq:quant (nth l x).op
      ·have HGN:Hid (Goods l (m+1)):=goods_next HT.out HX.out HGD.out (by rw [HBAD.out,hq];rfl) (fun h=>by rw [hq] at h;cases h)
       have HRN:Hid (Row wr g 640 (R2 (stage l (m+1)))):=row_congr HRX.out (fun i u _=>mid_end HX.out hq i u)
       go_wp2_with (go_at_call 86;refine (iQuant _ _).mono ?_;rintro e wr ⟨rfl,rfl⟩;rw [hq])
       go_roundw
       case rel=>exact ⟨m+1,HLT.out,by go_num,HRN.out,HGN.out,HKE.out⟩
       case measure=>have:=HLT.out;simp [intOf];omega
      ·obtain ⟨kk,hkk,hk7⟩:=HV.out (.inr hq)
       obtain ⟨hb1,hb8⟩:=HQB.out hq
       obtain ⟨j,hj⟩:∃ j:Nat,(nth l x).b=(j:Int):=⟨(nth l x).b.toNat,by omega⟩
       rw [hkk] at b2
       rw [hj] at b4
       have hk8z:(kk:Int) < 8:=by omega
       obtain ⟨c1,c2⟩:=row_at HRX.out (x:=x) (v:=kk) (by omega) (by omega)
       rw [mid_at] at c1
       have hz:=HPB.out kk (by omega)
       have HBV:Hid (badQ l (nth l x)=decide (preN l (nth l x) kk (parts (nth l x)).length≠0/\preN l (nth l x) kk (parts (nth l x)).length≠2 ^ j)):=by
        show _=_
        rw [HBAD.out,hq,hkk,hj,Int.toNat_natCast,Int.toNat_natCast,Bool.true_and]
       have hnot:=not16 hz (show j<=8 by omega)
       have HRN:Hid (∀ k,Row ((wr.drewN k).setCell ⟨g,x*8+kk,none⟩ (.int .u16 0)) g 640 (R2 (stage l (m+1)))):=fun k=>row_congr (row_put (show Row (wr.drewN k) g 640 (R2 (mid l m x (parts (nth l x)).length 0)) from fun i hi=>HRX.out i hi) (by omega) (by omega) 0) (fun i u _=>by
        have:=mid_quant HX.out hq (by omega) i u
        rw [hkk,Int.toNat_natCast] at this
        exact this)
       have HKN:Hid (∀ k,Kept (fun b=>b=g) w1 ((wr.drewN k).setCell ⟨g,x*8+kk,none⟩ (.int .u16 0))):=fun k=>(kept_drewN HKE.out k).setCell (p:=⟨g,x*8+kk,none⟩) rfl _
       have HJ:Hid (∀ w:World,Calls Tryz.prog 87 #[.int .i64 (j:Int)] w fun e w'=>e=.returned (.int .u16 ((2 ^ j:Nat):Int))/\w'=w):=fun w=>iJustW j w (by omega)
       generalize 2 ^ j=pw at hnot HBV HJ
       rw [<- HBV.out] at hnot
       generalize preN l (nth l x) kk (parts (nth l x)).length=z at c1 hnot
       clear HBV hz
       have HKK:Hid (0<=(nth l x).k):=(by omega:0<=(nth l x).k)
       clear hkk hj hb1 hb8
       cases hbad:badQ l (nth l x)
       ·rw [hbad] at hnot
        have HGN:Hid (Goods l (m+1)):=goods_next HT.out HX.out HGD.out hbad (fun _=>HKK.out)
        go_wp2_with (go_at_call 86;refine (iQuant _ _).mono ?_;rintro e wr ⟨rfl,rfl⟩;rw [hq])
        go_quiet ((go_at_call 87;exact Calls.quiet_of_same (HJ.out _)))
        go_wp2
        go_region
        all_goals
         go_wp2
         go_roundw
         case rel=>exact ⟨m+1,HLT.out,by go_num,HRN.out _,HGN.out,HKN.out _⟩
         case measure=>have:=HLT.out;simp [intOf];omega
       ·rw [hbad] at hnot
        have HNO:Hid (needT (root l)=none):=bad_none HT.out HX.out HGD.out hbad
        go_wp2_with (go_at_call 86;refine (iQuant _ _).mono ?_;rintro e wr ⟨rfl,rfl⟩;rw [hq])
        have HGX:=HG.out
        have HRG:Row wr gr 8 (fun _=>.int .u16 0):=HRR1.out.kept HKE.out (fun h=>by have h':gr=g:=h;omega)
        obtain ⟨k0,f0⟩:=HRG 0 (by omega)
        obtain ⟨k1,f1⟩:=HRG 1 (by omega)
        obtain ⟨k2,f2⟩:=HRG 2 (by omega)
        obtain ⟨k3,f3⟩:=HRG 3 (by omega)
        obtain ⟨k4,f4⟩:=HRG 4 (by omega)
        obtain ⟨k5,f5⟩:=HRG 5 (by omega)
        obtain ⟨k6,f6⟩:=HRG 6 (by omega)
        obtain ⟨k7,f7⟩:=HRG 7 (by omega)
        have HRG2:Hid (Row wr gr 8 (fun _=>.int .u16 0)):=HRG
        clear HGX HRG
        go_quiet ((go_at_call 87;exact Calls.quiet_of_same (HJ.out _)))
        go_wp2
        try simp only [Exit.inBlock,Exit.then]
        refine bodyPost_ret (results_two (r:=fun _=>0) (b:=false) rfl rfl (row_set8 (show Row (wr.drewN nq) gr 8 (fun _=>.int .u16 0) from fun i hi=>HRG2.out i hi) (fun _=>0))) rfl ?_
        refine ⟨⟨fun _=>0,.inl ⟨rfl,?_⟩⟩,?_⟩
        ·refine ⟨by rw [HNO.out];rfl,fun v _=>by show 0 < 2 ^ 9;decide,fun q hq=>?_⟩
         rw [HNO.out] at hq;cases hq
        ·have hk8:=kept_set8 (gr:=gr) (Kept.refl (fun b=>b=gr) (wr.drewN nq)) (.int .u16 0) (.int .u16 0) (.int .u16 0) (.int .u16 0) (.int .u16 0) (.int .u16 0) (.int .u16 0) (.int .u16 0)
         have hG:=HG.out
         have hk1:Kept (fun b=>b=g) w1 (wr.drewN nq):=kept_drewN HKE.out nq
         have hk2:=Kept.past (Kept.past (Kept.ofBelow (S:=fun _=>False) HB1.out) hk1 (fun b h=>.inr (by omega))) hk8 (fun b h=>.inr (by omega))
         exact ⟨hk2.os,hk2.tape,hk2.output,hk2.size,fun b hb=>hk2.block b hb (fun h=>h)⟩
  ·have hmz:¬ (m:Int) < ((reachedL l).length:Int):=by omega
   have em:m=(reachedL l).length:=by omega
   have HGX:=HG.out
   have HDN:Hid (doneB l m (l.length - 1)=true):=by
    show _=_
    rw [em,HRE.out];exact done_root hl1
   have HGL:=HGD.out (l.length - 1) (by omega) HDN.out
   obtain ⟨r,hr⟩:∃ r:Nat->Nat,r=fun v=>stage l m (l.length - 1) v:=⟨_,rfl⟩
   have HFW:Hid (FW l r true):=by
    obtain ⟨q,hq,hqv⟩:=HGL
    have hrt:needT (root l)=some q:=hq
    refine ⟨by rw [hrt];rfl,fun v hv=>?_,fun q' hq' v hv=>?_⟩
    ·rw [hr];exact stage_bd HT.out HGD.out (by omega) hv
    ·rw [hrt] at hq'
     have e:=Option.some.inj hq'
     subst e
     rw [hr,hqv v hv]
     show stage l m (l.length - 1) v=_
     unfold stage
     rw [if_pos HDN.out]
   have HYV:Hid (∀ v,v < 8->wr.cell? ⟨g,(l.length - 1)*8+v,none⟩=some (.int .u16 ((r v:Nat):Int))):=by
    show ∀ _,_
    intro v hv
    rw [hr];exact (row_at HR.out (by omega) hv).1
   have e0:=HYV.out 0 (by omega)
   have e1:=HYV.out 1 (by omega)
   have e2:=HYV.out 2 (by omega)
   have e3:=HYV.out 3 (by omega)
   have e4:=HYV.out 4 (by omega)
   have e5:=HYV.out 5 (by omega)
   have e6:=HYV.out 6 (by omega)
   have e7:=HYV.out 7 (by omega)
   rw [Nat.add_zero] at e0
   have HRG:Row wr gr 8 (fun _=>.int .u16 0):=HRR1.out.kept HK.out (fun h=>by have h':gr=g:=h;omega)
   obtain ⟨k0,f0⟩:=HRG 0 (by omega)
   obtain ⟨k1,f1⟩:=HRG 1 (by omega)
   obtain ⟨k2,f2⟩:=HRG 2 (by omega)
   obtain ⟨k3,f3⟩:=HRG 3 (by omega)
   obtain ⟨k4,f4⟩:=HRG 4 (by omega)
   obtain ⟨k5,f5⟩:=HRG 5 (by omega)
   obtain ⟨k6,f6⟩:=HRG 6 (by omega)
   obtain ⟨k7,f7⟩:=HRG 7 (by omega)
   have HRG2:Hid (Row wr gr 8 (fun _=>.int .u16 0)):=HRG
   have hw1:IntKind.i64.wrap ((l.length:Int) - 1)=(l.length:Int) - 1:=by rw [IntKind.wrap_i64]<;>omega
   have hl0:1<=(l.length:Int):=by omega
   have hl8:(l.length:Int) - 1 < 80:=by omega
   clear HGX HRG em HGL hr HYV HDN
   go_wp2
   try simp only [Exit.inBlock,Exit.then]
   refine bodyPost_ret (results_two (r:=r) (b:=true) rfl rfl (row_set8 HRG2.out r)) rfl ?_
   refine ⟨⟨r,.inr ⟨rfl,HFW.out⟩⟩,?_⟩
   have hk8:=kept_set8 (gr:=gr) (Kept.refl (fun b=>b=gr) wr) (.int .u16 (r 0:Int)) (.int .u16 (r 1:Int)) (.int .u16 (r 2:Int)) (.int .u16 (r 3:Int)) (.int .u16 (r 4:Int)) (.int .u16 (r 5:Int)) (.int .u16 (r 6:Int)) (.int .u16 (r 7:Int))
   have hG:=HG.out
   have hk2:=Kept.past (Kept.past (Kept.ofBelow (S:=fun _=>False) HB1.out) HK.out (fun b h=>.inr (by omega))) hk8 (fun b h=>.inr (by omega))
   exact ⟨hk2.os,hk2.tape,hk2.output,hk2.size,fun b hb=>hk2.block b hb (fun h=>h)⟩
end Pv13
end Go.Proofs.YthanhcobfehmnaaGreat
