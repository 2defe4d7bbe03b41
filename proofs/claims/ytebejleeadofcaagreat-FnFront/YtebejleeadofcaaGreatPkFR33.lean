import Derived.Test.YtebejleeadofcaaGreatFr2
import Derived.Test.YtebejleeadofcaaGreatPkFR30
import Derived.Test.YtebejleeadofcaaGreatPkFR32
import Derived.Test.YtebejleeadofcaaGreatPkFR24
import Derived.Test.YtebejleeadofcaaGreatPkFR0
import Derived.Test.YtebejleeadofcaaGreatPkFR29
import Derived.Test.YtebejleeadofcaaGreatFq2
namespace Go.Proofs.YtebejleeadofcaaGreat
set_option maxRecDepth 100000
set_option maxHeartbeats 8000000
set_option linter.unusedVariables false
namespace Fq3
open Go.RowKit
open Nd0 Nd3 Qa0 Tm0 Tm1 Tm2 Tm3 Tm5 Tm6 Tm8 Fr2 Rw0 Pg1 Pg2 Pg10
open Nd4 (makeNodes zeros_at)
open Pg11 (makeInts noughts noughts_get)
open Lx4 (IPrune)
theorem mv_thr {l:List Nd} {n:Nd} {P:Nat->Int} (h:∀ p∈parts n,P p.toNat=((bel l p.toNat:Nat):Int)):mv P n=thrN l n:=by
 have hcp:=cnt_parts n
 unfold mv thrN
 rw [<- hcp]
 have hc:=parts_cases n
 rcases hc with e|e|e|e
 ·simp [e]
 ·have h1:=h n.a (by rw [e];simp)
  simp [e,h1]
 ·have h1:=h n.a (by rw [e];simp)
  have h2:=h n.b (by rw [e];simp)
  simp [e,h1,h2]
 ·have h1:=h n.a (by rw [e];simp)
  have h2:=h n.b (by rw [e];simp)
  have h3:=h n.c (by rw [e];simp)
  simp [e,h1,h2,h3]
structure Ou (w:World) (go:Nat) (l:List Nd) (k:Nat):Prop where
 at_:∀ j,j < l.length->∃ v:Nd,NodeAt w go (j*6) v/\(j < k->v=thrN l (nth l j))
 fr:∀ j,j < l.length*6->w.frozen? ⟨go,j,none⟩=false
theorem Ou.kept {w w':World} {go:Nat} {l:List Nd} {k:Nat} (h:Ou w go l k) (hl:go < w.heap.size) {S:Nat->Prop} (hk:Kept S w w') (hs:¬ S go):Ou w' go l k:=by
 refine ⟨fun j hj=>?_,fun j hj=>by rw [hk.frozen (p:=⟨go,j,none⟩) hl hs];exact h.fr j hj⟩
 obtain ⟨v,hv,he⟩:=h.at_ j hj
 exact ⟨v,⟨by rw [hk.cell (p:=⟨go,_,none⟩) hl hs];exact hv.c0,by rw [hk.cell (p:=⟨go,_,none⟩) hl hs];exact hv.c1,by rw [hk.cell (p:=⟨go,_,none⟩) hl hs];exact hv.c2,by rw [hk.cell (p:=⟨go,_,none⟩) hl hs];exact hv.c3,by rw [hk.cell (p:=⟨go,_,none⟩) hl hs];exact hv.c4,by rw [hk.cell (p:=⟨go,_,none⟩) hl hs];exact hv.c5⟩,he⟩
theorem Ou.below {w w':World} {go:Nat} {l:List Nd} {k:Nat} (h:Ou w go l k) (hl:go < w.heap.size) (hb:Below w.heap.size w w'):Ou w' go l k:=h.kept hl (S:=fun _=>False) (Kept.ofBelow hb) (fun h=>h)
theorem Ou.set {w:World} {go:Nat} {l:List Nd} {k:Nat} (h:Ou w go l k):Ou (setNode w go (k*6) (thrN l (nth l k))) go l (k+1):=by
 refine ⟨fun j hj=>?_,fun j hj=>by rw [setNode_frozen];exact h.fr j hj⟩
 obtain ⟨v,hv,he⟩:=h.at_ j hj
 by_cases e:j=k
 ·subst e
  exact ⟨_,setNode_same hv,fun _=>rfl⟩
 ·exact ⟨v,setNode_other hv (by omega),fun h9=>he (by omega)⟩
theorem Ou.nodes {w:World} {go:Nat} {l:List Nd} {k n:Nat} (h:Ou w go l k) (hn:n<=k) (hk:n<=l.length) (hm:l.length<=80):Nodes w (some ⟨go,0,none⟩) (thrTo l n):=by
 refine ⟨by rw [thrTo_length];unfold maxLen;omega,.inr ⟨go,0,rfl,fun i hi=>?_⟩⟩
 have hi':i < n:=by rw [thrTo_length] at hi;exact hi
 obtain ⟨v,hv,he⟩:=h.at_ i (by omega)
 rw [nth_get hi,thrTo_nth l hi',<- he (by omega),Nat.zero_add]
 exact hv
theorem iWithout (hPR:IPrune) (w:World) (a:Option Addr) (l:List Nd) (c:Nat) (hN:Nodes w a l) (hT:termOk l=true) :
 Calls Tryz.prog 23 #[.slice a l.length c] w fun e w'=>(∃ a' c',e=.returned (.slice a' (restL l).length c')/\WNodes w' w.heap.size a' (restL l)/\(restL l).length<=c')/\Below w.heap.size w w':=by
 have HT:Hid (termOk l=true):=hT
 have HN:Hid (Nodes w a l):=hN
 have HPR:Hid IPrune:=hPR
 obtain ⟨hl1,hl2⟩:=term_len hT
 obtain ⟨gp,hgp⟩:∃ gp:Nat,gp=w.heap.size:=⟨_,rfl⟩
 obtain ⟨go,hgo⟩:∃ go:Nat,go=w.heap.size+1:=⟨_,rfl⟩
 obtain ⟨wa,hwa⟩:∃ wa:World,wa=(w.alloc (.cells (noughts l.length) 3)).alloc (.cells (Nd4.zeros l.length) 58):=⟨_,rfl⟩
 have hb1:Below w.heap.size w (w.alloc (.cells (noughts l.length) 3)):=(Below.refl _ _).alloc (Nat.le_refl _) _
 have hsz1:(w.alloc (.cells (noughts l.length) 3)).heap.size=w.heap.size+1:=by simp
 have hszA:wa.heap.size=w.heap.size+2:=by rw [hwa];simp
 have hba:Below w.heap.size w wa:=by rw [hwa];exact hb1.alloc (by omega) _
 have HBA:Hid (Below w.heap.size w wa):=hba
 have HRA:Hid (Row wa gp l.length (fun i=>.int .i64 ((fun _=>0) i))):=by
  rw [hwa,hgp]
  exact (Row.new w _ _ _ _ (fun i hi=>noughts_get _ _ hi)).below ((Below.refl _ _).alloc (Nat.le_refl _) _)
 have HOA:Hid (Ou wa go l 0):=by
  rw [hwa,hgo]
  refine ⟨fun j hj=>⟨Nd.zero,?_,fun h=>absurd h (Nat.not_lt_zero _)⟩,fun j hj=>by simp⟩
  have h9:=zeros_at (w.alloc (.cells (noughts l.length) 3)) l.length 58 j hj
  rw [hsz1] at h9
  exact h9
 have HGP:Hid (w.heap.size<=gp/\w.heap.size<=go/\gp≠go):=⟨by omega,by omega,by omega⟩
 have HGA:Hid (go < wa.heap.size):=by show go < wa.heap.size;omega
 have hmi:=makeInts l.length (by omega)
 have hmn:=makeNodes l.length (by omega)
 clear hT hN hPR hba hb1 hsz1 hszA
 go_enter Tryz.func23,Tryz.ntmps23
 go_wp2
 clear hmi hmn
 rw [<- hwa,<- hgo,<- hgp]
 clear hwa hgo hgp
 go_loopw [16] (fun i wr=>∃ k:Nat,k<=l.length/\i=.int .i64 (k:Int)/\(∃ P:Nat->Int,Row wr gp l.length (fun i=>.int .i64 (P i))/\∀ p,p < k->P p=((bel l p:Nat):Int))/\Ou wr go l k/\Below w.heap.size w wr/\go < wr.heap.size) (fun i _=>l.length - (intOf i).toNat)
 case atStart=>exact ⟨0,Nat.zero_le _,rfl,⟨_,HRA.out,fun p h=>absurd h (Nat.not_lt_zero _)⟩,HOA.out,HBA.out,HGA.out⟩
 case round =>
  clear HRA HOA HBA HGA
  obtain ⟨k,hk,rfl,⟨P,hr,hp⟩,hou,hb,hgs⟩:=hrel
  have HR:Hid (Row wr gp l.length (fun i=>.int .i64 (P i))):=hr
  have HP:Hid (∀ p,p < k->P p=((bel l p:Nat):Int)):=hp
  have HO:Hid (Ou wr go l k):=hou
  have HB:Hid (Below w.heap.size w wr):=hb
  have hbs:w.heap.size<=wr.heap.size:=hb.size
  clear hr hp hou hb
  by_cases hlt:k < l.length
  ·have hlz:(k:Int) < (l.length:Int):=by omega
   rcases (HN.out.below HB.out).2 with h0|⟨xb,xo,rfl,hcn⟩
   ·omega
   obtain ⟨p0,p1,p2,p3,p4,p5⟩:=hcn k hlt
   rw [nth_get hlt] at p0 p1 p2 p3 p4 p5
   clear hcn
   have hgw:gp < wr.heap.size:=HR.out.lt (by omega)
   have hgn:¬ gp=wr.heap.size:=by omega
   obtain ⟨c1,c3⟩:=HR.out k hlt
   have HDP:Hid (∀ p∈parts (nth l k),0<=p/\p < (k:Int)):=down_of HT.out k hlt
   have HBQ:Hid (quant (nth l k).op=true->bel l k=bel l (nth l k).a.toNat):=fun h=>bel_quant (down_of HT.out) hlt h
   have HBO:Hid (quant (nth l k).op=false->bel l k=k):=fun h=>bel_other (down_of HT.out) hlt h
   obtain ⟨N,hN⟩:∃ N,N=thrN l (nth l k):=⟨_,rfl⟩
   have HNX:Hid (N=thrN l (nth l k)):=hN
   have HMV:Hid (∀ Q:Nat->Int,(∀ p:Nat,p < k->Q p=((bel l p:Nat):Int))->mv Q (nth l k)=N):=fun Q hQ=>by
    rw [hN]
    exact mv_thr (fun p hp=>hQ _ (by have:=HDP.out p hp;omega))
   have HOS:Hid (∀ W,Ou W go l k->Ou (setNode W go (k*6) N) go l (k+1)):=fun W h=>by rw [hN];exact h.set
   clear hN HNX
   generalize nth l k=n at p0 p1 p2 p3 p4 p5 HDP HBQ HBO HMV
   obtain ⟨op,wd,vk,na,nb,nc⟩:=n
   dsimp only at p0 p1 p2 p3 p4 p5
   obtain ⟨bx,hbx⟩:∃ bx:Nat,bx=wr.heap.size:=⟨_,rfl⟩
   obtain ⟨ws,hws⟩:∃ ws:World,ws=wr.setCell ⟨gp,k,none⟩ (.int .i64 (k:Int)):=⟨_,rfl⟩
   obtain ⟨w1,hw1⟩:∃ w1:World,w1=ws.alloc (.cells #[.int .i64 op,.int .i64 wd,.int .i64 vk,.int .i64 na,.int .i64 nb,.int .i64 nc] 58):=⟨_,rfl⟩
   have hks:Kept (fun b=>b=gp) wr ws:=by rw [hws];exact (Kept.refl (fun b=>b=gp) _).setCell (p:=⟨gp,k,none⟩) rfl _
   have hss:ws.heap.size=wr.heap.size:=by rw [hws];simp [World.setCell]
   have hbn:Below ws.heap.size ws w1:=by rw [hw1];exact (Below.refl _ _).alloc (Nat.le_refl _) _
   have hs1:w1.heap.size=wr.heap.size+1:=by rw [hw1,<- hss];simp
   have HR1:Hid (Row w1 gp l.length (fun i=>.int .i64 ((fun i=>if i=k then (k:Int) else P i) i))):=by
    have h9:Row ws gp l.length (fun i=>.int .i64 ((fun i=>if i=k then (k:Int) else P i) i)):=by
     rw [hws]
     refine (HR.out.set hlt _).congr (fun i hi=>?_)
     by_cases e:i=k
     ·simp [e]
     ·simp [e]
    exact h9.below hbn
   have HO1:Hid (Ou w1 go l k):=(HO.out.kept hgs hks (fun e=>HGP.out.2.2 e.symm)).below (by omega) hbn
   have HB1:Hid (Below w.heap.size w w1):=(HB.out.trans (hks.below (fun b hb=>by cases hb;exact HGP.out.1) hbs)).trans (hbn.mono (by omega))
   have HX1:Hid (NodeAt w1 bx 0 ⟨op,wd,vk,na,nb,nc⟩):=by
    rw [hw1,hbx,<- hss]
    exact ⟨by rw [World.cell?_alloc_new];rfl,by rw [World.cell?_alloc_new];rfl,by rw [World.cell?_alloc_new];rfl,by rw [World.cell?_alloc_new];rfl,by rw [World.cell?_alloc_new];rfl,by rw [World.cell?_alloc_new];rfl⟩
   have hg1:go < w1.heap.size:=by omega
   have hgb:¬ gp=bx:=by omega
   clear hbn hks
   go_wp2_with fail
   rw [<- hws,<- hw1,<- hbx]
   clear hw1 hws hbx c1 c3 p0 p1 p2 p3 p4 p5 hgn hgw hs1 hss
   refine (iQuant _ _).mono ?_
   rintro e w2 ⟨rfl,hw2⟩
   have hw2':=hw2.symm
   clear hw2
   subst hw2'
   obtain ⟨b0,b1,b2,b3,b4,b5⟩:=HX1.out
   simp only [Nat.zero_add] at b1 b2 b3 b4 b5
   cases hq:quant op
   ·have HKB:Hid (bel l k=k):=HBO.out hq
    have HMQ:Hid (mv (fun i=>if i=k then (k:Int) else P i) ⟨op,wd,vk,na,nb,nc⟩=N):=HMV.out _ (fun p hp=>by show (if p=k then (k:Int) else P p)=_;rw [if_neg (by omega)];exact HP.out p hp)
    go_wp2_with fail
    refine (iMoved ⟨op,wd,vk,na,nb,nc⟩ _ gp l.length l.length (fun i=>if i=k then (k:Int) else P i) HR1.out (fun p hp=>by have:=HDP.out p hp;omega) hl2).mono ?_
    rw [HMQ.out]
    rintro e w3 ⟨rfl,hb3⟩
    have HO3:Hid (Ou w3 go l k):=HO1.out.below hg1 hb3
    have HR3:Hid (Row w3 gp l.length (fun i=>.int .i64 ((fun i=>if i=k then (k:Int) else P i) i))):=(HR1.out).below hb3
    have HB3:Hid (Below w.heap.size w w3):=HB1.out.trans (hb3.mono HB1.out.size)
    have hg3:go < w3.heap.size:=Nat.lt_of_lt_of_le hg1 hb3.size
    obtain ⟨v,⟨q0,q1,q2,q3,q4,q5⟩,_⟩:=HO3.out.at_ k hlt
    have f0:=HO3.out.fr (k*6) (by omega)
    have f1:=HO3.out.fr (k*6+1) (by omega)
    have f2:=HO3.out.fr (k*6+2) (by omega)
    have f3:=HO3.out.fr (k*6+3) (by omega)
    have f4:=HO3.out.fr (k*6+4) (by omega)
    have f5:=HO3.out.fr (k*6+5) (by omega)
    clear hb3 b0 b1 b2 b3 b4 b5 HR1 HO1 HX1 HB1 hq
    go_wp2_with fail
    go_roundw
    case rel =>
     have hk9:Kept (fun b=>b=go) w3 (setNode w3 go (k*6) N):=setNode_keptS (S:=fun b=>b=go) (b:=go) (p:=k*6) (n:=N) rfl (Kept.refl _ _)
     refine ⟨k+1,by omega,by go_num,⟨_,HR3.out.kept hk9 (fun e=>HGP.out.2.2 e),fun p hp=>?_⟩,HOS.out _ HO3.out,HB3.out.trans (hk9.below (fun b hb=>by cases hb;exact HGP.out.2.1) HB3.out.size),Nat.lt_of_lt_of_le hg3 hk9.size⟩
     show (if p=k then (k:Int) else P p)=_
     by_cases e:p=k
     ·subst e
      rw [if_pos rfl,HKB.out]
     ·rw [if_neg e]
      exact HP.out p (by omega)
    case measure=>simp [intOf];omega
   ·have hop:op=19\/op=20:=by simpa [quant] using hq
    have hm:na∈parts ⟨op,wd,vk,na,nb,nc⟩:=by rw [parts_one (n:=⟨op,wd,vk,na,nb,nc⟩) (by show op=2\/op=17\/op=19\/op=20;omega)];simp
    obtain ⟨h91,h92⟩:=HDP.out na hm
    obtain ⟨pa,rfl⟩:=Int.eq_ofNat_of_zero_le h91
    have hpk:pa < k:=by omega
    have hpl:(pa:Int) < (l.length:Int):=by omega
    obtain ⟨d1',_⟩:=HR1.out pa (by omega)
    obtain ⟨c1',c3⟩:=HR1.out k hlt
    have d1:w1.cell? ⟨gp,pa,none⟩=some (.int .i64 (if pa=k then (k:Int) else P pa)):=d1'
    have c1:w1.cell? ⟨gp,k,none⟩=some (.int .i64 (if k=k then (k:Int) else P k)):=c1'
    clear d1' c1'
    rw [if_neg (by omega),HP.out pa hpk] at d1
    rw [if_pos rfl] at c1
    have HKB:Hid (bel l k=bel l pa):=by
     have h9:bel l k=bel l ((pa:Int)).toNat:=HBQ.out hq
     rw [Int.toNat_natCast] at h9
     exact h9
    generalize bel l pa=Y at d1 HKB
    obtain ⟨w2,hw2⟩:∃ w2:World,w2=w1.setCell ⟨gp,k,none⟩ (.int .i64 (Y:Int)):=⟨_,rfl⟩
    have hks:Kept (fun b=>b=gp) w1 w2:=by rw [hw2];exact (Kept.refl (fun b=>b=gp) w1).setCell (p:=⟨gp,k,none⟩) rfl _
    have HR2:Hid (Row w2 gp l.length (fun i=>.int .i64 ((fun i=>if i=k then (Y:Int) else P i) i))):=by
     rw [hw2]
     refine (HR1.out.set hlt _).congr (fun i hi=>?_)
     by_cases e:i=k
     ·simp [e]
     ·simp [e]
    have HO2:Hid (Ou w2 go l k):=HO1.out.kept hg1 hks (fun e=>HGP.out.2.2 e.symm)
    have HB2:Hid (Below w.heap.size w w2):=HB1.out.trans (hks.below (fun b hb=>by cases hb;exact HGP.out.1) HB1.out.size)
    have hg2:go < w2.heap.size:=Nat.lt_of_lt_of_le hg1 hks.size
    clear hks h91 h92 hm
    have HMQ:Hid (mv (fun i=>if i=k then (Y:Int) else P i) ⟨op,wd,vk,(pa:Int),nb,nc⟩=N):=HMV.out _ (fun p hp=>by show (if p=k then (Y:Int) else P p)=_;rw [if_neg (by omega)];exact HP.out p hp)
    go_wp2_with fail
    rw [<- hw2]
    clear hw2 d1 c1 c3
    refine (iMoved ⟨op,wd,vk,(pa:Int),nb,nc⟩ _ gp l.length l.length (fun i=>if i=k then (Y:Int) else P i) HR2.out (fun p hp=>by have:=HDP.out p hp;omega) hl2).mono ?_
    rw [HMQ.out]
    rintro e w3 ⟨rfl,hb3⟩
    have HO3:Hid (Ou w3 go l k):=HO2.out.below hg2 hb3
    have HR3:Hid (Row w3 gp l.length (fun i=>.int .i64 ((fun i=>if i=k then (Y:Int) else P i) i))):=(HR2.out).below hb3
    have HB3:Hid (Below w.heap.size w w3):=HB2.out.trans (hb3.mono HB2.out.size)
    have hg3:go < w3.heap.size:=Nat.lt_of_lt_of_le hg2 hb3.size
    obtain ⟨v,⟨q0,q1,q2,q3,q4,q5⟩,_⟩:=HO3.out.at_ k hlt
    have f0:=HO3.out.fr (k*6) (by omega)
    have f1:=HO3.out.fr (k*6+1) (by omega)
    have f2:=HO3.out.fr (k*6+2) (by omega)
    have f3:=HO3.out.fr (k*6+3) (by omega)
    have f4:=HO3.out.fr (k*6+4) (by omega)
    have f5:=HO3.out.fr (k*6+5) (by omega)
    clear hb3 b0 b1 b2 b3 b4 b5 HR1 HO1 HX1 HB1 HR2 HO2 HB2 hq
    go_wp2_with fail
    go_roundw
    case rel =>
     have hk9:Kept (fun b=>b=go) w3 (setNode w3 go (k*6) N):=setNode_keptS (S:=fun b=>b=go) (b:=go) (p:=k*6) (n:=N) rfl (Kept.refl _ _)
     refine ⟨k+1,by omega,by go_num,⟨_,HR3.out.kept hk9 (fun e=>HGP.out.2.2 e),fun p hp=>?_⟩,HOS.out _ HO3.out,HB3.out.trans (hk9.below (fun b hb=>by cases hb;exact HGP.out.2.1) HB3.out.size),Nat.lt_of_lt_of_le hg3 hk9.size⟩
     show (if p=k then (Y:Int) else P p)=_
     by_cases e:p=k
     ·subst e
      rw [if_pos rfl,HKB.out]
     ·rw [if_neg e]
      exact HP.out p (by omega)
    case measure=>simp [intOf];omega
  ·have e:k=l.length:=by omega
   subst e
   have hbe:=bel_le (down_of HT.out) (l.length - 1) (by omega)
   obtain ⟨c1',_⟩:=HR.out (l.length - 1) (by omega)
   have c1:wr.cell? ⟨gp,l.length - 1,none⟩=some (.int .i64 (P (l.length - 1))):=c1'
   clear c1'
   rw [HP.out _ (by omega)] at c1
   have HCU:Hid (cutL l=thrTo l (bel l (l.length - 1)+1)):=rfl
   obtain ⟨Y,hY⟩:∃ Y,Y=bel l (l.length - 1):=⟨_,rfl⟩
   rw [<- hY] at c1 HCU hbe
   have hy1:Y < l.length:=by omega
   have HNC:Hid (Nodes wr (some ⟨go,0,none⟩) (cutL l)):=by rw [HCU.out];exact HO.out.nodes (n:=Y+1) (by omega) (by omega) hl2
   have HCL:Hid ((cutL l).length=Y+1):=by show _=_;rw [HCU.out,thrTo_length]
   have HPC:Hid (Calls Tryz.prog 48 #[.slice (some ⟨go,0,none⟩) (Y+1) l.length] wr fun e w'=>(∃ a' c',e=.returned (.slice a' (restL l).length c')/\WNodes w' wr.heap.size a' (restL l)/\(restL l).length<=c')/\Below wr.heap.size wr w'):=by
    have h9:=HPR.out wr (some ⟨go,0,none⟩) (cutL l) l.length HNC.out (by rw [HCL.out];omega) (by rw [HCL.out];omega)
    rw [HCL.out] at h9
    exact h9
   have hw1:IntKind.i64.wrap ((l.length:Int) - 1)=(l.length:Int) - 1:=by rw [IntKind.wrap_i64]<;>omega
   have hy2:(Y:Int)+1<=(l.length:Int):=by omega
   have hz1:(l.length:Int) - 1 < (l.length:Int):=by omega
   have hz2:(0:Int)<=(l.length:Int) - 1:=by omega
   clear hbe hY HNC HCU
   go_wp2_with fail
   refine HPC.out.mono ?_
   rintro e w3 ⟨⟨a',c',rfl,hw3,hc3⟩,hb3⟩
   have HW3:Hid (WNodes w3 w.heap.size a' (restL l)):=by
    refine ⟨hw3.1,?_⟩
    rcases hw3.2 with h0|⟨b,o,he,hB,hc⟩
    ·exact .inl h0
    ·exact .inr ⟨b,o,he,Nat.le_trans HB.out.size hB,hc⟩
   have HC3:Hid ((restL l).length<=c'):=hc3
   have HB3:Hid (Below w.heap.size w w3):=HB.out.trans (hb3.mono HB.out.size)
   clear hw3 hc3 hb3
   go_wp2_with fail
   go_ret
   exact ⟨⟨_,_,rfl,HW3.out,HC3.out⟩,HB3.out⟩
end Fq3
namespace Nd5
open Go.RowKit
open Nd0 Nd3
def NodesIn (w:World) (B U:Nat) (a:Option Addr) (l:List Nd):Prop :=
 l.length<=maxLen/\(l.length=0\/∃ b o,a=some ⟨b,o,none⟩/\B<=b/\b < U/\(∀ i (h:i < l.length),NodeAt w b (o+i*6) l[i])/\∀ j,j < l.length*6->w.frozen? ⟨b,o+j,none⟩=false)
theorem WNodes.within {w:World} {B:Nat} {a:Option Addr} {l:List Nd} (h:WNodes w B a l):NodesIn w B w.heap.size a l:=by
 refine ⟨h.1,?_⟩
 by_cases e:l.length=0
 ·exact .inl e
 ·rcases h.2 with h0|⟨b,o,ha,hB,hc,hf⟩
  ·exact .inl h0
  ·exact .inr ⟨b,o,ha,hB,(hc 0 (by omega)).lt,hc,hf⟩
theorem NodesIn.wnodes {w:World} {B U:Nat} {a:Option Addr} {l:List Nd} (h:NodesIn w B U a l):WNodes w B a l:=by
 refine ⟨h.1,?_⟩
 rcases h.2 with h0|⟨b,o,ha,hB,_,hc,hf⟩
 ·exact .inl h0
 ·exact .inr ⟨b,o,ha,hB,hc,hf⟩
theorem NodesIn.nodes {w:World} {B U:Nat} {a:Option Addr} {l:List Nd} (h:NodesIn w B U a l):Nodes w a l:=h.wnodes.nodes
end Nd5
namespace Fq4
open Go.RowKit
open Nd0 Nd3 Nd5 Qa0 Qa2 Tm0 Tm6 Tm11 Fr0 Fr2 Qi0 Qi1 Fq1 Fq2 Fq3 Ap14
open Lx2 (IReached)
open Lx4 (IPrune)
open Lx6 (ISentence)
def IFront:Prop:=∀ (w:World) (a:Option Addr) (l:List Nd) (c:Nat),Nodes w a l->l.length<=c->l.length<=1048576 ->
 Calls Tryz.prog 6 #[.slice a l.length c] w fun e w'=>(∃ aq cq ar cr U,e=.returned (.tuple #[.slice aq (frontQ l).length cq,.slice ar (frontR l).length cr,.bool (sentB l)])/\QusIn w' w.heap.size U aq (frontQ l)/\NodesIn w' U w'.heap.size ar (frontR l)/\w.heap.size<=U/\U<=w'.heap.size/\(frontQ l).length<=cq/\(frontR l).length<=cr)/\Below w.heap.size w w'
theorem frontR_short (l:List Nd):(frontR l).length<=81:=by
 have h:=frontR_le l
 cases hs:sentB l with
 | true=>have:=term_len (sent_ok hs);omega
 | false=>unfold frontR;rw [hs];simp
theorem iFront (hSE:ISentence) (hRE:IReached) (hPR:IPrune):IFront:=by
 intro w a l c hN hcap hl
 have HSE:Hid ISentence:=hSE
 have HRE:Hid IReached:=hRE
 have HPR:Hid IPrune:=hPR
 have HN:Hid (Nodes w a l):=hN
 have HCAP:Hid (l.length<=c):=hcap
 obtain ⟨wa,hwa⟩:∃ wa:World,wa=w.alloc (.cells #[] 42):=⟨_,rfl⟩
 have HBA:Hid (Below w.heap.size w wa):=by rw [hwa];exact (Below.refl _ _).alloc (Nat.le_refl _) _
 have HO0:Hid (OwQu wa w.heap.size (.slice (some ⟨w.heap.size,0,none⟩) 0 0) []):=by rw [hwa];exact OwQu.lit w _ (Nat.le_refl _)
 have hlt:w.heap.size < wa.heap.size:=by rw [hwa];simp
 have HE0:Hid (∀ j,wa.cell? ⟨w.heap.size,j,none⟩=none):=by
  intro j
  rw [hwa,World.cell?_alloc_new]
  simp
 clear hSE hRE hPR hN hcap
 go_enter Tryz.func6,Tryz.ntmps6
 go_wp2_with fail
 rw [<- hwa]
 clear hwa
 refine (HSE.out _ a l c (HN.out.below HBA.out) HCAP.out hl).mono ?_
 rintro e w1 ⟨rfl,hb1⟩
 have HB1:Hid (Below w.heap.size w w1):=HBA.out.trans (hb1.mono HBA.out.size)
 have HO1:Hid (OwQu w1 w.heap.size (.slice (some ⟨w.heap.size,0,none⟩) 0 0) []):=HO0.out.kept (S:=fun _=>False) (Kept.ofBelow hb1) (fun _ _ h=>h)
 have HE1:Hid (∀ j,w1.cell? ⟨w.heap.size,j,none⟩=none):=fun j=>by rw [hb1.cell hlt];exact HE0.out j
 have hlt1:w.heap.size < w1.heap.size:=Nat.lt_of_lt_of_le hlt hb1.size
 clear hb1 HO0 HBA HE0 hlt
 cases hs:sentB l
 ·have HQ0:Hid (frontQ l=[]/\frontR l=[]):=⟨by unfold frontQ;rw [hs];rfl,by unfold frontR;rw [hs];rfl⟩
  go_wp2
  go_ret3
  rw [HQ0.out.1,HQ0.out.2,hs]
  exact ⟨⟨_,_,_,_,w1.heap.size,rfl,⟨Nat.zero_le _,.inl rfl⟩,⟨Nat.zero_le _,.inl rfl⟩,HB1.out.size,by simp,Nat.zero_le _,Nat.zero_le _⟩,HB1.out.alloc HB1.out.size _⟩
 ·have HS:Hid (sentB l=true):=hs
  have HFL:Hid ((frontQ l).length<=1000):=by
   show _<=_
   rw [Fq0.fq_front hs]
   have hT:=sent_ok hs
   have h1:=term_len hT
   exact Nat.le_trans (Fq0.fq_le hs (by omega) (Tm8.reach_root h1.1)) (by omega)
  have HFR:Hid (frontR l=restL l):=by show _=_;unfold frontR;rw [hs];rfl
  clear hs
  go_wp2_with fail
  refine (iAtFront HRE.out _ a l c (HN.out.below HB1.out) HCAP.out HS.out).mono ?_
  rintro e w2 ⟨⟨aq,cq,rfl,hq2⟩,hb2⟩
  have HB2:Hid (Below w.heap.size w w2):=HB1.out.trans (hb2.mono HB1.out.size)
  have HO2:Hid (OwQu w2 w.heap.size (.slice (some ⟨w.heap.size,0,none⟩) 0 0) []):=HO1.out.kept (S:=fun _=>False) (Kept.ofBelow hb2) (fun _ _ h=>h)
  have HQ2:Hid (Qvs w2 aq (frontQ l)):=hq2
  have HE2:Hid (∀ j,w2.cell? ⟨w.heap.size,j,none⟩=none):=fun j=>by rw [hb2.cell hlt1];exact HE1.out j
  clear hb2 hq2 HO1 HB1 HE1 hlt1
  obtain ⟨q,hq⟩:∃ q,q=frontQ l:=⟨_,rfl⟩
  rw [<- hq] at HFL HQ2 ⊢
  have HQE:Hid (q=frontQ l):=hq
  clear hq
  go_wp2_with fail
  go_loopw [5,17] (fun v i wr=>∃ k:Nat,k<=q.length/\i=.int .i64 k/\OwQu wr w.heap.size v (q.take k)/\Below w.heap.size w wr/\Qvs wr aq q/\(0 < q.length->∀ x,aq=some x->v.ownBlock≠some x.block)) (fun _ i _=>q.length - (intOf i).toNat)
  case atStart =>
   refine ⟨0,Nat.zero_le _,rfl,by rw [List.take_zero];exact HO2.out,HB2.out,HQ2.out,fun h x hx e=>?_⟩
   rcases HQ2.out.2 with h0|⟨b,o,rfl,hc⟩
   ·omega
   ·cases hx
    have e':w.heap.size=b:=Option.some.inj e
    have h9:=hc 0 h
    rw [<- e',HE2.out] at h9
    cases h9
  case round =>
   obtain ⟨k,hk,rfl,ho,hb,hqv,hown⟩:=hrel
   have HO:Hid (OwQu wr w.heap.size u5 (q.take k)):=ho
   have HB:Hid (Below w.heap.size w wr):=hb
   have HQ:Hid (Qvs wr aq q):=hqv
   have HW:Hid (0 < q.length->∀ x,aq=some x->u5.ownBlock≠some x.block):=hown
   have hbs:w.heap.size<=wr.heap.size:=hb.size
   have hq9:q.length<=1000:=HFL.out
   have HTL:Hid ((q.take k).length=k):=by show _=_;rw [List.length_take];omega
   clear ho hb hqv hown HO2 HB2 HQ2 HE2
   by_cases hlt:k < q.length
   ·have hlz:(k:Int) < (q.length:Int):=by omega
    rcases HQ.out.2 with h0|⟨b,o,rfl,hc⟩
    ·omega
    have p0:=hc k hlt
    have HBL:Hid (b < wr.heap.size):=lt_of_cell p0
    clear hc
    have HT:Hid (q.take (k+1)=q.take k++[q[k]]):=by
     show _=_
     rw [List.take_succ_eq_append_getElem hlt]
    obtain ⟨x,hx⟩:∃ x,x=q[k]:=⟨_,rfl⟩
    rw [<- hx] at p0 HT
    clear hx
    generalize q.take k=L at HO HTL HT
    go_wp2_with fail
    refine (iQuantOf x _).mono ?_
    rintro e w3 ⟨rfl,hb3⟩
    have HB3:Hid (Below w.heap.size w w3):=HB.out.trans (hb3.mono hbs)
    have HO3:Hid (OwQu w3 w.heap.size u5 L):=HO.out.kept (S:=fun _=>False) (Kept.ofBelow hb3) (fun _ _ h=>h)
    have HQ3:Hid (Qvs w3 (some ⟨b,o,none⟩) q):=HQ.out.below hb3
    have hbs3:w.heap.size<=w3.heap.size:=HB3.out.size
    have HBL3:Hid (b < w3.heap.size):=Nat.lt_of_lt_of_le HBL.out hb3.size
    clear hb3 p0
    go_wp2_with (at_builtin;go_must (refine appQu w3 rfl _ _ rfl w.heap.size u5 L x rfl _ rfl rfl HO3.out hbs3 (by have:=HFL.out;rw [HTL.out];omega) ?_;intro g5 cp5 w5 ho5 hk5 hg5;have HO5:Hid (OwQu w5 w.heap.size (.slice (some ⟨g5,0,none⟩) (L.length+1) cp5) (L++[x])):=ho5;have HB5:Hid (Below w.heap.size w w5):=HB3.out.trans (hk5.below (fun b hb=>(HO3.out.lt b hb).1) hbs3);have HQ5:Hid (Qvs w5 (some ⟨b,o,none⟩) q):=HQ3.out.kept hk5 (fun y hy=>HW.out (by omega) y hy);have HG5:Hid (u5.ownBlock=some g5\/w3.heap.size<=g5):=hg5;clear ho5 hk5 hg5))
    go_roundw
    case rel =>
     refine ⟨k+1,by omega,by go_num,by rw [HT.out];exact HO5.out,HB5.out,HQ5.out,fun h x hx e=>?_⟩
     cases hx
     have e':g5=b:=Option.some.inj e
     rcases HG5.out with h9|h9
     ·exact HW.out (by omega) ⟨b,o,none⟩ rfl (by rw [h9,e'])
     ·have:=HBL3.out
      omega
    case measure=>simp [intOf];omega
   ·have HE:Hid (q.take k=q):=by show _=_;rw [List.take_of_length_le (by omega)]
    obtain ⟨av,cv,hv,hq,hcap⟩:=HO.out.form
    rw [HE.out] at hv hq hcap
    subst hv
    have HI:Hid (WQus wr w.heap.size av q/\q.length<=cv):=⟨hq,hcap⟩
    clear hq hcap HO HE HQ HW HTL
    go_wp2_with fail
    refine (iWithout HPR.out _ a l c (HN.out.below HB.out) (sent_ok HS.out)).mono ?_
    rintro e w4 ⟨⟨ar,cr,rfl,hw4,hc4⟩,hb4⟩
    have HB4:Hid (Below w.heap.size w w4):=HB.out.trans (hb4.mono hbs)
    have HI4:Hid (QusIn w4 w.heap.size wr.heap.size av q):=HI.out.1.within.below hb4
    have HW4:Hid (NodesIn w4 wr.heap.size w4.heap.size ar (restL l)):=WNodes.within hw4
    have HZ4:Hid (w.heap.size<=wr.heap.size/\wr.heap.size<=w4.heap.size):=⟨hbs,hb4.size⟩
    have HC4:Hid ((restL l).length<=cr):=hc4
    clear hw4 hc4 hb4
    go_wp2_with fail
    go_ret3
    rw [HFR.out,HS.out,<- HQE.out]
    exact ⟨⟨_,_,_,_,_,rfl,HI4.out,HW4.out,HZ4.out.1,HZ4.out.2,HI.out.2,HC4.out⟩,HB4.out⟩
end Fq4
end Go.Proofs.YtebejleeadofcaaGreat
