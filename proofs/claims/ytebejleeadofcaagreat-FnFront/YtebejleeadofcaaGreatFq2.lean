import Derived.Deep.RegionWith
import Derived.Test.YtebejleeadofcaaGreatPkFR29
import Derived.Test.YtebejleeadofcaaGreatPkFR30
import Derived.Test.YtebejleeadofcaaGreatPkFR2
namespace Go.Proofs.YtebejleeadofcaaGreat
set_option maxRecDepth 100000
set_option maxHeartbeats 8000000
set_option linter.unusedVariables false
namespace Fq2
open Go.RowKit
open Nd0 Qa0 Tm0 Tm1 Tm2 Tm5 Tm6 Tm8 Tm11 Tr0 Qi0 Qi1 Qi2 Fr1 Fr2 Fq0 Fq1
open Lx2 (IReached)
theorem zerosQ:Tryz.zeroCells76=Array.replicate 80 (.slice none 0 0):=by kernel_rfl
def Dn (l:List Nd) (j p:Nat):Prop:=p < l.length/\flag (reachL l) p=true/\(reachTo l p).length < j
def Lz (w:World) (gl:Nat) (l:List Nd) (j:Nat):Prop :=
 ∀ p,p < 80->w.frozen? ⟨gl,p,none⟩=false/\(Dn l j p->∃ ap cp,w.cell? ⟨gl,p,none⟩=some (.slice ap (fq l p).length cp)/\Qvs w ap (fq l p)/\∀ y,ap=some y->y.block≠gl)/\(¬ Dn l j p->w.cell? ⟨gl,p,none⟩=some (.slice none 0 0))
theorem Lz.at {w:World} {gl:Nat} {l:List Nd} {j:Nat} (h:Lz w gl l j) {p:Nat} (hp:p < 80):(∃ v,w.cell? ⟨gl,p,none⟩=some v)/\w.frozen? ⟨gl,p,none⟩=false:=by
 obtain ⟨h0,h1,h2⟩:=h p hp
 refine ⟨?_,h0⟩
 by_cases e:Dn l j p
 ·obtain ⟨ap,cp,hc,_⟩:=h1 e
  exact ⟨_,hc⟩
 ·exact ⟨_,h2 e⟩
theorem Lz.lt {w:World} {gl:Nat} {l:List Nd} {j:Nat} (h:Lz w gl l j):gl < w.heap.size:=by
 obtain ⟨⟨v,hv⟩,_⟩:=h.at (p:=0) (by omega)
 exact lt_of_cell hv
theorem Lz.below {w w':World} {gl:Nat} {l:List Nd} {j:Nat} (h:Lz w gl l j) (k:Below w.heap.size w w'):Lz w' gl l j:=fun p hp=>by
 obtain ⟨h0,h1,h2⟩:=h p hp
 refine ⟨by rw [k.frozen h.lt];exact h0,fun e=>?_,fun e=>by rw [k.cell h.lt];exact h2 e⟩
 obtain ⟨ap,cp,hc,hq,hy⟩:=h1 e
 exact ⟨ap,cp,by rw [k.cell h.lt];exact hc,hq.below k,hy⟩
theorem Lz.start {w:World} {l:List Nd}:Lz (w.alloc (.cells Tryz.zeroCells76 76)) w.heap.size l 0:=fun p hp=>by
 refine ⟨by simp,fun e=>absurd e.2.2 (Nat.not_lt_zero _),fun _=>?_⟩
 rw [World.cell?_alloc_new,zerosQ,Array.getElem?_replicate,if_pos hp]
theorem Lz.skip {w:World} {gl:Nat} {l:List Nd} {j:Nat} (h:Lz w gl l j) {x:Nat} (hf:flag (reachL l) x=true) (hj:(reachTo l x).length=j) (h0:fq l x=[]):Lz w gl l (j+1):=fun p hp=>by
 obtain ⟨h1,h2,h3⟩:=h p hp
 refine ⟨h1,fun e=>?_,fun e=>h3 (fun e'=>e ⟨e'.1,e'.2.1,by have:=e'.2.2;omega⟩)⟩
 by_cases hd:Dn l j p
 ·exact h2 hd
 ·have ex:p=x:=reachTo_inj l e.2.1 hf (by
   have h9:=e.2.2
   have h8:¬ (reachTo l p).length < j:=fun h8=>hd ⟨e.1,e.2.1,h8⟩
   omega)
  subst ex
  exact ⟨none,0,by rw [h0];exact h3 hd,by rw [h0];exact ⟨Nat.zero_le _,.inl rfl⟩,fun y hy=>by cases hy⟩
theorem Lz.set {w:World} {gl:Nat} {l:List Nd} {j:Nat} (h:Lz w gl l j) {x:Nat} (hx:x < l.length) (h80:x < 80) (hf:flag (reachL l) x=true) (hj:(reachTo l x).length=j) {L:List Qu} (hL:fq l x=L) {ap:Option Addr} {cp:Nat} (hq:Qvs w ap L) (hy:∀ y,ap=some y->y.block≠gl) :
 Lz (w.setCell ⟨gl,x,none⟩ (.slice ap L.length cp)) gl l (j+1):=by
 subst hL
 intro p hp
 obtain ⟨h1,h2,h3⟩:=h p hp
 have hk:Kept (fun k=>k=gl) w (w.setCell ⟨gl,x,none⟩ (.slice ap (fq l x).length cp)):=(Kept.refl (fun k=>k=gl) w).setCell (p:=⟨gl,x,none⟩) rfl _
 obtain ⟨⟨v0,hv0⟩,_⟩:=h.at h80
 by_cases e:p=x
 ·subst e
  exact ⟨by simp only [World.frozen?_setCell];exact h1,fun _=>⟨ap,cp,set_same hv0,hq.kept hk (fun y hy'=>hy y hy'),hy⟩,fun e'=>absurd ⟨hx,hf,by omega⟩ e'⟩
 ·have ho:(w.setCell ⟨gl,x,none⟩ (.slice ap (fq l x).length cp)).cell? ⟨gl,p,none⟩=w.cell? ⟨gl,p,none⟩:=set_other (by intro z;cases z;exact e rfl)
  refine ⟨by simp only [World.frozen?_setCell];exact h1,fun e'=>?_,fun e'=>by rw [ho];exact h3 (fun e2=>e' ⟨e2.1,e2.2.1,by have:=e2.2.2;omega⟩)⟩
  have hd:Dn l j p:=⟨e'.1,e'.2.1,by
   have h9:=e'.2.2
   have h8:(reachTo l p).length≠j:=fun h8=>e (reachTo_inj l e'.2.1 hf (by omega))
   omega⟩
  obtain ⟨aq,cq,hc,hqq,hyy⟩:=h2 hd
  exact ⟨aq,cq,by rw [ho];exact hc,hqq.kept hk (fun y h'=>hyy y h'),hyy⟩
theorem owi_shape {w:World} {B:Nat} {v:Value} {l:List Qu} (h:Owi w B v l):∃ a c,v=.slice a l.length c/\Qvs w a l/\∀ y,a=some y->B<=y.block/\y.block < w.heap.size:=by
 obtain ⟨a,c,hv,hq,_,_⟩:=h.form
 refine ⟨a,c,hv,hq,fun y hy=>?_⟩
 have hlt:=h.lt
 rcases h.2 with ⟨e,_⟩|⟨g,cap,cur,e,_⟩
 ·rw [hv] at e
  simp only [Value.slice.injEq] at e
  rw [hy] at e
  cases e.1
 ·rw [hv] at e
  simp only [Value.slice.injEq] at e
  rw [hy] at e
  have e1:=Option.some.inj e.1
  have h9:=hlt g (by rw [hv,hy,e1];rfl)
  rw [e1]
  exact h9
theorem qvs_one (w:World) (x:Qu):Qvs (w.alloc (.cells #[qv x] 51)) (some ⟨w.heap.size,0,none⟩) [x]:=by
 refine ⟨by simp [maxLen],.inr ⟨_,_,rfl,fun i hi=>?_⟩⟩
 have:i=0:=by simpa using hi
 subst this
 rw [World.cell?_alloc_new];rfl
theorem ints_kept {w w':World} {a:Option Addr} {l:List Int} (h:Ints w a l) {S:Nat->Prop} (k:Kept S w w') (hs:∀ x,a=some x->¬ S x.block):Ints w' a l:=by
 refine ⟨h.1,?_⟩
 rcases h.2 with h0|⟨b,o,rfl,hc⟩
 ·exact .inl h0
 ·exact .inr ⟨b,o,rfl,fun i hi=>by rw [k.cell (lt_of_cell (hc i hi)) (hs ⟨b,o,none⟩ rfl)];exact hc i hi⟩
theorem Lz.drew {w:World} {gl:Nat} {l:List Nd} {j:Nat} (h:Lz w gl l j):Lz w.drew gl l j:=fun p hp=>by
 obtain ⟨h0,h1,h2⟩:=h p hp
 refine ⟨h0,fun e=>?_,h2⟩
 obtain ⟨ap,cp,hc,hq,hy⟩:=h1 e
 exact ⟨ap,cp,hc,⟨hq.1,hq.2⟩,hy⟩
theorem qvs_drew {w:World} {a:Option Addr} {l:List Qu} (h:Qvs w a l):Qvs w.drew a l:=⟨h.1,h.2⟩
theorem below_drew {B:Nat} {u w:World} (h:Below B u w):Below B u w.drew:=⟨h.os,h.tape,h.output,h.size,h.block⟩
theorem dn_part {l:List Nd} (hT:termOk l=true) {x j:Nat} (hx:x < l.length) (hf:flag (reachL l) x=true) (hj:(reachTo l x).length=j) {p:Int} (hp:p∈parts (nth l x)):∃ pa:Nat,p=(pa:Int)/\pa < x/\Dn l j pa:=by
 have h1:=down_of hT x hx p hp
 have h2:=reach_closed (down_of hT) hx hf hp
 refine ⟨p.toNat,by omega,by omega,by omega,h2,?_⟩
 rw [<- hj]
 exact reachTo_lt l (by omega) h2
theorem iAtFront (hRE:IReached) (w:World) (a:Option Addr) (l:List Nd) (c:Nat) (hN:Nodes w a l) (hcap:l.length<=c) (hS:sentB l=true) :
 Calls Tryz.prog 21 #[.slice a l.length c] w fun e w'=>(∃ a' c',e=.returned (.slice a' (frontQ l).length c')/\Qvs w' a' (frontQ l))/\Below w.heap.size w w':=by
 have HT:Hid (termOk l=true):=sent_ok hS
 have HS:Hid (sentB l=true):=hS
 obtain ⟨hl1,hl2⟩:=term_len HT.out
 obtain ⟨gl,hgl⟩:∃ gl:Nat,gl=w.heap.size:=⟨_,rfl⟩
 obtain ⟨wa,hwa⟩:∃ wa:World,wa=w.alloc (.cells Tryz.zeroCells76 76):=⟨_,rfl⟩
 have HLA:Hid (Lz wa gl l 0):=by rw [hwa,hgl];exact Lz.start
 have hba:Below w.heap.size w wa:=by rw [hwa];exact (Below.refl _ _).alloc (Nat.le_refl _) _
 have HBA:Hid (Below w.heap.size w wa):=hba
 have HN:Hid (Nodes w a l):=hN
 have HGL:Hid (w.heap.size<=gl):=by show _<=_;omega
 have HCAP:Hid (l.length<=c):=hcap
 have HRE:Hid IReached:=hRE
 clear hS hba hN hcap hRE
 go_enter Tryz.func21,Tryz.ntmps21
 go_wp2_with fail
 rw [<- hwa,<- hgl]
 clear hwa hgl
 refine (HRE.out _ a l c (HN.out.below HBA.out) HCAP.out (by omega)).mono ?_
 rintro e w1 ⟨⟨ai,ci,rfl,hi1⟩,hb1⟩
 have HRA:Hid (∀ j (h:j < (reachedL l).length),∃ x:Nat,(reachedL l)[j]=(x:Int)/\x < l.length/\flag (reachL l) x=true/\(reachTo l x).length=j):=by
  have e:reachedL l=reachTo l l.length:=by unfold reachedL;rw [HT.out];rfl
  rw [e]
  exact fun j h=>reach_at l l.length j h
 have HRN:Hid ((reachedL l).length=(reachTo l l.length).length):=by
  show _=_
  unfold reachedL;rw [HT.out];rfl
 have hrl:(reachedL l).length<=80:=by rw [HRN.out];exact Nat.le_trans (reachTo_length l _) (by omega)
 have HI1:Hid (Ints w1 ai (reachedL l)):=hi1.ints
 have HI2:Hid (∀ y,ai=some y->0 < (reachedL l).length->y.block≠gl):=fun y hy h0=>by
  rcases hi1.2 with h9|⟨b9,o9,h9,hB9,_⟩
  ·omega
  ·rw [hy] at h9
   cases h9
   have:=HLA.out.lt
   show ¬ b9=gl
   omega
 have HL1:Hid (Lz w1 gl l 0):=HLA.out.below hb1
 have HB1:Hid (Below w.heap.size w w1):=HBA.out.trans (hb1.mono HBA.out.size)
 clear hi1 hb1 HLA HBA
 generalize reachedL l=R at HRA HRN HI1 HI2 hrl ⊢
 go_wp2
 go_loopw [11] (fun i wr=>∃ j:Nat,j<=R.length/\i=.int .i64 (j:Int)/\Lz wr gl l j/\Below w.heap.size w wr/\Ints wr ai R) (fun i _=>R.length - (intOf i).toNat)
 case atStart=>exact ⟨0,Nat.zero_le _,rfl,HL1.out,HB1.out,HI1.out⟩
 case round =>
  clear HL1 HB1 HI1
  obtain ⟨j,hj,rfl,hlz,hb,hin⟩:=hrel
  have HL:Hid (Lz wr gl l j):=hlz
  have HB:Hid (Below w.heap.size w wr):=hb
  have HI:Hid (Ints wr ai R):=hin
  have hgw:gl < wr.heap.size:=hlz.lt
  have hbs:w.heap.size<=wr.heap.size:=hb.size
  clear hlz hb hin
  by_cases hlt:j < R.length
  ·have hltz:(j:Int) < (R.length:Int):=by omega
   obtain ⟨x,hxe,hx,hf,hxj⟩:=HRA.out j hlt
   rcases HI.out.2 with h0|⟨bi,oi,rfl,hci⟩
   ·omega
   have pi:=hci j hlt
   rw [hxe] at pi
   clear hci hxe
   have HBI:Hid (bi≠gl):=HI2.out _ rfl (by omega)
   rcases (HN.out.below HB.out).2 with h0|⟨xb,xo,rfl,hcn⟩
   ·omega
   obtain ⟨p0,p1,p2,p3,p4,p5⟩:=hcn x hx
   rw [nth_get hx] at p0 p1 p2 p3 p4 p5
   clear hcn
   have HX:Hid (x < l.length/\flag (reachL l) x=true/\(reachTo l x).length=j):=⟨hx,hf,hxj⟩
   have hx80:(x:Int) < 80:=by omega
   have hxl:(x:Int) < (l.length:Int):=by omega
   have HDP:Hid (∀ p∈parts (nth l x),∃ pa:Nat,p=(pa:Int)/\pa < x/\Dn l j pa):=fun p hp=>dn_part HT.out hx hf hxj hp
   have HFN:Hid ((nth l x).op=2->fq l x=(fq l (nth l x).a.toNat).map turnQ):=fq_not HT.out hx
   have HFQ:Hid (quant (nth l x).op=true->fq l x=⟨(nth l x).op==19,(nth l x).k,(nth l x).b⟩ :: fq l (nth l x).a.toNat):=fq_q HT.out hx
   have HF2:Hid ((nth l x).op=3\/(nth l x).op=4->fq l x=fq l (nth l x).a.toNat++fq l (nth l x).b.toNat):=fq_two HT.out hx
   have HF0:Hid (¬ ((nth l x).op=2\/(nth l x).op=3\/(nth l x).op=4\/quant (nth l x).op=true)->fq l x=[]):=fq_none HS.out hx hf
   have HFL:Hid (∀ p:Nat,p < x->Dn l j p->(fq l p).length<=8):=fun p hp hd=>fq_le HS.out hd.1 hd.2.1
   clear hf hxj
   generalize nth l x=n at p0 p1 p2 p3 p4 p5 HDP HFN HFQ HF2 HF0
   obtain ⟨op,wd,k,na,nb,nc⟩:=n
   dsimp only at p0 p1 p2 p3 p4 p5
   obtain ⟨wn,hwn⟩:∃ wn:World,wn=wr.alloc (.cells #[.int .i64 op,.int .i64 wd,.int .i64 k,.int .i64 na,.int .i64 nb,.int .i64 nc] 58):=⟨_,rfl⟩
   have hbn:Below wr.heap.size wr wn:=by rw [hwn];exact (Below.refl _ _).alloc (Nat.le_refl _) _
   have HNW:Hid (Below wr.heap.size wr wn):=hbn
   have HLN:Hid (Lz wn gl l j):=HL.out.below hbn
   have HBN:Hid (Below w.heap.size w wn):=HB.out.trans (hbn.mono hbs)
   have HIN:Hid (Ints wn (some ⟨bi,oi,none⟩) R):=HI.out.below hbn
   have HCN:Hid (wn.cell? ⟨wr.heap.size,0,none⟩=some (.int .i64 op)/\wn.cell? ⟨wr.heap.size,1,none⟩=some (.int .i64 wd)/\wn.cell? ⟨wr.heap.size,2,none⟩=some (.int .i64 k)/\wn.cell? ⟨wr.heap.size,3,none⟩=some (.int .i64 na)/\wn.cell? ⟨wr.heap.size,4,none⟩=some (.int .i64 nb)):=by
    rw [hwn]
    exact ⟨by rw [World.cell?_alloc_new];rfl,by rw [World.cell?_alloc_new];rfl,by rw [World.cell?_alloc_new];rfl,by rw [World.cell?_alloc_new];rfl,by rw [World.cell?_alloc_new];rfl⟩
   have hgn:gl < wn.heap.size:=HLN.out.lt
   by_cases hq:op=19\/op=20
   ·have hqq:quant op=true:=by rcases hq with e|e<;>rw [e]<;>rfl
    obtain ⟨pa,hpa,hpx,hpd⟩:=HDP.out na (by rw [parts_one (n:=⟨op,wd,k,na,nb,nc⟩) (by show op=2\/op=17\/op=19\/op=20;omega)];simp)
    subst hpa
    obtain ⟨ap,cp,hcp,hqp,hyp⟩:=(HLN.out pa (by omega)).2.1 hpd
    have HQP:Hid (Qvs wn ap (fq l pa)):=hqp
    have hl8:=HFL.out pa hpx hpd
    obtain ⟨L,hL⟩:∃ L,L=fq l x:=⟨_,rfl⟩
    have HFX:Hid (fq l x=L):=hL.symm
    have HLX:Hid (L=⟨op==19,k,nb⟩ :: fq l pa):=by
     show _=_
     rw [hL]
     have h9:=HFQ.out hqq
     dsimp only at h9
     rw [Int.toNat_natCast] at h9
     exact h9
    clear HFN HFQ HF2 HF0 HDP HFL hqp hyp hpd hL hqq
    generalize fq l pa=P at hcp HQP hl8 HLX
    have hpz:(pa:Int) < 80:=by omega
    obtain ⟨n0,n1,n2,n3,n4⟩:=HCN.out
    have hrn:wr.heap.size < wn.heap.size:=lt_of_cell (p:=⟨wr.heap.size,0,none⟩) n0
    rcases hq with e|e<;>subst e
    ·go_wp2_with fail
     rw [<- hwn]
     clear hwn
     refine (iNewQ _ _ _ _).mono ?_
     rintro e w2 ⟨rfl,hw2⟩
     have hw2':=hw2.symm
     clear hw2
     subst hw2'
     rw [qv_all]
     have HLE:Hid ([⟨true,k,nb⟩]++P=L):=by show _=_;rw [HLX.out];rfl
     have hbw:Below wn.heap.size wn (wn.alloc (.cells #[.iface 104 (.agg #[.int .i64 k,.int .i64 nb])] 51)):=(Below.refl _ _).alloc (Nat.le_refl _) _
     have HBW:Hid (Below wn.heap.size wn (wn.alloc (.cells #[.iface 104 (.agg #[.int .i64 k,.int .i64 nb])] 51))):=hbw
     have HPW:Hid (Qvs (wn.alloc (.cells #[.iface 104 (.agg #[.int .i64 k,.int .i64 nb])] 51)) ap P):=HQP.out.below hbw
     have HOW:Hid (Qvs (wn.alloc (.cells #[.iface 104 (.agg #[.int .i64 k,.int .i64 nb])] 51)) (some ⟨wn.heap.size,0,none⟩) [⟨true,k,nb⟩]):=qvs_one wn ⟨true,k,nb⟩
     clear hbw
     go_wp2_with fail
     refine (iOneBehind _ _ _ [⟨true,k,nb⟩] P L HLE.out 1 cp HOW.out HPW.out (by simp) (by omega)).mono ?_
     rintro e w3 ⟨⟨g3,c3,rfl,ho3⟩,hb3⟩
     have hb4:Below wn.heap.size wn w3:=HBW.out.trans (hb3.mono (by simp))
     have hg3:gl < g3:=by have:=(ho3.lt g3 rfl).1;simp at this;omega
     have HL3:Hid (Lz w3 gl l j):=HLN.out.below hb4
     have HB3:Hid (Below w.heap.size w w3):=HBN.out.trans (hb4.mono HBN.out.size)
     have HI3:Hid (Ints w3 (some ⟨bi,oi,none⟩) R):=HIN.out.below hb4
     have HQ3:Hid (Qvs w3 (some ⟨g3,0,none⟩) L):=by
      obtain ⟨a3,c3',hv3,hq3,_⟩:=owi_shape ho3
      simp only [Value.slice.injEq] at hv3
      rw [hv3.1];exact hq3
     have HG3:Hid (∀ y,some (⟨g3,0,none⟩:Addr)=some y->y.block≠gl):=fun y hy=>by cases hy;show ¬ g3=gl;omega
     obtain ⟨⟨v0,hv0⟩,hf0⟩:=HL3.out.at (p:=x) (by omega)
     clear ho3 hb3 hb4 hg3 HPW HOW HBW HLE HQP HLN HBN HIN HCN n0 n1 n2 n3 n4 hcp
     go_wp2_with fail
     go_roundw
     case rel =>
      have hst:Lz (w3.setCell ⟨gl,x,none⟩ (.slice (some ⟨g3,0,none⟩) L.length c3)) gl l (j+1):=HL3.out.set HX.out.1 (by omega) HX.out.2.1 HX.out.2.2 HFX.out HQ3.out HG3.out
      have hk:Kept (fun k=>k=gl) w3 (w3.setCell ⟨gl,x,none⟩ (.slice (some ⟨g3,0,none⟩) L.length c3)):=(Kept.refl (fun k=>k=gl) w3).setCell (p:=⟨gl,x,none⟩) rfl _
      exact ⟨j+1,by omega,by go_num,hst,HB3.out.trans (hk.below (fun k hk=>by cases hk;exact HGL.out) HB3.out.size),ints_kept HI3.out hk (fun y hy=>by cases hy;exact HBI.out)⟩
     case measure=>simp [intOf];omega
    ·go_wp2_with fail
     rw [<- hwn]
     clear hwn
     refine (iNewQ _ _ _ _).mono ?_
     rintro e w2 ⟨rfl,hw2⟩
     have hw2':=hw2.symm
     clear hw2
     subst hw2'
     rw [qv_some]
     have HLE:Hid ([⟨false,k,nb⟩]++P=L):=by show _=_;rw [HLX.out];rfl
     have hbw:Below wn.heap.size wn (wn.alloc (.cells #[.iface 105 (.agg #[.int .i64 k,.int .i64 nb])] 51)):=(Below.refl _ _).alloc (Nat.le_refl _) _
     have HBW:Hid (Below wn.heap.size wn (wn.alloc (.cells #[.iface 105 (.agg #[.int .i64 k,.int .i64 nb])] 51))):=hbw
     have HPW:Hid (Qvs (wn.alloc (.cells #[.iface 105 (.agg #[.int .i64 k,.int .i64 nb])] 51)) ap P):=HQP.out.below hbw
     have HOW:Hid (Qvs (wn.alloc (.cells #[.iface 105 (.agg #[.int .i64 k,.int .i64 nb])] 51)) (some ⟨wn.heap.size,0,none⟩) [⟨false,k,nb⟩]):=qvs_one wn ⟨false,k,nb⟩
     clear hbw
     go_wp2_with fail
     refine (iOneBehind _ _ _ [⟨false,k,nb⟩] P L HLE.out 1 cp HOW.out HPW.out (by simp) (by omega)).mono ?_
     rintro e w3 ⟨⟨g3,c3,rfl,ho3⟩,hb3⟩
     have hb4:Below wn.heap.size wn w3:=HBW.out.trans (hb3.mono (by simp))
     have hg3:gl < g3:=by have:=(ho3.lt g3 rfl).1;simp at this;omega
     have HL3:Hid (Lz w3 gl l j):=HLN.out.below hb4
     have HB3:Hid (Below w.heap.size w w3):=HBN.out.trans (hb4.mono HBN.out.size)
     have HI3:Hid (Ints w3 (some ⟨bi,oi,none⟩) R):=HIN.out.below hb4
     have HQ3:Hid (Qvs w3 (some ⟨g3,0,none⟩) L):=by
      obtain ⟨a3,c3',hv3,hq3,_⟩:=owi_shape ho3
      simp only [Value.slice.injEq] at hv3
      rw [hv3.1];exact hq3
     have HG3:Hid (∀ y,some (⟨g3,0,none⟩:Addr)=some y->y.block≠gl):=fun y hy=>by cases hy;show ¬ g3=gl;omega
     obtain ⟨⟨v0,hv0⟩,hf0⟩:=HL3.out.at (p:=x) (by omega)
     clear ho3 hb3 hb4 hg3 HPW HOW HBW HLE HQP HLN HBN HIN HCN n0 n1 n2 n3 n4 hcp
     go_wp2_with fail
     go_roundw
     case rel =>
      have hst:Lz (w3.setCell ⟨gl,x,none⟩ (.slice (some ⟨g3,0,none⟩) L.length c3)) gl l (j+1):=HL3.out.set HX.out.1 (by omega) HX.out.2.1 HX.out.2.2 HFX.out HQ3.out HG3.out
      have hk:Kept (fun k=>k=gl) w3 (w3.setCell ⟨gl,x,none⟩ (.slice (some ⟨g3,0,none⟩) L.length c3)):=(Kept.refl (fun k=>k=gl) w3).setCell (p:=⟨gl,x,none⟩) rfl _
      exact ⟨j+1,by omega,by go_num,hst,HB3.out.trans (hk.below (fun k hk=>by cases hk;exact HGL.out) HB3.out.size),ints_kept HI3.out hk (fun y hy=>by cases hy;exact HBI.out)⟩
     case measure=>simp [intOf];omega
   ·have hq1:(op==19)=false:=by simp;omega
    have hq2:(op==20)=false:=by simp;omega
    by_cases ho2:op=2
    ·subst ho2
     obtain ⟨pa,hpa,hpx,hpd⟩:=HDP.out na (by rw [parts_one (n:=⟨2,wd,k,na,nb,nc⟩) (.inl rfl)];simp)
     subst hpa
     obtain ⟨ap,cp,hcp,hqp,hyp⟩:=(HL.out pa (by omega)).2.1 hpd
     have HQP:Hid (Qvs wn ap (fq l pa)):=hqp.below HNW.out
     have hl8:=HFL.out pa hpx hpd
     obtain ⟨L,hL⟩:∃ L,L=fq l x:=⟨_,rfl⟩
     have HFX:Hid (fq l x=L):=hL.symm
     have HLX:Hid ((fq l pa).map turnQ=L):=by
      show _=_
      rw [hL]
      have h9:=HFN.out rfl
      dsimp only at h9
      rw [Int.toNat_natCast] at h9
      exact h9.symm
     clear HFN HFQ HF2 HF0 HDP HFL hqp hyp hpd hL hq hq1 hq2
     generalize fq l pa=P at hcp HQP hl8 HLX
     have hpz:(pa:Int) < 80:=by omega
     obtain ⟨n0,n1,n2,n3,n4⟩:=HCN.out
     go_wp2_with fail
     rw [<- hwn]
     clear hwn
     refine (iTurnedAll _ ap P cp HQP.out (by omega)).mono ?_
     rw [HLX.out]
     rintro e w3 ⟨⟨v3,rfl,ho3⟩,hb4⟩
     have ho9:∃ a3 c3,v3=.slice a3 L.length c3/\Qvs w3 a3 L/\∀ y,a3=some y->y.block≠gl:=by
      obtain ⟨a3,c3,hv3,hq3,hy3⟩:=owi_shape ho3
      exact ⟨a3,c3,hv3,hq3,fun y hy=>by have:=(hy3 y hy).1;omega⟩
     obtain ⟨a3,c3,rfl,hq3,hy3⟩:=ho9
     have HL3:Hid (Lz w3 gl l j):=HLN.out.below hb4
     have HB3:Hid (Below w.heap.size w w3):=HBN.out.trans (hb4.mono HBN.out.size)
     have HI3:Hid (Ints w3 (some ⟨bi,oi,none⟩) R):=HIN.out.below hb4
     have HQ3:Hid (Qvs w3 a3 L):=hq3
     have HG3:Hid (∀ y,a3=some y->y.block≠gl):=hy3
     obtain ⟨⟨v0,hv0⟩,hf0⟩:=HL3.out.at (p:=x) (by omega)
     clear ho3 hb4 hq3 hy3 HQP HLN HBN HIN HCN n0 n1 n2 n3 n4 hcp HLX
     go_wp2_with fail
     go_roundw
     case rel =>
      have hst:Lz (w3.setCell ⟨gl,x,none⟩ (.slice a3 L.length c3)) gl l (j+1):=HL3.out.set HX.out.1 (by omega) HX.out.2.1 HX.out.2.2 HFX.out HQ3.out HG3.out
      have hk:Kept (fun k=>k=gl) w3 (w3.setCell ⟨gl,x,none⟩ (.slice a3 L.length c3)):=(Kept.refl (fun k=>k=gl) w3).setCell (p:=⟨gl,x,none⟩) rfl _
      exact ⟨j+1,by omega,by go_num,hst,HB3.out.trans (hk.below (fun k hk=>by cases hk;exact HGL.out) HB3.out.size),ints_kept HI3.out hk (fun y hy=>by cases hy;exact HBI.out)⟩
     case measure=>simp [intOf];omega
    ·have hq3:(op==2)=false:=by simp;omega
     by_cases ho3:op=3\/op=4
     ·obtain ⟨pa,hpa,hpx,hpd⟩:=HDP.out na (by rw [parts_two (n:=⟨op,wd,k,na,nb,nc⟩) (by show 3<=op/\op<=16;omega)];simp)
      obtain ⟨pb,hpb,hbx,hbd⟩:=HDP.out nb (by rw [parts_two (n:=⟨op,wd,k,na,nb,nc⟩) (by show 3<=op/\op<=16;omega)];simp)
      subst hpa hpb
      obtain ⟨ap,cp,hcp,hqp,hyp⟩:=(HLN.out pa (by omega)).2.1 hpd
      obtain ⟨aq,cq,hcq,hqq,hyq⟩:=(HLN.out pb (by omega)).2.1 hbd
      have HQP:Hid (Qvs wn.drew ap (fq l pa)):=qvs_drew hqp
      have HQQ:Hid (Qvs wn.drew aq (fq l pb)):=qvs_drew hqq
      have HLD:Hid (Lz wn.drew gl l j):=HLN.out.drew
      have HID:Hid (Ints wn.drew (some ⟨bi,oi,none⟩) R):=⟨HIN.out.1,HIN.out.2⟩
      have HBD:Hid (Below w.heap.size w wn.drew):=below_drew HBN.out
      have hgd:gl < wn.drew.heap.size:=HLD.out.lt
      have hl8:=HFL.out pa hpx hpd
      have hl9:=HFL.out pb hbx hbd
      obtain ⟨L,hL⟩:∃ L,L=fq l x:=⟨_,rfl⟩
      have HFX:Hid (fq l x=L):=hL.symm
      have HLX:Hid (fq l pa++fq l pb=L):=by
       show _=_
       rw [hL]
       have h9:=HF2.out ho3
       dsimp only at h9
       rw [Int.toNat_natCast,Int.toNat_natCast] at h9
       exact h9.symm
      clear HFN HFQ HF2 HF0 HDP HFL hqp hyp hpd hqq hyq hbd hL hq ho2
      generalize fq l pa=P at hcp HQP hl8 HLX
      generalize fq l pb=Q at hcq HQQ hl9 HLX
      have hpz:(pa:Int) < 80:=by omega
      have hpy:(pb:Int) < 80:=by omega
      obtain ⟨n0,n1,n2,n3,n4⟩:=HCN.out
      have hnn:¬ gl=wr.heap.size:=by omega
      rcases ho3 with e|e<;>subst e
      all_goals
       go_wp2_with fail
       rw [<- hwn]
       clear hwn
       go_region_with (go_at_call 43;refine (iOneBehind _ _ _ P Q L HLX.out cp cq HQP.out HQQ.out (by omega) (by omega)).mono ?_;rintro e w3 ⟨⟨g3,c3,rfl,ho3⟩,hb4⟩;have hg3:gl < g3:=(by have:=(ho3.lt g3 rfl).1;omega);have HL3:Hid (Lz w3 gl l j):=HLD.out.below hb4;obtain ⟨⟨v0,hv0⟩,hf0⟩:=HL3.out.at (p:=x) (by omega))
      all_goals
       have HB3:Hid (Below w.heap.size w w3):=HBD.out.trans (hb4.mono HBD.out.size)
       have HI3:Hid (Ints w3 (some ⟨bi,oi,none⟩) R):=HID.out.below hb4
       have HQ3:Hid (Qvs w3 (some ⟨g3,0,none⟩) L):=by
        obtain ⟨a3,c3',hv3,hq3,_⟩:=owi_shape ho3
        simp only [Value.slice.injEq] at hv3
        rw [hv3.1];exact hq3
       have HG3:Hid (∀ y,some (⟨g3,0,none⟩:Addr)=some y->y.block≠gl):=fun y hy=>by cases hy;show ¬ g3=gl;omega
       clear ho3 hb4 hg3 HQP HQQ HLN HBN HIN HCN n0 n1 n2 n3 n4 hcp hcq HLX hv0 hf0
       go_wp2_with fail
       go_roundw
       case rel =>
        have hst:Lz (w3.setCell ⟨gl,x,none⟩ (.slice (some ⟨g3,0,none⟩) L.length c3)) gl l (j+1):=HL3.out.set HX.out.1 (by omega) HX.out.2.1 HX.out.2.2 HFX.out HQ3.out HG3.out
        have hk:Kept (fun k=>k=gl) w3 (w3.setCell ⟨gl,x,none⟩ (.slice (some ⟨g3,0,none⟩) L.length c3)):=(Kept.refl (fun k=>k=gl) w3).setCell (p:=⟨gl,x,none⟩) rfl _
        exact ⟨j+1,by omega,by go_num,hst,HB3.out.trans (hk.below (fun k hk=>by cases hk;exact HGL.out) HB3.out.size),ints_kept HI3.out hk (fun y hy=>by cases hy;exact HBI.out)⟩
       case measure=>simp [intOf];omega
     ·have hq4:(op==3)=false:=by simp;omega
      have hq5:(op==4)=false:=by simp;omega
      have h0:fq l x=[]:=HF0.out (by
       show ¬ (op=2\/op=3\/op=4\/quant op=true)
       rintro (h|h|h|h)
       ·exact ho2 h
       ·exact ho3 (.inl h)
       ·exact ho3 (.inr h)
       ·simp [quant] at h;exact hq h)
      have HST:Hid (Lz wn gl l (j+1)):=HLN.out.skip HX.out.2.1 HX.out.2.2 h0
      obtain ⟨n0,n1,n2,n3,n4⟩:=HCN.out
      clear HFN HFQ HF2 HF0 HDP HFL h0 hq ho2 ho3
      go_wp2_with fail
      rw [<- hwn]
      clear hwn
      go_wp2_with fail
      go_roundw
      case rel=>exact ⟨j+1,by omega,by go_num,HST.out,HBN.out,HIN.out⟩
      case measure=>simp [intOf];omega
  ·have e:j=R.length:=by omega
   subst e
   have hdl:Dn l R.length (l.length - 1):=⟨by omega,reach_root hl1,by rw [HRN.out];exact reachTo_lt l (by omega) (reach_root hl1)⟩
   obtain ⟨ap,cp,hcp,hqp,hyp⟩:=(HL.out (l.length - 1) (by omega)).2.1 hdl
   rw [<- fq_front HS.out] at hcp hqp
   have HQ9:Hid (Qvs wr ap (frontQ l)):=hqp
   have hw1:IntKind.i64.wrap ((l.length:Int) - 1)=(l.length:Int) - 1:=by rw [IntKind.wrap_i64]<;>omega
   have hz1:(l.length:Int) - 1 < 80:=by omega
   have hz2:(0:Int)<=(l.length:Int) - 1:=by omega
   clear hqp hyp hdl
   go_wp2
   go_ret
   exact ⟨⟨_,_,rfl,HQ9.out⟩,HB.out⟩
end Fq2
end Go.Proofs.YtebejleeadofcaaGreat
