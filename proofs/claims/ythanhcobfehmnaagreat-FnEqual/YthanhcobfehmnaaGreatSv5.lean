import Derived.Test.YthanhcobfehmnaaGreatPkQU239
import Derived.Test.YthanhcobfehmnaaGreatAp6
namespace Go.Proofs.YthanhcobfehmnaaGreat
set_option maxRecDepth 100000
set_option maxHeartbeats 8000000
set_option linter.unusedVariables false
namespace Sv5
open Go.RowKit
open Nd0 Pl1 Tm0 Tm1 Tm5 Tm6 Tm8 Ap0 Ap6 Tr0 Rw0 Vl1 Vl2 Vm0 Vm1 Kp1 Bt0
open Sp10 (sQuant)
open Sp2 (sParts)
open Wd1 (spow sWordOk ret_int ret_bool)
def rowV (l:List Nd) (n:Nd) (v:Nat):Nat:=if quant n.op/\n.k=(v:Int) then 0 else preA l n v
def rowI (l:List Nd) (n:Nd):List Int:=(List.range 8).map fun v=>(rowV l n v:Int)
theorem rowI_length (l:List Nd) (n:Nd):(rowI l n).length=8:=by simp [rowI]
theorem rowI_wd (l:List Nd) (n:Nd) {v:Nat} (hv:v < 8):wd (rowI l n) (v:Int)=(rowV l n v:Int):=by
 rw [<- wd_get (by rw [rowI_length];exact hv)];simp [rowI]
theorem rowI_take (l:List Nd) (n:Nd) {v:Nat} (hv:v < 8):(rowI l n).take (v+1)=(rowI l n).take v++[(rowV l n v:Int)]:=by
 rw [List.take_succ_eq_append_getElem (by rw [rowI_length];exact hv)]
 congr 2
 simp [rowI]
def rowsTo (l:List Nd) (k:Nat):List (List Int):=(List.range k).map fun j=>rowI l (nth l j)
theorem rowsTo_length (l:List Nd) (k:Nat):(rowsTo l k).length=k:=by simp [rowsTo]
theorem rowsTo_succ (l:List Nd) (k:Nat):rowsTo l (k+1)=rowsTo l k++[rowI l (nth l k)]:=by simp [rowsTo,List.range_succ]
theorem rowsTo_get (l:List Nd) {j k:Nat} (h:j < k):(rowsTo l k).getD j []=rowI l (nth l j):=by
 unfold rowsTo
 rw [List.getD_eq_getElem?_getD,List.getElem?_map,List.getElem?_range h];rfl
def Good (l:List Nd) (j:Nat):Prop:=∃ r,needT (tr l j)=some r/\∀ v,v < 8->r.getD v 0=rowV l (nth l j) v
theorem Good.some {l:List Nd} {j:Nat} (h:Good l j):(needT (tr l j)).isSome=true:=by
 obtain ⟨r,hr,_⟩:=h;rw [hr];rfl
theorem Good.row {l:List Nd} {j:Nat} (h:Good l j) {v:Nat} (hv:v < 8):(rowN l j).getD v 0=rowV l (nth l j) v:=by
 obtain ⟨r,hr,h2⟩:=h
 unfold rowN;rw [hr];exact h2 v hv
theorem Good.bd {l:List Nd} (hT:termOk l=true) {j:Nat} (hj:j < l.length) (h:Good l j) {v:Nat} (hv:v < 8):rowV l (nth l j) v < 2 ^ 9:=by
 obtain ⟨r,hr,h2⟩:=h
 rw [<- h2 v hv]
 exact need_bd _ r (rt_all (down_of hT) (fun k hk=>term_node hT hk) j hj).1 hr v
theorem pre_bd {l:List Nd} (hT:termOk l=true) {k:Nat} (hk:k < l.length) (hG:∀ j,j < k->Good l j) {v:Nat} (hv:v < 8):∀ d,d<=(parts (nth l k)).length->preN l (nth l k) v d < 2 ^ 9:=by
 intro d
 induction d with
 | zero =>
   intro _
   have h8:=(node_width (term_node hT hk)).2
   show (if _ then _ else _) < _
   split
   ·exact Nat.lt_of_le_of_lt (Nat.pow_le_pow_right (by omega) (show (nth l k).w.toNat<=8 by omega)) (by decide)
   ·decide
 | succ d ih =>
   intro hd
   show _ ||| _ < _
   refine Nat.or_lt_two_pow (ih (by omega)) ?_
   have hp:=down_of hT k hk ((parts (nth l k)).getD d 0) (by rw [List.getD_eq_getElem?_getD,List.getElem?_eq_getElem (by omega)];exact List.getElem_mem _)
   have hg:=hG ((parts (nth l k)).getD d 0).toNat (by omega)
   rw [hg.row hv]
   exact hg.bd hT (by omega) hv
theorem fit_none {l:List Nd} {e:List Int} (h:needT (root l)=none):fitT (root l) e=false:=by unfold fitT;rw [h]
theorem fit_some {l:List Nd} {e:List Int} {r:List Nat} (h:needT (root l)=some r):fitT (root l) e=fitR r e:=by unfold fitT;rw [h]
theorem sFits (w:World) (a ae:Option Addr) (l:List Nd) (e:List Int) (c ce:Nat) (hN:Nodes w a l) (hT:termOk l=true) (hR:∀ j,j < l.length->flag (reachL l) j=true) (hI:Ints w ae e) (he:e.length=8) :
 Calls Tryz.prog 115 #[.slice a l.length c,.slice ae 8 ce] w fun x w'=>x=.returned (.bool (fitT (root l) e))/\Below w.heap.size w w':=by
 have HN:Hid (Nodes w a l):=hN
 have HT:Hid (termOk l=true):=hT
 have HRE:Hid (∀ j,j < l.length->flag (reachL l) j=true):=hR
 have HIE:Hid (Ints w ae e):=hI
 obtain ⟨hl1,hl2⟩:=term_len hT
 rcases hN.2 with h0|⟨xb,xo,rfl,hxc⟩
 ·omega
 clear hN hT hxc hR hI
 go_enter Tryz.func115,Tryz.ntmps115
 go_wp2
 go_loopw [5,6] (fun va q wr=>∃ k:Nat,k<=l.length/\q=.int .i64 (k:Int)/\Below w.heap.size w wr/\(∃ ga ca vs,va=.slice (some ⟨ga,0,none⟩) k ca/\Owv wr w.heap.size va vs/\Rws wr va vs (rowsTo l k))/\∀ j,j < k->Good l j) (fun _ q _=>l.length - (intOf q).toNat)
 case atStart=>exact ⟨0,Nat.zero_le _,rfl,(Below.refl _ _).alloc (Nat.le_refl _) _,⟨_,_,[],rfl,Owv.lit w _ (Nat.le_refl _),rfl,fun j hj=>absurd hj (Nat.not_lt_zero _)⟩,fun j hj=>absurd hj (Nat.not_lt_zero _)⟩
 case round =>
  obtain ⟨k,hk,rfl,hb,⟨ga,ca,vs,rfl,hov,hrw⟩,hgd⟩:=hrel
  have hvl:vs.length=k:=by rw [hrw.1,rowsTo_length]
  have HB:Hid (Below w.heap.size w wr):=hb
  have HOV:Hid (Owv wr w.heap.size (.slice (some ⟨ga,0,none⟩) k ca) vs):=hov
  have HRW:Hid (Rws wr (.slice (some ⟨ga,0,none⟩) k ca) vs (rowsTo l k)):=hrw
  have HGD:Hid (∀ j,j < k->Good l j):=hgd
  have hbs:w.heap.size<=wr.heap.size:=hb.size
  have hgaw:ga < wr.heap.size:=(hov.lt ga rfl).2
  clear hov hrw hgd
  by_cases hlt:k < l.length
  ·have hlz:(k:Int) < (l.length:Int):=by omega
   have HGB:Hid (∀ m,m < k->∀ v,v < 8->rowV l (nth l m) v < 2 ^ 9):=fun m hm v hv=>(HGD.out m hm).bd HT.out (by omega) hv
   have HPB:Hid (∀ v,v < 8->∀ d,d<=(parts (nth l k)).length->preN l (nth l k) v d < 2 ^ 9):=fun v hv d hd=>pre_bd HT.out hlt HGD.out hv d hd
   have HPD:Hid (∀ p∈parts (nth l k),0<=p/\p < (k:Int)):=down_of HT.out k hlt
   have HPS:Hid (∀ p∈parts (nth l k),(needT (tr l p.toNat)).isSome=true):=fun p hp=>(HGD.out p.toNat (by have:=HPD.out p hp;omega)).some
   have HBADN:Hid (badQ l (nth l k)=true->fitT (root l) e=false):=fun h=>fit_none (root_none (down_of HT.out) (l.length - (k+1)) k (by omega) (HRE.out k hlt) (need_none (down_of HT.out) hlt HPS.out h))
   have hqk:quant (nth l k).op=true->0<=(nth l k).k/\(nth l k).k<=7:=fun h=>shape_var (term_node HT.out hlt) (.inr h)
   have hqb:quant (nth l k).op=true->1<=(nth l k).b/\(nth l k).b<=8:=fun h=>Tm11.quant_b (term_node HT.out hlt) h
   have hnw:=node_width (term_node HT.out hlt)
   have HGK:Hid (badQ l (nth l k)=false->Good l k):=fun h=>by
    obtain ⟨r,hr,h2⟩:=need_some (down_of HT.out) hlt HPS.out h (fun h=>(hqk h).1)
    exact ⟨r,hr,fun v hv=>by rw [h2 v hv];rfl⟩
   have HSU:Hid (rowsTo l (k+1)=rowsTo l k++[rowI l (nth l k)]):=rowsTo_succ l k
   have hpl:=parts_le (nth l k)
   rcases (HN.out.below hb).2 with h0|⟨xb2,xo2,he2,hc⟩
   ·omega
   cases he2
   obtain ⟨p0,p1,p2,p3,p4,p5⟩:=hc k hlt
   rw [nth_get hlt] at p0 p1 p2 p3 p4 p5
   clear hc hb
   generalize hn:nth l k=n at p0 p1 p2 p3 p4 p5 HPB HPD HPS HBADN hqk hqb hnw HGK HSU hpl
   have HNK:Hid (nth l k=n):=hn
   have HQK:Hid (quant n.op=true->0<=n.k/\n.k<=7):=hqk
   have HQB:Hid (quant n.op=true->1<=n.b/\n.b<=8):=hqb
   clear hn hqk hqb
   obtain ⟨wq,hwq⟩:∃ wq:World,wq=wr:=⟨_,rfl⟩
   obtain ⟨bn,hbn⟩:∃ bn:Nat,bn=wr.heap.size:=⟨_,rfl⟩
   obtain ⟨wl,hwl⟩:∃ wl:World,wl=(wr.alloc (.cells #[.int .i64 n.op,.int .i64 n.w,.int .i64 n.k,.int .i64 n.a,.int .i64 n.b,.int .i64 n.c] 44)).alloc (.cells #[] 3):=⟨_,rfl⟩
   have HNA:Hid (NodeAt wl bn 0 n):=by
    rw [hwl,hbn]
    exact (Dw4.node_new wr n 44 _ rfl 0 (by simp)).below ((Below.refl _ _).alloc (Nat.le_refl _) _) (by simp)
   have HRO:Hid (Ows wl (bn+1) (.slice (some ⟨bn+1,0,none⟩) 0 0) []):=by
    have:=Ows.lit (wr.alloc (.cells #[.int .i64 n.op,.int .i64 n.w,.int .i64 n.k,.int .i64 n.a,.int .i64 n.b,.int .i64 n.c] 44)) (bn+1) (by simp [hbn])
    rw [<- hwl,show (wr.alloc (.cells #[.int .i64 n.op,.int .i64 n.w,.int .i64 n.k,.int .i64 n.a,.int .i64 n.b,.int .i64 n.c] 44)).heap.size=bn+1 by simp [hbn]] at this
    exact this
   have HBL:Hid (Below wr.heap.size wr wl):=by
    rw [hwl];exact ((Below.refl _ _).alloc (Nat.le_refl _) _).alloc (by simp) _
   have HSL:Hid (wl.heap.size=bn+1+1):=by
    show _=_
    rw [hwl,hbn];simp
   have HBNE:Hid (bn=wr.heap.size):=hbn
   obtain ⟨q0,q1,q2,q3,q4,q5⟩:=HNA.out
   have HWL:Hid (wl=(wr.alloc (.cells #[.int .i64 n.op,.int .i64 n.w,.int .i64 n.k,.int .i64 n.a,.int .i64 n.b,.int .i64 n.c] 44)).alloc (.cells #[] 3)):=hwl
   rw [hwl,hbn] at q0 q1 q2 q3 q4 q5
   clear hwl hwq wq hbn
   go_wp2_with fail
   rw [<- HWL.out]
   refine (sParts n _).mono ?_
   rintro x0 wi ⟨⟨pa,pc,rfl,hpi⟩,hbi⟩
   have HII:Hid (IntsIn wi (bn+1+1) wi.heap.size pa (parts n)):=by
    have:=hpi.within
    rw [HSL.out] at this
    exact this
   have HNI:Hid (NodeAt wi bn 0 n):=HNA.out.below hbi (by have:=HSL.out;omega)
   have HOI:Hid (Ows wi (bn+1) (.slice (some ⟨bn+1,0,none⟩) 0 0) []):=HRO.out.kept (S:=fun _=>False) (Kept.ofBelow hbi) (fun _ _ h=>h)
   have HBI:Hid (Below wr.heap.size wr wi):=HBL.out.trans (hbi.mono HBL.out.size)
   have hsi:bn+1+1<=wi.heap.size:=by have:=hbi.size;have:=HSL.out;omega
   have hbw:¬ bn=bn+1:=by omega
   clear hpi hbi HNA HRO HBL HWL HSL q0 q1 q2 q3 q4 q5 p0 p1 p2 p3 p4 p5
   obtain ⟨wb,hwb⟩:∃ wb:World,wb=wr:=⟨_,rfl⟩
   have hsz1:(wr.alloc (.cells #[.int .i64 n.op,.int .i64 n.w,.int .i64 n.k,.int .i64 n.a,.int .i64 n.b,.int .i64 n.c] 44)).heap.size=bn+1:=by simp [HBNE.out]
   rw [<- HBNE.out]
   rw [<- hwb] at HB HOV HRW HBI hbs hgaw HBNE
   clear hwb hsz1
   go_wp2_with fail
   go_loopw [8,10] (fun vr q wr=>∃ v:Nat,v<=8/\q=.int .i64 (v:Int)/\Ows wr (bn+1) vr ((rowI l n).take v)/\(∀ b,vr.ownBlock=some b->b=bn+1\/wi.heap.size<=b)/\Kept (fun b=>b=bn+1) wi wr/\(quant n.op=true->n.k < ((v:Nat):Int)->badQ l n=false)) (fun _ q _=>8 - (intOf q).toNat)
   case atStart=>exact ⟨0,Nat.zero_le _,rfl,HOI.out,fun b hb=>.inl (by simpa [Value.ownBlock] using hb.symm),Kept.refl _ _,fun h1 h2=>by have:=(HQK.out h1).1;omega⟩
   case round =>
    obtain ⟨v,hv,rfl,ho2,hw2,hk2,hnb2⟩:=hrel
    have HO2:Hid (Ows wr (bn+1) u8 ((rowI l n).take v)):=ho2
    have HW2:Hid (∀ b,u8.ownBlock=some b->b=bn+1\/wi.heap.size<=b):=hw2
    have HK2:Hid (Kept (fun b=>b=bn+1) wi wr):=hk2
    have HNB2:Hid (quant n.op=true->n.k < ((v:Nat):Int)->badQ l n=false):=hnb2
    have HKW:Hid (Below wb.heap.size wb wr):=HBI.out.trans (hk2.below (fun b (e:b=bn+1)=>by have:=HBNE.out;omega) HBI.out.size)
    have HNI2:Hid (NodeAt wr bn 0 n):=by
     obtain ⟨q0,q1,q2,q3,q4,q5⟩:=HNI.out
     have hlt2:=HNI.out.lt
     exact ⟨(hk2.cell (p:=⟨bn,0,none⟩) hlt2 hbw).trans q0,(hk2.cell (p:=⟨bn,1,none⟩) hlt2 hbw).trans q1,(hk2.cell (p:=⟨bn,2,none⟩) hlt2 hbw).trans q2,(hk2.cell (p:=⟨bn,3,none⟩) hlt2 hbw).trans q3,(hk2.cell (p:=⟨bn,4,none⟩) hlt2 hbw).trans q4,(hk2.cell (p:=⟨bn,5,none⟩) hlt2 hbw).trans q5⟩
    have HI2:Hid (IntsIn wr (bn+1+1) wi.heap.size pa (parts n)):=HII.out.kept hk2 (fun b h1 h2 (e:b=bn+1)=>by omega)
    have HBN:Hid (bn+1<=wr.heap.size):=by
     show _<=_
     have:=hk2.size
     omega
    clear ho2 hw2 hk2 hnb2
    by_cases hv8:v < 8
    ·have hvz:(v:Int) < 8:=by omega
     have HLT:Hid ((rowI l n).take (v+1)=(rowI l n).take v++[(rowV l n v:Int)]):=rowI_take l n hv8
     have HLL:Hid (((rowI l n).take v).length=v):=by
      show _=_
      rw [List.length_take,rowI_length];omega
     generalize (rowI l n).take v=L at HO2 HLT HLL
     obtain ⟨q0,q1,q2,q3,q4,q5⟩:=HNI2.out
     have hPW:Pl1.p2 n.w.toNat=((2 ^ n.w.toNat:Nat):Int):=p2_nat n.w
     have hcases:((n.op==1)=true/\quant n.op=false/\(n.k==(v:Int))=true)\/((n.op==1)=true/\quant n.op=false/\(n.k==(v:Int))=false)\/((n.op==1)=false/\quant n.op=true/\(n.k==(v:Int))=true)\/((n.op==1)=false/\quant n.op=true/\(n.k==(v:Int))=false)\/((n.op==1)=false/\quant n.op=false):=by
      cases hq:quant n.op
      ·cases h1:(n.op==1)
       ·exact .inr (.inr (.inr (.inr ⟨rfl,rfl⟩)))
       ·cases h4:(n.k==(v:Int))
        ·exact .inr (.inl ⟨rfl,rfl,rfl⟩)
        ·exact .inl ⟨rfl,rfl,rfl⟩
      ·have h1:(n.op==1)=false:=by
        have:n.op=19\/n.op=20:=by simpa [quant] using hq
        simp;omega
       cases h4:(n.k==(v:Int))
       ·exact .inr (.inr (.inr (.inl ⟨h1,rfl,rfl⟩)))
       ·exact .inr (.inr (.inl ⟨h1,rfl,rfl⟩))
     rcases hcases with ⟨t1,hq,tk⟩|⟨t1,hq,tk⟩|⟨t1,hq,tk⟩|⟨t1,hq,tk⟩|⟨t1,hq⟩
     ·skip
      have HRV:Hid (rowV l n v=preA l n v):=by
       show _=_
       unfold rowV
       rw [if_neg (by rw [hq];simp)]
      have HNB:Hid (quant n.op=true->n.k < ((v+1:Nat):Int)->badQ l n=false):=fun h=>by rw [hq] at h;cases h
      go_wp2_with (go_at_call 62;refine (spow _ _ (by omega) (by omega)).mono ?_;rintro x0 wr ⟨rfl,rfl⟩;rw [hPW])
      go_loop [11,12] (fun f q=>∃ j:Nat,j<=(parts n).length/\q=.int .i64 (j:Int)/\f=.int .i64 ((preN l n v j:Nat):Int)) (fun _ q=>(parts n).length - (intOf q).toNat)
      case atStart=>exact ⟨0,Nat.zero_le _,rfl,(by show _=Value.int .i64 ((preN l n v 0:Nat):Int);unfold preN;rw [if_pos (by simp_all)];simp)⟩
      case round =>
       obtain ⟨j,hj,rfl,rfl⟩:=hrel
       by_cases hlj:j < (parts n).length
       ·have hljz:(j:Int) < ((parts n).length:Int):=by omega
        obtain ⟨pm,hpm⟩:∃ pm:Int,pm=(parts n)[j]:=⟨_,rfl⟩
        have hpp:=HPD.out pm (by rw [hpm];exact List.getElem_mem hlj)
        obtain ⟨m,rfl⟩:∃ m:Nat,pm=(m:Int):=⟨pm.toNat,by omega⟩
        have hmk:m < k:=by omega
        have hmz:(m:Int) < (k:Int):=by omega
        have hgd:(parts n).getD j 0=(m:Int):=by
         rw [List.getD_eq_getElem?_getD,List.getElem?_eq_getElem hlj,hpm];rfl
        have HST:Hid (preN l n v (j+1)=preN l n v j ||| rowV l (nth l m) v):=by
         show _ ||| _=_
         rw [hgd,Int.toNat_natCast,(HGD.out m hmk).row hv8]
        have HB1:Hid (preN l n v j < 2 ^ 9):=HPB.out v hv8 j hj
        have HB2:Hid (rowV l (nth l m) v < 2 ^ 9):=HGB.out m hmk v hv8
        rcases HI2.out.2 with h0|⟨pb,po,rfl,hpB,hpU,hpc⟩
        ·omega
        have r0:wr.cell? ⟨pb,po+j,none⟩=some (.int .i64 (m:Int)):=by
         rw [(hpc j hlj).1,hpm]
        obtain ⟨gr,cr,hr1,hr2,hr3,hr4⟩:=HRW.out.2 m (by rw [rowsTo_length];exact hmk)
        have r1:wr.cell? ⟨ga,m,none⟩=some (.slice (some ⟨gr,0,none⟩) 8 cr):=by
         rw [HKW.out.cell (p:=⟨ga,m,none⟩) hgaw]
         obtain ⟨g9,c9,hv9,hc9⟩:=HOV.out.at (by rw [hvl];omega)
         simp only [Value.slice.injEq,Option.some.injEq,Addr.mk.injEq] at hv9
         obtain ⟨⟨rfl,_⟩,_⟩:=hv9
         rw [hc9 m (by rw [hvl];exact hmk)];exact hr1
        have r2:wr.cell? ⟨gr,v,none⟩=some (.int .i64 ((rowV l (nth l m) v:Nat):Int)):=by
         rw [HKW.out.cell (p:=⟨gr,v,none⟩) hr2,hr4 v hv8,rowsTo_get l hmk,rowI_wd l _ hv8]
        clear hpm hpc hpp hr1 hr4 hgd
        generalize preN l n v j=s1 at HST HB1 ⊢
        generalize rowV l (nth l m) v=s3 at HST HB2 r2
        have HBO:Hid (bits .or .i64 (s1:Int) (s3:Int)=((preN l n v (j+1):Nat):Int)):=by
         show _=_
         rw [bor16 HB1.out HB2.out,HST.out]
        go_wp2
        go_round
        case rel=>exact ⟨j+1,by omega,by go_num,by rw [<- HBO.out]⟩
        case measure=>simp [intOf];omega
       ·have hljz:¬ (j:Int) < ((parts n).length:Int):=by omega
        have hje:j=(parts n).length:=by omega
        have HPE:Hid (preN l n v j=preA l n v):=by
         show _=_
         rw [hje];rfl
        rw [HPE.out]
        clear hje HPE
        generalize preA l n v=sA at HRV ⊢
        go_wp2_with (first|(go_at_call 28;refine (sQuant _ _).mono ?_;rintro x0 wr ⟨rfl,rfl⟩;rw [hq])|(go_at_call 62;refine (spow _ _ (by omega) (by omega)).mono ?_;rintro x0 wr ⟨rfl,rfl⟩;rw [hPB])|(at_builtin;go_must (refine app_int _ rfl _ _ rfl (bn+1) u8 L _ rfl rfl HO2.out HBN.out (by rw [HLL.out];omega) ?_;intro g5 cp5 w5 ho5 hk5 hg5;have HO5:Hid (Ows w5 (bn+1) (.slice (some ⟨g5,0,none⟩) (L.length+1) cp5) (L++[_])):=ho5;have HK5:Hid (Kept (fun b=>u8.ownBlock=some b) wr w5):=hk5;have HG5:Hid (u8.ownBlock=some g5\/wr.heap.size<=g5):=hg5;clear ho5 hk5 hg5)))
        go_roundw
        case rel =>
         refine ⟨v+1,by omega,by go_num,?_,fun b hb=>?_,Kept.past HK2.out HK5.out (fun b hb=>HW2.out b hb),HNB.out⟩
         ·rw [HLT.out,HRV.out]
          exact HO5.out
         ·have e5:g5=b:=by simpa [Value.ownBlock] using hb
          rcases HG5.out with h|h
          ·exact HW2.out b (by rw [<- e5];exact h)
          ·exact .inr (by have:=HK2.out.size;omega)
        case measure=>simp [intOf];omega
     ·skip
      have HRV:Hid (rowV l n v=preA l n v):=by
       show _=_
       unfold rowV
       rw [if_neg (by rw [hq];simp)]
      have HNB:Hid (quant n.op=true->n.k < ((v+1:Nat):Int)->badQ l n=false):=fun h=>by rw [hq] at h;cases h
      go_wp2_with fail
      go_loop [11,12] (fun f q=>∃ j:Nat,j<=(parts n).length/\q=.int .i64 (j:Int)/\f=.int .i64 ((preN l n v j:Nat):Int)) (fun _ q=>(parts n).length - (intOf q).toNat)
      case atStart=>exact ⟨0,Nat.zero_le _,rfl,(by show _=Value.int .i64 ((preN l n v 0:Nat):Int);unfold preN;rw [if_neg (by simp_all)];rfl)⟩
      case round =>
       obtain ⟨j,hj,rfl,rfl⟩:=hrel
       by_cases hlj:j < (parts n).length
       ·have hljz:(j:Int) < ((parts n).length:Int):=by omega
        obtain ⟨pm,hpm⟩:∃ pm:Int,pm=(parts n)[j]:=⟨_,rfl⟩
        have hpp:=HPD.out pm (by rw [hpm];exact List.getElem_mem hlj)
        obtain ⟨m,rfl⟩:∃ m:Nat,pm=(m:Int):=⟨pm.toNat,by omega⟩
        have hmk:m < k:=by omega
        have hmz:(m:Int) < (k:Int):=by omega
        have hgd:(parts n).getD j 0=(m:Int):=by
         rw [List.getD_eq_getElem?_getD,List.getElem?_eq_getElem hlj,hpm];rfl
        have HST:Hid (preN l n v (j+1)=preN l n v j ||| rowV l (nth l m) v):=by
         show _ ||| _=_
         rw [hgd,Int.toNat_natCast,(HGD.out m hmk).row hv8]
        have HB1:Hid (preN l n v j < 2 ^ 9):=HPB.out v hv8 j hj
        have HB2:Hid (rowV l (nth l m) v < 2 ^ 9):=HGB.out m hmk v hv8
        rcases HI2.out.2 with h0|⟨pb,po,rfl,hpB,hpU,hpc⟩
        ·omega
        have r0:wr.cell? ⟨pb,po+j,none⟩=some (.int .i64 (m:Int)):=by
         rw [(hpc j hlj).1,hpm]
        obtain ⟨gr,cr,hr1,hr2,hr3,hr4⟩:=HRW.out.2 m (by rw [rowsTo_length];exact hmk)
        have r1:wr.cell? ⟨ga,m,none⟩=some (.slice (some ⟨gr,0,none⟩) 8 cr):=by
         rw [HKW.out.cell (p:=⟨ga,m,none⟩) hgaw]
         obtain ⟨g9,c9,hv9,hc9⟩:=HOV.out.at (by rw [hvl];omega)
         simp only [Value.slice.injEq,Option.some.injEq,Addr.mk.injEq] at hv9
         obtain ⟨⟨rfl,_⟩,_⟩:=hv9
         rw [hc9 m (by rw [hvl];exact hmk)];exact hr1
        have r2:wr.cell? ⟨gr,v,none⟩=some (.int .i64 ((rowV l (nth l m) v:Nat):Int)):=by
         rw [HKW.out.cell (p:=⟨gr,v,none⟩) hr2,hr4 v hv8,rowsTo_get l hmk,rowI_wd l _ hv8]
        clear hpm hpc hpp hr1 hr4 hgd
        generalize preN l n v j=s1 at HST HB1 ⊢
        generalize rowV l (nth l m) v=s3 at HST HB2 r2
        have HBO:Hid (bits .or .i64 (s1:Int) (s3:Int)=((preN l n v (j+1):Nat):Int)):=by
         show _=_
         rw [bor16 HB1.out HB2.out,HST.out]
        go_wp2
        go_round
        case rel=>exact ⟨j+1,by omega,by go_num,by rw [<- HBO.out]⟩
        case measure=>simp [intOf];omega
       ·have hljz:¬ (j:Int) < ((parts n).length:Int):=by omega
        have hje:j=(parts n).length:=by omega
        have HPE:Hid (preN l n v j=preA l n v):=by
         show _=_
         rw [hje];rfl
        rw [HPE.out]
        clear hje HPE
        generalize preA l n v=sA at HRV ⊢
        go_wp2_with (first|(go_at_call 28;refine (sQuant _ _).mono ?_;rintro x0 wr ⟨rfl,rfl⟩;rw [hq])|(go_at_call 62;refine (spow _ _ (by omega) (by omega)).mono ?_;rintro x0 wr ⟨rfl,rfl⟩;rw [hPB])|(at_builtin;go_must (refine app_int _ rfl _ _ rfl (bn+1) u8 L _ rfl rfl HO2.out HBN.out (by rw [HLL.out];omega) ?_;intro g5 cp5 w5 ho5 hk5 hg5;have HO5:Hid (Ows w5 (bn+1) (.slice (some ⟨g5,0,none⟩) (L.length+1) cp5) (L++[_])):=ho5;have HK5:Hid (Kept (fun b=>u8.ownBlock=some b) wr w5):=hk5;have HG5:Hid (u8.ownBlock=some g5\/wr.heap.size<=g5):=hg5;clear ho5 hk5 hg5)))
        go_roundw
        case rel =>
         refine ⟨v+1,by omega,by go_num,?_,fun b hb=>?_,Kept.past HK2.out HK5.out (fun b hb=>HW2.out b hb),HNB.out⟩
         ·rw [HLT.out,HRV.out]
          exact HO5.out
         ·have e5:g5=b:=by simpa [Value.ownBlock] using hb
          rcases HG5.out with h|h
          ·exact HW2.out b (by rw [<- e5];exact h)
          ·exact .inr (by have:=HK2.out.size;omega)
        case measure=>simp [intOf];omega
     ·have tk2:n.k=(v:Int):=by simpa using tk
      have HRV:Hid (rowV l n v=0):=by
       show _=_
       unfold rowV
       rw [if_pos ⟨hq,tk2⟩]
      go_wp2_with fail
      go_loop [11,12] (fun f q=>∃ j:Nat,j<=(parts n).length/\q=.int .i64 (j:Int)/\f=.int .i64 ((preN l n v j:Nat):Int)) (fun _ q=>(parts n).length - (intOf q).toNat)
      case atStart=>exact ⟨0,Nat.zero_le _,rfl,(by show _=Value.int .i64 ((preN l n v 0:Nat):Int);unfold preN;rw [if_neg (by simp_all)];rfl)⟩
      case round =>
       obtain ⟨j,hj,rfl,rfl⟩:=hrel
       by_cases hlj:j < (parts n).length
       ·have hljz:(j:Int) < ((parts n).length:Int):=by omega
        obtain ⟨pm,hpm⟩:∃ pm:Int,pm=(parts n)[j]:=⟨_,rfl⟩
        have hpp:=HPD.out pm (by rw [hpm];exact List.getElem_mem hlj)
        obtain ⟨m,rfl⟩:∃ m:Nat,pm=(m:Int):=⟨pm.toNat,by omega⟩
        have hmk:m < k:=by omega
        have hmz:(m:Int) < (k:Int):=by omega
        have hgd:(parts n).getD j 0=(m:Int):=by
         rw [List.getD_eq_getElem?_getD,List.getElem?_eq_getElem hlj,hpm];rfl
        have HST:Hid (preN l n v (j+1)=preN l n v j ||| rowV l (nth l m) v):=by
         show _ ||| _=_
         rw [hgd,Int.toNat_natCast,(HGD.out m hmk).row hv8]
        have HB1:Hid (preN l n v j < 2 ^ 9):=HPB.out v hv8 j hj
        have HB2:Hid (rowV l (nth l m) v < 2 ^ 9):=HGB.out m hmk v hv8
        rcases HI2.out.2 with h0|⟨pb,po,rfl,hpB,hpU,hpc⟩
        ·omega
        have r0:wr.cell? ⟨pb,po+j,none⟩=some (.int .i64 (m:Int)):=by
         rw [(hpc j hlj).1,hpm]
        obtain ⟨gr,cr,hr1,hr2,hr3,hr4⟩:=HRW.out.2 m (by rw [rowsTo_length];exact hmk)
        have r1:wr.cell? ⟨ga,m,none⟩=some (.slice (some ⟨gr,0,none⟩) 8 cr):=by
         rw [HKW.out.cell (p:=⟨ga,m,none⟩) hgaw]
         obtain ⟨g9,c9,hv9,hc9⟩:=HOV.out.at (by rw [hvl];omega)
         simp only [Value.slice.injEq,Option.some.injEq,Addr.mk.injEq] at hv9
         obtain ⟨⟨rfl,_⟩,_⟩:=hv9
         rw [hc9 m (by rw [hvl];exact hmk)];exact hr1
        have r2:wr.cell? ⟨gr,v,none⟩=some (.int .i64 ((rowV l (nth l m) v:Nat):Int)):=by
         rw [HKW.out.cell (p:=⟨gr,v,none⟩) hr2,hr4 v hv8,rowsTo_get l hmk,rowI_wd l _ hv8]
        clear hpm hpc hpp hr1 hr4 hgd
        generalize preN l n v j=s1 at HST HB1 ⊢
        generalize rowV l (nth l m) v=s3 at HST HB2 r2
        have HBO:Hid (bits .or .i64 (s1:Int) (s3:Int)=((preN l n v (j+1):Nat):Int)):=by
         show _=_
         rw [bor16 HB1.out HB2.out,HST.out]
        go_wp2
        go_round
        case rel=>exact ⟨j+1,by omega,by go_num,by rw [<- HBO.out]⟩
        case measure=>simp [intOf];omega
       ·have hljz:¬ (j:Int) < ((parts n).length:Int):=by omega
        have hje:j=(parts n).length:=by omega
        have HPE:Hid (preN l n v j=preA l n v):=by
         show _=_
         rw [hje];rfl
        rw [HPE.out]
        clear hje HPE
        clear tk2
        have HBQ:Hid (badQ l n=decide (preA l n v≠0/\preA l n v≠2 ^ n.b.toNat)):=by
         show _=_
         unfold badQ
         rw [hq,Bool.true_and,show n.k.toNat=v by have:n.k=(v:Int):=(by simpa using tk);omega]
        have hPB:Pl1.p2 n.b.toNat=((2 ^ n.b.toNat:Nat):Int):=p2_nat n.b
        obtain ⟨hb1,hb8⟩:=HQB.out hq
        generalize preA l n v=sA at HBQ ⊢
        generalize 2 ^ n.b.toNat=M at HBQ hPB
        cases z0:((sA:Int) != 0)
        ·have HNB:Hid (quant n.op=true->n.k < ((v+1:Nat):Int)->badQ l n=false):=fun _ _=>by
          rw [HBQ.out]
          have:sA=0:=(by have:(sA:Int)=0:=(by simpa using z0);omega)
          simp [this]
         go_wp2_with (first|(go_at_call 28;refine (sQuant _ _).mono ?_;rintro x0 wr ⟨rfl,rfl⟩;rw [hq])|(go_at_call 62;refine (spow _ _ (by omega) (by omega)).mono ?_;rintro x0 wr ⟨rfl,rfl⟩;rw [hPB])|(at_builtin;go_must (refine app_int _ rfl _ _ rfl (bn+1) u8 L _ rfl rfl HO2.out HBN.out (by rw [HLL.out];omega) ?_;intro g5 cp5 w5 ho5 hk5 hg5;have HO5:Hid (Ows w5 (bn+1) (.slice (some ⟨g5,0,none⟩) (L.length+1) cp5) (L++[_])):=ho5;have HK5:Hid (Kept (fun b=>u8.ownBlock=some b) wr w5):=hk5;have HG5:Hid (u8.ownBlock=some g5\/wr.heap.size<=g5):=hg5;clear ho5 hk5 hg5)))
         go_roundw
         case rel =>
          refine ⟨v+1,by omega,by go_num,?_,fun b hb=>?_,Kept.past HK2.out HK5.out (fun b hb=>HW2.out b hb),HNB.out⟩
          ·rw [HLT.out,HRV.out]
           exact HO5.out
          ·have e5:g5=b:=by simpa [Value.ownBlock] using hb
           rcases HG5.out with h|h
           ·exact HW2.out b (by rw [<- e5];exact h)
           ·exact .inr (by have:=HK2.out.size;omega)
         case measure=>simp [intOf];omega
        ·cases zM:((sA:Int) != (M:Int))
         ·have HNB:Hid (quant n.op=true->n.k < ((v+1:Nat):Int)->badQ l n=false):=fun _ _=>by
           rw [HBQ.out]
           have:sA=M:=(by have:(sA:Int)=(M:Int):=(by simpa using zM);omega)
           simp [this]
          go_wp2_with (first|(go_at_call 28;refine (sQuant _ _).mono ?_;rintro x0 wr ⟨rfl,rfl⟩;rw [hq])|(go_at_call 62;refine (spow _ _ (by omega) (by omega)).mono ?_;rintro x0 wr ⟨rfl,rfl⟩;rw [hPB])|(at_builtin;go_must (refine app_int _ rfl _ _ rfl (bn+1) u8 L _ rfl rfl HO2.out HBN.out (by rw [HLL.out];omega) ?_;intro g5 cp5 w5 ho5 hk5 hg5;have HO5:Hid (Ows w5 (bn+1) (.slice (some ⟨g5,0,none⟩) (L.length+1) cp5) (L++[_])):=ho5;have HK5:Hid (Kept (fun b=>u8.ownBlock=some b) wr w5):=hk5;have HG5:Hid (u8.ownBlock=some g5\/wr.heap.size<=g5):=hg5;clear ho5 hk5 hg5)))
          go_roundw
          case rel =>
           refine ⟨v+1,by omega,by go_num,?_,fun b hb=>?_,Kept.past HK2.out HK5.out (fun b hb=>HW2.out b hb),HNB.out⟩
           ·rw [HLT.out,HRV.out]
            exact HO5.out
           ·have e5:g5=b:=by simpa [Value.ownBlock] using hb
            rcases HG5.out with h|h
            ·exact HW2.out b (by rw [<- e5];exact h)
            ·exact .inr (by have:=HK2.out.size;omega)
          case measure=>simp [intOf];omega
         ·have HFF:Hid (fitT (root l) e=false):=HBADN.out (by
           rw [HBQ.out]
           have h1:¬ sA=0:=(by have:¬ (sA:Int)=0:=(by simpa using z0);omega)
           have h2:¬ sA=M:=(by have:¬ (sA:Int)=(M:Int):=(by simpa using zM);omega)
           simp [h1,h2])
          go_wp2_with (first|(go_at_call 28;refine (sQuant _ _).mono ?_;rintro x0 wr ⟨rfl,rfl⟩;rw [hq])|(go_at_call 62;refine (spow _ _ (by omega) (by omega)).mono ?_;rintro x0 wr ⟨rfl,rfl⟩;rw [hPB]))
          go_ret
          exact ⟨ret_bool HFF.out.symm,HB.out.trans (HKW.out.mono hbs)⟩
     ·have tk2:¬ n.k=(v:Int):=by simpa using tk
      have HRV:Hid (rowV l n v=preA l n v):=by
       show _=_
       unfold rowV
       rw [if_neg (fun h=>tk2 h.2)]
      have HNB:Hid (quant n.op=true->n.k < ((v+1:Nat):Int)->badQ l n=false):=fun h h2=>HNB2.out h (by have:¬ n.k=(v:Int):=tk2;push_cast at h2;omega)
      go_wp2_with fail
      go_loop [11,12] (fun f q=>∃ j:Nat,j<=(parts n).length/\q=.int .i64 (j:Int)/\f=.int .i64 ((preN l n v j:Nat):Int)) (fun _ q=>(parts n).length - (intOf q).toNat)
      case atStart=>exact ⟨0,Nat.zero_le _,rfl,(by show _=Value.int .i64 ((preN l n v 0:Nat):Int);unfold preN;rw [if_neg (by simp_all)];rfl)⟩
      case round =>
       obtain ⟨j,hj,rfl,rfl⟩:=hrel
       by_cases hlj:j < (parts n).length
       ·have hljz:(j:Int) < ((parts n).length:Int):=by omega
        obtain ⟨pm,hpm⟩:∃ pm:Int,pm=(parts n)[j]:=⟨_,rfl⟩
        have hpp:=HPD.out pm (by rw [hpm];exact List.getElem_mem hlj)
        obtain ⟨m,rfl⟩:∃ m:Nat,pm=(m:Int):=⟨pm.toNat,by omega⟩
        have hmk:m < k:=by omega
        have hmz:(m:Int) < (k:Int):=by omega
        have hgd:(parts n).getD j 0=(m:Int):=by
         rw [List.getD_eq_getElem?_getD,List.getElem?_eq_getElem hlj,hpm];rfl
        have HST:Hid (preN l n v (j+1)=preN l n v j ||| rowV l (nth l m) v):=by
         show _ ||| _=_
         rw [hgd,Int.toNat_natCast,(HGD.out m hmk).row hv8]
        have HB1:Hid (preN l n v j < 2 ^ 9):=HPB.out v hv8 j hj
        have HB2:Hid (rowV l (nth l m) v < 2 ^ 9):=HGB.out m hmk v hv8
        rcases HI2.out.2 with h0|⟨pb,po,rfl,hpB,hpU,hpc⟩
        ·omega
        have r0:wr.cell? ⟨pb,po+j,none⟩=some (.int .i64 (m:Int)):=by
         rw [(hpc j hlj).1,hpm]
        obtain ⟨gr,cr,hr1,hr2,hr3,hr4⟩:=HRW.out.2 m (by rw [rowsTo_length];exact hmk)
        have r1:wr.cell? ⟨ga,m,none⟩=some (.slice (some ⟨gr,0,none⟩) 8 cr):=by
         rw [HKW.out.cell (p:=⟨ga,m,none⟩) hgaw]
         obtain ⟨g9,c9,hv9,hc9⟩:=HOV.out.at (by rw [hvl];omega)
         simp only [Value.slice.injEq,Option.some.injEq,Addr.mk.injEq] at hv9
         obtain ⟨⟨rfl,_⟩,_⟩:=hv9
         rw [hc9 m (by rw [hvl];exact hmk)];exact hr1
        have r2:wr.cell? ⟨gr,v,none⟩=some (.int .i64 ((rowV l (nth l m) v:Nat):Int)):=by
         rw [HKW.out.cell (p:=⟨gr,v,none⟩) hr2,hr4 v hv8,rowsTo_get l hmk,rowI_wd l _ hv8]
        clear hpm hpc hpp hr1 hr4 hgd
        generalize preN l n v j=s1 at HST HB1 ⊢
        generalize rowV l (nth l m) v=s3 at HST HB2 r2
        have HBO:Hid (bits .or .i64 (s1:Int) (s3:Int)=((preN l n v (j+1):Nat):Int)):=by
         show _=_
         rw [bor16 HB1.out HB2.out,HST.out]
        go_wp2
        go_round
        case rel=>exact ⟨j+1,by omega,by go_num,by rw [<- HBO.out]⟩
        case measure=>simp [intOf];omega
       ·have hljz:¬ (j:Int) < ((parts n).length:Int):=by omega
        have hje:j=(parts n).length:=by omega
        have HPE:Hid (preN l n v j=preA l n v):=by
         show _=_
         rw [hje];rfl
        rw [HPE.out]
        clear hje HPE
        clear tk2
        generalize preA l n v=sA at HRV ⊢
        go_wp2_with (first|(go_at_call 28;refine (sQuant _ _).mono ?_;rintro x0 wr ⟨rfl,rfl⟩;rw [hq])|(go_at_call 62;refine (spow _ _ (by omega) (by omega)).mono ?_;rintro x0 wr ⟨rfl,rfl⟩;rw [hPB])|(at_builtin;go_must (refine app_int _ rfl _ _ rfl (bn+1) u8 L _ rfl rfl HO2.out HBN.out (by rw [HLL.out];omega) ?_;intro g5 cp5 w5 ho5 hk5 hg5;have HO5:Hid (Ows w5 (bn+1) (.slice (some ⟨g5,0,none⟩) (L.length+1) cp5) (L++[_])):=ho5;have HK5:Hid (Kept (fun b=>u8.ownBlock=some b) wr w5):=hk5;have HG5:Hid (u8.ownBlock=some g5\/wr.heap.size<=g5):=hg5;clear ho5 hk5 hg5)))
        go_roundw
        case rel =>
         refine ⟨v+1,by omega,by go_num,?_,fun b hb=>?_,Kept.past HK2.out HK5.out (fun b hb=>HW2.out b hb),HNB.out⟩
         ·rw [HLT.out,HRV.out]
          exact HO5.out
         ·have e5:g5=b:=by simpa [Value.ownBlock] using hb
          rcases HG5.out with h|h
          ·exact HW2.out b (by rw [<- e5];exact h)
          ·exact .inr (by have:=HK2.out.size;omega)
        case measure=>simp [intOf];omega
     ·skip
      have HRV:Hid (rowV l n v=preA l n v):=by
       show _=_
       unfold rowV
       rw [if_neg (by rw [hq];simp)]
      have HNB:Hid (quant n.op=true->n.k < ((v+1:Nat):Int)->badQ l n=false):=fun h=>by rw [hq] at h;cases h
      go_wp2_with fail
      go_loop [11,12] (fun f q=>∃ j:Nat,j<=(parts n).length/\q=.int .i64 (j:Int)/\f=.int .i64 ((preN l n v j:Nat):Int)) (fun _ q=>(parts n).length - (intOf q).toNat)
      case atStart=>exact ⟨0,Nat.zero_le _,rfl,(by show _=Value.int .i64 ((preN l n v 0:Nat):Int);unfold preN;rw [if_neg (by simp_all)];rfl)⟩
      case round =>
       obtain ⟨j,hj,rfl,rfl⟩:=hrel
       by_cases hlj:j < (parts n).length
       ·have hljz:(j:Int) < ((parts n).length:Int):=by omega
        obtain ⟨pm,hpm⟩:∃ pm:Int,pm=(parts n)[j]:=⟨_,rfl⟩
        have hpp:=HPD.out pm (by rw [hpm];exact List.getElem_mem hlj)
        obtain ⟨m,rfl⟩:∃ m:Nat,pm=(m:Int):=⟨pm.toNat,by omega⟩
        have hmk:m < k:=by omega
        have hmz:(m:Int) < (k:Int):=by omega
        have hgd:(parts n).getD j 0=(m:Int):=by
         rw [List.getD_eq_getElem?_getD,List.getElem?_eq_getElem hlj,hpm];rfl
        have HST:Hid (preN l n v (j+1)=preN l n v j ||| rowV l (nth l m) v):=by
         show _ ||| _=_
         rw [hgd,Int.toNat_natCast,(HGD.out m hmk).row hv8]
        have HB1:Hid (preN l n v j < 2 ^ 9):=HPB.out v hv8 j hj
        have HB2:Hid (rowV l (nth l m) v < 2 ^ 9):=HGB.out m hmk v hv8
        rcases HI2.out.2 with h0|⟨pb,po,rfl,hpB,hpU,hpc⟩
        ·omega
        have r0:wr.cell? ⟨pb,po+j,none⟩=some (.int .i64 (m:Int)):=by
         rw [(hpc j hlj).1,hpm]
        obtain ⟨gr,cr,hr1,hr2,hr3,hr4⟩:=HRW.out.2 m (by rw [rowsTo_length];exact hmk)
        have r1:wr.cell? ⟨ga,m,none⟩=some (.slice (some ⟨gr,0,none⟩) 8 cr):=by
         rw [HKW.out.cell (p:=⟨ga,m,none⟩) hgaw]
         obtain ⟨g9,c9,hv9,hc9⟩:=HOV.out.at (by rw [hvl];omega)
         simp only [Value.slice.injEq,Option.some.injEq,Addr.mk.injEq] at hv9
         obtain ⟨⟨rfl,_⟩,_⟩:=hv9
         rw [hc9 m (by rw [hvl];exact hmk)];exact hr1
        have r2:wr.cell? ⟨gr,v,none⟩=some (.int .i64 ((rowV l (nth l m) v:Nat):Int)):=by
         rw [HKW.out.cell (p:=⟨gr,v,none⟩) hr2,hr4 v hv8,rowsTo_get l hmk,rowI_wd l _ hv8]
        clear hpm hpc hpp hr1 hr4 hgd
        generalize preN l n v j=s1 at HST HB1 ⊢
        generalize rowV l (nth l m) v=s3 at HST HB2 r2
        have HBO:Hid (bits .or .i64 (s1:Int) (s3:Int)=((preN l n v (j+1):Nat):Int)):=by
         show _=_
         rw [bor16 HB1.out HB2.out,HST.out]
        go_wp2
        go_round
        case rel=>exact ⟨j+1,by omega,by go_num,by rw [<- HBO.out]⟩
        case measure=>simp [intOf];omega
       ·have hljz:¬ (j:Int) < ((parts n).length:Int):=by omega
        have hje:j=(parts n).length:=by omega
        have HPE:Hid (preN l n v j=preA l n v):=by
         show _=_
         rw [hje];rfl
        rw [HPE.out]
        clear hje HPE
        generalize preA l n v=sA at HRV ⊢
        go_wp2_with (first|(go_at_call 28;refine (sQuant _ _).mono ?_;rintro x0 wr ⟨rfl,rfl⟩;rw [hq])|(go_at_call 62;refine (spow _ _ (by omega) (by omega)).mono ?_;rintro x0 wr ⟨rfl,rfl⟩;rw [hPB])|(at_builtin;go_must (refine app_int _ rfl _ _ rfl (bn+1) u8 L _ rfl rfl HO2.out HBN.out (by rw [HLL.out];omega) ?_;intro g5 cp5 w5 ho5 hk5 hg5;have HO5:Hid (Ows w5 (bn+1) (.slice (some ⟨g5,0,none⟩) (L.length+1) cp5) (L++[_])):=ho5;have HK5:Hid (Kept (fun b=>u8.ownBlock=some b) wr w5):=hk5;have HG5:Hid (u8.ownBlock=some g5\/wr.heap.size<=g5):=hg5;clear ho5 hk5 hg5)))
        go_roundw
        case rel =>
         refine ⟨v+1,by omega,by go_num,?_,fun b hb=>?_,Kept.past HK2.out HK5.out (fun b hb=>HW2.out b hb),HNB.out⟩
         ·rw [HLT.out,HRV.out]
          exact HO5.out
         ·have e5:g5=b:=by simpa [Value.ownBlock] using hb
          rcases HG5.out with h|h
          ·exact HW2.out b (by rw [<- e5];exact h)
          ·exact .inr (by have:=HK2.out.size;omega)
        case measure=>simp [intOf];omega
    ·have ev:v=8:=by omega
     subst ev
     have HBF:Hid (badQ l n=false):=by
      show _=_
      cases hq:quant n.op
      ·unfold badQ;rw [hq];rfl
      ·exact HNB2.out hq (by have:=(HQK.out hq).2;push_cast;omega)
     have hfull:(rowI l n).take 8=rowI l n:=List.take_of_length_le (by rw [rowI_length];omega)
     rw [hfull] at HO2
     obtain ⟨g,cg,hvg,hg1,hg2,hrow⟩:=Rw1.row_ints HO2.out (by rw [rowI_length];omega)
     rw [rowI_length] at hvg hrow
     have HCG:Hid (∀ x,x < 8->wr.cell? ⟨g,x,none⟩=some (.int .i64 (wd (rowI l n) (x:Int)))):=fun x hx=>(hrow x hx).1
     have HVO:Hid (Owv wr w.heap.size (.slice (some ⟨ga,0,none⟩) k ca) vs):=HOV.out.kept (S:=fun _=>False) (Kept.ofBelow HKW.out) (fun _ _ h=>h)
     have HRO:Hid (Rws wr (.slice (some ⟨ga,0,none⟩) k ca) vs (rowsTo l k)):=HRW.out.below HKW.out
     have hbo:w.heap.size<=wr.heap.size:=Nat.le_trans hbs HKW.out.size
     have HBO:Hid (Below w.heap.size w wr):=HB.out.trans (HKW.out.mono hbs)
     have HBNE2:=HBNE.out
     have hrl:(rowsTo l k).length=k:=rowsTo_length l k
     have HGG:Hid (ga < bn/\bn+1<=g/\g < wr.heap.size):=⟨by omega,hg1,hg2⟩
     subst hvg
     clear hrow hfull HO2 HW2 HBNE2
     go_wp2_with (at_builtin;go_must (refine app_row _ rfl _ _ rfl w.heap.size (.slice (some ⟨ga,0,none⟩) k ca) vs (some ⟨g,0,none⟩) 8 cg rfl rfl HVO.out hbo (by omega) ?_;intro g6 cp6 w6 ho6 hk6 hg6))
     have HO6:Hid (Owv w6 w.heap.size (.slice (some ⟨g6,0,none⟩) (vs.length+1) cp6) (vs++[.slice (some ⟨g,0,none⟩) 8 cg])):=ho6
     have HK6:Hid (Kept (fun b=>(Value.slice (some ⟨ga,0,none⟩) k ca).ownBlock=some b) wr w6):=hk6
     have HG6:Hid (g6=ga\/wr.heap.size<=g6):=by
      rcases hg6 with h|h
      ·exact .inl (by simpa [Value.ownBlock] using h.symm)
      ·exact .inr h
     clear ho6 hk6 hg6
     go_wp2
     go_roundw
     case rel =>
      have HGG':=HGG.out
      refine ⟨k+1,by omega,by go_num,HBO.out.trans (HK6.out.below (fun b hb=>(HVO.out.lt b hb).1) hbo),⟨g6,cp6,vs++[.slice (some ⟨g,0,none⟩) 8 cg],rfl,?_,?_⟩,fun j hj=>?_⟩
      ·have h9:=HO6.out
       rw [hvl] at h9
       exact h9
      ·rw [HSU.out]
       have hsz:=HK6.out.size
       refine ⟨by rw [List.length_append,List.length_append,hvl,hrl];rfl,fun j hj=>?_⟩
       rw [List.length_append,hrl] at hj
       have hj':j < k+1:=hj
       by_cases ejk:j=k
       ·subst ejk
        refine ⟨g,cg,?_,by omega,?_,fun x hx=>?_⟩
        ·rw [List.getElem?_append_right (by omega),hvl,Nat.sub_self];rfl
        ·intro h
         have e:g6=g:=by simpa [Value.ownBlock] using h
         rcases HG6.out with h|h<;>omega
        ·have hn:¬ (Value.slice (some ⟨ga,0,none⟩) j ca).ownBlock=some g:=by
          intro h
          have e:ga=g:=by simpa [Value.ownBlock] using h
          omega
         rw [HK6.out.cell (p:=⟨g,x,none⟩) hg2 hn,HCG.out x hx]
         rw [show (rowsTo l j++[rowI l n]).getD j []=rowI l n by rw [List.getD_eq_getElem?_getD,List.getElem?_append_right (by omega),hrl,Nat.sub_self];rfl]
       ·obtain ⟨gr,cr,h1,h2,h3,h4⟩:=HRO.out.2 j (by rw [hrl];omega)
        refine ⟨gr,cr,?_,by omega,?_,fun x hx=>?_⟩
        ·rw [List.getElem?_append_left (by omega)];exact h1
        ·intro h
         have e:g6=gr:=by simpa [Value.ownBlock] using h
         rcases HG6.out with h5|h5
         ·exact h3 (by rw [<- e,h5];rfl)
         ·omega
        ·rw [HK6.out.cell (p:=⟨gr,x,none⟩) h2 h3,h4 x hx]
         rw [show (rowsTo l k++[rowI l n]).getD j []=(rowsTo l k).getD j [] by rw [List.getD_eq_getElem?_getD,List.getD_eq_getElem?_getD,List.getElem?_append_left (by omega)]]
      ·by_cases ej:j=k
       ·rw [ej];exact HGK.out HBF.out
       ·exact HGD.out j (by omega)
     case measure=>simp [intOf];omega
  ·have hlz:¬ (k:Int) < (l.length:Int):=by omega
   have ek:k=l.length:=by omega
   subst ek
   obtain ⟨r,hr,hrv⟩:=HGD.out (l.length - 1) (by omega)
   have HFT:Hid (fitT (root l) e=fitR r e):=fit_some hr
   have HRB:Hid (∀ v,v < 8->r.getD v 0 < 2 ^ 9):=fun v hv=>need_bd _ r (rt_all (down_of HT.out) (fun k hk=>term_node HT.out hk) (l.length - 1) (by omega)).1 hr v
   obtain ⟨gr,cr,h1,h2,h3,h4⟩:=HRW.out.2 (l.length - 1) (by rw [rowsTo_length];omega)
   have r1:wr.cell? ⟨ga,l.length - 1,none⟩=some (.slice (some ⟨gr,0,none⟩) 8 cr):=by
    obtain ⟨g9,c9,hv9,hc9⟩:=HOV.out.at (by rw [hvl];omega)
    simp only [Value.slice.injEq,Option.some.injEq,Addr.mk.injEq] at hv9
    obtain ⟨⟨rfl,_⟩,_⟩:=hv9
    rw [hc9 (l.length - 1) (by rw [hvl];omega)];exact h1
   have HR4:Hid (∀ v,v < 8->wr.cell? ⟨gr,v,none⟩=some (.int .i64 ((r.getD v 0:Nat):Int))):=by
    show ∀ _,_
    intro v hv
    rw [h4 v hv,rowsTo_get l (by omega),rowI_wd l _ hv,hrv v hv]
   rcases HIE.out.2 with h0|⟨eb,eo,rfl,hec⟩
   ·omega
   have HEC:Hid (∀ v,v < 8->wr.cell? ⟨eb,eo+v,none⟩=some (.int .i64 (e.getD v 0))):=by
    show ∀ _,_
    intro v hv
    rw [HB.out.cell (p:=⟨eb,eo+v,none⟩) (lt_of_cell (hec v (by omega))),hec v (by omega)]
    simp [List.getD,he,hv]
   have HR1:Hid (wr.cell? ⟨ga,l.length - 1,none⟩=some (.slice (some ⟨gr,0,none⟩) 8 cr)):=r1
   have HGR:Hid (gr < wr.heap.size):=h2
   have HEB:Hid (eb < wr.heap.size):=by
    show _ < _
    have:=HEC.out 0 (by omega)
    exact lt_of_cell this
   obtain ⟨wE,hwE⟩:∃ wE:World,wE=wr:=⟨_,rfl⟩
   rw [<- hwE] at HR4 HEC HR1 HGR HEB hgaw HB hbs
   have HK0:Hid (Kept (fun _=>False) wE wr):=by rw [hwE];exact Kept.refl _ _
   have hll:(l.length:Int) - 1 < (l.length:Int):=by omega
   have hl0:(0:Int)<=(l.length:Int) - 1:=by omega
   have hlt3:((l.length:Int) - 1).toNat=l.length - 1:=by omega
   clear hwE HOV HRW h1 h2 h3 h4 r1 hec hr hrv HGD
   go_wp2_with fail
   go_loopw [13] (fun q wr=>∃ v:Nat,v<=8/\q=.int .i64 (v:Int)/\(∀ x,x < v->∀ j,1<=j->j<=8->(r.getD x 0).testBit j=true->wok (j:Int) (e.getD x 0)=true)/\Kept (fun _=>False) wE wr) (fun q _=>8 - (intOf q).toNat)
   case atStart=>exact ⟨0,Nat.zero_le _,rfl,fun x hx=>absurd hx (Nat.not_lt_zero _),HK0.out⟩
   case round =>
    obtain ⟨v,hv,rfl,hok,hK⟩:=hrel
    have HOK:Hid (∀ x,x < v->∀ j,1<=j->j<=8->(r.getD x 0).testBit j=true->wok (j:Int) (e.getD x 0)=true):=hok
    have HK:Hid (Kept (fun _=>False) wE wr):=hK
    clear hok hK
    by_cases hv8:v < 8
    ·have hvz:(v:Int) < 8:=by omega
     go_wp2_with fail
     go_loopw [14] (fun q wr=>∃ j:Nat,1<=j/\j<=9/\q=.int .i64 (j:Int)/\(∀ i,1<=i->i < j->(r.getD v 0).testBit i=true->wok (i:Int) (e.getD v 0)=true)/\Kept (fun _=>False) wE wr) (fun q _=>9 - (intOf q).toNat)
     case atStart=>exact ⟨1,by omega,by omega,rfl,fun i h1 h2=>by omega,HK.out⟩
     case round =>
      obtain ⟨j,hj1,hj9,rfl,hjk,hK2⟩:=hrel
      have HJK:Hid (∀ i,1<=i->i < j->(r.getD v 0).testBit i=true->wok (i:Int) (e.getD v 0)=true):=hjk
      have HK2:Hid (Kept (fun _=>False) wE wr):=hK2
      have s1:wr.cell? ⟨ga,l.length - 1,none⟩=some (.slice (some ⟨gr,0,none⟩) 8 cr):=(hK2.cell (p:=⟨ga,l.length - 1,none⟩) hgaw (fun h=>h)).trans HR1.out
      have s2:wr.cell? ⟨gr,v,none⟩=some (.int .i64 ((r.getD v 0:Nat):Int)):=(hK2.cell (p:=⟨gr,v,none⟩) HGR.out (fun h=>h)).trans (HR4.out v hv8)
      have s3:wr.cell? ⟨eb,eo+v,none⟩=some (.int .i64 (e.getD v 0)):=(hK2.cell (p:=⟨eb,eo+v,none⟩) HEB.out (fun h=>h)).trans (HEC.out v hv8)
      clear hjk hK2
      by_cases hj:j<=8
      ·have hjz:(j:Int)<=8:=by omega
       have hjz1:(1:Int)<=(j:Int):=by omega
       have hP:=p2_pos (j:Int).toNat
       have hPn:Pl1.p2 (j:Int).toNat=((2 ^ j:Nat):Int):=by
        rw [p2_nat,Int.toNat_natCast]
       have HTB:Hid ((r.getD v 0).testBit j=decide (r.getD v 0 / 2 ^ j % 2=1)):=Nat.testBit_eq_decide_div_mod_eq
       have HMB:Hid (r.getD v 0 < 2 ^ 9):=HRB.out v hv8
       have HFR:Hid ((r.getD v 0).testBit j=true->wok (j:Int) (e.getD v 0)=false->fitR r e=false):=by
        show _->_->_
        intro h1 h2
        cases hf:fitR r e
        ·rfl
        ·rw [fit_iff.1 hf v hv8 j hj1 hj h1] at h2;cases h2
       generalize r.getD v 0=m at HTB HMB HJK s2 HFR
       generalize e.getD v 0=ev at HJK s3 HFR
       go_wp2_with fail
       have hx1:(1:Int)<=(l.length:Int):=by omega
       have hx2:¬ ((l.length:Int) - 1 < 0):=by omega
       have hx3:0 < l.length:=by omega
       have hx4:¬ l.length=0:=by omega
       have hP0:¬ Pl1.p2 j=0:=by
        have h:=p2_pos j
        omega
       have hPj:Pl1.p2 j=((2 ^ j:Nat):Int):=by have:=hPn;rw [Int.toNat_natCast] at this;exact this
       have hq1:0<=(m:Int) / Pl1.p2 j:=Int.ediv_nonneg (by omega) (by have:=p2_pos j;omega)
       have hq2:(m:Int) / Pl1.p2 j<=(m:Int):=Int.ediv_le_self _ (by omega)
       have hm9:(m:Int)<=511:=by have:=HMB.out;omega
       have HBT:Hid (((m:Int) / Pl1.p2 j % 2==1)=m.testBit j):=by
        show _=_
        rw [HTB.out,hPj,Bool.eq_iff_iff,<- Int.natCast_ediv]
        generalize m / 2 ^ j=dd
        rw [beq_iff_eq,decide_eq_true_iff]
        omega
       clear hP hPn hPj
       cases hb:((m:Int) / Pl1.p2 j % 2==1)
       ·have HB0:Hid (m.testBit j=false):=by
         show _=_
         rw [<- HBT.out,hb]
        go_wp2_with fail
        refine wp_region_quiet_lit (by kernel_rfl) (by kernel_rfl) ?_
        repeat (first|go_big_quiet_step ((first|(go_at_call 62;exact Calls.quiet_of_same (spow _ _ (by omega) (by omega)))|(go_at_call 50;exact Calls.quiet_of_same (sWordOk _ _ _))))|quiet_step ((first|(go_at_call 62;exact Calls.quiet_of_same (spow _ _ (by omega) (by omega)))|(go_at_call 50;exact Calls.quiet_of_same (sWordOk _ _ _)))))
        refine wpQuiet_nil ?_
        intro _ hw'
        obtain ⟨nq,hw''⟩:=hw'
        subst hw''
        go_wp2
        go_roundw
        case rel=>exact ⟨j+1,by omega,by omega,by go_num,fun i h1 h2 h3=>by
         by_cases e1:i=j
         ·rw [e1,HB0.out] at h3;cases h3
         ·exact HJK.out i h1 (by omega) h3,HK2.out.drewN _⟩
        case measure=>simp [intOf];omega
       ·have HB1:Hid (m.testBit j=true):=by
         show _=_
         rw [<- HBT.out,hb]
        cases hwk:wok (j:Int) ev
        ·have HFF:Hid (fitT (root l) e=false):=by
          show _=_
          rw [HFT.out,HFR.out HB1.out hwk]
         go_wp2_with fail
         refine wp_region_quiet_lit (by kernel_rfl) (by kernel_rfl) ?_
         repeat (first|go_big_quiet_step ((first|(go_at_call 62;exact Calls.quiet_of_same (spow _ _ (by omega) (by omega)))|(go_at_call 50;exact Calls.quiet_of_same (sWordOk _ _ _))))|quiet_step ((first|(go_at_call 62;exact Calls.quiet_of_same (spow _ _ (by omega) (by omega)))|(go_at_call 50;exact Calls.quiet_of_same (sWordOk _ _ _)))))
         refine wpQuiet_nil ?_
         intro _ hw'
         obtain ⟨nq,hw''⟩:=hw'
         subst hw''
         go_wp2
         go_ret
         exact ⟨ret_bool HFF.out.symm,Kp0.below_drewN (HB.out.trans ((Kept.below HK2.out (fun b h=>h.elim) (Nat.le_refl _)).mono hbs)) _⟩
        ·go_wp2_with fail
         refine wp_region_quiet_lit (by kernel_rfl) (by kernel_rfl) ?_
         repeat (first|go_big_quiet_step ((first|(go_at_call 62;exact Calls.quiet_of_same (spow _ _ (by omega) (by omega)))|(go_at_call 50;exact Calls.quiet_of_same (sWordOk _ _ _))))|quiet_step ((first|(go_at_call 62;exact Calls.quiet_of_same (spow _ _ (by omega) (by omega)))|(go_at_call 50;exact Calls.quiet_of_same (sWordOk _ _ _)))))
         refine wpQuiet_nil ?_
         intro _ hw'
         obtain ⟨nq,hw''⟩:=hw'
         subst hw''
         go_wp2
         go_roundw
         case rel=>exact ⟨j+1,by omega,by omega,by go_num,fun i h1 h2 h3=>by
          by_cases e1:i=j
          ·rw [e1];exact hwk
          ·exact HJK.out i h1 (by omega) h3,HK2.out.drewN _⟩
         case measure=>simp [intOf];omega
      ·have hjz:¬ (j:Int)<=8:=by omega
       go_wp2
       go_roundw
       case rel=>exact ⟨v+1,by omega,by go_num,fun x hx i h1 h2 h3=>by
        by_cases e1:x=v
        ·rw [e1] at h3 ⊢;exact HJK.out i h1 (by omega) h3
        ·exact HOK.out x (by omega) i h1 h2 h3,HK2.out⟩
       case measure=>simp [intOf];omega
    ·have hvz:¬ (v:Int) < 8:=by omega
     have HFF:Hid (fitT (root l) e=true):=by
      show _=_
      rw [HFT.out]
      exact fit_iff.2 (fun x hx i h1 h2 h3=>HOK.out x (by omega) i h1 h2 h3)
     go_wp2
     go_ret
     exact ⟨ret_bool HFF.out.symm,HB.out.trans ((Kept.below HK.out (fun b h=>h.elim) (Nat.le_refl _)).mono hbs)⟩
end Sv5
end Go.Proofs.YthanhcobfehmnaaGreat
