import Derived.Deep.RegionHeld3
import Derived.Test.YthanhcobfehmnaaGreatPkQU228
import Derived.Test.YthanhcobfehmnaaGreatAm5
import Derived.Test.YthanhcobfehmnaaGreatPkQU220
namespace Go.Proofs.YthanhcobfehmnaaGreat
set_option maxRecDepth 100000
set_option maxHeartbeats 8000000
set_option linter.unusedVariables false
namespace Am7
open Go.RowKit
open Nd0 Nd1 Tm0 Tm1 Tm5 Ap1 Sp2 Aq2
theorem sWidth (w:World) (a:Option Addr) (l:List Nd) (c v:Nat) (hN:Nodes w a l) (hT:termOk l=true) :
 Calls Tryz.prog 81 #[.slice a l.length c,.int .i64 (v:Int)] w fun e w'=>e=.returned (.int .i64 (widL l v))/\Below w.heap.size w w':=by
 have HN:Hid (Nodes w a l):=hN
 have HT:Hid (termOk l=true):=hT
 obtain ⟨hl1,hl2⟩:=term_len hT
 clear hN hT
 go_enter Tryz.func81,Tryz.ntmps81
 go_wp2
 go_loopw [5,6] (fun vv q wr=>∃ k:Nat,k<=l.length/\q=.int .i64 k/\Below w.heap.size w wr/\Owb wr w.heap.size vv ((reachInit l.length).take k)) (fun _ q _=>l.length - (intOf q).toNat)
 case atStart=>exact ⟨0,Nat.zero_le _,rfl,(Below.refl _ _).alloc (Nat.le_refl _) _,Owb.lit w _ (Nat.le_refl _)⟩
 case round =>
  obtain ⟨k,hk,rfl,hb,hown⟩:=hrel
  have HB:Hid (Below w.heap.size w wr):=hb
  have HO:Hid (Owb wr w.heap.size u5 ((reachInit l.length).take k)):=hown
  have hBs:w.heap.size<=wr.heap.size:=hb.size
  clear hb
  by_cases hlt:k < l.length
  ·clear hown
   have hlen:((reachInit l.length).take k).length=k:=by rw [List.length_take,reachInit_length];omega
   have HT2:Hid ((reachInit l.length).take (k+1)=(reachInit l.length).take k++[((k:Int)==(l.length:Int) - 1)]):=by
    show (reachInit l.length).take (k+1)=_
    rw [List.take_succ_eq_append_getElem (by rw [reachInit_length];exact hlt)]
    congr 2
    simp only [reachInit,List.getElem_map,List.getElem_range]
    rw [Bool.eq_iff_iff]
    simp
    omega
   have hlz:(k:Int) < (l.length:Int):=by omega
   go_wp2_with (at_builtin;go_must (refine app_bool _ rfl _ _ rfl w.heap.size u5 ((reachInit l.length).take k) ((k:Int)==(l.length:Int) - 1) rfl rfl HO.out hBs (by omega) ?_;intro g cp w3 ho3 hk3 hg3))
   have HO3:Hid (Owb w3 w.heap.size (.slice (some ⟨g,0,none⟩) (((reachInit l.length).take k).length+1) cp) ((reachInit l.length).take k++[((k:Int)==(l.length:Int) - 1)])):=ho3
   have HK3:Hid (Kept (fun k=>u5.ownBlock=some k) wr w3):=hk3
   clear ho3 hk3 hg3
   go_wp2
   go_roundw
   case rel =>
    refine ⟨k+1,by omega,by go_num,HB.out.trans (HK3.out.below (fun k hk=>(HO.out.lt k hk).1) hBs),?_⟩
    rw [HT2.out]
    have h9:=HO3.out
    rw [hlen] at h9
    exact h9
   case measure=>simp [intOf];omega
  ·have e2:k=l.length:=by omega
   subst e2
   have hown2:Owb wr w.heap.size u5 (reachInit l.length):=by
    have h9:=hown
    rw [List.take_of_length_le (by rw [reachInit_length];exact Nat.le_refl _)] at h9
    exact h9
   obtain ⟨g,cp,hv,hg1,hg2⟩:=hown2.at (by rw [reachInit_length];exact hl1)
   rw [reachInit_length] at hv
   subst hv
   clear hown HO
   have HO:Hid (Owb wr w.heap.size (.slice (some ⟨g,0,none⟩) l.length cp) (reachInit l.length)):=hown2
   clear hown2
   have HBO:Hid (Below w.heap.size w wr):=HB.out
   obtain ⟨wa,rfl⟩:∃ wa:World,wa=wr:=⟨_,rfl⟩
   go_wp2
   go_loopw [7] (fun q wr=>∃ j:Nat,j<=l.length/\q=.int .i64 ((j:Int) - 1)/\∃ bs:List Bool,Owb wr w.heap.size (.slice (some ⟨g,0,none⟩) l.length cp) bs/\bs.length=l.length/\vDown l v j bs=vL l v/\Below w.heap.size w wr/\g < wr.heap.size) (fun q _=>(intOf q+1).toNat)
   case atStart=>exact ⟨l.length,Nat.le_refl _,rfl,_,HO.out,reachInit_length _,rfl,HBO.out,hg2⟩
   case round =>
    obtain ⟨j,hj,rfl,bs,ho,hbl,hrd,hbb,hgs⟩:=hrel
    cases j with
    | zero =>
      have hneg:¬ (0:Int)<=((0:Nat):Int) - 1:=by omega
      have HOV:Hid (Owb wr w.heap.size (.slice (some ⟨g,0,none⟩) l.length cp) (vL l v)):=by rw [<- hrd];exact ho
      have HBV:Hid (Below w.heap.size w wr):=hbb
      have HVL:Hid ((vL l v).length=l.length):=by
       show _=_
       unfold vL
       rw [vDown_length,reachInit_length]
      clear ho hbb hrd hbl hgs
      obtain ⟨wz,rfl⟩:∃ wz:World,wz=wr:=⟨_,rfl⟩
      go_wp2_with fail
      go_loopw [10] (fun q wr=>∃ j:Nat,j<=l.length/\q=.int .i64 j/\Owb wr w.heap.size (.slice (some ⟨g,0,none⟩) l.length cp) (vL l v)/\Below w.heap.size w wr/\vWid l v (l.length - j)=widL l v) (fun q _=>l.length - (intOf q).toNat)
      case atStart=>exact ⟨0,Nat.zero_le _,rfl,HOV.out,HBV.out,rfl⟩
      case round =>
       clear HOV HBV
       obtain ⟨j,hj,rfl,ho,hb,hv⟩:=hrel
       have HO:Hid (Owb wr w.heap.size (.slice (some ⟨g,0,none⟩) l.length cp) (vL l v)):=ho
       have HB:Hid (Below w.heap.size w wr):=hb
       by_cases hlt:j < l.length
       ·have hlz:(j:Int) < (l.length:Int):=by omega
        have HS:Hid ((if flag (vL l v) j&&Aq2.isVar (nth l j) v then (nth l j).w else vWid l v (l.length - (j+1)))=widL l v):=by
         show _=_
         rw [<- hv,show l.length - j=(l.length - (j+1))+1 by omega]
         show _=(if flag (vL l v) (l.length - (l.length - (j+1)+1))&&Aq2.isVar (nth l (l.length - (l.length - (j+1)+1))) v then (nth l (l.length - (l.length - (j+1)+1))).w else vWid l v (l.length - (j+1)))
         rw [show l.length - (l.length - (j+1)+1)=j by omega]
        have c0:wr.cell? ⟨g,j,none⟩=some (.bool (flag (vL l v) j)):=by
         have h9:=(ho.cell' HVL.out j hlt).1
         rw [flag_get] at h9
         exact h9
        rcases (HN.out.below hb).2 with h0|⟨xb,xo,rfl,hc⟩
        ·omega
        obtain ⟨p0,p1,p2,p3,p4,p5⟩:=hc j hlt
        rw [nth_get hlt] at p0 p1 p2 p3 p4 p5
        clear hc ho hb hv
        generalize nth l j=n at p0 p1 p2 p3 p4 p5 HS
        have HIV:Hid (Aq2.isVar n v=(n.op==1&&n.k==(v:Int))):=rfl
        cases hf:flag (vL l v) j
        ·have HS2:Hid (vWid l v (l.length - (j+1))=widL l v):=by have h:=HS.out;rw [hf] at h;exact h
         rw [hf] at c0
         clear HS hf
         go_wp2_with fail
         go_roundw
         case rel=>exact ⟨j+1,by omega,by go_num,HO.out,HB.out,HS2.out⟩
         case measure=>simp [intOf];omega
        ·rw [hf] at c0
         cases h1:(n.op==1)
         ·have HS2:Hid (vWid l v (l.length - (j+1))=widL l v):=by have h:=HS.out;rw [hf,HIV.out,h1] at h;exact h
          clear HS hf
          go_wp2_with fail
          go_roundw
          case rel=>exact ⟨j+1,by omega,by go_num,HO.out,HB.out,HS2.out⟩
          case measure=>simp [intOf];omega
         ·cases h2:(n.k==(v:Int))
          ·have HS2:Hid (vWid l v (l.length - (j+1))=widL l v):=by have h:=HS.out;rw [hf,HIV.out,h1,h2] at h;exact h
           clear HS hf
           go_wp2_with fail
           go_roundw
           case rel=>exact ⟨j+1,by omega,by go_num,HO.out,HB.out,HS2.out⟩
           case measure=>simp [intOf];omega
          ·have HS2:Hid (n.w=widL l v):=by have h:=HS.out;rw [hf,HIV.out,h1,h2] at h;exact h
           clear HS hf
           go_wp2
           go_ret
           exact ⟨by rw [<- HS2.out];rfl,HB.out⟩
       ·have hlz:¬ (j:Int) < (l.length:Int):=by omega
        have HS2:Hid (widL l v=1):=by
         show _=_
         rw [<- hv,show l.length - j=0 by omega];rfl
        clear ho hb hv
        go_wp2
        go_ret
        exact ⟨by rw [HS2.out];rfl,HB.out⟩
    | succ i =>
      have hp:(0:Int)<=((i+1:Nat):Int) - 1:=by omega
      have hie:((i+1:Nat):Int) - 1=(i:Int):=by omega
      have HRD:Hid (vDown l v (i+1) bs=vL l v):=hrd
      have HOB:Hid (Owb wr w.heap.size (.slice (some ⟨g,0,none⟩) l.length cp) bs):=ho
      have HBB:Hid (Below w.heap.size w wr):=hbb
      have HBL:Hid (bs.length=l.length):=hbl
      clear hrd ho hbb hbl
      rw [hie]
      clear hie hp
      have hiz:(i:Int) < (l.length:Int):=by omega
      have HNQ0:Hid (∀ W,Below w.heap.size w W->∃ xb xo,a=some ⟨xb,xo,none⟩/\W.cell? ⟨xb,xo+i*6,none⟩=some (.int .i64 (nth l i).op)/\W.cell? ⟨xb,xo+i*6+2,none⟩=some (.int .i64 (nth l i).k)):=fun W hW=>by
       rcases (HN.out.below hW).2 with h0|⟨xb,xo,he,hc⟩
       ·omega
       ·obtain ⟨p0, -,p2, -, -, -⟩:=hc i (by omega)
        rw [nth_get (by omega:i < l.length)] at p0 p2
        exact ⟨xb,xo,he,p0,p2⟩
      rcases (HN.out.below HBB.out).2 with h0|⟨xb,xo,rfl,hc⟩
      ·omega
      obtain ⟨p0,p1,p2,p3,p4,p5⟩:=hc i (by omega)
      rw [nth_get (by omega:i < l.length)] at p0 p1 p2 p3 p4 p5
      clear hc
      have HPO:=parts_ok (term_node HT.out (by omega:i < l.length))
      generalize hn:nth l i=n at p0 p1 p2 p3 p4 p5 HPO HNQ0
      have HNQ:Hid _:=HNQ0.out
      have HD:Hid (nth l i=n):=hn
      have HPO':Hid (∀ k (hk:k < (parts n).length),0<=(parts n)[k]/\(parts n)[k] < i):=HPO
      clear hn HPO
      obtain ⟨wb,rfl⟩:∃ wb:World,wb=wr:=⟨_,rfl⟩
      go_wp2_with fail
      refine (sParts n _).mono ?_
      rintro e w1 ⟨⟨pa,pc,rfl,hpi⟩,hb1⟩
      have HP:Hid (WInts w1 wb.heap.size pa (parts n)):=hpi
      have HB1:Hid (Below wb.heap.size wb w1):=hb1
      clear hpi hb1 p0 p1 p2 p3 p4 p5
      have hpl:=parts_le n
      go_wp2_with fail
      have HOW1:Hid (Owb w1 w.heap.size (.slice (some ⟨g,0,none⟩) l.length cp) bs):=HOB.out.kept (S:=fun _=>False) (Kept.ofBelow HB1.out) (fun _ _ h=>h)
      have HNW:Hid (∀ W,Below w.heap.size w W->W.cell? ⟨xb,xo+i*6,none⟩=some (.int .i64 n.op)/\W.cell? ⟨xb,xo+i*6+2,none⟩=some (.int .i64 n.k)):=fun W hW=>by
       obtain ⟨xb',xo',he,h0,h2⟩:=HNQ.out W hW
       cases he
       exact ⟨h0,h2⟩
      obtain ⟨act,hact⟩:∃ act:Bool,act=(flag bs i && !isQ n v):=⟨_,rfl⟩
      have HAC:Hid (act=(flag bs i && !isQ n v)):=hact
      have HIQ:Hid (isQ n v=(quant n.op&&n.k==(v:Int))):=rfl
      clear hact
      go_loopw [9] (fun q wr=>∃ k:Nat,k<=(parts n).length/\q=.int .i64 k/\∃ b3:List Bool,Owb wr w.heap.size (.slice (some ⟨g,0,none⟩) l.length cp) b3/\b3.length=l.length/\flag b3 i=flag bs i/\(act=true->markAll b3 ((parts n).drop k)=markAll bs (parts n))/\(act=false->b3=bs)/\Kept (fun x=>x=g) w1 wr) (fun q _=>(parts n).length - (intOf q).toNat)
      case atStart=>exact ⟨0,Nat.zero_le _,rfl,bs,HOW1.out,HBL.out,rfl,fun _=>rfl,fun _=>rfl,Kept.refl _ _⟩
      case round =>
       obtain ⟨k,hk,rfl,b3,ho3,hl3,hf3,hm3,he3,hk3⟩:=hrel
       obtain ⟨wq,rfl⟩:∃ wq:World,wq=wr:=⟨_,rfl⟩
       have HO3:Hid (Owb wq w.heap.size (.slice (some ⟨g,0,none⟩) l.length cp) b3):=ho3
       have HL3:Hid (b3.length=l.length):=hl3
       have HF3:Hid (flag b3 i=flag bs i):=hf3
       have HM3:Hid (act=true->markAll b3 ((parts n).drop k)=markAll bs (parts n)):=hm3
       have HE3:Hid (act=false->b3=bs):=he3
       have HK3:Hid (Kept (fun x=>x=g) w1 wq):=hk3
       have cI:wq.cell? ⟨g,i,none⟩=some (.bool (flag bs i)):=by
        have h9:=(ho3.cell' hl3 i (by omega)).1
        rw [flag_get,hf3] at h9
        exact h9
       have HBEL:Hid (Below w.heap.size w wq):=(HBB.out.trans (HB1.out.mono HBB.out.size)).trans (hk3.below (fun k hk=>by subst hk;exact hg1) (Nat.le_trans HBB.out.size HB1.out.size))
       have HSZ:Hid (g < wq.heap.size):=by
        have h1:=HB1.out.size
        have h2:=hk3.size
        show g < _
        omega
       obtain ⟨p0,p2⟩:=HNW.out wq HBEL.out
       clear hl3 hf3 hm3 he3 hk3
       have HEND:Hid ((act=true->k=(parts n).length)->vDown l v i b3=vL l v):=by
        show (act=true->k=(parts n).length)->vDown l v i b3=vL l v
        intro hend
        rw [<- HRD.out]
        show _=vDown l v i (vStep l v bs i)
        congr 1
        unfold vStep
        rw [HD.out,<- HAC.out]
        cases hfb:act
        ·rw [HE3.out hfb];rfl
        ·have h9:=HM3.out hfb
         rw [hend hfb,List.drop_length] at h9
         exact h9
       by_cases hlt:k < (parts n).length
       ·have hlz:(k:Int) < ((parts n).length:Int):=by omega
        cases hfb:flag bs i
        ·rw [hfb] at cI
         have HA:Hid (act=false):=by have h:=HAC.out;rw [hfb] at h;exact h
         clear ho3
         go_wp2_with fail
         go_roundw
         case rel=>exact ⟨i,by omega,by go_num,b3,HO3.out,HL3.out,HEND.out (fun h=>by rw [HA.out] at h;cases h),HBEL.out,HSZ.out⟩
         case measure=>simp [intOf]
        ·rw [hfb] at cI
         have HFB:Hid (flag bs i=true):=hfb
         have HPC:Hid (∃ pb po,pa=some ⟨pb,po,none⟩/\wq.cell? ⟨pb,po+k,none⟩=some (.int .i64 (parts n)[k])):=by
          rcases (HP.out.kept HK3.out (fun x hx e=>by
           subst hx
           rcases HP.out.2 with h0|⟨pb,po,hpe,hpB,_⟩
           ·omega
           ·cases hpe;simp at e;omega)).2 with h0|⟨pb,po,hpe,hpB,hpc⟩
          ·omega
          exact ⟨pb,po,hpe,(hpc k hlt).1⟩
         obtain ⟨pb,po,hpe,q0⟩:=HPC.out
         subst hpe
         obtain ⟨hx0,hx1⟩:=HPO'.out k hlt
         have HDR:Hid ((parts n).drop k=(parts n)[k] :: (parts n).drop (k+1)):=List.drop_eq_getElem_cons hlt
         generalize (parts n)[k]=x at q0 hx0 hx1 HDR
         obtain ⟨c1,c2⟩:=ho3.cell' HL3.out x.toNat (by omega)
         have hxz:x < (l.length:Int):=by omega
         have HON:Hid (act=true->flag (b3.set x.toNat true) i=true/\(markAll (b3.set x.toNat true) ((parts n).drop (k+1))=markAll bs (parts n))):=fun ha=>by
          have hle:x.toNat < b3.length:=by rw [HL3.out];omega
          refine ⟨?_,?_⟩
          ·rw [flag_set hle,if_neg (by omega)];exact HF3.out.trans HFB.out
          ·have h9:=HM3.out ha
           rw [HDR.out] at h9
           exact h9
         have HQC:Hid (∀ W,Calls Tryz.prog 28 #[.int .i64 n.op] W fun e w'=>e=.returned (.bool (quant n.op))/\w'=W):=fun W=>Sp10.sQuant n.op W
         clear ho3 hfb
         cases hq:quant n.op
         ·have HA:Hid (act=true):=by have h:=HAC.out;rw [HFB.out,HIQ.out,hq] at h;exact h
          rw [hq] at HQC
          clear hq
          go_wp2_with fail
          refine (HQC.out _).mono ?_
          rintro e w' ⟨rfl,hz1⟩
          have hz2:=hz1.symm
          clear hz1
          subst hz2
          go_wp2_with fail
          go_roundw
          case rel=>exact ⟨k+1,by omega,by go_num,b3.set x.toNat true,HO3.out.set' HL3.out _ _,by rw [List.length_set];exact HL3.out,(HON.out HA.out).1,fun _=>(HON.out HA.out).2,(fun h=>by rw [HA.out] at h;cases h),HK3.out.setCell rfl _⟩
          case measure=>simp [intOf];omega
         ·rw [hq] at HQC
          cases hkv:(n.k==(v:Int))
          ·have HA:Hid (act=true):=by have h:=HAC.out;rw [HFB.out,HIQ.out,hq,hkv] at h;exact h
           clear hq
           go_wp2_with fail
           refine (HQC.out _).mono ?_
           rintro e w' ⟨rfl,hz1⟩
           have hz2:=hz1.symm
           clear hz1
           subst hz2
           go_wp2_with fail
           go_roundw
           case rel=>exact ⟨k+1,by omega,by go_num,b3.set x.toNat true,HO3.out.set' HL3.out _ _,by rw [List.length_set];exact HL3.out,(HON.out HA.out).1,fun _=>(HON.out HA.out).2,(fun h=>by rw [HA.out] at h;cases h),HK3.out.setCell rfl _⟩
           case measure=>simp [intOf];omega
          ·have HA:Hid (act=false):=by have h:=HAC.out;rw [HFB.out,HIQ.out,hq,hkv] at h;exact h
           clear hq
           go_wp2_with fail
           refine (HQC.out _).mono ?_
           rintro e w' ⟨rfl,hz1⟩
           have hz2:=hz1.symm
           clear hz1
           subst hz2
           go_wp2_with fail
           go_roundw
           case rel=>exact ⟨i,by omega,by go_num,b3,HO3.out,HL3.out,HEND.out (fun h=>by rw [HA.out] at h;cases h),HBEL.out,HSZ.out⟩
           case measure=>simp [intOf]
       ·have hlz:¬ (k:Int) < ((parts n).length:Int):=by omega
        clear ho3
        go_wp2_with fail
        go_roundw
        case rel=>exact ⟨i,by omega,by go_num,b3,HO3.out,HL3.out,HEND.out (fun _=>by omega),HBEL.out,HSZ.out⟩
        case measure=>simp [intOf]
end Am7
namespace Am8
open Go.RowKit
open Nd0 Nd3 Tm0 Tm1 Tm4 Tm8 Aq0 Aq2 Aq12 Ap0
open Ap2 (Own)
open Am5 (sQuantify)
open Am7 (sWidth)
open Ap13 (app_any)
open Sp9 (sFree)
theorem free_skip {l:List Nd} (hT:termOk l=true) {v:Nat} (hv:v < 8) (h:flag (freeTop l) v=false):clTo l (8 - v)=clTo l (8 - (v+1)):=by
 obtain ⟨h1,h2⟩:=term_len hT
 have h3:ffTop l v=80:=by
  have:=free_top (down_of hT) h1 h2 hv
  cases e:decide (ffTop l v=80)
  ·have e2:=of_decide_eq_false e
   rw [this.2 e2] at h;cases h
  ·exact of_decide_eq_true e
 have e:8 - v=(8 - (v+1))+1:=by omega
 rw [e]
 exact clTo_skip (by rw [show 7 - (8 - (v+1))=v by omega];exact h3)
theorem free_last {l:List Nd} (hT:termOk l=true):∀ v,v<=8->1<=(freeTo l v).length->∃ u,u < v/\freeTo l v=freeTo l u++[(u:Int)]/\flag (freeTop l) u=true/\clTo l (8 - v)=clTo l (8 - (u+1)):=by
 intro v
 induction v with
 | zero=>intro _ h;simp [freeTo] at h
 | succ v ih =>
   intro hv h
   rw [freeTo_succ] at h ⊢
   cases hf:flag (freeTop l) v
   ·rw [hf] at h
    obtain ⟨u,h1,h2,h3,h4⟩:=ih (by omega) h
    refine ⟨u,by omega,h2,h3,?_⟩
    rw [<- free_skip hT (by omega) hf];exact h4
   ·exact ⟨v,by omega,rfl,hf,rfl⟩
theorem free_none {l:List Nd} (hT:termOk l=true):∀ v,v<=8->(freeTo l v).length=0->clTo l 8=clTo l (8 - v):=by
 intro v
 induction v with
 | zero=>intro _ _;rfl
 | succ v ih =>
   intro hv h
   rw [freeTo_succ] at h
   cases hf:flag (freeTop l) v
   ·rw [hf] at h
    rw [ih (by omega) h]
    exact free_skip hT (by omega) hf
   ·rw [hf,if_pos rfl,List.length_append] at h
    simp at h
theorem free_pre (l:List Nd):∀ v,v<=8->∃ m,freeTo l 8=freeTo l v++m:=by
 intro v hv
 obtain ⟨d,hd⟩:∃ d,v+d=8:=⟨8 - v,by omega⟩
 induction d generalizing v with
 | zero=>have:v=8:=by omega
         subst this;exact ⟨[],by simp⟩
 | succ d ih =>
   obtain ⟨m,hm⟩:=ih (v+1) (by omega) (by omega)
   rw [hm,freeTo_succ]
   split
   ·exact ⟨_,by rw [List.append_assoc]⟩
   ·exact ⟨m,rfl⟩
theorem free_le (l:List Nd) (v:Nat):(freeTo l v).length<=v:=by
 unfold freeTo
 rw [List.length_map]
 exact Nat.le_trans (List.length_filter_le _ _) (by simp)
theorem cl_step {l:List Nd} (hT:termOk l=true) {u:Nat} (hu:u < 8) (h:flag (freeTop l) u=true):clTo l (8 - u)=clTo l (8 - (u+1))++[quN (l++clTo l (8 - (u+1))) true (u:Int) (widL l u)]:=by
 obtain ⟨h1,h2⟩:=term_len hT
 have h3:=(free_top (down_of hT) h1 h2 hu).1 h
 have e:8 - u=(8 - (u+1))+1:=by omega
 rw [e,clTo_more (by rw [show 7 - (8 - (u+1))=u by omega];exact h3),show 7 - (8 - (u+1))=u by omega]
 unfold clN quN
 rw [List.length_append]
 simp
theorem sCloseAll (w:World) (a:Option Addr) (l:List Nd) (c:Nat) (hN:Nodes w a l) :
 Calls Tryz.prog 43 #[.slice a l.length c] w fun e w'=>(∃ a' c',e=.returned (.tuple #[.slice a' (clL l).length c',.bool (clB l)])/\WNodes w' w.heap.size a' (clL l))/\Below w.heap.size w w':=by
 have HN:Hid (Nodes w a l):=hN
 clear hN
 go_enter Tryz.func43,Tryz.ntmps43
 go_wp2_with fail
 refine (Sp4.sTermOk _ _ l c HN.out).mono ?_
 rintro e w1 ⟨rfl,hb1⟩
 have HB1:Hid (Below w.heap.size w w1):=hb1
 have hs1:=hb1.size
 clear hb1
 cases hT:termOk l
 ·have HE:Hid (clB l=false/\clL l=[]):=cl_term hT
  go_wp2
  go_ret2
  rw [HE.out.1,HE.out.2]
  exact ⟨⟨_,_,rfl,⟨Nat.zero_le _,.inl rfl⟩⟩,HB1.out.alloc HB1.out.size _⟩
 ·have HT:Hid (termOk l=true):=hT
  obtain ⟨hl1,hl2⟩:=term_len hT
  clear hT
  have HN1:Hid (Nodes w1 a l):=HN.out.below HB1.out
  rcases HN1.out.2 with h0|⟨b,o,rfl,hc⟩
  ·omega
  obtain ⟨-,p1, -, -, -, -⟩:=hc (l.length - 1) (by omega)
  rw [nth_get (by omega)] at p1
  clear hc
  have g1:(0:Int)<=(l.length:Int) - 1:=by omega
  have g2:(l.length:Int) - 1 < (l.length:Int):=by omega
  obtain ⟨z,hz⟩:∃ z:Int,z=(nth l (l.length - 1)).w:=⟨_,rfl⟩
  rw [<- hz] at p1
  cases hw:(z==1)
  ·have HE:Hid (clB l=false/\clL l=[]):=cl_wid (by rw [<- hz];exact hw)
   have hne:(z != 1)=true:=by simpa using hw
   clear hw hz
   go_wp2
   go_ret2
   rw [HE.out.1,HE.out.2]
   exact ⟨⟨_,_,rfl,⟨Nat.zero_le _,.inl rfl⟩⟩,HB1.out.alloc HB1.out.size _⟩
  ·have HE:Hid (clB l=termOk (clAll l)/\clL l=if termOk (clAll l) then clAll l else []):=cl_all HT.out (by rw [<- hz];exact hw)
   have hne:(z != 1)=false:=by simpa using hw
   clear hw hz
   go_wp2_with fail
   refine (sFree w1 _ l c HN1.out).mono ?_
   rintro e w2 ⟨⟨vf,rfl,hvf⟩,hb2⟩
   have HFE:Hid (freeL l=freeTo l 8):=by show _=_;unfold freeL;rw [HT.out];rfl
   obtain ⟨fa,fc,rfl,hfw⟩:=hvf.form
   rw [HFE.out] at hfw
   rw [HFE.out]
   have HF2:Hid (Ints w2 fa (freeTo l 8)):=hfw.ints
   have HB2:Hid (Below w.heap.size w w2):=HB1.out.trans (hb2.mono hs1)
   have HN2:Hid (Nodes w2 (some ⟨b,o,none⟩) l):=HN1.out.below hb2
   clear hvf hfw hb2 HN1 p1 HB1 hs1
   have HLIT:Hid (Own (w2.alloc (.cells #[] 44)) w2.heap.size (.slice (some ⟨w2.heap.size,0,none⟩) ([]:List Nd).length 0) []):=Ap2.Own.lit w2 _ (Nat.le_refl _)
   have HXX:Hid (∀ i (h:i < l.length),NodeAt (w2.alloc (.cells #[] 44)) b (o+i*6) l[i]):=fun i hi=>by
    rcases HN2.out.2 with h0|⟨b',o',he,hc⟩
    ·omega
    ·cases he
     exact (hc i hi).below ((Below.refl _ _).alloc (Nat.le_refl _) _) (hc i hi).lt
   go_wp2_with (at_builtin;go_must (refine app_any _ rfl _ _ rfl w2.heap.size w2.heap.size 0 [] l l rfl b o c 0 l.length rfl rfl rfl rfl HXX.out HLIT.out (by simp) (by simp;omega) ?_;intro g3 cp3 w3 ho3 hk3))
   have HO3:Hid (Own w3 w2.heap.size (.slice (some ⟨g3,0,none⟩) l.length cp3) l):=ho3
   have hb3:Below w2.heap.size w2 w3:=((Below.refl w2.heap.size w2).alloc (Nat.le_refl _) _).trans (hk3.below (fun k hk=>by omega) (by simp))
   have HB3:Hid (Below w.heap.size w w3):=HB2.out.trans (hb3.mono HB2.out.size)
   have HW3:Hid (WNodes w3 w.heap.size (some ⟨g3,0,none⟩) l):=by
    obtain ⟨av,cv,hv,hw⟩:=ho3.form
    cases hv
    obtain ⟨h1,h2⟩:=hw
    refine ⟨h1,?_⟩
    rcases h2 with h0|⟨b2,o2,ha,hB,hcc,hf⟩
    ·exact .inl h0
    ·exact .inr ⟨b2,o2,ha,by have:=HB2.out.size;omega,hcc,hf⟩
   have HF3:Hid (Ints w3 fa (freeTo l 8)):=HF2.out.below hb3
   have HN3:Hid (Nodes w3 (some ⟨b,o,none⟩) l):=HN2.out.below hb3
   have hf8:=free_le l 8
   have hfz:IntKind.i64.wrap (((freeTo l 8).length:Int) - 1)=((freeTo l 8).length:Int) - 1:=by rw [IntKind.wrap_i64]<;>omega
   have HC0:Hid (l++clTo l (8 - 8)=l):=by show _=_;show l++[]=l;simp
   clear ho3 hk3 hb3 HB2 HN2 HLIT HXX HF2
   go_wp2_with fail
   go_loopw [5,6] (fun q i wr=>∃ (v:Nat) (ga:Option Addr) (cp:Nat),v<=8/\i=.int .i64 (((freeTo l v).length:Int) - 1)/\q=.slice ga (l++clTo l (8 - v)).length cp/\WNodes wr w.heap.size ga (l++clTo l (8 - v))/\termOk (l++clTo l (8 - v))=true/\Ints wr fa (freeTo l 8)/\Nodes wr (some ⟨b,o,none⟩) l/\Below w.heap.size w wr) (fun _ i _=>(intOf i+1).toNat)
   case atStart=>exact ⟨8,some ⟨g3,0,none⟩,cp3,Nat.le_refl _,by rw [show wrap64 (((freeTo l 8).length:Int) - 1)=((freeTo l 8).length:Int) - 1 by unfold wrap64;omega],by rw [HC0.out],by rw [HC0.out];exact HW3.out,by rw [HC0.out];exact HT.out,HF3.out,HN3.out,HB3.out⟩
   case round =>
    clear HO3 HW3 HF3 HN3 HB3 HC0 hfz
    obtain ⟨v,ga,cp,hv,rfl,rfl,hw,ht,hf,hn,hb⟩:=hrel
    obtain ⟨wb,rfl⟩:∃ wb:World,wb=wr:=⟨_,rfl⟩
    have HW:Hid (WNodes wb w.heap.size ga (l++clTo l (8 - v))):=hw
    have HTT:Hid (termOk (l++clTo l (8 - v))=true):=ht
    have HF:Hid (Ints wb fa (freeTo l 8)):=hf
    have HNB:Hid (Nodes wb (some ⟨b,o,none⟩) l):=hn
    have HBB:Hid (Below w.heap.size w wb):=hb
    have hvl:=free_le l v
    clear hw ht hf hn hb
    by_cases h0:1<=(freeTo l v).length
    ·obtain ⟨u,hu1,hu2,hu3,hu4⟩:=free_last HT.out v hv h0
     obtain ⟨m,hm⟩:=free_pre l v hv
     have hlen:(freeTo l v).length=(freeTo l u).length+1:=by rw [hu2,List.length_append];rfl
     obtain ⟨i,hi⟩:∃ i:Nat,i=(freeTo l u).length:=⟨_,rfl⟩
     have hi8:i < (freeTo l 8).length:=by rw [hm,List.length_append];omega
     have hget:(freeTo l 8)[i]=(u:Int):=by
      have:(freeTo l 8)[i]? = some (u:Int):=by
       rw [hm,hu2,List.append_assoc,List.getElem?_append_right (by omega),hi,Nat.sub_self];rfl
      rw [List.getElem?_eq_getElem hi8] at this
      exact Option.some.inj this
     have HP:Hid (∃ fb fo,fa=some ⟨fb,fo,none⟩/\wb.cell? ⟨fb,fo+i,none⟩=some (.int .i64 (u:Int))):=by
      rcases HF.out.2 with h9|⟨fb,fo,he,hc⟩
      ·omega
      ·have:=hc i hi8
       rw [hget] at this
       exact ⟨fb,fo,he,this⟩
     have e1:((freeTo l v).length:Int) - 1=(i:Int):=by omega
     have HCS:Hid (clTo l (8 - u)=clTo l (8 - v)++[quN (l++clTo l (8 - v)) true (u:Int) (widL l u)]):=by
      have h:=cl_step HT.out (by omega) hu3
      rw [<- hu4] at h
      exact h
     have HLS:Hid (termOk (clAll l)=true->termOk (l++clTo l (8 - u))=true):=fun h=>cl_less hl1 u (8 - u) (by omega) h
     have HI1:Hid (i=(freeTo l u).length):=hi
     rw [e1]
     obtain ⟨fb,fo,rfl,p0⟩:=HP.out
     have hi0:(0:Int)<=(i:Int):=by omega
     have hiz:(i:Int) < ((freeTo l 8).length:Int):=by omega
     have HLL:Hid ((l++clTo l (8 - v)).length<=88):=by show _<=_;rw [List.length_append];have:=clTo_le l (8 - v);omega
     clear h0 hu2 hu3 hu4 hm hlen hi hget e1 hi8 HP
     obtain ⟨X,hX⟩:∃ X,X=l++clTo l (8 - v):=⟨_,rfl⟩
     have HX:Hid (X=l++clTo l (8 - v)):=hX
     rw [<- hX] at HW HTT HCS HLL ⊢
     clear hX
     generalize hwd:widL l u=wd at HCS
     have HWD:Hid (∀ W:World,Nodes W (some ⟨b,o,none⟩) l->Calls Tryz.prog 81 #[.slice (some ⟨b,o,none⟩) l.length c,.int .i64 (u:Int)] W fun e w'=>e=.returned (.int .i64 wd)/\Below W.heap.size W w'):=fun W h=>by
      have:=sWidth W (some ⟨b,o,none⟩) l c u h HT.out
      rw [hwd] at this
      exact this
     clear hwd
     have HQU:Hid (∀ W:World,Nodes W ga X->Calls Tryz.prog 80 #[.slice ga X.length cp,.bool true,.int .i64 (u:Int),.int .i64 wd] W fun e w'=>(∃ a' c',e=.returned (.tuple #[.slice a' (behL X (quN X true (u:Int) wd)).length c',.bool (behB X (quN X true (u:Int) wd))])/\WNodes w' W.heap.size a' (behL X (quN X true (u:Int) wd)))/\Below W.heap.size W w'):=fun W h=>sQuantify W ga X cp true (u:Int) wd h (by have:=HLL.out;omega)
     have HYY:Hid (l++clTo l (8 - u)=X++[quN X true (u:Int) wd]):=by show _=_;rw [HCS.out,HX.out,List.append_assoc]
     have HBE:Hid (behB X (quN X true (u:Int) wd)=termOk (l++clTo l (8 - u))/\(behB X (quN X true (u:Int) wd)=true->behL X (quN X true (u:Int) wd)=l++clTo l (8 - u))):=by
      have h1:behB X (quN X true (u:Int) wd)=termOk (l++clTo l (8 - u)):=by unfold behB;rw [HTT.out,HYY.out];rfl
      refine ⟨h1,fun h=>?_⟩
      unfold behL
      rw [h,if_pos rfl,HYY.out]
     generalize behL X (quN X true (u:Int) wd)=Y at HQU HBE
     generalize behB X (quN X true (u:Int) wd)=yb at HQU HBE
     go_wp2_with fail
     have DN:Hid (Nodes wb.drew (some ⟨b,o,none⟩) l):=HNB.out.below ((Below.refl _ _).drew)
     have DX:Hid (Nodes wb.drew ga X):=HW.out.nodes.below ((Below.refl _ _).drew)
     have DF:Hid (Ints wb.drew (some ⟨fb,fo,none⟩) (freeTo l 8)):=HF.out.below ((Below.refl _ _).drew)
     have DB:Hid (Below w.heap.size w wb.drew):=HBB.out.drew
     have DP:wb.drew.cell? ⟨fb,fo+i,none⟩=some (.int .i64 (u:Int)):=p0
     go_region_held3 (fun w'=>w'.cell? ⟨fb,fo+i,none⟩=some (.int .i64 (u:Int))) ((first|exact EP|exact DP)) ((first|(go_at_call 81;refine (HWD.out _ DN.out).mono ?_;rintro e w5 ⟨rfl,hb5⟩;have EP:w5.cell? ⟨fb,fo+i,none⟩=some (.int .i64 (u:Int)):=(hb5.cell (lt_of_cell DP)).trans DP;have EX:Hid (Nodes w5 ga X):=DX.out.below hb5;have EN:Hid (Nodes w5 (some ⟨b,o,none⟩) l):=DN.out.below hb5;have EF:Hid (Ints w5 (some ⟨fb,fo,none⟩) (freeTo l 8)):=DF.out.below hb5;have EB:Hid (Below w.heap.size w w5):=DB.out.trans (hb5.mono DB.out.size);clear hb5)|(go_at_call 80;refine (HQU.out _ EX.out).mono ?_;rintro e w6 ⟨⟨a6,c6,rfl,hw6⟩,hb6⟩;have EP:w6.cell? ⟨fb,fo+i,none⟩=some (.int .i64 (u:Int)):=(hb6.cell (lt_of_cell EP)).trans EP;have GN:Hid (Nodes w6 (some ⟨b,o,none⟩) l):=EN.out.below hb6;have GF:Hid (Ints w6 (some ⟨fb,fo,none⟩) (freeTo l 8)):=EF.out.below hb6;have GB:Hid (Below w.heap.size w w6):=EB.out.trans (hb6.mono EB.out.size);have GW:Hid (WNodes w6 w5.heap.size a6 Y):=hw6;have GS:Hid (w.heap.size<=w5.heap.size):=EB.out.size;clear hw6 hb6)))
     all_goals
      have HW6:Hid (WNodes w6 w.heap.size a6 Y):=by
       obtain ⟨h1,h2⟩:=GW.out
       refine ⟨h1,?_⟩
       rcases h2 with h0|⟨b2,o2,ha,hB,hcc,hf⟩
       ·exact .inl h0
       ·exact .inr ⟨b2,o2,ha,by have:=GS.out;omega,hcc,hf⟩
      have HN6:Hid (Nodes w6 (some ⟨b,o,none⟩) l):=GN.out
      have HF6:Hid (Ints w6 (some ⟨fb,fo,none⟩) (freeTo l 8)):=GF.out
      have HB6:Hid (Below w.heap.size w w6):=GB.out
      clear DP EP DN DX DF DB EX EN EF EB GN GF GB GW GS HWD HQU HW HF HNB HBB p0
      cases yb
      ·have HFIN:Hid (clB l=false/\clL l=[]):=by
        have h1:termOk (clAll l)=false:=by
         cases h:termOk (clAll l)
         ·rfl
         ·have h2:=HLS.out h
          rw [<- HBE.out.1] at h2
          cases h2
        exact ⟨by rw [HE.out.1,h1],by rw [HE.out.2,h1];rfl⟩
       go_wp2
       go_ret2
       rw [HFIN.out.1,HFIN.out.2]
       exact ⟨⟨_,_,rfl,⟨Nat.zero_le _,.inl rfl⟩⟩,HB6.out.alloc HB6.out.size _⟩
      ·have HYE:Hid (Y=l++clTo l (8 - u)):=HBE.out.2 rfl
       have HTE:Hid (termOk (l++clTo l (8 - u))=true):=HBE.out.1.symm
       have hi7:(i:Int)<=8:=by have:=HI1.out;have:=free_le l u;omega
       go_wp2_with fail
       go_roundw
       case rel=>exact ⟨u,a6,c6,by omega,by have:=HI1.out;congr 1;omega,by rw [HYE.out],by rw [<- HYE.out];exact HW6.out,HTE.out,HF6.out,HN6.out,HB6.out⟩
       case measure=>simp [intOf]
    ·have HNN:Hid (clTo l 8=clTo l (8 - v)):=free_none HT.out v hv (by omega)
     have hz:((freeTo l v).length:Int) - 1 = -1:=by omega
     rw [hz]
     have HFIN:Hid (clB l=true/\clL l=l++clTo l (8 - v)):=by
      have h1:termOk (clAll l)=true:=by unfold clAll;rw [HNN.out];exact HTT.out
      refine ⟨by rw [HE.out.1,h1],?_⟩
      rw [HE.out.2,h1,if_pos rfl]
      unfold clAll
      rw [HNN.out]
     clear h0 hz hvl
     go_wp2
     go_ret2
     rw [HFIN.out.1,HFIN.out.2]
     exact ⟨⟨_,_,rfl,HW.out⟩,HBB.out⟩
end Am8
end Go.Proofs.YthanhcobfehmnaaGreat
