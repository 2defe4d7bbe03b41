import Derived.Deep.CutBlock
import Derived.Test.YthanhcobfehmnaaGreatPkQU220
namespace Go.Proofs.YthanhcobfehmnaaGreat
set_option maxRecDepth 100000
set_option maxHeartbeats 8000000
set_option linter.unusedVariables false
namespace Am6
open Go.RowKit
open Nd0 Nd1 Nd3 Pl1 Tm0 Tm1 Tm3 Tm5 Tm8 Rw0 Sp2 Sp4 Vl1 Aq0 Aq1
open Ap2 (Own app_node)
open Sp7 (sPrune)
open Sp10 (sQuant)
open Sv1 (sApply)
open Vm0 (wf_small node_k)
def psL (L:List Nd) (n:Nd):List Nd:=(parts n).map fun p=>L.getD p.toNat Nd.zero
def allTo (L:List Nd) (n:Nd) (m:Nat):Bool:=(decide (0 < (parts n).length) && !quant n.op)&&((psL L n).take m).all fun p=>p.op==0
theorem all_succ (L:List Nd) (n:Nd) {m:Nat} (h:m < (parts n).length):allTo L n (m+1)=(allTo L n m&&(L.getD ((parts n)[m]).toNat Nd.zero).op==0):=by
 have hl:m < (psL L n).length:=by simp [psL];exact h
 have he:(psL L n)[m]=L.getD ((parts n)[m]).toNat Nd.zero:=by simp [psL]
 unfold allTo
 rw [List.take_succ_eq_append_getElem hl,List.all_append,he]
 simp [Bool.and_assoc]
theorem all_end (L:List Nd) (n:Nd):allTo L n (parts n).length=conB n (psL L n):=by
 unfold allTo conB
 rw [List.take_of_length_le (by simp [psL])]
 simp [psL]
theorem sFoldC (w:World) (a:Option Addr) (l:List Nd) (c:Nat) (hN:Nodes w a l) :
 Calls Tryz.prog 13 #[.slice a l.length c] w fun e w'=>(∃ a' c',e=.returned (.tuple #[.slice a' (foldL l).length c',.bool (termOk l)])/\WNodes w' w.heap.size a' (foldL l)/\(foldL l).length<=c')/\Below w.heap.size w w':=by
 have HN:Hid (Nodes w a l):=hN
 clear hN
 go_enter Tryz.func13,Tryz.ntmps13
 go_wp2_with fail
 refine (sTermOk _ a l c HN.out).mono ?_
 rintro e w1 ⟨rfl,hb1⟩
 have HB1:Hid (Below w.heap.size w w1):=hb1
 have hs1:=hb1.size
 clear hb1
 cases hT:termOk l
 ·have HT:Hid (termOk l=false):=hT
  have HFL2:Hid (foldL l=[]):=by show _=_;unfold foldL;rw [hT];rfl
  clear hT
  go_wp2
  go_ret2
  rw [HT.out,HFL2.out]
  exact ⟨⟨_,_,rfl,⟨Nat.zero_le _,.inl rfl⟩,Nat.zero_le _⟩,HB1.out.alloc HB1.out.size _⟩
 ·have HT:Hid (termOk l=true):=hT
  obtain ⟨hl1,hl2⟩:=term_len hT
  have HFL2:Hid (foldL l=pruneL (foldTo l l.length)):=by show _=_;unfold foldL;rw [hT];rfl
  have HD:Hid (Down l):=down_of hT
  have HKK:Hid (∀ k,k < l.length->(Lit.int .i64 (nth l k).k).wf=true):=fun k hk=>wf_small (node_k (down_of hT) (fun k hk=>term_node hT hk) hk)
  clear hT
  have HO0:Hid (Own (w1.alloc (.cells #[] 44)) w.heap.size (.slice (some ⟨w1.heap.size,0,none⟩) 0 0) []):=Ap2.Own.lit w1 _ hs1
  have HB0:Hid (Below w.heap.size w (w1.alloc (.cells #[] 44))):=HB1.out.alloc hs1 _
  go_wp2_with fail
  generalize w1.alloc (.cells #[] 44)=w2 at HO0 HB0 ⊢
  go_loopw [4,5] (fun vo q wr=>∃ k:Nat,k<=l.length/\q=.int .i64 k/\Below w.heap.size w wr/\Own wr w.heap.size vo (foldTo l k)) (fun _ q _=>l.length - (intOf q).toNat)
  case atStart=>exact ⟨0,Nat.zero_le _,rfl,HB0.out,HO0.out⟩
  case round =>
   clear HO0 HB0 HB1
   obtain ⟨k,hk,rfl,hb,ho⟩:=hrel
   obtain ⟨wb,rfl⟩:∃ wb:World,wb=wr:=⟨_,rfl⟩
   have HB:Hid (Below w.heap.size w wb):=hb
   have hbs:w.heap.size<=wb.heap.size:=hb.size
   have HLL:Hid ((foldTo l k).length=k):=wk_length _ _ _ _
   obtain ⟨av,cv,rfl,hnv⟩:=ho.form
   have HO:Hid (Own wb w.heap.size (.slice av (foldTo l k).length cv) (foldTo l k)):=ho
   have HNV:Hid (Nodes wb av (foldTo l k)):=hnv.nodes
   clear ho hb hnv
   by_cases hlt:k < l.length
   ·have hlz:(k:Int) < (l.length:Int):=by omega
    rcases (HN.out.below HB.out).2 with h0|⟨xb,xo,rfl,hc⟩
    ·omega
    obtain ⟨p0,p1,p2,p3,p4,p5⟩:=hc k hlt
    rw [nth_get hlt] at p0 p1 p2 p3 p4 p5
    clear hc
    have HDK:Hid (∀ p∈parts (nth l k),0<=p/\p < (k:Int)):=HD.out k hlt
    have HSC:Hid (foldTo l (k+1)=foldTo l k++[if conB (nth l k) (psL (foldTo l k) (nth l k)) then conN (nth l k) (psL (foldTo l k) (nth l k)) else nth l k]):=rfl
    have HWF:Hid ((Lit.int .i64 (nth l k).k).wf=true):=HKK.out k hlt
    generalize hn:nth l k=n at p0 p1 p2 p3 p4 p5 HDK HSC HWF
    clear hn
    generalize foldTo l k=L at HO HNV HSC HLL ⊢
    have hpl:=parts_le n
    obtain ⟨W1,hW1⟩:∃ W1:World,W1=wb.alloc (.cells #[.int .i64 n.op,.int .i64 n.w,.int .i64 n.k,.int .i64 n.a,.int .i64 n.b,.int .i64 n.c] 44):=⟨_,rfl⟩
    have hsz1:W1.heap.size=wb.heap.size+1:=by rw [hW1];simp
    have HB1:Hid (Below wb.heap.size wb W1):=by rw [hW1];exact (Below.refl _ _).alloc (Nat.le_refl _) _
    have HBX:Hid (NodeAt W1 wb.heap.size 0 n/\∀ j,W1.frozen? ⟨wb.heap.size,j,none⟩=false):=by rw [hW1];exact ⟨⟨by simp,by simp,by simp,by simp,by simp,by simp⟩,fun j=>by simp⟩
    go_wp2_with fail
    rw [<- hW1]
    refine (sParts n W1).mono ?_
    rintro e w4 ⟨⟨pa,pc,rfl,hpi⟩,hb4⟩
    have hs4:=hb4.size
    have HP4:Hid (IntsIn w4 W1.heap.size w4.heap.size pa (parts n)):=hpi.within
    have HX4:Hid (NodeAt w4 wb.heap.size 0 n/\∀ j,w4.frozen? ⟨wb.heap.size,j,none⟩=false):=⟨HBX.out.1.below hb4 (by omega),fun j=>by rw [hb4.frozen (by simp;omega)];exact HBX.out.2 j⟩
    have HB4:Hid (Below wb.heap.size wb w4):=HB1.out.trans (hb4.mono (by omega))
    clear hW1 hpi hb4 p0 p1 p2 p3 p4 p5 HBX HB1
    obtain ⟨W3,hW3⟩:∃ W3:World,W3=w4.alloc (.cells #[.int .i64 0,.int .i64 0,.int .i64 0] 3):=⟨_,rfl⟩
    have hsz3:W3.heap.size=w4.heap.size+1:=by rw [hW3];simp
    have HB34:Hid (Below w4.heap.size w4 W3):=by rw [hW3];exact (Below.refl _ _).alloc (Nat.le_refl _) _
    have HV3:Hid (Row W3 w4.heap.size 3 (fun i=>.int .i64 ((fun _=>0) i))):=by
     rw [hW3]
     refine Row.new _ _ _ _ _ (fun i hi=>?_)
     rcases (show i=0\/i=1\/i=2 by omega) with h|h|h<;>subst h<;>rfl
    have HB3:Hid (Below wb.heap.size wb W3):=HB4.out.trans (HB34.out.mono (by omega))
    have HP3:Hid (IntsIn W3 W1.heap.size w4.heap.size pa (parts n)):=HP4.out.kept (S:=fun _=>False) (Kept.ofBelow HB34.out) (fun _ _ _ h=>h)
    have HX3:Hid (NodeAt W3 wb.heap.size 0 n/\∀ j,W3.frozen? ⟨wb.heap.size,j,none⟩=false):=⟨HX4.out.1.below HB34.out (by omega),fun j=>by rw [HB34.out.frozen (by simp;omega)];exact HX4.out.2 j⟩
    obtain ⟨x0, -, -, -, -, -⟩:=HX4.out.1
    have HA0:Hid (allTo L n 0=(decide (0 < (parts n).length) && !quant n.op)):=by show _=_;unfold allTo;simp
    have HNW3:Hid (Nodes W3 av L):=HNV.out.below HB3.out
    have HLEN:Hid (L.length=k):=HLL.out
    by_cases hp0:0 < (parts n).length
    have hpz:(0:Int) < ((parts n).length:Int):=by omega
    have HAS:Hid ((!quant n.op)=allTo L n 0):=by show _=_;rw [HA0.out,decide_eq_true hp0];simp
    clear HA0
    go_upto_region 12 with (go_at_call 28;refine (sQuant n.op _).mono ?_;rintro e w' ⟨rfl,hz1⟩;have hz2:=hz1.symm;clear hz1;subst hz2)
    rotate_left
    have hpz:¬ (0:Int) < ((parts n).length:Int):=by omega
    have HAS:Hid (false=allTo L n 0):=by show _=_;rw [HA0.out,decide_eq_false hp0];simp
    clear HA0
    go_upto_region 12 with fail
    rotate_left
    all_goals
     rw [<- hW3]
     clear hW3 x0 hp0 hpz
     go_loopw [8,10] (fun f q wr=>∃ m:Nat,m<=(parts n).length/\q=.int .i64 m/\f=.bool (allTo L n m)/\Kept (fun b=>b=w4.heap.size) W3 wr/\Row wr w4.heap.size 3 (fun i=>.int .i64 (if i < m then (nth (psL L n) i).k else 0))) (fun _ q _=>(parts n).length - (intOf q).toNat)
     case atStart=>exact ⟨0,Nat.zero_le _,rfl,by rw [<- HAS.out],Kept.refl _ _,HV3.out⟩
     case round =>
      obtain ⟨m,hm,rfl,rfl,hkp,hrow⟩:=hrel
      have HK:Hid (Kept (fun b=>b=w4.heap.size) W3 wr):=hkp
      have HR:Hid (Row wr w4.heap.size 3 (fun i=>.int .i64 (if i < m then (nth (psL L n) i).k else 0))):=hrow
      clear hkp hrow
      by_cases hlm:m < (parts n).length
      ·have hmz:(m:Int) < ((parts n).length:Int):=by omega
       rcases (HP3.out.kept HK.out (fun b h1 h2 e=>by omega)).2 with h0|⟨pb,po,rfl,hpB,hpU,hpc⟩
       ·omega
       have q0:=(hpc m hlm).1
       obtain ⟨hy0,hy1⟩:=HDK.out _ (List.getElem_mem hlm)
       have HST:Hid (allTo L n (m+1)=(allTo L n m&&(L.getD ((parts n)[m]).toNat Nd.zero).op==0)):=all_succ L n hlm
       have HPM:Hid (nth (psL L n) m=L.getD ((parts n)[m]).toNat Nd.zero):=by show _=_;unfold nth psL;simp [hlm]
       clear hpc hpB hpU
       generalize (parts n)[m]=y at q0 hy0 hy1 HST HPM
       obtain ⟨jy,rfl⟩:=Int.eq_ofNat_of_zero_le hy0
       rw [Int.toNat_natCast] at HST HPM
       rcases HNV.out.2 with h0|⟨ob,oo,rfl,hoc⟩
       ·have:=HLEN.out;omega
       have hjl:jy < L.length:=by have:=HLEN.out;omega
       have hjz:(jy:Int) < (L.length:Int):=by omega
       have hob:=(hoc jy hjl).lt
       have HXN:=Pb3.nodeAt_kept ((hoc jy hjl).below HB3.out hob) HK.out (by omega)
       rw [nth_get hjl] at HXN
       have e9:L.getD jy Nd.zero=nth L jy:=rfl
       rw [e9] at HST HPM
       obtain ⟨z0, -,z2, -, -, -⟩:=HXN
       clear hoc e9
       have hm3:m < 3:=by omega
       obtain ⟨v0,v1⟩:=HR.out m hm3
       have HKN:Hid (∀ i,(if i < m+1 then (nth (psL L n) i).k else 0)=if i=m then (nth L jy).k else if i < m then (nth (psL L n) i).k else 0):=fun i=>by
        by_cases e:i=m
        ·subst e;rw [if_pos (by omega),if_pos rfl,HPM.out]
        ·rw [if_neg e]
         by_cases e2:i < m
         ·rw [if_pos e2,if_pos (by omega)]
         ·rw [if_neg e2,if_neg (by omega)]
       have HFIN:Hid (Row (wr.setCell ⟨w4.heap.size,m,none⟩ (.int .i64 (nth L jy).k)) w4.heap.size 3 (fun i=>.int .i64 (if i < m+1 then (nth (psL L n) i).k else 0))/\Kept (fun b=>b=w4.heap.size) W3 (wr.setCell ⟨w4.heap.size,m,none⟩ (.int .i64 (nth L jy).k))):=by
        refine ⟨(HR.out.set hm3 _).congr (fun i hi=>?_),HK.out.setCell (p:=⟨w4.heap.size,m,none⟩) rfl _⟩
        rw [HKN.out i]
        by_cases e:i=m
        ·rw [if_pos e,if_pos e]
        ·rw [if_neg e,if_neg e]
       generalize (nth L jy).k=kk at z2 HFIN
       generalize (nth L jy).op=oo2 at z0 HST
       clear HKN HPM hob
       cases hal:allTo L n m
       ·go_wp2
        go_roundw
        case rel=>exact ⟨m+1,by omega,by go_num,by rw [HST.out,hal];rfl,HFIN.out.2,HFIN.out.1⟩
        case measure=>simp [intOf];omega
       ·cases hop:(oo2==0)
        all_goals
         go_wp2
         go_roundw
         case rel=>exact ⟨m+1,by omega,by go_num,by rw [HST.out,hal,hop];rfl,HFIN.out.2,HFIN.out.1⟩
         case measure=>simp [intOf];omega
      ·have em:m=(parts n).length:=by omega
       subst em
       rw [all_end]
       have HBR:Hid (Below w.heap.size w wr):=HB.out.trans ((HB3.out.trans (HK.out.below (fun b (hb:b=_)=>by omega) (by omega))).mono hbs)
       have HXR:Hid (NodeAt wr wb.heap.size 0 n/\∀ j,wr.frozen? ⟨wb.heap.size,j,none⟩=false):=⟨Pb3.nodeAt_kept HX3.out.1 HK.out (by omega),fun j=>by rw [HK.out.frozen (p:=⟨wb.heap.size,j,none⟩) (by simp;omega) (by simp;omega)];exact HX3.out.2 j⟩
       have hrs:w4.heap.size < wr.heap.size:=by have:=HK.out.size;omega
       have HOR:Hid (Own wr w.heap.size (.slice av L.length cv) L):=(HO.out.kept (S:=fun _=>False) (Kept.ofBelow HB3.out) (fun _ _ h=>h)).kept HK.out (fun b hb e=>by have:=(HO.out.lt b hb).2;omega)
       have hws:w.heap.size<=wr.heap.size:=by omega
       have hLl:L.length<=1048576:=by have:=HLEN.out;omega
       cases hcb:conB n (psL L n)
       ·have HCB:Hid (conB n (psL L n)=false):=hcb
        clear hcb
        obtain ⟨c0,c1,c2,c3,c4,c5⟩:=HXR.out.1
        simp only [Nat.zero_add] at c1 c2 c3 c4 c5
        go_wp2_with (at_builtin;go_must (refine app_node _ rfl _ _ rfl w.heap.size (.slice av L.length cv) L n rfl _ rfl rfl HOR.out hws hLl ?_;intro g5 cp5 w5 ho5 hk5 hg5))
        have HO5:Hid (Own w5 w.heap.size (.slice (some ⟨g5,0,none⟩) (L.length+1) cp5) (L++[n])):=ho5
        have HB5:Hid (Below w.heap.size w w5):=HBR.out.trans (hk5.below (fun b hb=>(HOR.out.lt b hb).1) hws)
        clear ho5 hk5 hg5
        go_wp2
        go_roundw
        case rel=>exact ⟨k+1,by omega,by go_num,HB5.out,by rw [HSC.out,HCB.out,if_neg (by simp)];exact HO5.out⟩
        case measure=>simp [intOf];omega
       ·have HCB:Hid (conB n (psL L n)=true):=hcb
        have hp0:0 < (parts n).length:=by
         unfold conB psL at hcb
         simp only [Bool.and_eq_true,decide_eq_true_eq,List.length_map] at hcb
         exact hcb.1.1
        clear hcb
        have hpz0:(0:Int) < ((parts n).length:Int):=by omega
        rcases (HP3.out.kept HK.out (fun b h1 h2 e=>by omega)).2 with h0|⟨pb,po,rfl,hpB,hpU,hpc⟩
        ·omega
        have r0:=(hpc 0 hp0).1
        rw [Nat.add_zero] at r0
        obtain ⟨hy0,hy1⟩:=HDK.out _ (List.getElem_mem hp0)
        have HP0:Hid ((psL L n).getD 0 Nd.zero=L.getD ((parts n)[0]).toNat Nd.zero):=by show _=_;unfold psL;simp [hp0]
        clear hpc
        generalize (parts n)[0]=y at r0 hy0 hy1 HP0
        obtain ⟨jy,rfl⟩:=Int.eq_ofNat_of_zero_le hy0
        rw [Int.toNat_natCast] at HP0
        rcases HNV.out.2 with h0|⟨ob,oo,rfl,hoc⟩
        ·have:=HLEN.out;omega
        have hjl:jy < L.length:=by have:=HLEN.out;omega
        have hjz:(jy:Int) < (L.length:Int):=by omega
        have hob:=(hoc jy hjl).lt
        have HXN:=Pb3.nodeAt_kept ((hoc jy hjl).below HB3.out hob) HK.out (by omega)
        rw [nth_get hjl] at HXN
        have e9:L.getD jy Nd.zero=nth L jy:=rfl
        rw [e9] at HP0
        obtain ⟨-,z1, -, -, -, -⟩:=HXN
        have HVV:Hid (∀ i,i < 3->wr.cell? ⟨w4.heap.size,i,none⟩=some (.int .i64 (kOf (psL L n) i))):=fun i hi=>by
         have h9:=(HR.out i hi).1
         dsimp only at h9
         rw [h9]
         unfold kOf
         by_cases e:i < (parts n).length
         ·rw [if_pos e];rfl
         ·rw [if_neg e,List.getD_eq_getElem?_getD,List.getElem?_eq_none (by simp [psL];omega)];rfl
        have v0:=HVV.out 0 (by omega)
        have v1:=HVV.out 1 (by omega)
        have v2:=HVV.out 2 (by omega)
        have HCN:Hid (conN n (psL L n)=⟨0,n.w,applyL n.op n.w n.k (nth L jy).w (kOf (psL L n) 0) (kOf (psL L n) 1) (kOf (psL L n) 2),0,0,0⟩):=by show _=_;unfold conN;rw [HP0.out]
        clear hoc e9 HVV HP0
        generalize (nth L jy).w=ww at z1 HCN
        generalize kOf (psL L n) 0=k0 at v0 HCN
        generalize kOf (psL L n) 1=k1 at v1 HCN
        generalize kOf (psL L n) 2=k2 at v2 HCN
        generalize hay:applyL n.op n.w n.k ww k0 k1 k2=ay at HCN
        have HAY:Hid (applyL n.op n.w n.k ww k0 k1 k2=ay):=hay
        clear hay
        have HXD:Hid (NodeAt wr.drew wb.heap.size 0 n/\∀ j,wr.drew.frozen? ⟨wb.heap.size,j,none⟩=false):=⟨⟨HXR.out.1.c0,HXR.out.1.c1,HXR.out.1.c2,HXR.out.1.c3,HXR.out.1.c4,HXR.out.1.c5⟩,fun j=>HXR.out.2 j⟩
        obtain ⟨c0,c1,c2,c3,c4,c5⟩:=HXR.out.1
        simp only [Nat.zero_add] at c1 c2 c3 c4 c5
        go_upto_region 17 with fail
        go_cut [8] from 68 to 88 (fun s8 wc=>s8=.bool true/\Kept (fun b=>b=wb.heap.size) wr wc/\NodeAt wc wb.heap.size 0 ⟨0,n.w,ay,0,0,0⟩)
        case first =>
         refine wp_region_held_drew (S:=fun w'=>Kept (fun b=>b=wb.heap.size) wr w') (by kernel_rfl) ((Kept.refl _ _).drew) (fun hHeld=>?_)
         refine wpAnyH_take (i:=0) (v:=?_) rfl (by kernel_rfl) (by kernel_rfl) (by kernel_rfl) (fun _ _ _ h=>h) (Or.inl ⟨by rfl,?_⟩) hHeld ?_
         rotate_left
         ·intro v9 hS9
          try dsimp only at hS9
          go_simp
          try with_reducible rfl
         try simp only [Act.put,List.setIfInBounds_toArray,List.set_cons_zero,List.set_cons_succ,List.getElem_toArray,List.getElem_cons_zero]
         refine wpAnyH_take (i:=3) (v:=?_) rfl (by kernel_rfl) (by kernel_rfl) (by kernel_rfl) (fun _ _ _ h=>h) (Or.inl ⟨by rfl,?_⟩) hHeld ?_
         rotate_left
         ·intro v9 hS9
          try dsimp only at hS9
          go_simp
          try with_reducible rfl
         try simp only [Act.put,List.setIfInBounds_toArray,List.set_cons_zero,List.set_cons_succ,List.getElem_toArray,List.getElem_cons_zero,List.getElem_cons_succ]
         refine wpAnyH_take (i:=4) (v:=?_) rfl (by kernel_rfl) (by kernel_rfl) (by kernel_rfl) (fun _ _ _ h=>h) (Or.inl ⟨by rfl,?_⟩) hHeld ?_
         rotate_left
         ·intro v9 hS9
          try dsimp only at hS9
          go_simp
          try with_reducible rfl
         try simp only [Act.put,List.setIfInBounds_toArray,List.set_cons_zero,List.set_cons_succ,List.getElem_toArray,List.getElem_cons_zero,List.getElem_cons_succ]
         refine wpAnyH_take (i:=5) (v:=?_) rfl (by kernel_rfl) (by kernel_rfl) (by kernel_rfl) (fun _ _ _ h=>h) (Or.inl ⟨by rfl,?_⟩) hHeld ?_
         rotate_left
         ·intro v9 hS9
          try dsimp only at hS9
          go_simp
          try with_reducible rfl
         try simp only [Act.put,List.setIfInBounds_toArray,List.set_cons_zero,List.set_cons_succ,List.getElem_toArray,List.getElem_cons_zero,List.getElem_cons_succ]
         refine wpAnyH_take (i:=6) (v:=?_) rfl (by kernel_rfl) (by kernel_rfl) (by kernel_rfl) (fun _ _ _ h=>h) (Or.inl ⟨by rfl,?_⟩) hHeld ?_
         rotate_left
         ·intro v9 hS9
          try dsimp only at hS9
          have q9:v9.cell? ⟨pb,po,none⟩=some (.int .i64 (jy:Int)):=by rw [hS9.cell (p:=⟨pb,po,none⟩) (lt_of_cell r0) (by simp;omega)];exact r0
          go_simp
          try with_reducible rfl
         try simp only [Act.put,List.setIfInBounds_toArray,List.set_cons_zero,List.set_cons_succ,List.getElem_toArray,List.getElem_cons_zero,List.getElem_cons_succ]
         refine wpAnyH_take (i:=7) (v:=?_) rfl (by kernel_rfl) (by kernel_rfl) (by kernel_rfl) (fun _ _ _ h=>h) (Or.inl ⟨by rfl,?_⟩) hHeld ?_
         rotate_left
         ·intro v9 hS9
          try dsimp only at hS9
          go_simp
          try with_reducible rfl
         try simp only [Act.put,List.setIfInBounds_toArray,List.set_cons_zero,List.set_cons_succ,List.getElem_toArray,List.getElem_cons_zero,List.getElem_cons_succ]
         refine wpAnyH_take (i:=8) (v:=?_) rfl (by kernel_rfl) (by kernel_rfl) (by kernel_rfl) (fun _ _ _ h=>h) (Or.inl ⟨by rfl,?_⟩) hHeld ?_
         rotate_left
         ·intro v9 hS9
          try dsimp only at hS9
          go_simp
          try with_reducible rfl
         try simp only [Act.put,List.setIfInBounds_toArray,List.set_cons_zero,List.set_cons_succ,List.getElem_toArray,List.getElem_cons_zero,List.getElem_cons_succ]
         refine wpAnyH_take (i:=9) (v:=?_) rfl (by kernel_rfl) (by kernel_rfl) (by kernel_rfl) (fun _ _ _ h=>h) (Or.inl ⟨by rfl,?_⟩) hHeld ?_
         rotate_left
         ·intro v9 hS9
          try dsimp only at hS9
          have q9:v9.cell? ⟨ob,oo+jy*6+1,none⟩=some (.int .i64 ww):=by rw [hS9.cell (p:=⟨ob,oo+jy*6+1,none⟩) (lt_of_cell z1) (by simp;omega)];exact z1
          go_simp
          try with_reducible rfl
         try simp only [Act.put,List.setIfInBounds_toArray,List.set_cons_zero,List.set_cons_succ,List.getElem_toArray,List.getElem_cons_zero,List.getElem_cons_succ]
         refine wpAnyH_take (i:=10) (v:=?_) rfl (by kernel_rfl) (by kernel_rfl) (by kernel_rfl) (fun _ _ _ h=>h) (Or.inl ⟨by rfl,?_⟩) hHeld ?_
         rotate_left
         ·intro v9 hS9
          try dsimp only at hS9
          go_simp
          try with_reducible rfl
         try simp only [Act.put,List.setIfInBounds_toArray,List.set_cons_zero,List.set_cons_succ,List.getElem_toArray,List.getElem_cons_zero,List.getElem_cons_succ]
         refine wpAnyH_take (i:=11) (v:=?_) rfl (by kernel_rfl) (by kernel_rfl) (by kernel_rfl) (fun _ _ _ h=>h) (Or.inl ⟨by rfl,?_⟩) hHeld ?_
         rotate_left
         ·intro v9 hS9
          try dsimp only at hS9
          go_simp
          try with_reducible rfl
         try simp only [Act.put,List.setIfInBounds_toArray,List.set_cons_zero,List.set_cons_succ,List.getElem_toArray,List.getElem_cons_zero,List.getElem_cons_succ]
         refine wpAnyH_take (i:=12) (v:=?_) rfl (by kernel_rfl) (by kernel_rfl) (by kernel_rfl) (fun _ _ _ h=>h) (Or.inl ⟨by rfl,?_⟩) hHeld ?_
         rotate_left
         ·intro v9 hS9
          try dsimp only at hS9
          have q9:v9.cell? ⟨w4.heap.size,0,none⟩=some (.int .i64 k0):=by rw [hS9.cell (p:=⟨w4.heap.size,0,none⟩) (lt_of_cell v0) (by simp;omega)];exact v0
          go_simp
          try with_reducible rfl
         try simp only [Act.put,List.setIfInBounds_toArray,List.set_cons_zero,List.set_cons_succ,List.getElem_toArray,List.getElem_cons_zero,List.getElem_cons_succ]
         refine wpAnyH_take (i:=13) (v:=?_) rfl (by kernel_rfl) (by kernel_rfl) (by kernel_rfl) (fun _ _ _ h=>h) (Or.inl ⟨by rfl,?_⟩) hHeld ?_
         rotate_left
         ·intro v9 hS9
          try dsimp only at hS9
          go_simp
          try with_reducible rfl
         try simp only [Act.put,List.setIfInBounds_toArray,List.set_cons_zero,List.set_cons_succ,List.getElem_toArray,List.getElem_cons_zero,List.getElem_cons_succ]
         refine wpAnyH_take (i:=14) (v:=?_) rfl (by kernel_rfl) (by kernel_rfl) (by kernel_rfl) (fun _ _ _ h=>h) (Or.inl ⟨by rfl,?_⟩) hHeld ?_
         rotate_left
         ·intro v9 hS9
          try dsimp only at hS9
          go_simp
          try with_reducible rfl
         try simp only [Act.put,List.setIfInBounds_toArray,List.set_cons_zero,List.set_cons_succ,List.getElem_toArray,List.getElem_cons_zero,List.getElem_cons_succ]
         refine wpAnyH_take (i:=15) (v:=?_) rfl (by kernel_rfl) (by kernel_rfl) (by kernel_rfl) (fun _ _ _ h=>h) (Or.inl ⟨by rfl,?_⟩) hHeld ?_
         rotate_left
         ·intro v9 hS9
          try dsimp only at hS9
          have q9:v9.cell? ⟨w4.heap.size,1,none⟩=some (.int .i64 k1):=by rw [hS9.cell (p:=⟨w4.heap.size,1,none⟩) (lt_of_cell v1) (by simp;omega)];exact v1
          go_simp
          try with_reducible rfl
         try simp only [Act.put,List.setIfInBounds_toArray,List.set_cons_zero,List.set_cons_succ,List.getElem_toArray,List.getElem_cons_zero,List.getElem_cons_succ]
         refine wpAnyH_take (i:=16) (v:=?_) rfl (by kernel_rfl) (by kernel_rfl) (by kernel_rfl) (fun _ _ _ h=>h) (Or.inl ⟨by rfl,?_⟩) hHeld ?_
         rotate_left
         ·intro v9 hS9
          try dsimp only at hS9
          go_simp
          try with_reducible rfl
         try simp only [Act.put,List.setIfInBounds_toArray,List.set_cons_zero,List.set_cons_succ,List.getElem_toArray,List.getElem_cons_zero,List.getElem_cons_succ]
         refine wpAnyH_take (i:=17) (v:=?_) rfl (by kernel_rfl) (by kernel_rfl) (by kernel_rfl) (fun _ _ _ h=>h) (Or.inl ⟨by rfl,?_⟩) hHeld ?_
         rotate_left
         ·intro v9 hS9
          try dsimp only at hS9
          go_simp
          try with_reducible rfl
         try simp only [Act.put,List.setIfInBounds_toArray,List.set_cons_zero,List.set_cons_succ,List.getElem_toArray,List.getElem_cons_zero,List.getElem_cons_succ]
         refine wpAnyH_take (i:=18) (v:=?_) rfl (by kernel_rfl) (by kernel_rfl) (by kernel_rfl) (fun _ _ _ h=>h) (Or.inl ⟨by rfl,?_⟩) hHeld ?_
         rotate_left
         ·intro v9 hS9
          try dsimp only at hS9
          have q9:v9.cell? ⟨w4.heap.size,2,none⟩=some (.int .i64 k2):=by rw [hS9.cell (p:=⟨w4.heap.size,2,none⟩) (lt_of_cell v2) (by simp;omega)];exact v2
          go_simp
          try with_reducible rfl
         try simp only [Act.put,List.setIfInBounds_toArray,List.set_cons_zero,List.set_cons_succ,List.getElem_toArray,List.getElem_cons_zero,List.getElem_cons_succ]
         refine wpAnyH_ready (rs:=[1,2]) (by kernel_rfl) (by simp) ?_
         refine (AllReadyH.cons rfl (fun K hK=>?_) (AllReadyH.cons rfl (fun K hK=>?_) AllReadyH.nil))
         ·
          go_simp
          refine hK.out _ _ (hHeld) (fun hNext=>?_)
          clear hK K hHeld
          have hHeld:=hNext
          clear hNext
          refine wpAnyH_ready (rs:=[2]) (by kernel_rfl) (by simp) ?_
          refine (AllReadyH.cons rfl (fun K hK=>?_) AllReadyH.nil)
          ·
           go_simp
           refine hK.out _ _ (hHeld) (fun hNext=>?_)
           clear hK K hHeld
           have hHeld:=hNext
           clear hNext
           refine wpAnyH_ready (rs:=[19]) (by kernel_rfl) (by simp) ?_
           refine (AllReadyH.cons rfl (fun K hK=>?_) AllReadyH.nil)
           ·
            go_simp
            go_wp2_with (go_at_call 29;refine (sApply n ww k0 k1 k2 _ HWF.out).mono ?_;rintro e w6 ⟨rfl,hb6⟩;rw [HAY.out])
            have HX6:Hid (NodeAt w6 wb.heap.size 0 n/\∀ j,w6.frozen? ⟨wb.heap.size,j,none⟩=false):=⟨HXD.out.1.below hb6 HXD.out.1.lt,fun j=>by rw [hb6.frozen HXD.out.1.lt];exact HXD.out.2 j⟩
            have HK6:=hHeld.trans (Kept.ofBelow hb6)
            clear hb6
            refine hK.out _ _ (HK6) (fun hNext=>?_)
            clear hK K hHeld
            have hHeld:=hNext
            clear hNext
            clear HK6
            try simp only [Act.put,List.setIfInBounds_toArray,List.set_cons_zero,List.set_cons_succ,List.getElem_toArray,List.getElem_cons_zero,List.getElem_cons_succ]
            refine wpAnyH_take (i:=20) (v:=?_) rfl (by kernel_rfl) (by kernel_rfl) (by kernel_rfl) (fun _ _ _ h=>h) (Or.inl ⟨by rfl,?_⟩) hHeld ?_
            rotate_left
            ·intro v9 hS9
             try dsimp only at hS9
             go_simp
             try with_reducible rfl
            try simp only [Act.put,List.setIfInBounds_toArray,List.set_cons_zero,List.set_cons_succ,List.getElem_toArray,List.getElem_cons_zero,List.getElem_cons_succ]
            refine wpAnyH_ready (rs:=[21]) (by kernel_rfl) (by simp) ?_
            refine (AllReadyH.cons rfl (fun K hK=>?_) AllReadyH.nil)
            obtain ⟨c0,c1,c2,c3,c4,c5⟩:=HX6.out.1
            simp only [Nat.zero_add] at c1 c2 c3 c4 c5
            have f0:=HX6.out.2 0
            have f1:=HX6.out.2 1
            have f2:=HX6.out.2 2
            have f3:=HX6.out.2 3
            have f4:=HX6.out.2 4
            have f5:=HX6.out.2 5
            go_simp
            have HKS:Kept (fun b=>b=wb.heap.size) wr (setNode w6 wb.heap.size 0 ⟨0,n.w,ay,0,0,0⟩):=setNode_keptS (S:=fun b=>b=wb.heap.size) (b:=wb.heap.size) (p:=0) (n:=⟨0,n.w,ay,0,0,0⟩) rfl hHeld
            have HNS:Hid (NodeAt (setNode w6 wb.heap.size 0 ⟨0,n.w,ay,0,0,0⟩) wb.heap.size 0 ⟨0,n.w,ay,0,0,0⟩):=setNode_same HX6.out.1
            clear c0 c1 c2 c3 c4 c5 f0 f1 f2 f3 f4 f5
            refine hK.out _ _ (HKS) (fun hNext=>?_)
            clear hK K hHeld
            have hHeld:=hNext
            clear hNext
            have HKS2:=hHeld
            clear HKS
            refine wpAnyH_done (by kernel_rfl) ?_ _
            clear hHeld
            go_wp2_with fail
            go_meet
            case rel=>exact ⟨rfl,HKS2,HNS.out⟩
         ·
          go_simp
          refine hK.out _ _ (hHeld) (fun hNext=>?_)
          clear hK K hHeld
          have hHeld:=hNext
          clear hNext
          refine wpAnyH_ready (rs:=[1,19]) (by kernel_rfl) (by simp) ?_
          refine (AllReadyH.cons rfl (fun K hK=>?_) (AllReadyH.cons rfl (fun K hK=>?_) AllReadyH.nil))
          ·
           go_simp
           refine hK.out _ _ (hHeld) (fun hNext=>?_)
           clear hK K hHeld
           have hHeld:=hNext
           clear hNext
           refine wpAnyH_ready (rs:=[19]) (by kernel_rfl) (by simp) ?_
           refine (AllReadyH.cons rfl (fun K hK=>?_) AllReadyH.nil)
           ·
            go_simp
            go_wp2_with (go_at_call 29;refine (sApply n ww k0 k1 k2 _ HWF.out).mono ?_;rintro e w6 ⟨rfl,hb6⟩;rw [HAY.out])
            have HX6:Hid (NodeAt w6 wb.heap.size 0 n/\∀ j,w6.frozen? ⟨wb.heap.size,j,none⟩=false):=⟨HXD.out.1.below hb6 HXD.out.1.lt,fun j=>by rw [hb6.frozen HXD.out.1.lt];exact HXD.out.2 j⟩
            have HK6:=hHeld.trans (Kept.ofBelow hb6)
            clear hb6
            refine hK.out _ _ (HK6) (fun hNext=>?_)
            clear hK K hHeld
            have hHeld:=hNext
            clear hNext
            clear HK6
            try simp only [Act.put,List.setIfInBounds_toArray,List.set_cons_zero,List.set_cons_succ,List.getElem_toArray,List.getElem_cons_zero,List.getElem_cons_succ]
            refine wpAnyH_take (i:=20) (v:=?_) rfl (by kernel_rfl) (by kernel_rfl) (by kernel_rfl) (fun _ _ _ h=>h) (Or.inl ⟨by rfl,?_⟩) hHeld ?_
            rotate_left
            ·intro v9 hS9
             try dsimp only at hS9
             go_simp
             try with_reducible rfl
            try simp only [Act.put,List.setIfInBounds_toArray,List.set_cons_zero,List.set_cons_succ,List.getElem_toArray,List.getElem_cons_zero,List.getElem_cons_succ]
            refine wpAnyH_ready (rs:=[21]) (by kernel_rfl) (by simp) ?_
            refine (AllReadyH.cons rfl (fun K hK=>?_) AllReadyH.nil)
            obtain ⟨c0,c1,c2,c3,c4,c5⟩:=HX6.out.1
            simp only [Nat.zero_add] at c1 c2 c3 c4 c5
            have f0:=HX6.out.2 0
            have f1:=HX6.out.2 1
            have f2:=HX6.out.2 2
            have f3:=HX6.out.2 3
            have f4:=HX6.out.2 4
            have f5:=HX6.out.2 5
            go_simp
            have HKS:Kept (fun b=>b=wb.heap.size) wr (setNode w6 wb.heap.size 0 ⟨0,n.w,ay,0,0,0⟩):=setNode_keptS (S:=fun b=>b=wb.heap.size) (b:=wb.heap.size) (p:=0) (n:=⟨0,n.w,ay,0,0,0⟩) rfl hHeld
            have HNS:Hid (NodeAt (setNode w6 wb.heap.size 0 ⟨0,n.w,ay,0,0,0⟩) wb.heap.size 0 ⟨0,n.w,ay,0,0,0⟩):=setNode_same HX6.out.1
            clear c0 c1 c2 c3 c4 c5 f0 f1 f2 f3 f4 f5
            refine hK.out _ _ (HKS) (fun hNext=>?_)
            clear hK K hHeld
            have hHeld:=hNext
            clear hNext
            have HKS2:=hHeld
            clear HKS
            refine wpAnyH_done (by kernel_rfl) ?_ _
            clear hHeld
            go_wp2_with fail
            go_meet
            case rel=>exact ⟨rfl,HKS2,HNS.out⟩
          ·
           go_simp
           go_wp2_with (go_at_call 29;refine (sApply n ww k0 k1 k2 _ HWF.out).mono ?_;rintro e w6 ⟨rfl,hb6⟩;rw [HAY.out])
           have HX6:Hid (NodeAt w6 wb.heap.size 0 n/\∀ j,w6.frozen? ⟨wb.heap.size,j,none⟩=false):=⟨HXD.out.1.below hb6 HXD.out.1.lt,fun j=>by rw [hb6.frozen HXD.out.1.lt];exact HXD.out.2 j⟩
           have HK6:=hHeld.trans (Kept.ofBelow hb6)
           clear hb6
           refine hK.out _ _ (HK6) (fun hNext=>?_)
           clear hK K hHeld
           have hHeld:=hNext
           clear hNext
           clear HK6
           try simp only [Act.put,List.setIfInBounds_toArray,List.set_cons_zero,List.set_cons_succ,List.getElem_toArray,List.getElem_cons_zero,List.getElem_cons_succ]
           refine wpAnyH_ready (rs:=[1]) (by kernel_rfl) (by simp) ?_
           refine (AllReadyH.cons rfl (fun K hK=>?_) AllReadyH.nil)
           ·
            obtain ⟨c0,c1,c2,c3,c4,c5⟩:=HX6.out.1
            simp only [Nat.zero_add] at c1 c2 c3 c4 c5
            go_simp
            clear c0 c1 c2 c3 c4 c5
            refine hK.out _ _ (hHeld) (fun hNext=>?_)
            clear hK K hHeld
            have hHeld:=hNext
            clear hNext
            refine wpAnyH_take (i:=20) (v:=?_) rfl (by kernel_rfl) (by kernel_rfl) (by kernel_rfl) (fun _ _ _ h=>h) (Or.inl ⟨by rfl,?_⟩) hHeld ?_
            rotate_left
            ·intro v9 hS9
             try dsimp only at hS9
             go_simp
             try with_reducible rfl
            try simp only [Act.put,List.setIfInBounds_toArray,List.set_cons_zero,List.set_cons_succ,List.getElem_toArray,List.getElem_cons_zero,List.getElem_cons_succ]
            refine wpAnyH_ready (rs:=[21]) (by kernel_rfl) (by simp) ?_
            refine (AllReadyH.cons rfl (fun K hK=>?_) AllReadyH.nil)
            obtain ⟨c0,c1,c2,c3,c4,c5⟩:=HX6.out.1
            simp only [Nat.zero_add] at c1 c2 c3 c4 c5
            have f0:=HX6.out.2 0
            have f1:=HX6.out.2 1
            have f2:=HX6.out.2 2
            have f3:=HX6.out.2 3
            have f4:=HX6.out.2 4
            have f5:=HX6.out.2 5
            go_simp
            have HKS:Kept (fun b=>b=wb.heap.size) wr (setNode w6 wb.heap.size 0 ⟨0,n.w,ay,0,0,0⟩):=setNode_keptS (S:=fun b=>b=wb.heap.size) (b:=wb.heap.size) (p:=0) (n:=⟨0,n.w,ay,0,0,0⟩) rfl hHeld
            have HNS:Hid (NodeAt (setNode w6 wb.heap.size 0 ⟨0,n.w,ay,0,0,0⟩) wb.heap.size 0 ⟨0,n.w,ay,0,0,0⟩):=setNode_same HX6.out.1
            clear c0 c1 c2 c3 c4 c5 f0 f1 f2 f3 f4 f5
            refine hK.out _ _ (HKS) (fun hNext=>?_)
            clear hK K hHeld
            have hHeld:=hNext
            clear hNext
            have HKS2:=hHeld
            clear HKS
            refine wpAnyH_done (by kernel_rfl) ?_ _
            clear hHeld
            go_wp2_with fail
            go_meet
            case rel=>exact ⟨rfl,HKS2,HNS.out⟩
        case rest =>
         obtain ⟨rfl,hkc,hnc⟩:=hcut
         have HOC:Hid (Own wc w.heap.size (.slice (some ⟨ob,oo,none⟩) L.length cv) L):=HOR.out.kept hkc (fun b hb e=>by have:=(HO.out.lt b hb).2;omega)
         have HBC:Hid (Below w.heap.size w wc):=HBR.out.trans (hkc.below (fun b (hb:b=_)=>by omega) hws)
         have hwc:w.heap.size<=wc.heap.size:=HBC.out.size
         clear c0 c1 c2 c3 c4 c5 hkc r0 z1 v0 v1 v2
         obtain ⟨c0,c1,c2,c3,c4,c5⟩:=hnc
         simp only [Nat.zero_add] at c1 c2 c3 c4 c5
         go_wp2_with (at_builtin;go_must (refine app_node _ rfl _ _ rfl w.heap.size (.slice (some ⟨ob,oo,none⟩) L.length cv) L ⟨0,n.w,ay,0,0,0⟩ rfl _ rfl rfl HOC.out hwc hLl ?_;intro g5 cp5 w5 ho5 hk5 hg5))
         have HO5:Hid (Own w5 w.heap.size (.slice (some ⟨g5,0,none⟩) (L.length+1) cp5) (L++[⟨0,n.w,ay,0,0,0⟩])):=ho5
         have HB5:Hid (Below w.heap.size w w5):=HBC.out.trans (hk5.below (fun b hb=>(HOC.out.lt b hb).1) hwc)
         clear ho5 hk5 hg5
         go_wp2
         go_roundw
         case rel=>exact ⟨k+1,by omega,by go_num,HB5.out,by rw [HSC.out,HCB.out,if_pos rfl,HCN.out];exact HO5.out⟩
         case measure=>simp [intOf];omega
   ·have e:k=l.length:=by omega
    subst e
    go_wp2_with fail
    rw [HLL.out]
    have HNV2:Hid (Calls Tryz.prog 30 #[.slice av l.length cv] wb fun e w'=>(∃ v,e=.returned v/\Own w' wb.heap.size v (pruneL (foldTo l l.length)))/\Below wb.heap.size wb w'):=by
     have h9:=sPrune wb av (foldTo l l.length) cv HNV.out
     rw [HLL.out] at h9
     exact h9
    refine (HNV2.out).mono ?_
    rintro e w5 ⟨⟨v5,rfl,ho5⟩,hb5⟩
    obtain ⟨a5,c5,rfl,hw5⟩:=ho5.form
    have HB5:Hid (Below w.heap.size w w5):=HB.out.trans (hb5.mono hbs)
    have HW5:Hid (WNodes w5 w.heap.size a5 (pruneL (foldTo l l.length))):=by
     obtain ⟨h1,h2⟩:=hw5
     refine ⟨h1,?_⟩
     rcases h2 with h0|⟨b2,o2,ha,hB,hcc,hf⟩
     ·exact .inl h0
     ·exact .inr ⟨b2,o2,ha,by omega,hcc,hf⟩
    have HC5:Hid ((pruneL (foldTo l l.length)).length<=c5):=by
     rcases ho5.2 with ⟨e,h0⟩|⟨g9,cap9,cur,e,_,_,hn,_⟩
     ·exact Nat.le_trans (Nat.le_of_eq h0) (Nat.zero_le _)
     ·simp only [Value.slice.injEq] at e
      show _<=_
      omega
    clear ho5 hw5 hb5
    go_wp2
    go_ret2
    rw [HT.out,HFL2.out]
    exact ⟨⟨_,_,rfl,HW5.out,HC5.out⟩,HB5.out⟩
end Am6
end Go.Proofs.YthanhcobfehmnaaGreat
