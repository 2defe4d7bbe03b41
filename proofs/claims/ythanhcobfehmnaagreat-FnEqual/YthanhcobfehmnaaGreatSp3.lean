import Derived.Deep.Light
import Derived.Test.YthanhcobfehmnaaGreatPkQU25
namespace Go.Proofs.YthanhcobfehmnaaGreat
set_option maxRecDepth 100000
set_option maxHeartbeats 8000000
set_option linter.unusedVariables false
namespace Sp3
open Go.RowKit
open Nd0 Nd1 Tm0 Ap0 Sp2 Pl1
open Ws1 (sWordOk)
theorem below_drewN {B:Nat} {u w:World} (h:Below B u w) (n:Nat):Below B u (w.drewN n):=⟨h.os,h.tape,h.output,h.size,h.block⟩
theorem sNode (w:World) (a:Option Addr) (l:List Nd) (c:Nat) (i:Nat) (hi:i < l.length) (hl:l.length<=100) (hN:Nodes w a l) (hw:∀ j,j < i->1<=(nth l j).w/\(nth l j).w<=8) :
 Calls Tryz.prog 42 #[.slice a l.length c,.int .i64 i] w fun e w'=>e=.returned (.bool (nodeOk l i))/\Below w.heap.size w w':=by
 have HN:Hid (Nodes w a l):=hN
 have HW:Hid (∀ j,j < i->1<=(nth l j).w/\(nth l j).w<=8):=hw
 rcases hN.2 with h0|⟨xb,xo,rfl,hc⟩
 ·omega
 obtain ⟨p0,p1,p2,p3,p4,p5⟩:=hc i hi
 rw [nth_get hi] at p0 p1 p2 p3 p4 p5
 clear hc hN hw
 generalize hn:nth l i=n at p0 p1 p2 p3 p4 p5
 have HD:Hid (nth l i=n):=hn
 clear hn
 have hiz:(i:Int) < (l.length:Int):=by omega
 go_enter Tryz.func42,Tryz.ntmps42
 go_wp2_with fail
 refine (sParts n _).mono ?_
 rintro e w1 ⟨⟨pa,pc,rfl,hpi⟩,hb1⟩
 have HP:Hid (WInts w1 (w.heap.size+1) pa (parts n)):=by
  have:=hpi
  simp at this
  exact this
 have HB:Hid (Below (w.heap.size+1) (w.alloc (.cells #[.int .i64 n.op,.int .i64 n.w,.int .i64 n.k,.int .i64 n.a,.int .i64 n.b,.int .i64 n.c] 44)) w1):=by
  have:=hb1
  simp at this
  exact this
 clear hpi hb1 p0 p1 p2 p3 p4 p5
 have hpl:=parts_le n
 go_wp2_with fail
 go_loop [7] (fun q=>∃ k:Nat,k<=(parts n).length/\q=.int .i64 k/\∀ j (hj:j < (parts n).length),j < k->0<=(parts n)[j]/\(parts n)[j] < i) (fun q=>(parts n).length - (intOf q).toNat)
 case atStart=>exact ⟨0,Nat.zero_le _,rfl,fun j hj x=>by omega⟩
 case round =>
  obtain ⟨k,hk,rfl,hall⟩:=hrel
  have HA:Hid (∀ j (hj:j < (parts n).length),j < k->0<=(parts n)[j]/\(parts n)[j] < i):=hall
  clear hall
  by_cases hlt:k < (parts n).length
  ·rcases HP.out.2 with h0|⟨pb,po,rfl,hpB,hpc⟩
   ·omega
   have q0:=(hpc k hlt).1
   have HQ:Hid ((parts n)[k]=(parts n)[k]):=rfl
   clear hpc HQ
   obtain ⟨x,hx⟩:∃ x:Int,x=(parts n)[k]:=⟨_,rfl⟩
   have HX:Hid (x=(parts n)[k]):=hx
   rw [<- hx] at q0
   clear hx
   have hlz:(k:Int) < ((parts n).length:Int):=by omega
   by_cases hr:0<=x/\x<=(i:Int) - 1
   ·have hd:decide (0<=x/\x<=(i:Int) - 1)=true:=by simpa using hr
    go_wp2_with (go_at_call 41;refine (sIn _ _ _ _).mono ?_;rintro e w' ⟨rfl,rfl⟩)
    go_round
    case rel =>
     refine ⟨k+1,by omega,by go_num,fun j hj hjk=>?_⟩
     by_cases e:j=k
     ·subst e
      rw [<- HX.out];omega
     ·exact HA.out j hj (by omega)
    case measure=>simp [intOf];omega
   ·have hd:decide (0<=x/\x<=(i:Int) - 1)=false:=by simpa using hr
    have HF:Hid (nodeOk l i=false):=node_bad_part k (by rw [HD.out];exact hlt) (by simp only [HD.out];rw [<- HX.out];omega)
    go_wp2_with (go_at_call 41;refine (sIn _ _ _ _).mono ?_;rintro e w' ⟨rfl,rfl⟩)
    go_ret
    exact ⟨ret_bool HF.out.symm,((Below.refl w.heap.size w).alloc (Nat.le_refl _) _).trans (HB.out.mono (by omega))⟩
  ·have HALL:Hid (∀ j (hj:j < (parts n).length),0<=(parts n)[j]/\(parts n)[j] < i):=fun j hj=>HA.out j hj (by omega)
   clear HA
   have b0:w1.cell? ⟨w.heap.size,0,none⟩=some (.int .i64 n.op):=by rw [HB.out.cell (by simp)];simp
   have b1:w1.cell? ⟨w.heap.size,1,none⟩=some (.int .i64 n.w):=by rw [HB.out.cell (by simp)];simp
   have b2:w1.cell? ⟨w.heap.size,2,none⟩=some (.int .i64 n.k):=by rw [HB.out.cell (by simp)];simp
   have b3:w1.cell? ⟨w.heap.size,3,none⟩=some (.int .i64 n.a):=by rw [HB.out.cell (by simp)];simp
   have b4:w1.cell? ⟨w.heap.size,4,none⟩=some (.int .i64 n.b):=by rw [HB.out.cell (by simp)];simp
   have b5:w1.cell? ⟨w.heap.size,5,none⟩=some (.int .i64 n.c):=by rw [HB.out.cell (by simp)];simp
   by_cases hnw:1<=n.w/\n.w<=8
   ·have hd:decide (1<=n.w/\n.w<=8)=true:=by simpa using hnw
    obtain ⟨hw1,hw2⟩:=hnw
    go_wp2_with (go_at_call 41;refine (sIn _ _ _ _).mono ?_;rintro e w' ⟨rfl,rfl⟩)
    have HWN:Hid (Nodes w' (some ⟨xb,xo,none⟩) l):=HN.out.below (((Below.refl w.heap.size w).alloc (Nat.le_refl _) _).trans (HB.out.mono (by omega)))
    go_loopw [8,9] (fun v q wr=>∃ k:Nat,k<=(parts n).length/\q=.int .i64 k/\Ows wr w'.heap.size v (((parts n).take k).map (width l))/\Below w'.heap.size w' wr) (fun _ q _=>(parts n).length - (intOf q).toNat)
    case atStart=>exact ⟨0,Nat.zero_le _,rfl,Ows.lit w' _ (Nat.le_refl _),(Below.refl _ _).alloc (Nat.le_refl _) _⟩
    case round =>
     obtain ⟨k2,hk2,rfl,hown,hbw⟩:=hrel
     by_cases hlt2:k2 < (parts n).length
     ·rcases HP.out.2 with h0|⟨pb,po,rfl,hpB,hpc⟩
      ·omega
      have q0:wr.cell? ⟨pb,po+k2,none⟩=some (.int .i64 (parts n)[k2]):=by
       rw [hbw.cell (lt_of_cell (hpc k2 hlt2).1)];exact (hpc k2 hlt2).1
      clear hpc
      have HT:Hid (((parts n).take (k2+1))=(parts n).take k2++[(parts n)[k2]]):=List.take_succ_eq_append_getElem hlt2
      obtain ⟨hx0,hx1⟩:=HALL.out k2 hlt2
      generalize (parts n)[k2]=x at q0 HT hx0 hx1
      have HLN:=HWN.out.below hbw
      rcases HLN.2 with h0|⟨yb,yo,hy,hyc⟩
      ·omega
      cases hy
      have r1:=(hyc x.toNat (by omega)).c1
      rw [nth_get (by omega:x.toNat < l.length)] at r1
      have r1':wr.cell? ⟨xb,xo+x.toNat*6+1,none⟩=some (.int .i64 (width l x)):=r1
      clear r1 hyc HLN
      generalize hwx:width l x=wx at r1'
      have HWX:Hid (width l x=wx):=hwx
      clear hwx
      have HO:Hid (Ows wr w'.heap.size _ (((parts n).take k2).map (width l))):=hown
      have HBW:Hid (Below w'.heap.size w' wr):=hbw
      have hBs:w'.heap.size<=wr.heap.size:=hbw.size
      have hlen:(((parts n).take k2).map (width l)).length=k2:=by simp;omega
      clear hown hbw
      have hlz2:(k2:Int) < ((parts n).length:Int):=by omega
      have hxz:x < (l.length:Int):=by omega
      go_wp2_with (at_builtin;go_must (refine app_int _ rfl _ _ rfl w'.heap.size u8 (((parts n).take k2).map (width l)) wx rfl rfl HO.out hBs (by omega) ?_;intro g cp w3 ho3 hk3 hg3))
      have HO3:Hid (Ows w3 w'.heap.size (.slice (some ⟨g,0,none⟩) ((((parts n).take k2).map (width l)).length+1) cp) (((parts n).take k2).map (width l)++[wx])):=ho3
      have HK3:Hid (Kept (fun k=>u8.ownBlock=some k) wr w3):=hk3
      clear ho3 hk3 hg3
      go_wp2
      go_roundw
      case rel =>
       refine ⟨k2+1,by omega,by go_num,?_,HBW.out.trans (HK3.out.below (fun k hk=>(HO.out.lt k hk).1) hBs)⟩
       rw [HT.out,List.map_append,List.map_cons,List.map_nil,HWX.out]
       have h9:=HO3.out
       rw [hlen] at h9
       exact h9
      case measure=>simp [intOf];omega
     ·have e2:k2=(parts n).length:=by omega
      subst e2
      rw [List.take_length] at hown
      have d0:wr.cell? ⟨w.heap.size,0,none⟩=some (.int .i64 n.op):=by rw [hbw.cell (lt_of_cell b0)];exact b0
      have d1:wr.cell? ⟨w.heap.size,1,none⟩=some (.int .i64 n.w):=by rw [hbw.cell (lt_of_cell b1)];exact b1
      have d2:wr.cell? ⟨w.heap.size,2,none⟩=some (.int .i64 n.k):=by rw [hbw.cell (lt_of_cell b2)];exact b2
      have d3:wr.cell? ⟨w.heap.size,3,none⟩=some (.int .i64 n.a):=by rw [hbw.cell (lt_of_cell b3)];exact b3
      have d4:wr.cell? ⟨w.heap.size,4,none⟩=some (.int .i64 n.b):=by rw [hbw.cell (lt_of_cell b4)];exact b4
      have d5:wr.cell? ⟨w.heap.size,5,none⟩=some (.int .i64 n.c):=by rw [hbw.cell (lt_of_cell b5)];exact b5
      clear b0 b1 b2 b3 b4 b5
      have HBW:Hid (Below w.heap.size w wr):=(((Below.refl w.heap.size w).alloc (Nat.le_refl _) _).trans (HB.out.mono (by omega))).trans (hbw.mono (by have:=HB.out.size;simp at this;omega))
      have HK:Hid (nodeOk l i=shapeOk n ((parts n).map (width l))):=by
       have h9:=node_kind (l:=l) (i:=i) (by rw [HD.out];exact HALL.out) (by rw [HD.out];exact ⟨hw1,hw2⟩)
       rw [HD.out] at h9
       exact h9
      obtain ⟨va,vc,rfl,hvi⟩:=hown.form
      clear hown hbw
      have HV:Hid (WInts wr w'.heap.size va ((parts n).map (width l))):=hvi
      clear hvi
      by_cases o0:n.op=0
      ·have hpa:parts n=[]:=parts_none (by omega) (by omega) (by omega)
       have HK2:Hid (nodeOk l i=(wok n.w n.k&&decide (n.a=0/\n.b=0/\n.c=0))):=by
        show nodeOk l i=_
        rw [HK.out];simp [shapeOk,o0]
       cases hwk:wok n.w n.k
       all_goals
        go_wp2_with (first|(go_at_call 41;refine (sIn _ _ _ _).mono ?_;rintro e w' ⟨rfl,rfl⟩)|(go_at_call 50;refine (sWordOk _ _ _).mono ?_;rintro e w' ⟨rfl,rfl⟩))
       all_goals
        go_ret
        refine ⟨ret_bool ?_,HBW.out⟩
        rw [HK2.out,Bool.eq_iff_iff]
        go_light
        simp_all<;>omega
      by_cases o1:n.op=1
      ·have hpa:parts n=[]:=parts_none (by omega) (by omega) (by omega)
       have HK2:Hid (nodeOk l i=decide (0<=n.k/\n.k<=7/\n.a=0/\n.b=0/\n.c=0)):=by
        show nodeOk l i=_
        rw [HK.out];simp [shapeOk,o1]
       by_cases hkk:0<=n.k/\n.k<=7
       all_goals
        have hdk:decide (0<=n.k/\n.k<=7)=decide (0<=n.k/\n.k<=7):=rfl
        simp only [hkk,decide_true,decide_false,and_self] at hdk
        clear hdk
        go_wp2_with (first|(go_at_call 41;refine (sIn _ _ _ _).mono ?_;rintro e w' ⟨rfl,rfl⟩)|(go_at_call 50;refine (sWordOk _ _ _).mono ?_;rintro e w' ⟨rfl,rfl⟩))
       all_goals
        go_ret
        refine ⟨ret_bool ?_,HBW.out⟩
        rw [HK2.out,Bool.eq_iff_iff]
        go_light
        simp_all<;>omega
      by_cases o2:n.op=2
      ·have hpa:parts n=[n.a]:=parts_one (.inl o2)
       rcases HV.out.2 with h0|⟨vb,vo,rfl,hvB,hvc⟩
       ·simp [hpa] at h0
       have e0:wr.cell? ⟨vb,vo,none⟩=some (.int .i64 (width l n.a)):=by
        have h9:=(hvc 0 (by simp [hpa])).1
        simpa [hpa] using h9
       have hz0:(0:Int) < (((parts n).map (width l)).length:Int):=by simp [hpa]
       clear hvc
       have HK2:Hid (nodeOk l i=decide (width l n.a=n.w/\n.k=0/\n.b=0/\n.c=0)):=by
        show nodeOk l i=_
        rw [HK.out];simp [shapeOk,o2,hpa]
       generalize width l n.a=x0 at e0 HK2
       go_wp2_with (first|(go_at_call 41;refine (sIn _ _ _ _).mono ?_;rintro e w' ⟨rfl,rfl⟩)|(go_at_call 50;refine (sWordOk _ _ _).mono ?_;rintro e w' ⟨rfl,rfl⟩))
       refine wp_region_quiet_lit (by kernel_rfl) (by kernel_rfl) ?_
       repeat (any_goals (first|go_big_quiet_step (fail)|quiet_step (fail)|(refine wpQuiet_step (fun K hK=>?_);go_simp;split<;>(refine hK _ ?_;clear hK K))))
       all_goals (refine wpQuiet_nil ?_;intro _ hw';obtain ⟨nq,hw''⟩:=hw';subst hw'')
       all_goals
        go_wp2
        go_ret
        refine ⟨ret_bool ?_,below_drewN HBW.out _⟩
        rw [HK2.out,Bool.eq_iff_iff]
        go_light
        simp_all<;>omega
      have t0:(n.op==0)=false:=by simp;omega
      have t1:(n.op==1)=false:=by simp;omega
      have t2:(n.op==2)=false:=by simp;omega
      by_cases o3:3<=n.op/\n.op<=12
      ·have hpa:parts n=[n.a,n.b]:=parts_two (by omega)
       have hd3:decide (3<=n.op/\n.op<=12)=true:=by simpa using o3
       rcases HV.out.2 with h0|⟨vb,vo,rfl,hvB,hvc⟩
       ·simp [hpa] at h0
       have e0:wr.cell? ⟨vb,vo,none⟩=some (.int .i64 (width l n.a)):=by
        have h9:=(hvc 0 (by simp [hpa])).1
        simpa [hpa] using h9
       have hz0:(0:Int) < (((parts n).map (width l)).length:Int):=by simp [hpa]
       have e1:wr.cell? ⟨vb,vo+1,none⟩=some (.int .i64 (width l n.b)):=by
        have h9:=(hvc 1 (by simp [hpa])).1
        simpa [hpa] using h9
       have hz1:(1:Int) < (((parts n).map (width l)).length:Int):=by simp [hpa]
       clear hvc
       have HK2:Hid (nodeOk l i=decide (width l n.a=n.w/\width l n.b=n.w/\n.k=0/\n.c=0)):=by
        show nodeOk l i=_
        rw [HK.out];unfold shapeOk;rw [if_neg o0,if_neg o1,if_neg o2,if_pos o3];simp [hpa]
       generalize width l n.a=x0 at e0 HK2
       generalize width l n.b=x1 at e1 HK2
       clear o3
       go_wp2_with (first|(go_at_call 41;refine (sIn _ _ _ _).mono ?_;rintro e w' ⟨rfl,rfl⟩)|(go_at_call 50;refine (sWordOk _ _ _).mono ?_;rintro e w' ⟨rfl,rfl⟩))
       refine wp_region_quiet_lit (by kernel_rfl) (by kernel_rfl) ?_
       repeat (any_goals (first|go_big_quiet_step (fail)|quiet_step (fail)|(refine wpQuiet_step (fun K hK=>?_);go_simp;split<;>(refine hK _ ?_;clear hK K))))
       all_goals (refine wpQuiet_nil ?_;intro _ hw';obtain ⟨nq,hw''⟩:=hw';subst hw'')
       all_goals
        go_wp2
        go_ret
        refine ⟨ret_bool ?_,below_drewN HBW.out _⟩
        rw [HK2.out,Bool.eq_iff_iff]
        go_light
        simp_all<;>omega
      have hd3:decide (3<=n.op/\n.op<=12)=false:=by simpa using o3
      by_cases o4:13<=n.op/\n.op<=15
      ·have hpa:parts n=[n.a,n.b]:=parts_two (by omega)
       have hd4:decide (13<=n.op/\n.op<=15)=true:=by simpa using o4
       rcases HV.out.2 with h0|⟨vb,vo,rfl,hvB,hvc⟩
       ·simp [hpa] at h0
       have e0:wr.cell? ⟨vb,vo,none⟩=some (.int .i64 (width l n.a)):=by
        have h9:=(hvc 0 (by simp [hpa])).1
        simpa [hpa] using h9
       have hz0:(0:Int) < (((parts n).map (width l)).length:Int):=by simp [hpa]
       have e1:wr.cell? ⟨vb,vo+1,none⟩=some (.int .i64 (width l n.b)):=by
        have h9:=(hvc 1 (by simp [hpa])).1
        simpa [hpa] using h9
       have hz1:(1:Int) < (((parts n).map (width l)).length:Int):=by simp [hpa]
       clear hvc
       have HK2:Hid (nodeOk l i=decide (width l n.a=width l n.b/\n.w=1/\n.k=0/\n.c=0)):=by
        show nodeOk l i=_
        rw [HK.out];unfold shapeOk;rw [if_neg o0,if_neg o1,if_neg o2,if_neg o3,if_pos o4];simp [hpa]
       generalize width l n.a=x0 at e0 HK2
       generalize width l n.b=x1 at e1 HK2
       clear o4
       go_wp2_with (first|(go_at_call 41;refine (sIn _ _ _ _).mono ?_;rintro e w' ⟨rfl,rfl⟩)|(go_at_call 50;refine (sWordOk _ _ _).mono ?_;rintro e w' ⟨rfl,rfl⟩))
       refine wp_region_quiet_lit (by kernel_rfl) (by kernel_rfl) ?_
       repeat (any_goals (first|go_big_quiet_step (fail)|quiet_step (fail)|(refine wpQuiet_step (fun K hK=>?_);go_simp;split<;>(refine hK _ ?_;clear hK K))))
       all_goals (refine wpQuiet_nil ?_;intro _ hw';obtain ⟨nq,hw''⟩:=hw';subst hw'')
       all_goals
        go_wp2
        go_ret
        refine ⟨ret_bool ?_,below_drewN HBW.out _⟩
        rw [HK2.out,Bool.eq_iff_iff]
        go_light
        simp_all<;>omega
      have hd4:decide (13<=n.op/\n.op<=15)=false:=by simpa using o4
      by_cases o5:n.op=16
      ·have hpa:parts n=[n.a,n.b]:=parts_two (by omega)
       rcases HV.out.2 with h0|⟨vb,vo,rfl,hvB,hvc⟩
       ·simp [hpa] at h0
       have e0:wr.cell? ⟨vb,vo,none⟩=some (.int .i64 (width l n.a)):=by
        have h9:=(hvc 0 (by simp [hpa])).1
        simpa [hpa] using h9
       have hz0:(0:Int) < (((parts n).map (width l)).length:Int):=by simp [hpa]
       have e1:wr.cell? ⟨vb,vo+1,none⟩=some (.int .i64 (width l n.b)):=by
        have h9:=(hvc 1 (by simp [hpa])).1
        simpa [hpa] using h9
       have hz1:(1:Int) < (((parts n).map (width l)).length:Int):=by simp [hpa]
       clear hvc
       have HK2:Hid (nodeOk l i=decide (width l n.a+width l n.b=n.w/\n.k=0/\n.c=0)):=by
        show nodeOk l i=_
        rw [HK.out];unfold shapeOk;rw [if_neg o0,if_neg o1,if_neg o2,if_neg o3,if_neg o4,if_pos o5];simp [hpa]
       have HWd0:=HALL.out 0 (by simp [hpa])
       have HWd1:=HALL.out 1 (by simp [hpa])
       have hwb0:=HW.out (n.a).toNat (by simp [hpa] at HWd0;omega)
       have hwc0:1<=width l n.a/\width l n.a<=8:=hwb0
       have hwb1:=HW.out (n.b).toNat (by simp [hpa] at HWd1;omega)
       have hwc1:1<=width l n.b/\width l n.b<=8:=hwb1
       clear HWd0 hwb0 HWd1 hwb1
       obtain ⟨hwl0,hwu0⟩:=hwc0
       obtain ⟨hwl1,hwu1⟩:=hwc1
       generalize width l n.a=x0 at e0 HK2 hwl0 hwu0
       generalize width l n.b=x1 at e1 HK2 hwl1 hwu1
       clear t0 t1 t2 hd3 hd4
       go_wp2_with (first|(go_at_call 41;refine (sIn _ _ _ _).mono ?_;rintro e w' ⟨rfl,rfl⟩)|(go_at_call 50;refine (sWordOk _ _ _).mono ?_;rintro e w' ⟨rfl,rfl⟩))
       refine wp_region_quiet_lit (by kernel_rfl) (by kernel_rfl) ?_
       repeat (any_goals (first|go_big_quiet_step (fail)|quiet_step (fail)|(refine wpQuiet_step (fun K hK=>?_);go_simp;split<;>(refine hK _ ?_;clear hK K))))
       all_goals (refine wpQuiet_nil ?_;intro _ hw';obtain ⟨nq,hw''⟩:=hw';subst hw'')
       all_goals
        go_wp2
        go_ret
        refine ⟨ret_bool ?_,below_drewN HBW.out _⟩
        rw [HK2.out,Bool.eq_iff_iff]
        go_light
        simp_all<;>omega
      by_cases o6:n.op=17
      ·have hpa:parts n=[n.a]:=parts_one (by omega)
       rcases HV.out.2 with h0|⟨vb,vo,rfl,hvB,hvc⟩
       ·simp [hpa] at h0
       have e0:wr.cell? ⟨vb,vo,none⟩=some (.int .i64 (width l n.a)):=by
        have h9:=(hvc 0 (by simp [hpa])).1
        simpa [hpa] using h9
       have hz0:(0:Int) < (((parts n).map (width l)).length:Int):=by simp [hpa]
       clear hvc
       have HK2:Hid (nodeOk l i=decide (0<=n.k/\n.k<=width l n.a - n.w/\n.b=0/\n.c=0)):=by
        show nodeOk l i=_
        rw [HK.out];unfold shapeOk;rw [if_neg o0,if_neg o1,if_neg o2,if_neg o3,if_neg o4,if_neg o5,if_pos o6];simp [hpa]
       have HWd0:=HALL.out 0 (by simp [hpa])
       have hwb0:=HW.out (n.a).toNat (by simp [hpa] at HWd0;omega)
       have hwc0:1<=width l n.a/\width l n.a<=8:=hwb0
       clear HWd0 hwb0
       obtain ⟨hwl0,hwu0⟩:=hwc0
       generalize width l n.a=x0 at e0 HK2 hwl0 hwu0
       clear t0 t1 t2 hd3 hd4
       go_wp2_with (first|(go_at_call 41;refine (sIn _ _ _ _).mono ?_;rintro e w' ⟨rfl,rfl⟩)|(go_at_call 50;refine (sWordOk _ _ _).mono ?_;rintro e w' ⟨rfl,rfl⟩))
       refine wp_region_quiet_lit (by kernel_rfl) (by kernel_rfl) ?_
       repeat (any_goals (first|go_big_quiet_step (fail)|quiet_step (fail)|(refine wpQuiet_step (fun K hK=>?_);go_simp;split<;>(refine hK _ ?_;clear hK K))))
       all_goals (refine wpQuiet_nil ?_;intro _ hw';obtain ⟨nq,hw''⟩:=hw';subst hw'')
       all_goals
        go_wp2
        go_ret
        refine ⟨ret_bool ?_,below_drewN HBW.out _⟩
        rw [HK2.out,Bool.eq_iff_iff]
        go_light
        simp_all<;>omega
      by_cases o7:n.op=18
      ·have hpa:parts n=[n.a,n.b,n.c]:=parts_three o7
       rcases HV.out.2 with h0|⟨vb,vo,rfl,hvB,hvc⟩
       ·simp [hpa] at h0
       have e0:wr.cell? ⟨vb,vo,none⟩=some (.int .i64 (width l n.a)):=by
        have h9:=(hvc 0 (by simp [hpa])).1
        simpa [hpa] using h9
       have hz0:(0:Int) < (((parts n).map (width l)).length:Int):=by simp [hpa]
       have e1:wr.cell? ⟨vb,vo+1,none⟩=some (.int .i64 (width l n.b)):=by
        have h9:=(hvc 1 (by simp [hpa])).1
        simpa [hpa] using h9
       have hz1:(1:Int) < (((parts n).map (width l)).length:Int):=by simp [hpa]
       have e2:wr.cell? ⟨vb,vo+2,none⟩=some (.int .i64 (width l n.c)):=by
        have h9:=(hvc 2 (by simp [hpa])).1
        simpa [hpa] using h9
       have hz2:(2:Int) < (((parts n).map (width l)).length:Int):=by simp [hpa]
       clear hvc
       have HK2:Hid (nodeOk l i=decide (width l n.a=1/\width l n.b=n.w/\width l n.c=n.w/\n.k=0)):=by
        show nodeOk l i=_
        rw [HK.out];unfold shapeOk;rw [if_neg o0,if_neg o1,if_neg o2,if_neg o3,if_neg o4,if_neg o5,if_neg o6,if_pos o7];simp [hpa]
       generalize width l n.a=x0 at e0 HK2
       generalize width l n.b=x1 at e1 HK2
       generalize width l n.c=x2 at e2 HK2
       clear t0 t1 t2 hd3 hd4
       go_wp2_with (first|(go_at_call 41;refine (sIn _ _ _ _).mono ?_;rintro e w' ⟨rfl,rfl⟩)|(go_at_call 50;refine (sWordOk _ _ _).mono ?_;rintro e w' ⟨rfl,rfl⟩))
       refine wp_region_quiet_lit (by kernel_rfl) (by kernel_rfl) ?_
       repeat (any_goals (first|go_big_quiet_step (fail)|quiet_step (fail)|(refine wpQuiet_step (fun K hK=>?_);go_simp;split<;>(refine hK _ ?_;clear hK K))))
       all_goals (refine wpQuiet_nil ?_;intro _ hw';obtain ⟨nq,hw''⟩:=hw';subst hw'')
       all_goals
        go_wp2
        go_ret
        refine ⟨ret_bool ?_,below_drewN HBW.out _⟩
        rw [HK2.out,Bool.eq_iff_iff]
        go_light
        simp_all<;>omega
      by_cases o8:n.op=19\/n.op=20
      ·have hpa:parts n=[n.a]:=parts_one (by omega)
       rcases HV.out.2 with h0|⟨vb,vo,rfl,hvB,hvc⟩
       ·simp [hpa] at h0
       have e0:wr.cell? ⟨vb,vo,none⟩=some (.int .i64 (width l n.a)):=by
        have h9:=(hvc 0 (by simp [hpa])).1
        simpa [hpa] using h9
       have hz0:(0:Int) < (((parts n).map (width l)).length:Int):=by simp [hpa]
       clear hvc
       have HK2:Hid (nodeOk l i=decide (0<=n.k/\n.k<=7/\1<=n.b/\n.b<=8/\width l n.a=1/\n.w=1/\n.c=0)):=by
        show nodeOk l i=_
        rw [HK.out];unfold shapeOk;rw [if_neg o0,if_neg o1,if_neg o2,if_neg o3,if_neg o4,if_neg o5,if_neg o6,if_neg o7,if_pos o8];simp [hpa]
       generalize width l n.a=x0 at e0 HK2
       clear t0 t1 t2 hd3 hd4
       by_cases hkk:0<=n.k/\n.k<=7
       ·have hdk:decide (0<=n.k/\n.k<=7)=true:=by simpa using hkk
        by_cases hbb:1<=n.b/\n.b<=8
        ·have hdb:decide (1<=n.b/\n.b<=8)=true:=by simpa using hbb
         rcases o8 with o8|o8
         all_goals
          go_wp2_with (first|(go_at_call 41;refine (sIn _ _ _ _).mono ?_;rintro e w' ⟨rfl,rfl⟩)|(go_at_call 50;refine (sWordOk _ _ _).mono ?_;rintro e w' ⟨rfl,rfl⟩))
         all_goals
          go_ret
          refine ⟨ret_bool ?_,HBW.out⟩
          rw [HK2.out,Bool.eq_iff_iff]
          go_light
          simp_all<;>omega
        ·have hdb:decide (1<=n.b/\n.b<=8)=false:=by simpa using hbb
         rcases o8 with o8|o8
         all_goals
          go_wp2_with (first|(go_at_call 41;refine (sIn _ _ _ _).mono ?_;rintro e w' ⟨rfl,rfl⟩)|(go_at_call 50;refine (sWordOk _ _ _).mono ?_;rintro e w' ⟨rfl,rfl⟩))
         all_goals
          go_ret
          refine ⟨ret_bool ?_,HBW.out⟩
          rw [HK2.out,Bool.eq_iff_iff]
          go_light
          simp_all<;>omega
       ·have hdk:decide (0<=n.k/\n.k<=7)=false:=by simpa using hkk
        rcases o8 with o8|o8
        all_goals
         go_wp2_with (first|(go_at_call 41;refine (sIn _ _ _ _).mono ?_;rintro e w' ⟨rfl,rfl⟩)|(go_at_call 50;refine (sWordOk _ _ _).mono ?_;rintro e w' ⟨rfl,rfl⟩))
        all_goals
         go_ret
         refine ⟨ret_bool ?_,HBW.out⟩
         rw [HK2.out,Bool.eq_iff_iff]
         go_light
         simp_all<;>omega
      have t16:(n.op==16)=false:=by simp;omega
      have t17:(n.op==17)=false:=by simp;omega
      have t18:(n.op==18)=false:=by simp;omega
      have t19:(n.op==19)=false:=by simp;omega
      have t20:(n.op==20)=false:=by simp;omega
      have HK2:Hid (nodeOk l i=false):=by
       show nodeOk l i=_
       rw [HK.out];unfold shapeOk;rw [if_neg o0,if_neg o1,if_neg o2,if_neg o3,if_neg o4,if_neg o5,if_neg o6,if_neg o7,if_neg o8]
      clear o0 o1 o2 o3 o4 o5 o6 o7 o8
      go_wp2_with (first|(go_at_call 41;refine (sIn _ _ _ _).mono ?_;rintro e w' ⟨rfl,rfl⟩)|(go_at_call 50;refine (sWordOk _ _ _).mono ?_;rintro e w' ⟨rfl,rfl⟩))
      go_ret
      exact ⟨ret_bool HK2.out.symm,HBW.out⟩
   ·have hd:decide (1<=n.w/\n.w<=8)=false:=by simpa using hnw
    have HF:Hid (nodeOk l i=false):=node_bad_width (by rw [HD.out];exact hnw)
    go_wp2_with (go_at_call 41;refine (sIn _ _ _ _).mono ?_;rintro e w' ⟨rfl,rfl⟩)
    go_ret
    exact ⟨ret_bool HF.out.symm,((Below.refl w.heap.size w).alloc (Nat.le_refl _) _).trans (HB.out.mono (by omega))⟩
end Sp3
end Go.Proofs.YthanhcobfehmnaaGreat
