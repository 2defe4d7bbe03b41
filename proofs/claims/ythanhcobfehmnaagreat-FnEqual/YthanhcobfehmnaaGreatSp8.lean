import Derived.Test.YthanhcobfehmnaaGreatSp7
import Derived.Test.YthanhcobfehmnaaGreatPkQU29
namespace Go.Proofs.YthanhcobfehmnaaGreat
set_option maxRecDepth 100000
set_option maxHeartbeats 8000000
set_option linter.unusedVariables false
namespace Sp8
open Go.RowKit
open Nd0 Nd1 Tm0 Tm1 Tm4 Ap1 Ap3 Sp2
open Sp7 (nodeAt_of)
theorem sFreeTop (w:World) (a:Option Addr) (l:List Nd) (c:Nat) (hN:Nodes w a l) (hT:termOk l=true) :
 Calls Tryz.prog 111 #[.slice a l.length c] w fun e w'=>(∃ g c',e=.returned (.slice (some ⟨g,0,none⟩) 8 c')/\g < w'.heap.size/\∀ x,x < 8->w'.cell? ⟨g,x,none⟩=some (.bool (flag (freeTop l) x)))/\Below w.heap.size w w':=by
 have HN:Hid (Nodes w a l):=hN
 have HT:Hid (termOk l=true):=hT
 obtain ⟨hl1,hl2⟩:=term_len hT
 rcases hN.2 with h0|⟨xb,xo,rfl,hxc⟩
 ·omega
 clear hN hT hxc
 go_enter Tryz.func111,Tryz.ntmps111
 go_wp2
 go_loopw [3,4] (fun va q wr=>∃ k:Nat,k<=l.length/\q=.int .i64 k/\Below w.heap.size w wr/\∃ ga ca vs,va=.slice (some ⟨ga,0,none⟩) k ca/\Owv wr w.heap.size va vs/\Rws wr va vs (freeRows l k)) (fun _ q _=>l.length - (intOf q).toNat)
 case atStart=>exact ⟨0,Nat.zero_le _,rfl,(Below.refl _ _).alloc (Nat.le_refl _) _,_,_,[],rfl,Owv.lit w _ (Nat.le_refl _),rfl,fun j hj=>absurd hj (Nat.not_lt_zero _)⟩
 case round =>
  obtain ⟨k,hk,rfl,hb,ga,ca,vs,rfl,hov,hrw⟩:=hrel
  have hrl:(freeRows l k).length=k:=freeRows_length l k
  have hvl:vs.length=k:=by rw [hrw.1,hrl]
  have HB:Hid (Below w.heap.size w wr):=hb
  have HV:Hid (Owv wr w.heap.size (.slice (some ⟨ga,0,none⟩) k ca) vs):=hov
  have HR:Hid (Rws wr (.slice (some ⟨ga,0,none⟩) k ca) vs (freeRows l k)):=hrw
  have hbs:w.heap.size<=wr.heap.size:=hb.size
  clear hov hrw
  by_cases hlt:k < l.length
  ·have hlz:(k:Int) < (l.length:Int):=by omega
   have HSC:Hid (freeRows l (k+1)=freeRows l k++[freeRow (freeRows l k) (nth l k)]):=rfl
   have HPO0:=parts_ok (term_node HT.out hlt)
   have hq:=nodeAt_of (HN.out.below hb) hlt
   clear hb
   generalize freeRows l k=rows at HR HSC hrl
   generalize hnd:nth l k=n at HSC HPO0 hq
   clear hnd
   have HPO:Hid (∀ j (hj:j < (parts n).length),0<=(parts n)[j]/\(parts n)[j] < k):=HPO0
   clear HPO0
   have HQ:Hid (NodeAt wr xb (xo+k*6) n):=hq
   clear hq
   obtain ⟨wi,rfl⟩:∃ wi:World,wi=wr:=⟨_,rfl⟩
   go_wp2
   go_loopw [5,6] (fun vis q wr=>∃ v:Nat,v<=8/\q=.int .i64 v/\Owb wr wi.heap.size vis ((freeRow rows n).take v)/\Below wi.heap.size wi wr) (fun _ q _=>8 - (intOf q).toNat)
   case atStart=>exact ⟨0,Nat.zero_le _,rfl,Owb.lit wi _ (Nat.le_refl _),(Below.refl _ _).alloc (Nat.le_refl _) _⟩
   case round =>
    obtain ⟨v,hv,rfl,ho2,hb2⟩:=hrel
    obtain ⟨wo,rfl⟩:∃ wo:World,wo=wr:=⟨_,rfl⟩
    have HO2:Hid (Owb wo wi.heap.size u5 ((freeRow rows n).take v)):=ho2
    have HB2:Hid (Below wi.heap.size wi wo):=hb2
    by_cases hv8:v < 8
    ·obtain ⟨q0,q1,q2,q3,q4,q5⟩:=HQ.out.below hb2 HQ.out.lt
     clear ho2 hb2
     have hvz:(v:Int) < 8:=by omega
     have hcases:((n.op==1)=true/\(n.op==19)=false/\(n.op==20)=false/\(n.k==(v:Int))=true)\/((n.op==1)=true/\(n.op==19)=false/\(n.op==20)=false/\(n.k==(v:Int))=false)\/((n.op==1)=false/\(n.op==19)=true/\(n.op==20)=false/\(n.k==(v:Int))=true)\/((n.op==1)=false/\(n.op==19)=true/\(n.op==20)=false/\(n.k==(v:Int))=false)\/((n.op==1)=false/\(n.op==19)=false/\(n.op==20)=true/\(n.k==(v:Int))=true)\/((n.op==1)=false/\(n.op==19)=false/\(n.op==20)=true/\(n.k==(v:Int))=false)\/((n.op==1)=false/\(n.op==19)=false/\(n.op==20)=false/\(n.k==(v:Int))=true)\/((n.op==1)=false/\(n.op==19)=false/\(n.op==20)=false/\(n.k==(v:Int))=false):=by
      cases h1:(n.op==1)<;>cases h2:(n.op==19)<;>cases h3:(n.op==20)<;>cases h4:(n.k==(v:Int))<;>simp_all
     rcases hcases with ⟨t1,t19,t20,tk⟩|⟨t1,t19,t20,tk⟩|⟨t1,t19,t20,tk⟩|⟨t1,t19,t20,tk⟩|⟨t1,t19,t20,tk⟩|⟨t1,t19,t20,tk⟩|⟨t1,t19,t20,tk⟩|⟨t1,t19,t20,tk⟩
     ·have HFA:Hid (freeAt rows n v=true):=by
       show freeAt rows n v=_
       unfold freeAt
       rw [t1,t19,t20,tk]
       rfl
      go_wp2_with fail
      refine (sParts n _).mono ?_
      rintro e w4 ⟨⟨pa,pc,rfl,hpi⟩,hb4⟩
      have HP:Hid (WInts w4 wo.heap.size pa (parts n)):=hpi
      have HB4:Hid (Below wi.heap.size wi w4):=HB2.out.trans (hb4.mono HB2.out.size)
      have HO4:Hid (Owb w4 wi.heap.size u5 ((freeRow rows n).take v)):=HO2.out.kept (S:=fun _=>False) (Kept.ofBelow hb4) (fun _ _ h=>h)
      have HV4:Hid (Owv w4 w.heap.size (.slice (some ⟨ga,0,none⟩) k ca) vs):=HV.out.kept (S:=fun _=>False) (Kept.ofBelow HB4.out) (fun _ _ h=>h)
      have HR4:Hid (Rws w4 (.slice (some ⟨ga,0,none⟩) k ca) vs rows):=HR.out.below HB4.out
      have hs4:wi.heap.size<=w4.heap.size:=HB4.out.size
      have e0:w4.cell? ⟨xb,xo+k*6,none⟩=some (.int .i64 n.op):=by rw [hb4.cell (lt_of_cell q0)];exact q0
      have e2:w4.cell? ⟨xb,xo+k*6+2,none⟩=some (.int .i64 n.k):=by rw [hb4.cell (lt_of_cell q2)];exact q2
      clear hpi hb4 q0 q1 q2 q3 q4 q5
      have hpl:=parts_le n
      go_wp2_with fail
      go_loop [7,9] (fun f q=>∃ j:Nat,j<=(parts n).length/\q=.int .i64 j/\f=.bool true) (fun _ q=>(parts n).length - (intOf q).toNat)
      case atStart=>exact ⟨0,Nat.zero_le _,rfl,rfl⟩
      case round =>
       obtain ⟨j,hj,rfl,rfl⟩:=hrel
       by_cases hlj:j < (parts n).length
       ·have hljz:(j:Int) < ((parts n).length:Int):=by omega
        go_wp2
        go_round
        case rel=>exact ⟨j+1,by omega,by go_num,rfl⟩
        case measure=>simp [intOf];omega
       ·have ej:j=(parts n).length:=by omega
        subst ej
        have htl:((freeRow rows n).take v).length=v:=by rw [List.length_take,freeRow_length];omega
        go_wp2_with (at_builtin;go_must (refine app_bool _ rfl _ _ rfl wi.heap.size u5 ((freeRow rows n).take v) _ rfl rfl HO4.out hs4 (by omega) ?_;intro g cp w5 ho5 hk5 hg5))
        have HO5:Hid (Owb w5 wi.heap.size (.slice (some ⟨g,0,none⟩) (((freeRow rows n).take v).length+1) cp) ((freeRow rows n).take v++[true])):=ho5
        have HB5:Hid (Below wi.heap.size wi w5):=HB4.out.trans (hk5.below (fun b hb=>(HO4.out.lt b hb).1) hs4)
        clear ho5 hk5 hg5
        go_wp2
        go_roundw
        case rel =>
         refine ⟨v+1,by omega,by go_num,?_,HB5.out⟩
         rw [freeRow_take rows n v hv8,HFA.out]
         have h9:=HO5.out
         rw [htl] at h9
         exact h9
        case measure=>simp [intOf];omega
     ·have HFA:Hid (freeAt rows n v=(false||inParts rows (parts n) v)):=by
       show freeAt rows n v=_
       unfold freeAt
       rw [t1,t19,t20,tk]
       rfl
      go_wp2_with fail
      refine (sParts n _).mono ?_
      rintro e w4 ⟨⟨pa,pc,rfl,hpi⟩,hb4⟩
      have HP:Hid (WInts w4 wo.heap.size pa (parts n)):=hpi
      have HB4:Hid (Below wi.heap.size wi w4):=HB2.out.trans (hb4.mono HB2.out.size)
      have HO4:Hid (Owb w4 wi.heap.size u5 ((freeRow rows n).take v)):=HO2.out.kept (S:=fun _=>False) (Kept.ofBelow hb4) (fun _ _ h=>h)
      have HV4:Hid (Owv w4 w.heap.size (.slice (some ⟨ga,0,none⟩) k ca) vs):=HV.out.kept (S:=fun _=>False) (Kept.ofBelow HB4.out) (fun _ _ h=>h)
      have HR4:Hid (Rws w4 (.slice (some ⟨ga,0,none⟩) k ca) vs rows):=HR.out.below HB4.out
      have hs4:wi.heap.size<=w4.heap.size:=HB4.out.size
      have e0:w4.cell? ⟨xb,xo+k*6,none⟩=some (.int .i64 n.op):=by rw [hb4.cell (lt_of_cell q0)];exact q0
      have e2:w4.cell? ⟨xb,xo+k*6+2,none⟩=some (.int .i64 n.k):=by rw [hb4.cell (lt_of_cell q2)];exact q2
      clear hpi hb4 q0 q1 q2 q3 q4 q5
      have hpl:=parts_le n
      go_wp2_with fail
      go_loop [7,9] (fun f q=>∃ j:Nat,j<=(parts n).length/\q=.int .i64 j/\f=.bool (false||inParts rows ((parts n).take j) v)) (fun _ q=>(parts n).length - (intOf q).toNat)
      case atStart=>exact ⟨0,Nat.zero_le _,rfl,rfl⟩
      case round =>
       obtain ⟨j,hj,rfl,rfl⟩:=hrel
       by_cases hlj:j < (parts n).length
       ·have hljz:(j:Int) < ((parts n).length:Int):=by omega
        have HST:Hid (inParts rows ((parts n).take (j+1)) v=(inParts rows ((parts n).take j) v||flag (row rows (parts n)[j]) v)):=inParts_take rows (parts n) v j hlj
        cases hcur:(false||inParts rows ((parts n).take j) v)
        ·rcases HP.out.2 with h0|⟨pb,po,rfl,hpB,hpc⟩
         ·omega
         have r0:=(hpc j hlj).1
         obtain ⟨hx0,hx1⟩:=HPO.out j hlj
         clear hpc
         generalize (parts n)[j]=x at r0 hx0 hx1 HST
         obtain ⟨gr,cr,hr1,hr2,hr3,hr4⟩:=HR4.out.2 x.toNat (by rw [hrl];omega)
         have r1:w4.cell? ⟨ga,x.toNat,none⟩=some (.slice (some ⟨gr,0,none⟩) 8 cr):=by
          obtain ⟨g9,c9,hv9,hc9⟩:=HV4.out.at (by rw [hvl];omega)
          cases hv9
          rw [hc9 x.toNat (by rw [hvl];omega)];exact hr1
         have r2:w4.cell? ⟨gr,v,none⟩=some (.bool (flag (row rows x) v)):=hr4 v hv8
         clear hr1 hr2 hr3 hr4
         have hxz:x < (k:Int):=hx1
         go_wp2
         go_round
         case rel =>
          refine ⟨j+1,by omega,by go_num,?_⟩
          rw [HST.out]
          simp at hcur
          simp [hcur]
         case measure=>simp [intOf];omega
        ·go_wp2
         go_round
         case rel =>
          refine ⟨j+1,by omega,by go_num,?_⟩
          rw [HST.out,<- Bool.or_assoc,hcur];rfl
         case measure=>simp [intOf];omega
       ·have ej:j=(parts n).length:=by omega
        subst ej
        rw [List.take_length]
        have htl:((freeRow rows n).take v).length=v:=by rw [List.length_take,freeRow_length];omega
        go_wp2_with (at_builtin;go_must (refine app_bool _ rfl _ _ rfl wi.heap.size u5 ((freeRow rows n).take v) _ rfl rfl HO4.out hs4 (by omega) ?_;intro g cp w5 ho5 hk5 hg5))
        have HO5:Hid (Owb w5 wi.heap.size (.slice (some ⟨g,0,none⟩) (((freeRow rows n).take v).length+1) cp) ((freeRow rows n).take v++[(false||inParts rows (parts n) v)])):=ho5
        have HB5:Hid (Below wi.heap.size wi w5):=HB4.out.trans (hk5.below (fun b hb=>(HO4.out.lt b hb).1) hs4)
        clear ho5 hk5 hg5
        go_wp2
        go_roundw
        case rel =>
         refine ⟨v+1,by omega,by go_num,?_,HB5.out⟩
         rw [freeRow_take rows n v hv8,HFA.out]
         have h9:=HO5.out
         rw [htl] at h9
         exact h9
        case measure=>simp [intOf];omega
     ·have HFA:Hid (freeAt rows n v=false):=by
       show freeAt rows n v=_
       unfold freeAt
       rw [t1,t19,t20,tk]
       rfl
      go_wp2_with fail
      refine (sParts n _).mono ?_
      rintro e w4 ⟨⟨pa,pc,rfl,hpi⟩,hb4⟩
      have HP:Hid (WInts w4 wo.heap.size pa (parts n)):=hpi
      have HB4:Hid (Below wi.heap.size wi w4):=HB2.out.trans (hb4.mono HB2.out.size)
      have HO4:Hid (Owb w4 wi.heap.size u5 ((freeRow rows n).take v)):=HO2.out.kept (S:=fun _=>False) (Kept.ofBelow hb4) (fun _ _ h=>h)
      have HV4:Hid (Owv w4 w.heap.size (.slice (some ⟨ga,0,none⟩) k ca) vs):=HV.out.kept (S:=fun _=>False) (Kept.ofBelow HB4.out) (fun _ _ h=>h)
      have HR4:Hid (Rws w4 (.slice (some ⟨ga,0,none⟩) k ca) vs rows):=HR.out.below HB4.out
      have hs4:wi.heap.size<=w4.heap.size:=HB4.out.size
      have e0:w4.cell? ⟨xb,xo+k*6,none⟩=some (.int .i64 n.op):=by rw [hb4.cell (lt_of_cell q0)];exact q0
      have e2:w4.cell? ⟨xb,xo+k*6+2,none⟩=some (.int .i64 n.k):=by rw [hb4.cell (lt_of_cell q2)];exact q2
      clear hpi hb4 q0 q1 q2 q3 q4 q5
      have hpl:=parts_le n
      go_wp2_with fail
      go_loop [7,9] (fun f q=>∃ j:Nat,j<=(parts n).length/\q=.int .i64 j/\f=.bool (false||inParts rows ((parts n).take j) v)) (fun _ q=>(parts n).length - (intOf q).toNat)
      case atStart=>exact ⟨0,Nat.zero_le _,rfl,rfl⟩
      case round =>
       obtain ⟨j,hj,rfl,rfl⟩:=hrel
       by_cases hlj:j < (parts n).length
       ·have hljz:(j:Int) < ((parts n).length:Int):=by omega
        have HST:Hid (inParts rows ((parts n).take (j+1)) v=(inParts rows ((parts n).take j) v||flag (row rows (parts n)[j]) v)):=inParts_take rows (parts n) v j hlj
        cases hcur:(false||inParts rows ((parts n).take j) v)
        ·rcases HP.out.2 with h0|⟨pb,po,rfl,hpB,hpc⟩
         ·omega
         have r0:=(hpc j hlj).1
         obtain ⟨hx0,hx1⟩:=HPO.out j hlj
         clear hpc
         generalize (parts n)[j]=x at r0 hx0 hx1 HST
         obtain ⟨gr,cr,hr1,hr2,hr3,hr4⟩:=HR4.out.2 x.toNat (by rw [hrl];omega)
         have r1:w4.cell? ⟨ga,x.toNat,none⟩=some (.slice (some ⟨gr,0,none⟩) 8 cr):=by
          obtain ⟨g9,c9,hv9,hc9⟩:=HV4.out.at (by rw [hvl];omega)
          cases hv9
          rw [hc9 x.toNat (by rw [hvl];omega)];exact hr1
         have r2:w4.cell? ⟨gr,v,none⟩=some (.bool (flag (row rows x) v)):=hr4 v hv8
         clear hr1 hr2 hr3 hr4
         have hxz:x < (k:Int):=hx1
         go_wp2
         go_round
         case rel =>
          refine ⟨j+1,by omega,by go_num,?_⟩
          rw [HST.out]
          simp at hcur
          simp [hcur]
         case measure=>simp [intOf];omega
        ·go_wp2
         go_round
         case rel =>
          refine ⟨j+1,by omega,by go_num,?_⟩
          rw [HST.out,<- Bool.or_assoc,hcur];rfl
         case measure=>simp [intOf];omega
       ·have ej:j=(parts n).length:=by omega
        subst ej
        rw [List.take_length]
        have htl:((freeRow rows n).take v).length=v:=by rw [List.length_take,freeRow_length];omega
        go_wp2_with (at_builtin;go_must (refine app_bool _ rfl _ _ rfl wi.heap.size u5 ((freeRow rows n).take v) _ rfl rfl HO4.out hs4 (by omega) ?_;intro g cp w5 ho5 hk5 hg5))
        have HO5:Hid (Owb w5 wi.heap.size (.slice (some ⟨g,0,none⟩) (((freeRow rows n).take v).length+1) cp) ((freeRow rows n).take v++[false])):=ho5
        have HB5:Hid (Below wi.heap.size wi w5):=HB4.out.trans (hk5.below (fun b hb=>(HO4.out.lt b hb).1) hs4)
        clear ho5 hk5 hg5
        go_wp2
        go_roundw
        case rel =>
         refine ⟨v+1,by omega,by go_num,?_,HB5.out⟩
         rw [freeRow_take rows n v hv8,HFA.out]
         have h9:=HO5.out
         rw [htl] at h9
         exact h9
        case measure=>simp [intOf];omega
     ·have HFA:Hid (freeAt rows n v=(false||inParts rows (parts n) v)):=by
       show freeAt rows n v=_
       unfold freeAt
       rw [t1,t19,t20,tk]
       rfl
      go_wp2_with fail
      refine (sParts n _).mono ?_
      rintro e w4 ⟨⟨pa,pc,rfl,hpi⟩,hb4⟩
      have HP:Hid (WInts w4 wo.heap.size pa (parts n)):=hpi
      have HB4:Hid (Below wi.heap.size wi w4):=HB2.out.trans (hb4.mono HB2.out.size)
      have HO4:Hid (Owb w4 wi.heap.size u5 ((freeRow rows n).take v)):=HO2.out.kept (S:=fun _=>False) (Kept.ofBelow hb4) (fun _ _ h=>h)
      have HV4:Hid (Owv w4 w.heap.size (.slice (some ⟨ga,0,none⟩) k ca) vs):=HV.out.kept (S:=fun _=>False) (Kept.ofBelow HB4.out) (fun _ _ h=>h)
      have HR4:Hid (Rws w4 (.slice (some ⟨ga,0,none⟩) k ca) vs rows):=HR.out.below HB4.out
      have hs4:wi.heap.size<=w4.heap.size:=HB4.out.size
      have e0:w4.cell? ⟨xb,xo+k*6,none⟩=some (.int .i64 n.op):=by rw [hb4.cell (lt_of_cell q0)];exact q0
      have e2:w4.cell? ⟨xb,xo+k*6+2,none⟩=some (.int .i64 n.k):=by rw [hb4.cell (lt_of_cell q2)];exact q2
      clear hpi hb4 q0 q1 q2 q3 q4 q5
      have hpl:=parts_le n
      go_wp2_with fail
      go_loop [7,9] (fun f q=>∃ j:Nat,j<=(parts n).length/\q=.int .i64 j/\f=.bool (false||inParts rows ((parts n).take j) v)) (fun _ q=>(parts n).length - (intOf q).toNat)
      case atStart=>exact ⟨0,Nat.zero_le _,rfl,rfl⟩
      case round =>
       obtain ⟨j,hj,rfl,rfl⟩:=hrel
       by_cases hlj:j < (parts n).length
       ·have hljz:(j:Int) < ((parts n).length:Int):=by omega
        have HST:Hid (inParts rows ((parts n).take (j+1)) v=(inParts rows ((parts n).take j) v||flag (row rows (parts n)[j]) v)):=inParts_take rows (parts n) v j hlj
        cases hcur:(false||inParts rows ((parts n).take j) v)
        ·rcases HP.out.2 with h0|⟨pb,po,rfl,hpB,hpc⟩
         ·omega
         have r0:=(hpc j hlj).1
         obtain ⟨hx0,hx1⟩:=HPO.out j hlj
         clear hpc
         generalize (parts n)[j]=x at r0 hx0 hx1 HST
         obtain ⟨gr,cr,hr1,hr2,hr3,hr4⟩:=HR4.out.2 x.toNat (by rw [hrl];omega)
         have r1:w4.cell? ⟨ga,x.toNat,none⟩=some (.slice (some ⟨gr,0,none⟩) 8 cr):=by
          obtain ⟨g9,c9,hv9,hc9⟩:=HV4.out.at (by rw [hvl];omega)
          cases hv9
          rw [hc9 x.toNat (by rw [hvl];omega)];exact hr1
         have r2:w4.cell? ⟨gr,v,none⟩=some (.bool (flag (row rows x) v)):=hr4 v hv8
         clear hr1 hr2 hr3 hr4
         have hxz:x < (k:Int):=hx1
         go_wp2
         go_round
         case rel =>
          refine ⟨j+1,by omega,by go_num,?_⟩
          rw [HST.out]
          simp at hcur
          simp [hcur]
         case measure=>simp [intOf];omega
        ·go_wp2
         go_round
         case rel =>
          refine ⟨j+1,by omega,by go_num,?_⟩
          rw [HST.out,<- Bool.or_assoc,hcur];rfl
         case measure=>simp [intOf];omega
       ·have ej:j=(parts n).length:=by omega
        subst ej
        rw [List.take_length]
        have htl:((freeRow rows n).take v).length=v:=by rw [List.length_take,freeRow_length];omega
        go_wp2_with (at_builtin;go_must (refine app_bool _ rfl _ _ rfl wi.heap.size u5 ((freeRow rows n).take v) _ rfl rfl HO4.out hs4 (by omega) ?_;intro g cp w5 ho5 hk5 hg5))
        have HO5:Hid (Owb w5 wi.heap.size (.slice (some ⟨g,0,none⟩) (((freeRow rows n).take v).length+1) cp) ((freeRow rows n).take v++[(false||inParts rows (parts n) v)])):=ho5
        have HB5:Hid (Below wi.heap.size wi w5):=HB4.out.trans (hk5.below (fun b hb=>(HO4.out.lt b hb).1) hs4)
        clear ho5 hk5 hg5
        go_wp2
        go_roundw
        case rel =>
         refine ⟨v+1,by omega,by go_num,?_,HB5.out⟩
         rw [freeRow_take rows n v hv8,HFA.out]
         have h9:=HO5.out
         rw [htl] at h9
         exact h9
        case measure=>simp [intOf];omega
     ·have HFA:Hid (freeAt rows n v=false):=by
       show freeAt rows n v=_
       unfold freeAt
       rw [t1,t19,t20,tk]
       rfl
      go_wp2_with fail
      refine (sParts n _).mono ?_
      rintro e w4 ⟨⟨pa,pc,rfl,hpi⟩,hb4⟩
      have HP:Hid (WInts w4 wo.heap.size pa (parts n)):=hpi
      have HB4:Hid (Below wi.heap.size wi w4):=HB2.out.trans (hb4.mono HB2.out.size)
      have HO4:Hid (Owb w4 wi.heap.size u5 ((freeRow rows n).take v)):=HO2.out.kept (S:=fun _=>False) (Kept.ofBelow hb4) (fun _ _ h=>h)
      have HV4:Hid (Owv w4 w.heap.size (.slice (some ⟨ga,0,none⟩) k ca) vs):=HV.out.kept (S:=fun _=>False) (Kept.ofBelow HB4.out) (fun _ _ h=>h)
      have HR4:Hid (Rws w4 (.slice (some ⟨ga,0,none⟩) k ca) vs rows):=HR.out.below HB4.out
      have hs4:wi.heap.size<=w4.heap.size:=HB4.out.size
      have e0:w4.cell? ⟨xb,xo+k*6,none⟩=some (.int .i64 n.op):=by rw [hb4.cell (lt_of_cell q0)];exact q0
      have e2:w4.cell? ⟨xb,xo+k*6+2,none⟩=some (.int .i64 n.k):=by rw [hb4.cell (lt_of_cell q2)];exact q2
      clear hpi hb4 q0 q1 q2 q3 q4 q5
      have hpl:=parts_le n
      go_wp2_with fail
      go_loop [7,9] (fun f q=>∃ j:Nat,j<=(parts n).length/\q=.int .i64 j/\f=.bool (false||inParts rows ((parts n).take j) v)) (fun _ q=>(parts n).length - (intOf q).toNat)
      case atStart=>exact ⟨0,Nat.zero_le _,rfl,rfl⟩
      case round =>
       obtain ⟨j,hj,rfl,rfl⟩:=hrel
       by_cases hlj:j < (parts n).length
       ·have hljz:(j:Int) < ((parts n).length:Int):=by omega
        have HST:Hid (inParts rows ((parts n).take (j+1)) v=(inParts rows ((parts n).take j) v||flag (row rows (parts n)[j]) v)):=inParts_take rows (parts n) v j hlj
        cases hcur:(false||inParts rows ((parts n).take j) v)
        ·rcases HP.out.2 with h0|⟨pb,po,rfl,hpB,hpc⟩
         ·omega
         have r0:=(hpc j hlj).1
         obtain ⟨hx0,hx1⟩:=HPO.out j hlj
         clear hpc
         generalize (parts n)[j]=x at r0 hx0 hx1 HST
         obtain ⟨gr,cr,hr1,hr2,hr3,hr4⟩:=HR4.out.2 x.toNat (by rw [hrl];omega)
         have r1:w4.cell? ⟨ga,x.toNat,none⟩=some (.slice (some ⟨gr,0,none⟩) 8 cr):=by
          obtain ⟨g9,c9,hv9,hc9⟩:=HV4.out.at (by rw [hvl];omega)
          cases hv9
          rw [hc9 x.toNat (by rw [hvl];omega)];exact hr1
         have r2:w4.cell? ⟨gr,v,none⟩=some (.bool (flag (row rows x) v)):=hr4 v hv8
         clear hr1 hr2 hr3 hr4
         have hxz:x < (k:Int):=hx1
         go_wp2
         go_round
         case rel =>
          refine ⟨j+1,by omega,by go_num,?_⟩
          rw [HST.out]
          simp at hcur
          simp [hcur]
         case measure=>simp [intOf];omega
        ·go_wp2
         go_round
         case rel =>
          refine ⟨j+1,by omega,by go_num,?_⟩
          rw [HST.out,<- Bool.or_assoc,hcur];rfl
         case measure=>simp [intOf];omega
       ·have ej:j=(parts n).length:=by omega
        subst ej
        rw [List.take_length]
        have htl:((freeRow rows n).take v).length=v:=by rw [List.length_take,freeRow_length];omega
        go_wp2_with (at_builtin;go_must (refine app_bool _ rfl _ _ rfl wi.heap.size u5 ((freeRow rows n).take v) _ rfl rfl HO4.out hs4 (by omega) ?_;intro g cp w5 ho5 hk5 hg5))
        have HO5:Hid (Owb w5 wi.heap.size (.slice (some ⟨g,0,none⟩) (((freeRow rows n).take v).length+1) cp) ((freeRow rows n).take v++[false])):=ho5
        have HB5:Hid (Below wi.heap.size wi w5):=HB4.out.trans (hk5.below (fun b hb=>(HO4.out.lt b hb).1) hs4)
        clear ho5 hk5 hg5
        go_wp2
        go_roundw
        case rel =>
         refine ⟨v+1,by omega,by go_num,?_,HB5.out⟩
         rw [freeRow_take rows n v hv8,HFA.out]
         have h9:=HO5.out
         rw [htl] at h9
         exact h9
        case measure=>simp [intOf];omega
     ·have HFA:Hid (freeAt rows n v=(false||inParts rows (parts n) v)):=by
       show freeAt rows n v=_
       unfold freeAt
       rw [t1,t19,t20,tk]
       rfl
      go_wp2_with fail
      refine (sParts n _).mono ?_
      rintro e w4 ⟨⟨pa,pc,rfl,hpi⟩,hb4⟩
      have HP:Hid (WInts w4 wo.heap.size pa (parts n)):=hpi
      have HB4:Hid (Below wi.heap.size wi w4):=HB2.out.trans (hb4.mono HB2.out.size)
      have HO4:Hid (Owb w4 wi.heap.size u5 ((freeRow rows n).take v)):=HO2.out.kept (S:=fun _=>False) (Kept.ofBelow hb4) (fun _ _ h=>h)
      have HV4:Hid (Owv w4 w.heap.size (.slice (some ⟨ga,0,none⟩) k ca) vs):=HV.out.kept (S:=fun _=>False) (Kept.ofBelow HB4.out) (fun _ _ h=>h)
      have HR4:Hid (Rws w4 (.slice (some ⟨ga,0,none⟩) k ca) vs rows):=HR.out.below HB4.out
      have hs4:wi.heap.size<=w4.heap.size:=HB4.out.size
      have e0:w4.cell? ⟨xb,xo+k*6,none⟩=some (.int .i64 n.op):=by rw [hb4.cell (lt_of_cell q0)];exact q0
      have e2:w4.cell? ⟨xb,xo+k*6+2,none⟩=some (.int .i64 n.k):=by rw [hb4.cell (lt_of_cell q2)];exact q2
      clear hpi hb4 q0 q1 q2 q3 q4 q5
      have hpl:=parts_le n
      go_wp2_with fail
      go_loop [7,9] (fun f q=>∃ j:Nat,j<=(parts n).length/\q=.int .i64 j/\f=.bool (false||inParts rows ((parts n).take j) v)) (fun _ q=>(parts n).length - (intOf q).toNat)
      case atStart=>exact ⟨0,Nat.zero_le _,rfl,rfl⟩
      case round =>
       obtain ⟨j,hj,rfl,rfl⟩:=hrel
       by_cases hlj:j < (parts n).length
       ·have hljz:(j:Int) < ((parts n).length:Int):=by omega
        have HST:Hid (inParts rows ((parts n).take (j+1)) v=(inParts rows ((parts n).take j) v||flag (row rows (parts n)[j]) v)):=inParts_take rows (parts n) v j hlj
        cases hcur:(false||inParts rows ((parts n).take j) v)
        ·rcases HP.out.2 with h0|⟨pb,po,rfl,hpB,hpc⟩
         ·omega
         have r0:=(hpc j hlj).1
         obtain ⟨hx0,hx1⟩:=HPO.out j hlj
         clear hpc
         generalize (parts n)[j]=x at r0 hx0 hx1 HST
         obtain ⟨gr,cr,hr1,hr2,hr3,hr4⟩:=HR4.out.2 x.toNat (by rw [hrl];omega)
         have r1:w4.cell? ⟨ga,x.toNat,none⟩=some (.slice (some ⟨gr,0,none⟩) 8 cr):=by
          obtain ⟨g9,c9,hv9,hc9⟩:=HV4.out.at (by rw [hvl];omega)
          cases hv9
          rw [hc9 x.toNat (by rw [hvl];omega)];exact hr1
         have r2:w4.cell? ⟨gr,v,none⟩=some (.bool (flag (row rows x) v)):=hr4 v hv8
         clear hr1 hr2 hr3 hr4
         have hxz:x < (k:Int):=hx1
         go_wp2
         go_round
         case rel =>
          refine ⟨j+1,by omega,by go_num,?_⟩
          rw [HST.out]
          simp at hcur
          simp [hcur]
         case measure=>simp [intOf];omega
        ·go_wp2
         go_round
         case rel =>
          refine ⟨j+1,by omega,by go_num,?_⟩
          rw [HST.out,<- Bool.or_assoc,hcur];rfl
         case measure=>simp [intOf];omega
       ·have ej:j=(parts n).length:=by omega
        subst ej
        rw [List.take_length]
        have htl:((freeRow rows n).take v).length=v:=by rw [List.length_take,freeRow_length];omega
        go_wp2_with (at_builtin;go_must (refine app_bool _ rfl _ _ rfl wi.heap.size u5 ((freeRow rows n).take v) _ rfl rfl HO4.out hs4 (by omega) ?_;intro g cp w5 ho5 hk5 hg5))
        have HO5:Hid (Owb w5 wi.heap.size (.slice (some ⟨g,0,none⟩) (((freeRow rows n).take v).length+1) cp) ((freeRow rows n).take v++[(false||inParts rows (parts n) v)])):=ho5
        have HB5:Hid (Below wi.heap.size wi w5):=HB4.out.trans (hk5.below (fun b hb=>(HO4.out.lt b hb).1) hs4)
        clear ho5 hk5 hg5
        go_wp2
        go_roundw
        case rel =>
         refine ⟨v+1,by omega,by go_num,?_,HB5.out⟩
         rw [freeRow_take rows n v hv8,HFA.out]
         have h9:=HO5.out
         rw [htl] at h9
         exact h9
        case measure=>simp [intOf];omega
     ·have HFA:Hid (freeAt rows n v=(false||inParts rows (parts n) v)):=by
       show freeAt rows n v=_
       unfold freeAt
       rw [t1,t19,t20,tk]
       rfl
      go_wp2_with fail
      refine (sParts n _).mono ?_
      rintro e w4 ⟨⟨pa,pc,rfl,hpi⟩,hb4⟩
      have HP:Hid (WInts w4 wo.heap.size pa (parts n)):=hpi
      have HB4:Hid (Below wi.heap.size wi w4):=HB2.out.trans (hb4.mono HB2.out.size)
      have HO4:Hid (Owb w4 wi.heap.size u5 ((freeRow rows n).take v)):=HO2.out.kept (S:=fun _=>False) (Kept.ofBelow hb4) (fun _ _ h=>h)
      have HV4:Hid (Owv w4 w.heap.size (.slice (some ⟨ga,0,none⟩) k ca) vs):=HV.out.kept (S:=fun _=>False) (Kept.ofBelow HB4.out) (fun _ _ h=>h)
      have HR4:Hid (Rws w4 (.slice (some ⟨ga,0,none⟩) k ca) vs rows):=HR.out.below HB4.out
      have hs4:wi.heap.size<=w4.heap.size:=HB4.out.size
      have e0:w4.cell? ⟨xb,xo+k*6,none⟩=some (.int .i64 n.op):=by rw [hb4.cell (lt_of_cell q0)];exact q0
      have e2:w4.cell? ⟨xb,xo+k*6+2,none⟩=some (.int .i64 n.k):=by rw [hb4.cell (lt_of_cell q2)];exact q2
      clear hpi hb4 q0 q1 q2 q3 q4 q5
      have hpl:=parts_le n
      go_wp2_with fail
      go_loop [7,9] (fun f q=>∃ j:Nat,j<=(parts n).length/\q=.int .i64 j/\f=.bool (false||inParts rows ((parts n).take j) v)) (fun _ q=>(parts n).length - (intOf q).toNat)
      case atStart=>exact ⟨0,Nat.zero_le _,rfl,rfl⟩
      case round =>
       obtain ⟨j,hj,rfl,rfl⟩:=hrel
       by_cases hlj:j < (parts n).length
       ·have hljz:(j:Int) < ((parts n).length:Int):=by omega
        have HST:Hid (inParts rows ((parts n).take (j+1)) v=(inParts rows ((parts n).take j) v||flag (row rows (parts n)[j]) v)):=inParts_take rows (parts n) v j hlj
        cases hcur:(false||inParts rows ((parts n).take j) v)
        ·rcases HP.out.2 with h0|⟨pb,po,rfl,hpB,hpc⟩
         ·omega
         have r0:=(hpc j hlj).1
         obtain ⟨hx0,hx1⟩:=HPO.out j hlj
         clear hpc
         generalize (parts n)[j]=x at r0 hx0 hx1 HST
         obtain ⟨gr,cr,hr1,hr2,hr3,hr4⟩:=HR4.out.2 x.toNat (by rw [hrl];omega)
         have r1:w4.cell? ⟨ga,x.toNat,none⟩=some (.slice (some ⟨gr,0,none⟩) 8 cr):=by
          obtain ⟨g9,c9,hv9,hc9⟩:=HV4.out.at (by rw [hvl];omega)
          cases hv9
          rw [hc9 x.toNat (by rw [hvl];omega)];exact hr1
         have r2:w4.cell? ⟨gr,v,none⟩=some (.bool (flag (row rows x) v)):=hr4 v hv8
         clear hr1 hr2 hr3 hr4
         have hxz:x < (k:Int):=hx1
         go_wp2
         go_round
         case rel =>
          refine ⟨j+1,by omega,by go_num,?_⟩
          rw [HST.out]
          simp at hcur
          simp [hcur]
         case measure=>simp [intOf];omega
        ·go_wp2
         go_round
         case rel =>
          refine ⟨j+1,by omega,by go_num,?_⟩
          rw [HST.out,<- Bool.or_assoc,hcur];rfl
         case measure=>simp [intOf];omega
       ·have ej:j=(parts n).length:=by omega
        subst ej
        rw [List.take_length]
        have htl:((freeRow rows n).take v).length=v:=by rw [List.length_take,freeRow_length];omega
        go_wp2_with (at_builtin;go_must (refine app_bool _ rfl _ _ rfl wi.heap.size u5 ((freeRow rows n).take v) _ rfl rfl HO4.out hs4 (by omega) ?_;intro g cp w5 ho5 hk5 hg5))
        have HO5:Hid (Owb w5 wi.heap.size (.slice (some ⟨g,0,none⟩) (((freeRow rows n).take v).length+1) cp) ((freeRow rows n).take v++[(false||inParts rows (parts n) v)])):=ho5
        have HB5:Hid (Below wi.heap.size wi w5):=HB4.out.trans (hk5.below (fun b hb=>(HO4.out.lt b hb).1) hs4)
        clear ho5 hk5 hg5
        go_wp2
        go_roundw
        case rel =>
         refine ⟨v+1,by omega,by go_num,?_,HB5.out⟩
         rw [freeRow_take rows n v hv8,HFA.out]
         have h9:=HO5.out
         rw [htl] at h9
         exact h9
        case measure=>simp [intOf];omega
     ·have HFA:Hid (freeAt rows n v=(false||inParts rows (parts n) v)):=by
       show freeAt rows n v=_
       unfold freeAt
       rw [t1,t19,t20,tk]
       rfl
      go_wp2_with fail
      refine (sParts n _).mono ?_
      rintro e w4 ⟨⟨pa,pc,rfl,hpi⟩,hb4⟩
      have HP:Hid (WInts w4 wo.heap.size pa (parts n)):=hpi
      have HB4:Hid (Below wi.heap.size wi w4):=HB2.out.trans (hb4.mono HB2.out.size)
      have HO4:Hid (Owb w4 wi.heap.size u5 ((freeRow rows n).take v)):=HO2.out.kept (S:=fun _=>False) (Kept.ofBelow hb4) (fun _ _ h=>h)
      have HV4:Hid (Owv w4 w.heap.size (.slice (some ⟨ga,0,none⟩) k ca) vs):=HV.out.kept (S:=fun _=>False) (Kept.ofBelow HB4.out) (fun _ _ h=>h)
      have HR4:Hid (Rws w4 (.slice (some ⟨ga,0,none⟩) k ca) vs rows):=HR.out.below HB4.out
      have hs4:wi.heap.size<=w4.heap.size:=HB4.out.size
      have e0:w4.cell? ⟨xb,xo+k*6,none⟩=some (.int .i64 n.op):=by rw [hb4.cell (lt_of_cell q0)];exact q0
      have e2:w4.cell? ⟨xb,xo+k*6+2,none⟩=some (.int .i64 n.k):=by rw [hb4.cell (lt_of_cell q2)];exact q2
      clear hpi hb4 q0 q1 q2 q3 q4 q5
      have hpl:=parts_le n
      go_wp2_with fail
      go_loop [7,9] (fun f q=>∃ j:Nat,j<=(parts n).length/\q=.int .i64 j/\f=.bool (false||inParts rows ((parts n).take j) v)) (fun _ q=>(parts n).length - (intOf q).toNat)
      case atStart=>exact ⟨0,Nat.zero_le _,rfl,rfl⟩
      case round =>
       obtain ⟨j,hj,rfl,rfl⟩:=hrel
       by_cases hlj:j < (parts n).length
       ·have hljz:(j:Int) < ((parts n).length:Int):=by omega
        have HST:Hid (inParts rows ((parts n).take (j+1)) v=(inParts rows ((parts n).take j) v||flag (row rows (parts n)[j]) v)):=inParts_take rows (parts n) v j hlj
        cases hcur:(false||inParts rows ((parts n).take j) v)
        ·rcases HP.out.2 with h0|⟨pb,po,rfl,hpB,hpc⟩
         ·omega
         have r0:=(hpc j hlj).1
         obtain ⟨hx0,hx1⟩:=HPO.out j hlj
         clear hpc
         generalize (parts n)[j]=x at r0 hx0 hx1 HST
         obtain ⟨gr,cr,hr1,hr2,hr3,hr4⟩:=HR4.out.2 x.toNat (by rw [hrl];omega)
         have r1:w4.cell? ⟨ga,x.toNat,none⟩=some (.slice (some ⟨gr,0,none⟩) 8 cr):=by
          obtain ⟨g9,c9,hv9,hc9⟩:=HV4.out.at (by rw [hvl];omega)
          cases hv9
          rw [hc9 x.toNat (by rw [hvl];omega)];exact hr1
         have r2:w4.cell? ⟨gr,v,none⟩=some (.bool (flag (row rows x) v)):=hr4 v hv8
         clear hr1 hr2 hr3 hr4
         have hxz:x < (k:Int):=hx1
         go_wp2
         go_round
         case rel =>
          refine ⟨j+1,by omega,by go_num,?_⟩
          rw [HST.out]
          simp at hcur
          simp [hcur]
         case measure=>simp [intOf];omega
        ·go_wp2
         go_round
         case rel =>
          refine ⟨j+1,by omega,by go_num,?_⟩
          rw [HST.out,<- Bool.or_assoc,hcur];rfl
         case measure=>simp [intOf];omega
       ·have ej:j=(parts n).length:=by omega
        subst ej
        rw [List.take_length]
        have htl:((freeRow rows n).take v).length=v:=by rw [List.length_take,freeRow_length];omega
        go_wp2_with (at_builtin;go_must (refine app_bool _ rfl _ _ rfl wi.heap.size u5 ((freeRow rows n).take v) _ rfl rfl HO4.out hs4 (by omega) ?_;intro g cp w5 ho5 hk5 hg5))
        have HO5:Hid (Owb w5 wi.heap.size (.slice (some ⟨g,0,none⟩) (((freeRow rows n).take v).length+1) cp) ((freeRow rows n).take v++[(false||inParts rows (parts n) v)])):=ho5
        have HB5:Hid (Below wi.heap.size wi w5):=HB4.out.trans (hk5.below (fun b hb=>(HO4.out.lt b hb).1) hs4)
        clear ho5 hk5 hg5
        go_wp2
        go_roundw
        case rel =>
         refine ⟨v+1,by omega,by go_num,?_,HB5.out⟩
         rw [freeRow_take rows n v hv8,HFA.out]
         have h9:=HO5.out
         rw [htl] at h9
         exact h9
        case measure=>simp [intOf];omega
    ·have ev:v=8:=by omega
     subst ev
     rw [List.take_of_length_le (by rw [freeRow_length];exact Nat.le_refl _)] at ho2
     obtain ⟨g,cg,hvg,hg1,hg2⟩:=ho2.at (by rw [freeRow_length];omega)
     rw [freeRow_length] at hvg
     subst hvg
     have HCG:Hid (∀ x,x < 8->wo.cell? ⟨g,x,none⟩=some (.bool (flag (freeRow rows n) x))):=by
      intro x hx
      have h9:=(ho2.cell' (freeRow_length rows n) x hx).1
      rw [flag_get] at h9
      exact h9
     have HVO:Hid (Owv wo w.heap.size (.slice (some ⟨ga,0,none⟩) k ca) vs):=HV.out.kept (S:=fun _=>False) (Kept.ofBelow hb2) (fun _ _ h=>h)
     have HRO:Hid (Rws wo (.slice (some ⟨ga,0,none⟩) k ca) vs rows):=HR.out.below hb2
     have hgaw:ga < wi.heap.size:=(HV.out.lt ga rfl).2
     have hbo:w.heap.size<=wo.heap.size:=Nat.le_trans hbs hb2.size
     have HBO:Hid (Below w.heap.size w wo):=HB.out.trans (hb2.mono hbs)
     clear ho2 hb2 HO2 HB2
     go_wp2_with (at_builtin;go_must (refine app_row _ rfl _ _ rfl w.heap.size (.slice (some ⟨ga,0,none⟩) k ca) vs (some ⟨g,0,none⟩) 8 cg rfl rfl HVO.out hbo (by omega) ?_;intro g6 cp6 w6 ho6 hk6 hg6))
     have HO6:Hid (Owv w6 w.heap.size (.slice (some ⟨g6,0,none⟩) (vs.length+1) cp6) (vs++[.slice (some ⟨g,0,none⟩) 8 cg])):=ho6
     have HK6:Hid (Kept (fun b=>(Value.slice (some ⟨ga,0,none⟩) k ca).ownBlock=some b) wo w6):=hk6
     have HG6:Hid (g6=ga\/wo.heap.size<=g6):=by
      rcases hg6 with h|h
      ·exact .inl (by simpa [Value.ownBlock] using h.symm)
      ·exact .inr h
     clear ho6 hk6 hg6
     go_wp2
     go_roundw
     case rel =>
      refine ⟨k+1,by omega,by go_num,HBO.out.trans (HK6.out.below (fun b hb=>(HVO.out.lt b hb).1) hbo),g6,cp6,vs++[.slice (some ⟨g,0,none⟩) 8 cg],rfl,?_,?_⟩
      ·have h9:=HO6.out
       rw [hvl] at h9
       exact h9
      ·rw [HSC.out]
       have hsz:=HK6.out.size
       refine ⟨by rw [List.length_append,List.length_append,hvl,hrl];rfl,fun j hj=>?_⟩
       rw [List.length_append,hrl] at hj
       have hj':j < k+1:=hj
       by_cases ejk:j=k
       ·subst ejk
        refine ⟨g,cg,?_,by omega,?_,fun x hx=>?_⟩
        ·rw [List.getElem?_append_right (by omega),hvl,Nat.sub_self];rfl
        ·intro h
         have e:g6=g:=by simpa [Value.ownBlock] using h
         rcases HG6.out with h|h<;>omega
        ·have hn:¬ (Value.slice (some ⟨ga,0,none⟩) j ca).ownBlock=some g:=by
          intro h
          have e:ga=g:=by simpa [Value.ownBlock] using h
          omega
         rw [HK6.out.cell (p:=⟨g,x,none⟩) hg2 hn,HCG.out x hx]
         rw [show (rows++[freeRow rows n]).getD j []=freeRow rows n by rw [List.getD_eq_getElem?_getD,List.getElem?_append_right (by omega),hrl,Nat.sub_self];rfl]
       ·obtain ⟨gr,cr,h1,h2,h3,h4⟩:=HRO.out.2 j (by rw [hrl];omega)
        refine ⟨gr,cr,?_,by omega,?_,fun x hx=>?_⟩
        ·rw [List.getElem?_append_left (by omega)];exact h1
        ·intro h
         have e:g6=gr:=by simpa [Value.ownBlock] using h
         rcases HG6.out with h5|h5
         ·exact h3 (by rw [<- e,h5];rfl)
         ·omega
        ·rw [HK6.out.cell (p:=⟨gr,x,none⟩) h2 h3,h4 x hx]
         rw [show (rows++[freeRow rows n]).getD j []=rows.getD j [] by rw [List.getD_eq_getElem?_getD,List.getD_eq_getElem?_getD,List.getElem?_append_left (by omega)]]
     case measure=>simp [intOf];omega
  ·have e:k=l.length:=by omega
   subst e
   obtain ⟨gr,cr,h1,h2,h3,h4⟩:=HR.out.2 (l.length - 1) (by rw [hrl];omega)
   have r1:wr.cell? ⟨ga,l.length - 1,none⟩=some (.slice (some ⟨gr,0,none⟩) 8 cr):=by
    obtain ⟨g9,c9,hv9,hc9⟩:=HV.out.at (by rw [hvl];omega)
    simp only [Value.slice.injEq,Option.some.injEq,Addr.mk.injEq] at hv9
    obtain ⟨⟨rfl,_⟩,_⟩:=hv9
    rw [hc9 (l.length - 1) (by rw [hvl];omega)];exact h1
   have HH4:Hid (∀ x,x < 8->wr.cell? ⟨gr,x,none⟩=some (.bool (flag (freeTop l) x))):=by
    intro x hx
    rw [h4 x hx]
    show _=some (Value.bool (flag ((freeRows l l.length).getD (((l.length:Int) - 1).toNat) []) x))
    rw [show ((l.length:Int) - 1).toNat=l.length - 1 by omega]
   clear h1 h4
   go_wp2
   go_ret
   exact ⟨⟨_,_,rfl,h2,HH4.out⟩,HB.out⟩
end Sp8
end Go.Proofs.YthanhcobfehmnaaGreat
