import Derived.Test.YthanhcobfehmnaaGreatPkQU23
namespace Go.Proofs.YthanhcobfehmnaaGreat
set_option maxRecDepth 100000
set_option maxHeartbeats 8000000
set_option linter.unusedVariables false
namespace Dw4
open Go.RowKit
open Nd0 Nd3 Ap2 Dw0 Dw1 Dw2 Dw3
open Dr0 (Cur Only Bytes Off)
open Dr1 (once below)
theorem vs_one {w:World} {b:Nat} {v:Value} {n:Nd} {T:Nat} (hb:b < w.heap.size) (hv:∀ k,v.ownBlock=some k->k < w.heap.size):Vs (w.alloc (.cells #[.int .i64 n.op,.int .i64 n.w,.int .i64 n.k,.int .i64 n.a,.int .i64 n.b,.int .i64 n.c] T)) b v (some ⟨w.heap.size,0,none⟩) [n]:=by
 refine ⟨⟨by simp [maxLen],.inr ⟨w.heap.size,0,rfl,fun i hi=>?_⟩⟩,fun x _ hx=>?_⟩
 ·have:i=0:=by simp at hi;exact hi
  subst this
  refine ⟨?_,?_,?_,?_,?_,?_⟩<;>rw [World.cell?_alloc_new]<;>rfl
 ·cases hx
  exact ⟨by show w.heap.size≠b;omega,fun e=>by have:=hv _ e;simp at this,by simp⟩
theorem madeAny (dd:Nat) (hIH:∀ d,dd=d+1->MadeC d):MadeC dd:=by
 intro w b a len cap v L va vl vc next bits D hD hdr hvs hvw hvn hn8 hb0 hb1 hbd
 have HD1:Hid (Dr w b a len cap v L):=hdr
 have HS1:Hid (Stp b v v w w):=Stp.refl _ _ _
 have HV1:Hid (Vs w b v va vl):=hvs
 have HVW:Hid (∀ i (h:i < vl.length),1<=vl[i].w/\vl[i].w<=8):=hvw
 have HBD0:Hid (L.length+gd dd<=1048576):=hbd
 have HIH:Hid (∀ d,dd=d+1->MadeC d):=hIH
 have HDQ:Hid (D=(dd:Int)):=hD
 have hvl:vl.length<=8:=by omega
 have hD9:D<=1048576:=by have:=gd_ge dd;omega
 have hD8:0<=D:=by omega
 clear hdr hvs hvw hIH hbd hD
 go_enter Tryz.func120,Tryz.ntmps120
 go_upto_region 1 with fail
 go_cut [53] from 39 to 53 (fun s53 wc=>∃ x:Bool,s53=.bool x/\(x=true->(∃ d,dd=d+1)/\next < 8/\0 < bits)/\Dr wc b a len cap v L/\Stp b v v w wc/\Vs wc b v va vl)
 case first =>
  by_cases hd0:0 < D
  ·by_cases hn7:next < 8
   ·by_cases hbp:0 < bits
    ·
     go_wp2_with fail
     refine (once _ b a len cap 5 (by omega) (by omega) HD1.out.cur).mono ?_
     rintro e w11 ⟨⟨x11,rfl⟩,hc',ho'⟩
     have HD11:Hid (Dr w11 b a len cap v L):=HD1.out.only hc' ho'
     have HS11:Hid (Stp b v v w w11):=HS1.out.trans (Stp.only ho')
     have HV11:Hid (Vs w11 b v va vl):=HV1.out.stp (Stp.only ho')
     clear hc' ho'
     cases x11
     ·go_wp2_with fail
      go_meet
      case rel=>exact ⟨true,rfl,fun _=>⟨⟨dd - 1,by have:=HDQ.out;omega⟩,by omega,by omega⟩,HD11.out,HS11.out,HV11.out⟩
     ·go_wp2_with fail
      go_meet
      case rel=>exact ⟨false,rfl,fun h=>(by cases h),HD11.out,HS11.out,HV11.out⟩
    ·go_wp2_with fail
     go_meet
     case rel=>exact ⟨false,rfl,fun h=>(by cases h),HD1.out,HS1.out,HV1.out⟩
   ·go_wp2_with fail
    go_meet
    case rel=>exact ⟨false,rfl,fun h=>(by cases h),HD1.out,HS1.out,HV1.out⟩
  ·go_wp2_with fail
   go_meet
   case rel=>exact ⟨false,rfl,fun h=>(by cases h),HD1.out,HS1.out,HV1.out⟩
 case rest =>
  obtain ⟨x,rfl,hxq,hd,hs,hv⟩:=hcut
  have HD2:Hid (Dr wc b a len cap v L):=hd
  have HS2:Hid (Stp b v v w wc):=hs
  have HV2:Hid (Vs wc b v va vl):=hv
  have HXQ:Hid (x=true->(∃ d,dd=d+1)/\next < 8/\0 < bits):=hxq
  clear hd hs hv hxq HD1 HS1 HV1
  obtain ⟨w2,rfl⟩:∃ w2:World,w2=wc:=⟨_,rfl⟩
  cases x
  ·
   go_wp2_with fail
   refine (below _ b a len cap 5 (by omega) (by omega) HD2.out.cur).mono ?_
   rintro e w12 ⟨⟨x12,rfl,hx12,hy12⟩,hc',ho'⟩
   have HD12:Hid (Dr w12 b a len cap v L):=HD2.out.only hc' ho'
   have HS12:Hid (Stp b v v w w12):=HS2.out.trans (Stp.only ho')
   have HV12:Hid (Vs w12 b v va vl):=HV2.out.stp (Stp.only ho')
   clear hc' ho'
   cases dd with
   | zero =>
     have hD0:¬ (0:Int) < D:=by have:=HDQ.out;omega
     by_cases e0:x12=0
     ·
      have t0:(x12==0)=true:=by simpa using e0
      clear e0
      go_wp2_with fail
      refine (deepC 3 _ b a len cap v L va vl vc _ _ rfl HD12.out HV12.out HVW.out (by omega) (by omega) (by omega) (by have h9:=HBD0.out;rw [fd3];have:=gd_ge 0;omega)).mono ?_
      rintro e w13 ⟨v13,L13,at13,rfl,hd,hs,hl⟩
      rw [fd3] at hl
      have HD13:Hid (Dr w13 b a len cap v13 L13):=hd
      have HS13:Hid (Stp b v v13 w w13):=HS12.out.trans hs
      have HV13:Hid (Vs w13 b v13 va vl):=HV12.out.stp hs
      have HL13:Hid (L13.length<=L.length+40):=by
       show _<=_;omega
      clear hd hs hl
      go_wp2
      refine bodyPost_ret (v:=.tuple #[v13,.int .i64 at13,.int .i64 next,.int .i64 bits]) (by simp [results,Tryz.results120,go_sem]) rfl ?_
      exact ⟨_,_,_,_,_,rfl,HD13.out,HS13.out,by have h8:=HL13.out;have h9:=gd_ge 0;omega,Int.le_refl _,by omega,by omega,Int.le_refl _⟩
     have t0:(x12==0)=false:=by simpa using e0
     by_cases e1:x12=1
     ·
      have t1:(x12==1)=true:=by simpa using e1
      clear e0 e1
      go_wp2_with fail
      refine (deepC 3 _ b a len cap v L va vl vc _ _ rfl HD12.out HV12.out HVW.out (by omega) (by omega) (by omega) (by have h9:=HBD0.out;rw [fd3];have:=gd_ge 0;omega)).mono ?_
      rintro e w14 ⟨v14,L14,at14,rfl,hd,hs,hl⟩
      rw [fd3] at hl
      have HD14:Hid (Dr w14 b a len cap v14 L14):=hd
      have HS14:Hid (Stp b v v14 w w14):=HS12.out.trans hs
      have HV14:Hid (Vs w14 b v14 va vl):=HV12.out.stp hs
      have HL14:Hid (L14.length<=L.length+40):=by
       show _<=_;omega
      clear hd hs hl
      go_wp2
      refine bodyPost_ret (v:=.tuple #[v14,.int .i64 at14,.int .i64 next,.int .i64 bits]) (by simp [results,Tryz.results120,go_sem]) rfl ?_
      exact ⟨_,_,_,_,_,rfl,HD14.out,HS14.out,by have h8:=HL14.out;have h9:=gd_ge 0;omega,Int.le_refl _,by omega,by omega,Int.le_refl _⟩
     have t1:(x12==1)=false:=by simpa using e1
     by_cases e2:x12=2
     ·
      have t2:(x12==2)=true:=by simpa using e2
      clear e0 e1 e2
      go_wp2_with fail
      refine (deepC 3 _ b a len cap v L va vl vc _ _ rfl HD12.out HV12.out HVW.out (by omega) (by omega) (by omega) (by have h9:=HBD0.out;rw [fd3];have:=gd_ge 0;omega)).mono ?_
      rintro e w15 ⟨v15,L15,at15,rfl,hd,hs,hl⟩
      rw [fd3] at hl
      have HD15:Hid (Dr w15 b a len cap v15 L15):=hd
      have HS15:Hid (Stp b v v15 w w15):=HS12.out.trans hs
      have HV15:Hid (Vs w15 b v15 va vl):=HV12.out.stp hs
      have HL15:Hid (L15.length<=L.length+40):=by
       show _<=_;omega
      clear hd hs hl
      go_wp2
      refine bodyPost_ret (v:=.tuple #[v15,.int .i64 at15,.int .i64 next,.int .i64 bits]) (by simp [results,Tryz.results120,go_sem]) rfl ?_
      exact ⟨_,_,_,_,_,rfl,HD15.out,HS15.out,by have h8:=HL15.out;have h9:=gd_ge 0;omega,Int.le_refl _,by omega,by omega,Int.le_refl _⟩
     have t2:(x12==2)=false:=by simpa using e2
     clear e0 e1 e2
     go_wp2_with fail
     refine (deepC 3 _ b a len cap v L va vl vc _ _ rfl HD12.out HV12.out HVW.out (by omega) (by omega) (by omega) (by have h9:=HBD0.out;rw [fd3];have:=gd_ge 0;omega)).mono ?_
     rintro e w16 ⟨v16,L16,at16,rfl,hd,hs,hl⟩
     rw [fd3] at hl
     have HD16:Hid (Dr w16 b a len cap v16 L16):=hd
     have HS16:Hid (Stp b v v16 w w16):=HS12.out.trans hs
     have HV16:Hid (Vs w16 b v16 va vl):=HV12.out.stp hs
     have HL16:Hid (L16.length<=L.length+40):=by
      show _<=_;omega
     clear hd hs hl
     go_wp2
     refine bodyPost_ret (v:=.tuple #[v16,.int .i64 at16,.int .i64 next,.int .i64 bits]) (by simp [results,Tryz.results120,go_sem]) rfl ?_
     exact ⟨_,_,_,_,_,rfl,HD16.out,HS16.out,by have h8:=HL16.out;have h9:=gd_ge 0;omega,Int.le_refl _,by omega,by omega,Int.le_refl _⟩
   | succ d =>
     have IH:Hid (MadeC d):=HIH.out d rfl
     have HGD:Hid (gd (d+1)=2*gd d+1):=rfl
     have HBD:Hid (L.length+(2*gd d+1)<=1048576):=HBD0.out
     have HDD:Hid (D=(d:Int)+1):=by have:=HDQ.out;show _=_;omega
     have hD1:(0:Int) < D:=by have:=HDD.out;omega
     have hD2:D<=1048576:=by have:=gd_ge d;have:=HBD.out;have:=HDD.out;omega
     by_cases e0:x12=0
     ·
      have t0:(x12==0)=true:=by simpa using e0
      clear e0
      go_wp2_with fail
      refine (IH.out _ b a len cap v L va vl _ _ _ _ (by have:=HDD.out;omega) HD12.out HV12.out HVW.out (by omega) (by omega) (by omega) (by omega) (by have h9:=HBD.out;omega)).mono ?_
      rintro e w17 ⟨v17,L17,at17,n17,lf17,rfl,hd,hs,hl,hn17,hm17,hp17,hq17⟩
      have HD17:Hid (Dr w17 b a len cap v17 L17):=hd
      have HS17:Hid (Stp b v v17 w w17):=HS12.out.trans hs
      have HV17:Hid (Vs w17 b v17 va vl):=HV12.out.stp hs
      have HL17:Hid (L17.length<=L.length+gd d):=by
       show _<=_;omega
      clear hd hs hl
      go_wp2_with fail
      refine (push _ b a len cap v17 L17 ⟨2,1,0,at17,0,0⟩ HD17.out (by have h8:=HL17.out;have h9:=HBD.out;omega)).mono ?_
      rintro e w18 ⟨v18,rfl,hd,hs⟩
      have HD18:Hid (Dr w18 b a len cap v18 (L17++[⟨2,1,0,at17,0,0⟩])):=hd
      have HS18:Hid (Stp b v v18 w w18):=HS17.out.trans hs
      clear hd hs
      go_wp2
      refine bodyPost_ret (v:=.tuple #[v18,.int .i64 (L17.length:Int),.int .i64 n17,.int .i64 lf17]) (by simp [results,Tryz.results120,go_sem]) rfl ?_
      exact ⟨_,_,_,_,_,rfl,HD18.out,HS18.out,by have h8:=HL17.out;have h9:=HGD.out;rw [List.length_append,List.length_singleton];omega,hn17,hm17,hp17,hq17⟩
     have t0:(x12==0)=false:=by simpa using e0
     by_cases e1:x12=1
     ·
      have t1:(x12==1)=true:=by simpa using e1
      clear e0 e1
      go_wp2_with fail
      refine (IH.out _ b a len cap v L va vl _ _ _ _ (by have:=HDD.out;omega) HD12.out HV12.out HVW.out (by omega) (by omega) (by omega) (by omega) (by have h9:=HBD.out;omega)).mono ?_
      rintro e w19 ⟨v19,L19,at19,n19,lf19,rfl,hd,hs,hl,hn19,hm19,hp19,hq19⟩
      have HD19:Hid (Dr w19 b a len cap v19 L19):=hd
      have HS19:Hid (Stp b v v19 w w19):=HS12.out.trans hs
      have HV19:Hid (Vs w19 b v19 va vl):=HV12.out.stp hs
      have HL19:Hid (L19.length<=L.length+gd d):=by
       show _<=_;omega
      clear hd hs hl
      go_wp2_with fail
      refine (IH.out _ b a len cap v19 L19 va vl _ _ _ _ (by have:=HDD.out;omega) HD19.out HV19.out HVW.out (by omega) (by omega) (by omega) (by omega) (by have h8:=HL19.out;have h9:=HBD.out;omega)).mono ?_
      rintro e w20 ⟨v20,L20,at20,n20,lf20,rfl,hd,hs,hl,hn20,hm20,hp20,hq20⟩
      have HD20:Hid (Dr w20 b a len cap v20 L20):=hd
      have HS20:Hid (Stp b v v20 w w20):=HS19.out.trans hs
      have HV20:Hid (Vs w20 b v20 va vl):=HV19.out.stp hs
      have HL20:Hid (L20.length<=L.length+(gd d+gd d)):=by
       have h8:=HL19.out;show _<=_;omega
      clear hd hs hl
      go_wp2_with fail
      refine (below _ b a len cap 2 (by omega) (by omega) HD20.out.cur).mono ?_
      rintro e w21 ⟨⟨x21,rfl,hx21,hy21⟩,hc',ho'⟩
      have HD21:Hid (Dr w21 b a len cap v20 L20):=HD20.out.only hc' ho'
      have HS21:Hid (Stp b v v20 w w21):=HS20.out.trans (Stp.only ho')
      have HV21:Hid (Vs w21 b v20 va vl):=HV20.out.stp (Stp.only ho')
      clear hc' ho'
      have HL21:=HL20
      go_wp2_with fail
      refine (push _ b a len cap v20 L20 ⟨3+x21,1,0,at19,at20,0⟩ HD21.out (by have h8:=HL21.out;have h9:=HBD.out;omega)).mono ?_
      rintro e w22 ⟨v22,rfl,hd,hs⟩
      have HD22:Hid (Dr w22 b a len cap v22 (L20++[⟨3+x21,1,0,at19,at20,0⟩])):=hd
      have HS22:Hid (Stp b v v22 w w22):=HS21.out.trans hs
      clear hd hs
      go_wp2
      refine bodyPost_ret (v:=.tuple #[v22,.int .i64 (L20.length:Int),.int .i64 n20,.int .i64 lf20]) (by simp [results,Tryz.results120,go_sem]) rfl ?_
      exact ⟨_,_,_,_,_,rfl,HD22.out,HS22.out,by have h8:=HL21.out;have h9:=HGD.out;rw [List.length_append,List.length_singleton];omega,by omega,hm20,hp20,by omega⟩
     have t1:(x12==1)=false:=by simpa using e1
     by_cases e2:x12=2
     ·
      have t2:(x12==2)=true:=by simpa using e2
      clear e0 e1 e2
      go_wp2_with fail
      refine (IH.out _ b a len cap v L va vl _ _ _ _ (by have:=HDD.out;omega) HD12.out HV12.out HVW.out (by omega) (by omega) (by omega) (by omega) (by have h9:=HBD.out;omega)).mono ?_
      rintro e w23 ⟨v23,L23,at23,n23,lf23,rfl,hd,hs,hl,hn23,hm23,hp23,hq23⟩
      have HD23:Hid (Dr w23 b a len cap v23 L23):=hd
      have HS23:Hid (Stp b v v23 w w23):=HS12.out.trans hs
      have HV23:Hid (Vs w23 b v23 va vl):=HV12.out.stp hs
      have HL23:Hid (L23.length<=L.length+gd d):=by
       show _<=_;omega
      clear hd hs hl
      go_wp2_with fail
      refine (IH.out _ b a len cap v23 L23 va vl _ _ _ _ (by have:=HDD.out;omega) HD23.out HV23.out HVW.out (by omega) (by omega) (by omega) (by omega) (by have h8:=HL23.out;have h9:=HBD.out;omega)).mono ?_
      rintro e w24 ⟨v24,L24,at24,n24,lf24,rfl,hd,hs,hl,hn24,hm24,hp24,hq24⟩
      have HD24:Hid (Dr w24 b a len cap v24 L24):=hd
      have HS24:Hid (Stp b v v24 w w24):=HS23.out.trans hs
      have HV24:Hid (Vs w24 b v24 va vl):=HV23.out.stp hs
      have HL24:Hid (L24.length<=L.length+(gd d+gd d)):=by
       have h8:=HL23.out;show _<=_;omega
      clear hd hs hl
      go_wp2_with fail
      refine (below _ b a len cap 2 (by omega) (by omega) HD24.out.cur).mono ?_
      rintro e w25 ⟨⟨x25,rfl,hx25,hy25⟩,hc',ho'⟩
      have HD25:Hid (Dr w25 b a len cap v24 L24):=HD24.out.only hc' ho'
      have HS25:Hid (Stp b v v24 w w25):=HS24.out.trans (Stp.only ho')
      have HV25:Hid (Vs w25 b v24 va vl):=HV24.out.stp (Stp.only ho')
      clear hc' ho'
      have HL25:=HL24
      go_wp2_with fail
      refine (push _ b a len cap v24 L24 ⟨3+x25,1,0,at23,at24,0⟩ HD25.out (by have h8:=HL25.out;have h9:=HBD.out;omega)).mono ?_
      rintro e w26 ⟨v26,rfl,hd,hs⟩
      have HD26:Hid (Dr w26 b a len cap v26 (L24++[⟨3+x25,1,0,at23,at24,0⟩])):=hd
      have HS26:Hid (Stp b v v26 w w26):=HS25.out.trans hs
      clear hd hs
      go_wp2
      refine bodyPost_ret (v:=.tuple #[v26,.int .i64 (L24.length:Int),.int .i64 n24,.int .i64 lf24]) (by simp [results,Tryz.results120,go_sem]) rfl ?_
      exact ⟨_,_,_,_,_,rfl,HD26.out,HS26.out,by have h8:=HL25.out;have h9:=HGD.out;rw [List.length_append,List.length_singleton];omega,by omega,hm24,hp24,by omega⟩
     have t2:(x12==2)=false:=by simpa using e2
     clear e0 e1 e2
     go_wp2_with fail
     refine (deepC 3 _ b a len cap v L va vl vc _ _ rfl HD12.out HV12.out HVW.out (by omega) (by omega) (by omega) (by have h9:=HBD0.out;rw [fd3];have:=gd_ge (d+1);omega)).mono ?_
     rintro e w27 ⟨v27,L27,at27,rfl,hd,hs,hl⟩
     rw [fd3] at hl
     have HD27:Hid (Dr w27 b a len cap v27 L27):=hd
     have HS27:Hid (Stp b v v27 w w27):=HS12.out.trans hs
     have HV27:Hid (Vs w27 b v27 va vl):=HV12.out.stp hs
     have HL27:Hid (L27.length<=L.length+40):=by
      show _<=_;omega
     clear hd hs hl
     go_wp2
     refine bodyPost_ret (v:=.tuple #[v27,.int .i64 at27,.int .i64 next,.int .i64 bits]) (by simp [results,Tryz.results120,go_sem]) rfl ?_
     exact ⟨_,_,_,_,_,rfl,HD27.out,HS27.out,by have h8:=HL27.out;have h9:=gd_ge (d+1);omega,Int.le_refl _,by omega,by omega,Int.le_refl _⟩
  ·
   obtain ⟨⟨d,rfl⟩,hnx,hbt⟩:=HXQ.out rfl
   have IH:Hid (MadeC d):=HIH.out d rfl
   have HGD:Hid (gd (d+1)=2*gd d+1):=rfl
   have HBD:Hid (L.length+(2*gd d+1)<=1048576):=HBD0.out
   have HDD:Hid (D=(d:Int)+1):=by have:=HDQ.out;show _=_;omega
   have hD1:(0:Int) < D:=by have:=HDD.out;omega
   have hD2:D<=1048576:=by have:=gd_ge d;have:=HBD.out;have:=HDD.out;omega
   go_wp2_with fail
   refine (below _ b a len cap 3 (by omega) (by omega) HD2.out.cur).mono ?_
   rintro e w28 ⟨⟨x28,rfl,hx28,hy28⟩,hc',ho'⟩
   have HD28:Hid (Dr w28 b a len cap v L):=HD2.out.only hc' ho'
   have HS28:Hid (Stp b v v w w28):=HS2.out.trans (Stp.only ho')
   have HV28:Hid (Vs w28 b v va vl):=HV2.out.stp (Stp.only ho')
   clear hc' ho'
   go_upto_if 59 with fail
   go_cut [16] from 57 to 60 (fun s16 wc=>∃ W:Int,s16=.int .i64 W/\1<=W/\W<=8/\W<=bits/\wc=w28)
   case first =>
    by_cases hgt:bits < 1+x28
    ·go_wp2_with fail
     go_meet
     case rel=>exact ⟨bits,rfl,by omega,by omega,by omega,rfl⟩
    ·go_wp2_with fail
     go_meet
     case rel=>exact ⟨1+x28,rfl,by omega,by omega,by omega,rfl⟩
   case rest =>
    obtain ⟨W,rfl,hW1,hW8,hWb,rfl⟩:=hcut
    obtain ⟨wv,hwv⟩:∃ wv:World,wv=wc.alloc (.cells #[.int .i64 1,.int .i64 W,.int .i64 next,.int .i64 0,.int .i64 0,.int .i64 0] 44):=⟨_,rfl⟩
    have hbel:Below wc.heap.size wc wv:=by rw [hwv];exact (Below.refl _ _).alloc (Nat.le_refl _) _
    have HD29:Hid (Dr wv b a len cap v L):=HD28.out.below hbel
    have HS29:Hid (Stp b v v w wv):=HS28.out.trans (Stp.ofBelow hbel)
    have HV29:Hid (Vs wv b v va vl):=HV28.out.stp (Stp.ofBelow hbel)
    obtain ⟨bv,hbv⟩:∃ bv:Nat,bv=wc.heap.size:=⟨_,rfl⟩
    have HN29:Hid (Vs wv b v (some ⟨bv,0,none⟩) [(⟨1,W,next,0,0,0⟩:Nd)]):=by
     rw [hwv,hbv];exact vs_one (n:=(⟨1,W,next,0,0,0⟩:Nd)) HD28.out.size (fun k hk=>(HD28.out.own.lt k hk).2)
    have HWV:Hid (wv=wc.alloc (.cells #[.int .i64 1,.int .i64 W,.int .i64 next,.int .i64 0,.int .i64 0,.int .i64 0] 44)):=hwv
    clear hwv hbel
    go_wp2_with fail
    rw [<- HWV.out,<- hbv]
    clear hbv
    refine (below _ b a len cap 2 (by omega) (by omega) HD29.out.cur).mono ?_
    rintro e w30 ⟨⟨x30,rfl,hx30,hy30⟩,hc',ho'⟩
    have HD30:Hid (Dr w30 b a len cap v L):=HD29.out.only hc' ho'
    have HS30:Hid (Stp b v v w w30):=HS29.out.trans (Stp.only ho')
    have HV30:Hid (Vs w30 b v va vl):=HV29.out.stp (Stp.only ho')
    have HN30:Hid (Vs w30 b v (some ⟨bv,0,none⟩) [(⟨1,W,next,0,0,0⟩:Nd)]):=HN29.out.stp (Stp.only ho')
    clear hc' ho'
    go_upto_region 7 with fail
    go_cut [19] from 67 to 72 (fun s19 wc=>∃ g9 c9,s19=.slice (some ⟨g9,0,none⟩) (vl.length+1) c9/\w30.heap.size<=g9/\Nodes wc (some ⟨g9,0,none⟩) (vl++[(⟨1,W,next,0,0,0⟩:Nd)])/\Below w30.heap.size w30 wc)
    case first =>
     obtain ⟨wq,rfl⟩:∃ wq:World,wq=w30:=⟨_,rfl⟩
     have hsz:=HD30.out.size
     rcases HN30.out.1.2 with h0|⟨b9,o9,he,hc9⟩
     ·simp at h0
     cases he
     have hbvl:bv < wq.heap.size:=(HN30.out.2 ⟨bv,0,none⟩ (by simp) rfl).2.2
     have p0:wq.cell? ⟨bv,0,none⟩=some (.int .i64 1):=by simpa using (hc9 0 (by simp)).c0
     have p1:wq.cell? ⟨bv,1,none⟩=some (.int .i64 W):=by simpa using (hc9 0 (by simp)).c1
     have p2:wq.cell? ⟨bv,2,none⟩=some (.int .i64 next):=by simpa using (hc9 0 (by simp)).c2
     have p3:wq.cell? ⟨bv,3,none⟩=some (.int .i64 0):=by simpa using (hc9 0 (by simp)).c3
     have p4:wq.cell? ⟨bv,4,none⟩=some (.int .i64 0):=by simpa using (hc9 0 (by simp)).c4
     have p5:wq.cell? ⟨bv,5,none⟩=some (.int .i64 0):=by simpa using (hc9 0 (by simp)).c5
     clear hc9
     have HVQ:Hid (Nodes wq va vl):=HV30.out.1
     refine wp_region_held_drew (S:=fun w'=>Below wq.heap.size wq w') (by kernel_rfl) ((Below.refl _ _).drew) (fun hHeld=>?_)
     refine wpAnyH_take (i:=1) (v:=?_) rfl (by kernel_rfl) (by kernel_rfl) (by kernel_rfl) (fun _ _ _ h=>h) (Or.inl ⟨by rfl,?_⟩) hHeld ?_
     rotate_left
     ·intro v9 hS9
      try dsimp only at hS9
      go_simp
      try with_reducible rfl
     try simp only [Act.put,List.setIfInBounds_toArray,List.set_cons_zero,List.set_cons_succ,List.getElem_toArray,List.getElem_cons_zero,List.getElem_cons_succ]
     refine wpAnyH_take (i:=3) (v:=?_) rfl (by kernel_rfl) (by kernel_rfl) (by kernel_rfl) (fun _ _ _ h=>h) (Or.inl ⟨by rfl,?_⟩) hHeld ?_
     rotate_left
     ·intro v9 hS9
      try dsimp only at hS9
      have q0:v9.cell? ⟨bv,0,none⟩=some (.int .i64 1):=by rw [hS9.cell hbvl];exact p0
      have q1:v9.cell? ⟨bv,1,none⟩=some (.int .i64 W):=by rw [hS9.cell hbvl];exact p1
      have q2:v9.cell? ⟨bv,2,none⟩=some (.int .i64 next):=by rw [hS9.cell hbvl];exact p2
      have q3:v9.cell? ⟨bv,3,none⟩=some (.int .i64 0):=by rw [hS9.cell hbvl];exact p3
      have q4:v9.cell? ⟨bv,4,none⟩=some (.int .i64 0):=by rw [hS9.cell hbvl];exact p4
      have q5:v9.cell? ⟨bv,5,none⟩=some (.int .i64 0):=by rw [hS9.cell hbvl];exact p5
      go_simp
      try with_reducible rfl
     try simp only [Act.put,List.setIfInBounds_toArray,List.set_cons_zero,List.set_cons_succ,List.getElem_toArray,List.getElem_cons_zero,List.getElem_cons_succ]
     by_cases hv0:vl.length=0
     ·
      obtain rfl:vl=[]:=List.eq_nil_of_length_eq_zero hv0
      clear hv0
      cases va with
      | none =>
        refine wpAnyH_ready (rs:=[0,4]) (by kernel_rfl) (by simp) ?_
        refine (AllReadyH.cons rfl (fun K hK=>?_) (AllReadyH.cons rfl (fun K hK=>?_) AllReadyH.nil))
        ·
         go_simp
         refine hK.out _ _ (hHeld.alloc hHeld.size _) (fun hNext=>?_)
         clear hK K hHeld
         have hHeld:=hNext
         clear hNext
         refine wpAnyH_ready (rs:=[2,4]) (by kernel_rfl) (by simp) ?_
         refine (AllReadyH.cons rfl (fun K hK=>?_) (AllReadyH.cons rfl (fun K hK=>?_) AllReadyH.nil))
         ·
          go_simp
          try go_wp2_with fail
          refine hK.out _ _ (hHeld) (fun hNext=>?_)
          clear hK K hHeld
          have hHeld:=hNext
          clear hNext
          refine wpAnyH_ready (rs:=[4]) (by kernel_rfl) (by simp) ?_
          refine (AllReadyH.cons rfl (fun K hK=>?_) AllReadyH.nil)
          ·
           go_simp
           refine hK.out _ _ (hHeld.alloc hHeld.size _) (fun hNext=>?_)
           clear hK K hHeld
           have hHeld:=hNext
           clear hNext
           refine wpAnyH_ready (rs:=[5]) (by kernel_rfl) (by simp) ?_
           refine (AllReadyH.cons rfl (fun K hK=>?_) AllReadyH.nil)
           ·
            refine step_app_nodes _ rfl _ _ rfl wq.heap.size (.slice (some ⟨wq.heap.size,0,none⟩) 0 0) [] [(⟨1,W,next,0,0,0⟩:Nd)] (wq.heap.size+1) 0 1 rfl rfl (node_drew (node_new _ _ _ _ (by simp))) (by simp) (World.ownsRow.alloc (own_lit _ _ _ rfl (Nat.le_refl _)) _) hHeld.size (by first|(simp;done)|(simp;omega)) ?_
            intro g2 cp2 wz ho2 hk2 hg2
            have HG2:wq.heap.size<=g2:=by
             rcases hg2 with e|e
             ·cases e;first|exact HG1|exact Nat.le_refl _|exact Nat.le_succ _
             ·exact Nat.le_trans hHeld.size e
            simp only [List.length_cons,List.length_nil,Nat.zero_add]
            have HK2:=hHeld.trans (hk2.below (fun k hk=>by cases hk;first|exact HG1|exact Nat.le_refl _|exact Nat.le_succ _) hHeld.size)
            refine hK.out _ _ (HK2) (fun hNext=>?_)
            clear hK K hHeld
            have hHeld:=hNext
            clear hNext
            clear HK2
            try simp only [Act.put,List.setIfInBounds_toArray,List.set_cons_zero,List.set_cons_succ,List.getElem_toArray,List.getElem_cons_zero,List.getElem_cons_succ]
            refine wpAnyH_take (i:=6) (v:=?_) rfl (by kernel_rfl) (by kernel_rfl) (by kernel_rfl) (fun _ _ _ h=>h) (Or.inl ⟨by rfl,?_⟩) hHeld ?_
            rotate_left
            ·intro v9 hS9
             try dsimp only at hS9
             go_simp
             try with_reducible rfl
            try simp only [Act.put,List.setIfInBounds_toArray,List.set_cons_zero,List.set_cons_succ,List.getElem_toArray,List.getElem_cons_zero,List.getElem_cons_succ]
            refine wpAnyH_done (by kernel_rfl) ?_ _
            obtain ⟨a8,c8,hv8,hw8⟩:=ho2.form
            have ha8:a8=some ⟨g2,0,none⟩:=by injection hv8 with h1 h2 h3;exact h1.symm
            have HN8:Hid (Nodes wz (some ⟨g2,0,none⟩) (([]:List Nd)++[(⟨1,W,next,0,0,0⟩:Nd)])):=by
             rw [ha8] at hw8
             first|exact hw8.nodes|simpa using hw8.nodes
            have HB8:Hid (Below wq.heap.size wq wz):=hHeld
            clear hv8 hw8 ho2 hk2 hg2 hHeld ha8
            go_wp2_with fail
            go_meet
            case rel=>exact ⟨g2,cp2,(by first|rfl|simp),HG2,HN8.out,HB8.out⟩
         ·
          go_simp
          refine hK.out _ _ (hHeld.alloc hHeld.size _) (fun hNext=>?_)
          clear hK K hHeld
          have hHeld:=hNext
          clear hNext
          refine wpAnyH_ready (rs:=[2]) (by kernel_rfl) (by simp) ?_
          refine (AllReadyH.cons rfl (fun K hK=>?_) AllReadyH.nil)
          ·
           go_simp
           try go_wp2_with fail
           refine hK.out _ _ (hHeld) (fun hNext=>?_)
           clear hK K hHeld
           have hHeld:=hNext
           clear hNext
           refine wpAnyH_ready (rs:=[5]) (by kernel_rfl) (by simp) ?_
           refine (AllReadyH.cons rfl (fun K hK=>?_) AllReadyH.nil)
           ·
            refine step_app_nodes _ rfl _ _ rfl wq.heap.size (.slice (some ⟨wq.heap.size,0,none⟩) 0 0) [] [(⟨1,W,next,0,0,0⟩:Nd)] (wq.heap.size+1) 0 1 rfl rfl (node_drew (node_new _ _ _ _ (by simp))) (by simp) (World.ownsRow.alloc (own_lit _ _ _ rfl (Nat.le_refl _)) _) hHeld.size (by first|(simp;done)|(simp;omega)) ?_
            intro g2 cp2 wz ho2 hk2 hg2
            have HG2:wq.heap.size<=g2:=by
             rcases hg2 with e|e
             ·cases e;first|exact HG1|exact Nat.le_refl _|exact Nat.le_succ _
             ·exact Nat.le_trans hHeld.size e
            simp only [List.length_cons,List.length_nil,Nat.zero_add]
            have HK2:=hHeld.trans (hk2.below (fun k hk=>by cases hk;first|exact HG1|exact Nat.le_refl _|exact Nat.le_succ _) hHeld.size)
            refine hK.out _ _ (HK2) (fun hNext=>?_)
            clear hK K hHeld
            have hHeld:=hNext
            clear hNext
            clear HK2
            try simp only [Act.put,List.setIfInBounds_toArray,List.set_cons_zero,List.set_cons_succ,List.getElem_toArray,List.getElem_cons_zero,List.getElem_cons_succ]
            refine wpAnyH_take (i:=6) (v:=?_) rfl (by kernel_rfl) (by kernel_rfl) (by kernel_rfl) (fun _ _ _ h=>h) (Or.inl ⟨by rfl,?_⟩) hHeld ?_
            rotate_left
            ·intro v9 hS9
             try dsimp only at hS9
             go_simp
             try with_reducible rfl
            try simp only [Act.put,List.setIfInBounds_toArray,List.set_cons_zero,List.set_cons_succ,List.getElem_toArray,List.getElem_cons_zero,List.getElem_cons_succ]
            refine wpAnyH_done (by kernel_rfl) ?_ _
            obtain ⟨a8,c8,hv8,hw8⟩:=ho2.form
            have ha8:a8=some ⟨g2,0,none⟩:=by injection hv8 with h1 h2 h3;exact h1.symm
            have HN8:Hid (Nodes wz (some ⟨g2,0,none⟩) (([]:List Nd)++[(⟨1,W,next,0,0,0⟩:Nd)])):=by
             rw [ha8] at hw8
             first|exact hw8.nodes|simpa using hw8.nodes
            have HB8:Hid (Below wq.heap.size wq wz):=hHeld
            clear hv8 hw8 ho2 hk2 hg2 hHeld ha8
            go_wp2_with fail
            go_meet
            case rel=>exact ⟨g2,cp2,(by first|rfl|simp),HG2,HN8.out,HB8.out⟩
        ·
         go_simp
         refine hK.out _ _ (hHeld.alloc hHeld.size _) (fun hNext=>?_)
         clear hK K hHeld
         have hHeld:=hNext
         clear hNext
         refine wpAnyH_ready (rs:=[0]) (by kernel_rfl) (by simp) ?_
         refine (AllReadyH.cons rfl (fun K hK=>?_) AllReadyH.nil)
         ·
          go_simp
          refine hK.out _ _ (hHeld.alloc hHeld.size _) (fun hNext=>?_)
          clear hK K hHeld
          have hHeld:=hNext
          clear hNext
          refine wpAnyH_ready (rs:=[2]) (by kernel_rfl) (by simp) ?_
          refine (AllReadyH.cons rfl (fun K hK=>?_) AllReadyH.nil)
          ·
           go_simp
           try go_wp2_with fail
           refine hK.out _ _ (hHeld) (fun hNext=>?_)
           clear hK K hHeld
           have hHeld:=hNext
           clear hNext
           refine wpAnyH_ready (rs:=[5]) (by kernel_rfl) (by simp) ?_
           refine (AllReadyH.cons rfl (fun K hK=>?_) AllReadyH.nil)
           ·
            refine step_app_nodes _ rfl _ _ rfl wq.heap.size (.slice (some ⟨(wq.heap.size+1),0,none⟩) 0 0) [] [(⟨1,W,next,0,0,0⟩:Nd)] wq.heap.size 0 1 rfl rfl (node_drew (node_kept (S:=fun _=>False) ((Kept.refl (fun _=>False) _).alloc _) (by simp) (fun e=>e) (node_new _ _ _ _ rfl))) (by simp) (own_lit _ _ _ (by simp) (by omega)) hHeld.size (by first|(simp;done)|(simp;omega)) ?_
            intro g2 cp2 wz ho2 hk2 hg2
            have HG2:wq.heap.size<=g2:=by
             rcases hg2 with e|e
             ·cases e;first|exact HG1|exact Nat.le_refl _|exact Nat.le_succ _
             ·exact Nat.le_trans hHeld.size e
            simp only [List.length_cons,List.length_nil,Nat.zero_add]
            have HK2:=hHeld.trans (hk2.below (fun k hk=>by cases hk;first|exact HG1|exact Nat.le_refl _|exact Nat.le_succ _) hHeld.size)
            refine hK.out _ _ (HK2) (fun hNext=>?_)
            clear hK K hHeld
            have hHeld:=hNext
            clear hNext
            clear HK2
            try simp only [Act.put,List.setIfInBounds_toArray,List.set_cons_zero,List.set_cons_succ,List.getElem_toArray,List.getElem_cons_zero,List.getElem_cons_succ]
            refine wpAnyH_take (i:=6) (v:=?_) rfl (by kernel_rfl) (by kernel_rfl) (by kernel_rfl) (fun _ _ _ h=>h) (Or.inl ⟨by rfl,?_⟩) hHeld ?_
            rotate_left
            ·intro v9 hS9
             try dsimp only at hS9
             go_simp
             try with_reducible rfl
            try simp only [Act.put,List.setIfInBounds_toArray,List.set_cons_zero,List.set_cons_succ,List.getElem_toArray,List.getElem_cons_zero,List.getElem_cons_succ]
            refine wpAnyH_done (by kernel_rfl) ?_ _
            obtain ⟨a8,c8,hv8,hw8⟩:=ho2.form
            have ha8:a8=some ⟨g2,0,none⟩:=by injection hv8 with h1 h2 h3;exact h1.symm
            have HN8:Hid (Nodes wz (some ⟨g2,0,none⟩) (([]:List Nd)++[(⟨1,W,next,0,0,0⟩:Nd)])):=by
             rw [ha8] at hw8
             first|exact hw8.nodes|simpa using hw8.nodes
            have HB8:Hid (Below wq.heap.size wq wz):=hHeld
            clear hv8 hw8 ho2 hk2 hg2 hHeld ha8
            go_wp2_with fail
            go_meet
            case rel=>exact ⟨g2,cp2,(by first|rfl|simp),HG2,HN8.out,HB8.out⟩
      | some x9 =>
        refine wpAnyH_ready (rs:=[0,4]) (by kernel_rfl) (by simp) ?_
        refine (AllReadyH.cons rfl (fun K hK=>?_) (AllReadyH.cons rfl (fun K hK=>?_) AllReadyH.nil))
        ·
         go_simp
         refine hK.out _ _ (hHeld.alloc hHeld.size _) (fun hNext=>?_)
         clear hK K hHeld
         have hHeld:=hNext
         clear hNext
         refine wpAnyH_ready (rs:=[2,4]) (by kernel_rfl) (by simp) ?_
         refine (AllReadyH.cons rfl (fun K hK=>?_) (AllReadyH.cons rfl (fun K hK=>?_) AllReadyH.nil))
         ·
          go_simp
          try go_wp2_with fail
          refine hK.out _ _ (hHeld) (fun hNext=>?_)
          clear hK K hHeld
          have hHeld:=hNext
          clear hNext
          refine wpAnyH_ready (rs:=[4]) (by kernel_rfl) (by simp) ?_
          refine (AllReadyH.cons rfl (fun K hK=>?_) AllReadyH.nil)
          ·
           go_simp
           refine hK.out _ _ (hHeld.alloc hHeld.size _) (fun hNext=>?_)
           clear hK K hHeld
           have hHeld:=hNext
           clear hNext
           refine wpAnyH_ready (rs:=[5]) (by kernel_rfl) (by simp) ?_
           refine (AllReadyH.cons rfl (fun K hK=>?_) AllReadyH.nil)
           ·
            refine step_app_nodes _ rfl _ _ rfl wq.heap.size (.slice (some ⟨wq.heap.size,0,none⟩) 0 0) [] [(⟨1,W,next,0,0,0⟩:Nd)] (wq.heap.size+1) 0 1 rfl rfl (node_drew (node_new _ _ _ _ (by simp))) (by simp) (World.ownsRow.alloc (own_lit _ _ _ rfl (Nat.le_refl _)) _) hHeld.size (by first|(simp;done)|(simp;omega)) ?_
            intro g2 cp2 wz ho2 hk2 hg2
            have HG2:wq.heap.size<=g2:=by
             rcases hg2 with e|e
             ·cases e;first|exact HG1|exact Nat.le_refl _|exact Nat.le_succ _
             ·exact Nat.le_trans hHeld.size e
            simp only [List.length_cons,List.length_nil,Nat.zero_add]
            have HK2:=hHeld.trans (hk2.below (fun k hk=>by cases hk;first|exact HG1|exact Nat.le_refl _|exact Nat.le_succ _) hHeld.size)
            refine hK.out _ _ (HK2) (fun hNext=>?_)
            clear hK K hHeld
            have hHeld:=hNext
            clear hNext
            clear HK2
            try simp only [Act.put,List.setIfInBounds_toArray,List.set_cons_zero,List.set_cons_succ,List.getElem_toArray,List.getElem_cons_zero,List.getElem_cons_succ]
            refine wpAnyH_take (i:=6) (v:=?_) rfl (by kernel_rfl) (by kernel_rfl) (by kernel_rfl) (fun _ _ _ h=>h) (Or.inl ⟨by rfl,?_⟩) hHeld ?_
            rotate_left
            ·intro v9 hS9
             try dsimp only at hS9
             go_simp
             try with_reducible rfl
            try simp only [Act.put,List.setIfInBounds_toArray,List.set_cons_zero,List.set_cons_succ,List.getElem_toArray,List.getElem_cons_zero,List.getElem_cons_succ]
            refine wpAnyH_done (by kernel_rfl) ?_ _
            obtain ⟨a8,c8,hv8,hw8⟩:=ho2.form
            have ha8:a8=some ⟨g2,0,none⟩:=by injection hv8 with h1 h2 h3;exact h1.symm
            have HN8:Hid (Nodes wz (some ⟨g2,0,none⟩) (([]:List Nd)++[(⟨1,W,next,0,0,0⟩:Nd)])):=by
             rw [ha8] at hw8
             first|exact hw8.nodes|simpa using hw8.nodes
            have HB8:Hid (Below wq.heap.size wq wz):=hHeld
            clear hv8 hw8 ho2 hk2 hg2 hHeld ha8
            go_wp2_with fail
            go_meet
            case rel=>exact ⟨g2,cp2,(by first|rfl|simp),HG2,HN8.out,HB8.out⟩
         ·
          go_simp
          refine hK.out _ _ (hHeld.alloc hHeld.size _) (fun hNext=>?_)
          clear hK K hHeld
          have hHeld:=hNext
          clear hNext
          refine wpAnyH_ready (rs:=[2]) (by kernel_rfl) (by simp) ?_
          refine (AllReadyH.cons rfl (fun K hK=>?_) AllReadyH.nil)
          ·
           go_simp
           try go_wp2_with fail
           refine hK.out _ _ (hHeld) (fun hNext=>?_)
           clear hK K hHeld
           have hHeld:=hNext
           clear hNext
           refine wpAnyH_ready (rs:=[5]) (by kernel_rfl) (by simp) ?_
           refine (AllReadyH.cons rfl (fun K hK=>?_) AllReadyH.nil)
           ·
            refine step_app_nodes _ rfl _ _ rfl wq.heap.size (.slice (some ⟨wq.heap.size,0,none⟩) 0 0) [] [(⟨1,W,next,0,0,0⟩:Nd)] (wq.heap.size+1) 0 1 rfl rfl (node_drew (node_new _ _ _ _ (by simp))) (by simp) (World.ownsRow.alloc (own_lit _ _ _ rfl (Nat.le_refl _)) _) hHeld.size (by first|(simp;done)|(simp;omega)) ?_
            intro g2 cp2 wz ho2 hk2 hg2
            have HG2:wq.heap.size<=g2:=by
             rcases hg2 with e|e
             ·cases e;first|exact HG1|exact Nat.le_refl _|exact Nat.le_succ _
             ·exact Nat.le_trans hHeld.size e
            simp only [List.length_cons,List.length_nil,Nat.zero_add]
            have HK2:=hHeld.trans (hk2.below (fun k hk=>by cases hk;first|exact HG1|exact Nat.le_refl _|exact Nat.le_succ _) hHeld.size)
            refine hK.out _ _ (HK2) (fun hNext=>?_)
            clear hK K hHeld
            have hHeld:=hNext
            clear hNext
            clear HK2
            try simp only [Act.put,List.setIfInBounds_toArray,List.set_cons_zero,List.set_cons_succ,List.getElem_toArray,List.getElem_cons_zero,List.getElem_cons_succ]
            refine wpAnyH_take (i:=6) (v:=?_) rfl (by kernel_rfl) (by kernel_rfl) (by kernel_rfl) (fun _ _ _ h=>h) (Or.inl ⟨by rfl,?_⟩) hHeld ?_
            rotate_left
            ·intro v9 hS9
             try dsimp only at hS9
             go_simp
             try with_reducible rfl
            try simp only [Act.put,List.setIfInBounds_toArray,List.set_cons_zero,List.set_cons_succ,List.getElem_toArray,List.getElem_cons_zero,List.getElem_cons_succ]
            refine wpAnyH_done (by kernel_rfl) ?_ _
            obtain ⟨a8,c8,hv8,hw8⟩:=ho2.form
            have ha8:a8=some ⟨g2,0,none⟩:=by injection hv8 with h1 h2 h3;exact h1.symm
            have HN8:Hid (Nodes wz (some ⟨g2,0,none⟩) (([]:List Nd)++[(⟨1,W,next,0,0,0⟩:Nd)])):=by
             rw [ha8] at hw8
             first|exact hw8.nodes|simpa using hw8.nodes
            have HB8:Hid (Below wq.heap.size wq wz):=hHeld
            clear hv8 hw8 ho2 hk2 hg2 hHeld ha8
            go_wp2_with fail
            go_meet
            case rel=>exact ⟨g2,cp2,(by first|rfl|simp),HG2,HN8.out,HB8.out⟩
        ·
         go_simp
         refine hK.out _ _ (hHeld.alloc hHeld.size _) (fun hNext=>?_)
         clear hK K hHeld
         have hHeld:=hNext
         clear hNext
         refine wpAnyH_ready (rs:=[0]) (by kernel_rfl) (by simp) ?_
         refine (AllReadyH.cons rfl (fun K hK=>?_) AllReadyH.nil)
         ·
          go_simp
          refine hK.out _ _ (hHeld.alloc hHeld.size _) (fun hNext=>?_)
          clear hK K hHeld
          have hHeld:=hNext
          clear hNext
          refine wpAnyH_ready (rs:=[2]) (by kernel_rfl) (by simp) ?_
          refine (AllReadyH.cons rfl (fun K hK=>?_) AllReadyH.nil)
          ·
           go_simp
           try go_wp2_with fail
           refine hK.out _ _ (hHeld) (fun hNext=>?_)
           clear hK K hHeld
           have hHeld:=hNext
           clear hNext
           refine wpAnyH_ready (rs:=[5]) (by kernel_rfl) (by simp) ?_
           refine (AllReadyH.cons rfl (fun K hK=>?_) AllReadyH.nil)
           ·
            refine step_app_nodes _ rfl _ _ rfl wq.heap.size (.slice (some ⟨(wq.heap.size+1),0,none⟩) 0 0) [] [(⟨1,W,next,0,0,0⟩:Nd)] wq.heap.size 0 1 rfl rfl (node_drew (node_kept (S:=fun _=>False) ((Kept.refl (fun _=>False) _).alloc _) (by simp) (fun e=>e) (node_new _ _ _ _ rfl))) (by simp) (own_lit _ _ _ (by simp) (by omega)) hHeld.size (by first|(simp;done)|(simp;omega)) ?_
            intro g2 cp2 wz ho2 hk2 hg2
            have HG2:wq.heap.size<=g2:=by
             rcases hg2 with e|e
             ·cases e;first|exact HG1|exact Nat.le_refl _|exact Nat.le_succ _
             ·exact Nat.le_trans hHeld.size e
            simp only [List.length_cons,List.length_nil,Nat.zero_add]
            have HK2:=hHeld.trans (hk2.below (fun k hk=>by cases hk;first|exact HG1|exact Nat.le_refl _|exact Nat.le_succ _) hHeld.size)
            refine hK.out _ _ (HK2) (fun hNext=>?_)
            clear hK K hHeld
            have hHeld:=hNext
            clear hNext
            clear HK2
            try simp only [Act.put,List.setIfInBounds_toArray,List.set_cons_zero,List.set_cons_succ,List.getElem_toArray,List.getElem_cons_zero,List.getElem_cons_succ]
            refine wpAnyH_take (i:=6) (v:=?_) rfl (by kernel_rfl) (by kernel_rfl) (by kernel_rfl) (fun _ _ _ h=>h) (Or.inl ⟨by rfl,?_⟩) hHeld ?_
            rotate_left
            ·intro v9 hS9
             try dsimp only at hS9
             go_simp
             try with_reducible rfl
            try simp only [Act.put,List.setIfInBounds_toArray,List.set_cons_zero,List.set_cons_succ,List.getElem_toArray,List.getElem_cons_zero,List.getElem_cons_succ]
            refine wpAnyH_done (by kernel_rfl) ?_ _
            obtain ⟨a8,c8,hv8,hw8⟩:=ho2.form
            have ha8:a8=some ⟨g2,0,none⟩:=by injection hv8 with h1 h2 h3;exact h1.symm
            have HN8:Hid (Nodes wz (some ⟨g2,0,none⟩) (([]:List Nd)++[(⟨1,W,next,0,0,0⟩:Nd)])):=by
             rw [ha8] at hw8
             first|exact hw8.nodes|simpa using hw8.nodes
            have HB8:Hid (Below wq.heap.size wq wz):=hHeld
            clear hv8 hw8 ho2 hk2 hg2 hHeld ha8
            go_wp2_with fail
            go_meet
            case rel=>exact ⟨g2,cp2,(by first|rfl|simp),HG2,HN8.out,HB8.out⟩
     ·
      have hvp:0 < vl.length:=by omega
      rcases HVQ.out.2 with h0|⟨vb,vo,rfl,hvc⟩
      ·omega
      refine wpAnyH_ready (rs:=[0,4]) (by kernel_rfl) (by simp) ?_
      refine (AllReadyH.cons rfl (fun K hK=>?_) (AllReadyH.cons rfl (fun K hK=>?_) AllReadyH.nil))
      ·
       go_simp
       refine hK.out _ _ (hHeld.alloc hHeld.size _) (fun hNext=>?_)
       clear hK K hHeld
       have hHeld:=hNext
       clear hNext
       refine wpAnyH_ready (rs:=[2,4]) (by kernel_rfl) (by simp) ?_
       refine (AllReadyH.cons rfl (fun K hK=>?_) (AllReadyH.cons rfl (fun K hK=>?_) AllReadyH.nil))
       ·
        refine step_app_nodes _ rfl _ _ rfl wq.heap.size (.slice (some ⟨wq.heap.size,0,none⟩) 0 0) [] vl vb vo vc rfl rfl (fun i hi=>(hvc i hi).below hHeld (hvc i hi).lt) hvp (own_lit _ _ _ rfl (Nat.le_refl _)) hHeld.size (by simp;omega) ?_
        intro g1 cp1 w1 ho1 hk1 hg1
        have HG1:wq.heap.size<=g1:=by
         rcases hg1 with e|e
         ·cases e;first|exact Nat.le_refl _|exact Nat.le_succ _
         ·exact Nat.le_trans hHeld.size e
        simp only [List.length_nil,Nat.zero_add,List.nil_append] at ho1
        simp only [List.length_nil,Nat.zero_add]
        have HK1:=hHeld.trans (hk1.below (fun k hk=>by cases hk;first|exact Nat.le_refl _|exact Nat.le_succ _) hHeld.size)
        refine hK.out _ _ (HK1) (fun hNext=>?_)
        clear hK K hHeld
        have hHeld:=hNext
        clear hNext
        clear HK1
        try simp only [Act.put,List.setIfInBounds_toArray,List.set_cons_zero,List.set_cons_succ,List.getElem_toArray,List.getElem_cons_zero,List.getElem_cons_succ]
        refine wpAnyH_ready (rs:=[4]) (by kernel_rfl) (by simp) ?_
        refine (AllReadyH.cons rfl (fun K hK=>?_) AllReadyH.nil)
        ·
         go_simp
         refine hK.out _ _ (hHeld.alloc hHeld.size _) (fun hNext=>?_)
         clear hK K hHeld
         have hHeld:=hNext
         clear hNext
         refine wpAnyH_ready (rs:=[5]) (by kernel_rfl) (by simp) ?_
         refine (AllReadyH.cons rfl (fun K hK=>?_) AllReadyH.nil)
         ·
          refine step_app_nodes _ rfl _ _ rfl wq.heap.size (.slice (some ⟨g1,0,none⟩) vl.length cp1) vl [(⟨1,W,next,0,0,0⟩:Nd)] w1.heap.size 0 1 rfl rfl (node_new _ _ _ _ rfl) (by simp) (World.ownsRow.alloc ho1 _) hHeld.size (by first|(simp;done)|(simp;omega)) ?_
          intro g2 cp2 wz ho2 hk2 hg2
          have HG2:wq.heap.size<=g2:=by
           rcases hg2 with e|e
           ·cases e;first|exact HG1|exact Nat.le_refl _|exact Nat.le_succ _
           ·exact Nat.le_trans hHeld.size e
          simp only [List.length_cons,List.length_nil,Nat.zero_add]
          have HK2:=hHeld.trans (hk2.below (fun k hk=>by cases hk;first|exact HG1|exact Nat.le_refl _|exact Nat.le_succ _) hHeld.size)
          refine hK.out _ _ (HK2) (fun hNext=>?_)
          clear hK K hHeld
          have hHeld:=hNext
          clear hNext
          clear HK2
          try simp only [Act.put,List.setIfInBounds_toArray,List.set_cons_zero,List.set_cons_succ,List.getElem_toArray,List.getElem_cons_zero,List.getElem_cons_succ]
          refine wpAnyH_take (i:=6) (v:=?_) rfl (by kernel_rfl) (by kernel_rfl) (by kernel_rfl) (fun _ _ _ h=>h) (Or.inl ⟨by rfl,?_⟩) hHeld ?_
          rotate_left
          ·intro v9 hS9
           try dsimp only at hS9
           go_simp
           try with_reducible rfl
          try simp only [Act.put,List.setIfInBounds_toArray,List.set_cons_zero,List.set_cons_succ,List.getElem_toArray,List.getElem_cons_zero,List.getElem_cons_succ]
          refine wpAnyH_done (by kernel_rfl) ?_ _
          obtain ⟨a8,c8,hv8,hw8⟩:=ho2.form
          have ha8:a8=some ⟨g2,0,none⟩:=by injection hv8 with h1 h2 h3;exact h1.symm
          have HN8:Hid (Nodes wz (some ⟨g2,0,none⟩) (vl++[(⟨1,W,next,0,0,0⟩:Nd)])):=by
           rw [ha8] at hw8
           first|exact hw8.nodes|simpa using hw8.nodes
          have HB8:Hid (Below wq.heap.size wq wz):=hHeld
          clear hv8 hw8 ho2 hk2 hg2 hHeld ha8
          go_wp2_with fail
          go_meet
          case rel=>exact ⟨g2,cp2,(by first|rfl|simp),HG2,HN8.out,HB8.out⟩
       ·
        go_simp
        refine hK.out _ _ (hHeld.alloc hHeld.size _) (fun hNext=>?_)
        clear hK K hHeld
        have hHeld:=hNext
        clear hNext
        refine wpAnyH_ready (rs:=[2]) (by kernel_rfl) (by simp) ?_
        refine (AllReadyH.cons rfl (fun K hK=>?_) AllReadyH.nil)
        ·
         refine step_app_nodes _ rfl _ _ rfl wq.heap.size (.slice (some ⟨wq.heap.size,0,none⟩) 0 0) [] vl vb vo vc rfl rfl (fun i hi=>(hvc i hi).below hHeld (hvc i hi).lt) hvp (World.ownsRow.alloc (own_lit _ _ _ rfl (Nat.le_refl _)) _) hHeld.size (by simp;omega) ?_
         intro g1 cp1 w1 ho1 hk1 hg1
         have HG1:wq.heap.size<=g1:=by
          rcases hg1 with e|e
          ·cases e;first|exact Nat.le_refl _|exact Nat.le_succ _
          ·exact Nat.le_trans hHeld.size e
         simp only [List.length_nil,Nat.zero_add,List.nil_append] at ho1
         simp only [List.length_nil,Nat.zero_add]
         have HK1:=hHeld.trans (hk1.below (fun k hk=>by cases hk;first|exact Nat.le_refl _|exact Nat.le_succ _) hHeld.size)
         refine hK.out _ _ (HK1) (fun hNext=>?_)
         clear hK K hHeld
         have hHeld:=hNext
         clear hNext
         clear HK1
         try simp only [Act.put,List.setIfInBounds_toArray,List.set_cons_zero,List.set_cons_succ,List.getElem_toArray,List.getElem_cons_zero,List.getElem_cons_succ]
         refine wpAnyH_ready (rs:=[5]) (by kernel_rfl) (by simp) ?_
         refine (AllReadyH.cons rfl (fun K hK=>?_) AllReadyH.nil)
         ·
          refine step_app_nodes _ rfl _ _ rfl wq.heap.size (.slice (some ⟨g1,0,none⟩) vl.length cp1) vl [(⟨1,W,next,0,0,0⟩:Nd)] (wq.heap.size+1) 0 1 rfl rfl (node_kept hk1 (by rw [sz2];omega) (own_ne (by omega)) (node_drew (node_new _ _ _ _ (by simp)))) (by simp) (ho1) hHeld.size (by first|(simp;done)|(simp;omega)) ?_
          intro g2 cp2 wz ho2 hk2 hg2
          have HG2:wq.heap.size<=g2:=by
           rcases hg2 with e|e
           ·cases e;first|exact HG1|exact Nat.le_refl _|exact Nat.le_succ _
           ·exact Nat.le_trans hHeld.size e
          simp only [List.length_cons,List.length_nil,Nat.zero_add]
          have HK2:=hHeld.trans (hk2.below (fun k hk=>by cases hk;first|exact HG1|exact Nat.le_refl _|exact Nat.le_succ _) hHeld.size)
          refine hK.out _ _ (HK2) (fun hNext=>?_)
          clear hK K hHeld
          have hHeld:=hNext
          clear hNext
          clear HK2
          try simp only [Act.put,List.setIfInBounds_toArray,List.set_cons_zero,List.set_cons_succ,List.getElem_toArray,List.getElem_cons_zero,List.getElem_cons_succ]
          refine wpAnyH_take (i:=6) (v:=?_) rfl (by kernel_rfl) (by kernel_rfl) (by kernel_rfl) (fun _ _ _ h=>h) (Or.inl ⟨by rfl,?_⟩) hHeld ?_
          rotate_left
          ·intro v9 hS9
           try dsimp only at hS9
           go_simp
           try with_reducible rfl
          try simp only [Act.put,List.setIfInBounds_toArray,List.set_cons_zero,List.set_cons_succ,List.getElem_toArray,List.getElem_cons_zero,List.getElem_cons_succ]
          refine wpAnyH_done (by kernel_rfl) ?_ _
          obtain ⟨a8,c8,hv8,hw8⟩:=ho2.form
          have ha8:a8=some ⟨g2,0,none⟩:=by injection hv8 with h1 h2 h3;exact h1.symm
          have HN8:Hid (Nodes wz (some ⟨g2,0,none⟩) (vl++[(⟨1,W,next,0,0,0⟩:Nd)])):=by
           rw [ha8] at hw8
           first|exact hw8.nodes|simpa using hw8.nodes
          have HB8:Hid (Below wq.heap.size wq wz):=hHeld
          clear hv8 hw8 ho2 hk2 hg2 hHeld ha8
          go_wp2_with fail
          go_meet
          case rel=>exact ⟨g2,cp2,(by first|rfl|simp),HG2,HN8.out,HB8.out⟩
      ·
       go_simp
       refine hK.out _ _ (hHeld.alloc hHeld.size _) (fun hNext=>?_)
       clear hK K hHeld
       have hHeld:=hNext
       clear hNext
       refine wpAnyH_ready (rs:=[0]) (by kernel_rfl) (by simp) ?_
       refine (AllReadyH.cons rfl (fun K hK=>?_) AllReadyH.nil)
       ·
        go_simp
        refine hK.out _ _ (hHeld.alloc hHeld.size _) (fun hNext=>?_)
        clear hK K hHeld
        have hHeld:=hNext
        clear hNext
        refine wpAnyH_ready (rs:=[2]) (by kernel_rfl) (by simp) ?_
        refine (AllReadyH.cons rfl (fun K hK=>?_) AllReadyH.nil)
        ·
         refine step_app_nodes _ rfl _ _ rfl wq.heap.size (.slice (some ⟨(wq.heap.size+1),0,none⟩) 0 0) [] vl vb vo vc rfl rfl (fun i hi=>(hvc i hi).below hHeld (hvc i hi).lt) hvp (own_lit _ _ _ (by simp) (by omega)) hHeld.size (by simp;omega) ?_
         intro g1 cp1 w1 ho1 hk1 hg1
         have HG1:wq.heap.size<=g1:=by
          rcases hg1 with e|e
          ·cases e;first|exact Nat.le_refl _|exact Nat.le_succ _
          ·exact Nat.le_trans hHeld.size e
         simp only [List.length_nil,Nat.zero_add,List.nil_append] at ho1
         simp only [List.length_nil,Nat.zero_add]
         have HK1:=hHeld.trans (hk1.below (fun k hk=>by cases hk;first|exact Nat.le_refl _|exact Nat.le_succ _) hHeld.size)
         refine hK.out _ _ (HK1) (fun hNext=>?_)
         clear hK K hHeld
         have hHeld:=hNext
         clear hNext
         clear HK1
         try simp only [Act.put,List.setIfInBounds_toArray,List.set_cons_zero,List.set_cons_succ,List.getElem_toArray,List.getElem_cons_zero,List.getElem_cons_succ]
         refine wpAnyH_ready (rs:=[5]) (by kernel_rfl) (by simp) ?_
         refine (AllReadyH.cons rfl (fun K hK=>?_) AllReadyH.nil)
         ·
          refine step_app_nodes _ rfl _ _ rfl wq.heap.size (.slice (some ⟨g1,0,none⟩) vl.length cp1) vl [(⟨1,W,next,0,0,0⟩:Nd)] wq.heap.size 0 1 rfl rfl (node_kept hk1 (by rw [sz2];omega) (own_ne (by omega)) (node_drew (node_kept (S:=fun _=>False) ((Kept.refl (fun _=>False) _).alloc _) (by simp) (fun e=>e) (node_new _ _ _ _ rfl)))) (by simp) (ho1) hHeld.size (by first|(simp;done)|(simp;omega)) ?_
          intro g2 cp2 wz ho2 hk2 hg2
          have HG2:wq.heap.size<=g2:=by
           rcases hg2 with e|e
           ·cases e;first|exact HG1|exact Nat.le_refl _|exact Nat.le_succ _
           ·exact Nat.le_trans hHeld.size e
          simp only [List.length_cons,List.length_nil,Nat.zero_add]
          have HK2:=hHeld.trans (hk2.below (fun k hk=>by cases hk;first|exact HG1|exact Nat.le_refl _|exact Nat.le_succ _) hHeld.size)
          refine hK.out _ _ (HK2) (fun hNext=>?_)
          clear hK K hHeld
          have hHeld:=hNext
          clear hNext
          clear HK2
          try simp only [Act.put,List.setIfInBounds_toArray,List.set_cons_zero,List.set_cons_succ,List.getElem_toArray,List.getElem_cons_zero,List.getElem_cons_succ]
          refine wpAnyH_take (i:=6) (v:=?_) rfl (by kernel_rfl) (by kernel_rfl) (by kernel_rfl) (fun _ _ _ h=>h) (Or.inl ⟨by rfl,?_⟩) hHeld ?_
          rotate_left
          ·intro v9 hS9
           try dsimp only at hS9
           go_simp
           try with_reducible rfl
          try simp only [Act.put,List.setIfInBounds_toArray,List.set_cons_zero,List.set_cons_succ,List.getElem_toArray,List.getElem_cons_zero,List.getElem_cons_succ]
          refine wpAnyH_done (by kernel_rfl) ?_ _
          obtain ⟨a8,c8,hv8,hw8⟩:=ho2.form
          have ha8:a8=some ⟨g2,0,none⟩:=by injection hv8 with h1 h2 h3;exact h1.symm
          have HN8:Hid (Nodes wz (some ⟨g2,0,none⟩) (vl++[(⟨1,W,next,0,0,0⟩:Nd)])):=by
           rw [ha8] at hw8
           first|exact hw8.nodes|simpa using hw8.nodes
          have HB8:Hid (Below wq.heap.size wq wz):=hHeld
          clear hv8 hw8 ho2 hk2 hg2 hHeld ha8
          go_wp2_with fail
          go_meet
          case rel=>exact ⟨g2,cp2,(by first|rfl|simp),HG2,HN8.out,HB8.out⟩
    case rest =>
     obtain ⟨g9,c9,rfl,hg9,hn9,hb9⟩:=hcut
     have HD32:Hid (Dr wc b a len cap v L):=HD30.out.below hb9
     have HS32:Hid (Stp b v v w wc):=HS30.out.trans (Stp.ofBelow hb9)
     have HV32:Hid (Vs wc b v va vl):=HV30.out.stp (Stp.ofBelow hb9)
     have HN32:Hid (Vs wc b v (some ⟨bv,0,none⟩) [(⟨1,W,next,0,0,0⟩:Nd)]):=HN30.out.stp (Stp.ofBelow hb9)
     have HM32:Hid (Vs wc b v (some ⟨g9,0,none⟩) (vl++[(⟨1,W,next,0,0,0⟩:Nd)])):=by
      refine ⟨hn9,fun x _ hx=>?_⟩
      cases hx
      have h1:=HD30.out.size
      refine ⟨by show g9≠b;omega,fun e=>?_,?_⟩
      ·have:=(HD30.out.own.lt _ e).2
       simp at this;omega
      ·rcases hn9.2 with h0|⟨b',o',he,hc'⟩
       ·simp at h0
       ·cases he;exact (hc' 0 (by simp)).lt
     have HVW2:Hid (∀ i (h:i < (vl++[(⟨1,W,next,0,0,0⟩:Nd)]).length),1<=(vl++[(⟨1,W,next,0,0,0⟩:Nd)])[i].w/\(vl++[(⟨1,W,next,0,0,0⟩:Nd)])[i].w<=8):=by
      show ∀ _,_
      intro i h
      by_cases e:i < vl.length
      ·rw [List.getElem_append_left e];exact HVW.out i e
      ·rw [List.getElem_append_right (by omega)]
       simp;omega
     have HLN:Hid ((vl++[(⟨1,W,next,0,0,0⟩:Nd)]).length=vl.length+1):=by show _=_;simp
     clear hg9 hn9 hb9
     rw [<- HLN.out]
     have hln2:((vl++[(⟨1,W,next,0,0,0⟩:Nd)]).length:Int)<=next+1:=by rw [HLN.out];omega
     generalize vl++[(⟨1,W,next,0,0,0⟩:Nd)]=vm at HM32 HVW2 HLN hln2 ⊢
     go_wp2_with fail
     refine (IH.out _ b a len cap v L _ vm _ _ _ _ (by have:=HDD.out;omega) HD32.out HM32.out HVW2.out hln2 (by omega) (by omega) (by omega) (by have h9:=HBD.out;omega)).mono ?_
     rintro e w33 ⟨v33,L33,at33,n33,lf33,rfl,hd,hs,hl,hn33,hm33,hp33,hq33⟩
     have HD33:Hid (Dr w33 b a len cap v33 L33):=hd
     have HS33:Hid (Stp b v v33 w w33):=HS32.out.trans hs
     have HV33:Hid (Vs w33 b v33 va vl):=HV32.out.stp hs
     have HN33:Hid (Vs w33 b v33 (some ⟨bv,0,none⟩) [(⟨1,W,next,0,0,0⟩:Nd)]):=HN32.out.stp hs
     have HM33:Hid (Vs w33 b v33 (some ⟨g9,0,none⟩) vm):=HM32.out.stp hs
     have HL33:Hid (L33.length<=L.length+gd d):=by
      show _<=_;omega
     clear hd hs hl
     have p2:w33.cell? ⟨bv,2,none⟩=some (.int .i64 next):=by
      rcases HN33.out.1.2 with h0|⟨b',o',he,hc'⟩
      ·simp at h0
      ·cases he
       have h9:=(hc' 0 (by simp)).c2
       simpa using h9
     go_wp2_with fail
     refine (push _ b a len cap v33 L33 ⟨19+x30,1,next,at33,W,0⟩ HD33.out (by have h8:=HL33.out;have h9:=HBD.out;omega)).mono ?_
     rintro e w34 ⟨v34,rfl,hd,hs⟩
     have HD34:Hid (Dr w34 b a len cap v34 (L33++[⟨19+x30,1,next,at33,W,0⟩])):=hd
     have HS34:Hid (Stp b v v34 w w34):=HS33.out.trans hs
     clear hd hs
     go_wp2
     refine bodyPost_ret (v:=.tuple #[v34,.int .i64 (L33.length:Int),.int .i64 n33,.int .i64 lf33]) (by simp [results,Tryz.results120,go_sem]) rfl ?_
     exact ⟨_,_,_,_,_,rfl,HD34.out,HS34.out,by have h8:=HL33.out;have h9:=HGD.out;rw [List.length_append,List.length_singleton];omega,by omega,hm33,hp33,by omega⟩
end Dw4
end Go.Proofs.YthanhcobfehmnaaGreat
