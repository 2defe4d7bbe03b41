import Derived.Deep.CutRange
import Derived.Test.YthanhcobfehmnaaGreatPkQU21
namespace Go.Proofs.YthanhcobfehmnaaGreat
set_option maxRecDepth 100000
set_option maxHeartbeats 8000000
set_option linter.unusedVariables false
namespace Dw2
open Go.RowKit
open Nd0 Nd3 Ap0 Ap2 Dw0 Dw1 Pl1
open Dr0 (Cur Only Bytes Off)
open Dr1 (once below)
open Ws1 (spow)
def fd:Nat->Nat
 | 0=>1
 | d+1=>3*fd d+1
theorem fd_pos (d:Nat):1<=fd d:=by cases d<;>simp [fd]
theorem fd_ge (d:Nat):d+1<=fd d:=by
 induction d with
 | zero=>simp [fd]
 | succ d ih=>simp [fd];omega
def DPost (b:Nat) (a:Option Addr) (len cap:Nat) (v:Value) (L:List Nd) (D:Nat) (w:World) (e:Ending) (w':World):Prop :=
 ∃ (v':Value) (L':List Nd) (at_:Int),e=.returned (.tuple #[v',.int .i64 at_])/\Dr w' b a len cap v' L'/\Stp b v v' w w'/\L'.length<=L.length+D
def DeepC (d:Nat):Prop:=∀ (w:World) (b:Nat) (a:Option Addr) (len cap:Nat) (v:Value) (L:List Nd) (va:Option Addr) (vl:List Nd) (vc:Nat) (wd D:Int),D=(d:Int)->Dr w b a len cap v L->Vs w b v va vl->(∀ i (h:i < vl.length),1<=vl[i].w/\vl[i].w<=8)->vl.length<=8->1<=wd->wd<=8->L.length+fd d<=1048576 ->
 Calls Tryz.prog 158 #[.pointer (some ⟨b,0,none⟩),v,.slice va vl.length vc,.int .i64 wd,.int .i64 D] w (DPost b a len cap v L (fd d) w)
theorem deepAny (dd:Nat) (hIH:∀ d,dd=d+1->DeepC d):DeepC dd:=by
 intro w b a len cap v L va vl vc wd D hD hdr hvs hvw hvl hw1 hw2 hbd
 obtain ⟨ta,tc,rfl⟩:=hdr.slice
 have HD0:Hid (Dr w b a len cap (Value.slice ta L.length tc) L):=hdr
 have HV0:Hid (Vs w b (Value.slice ta L.length tc) va vl):=hvs
 have HVW:Hid (∀ i (h:i < vl.length),1<=vl[i].w/\vl[i].w<=8):=hvw
 have HBD0:Hid (L.length+fd dd<=1048576):=hbd
 have HIH:Hid (∀ d,dd=d+1->DeepC d):=hIH
 have HFP:=fd_pos dd
 have HDQ:Hid (D=(dd:Int)):=hD
 have HBW:Hid (b < w.heap.size):=hdr.size
 have hLm:L.length<=1048576:=by omega
 clear hdr hvs hvw hIH hbd HFP hD
 go_enter Tryz.func158,Tryz.ntmps158
 go_wp2
 go_loopw [12,13] (fun u q wr=>∃ (k:Nat) (sl:List Int),k<=vl.length/\q=.int .i64 k/\Ows wr w.heap.size u sl/\sl.length<=k/\(∀ j (h:j < sl.length),0<=sl[j]/\sl[j] < (vl.length:Int))/\Below w.heap.size w wr) (fun _ q _=>vl.length - (intOf q).toNat)
 case atStart=>exact ⟨0,[],Nat.zero_le _,rfl,Ows.lit w _ (Nat.le_refl _),Nat.le_refl _,fun j h=>absurd h (Nat.not_lt_zero _),(Below.refl _ _).alloc (Nat.le_refl _) _⟩
 case round =>
  obtain ⟨k,sl,hk,rfl,ho,hsl,hsi,hb⟩:=hrel
  have HO:Hid (Ows wr w.heap.size u12 sl):=ho
  have HSI:Hid (∀ j (h:j < sl.length),0<=sl[j]/\sl[j] < (vl.length:Int)):=hsi
  have HB:Hid (Below w.heap.size w wr):=hb
  have hBs:w.heap.size<=wr.heap.size:=hb.size
  clear hsi hb
  by_cases hlt:k < vl.length
  ·clear ho
   have hlz:(k:Int) < (vl.length:Int):=by omega
   rcases (HV0.out.1.below HB.out).2 with h0|⟨vb,vo,rfl,hvc⟩
   ·omega
   have p1:=(hvc k hlt).c1
   clear hvc
   generalize vl[k].w=z at p1
   cases hz:(z==wd)
   ·go_wp2
    go_roundw
    case rel=>exact ⟨k+1,sl,by omega,by go_num,HO.out,by omega,HSI.out,HB.out⟩
    case measure=>simp [intOf];omega
   ·have hz':z=wd:=by simpa using hz
    subst hz'
    clear hz
    go_wp2_with (at_builtin;go_must (refine app_int _ rfl _ _ rfl w.heap.size u12 sl (k:Int) rfl rfl HO.out hBs (by omega) ?_;intro g' cp w9 ho9 hk9 hg9))
    have HO9:Hid (Ows w9 w.heap.size (.slice (some ⟨g',0,none⟩) (sl.length+1) cp) (sl++[(k:Int)])):=ho9
    have HK9:Hid (Kept (fun k=>u12.ownBlock=some k) wr w9):=hk9
    clear ho9 hk9 hg9
    go_wp2
    go_roundw
    case rel =>
     refine ⟨k+1,sl++[(k:Int)],by omega,by go_num,HO9.out,by rw [List.length_append];simp;omega,fun j h=>?_,HB.out.trans (HK9.out.below (fun k hk=>(HO.out.lt k hk).1) hBs)⟩
     by_cases e:j < sl.length
     ·rw [List.getElem_append_left e];exact HSI.out j e
     ·rw [List.getElem_append_right (by omega)]
      simp;omega
    case measure=>simp [intOf];omega
  ·have hlz:¬ (k:Int) < (vl.length:Int):=by omega
   obtain ⟨sa,sc,rfl,hwi⟩:=ho.form
   obtain ⟨U,hU⟩:∃ U:Nat,U=wr.heap.size:=⟨_,rfl⟩
   have HM1:Hid (IntsIn wr w.heap.size U sa sl):=by rw [hU];exact hwi.within
   have HD1:Hid (Dr wr b a len cap (Value.slice ta L.length tc) L):=HD0.out.below HB.out
   have HS1:Hid (Stp b (Value.slice ta L.length tc) (Value.slice ta L.length tc) w wr):=Stp.ofBelow HB.out
   have HV1:Hid (Vs wr b (Value.slice ta L.length tc) va vl):=HV0.out.stp (Stp.ofBelow HB.out)
   have HSL:Hid (sl.length<=8):=by show _<=_;omega
   clear ho hwi hU HO HB hBs hsl HD0 HV0
   obtain ⟨w1,rfl⟩:∃ w1:World,w1=wr:=⟨_,rfl⟩
   go_upto_region 7 with fail
   go_cut [48] from 38 to 48 (fun s48 wc=>∃ x:Bool,s48=.bool x/\(x=false->∃ d,dd=d+1)/\Dr wc b a len cap (Value.slice ta L.length tc) L/\Stp b (Value.slice ta L.length tc) (Value.slice ta L.length tc) w wc/\Vs wc b (Value.slice ta L.length tc) va vl/\IntsIn wc w.heap.size U sa sl)
   case first =>
    cases dd with
    | zero =>
      have hD0:(D==0)=true:=by have:=HDQ.out;simp;omega
      go_wp2_with fail
      go_meet
      case rel=>exact ⟨true,rfl,fun h=>(by cases h),HD1.out,HS1.out,HV1.out,HM1.out⟩
    | succ d =>
      have hD0:(D==0)=false:=by have:=HDQ.out;simp;omega
      by_cases h40:40 < L.length
      ·have h41:(40:Int) < (L.length:Int):=by omega
       go_wp2_with fail
       go_meet
       case rel=>exact ⟨true,rfl,fun h=>(by cases h),HD1.out,HS1.out,HV1.out,HM1.out⟩
      ·have h41:¬ (40:Int) < (L.length:Int):=by omega
       go_wp2_with fail
       refine (once _ b a len cap 5 (by omega) (by omega) HD1.out.cur).mono ?_
       rintro e w4 ⟨⟨x4,rfl⟩,hc',ho'⟩
       have HD4:Hid (Dr w4 b a len cap (Value.slice ta L.length tc) L):=HD1.out.only hc' ho'
       have HS4:Hid (Stp b (Value.slice ta L.length tc) (Value.slice ta L.length tc) w w4):=HS1.out.trans (Stp.only ho')
       have HV4:Hid (Vs w4 b (Value.slice ta L.length tc) va vl):=HV1.out.stp (Stp.only ho')
       have HM4:Hid (IntsIn w4 w.heap.size U sa sl):=HM1.out.kept (only_kept ho') (fun k h1 h2 e=>by have:=HBW.out;omega)
       clear hc' ho'
       go_wp2_with fail
       go_meet
       case rel=>exact ⟨x4,rfl,fun _=>⟨d,rfl⟩,HD4.out,HS4.out,HV4.out,HM4.out⟩
   case rest =>
    obtain ⟨x,rfl,hxd,hd,hs,hv,hm⟩:=hcut
    have HD2:Hid (Dr wc b a len cap (Value.slice ta L.length tc) L):=hd
    have HS2:Hid (Stp b (Value.slice ta L.length tc) (Value.slice ta L.length tc) w wc):=hs
    have HV2:Hid (Vs wc b (Value.slice ta L.length tc) va vl):=hv
    have HM2:Hid (IntsIn wc w.heap.size U sa sl):=hm
    have HXD:Hid (x=false->∃ d,dd=d+1):=hxd
    clear hd hs hv hm hxd HD1 HS1 HV1 HM1
    obtain ⟨w2,rfl⟩:∃ w2:World,w2=wc:=⟨_,rfl⟩
    cases x
    ·obtain ⟨d,rfl⟩:=HXD.out rfl
     have IH:Hid (DeepC d):=HIH.out d rfl
     have HFD0:fd (d+1)=3*fd d+1:=rfl
     have HFD:Hid (fd (d+1)=3*fd d+1):=HFD0
     have HBD:Hid (L.length+(3*fd d+1)<=1048576):=HBD0.out
     have HDD:Hid (D=(d:Int)+1):=by have:=HDQ.out;show _=_;omega
     have hD1:1<=D:=by have:=HDD.out;omega
     have hD2:D<=1048576:=by have:=fd_ge d;have:=HBD.out;have:=HDD.out;omega
     clear HFD0 HM2 HSI HSL
     go_upto_region 12 with fail
     go_cut [91] from 81 to 91 (fun s91 wc=>∃ x:Bool,s91=.bool x/\(x=true->wd=1/\0 < vl.length)/\Dr wc b a len cap (Value.slice ta L.length tc) L/\Stp b (Value.slice ta L.length tc) (Value.slice ta L.length tc) w wc/\Vs wc b (Value.slice ta L.length tc) va vl)
     case first =>
      by_cases hwd1:wd=1
      ·by_cases hv0:vl.length=0
       ·have hv1:¬ (0:Int) < (vl.length:Int):=by omega
        clear hv0
        subst hwd1
        go_wp2_with fail
        go_meet
        case rel=>exact ⟨false,rfl,fun h=>(by cases h),HD2.out,HS2.out,HV2.out⟩
       ·have hv1:(0:Int) < (vl.length:Int):=by omega
        subst hwd1
        go_wp2_with fail
        refine (once _ b a len cap 2 (by omega) (by omega) HD2.out.cur).mono ?_
        rintro e w11 ⟨⟨x11,rfl⟩,hc',ho'⟩
        have HD11:Hid (Dr w11 b a len cap (Value.slice ta L.length tc) L):=HD2.out.only hc' ho'
        have HS11:Hid (Stp b (Value.slice ta L.length tc) (Value.slice ta L.length tc) w w11):=HS2.out.trans (Stp.only ho')
        have HV11:Hid (Vs w11 b (Value.slice ta L.length tc) va vl):=HV2.out.stp (Stp.only ho')
        clear hc' ho'
        cases x11
        ·go_wp2_with fail
         go_meet
         case rel=>exact ⟨false,rfl,fun h=>(by cases h),HD11.out,HS11.out,HV11.out⟩
        ·go_wp2_with fail
         go_meet
         case rel=>exact ⟨true,rfl,fun _=>⟨(by first|rfl|trivial),by omega⟩,HD11.out,HS11.out,HV11.out⟩
      ·have hwb:(wd==1)=false:=by simpa using hwd1
       go_wp2_with fail
       go_meet
       case rel=>exact ⟨false,rfl,fun h=>(by cases h),HD2.out,HS2.out,HV2.out⟩
     case rest =>
      obtain ⟨x,rfl,hxw,hd,hs,hv⟩:=hcut
      have HD12:Hid (Dr wc b a len cap (Value.slice ta L.length tc) L):=hd
      have HS12:Hid (Stp b (Value.slice ta L.length tc) (Value.slice ta L.length tc) w wc):=hs
      have HV12:Hid (Vs wc b (Value.slice ta L.length tc) va vl):=hv
      have HXW:Hid (x=true->wd=1/\0 < vl.length):=hxw
      clear hd hs hv hxw HD2 HS2 HV2
      cases x
      ·
       go_wp2_with fail
       refine (below _ b a len cap 8 (by omega) (by omega) HD12.out.cur).mono ?_
       rintro e w13 ⟨⟨x13,rfl,hx13,hy13⟩,hc',ho'⟩
       have HD13:Hid (Dr w13 b a len cap (Value.slice ta L.length tc) L):=HD12.out.only hc' ho'
       have HS13:Hid (Stp b (Value.slice ta L.length tc) (Value.slice ta L.length tc) w w13):=HS12.out.trans (Stp.only ho')
       have HV13:Hid (Vs w13 b (Value.slice ta L.length tc) va vl):=HV12.out.stp (Stp.only ho')
       clear hc' ho'
       by_cases e0:x13=0
       ·
        have t0:(x13==0)=true:=by simpa using e0
        clear e0
        go_wp2_with fail
        refine (IH.out _ b a len cap (Value.slice ta L.length tc) L va vl vc _ _ (by have:=HDD.out;omega) HD13.out HV13.out HVW.out hvl (by omega) (by omega) (by have h9:=HBD.out;omega)).mono ?_
        rintro e w14 ⟨v14,L14,at14,rfl,hd,hs,hl⟩
        have HD14:Hid (Dr w14 b a len cap v14 L14):=hd
        have HS14:Hid (Stp b (Value.slice ta L.length tc) v14 w w14):=HS13.out.trans hs
        have HV14:Hid (Vs w14 b v14 va vl):=HV13.out.stp hs
        have HL14:Hid (L14.length<=L.length+fd d):=by
         show _<=_;omega
        clear hd hs hl
        go_wp2_with fail
        refine (push _ b a len cap v14 L14 ⟨2,wd,0,at14,0,0⟩ HD14.out (by have h8:=HL14.out;have h9:=HBD.out;omega)).mono ?_
        rintro e w15 ⟨v15,rfl,hd,hs⟩
        have HD15:Hid (Dr w15 b a len cap v15 (L14++[⟨2,wd,0,at14,0,0⟩])):=hd
        have HS15:Hid (Stp b (Value.slice ta L.length tc) v15 w w15):=HS14.out.trans hs
        clear hd hs
        go_wp2
        refine bodyPost_ret (v:=.tuple #[v15,.int .i64 (L14.length:Int)]) (by simp [results,Tryz.results158,go_sem]) rfl ?_
        exact ⟨_,_,_,rfl,HD15.out,HS15.out,by have h8:=HL14.out;have h9:=HFD.out;rw [List.length_append,List.length_singleton];omega⟩
       have t0:(x13==0)=false:=by simpa using e0
       by_cases e1:x13=1
       ·
        have t1:(x13==1)=true:=by simpa using e1
        clear e1 e0 t0
        by_cases hw1:1 < wd
        ·
         go_wp2_with fail
         refine (below _ b a len cap _ (by omega) (by omega) HD13.out.cur).mono ?_
         rintro e w16 ⟨⟨x16,rfl,hx16,hy16⟩,hc',ho'⟩
         have HD16:Hid (Dr w16 b a len cap (Value.slice ta L.length tc) L):=HD13.out.only hc' ho'
         have HS16:Hid (Stp b (Value.slice ta L.length tc) (Value.slice ta L.length tc) w w16):=HS13.out.trans (Stp.only ho')
         have HV16:Hid (Vs w16 b (Value.slice ta L.length tc) va vl):=HV13.out.stp (Stp.only ho')
         clear hc' ho'
         go_wp2_with fail
         refine (IH.out _ b a len cap (Value.slice ta L.length tc) L va vl vc _ _ (by have:=HDD.out;omega) HD16.out HV16.out HVW.out hvl (by omega) (by omega) (by have h9:=HBD.out;omega)).mono ?_
         rintro e w17 ⟨v17,L17,at17,rfl,hd,hs,hl⟩
         have HD17:Hid (Dr w17 b a len cap v17 L17):=hd
         have HS17:Hid (Stp b (Value.slice ta L.length tc) v17 w w17):=HS16.out.trans hs
         have HV17:Hid (Vs w17 b v17 va vl):=HV16.out.stp hs
         have HL17:Hid (L17.length<=L.length+fd d):=by
          show _<=_;omega
         clear hd hs hl
         go_wp2_with fail
         refine (IH.out _ b a len cap v17 L17 va vl vc _ _ (by have:=HDD.out;omega) HD17.out HV17.out HVW.out hvl (by omega) (by omega) (by have h8:=HL17.out;have h9:=HBD.out;omega)).mono ?_
         rintro e w18 ⟨v18,L18,at18,rfl,hd,hs,hl⟩
         have HD18:Hid (Dr w18 b a len cap v18 L18):=hd
         have HS18:Hid (Stp b (Value.slice ta L.length tc) v18 w w18):=HS17.out.trans hs
         have HV18:Hid (Vs w18 b v18 va vl):=HV17.out.stp hs
         have HL18:Hid (L18.length<=L.length+(fd d+fd d)):=by
          have h8:=HL17.out;show _<=_;omega
         clear hd hs hl
         go_wp2_with fail
         refine (push _ b a len cap v18 L18 ⟨16,wd,0,at17,at18,0⟩ HD18.out (by have h8:=HL18.out;have h9:=HBD.out;omega)).mono ?_
         rintro e w19 ⟨v19,rfl,hd,hs⟩
         have HD19:Hid (Dr w19 b a len cap v19 (L18++[⟨16,wd,0,at17,at18,0⟩])):=hd
         have HS19:Hid (Stp b (Value.slice ta L.length tc) v19 w w19):=HS18.out.trans hs
         clear hd hs
         go_wp2
         refine bodyPost_ret (v:=.tuple #[v19,.int .i64 (L18.length:Int)]) (by simp [results,Tryz.results158,go_sem]) rfl ?_
         exact ⟨_,_,_,rfl,HD19.out,HS19.out,by have h8:=HL18.out;have h9:=HFD.out;rw [List.length_append,List.length_singleton];omega⟩
        ·
         go_wp2_with fail
         refine (IH.out _ b a len cap (Value.slice ta L.length tc) L va vl vc _ _ (by have:=HDD.out;omega) HD13.out HV13.out HVW.out hvl (by omega) (by omega) (by have h9:=HBD.out;omega)).mono ?_
         rintro e w20 ⟨v20,L20,at20,rfl,hd,hs,hl⟩
         have HD20:Hid (Dr w20 b a len cap v20 L20):=hd
         have HS20:Hid (Stp b (Value.slice ta L.length tc) v20 w w20):=HS13.out.trans hs
         have HV20:Hid (Vs w20 b v20 va vl):=HV13.out.stp hs
         have HL20:Hid (L20.length<=L.length+fd d):=by
          show _<=_;omega
         clear hd hs hl
         go_wp2_with fail
         refine (IH.out _ b a len cap v20 L20 va vl vc _ _ (by have:=HDD.out;omega) HD20.out HV20.out HVW.out hvl (by omega) (by omega) (by have h8:=HL20.out;have h9:=HBD.out;omega)).mono ?_
         rintro e w21 ⟨v21,L21,at21,rfl,hd,hs,hl⟩
         have HD21:Hid (Dr w21 b a len cap v21 L21):=hd
         have HS21:Hid (Stp b (Value.slice ta L.length tc) v21 w w21):=HS20.out.trans hs
         have HV21:Hid (Vs w21 b v21 va vl):=HV20.out.stp hs
         have HL21:Hid (L21.length<=L.length+(fd d+fd d)):=by
          have h8:=HL20.out;show _<=_;omega
         clear hd hs hl
         go_wp2_with fail
         refine (below _ b a len cap 10 (by omega) (by omega) HD21.out.cur).mono ?_
         rintro e w22 ⟨⟨x22,rfl,hx22,hy22⟩,hc',ho'⟩
         have HD22:Hid (Dr w22 b a len cap v21 L21):=HD21.out.only hc' ho'
         have HS22:Hid (Stp b (Value.slice ta L.length tc) v21 w w22):=HS21.out.trans (Stp.only ho')
         have HV22:Hid (Vs w22 b v21 va vl):=HV21.out.stp (Stp.only ho')
         clear hc' ho'
         have HL22:=HL21
         go_wp2_with fail
         refine (push _ b a len cap v21 L21 ⟨3+x22,wd,0,at20,at21,0⟩ HD22.out (by have h8:=HL22.out;have h9:=HBD.out;omega)).mono ?_
         rintro e w23 ⟨v23,rfl,hd,hs⟩
         have HD23:Hid (Dr w23 b a len cap v23 (L21++[⟨3+x22,wd,0,at20,at21,0⟩])):=hd
         have HS23:Hid (Stp b (Value.slice ta L.length tc) v23 w w23):=HS22.out.trans hs
         clear hd hs
         go_wp2
         refine bodyPost_ret (v:=.tuple #[v23,.int .i64 (L21.length:Int)]) (by simp [results,Tryz.results158,go_sem]) rfl ?_
         exact ⟨_,_,_,rfl,HD23.out,HS23.out,by have h8:=HL22.out;have h9:=HFD.out;rw [List.length_append,List.length_singleton];omega⟩
       have t1:(x13==1)=false:=by simpa using e1
       by_cases e2:x13=2
       ·
        have t2:(x13==2)=true:=by simpa using e2
        clear e2 e1 e0 t0 t1
        by_cases hv0:vl.length=0
        ·
         have hv1:¬ (0:Int) < (vl.length:Int):=by omega
         clear hv0
         go_wp2_with fail
         refine (IH.out _ b a len cap (Value.slice ta L.length tc) L va vl vc _ _ (by have:=HDD.out;omega) HD13.out HV13.out HVW.out hvl (by omega) (by omega) (by have h9:=HBD.out;omega)).mono ?_
         rintro e w24 ⟨v24,L24,at24,rfl,hd,hs,hl⟩
         have HD24:Hid (Dr w24 b a len cap v24 L24):=hd
         have HS24:Hid (Stp b (Value.slice ta L.length tc) v24 w w24):=HS13.out.trans hs
         have HV24:Hid (Vs w24 b v24 va vl):=HV13.out.stp hs
         have HL24:Hid (L24.length<=L.length+fd d):=by
          show _<=_;omega
         clear hd hs hl
         go_wp2_with fail
         refine (IH.out _ b a len cap v24 L24 va vl vc _ _ (by have:=HDD.out;omega) HD24.out HV24.out HVW.out hvl (by omega) (by omega) (by have h8:=HL24.out;have h9:=HBD.out;omega)).mono ?_
         rintro e w25 ⟨v25,L25,at25,rfl,hd,hs,hl⟩
         have HD25:Hid (Dr w25 b a len cap v25 L25):=hd
         have HS25:Hid (Stp b (Value.slice ta L.length tc) v25 w w25):=HS24.out.trans hs
         have HV25:Hid (Vs w25 b v25 va vl):=HV24.out.stp hs
         have HL25:Hid (L25.length<=L.length+(fd d+fd d)):=by
          have h8:=HL24.out;show _<=_;omega
         clear hd hs hl
         go_wp2_with fail
         refine (below _ b a len cap 10 (by omega) (by omega) HD25.out.cur).mono ?_
         rintro e w26 ⟨⟨x26,rfl,hx26,hy26⟩,hc',ho'⟩
         have HD26:Hid (Dr w26 b a len cap v25 L25):=HD25.out.only hc' ho'
         have HS26:Hid (Stp b (Value.slice ta L.length tc) v25 w w26):=HS25.out.trans (Stp.only ho')
         have HV26:Hid (Vs w26 b v25 va vl):=HV25.out.stp (Stp.only ho')
         clear hc' ho'
         have HL26:=HL25
         go_wp2_with fail
         refine (push _ b a len cap v25 L25 ⟨3+x26,wd,0,at24,at25,0⟩ HD26.out (by have h8:=HL26.out;have h9:=HBD.out;omega)).mono ?_
         rintro e w27 ⟨v27,rfl,hd,hs⟩
         have HD27:Hid (Dr w27 b a len cap v27 (L25++[⟨3+x26,wd,0,at24,at25,0⟩])):=hd
         have HS27:Hid (Stp b (Value.slice ta L.length tc) v27 w w27):=HS26.out.trans hs
         clear hd hs
         go_wp2
         refine bodyPost_ret (v:=.tuple #[v27,.int .i64 (L25.length:Int)]) (by simp [results,Tryz.results158,go_sem]) rfl ?_
         exact ⟨_,_,_,rfl,HD27.out,HS27.out,by have h8:=HL26.out;have h9:=HFD.out;rw [List.length_append,List.length_singleton];omega⟩
        ·
         have hv1:(0:Int) < (vl.length:Int):=by omega
         go_wp2_with fail
         refine (below _ b a len cap _ (by omega) (by omega) HD13.out.cur).mono ?_
         rintro e w28 ⟨⟨x28,rfl,hx28,hy28⟩,hc',ho'⟩
         have HD28:Hid (Dr w28 b a len cap (Value.slice ta L.length tc) L):=HD13.out.only hc' ho'
         have HS28:Hid (Stp b (Value.slice ta L.length tc) (Value.slice ta L.length tc) w w28):=HS13.out.trans (Stp.only ho')
         have HV28:Hid (Vs w28 b (Value.slice ta L.length tc) va vl):=HV13.out.stp (Stp.only ho')
         clear hc' ho'
         obtain ⟨jx,rfl⟩:=Int.eq_ofNat_of_zero_le hx28
         have hjx:jx < vl.length:=by omega
         rcases HV28.out.1.2 with h0|⟨vb,vo,rfl,hvc⟩
         ·omega
         obtain ⟨p0,p1,p2,p3,p4,p5⟩:=hvc jx hjx
         have hwn:=HVW.out jx hjx
         generalize vl[jx]=n at p0 p1 p2 p3 p4 p5 hwn
         obtain ⟨hwn1,hwn2⟩:=hwn
         clear hvc
         by_cases hgt:wd < n.w
         ·
          go_wp2_with fail
          refine (IH.out _ b a len cap (Value.slice ta L.length tc) L _ vl vc _ _ (by have:=HDD.out;omega) HD28.out HV28.out HVW.out hvl (by omega) (by omega) (by have h9:=HBD.out;omega)).mono ?_
          rintro e w29 ⟨v29,L29,at29,rfl,hd,hs,hl⟩
          have HD29:Hid (Dr w29 b a len cap v29 L29):=hd
          have HS29:Hid (Stp b (Value.slice ta L.length tc) v29 w w29):=HS28.out.trans hs
          have HV29:Hid (Vs w29 b v29 (some ⟨vb,vo,none⟩) vl):=HV28.out.stp hs
          have HL29:Hid (L29.length<=L.length+fd d):=by
           show _<=_;omega
          clear hd hs hl
          go_wp2_with fail
          refine (below _ b a len cap _ (by omega) (by omega) HD29.out.cur).mono ?_
          rintro e w30 ⟨⟨x30,rfl,hx30,hy30⟩,hc',ho'⟩
          have HD30:Hid (Dr w30 b a len cap v29 L29):=HD29.out.only hc' ho'
          have HS30:Hid (Stp b (Value.slice ta L.length tc) v29 w w30):=HS29.out.trans (Stp.only ho')
          have HV30:Hid (Vs w30 b v29 (some ⟨vb,vo,none⟩) vl):=HV29.out.stp (Stp.only ho')
          clear hc' ho'
          have HL30:=HL29
          go_wp2_with fail
          refine (push _ b a len cap v29 L29 ⟨17,wd,x30,at29,0,0⟩ HD30.out (by have h8:=HL30.out;have h9:=HBD.out;omega)).mono ?_
          rintro e w31 ⟨v31,rfl,hd,hs⟩
          have HD31:Hid (Dr w31 b a len cap v31 (L29++[⟨17,wd,x30,at29,0,0⟩])):=hd
          have HS31:Hid (Stp b (Value.slice ta L.length tc) v31 w w31):=HS30.out.trans hs
          clear hd hs
          go_wp2
          refine bodyPost_ret (v:=.tuple #[v31,.int .i64 (L29.length:Int)]) (by simp [results,Tryz.results158,go_sem]) rfl ?_
          exact ⟨_,_,_,rfl,HD31.out,HS31.out,by have h8:=HL30.out;have h9:=HFD.out;rw [List.length_append,List.length_singleton];omega⟩
         ·
          go_wp2_with fail
          refine (IH.out _ b a len cap (Value.slice ta L.length tc) L _ vl vc _ _ (by have:=HDD.out;omega) HD28.out HV28.out HVW.out hvl (by omega) (by omega) (by have h9:=HBD.out;omega)).mono ?_
          rintro e w32 ⟨v32,L32,at32,rfl,hd,hs,hl⟩
          have HD32:Hid (Dr w32 b a len cap v32 L32):=hd
          have HS32:Hid (Stp b (Value.slice ta L.length tc) v32 w w32):=HS28.out.trans hs
          have HV32:Hid (Vs w32 b v32 (some ⟨vb,vo,none⟩) vl):=HV28.out.stp hs
          have HL32:Hid (L32.length<=L.length+fd d):=by
           show _<=_;omega
          clear hd hs hl
          go_wp2_with fail
          refine (IH.out _ b a len cap v32 L32 _ vl vc _ _ (by have:=HDD.out;omega) HD32.out HV32.out HVW.out hvl (by omega) (by omega) (by have h8:=HL32.out;have h9:=HBD.out;omega)).mono ?_
          rintro e w33 ⟨v33,L33,at33,rfl,hd,hs,hl⟩
          have HD33:Hid (Dr w33 b a len cap v33 L33):=hd
          have HS33:Hid (Stp b (Value.slice ta L.length tc) v33 w w33):=HS32.out.trans hs
          have HV33:Hid (Vs w33 b v33 (some ⟨vb,vo,none⟩) vl):=HV32.out.stp hs
          have HL33:Hid (L33.length<=L.length+(fd d+fd d)):=by
           have h8:=HL32.out;show _<=_;omega
          clear hd hs hl
          go_wp2_with fail
          refine (below _ b a len cap 10 (by omega) (by omega) HD33.out.cur).mono ?_
          rintro e w34 ⟨⟨x34,rfl,hx34,hy34⟩,hc',ho'⟩
          have HD34:Hid (Dr w34 b a len cap v33 L33):=HD33.out.only hc' ho'
          have HS34:Hid (Stp b (Value.slice ta L.length tc) v33 w w34):=HS33.out.trans (Stp.only ho')
          have HV34:Hid (Vs w34 b v33 (some ⟨vb,vo,none⟩) vl):=HV33.out.stp (Stp.only ho')
          clear hc' ho'
          have HL34:=HL33
          go_wp2_with fail
          refine (push _ b a len cap v33 L33 ⟨3+x34,wd,0,at32,at33,0⟩ HD34.out (by have h8:=HL34.out;have h9:=HBD.out;omega)).mono ?_
          rintro e w35 ⟨v35,rfl,hd,hs⟩
          have HD35:Hid (Dr w35 b a len cap v35 (L33++[⟨3+x34,wd,0,at32,at33,0⟩])):=hd
          have HS35:Hid (Stp b (Value.slice ta L.length tc) v35 w w35):=HS34.out.trans hs
          clear hd hs
          go_wp2
          refine bodyPost_ret (v:=.tuple #[v35,.int .i64 (L33.length:Int)]) (by simp [results,Tryz.results158,go_sem]) rfl ?_
          exact ⟨_,_,_,rfl,HD35.out,HS35.out,by have h8:=HL34.out;have h9:=HFD.out;rw [List.length_append,List.length_singleton];omega⟩
       have t2:(x13==2)=false:=by simpa using e2
       by_cases e3:x13=3
       ·
        have t3:(x13==3)=true:=by simpa using e3
        clear e3 e2 e1 e0 t0 t1 t2
        go_wp2_with fail
        refine (IH.out _ b a len cap (Value.slice ta L.length tc) L va vl vc _ _ (by have:=HDD.out;omega) HD13.out HV13.out HVW.out hvl (by omega) (by omega) (by have h9:=HBD.out;omega)).mono ?_
        rintro e w36 ⟨v36,L36,at36,rfl,hd,hs,hl⟩
        have HD36:Hid (Dr w36 b a len cap v36 L36):=hd
        have HS36:Hid (Stp b (Value.slice ta L.length tc) v36 w w36):=HS13.out.trans hs
        have HV36:Hid (Vs w36 b v36 va vl):=HV13.out.stp hs
        have HL36:Hid (L36.length<=L.length+fd d):=by
         show _<=_;omega
        clear hd hs hl
        go_wp2_with fail
        refine (IH.out _ b a len cap v36 L36 va vl vc _ _ (by have:=HDD.out;omega) HD36.out HV36.out HVW.out hvl (by omega) (by omega) (by have h8:=HL36.out;have h9:=HBD.out;omega)).mono ?_
        rintro e w37 ⟨v37,L37,at37,rfl,hd,hs,hl⟩
        have HD37:Hid (Dr w37 b a len cap v37 L37):=hd
        have HS37:Hid (Stp b (Value.slice ta L.length tc) v37 w w37):=HS36.out.trans hs
        have HV37:Hid (Vs w37 b v37 va vl):=HV36.out.stp hs
        have HL37:Hid (L37.length<=L.length+(fd d+fd d)):=by
         have h8:=HL36.out;show _<=_;omega
        clear hd hs hl
        go_wp2_with fail
        refine (IH.out _ b a len cap v37 L37 va vl vc _ _ (by have:=HDD.out;omega) HD37.out HV37.out HVW.out hvl (by omega) (by omega) (by have h8:=HL37.out;have h9:=HBD.out;omega)).mono ?_
        rintro e w38 ⟨v38,L38,at38,rfl,hd,hs,hl⟩
        have HD38:Hid (Dr w38 b a len cap v38 L38):=hd
        have HS38:Hid (Stp b (Value.slice ta L.length tc) v38 w w38):=HS37.out.trans hs
        have HV38:Hid (Vs w38 b v38 va vl):=HV37.out.stp hs
        have HL38:Hid (L38.length<=L.length+((fd d+fd d)+fd d)):=by
         have h8:=HL37.out;show _<=_;omega
        clear hd hs hl
        go_wp2_with fail
        refine (push _ b a len cap v38 L38 ⟨18,wd,0,at36,at37,at38⟩ HD38.out (by have h8:=HL38.out;have h9:=HBD.out;omega)).mono ?_
        rintro e w39 ⟨v39,rfl,hd,hs⟩
        have HD39:Hid (Dr w39 b a len cap v39 (L38++[⟨18,wd,0,at36,at37,at38⟩])):=hd
        have HS39:Hid (Stp b (Value.slice ta L.length tc) v39 w w39):=HS38.out.trans hs
        clear hd hs
        go_wp2
        refine bodyPost_ret (v:=.tuple #[v39,.int .i64 (L38.length:Int)]) (by simp [results,Tryz.results158,go_sem]) rfl ?_
        exact ⟨_,_,_,rfl,HD39.out,HS39.out,by have h8:=HL38.out;have h9:=HFD.out;rw [List.length_append,List.length_singleton];omega⟩
       ·
        have t3:(x13==3)=false:=by simpa using e3
        clear e3 e2 e1 e0
        go_wp2_with fail
        refine (IH.out _ b a len cap (Value.slice ta L.length tc) L va vl vc _ _ (by have:=HDD.out;omega) HD13.out HV13.out HVW.out hvl (by omega) (by omega) (by have h9:=HBD.out;omega)).mono ?_
        rintro e w40 ⟨v40,L40,at40,rfl,hd,hs,hl⟩
        have HD40:Hid (Dr w40 b a len cap v40 L40):=hd
        have HS40:Hid (Stp b (Value.slice ta L.length tc) v40 w w40):=HS13.out.trans hs
        have HV40:Hid (Vs w40 b v40 va vl):=HV13.out.stp hs
        have HL40:Hid (L40.length<=L.length+fd d):=by
         show _<=_;omega
        clear hd hs hl
        go_wp2_with fail
        refine (IH.out _ b a len cap v40 L40 va vl vc _ _ (by have:=HDD.out;omega) HD40.out HV40.out HVW.out hvl (by omega) (by omega) (by have h8:=HL40.out;have h9:=HBD.out;omega)).mono ?_
        rintro e w41 ⟨v41,L41,at41,rfl,hd,hs,hl⟩
        have HD41:Hid (Dr w41 b a len cap v41 L41):=hd
        have HS41:Hid (Stp b (Value.slice ta L.length tc) v41 w w41):=HS40.out.trans hs
        have HV41:Hid (Vs w41 b v41 va vl):=HV40.out.stp hs
        have HL41:Hid (L41.length<=L.length+(fd d+fd d)):=by
         have h8:=HL40.out;show _<=_;omega
        clear hd hs hl
        go_wp2_with fail
        refine (below _ b a len cap 10 (by omega) (by omega) HD41.out.cur).mono ?_
        rintro e w42 ⟨⟨x42,rfl,hx42,hy42⟩,hc',ho'⟩
        have HD42:Hid (Dr w42 b a len cap v41 L41):=HD41.out.only hc' ho'
        have HS42:Hid (Stp b (Value.slice ta L.length tc) v41 w w42):=HS41.out.trans (Stp.only ho')
        have HV42:Hid (Vs w42 b v41 va vl):=HV41.out.stp (Stp.only ho')
        clear hc' ho'
        have HL42:=HL41
        go_wp2_with fail
        refine (push _ b a len cap v41 L41 ⟨3+x42,wd,0,at40,at41,0⟩ HD42.out (by have h8:=HL42.out;have h9:=HBD.out;omega)).mono ?_
        rintro e w43 ⟨v43,rfl,hd,hs⟩
        have HD43:Hid (Dr w43 b a len cap v43 (L41++[⟨3+x42,wd,0,at40,at41,0⟩])):=hd
        have HS43:Hid (Stp b (Value.slice ta L.length tc) v43 w w43):=HS42.out.trans hs
        clear hd hs
        go_wp2
        refine bodyPost_ret (v:=.tuple #[v43,.int .i64 (L41.length:Int)]) (by simp [results,Tryz.results158,go_sem]) rfl ?_
        exact ⟨_,_,_,rfl,HD43.out,HS43.out,by have h8:=HL42.out;have h9:=HFD.out;rw [List.length_append,List.length_singleton];omega⟩
      ·obtain ⟨hwd1,hv0⟩:=HXW.out rfl
       have hv1:(0:Int) < (vl.length:Int):=by omega
       have HW1:Hid (wd=1):=hwd1
       clear hwd1
       go_wp2_with fail
       refine (below _ b a len cap _ (by omega) (by omega) HD12.out.cur).mono ?_
       rintro e w44 ⟨⟨x44,rfl,hx44,hy44⟩,hc',ho'⟩
       have HD44:Hid (Dr w44 b a len cap (Value.slice ta L.length tc) L):=HD12.out.only hc' ho'
       have HS44:Hid (Stp b (Value.slice ta L.length tc) (Value.slice ta L.length tc) w w44):=HS12.out.trans (Stp.only ho')
       have HV44:Hid (Vs w44 b (Value.slice ta L.length tc) va vl):=HV12.out.stp (Stp.only ho')
       clear hc' ho'
       obtain ⟨jx,rfl⟩:=Int.eq_ofNat_of_zero_le hx44
       have hjx:jx < vl.length:=by omega
       rcases HV44.out.1.2 with h0|⟨vb,vo,rfl,hvc⟩
       ·omega
       obtain ⟨p0,p1,p2,p3,p4,p5⟩:=hvc jx hjx
       have hwn:=HVW.out jx hjx
       generalize vl[jx]=n at p0 p1 p2 p3 p4 p5 hwn
       obtain ⟨hwn1,hwn2⟩:=hwn
       clear hvc
       go_wp2_with fail
       refine (IH.out _ b a len cap (Value.slice ta L.length tc) L _ vl vc _ _ (by have:=HDD.out;omega) HD44.out HV44.out HVW.out hvl (by omega) (by omega) (by have h9:=HBD.out;omega)).mono ?_
       rintro e w45 ⟨v45,L45,at45,rfl,hd,hs,hl⟩
       have HD45:Hid (Dr w45 b a len cap v45 L45):=hd
       have HS45:Hid (Stp b (Value.slice ta L.length tc) v45 w w45):=HS44.out.trans hs
       have HV45:Hid (Vs w45 b v45 (some ⟨vb,vo,none⟩) vl):=HV44.out.stp hs
       have HL45:Hid (L45.length<=L.length+fd d):=by
        show _<=_;omega
       clear hd hs hl
       go_wp2_with fail
       refine (IH.out _ b a len cap v45 L45 _ vl vc _ _ (by have:=HDD.out;omega) HD45.out HV45.out HVW.out hvl (by omega) (by omega) (by have h8:=HL45.out;have h9:=HBD.out;omega)).mono ?_
       rintro e w46 ⟨v46,L46,at46,rfl,hd,hs,hl⟩
       have HD46:Hid (Dr w46 b a len cap v46 L46):=hd
       have HS46:Hid (Stp b (Value.slice ta L.length tc) v46 w w46):=HS45.out.trans hs
       have HV46:Hid (Vs w46 b v46 (some ⟨vb,vo,none⟩) vl):=HV45.out.stp hs
       have HL46:Hid (L46.length<=L.length+(fd d+fd d)):=by
        have h8:=HL45.out;show _<=_;omega
       clear hd hs hl
       go_wp2_with fail
       refine (below _ b a len cap 3 (by omega) (by omega) HD46.out.cur).mono ?_
       rintro e w47 ⟨⟨x47,rfl,hx47,hy47⟩,hc',ho'⟩
       have HD47:Hid (Dr w47 b a len cap v46 L46):=HD46.out.only hc' ho'
       have HS47:Hid (Stp b (Value.slice ta L.length tc) v46 w w47):=HS46.out.trans (Stp.only ho')
       have HV47:Hid (Vs w47 b v46 (some ⟨vb,vo,none⟩) vl):=HV46.out.stp (Stp.only ho')
       clear hc' ho'
       have HL47:=HL46
       go_wp2_with fail
       refine (push _ b a len cap v46 L46 ⟨13+x47,1,0,at45,at46,0⟩ HD47.out (by have h8:=HL47.out;have h9:=HBD.out;omega)).mono ?_
       rintro e w48 ⟨v48,rfl,hd,hs⟩
       have HD48:Hid (Dr w48 b a len cap v48 (L46++[⟨13+x47,1,0,at45,at46,0⟩])):=hd
       have HS48:Hid (Stp b (Value.slice ta L.length tc) v48 w w48):=HS47.out.trans hs
       clear hd hs
       go_wp2
       refine bodyPost_ret (v:=.tuple #[v48,.int .i64 (L46.length:Int)]) (by simp [results,Tryz.results158,go_sem]) rfl ?_
       exact ⟨_,_,_,rfl,HD48.out,HS48.out,by have h8:=HL47.out;have h9:=HFD.out;rw [List.length_append,List.length_singleton];omega⟩
    ·have HBD:Hid (L.length+1<=1048576):=by
      have:=fd_pos dd
      have h9:=HBD0.out
      show _<=_
      omega
     have HFD:Hid (1<=fd dd):=fd_pos dd
     have hsl:=HSL.out
     go_upto_region 8 with fail
     go_cut [56] from 49 to 56 (fun s56 wc=>∃ x:Bool,s56=.bool x/\(x=true->0 < sl.length)/\Dr wc b a len cap (Value.slice ta L.length tc) L/\Stp b (Value.slice ta L.length tc) (Value.slice ta L.length tc) w wc/\Vs wc b (Value.slice ta L.length tc) va vl/\IntsIn wc w.heap.size U sa sl)
     case first =>
      by_cases hs0:sl.length=0
      ·have hs1:¬ (0:Int) < (sl.length:Int):=by omega
       clear hs0
       go_wp2_with fail
       go_meet
       case rel=>exact ⟨false,rfl,fun h=>(by cases h),HD2.out,HS2.out,HV2.out,HM2.out⟩
      ·have hs1:(0:Int) < (sl.length:Int):=by omega
       go_wp2_with fail
       refine (once _ b a len cap 4 (by omega) (by omega) HD2.out.cur).mono ?_
       rintro e w5 ⟨⟨x5,rfl⟩,hc',ho'⟩
       have HD5:Hid (Dr w5 b a len cap (Value.slice ta L.length tc) L):=HD2.out.only hc' ho'
       have HS5:Hid (Stp b (Value.slice ta L.length tc) (Value.slice ta L.length tc) w w5):=HS2.out.trans (Stp.only ho')
       have HV5:Hid (Vs w5 b (Value.slice ta L.length tc) va vl):=HV2.out.stp (Stp.only ho')
       have HM5:Hid (IntsIn w5 w.heap.size U sa sl):=HM2.out.kept (only_kept ho') (fun k h1 h2 e=>by have:=HBW.out;omega)
       clear hc' ho'
       go_wp2_with fail
       go_meet
       case rel=>exact ⟨!x5,rfl,fun _=>by omega,HD5.out,HS5.out,HV5.out,HM5.out⟩
     case rest =>
      obtain ⟨x,rfl,hxs,hd,hs,hv,hm⟩:=hcut
      have HD6:Hid (Dr wc b a len cap (Value.slice ta L.length tc) L):=hd
      have HS6:Hid (Stp b (Value.slice ta L.length tc) (Value.slice ta L.length tc) w wc):=hs
      have HV6:Hid (Vs wc b (Value.slice ta L.length tc) va vl):=hv
      have HM6:Hid (IntsIn wc w.heap.size U sa sl):=hm
      have HXS:Hid (x=true->0 < sl.length):=hxs
      clear hd hs hv hm hxs
      cases x
      ·
       have hp:=p2_pos wd.toNat
       have hpl:=p2_le wd.toNat (by omega)
       go_wp2_with (go_at_call 62;refine (spow wd _ (by omega) (by omega)).mono ?_;rintro e w' ⟨rfl,rfl⟩)
       refine (below _ b a len cap _ (by omega) (by omega) HD6.out.cur).mono ?_
       rintro e w7 ⟨⟨x7,rfl,hx7,hy7⟩,hc',ho'⟩
       have HD7:Hid (Dr w7 b a len cap (Value.slice ta L.length tc) L):=HD6.out.only hc' ho'
       have HS7:Hid (Stp b (Value.slice ta L.length tc) (Value.slice ta L.length tc) w w7):=HS6.out.trans (Stp.only ho')
       have HV7:Hid (Vs w7 b (Value.slice ta L.length tc) va vl):=HV6.out.stp (Stp.only ho')
       clear hc' ho'
       go_wp2_with fail
       refine (push _ b a len cap (Value.slice ta L.length tc) L ⟨0,wd,x7,0,0,0⟩ HD7.out (by have h9:=HBD.out;omega)).mono ?_
       rintro e w8 ⟨v8,rfl,hd,hs⟩
       have HD8:Hid (Dr w8 b a len cap v8 (L++[⟨0,wd,x7,0,0,0⟩])):=hd
       have HS8:Hid (Stp b (Value.slice ta L.length tc) v8 w w8):=HS7.out.trans hs
       clear hd hs
       go_wp2
       refine bodyPost_ret (v:=.tuple #[v8,.int .i64 (L.length:Int)]) (by simp [results,Tryz.results158,go_sem]) rfl ?_
       exact ⟨_,_,_,rfl,HD8.out,HS8.out,by have h9:=HFD.out;rw [List.length_append,List.length_singleton];omega⟩
      ·
       have hsp:=HXS.out rfl
       go_wp2_with fail
       refine (below _ b a len cap _ (by omega) (by omega) HD6.out.cur).mono ?_
       rintro e w9 ⟨⟨x9,rfl,hx9,hy9⟩,hc',ho'⟩
       have HD9:Hid (Dr w9 b a len cap (Value.slice ta L.length tc) L):=HD6.out.only hc' ho'
       have HS9:Hid (Stp b (Value.slice ta L.length tc) (Value.slice ta L.length tc) w w9):=HS6.out.trans (Stp.only ho')
       have HV9:Hid (Vs w9 b (Value.slice ta L.length tc) va vl):=HV6.out.stp (Stp.only ho')
       have HM9:Hid (IntsIn w9 w.heap.size U sa sl):=HM6.out.kept (only_kept ho') (fun k h1 h2 e=>by have:=HBW.out;omega)
       clear hc' ho'
       obtain ⟨jk,rfl⟩:=Int.eq_ofNat_of_zero_le hx9
       have hjk:jk < sl.length:=by omega
       rcases HM9.out.2 with h0|⟨sb,so,rfl,hsB,hsU,hsc⟩
       ·omega
       have q0:=(hsc jk hjk).1
       obtain ⟨hxq,hyq⟩:=HSI.out jk hjk
       generalize sl[jk]=xq at q0 hxq hyq
       clear hsc hsB hsU
       obtain ⟨jx,rfl⟩:=Int.eq_ofNat_of_zero_le hxq
       have hjx:jx < vl.length:=by omega
       rcases HV9.out.1.2 with h0|⟨vb,vo,rfl,hvc⟩
       ·omega
       obtain ⟨p0,p1,p2,p3,p4,p5⟩:=hvc jx hjx
       have hwn:=HVW.out jx hjx
       generalize vl[jx]=n at p0 p1 p2 p3 p4 p5 hwn
       obtain ⟨hwn1,hwn2⟩:=hwn
       clear hvc
       go_wp2_with fail
       refine (push _ b a len cap (Value.slice ta L.length tc) L n HD9.out (by have h9:=HBD.out;omega)).mono ?_
       rintro e w10 ⟨v10,rfl,hd,hs⟩
       have HD10:Hid (Dr w10 b a len cap v10 (L++[n])):=hd
       have HS10:Hid (Stp b (Value.slice ta L.length tc) v10 w w10):=HS9.out.trans hs
       clear hd hs
       go_wp2
       refine bodyPost_ret (v:=.tuple #[v10,.int .i64 (L.length:Int)]) (by simp [results,Tryz.results158,go_sem]) rfl ?_
       exact ⟨_,_,_,rfl,HD10.out,HS10.out,by have h9:=HFD.out;rw [List.length_append,List.length_singleton];omega⟩
end Dw2
end Go.Proofs.YthanhcobfehmnaaGreat
