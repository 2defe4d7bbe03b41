import Derived.Deep.RegionHeld3
import Derived.Test.YtbellafdjfliiaaGreatPkBOM21
import Derived.Test.YtbellafdjfliiaaGreatSv5
import Derived.Test.YtbellafdjfliiaaGreatPkBOM7
import Derived.Test.YtbellafdjfliiaaGreatPkBOM15
import Derived.Test.YtbellafdjfliiaaGreatSp11
import Derived.Test.YtbellafdjfliiaaGreatPkBOM13
import Derived.Test.YtbellafdjfliiaaGreatPkBOM9
import Derived.Test.YtbellafdjfliiaaGreatPkBOM0
import Derived.Test.YtbellafdjfliiaaGreatPkBOM3
namespace Go.Proofs.YtbellafdjfliiaaGreat
set_option maxRecDepth 100000
set_option maxHeartbeats 8000000
set_option linter.unusedVariables false
namespace Sv6
open Go.RowKit
open Nd0 Pl1 Tm0 Tm1 Tm3 Tm5 Tm6 Tm8 Tm11 Tm13 Tm14 Ap0 Ap2 Tr0 Rw0 Vl1 Vl2 Vl3 Vl5 Vm0 Kp1
open Sp10 (sQuant)
open Sp7 (sPrune)
open Sp4 (sTermOk)
open Sv4 (sAt)
open Sv5 (sFits)
open Wd1 (ret_int ret_bool)
theorem app_intsO {ops:Array Oper} {rest:List Oper} {o:Oper} {a:Act} {Q:Exit->Act->World->Prop} (W:World) (hgd:o.guard=none) (s x:Operand)
 (ho:o.op=.call { callee:=.builtin .append,args := #[s,x],argTypes := #[35,35] })
 (B:Nat) (v:Value) (l ys:List Int) (g d c:Nat) (hs:a.eval s=v) (hx:a.eval x=.slice (some ⟨g,d,none⟩) ys.length c)
 (hy:∀ j (h:j < ys.length),W.cell? ⟨g,d+j,none⟩=some (.int .i64 ys[j])) (hp:0 < ys.length)
 (hown:Ows W B v l) (hB:B<=W.heap.size) (hlen:l.length+ys.length<=1048577)
 (h:∀ g cap w',Ows w' B (.slice (some ⟨g,0,none⟩) (l.length+ys.length) cap) (l++ys)->Kept (fun k=>v.ownBlock=some k) W w'->wpList Tryz.prog ops Q rest (a.put o.dst (.slice (some ⟨g,0,none⟩) (l.length+ys.length) cap)) w') :
 wpList Tryz.prog ops Q (o :: rest) a W:=by
 obtain ⟨i,hi,hzz⟩:=Option.map_eq_some_iff.1 infoInt
 simp only [Prod.mk.injEq] at hzz
 obtain ⟨hz,hsz,hb⟩:=hzz
 refine wpList_append_lies W hgd s x 35 ho B 3 i (.int .i64 0) 1 8 Tryz.underlying35 hi hz hsz hb rfl (by omega) v l.length (l.map fun x=>.int .i64 x) hs hown
  ⟨g,d,none⟩ ys.length c (ys.map fun x=>.int .i64 x) hx (by simp) ?_ ?_ hp (by unfold maxLen;omega) (by omega) hB _ rfl ?_
 ·intro j u hu
  have hadd:(⟨g,d,none⟩:Addr).add j=⟨g,d+j,none⟩:=by unfold Addr.add;split<;>simp_all
  rw [hadd]
  rw [List.getElem?_map] at hu
  obtain ⟨y,hy1,rfl⟩:=Option.map_eq_some_iff.1 hu
  obtain ⟨hj,rfl⟩:=List.getElem?_eq_some_iff.1 hy1
  exact hy j hj
 ·intro u hu
  obtain ⟨y,_,rfl⟩:=List.mem_map.1 hu
  rfl
 ·intro g cap w' h1 h2 h3 h4
  refine h g cap w' ?_ ?_
  ·unfold Ows
   simpa using h1
  ·exact ⟨h2.os,h2.tape,h2.output,h2.size,fun k hk hn=>h2.block k hk (fun e=>hn e.symm)⟩
def vRes (o:Option Int):Value:=.tuple #[.int .i64 (o.getD 0),.bool o.isSome]
theorem val_none {l:List Nd} {e:List Int} (h:¬ (termOk l=true/\e.length=8/\bitsTo l l.length<=12/\fitT (root l) e=true)):valueL l e=none:=by
 cases hv:valueL l e with
 | none=>rfl
 | some x =>
   obtain ⟨h1,h2,h3,h4,_⟩:=value_parts.1 hv
   exact absurd ⟨h1,h2,h3,h4⟩ h
theorem sValue (w:World) (a ae:Option Addr) (l:List Nd) (e:List Int) (c ce:Nat) (hN:Nodes w a l) (hI:Ints w ae e) :
 Calls Tryz.prog 31 #[.slice a l.length c,.slice ae e.length ce] w fun x w'=>x=.returned (vRes (valueL l e))/\Below w.heap.size w w':=by
 have HN:Hid (Nodes w a l):=hN
 have HI:Hid (Ints w ae e):=hI
 clear hN hI
 go_enter Tryz.func31,Tryz.ntmps31
 go_wp2_with fail
 refine (sTermOk _ a l c HN.out).mono ?_
 rintro x0 w1 ⟨rfl,hb1⟩
 have HB1:Hid (Below w.heap.size w w1):=hb1
 clear hb1
 cases hT:termOk l
 ·have HV:Hid (valueL l e=none):=val_none (fun h=>by rw [hT] at h;cases h.1)
  go_wp2
  go_ret2
  rw [HV.out]
  exact ⟨rfl,HB1.out⟩
 ·have HT:Hid (termOk l=true):=hT
  clear hT
  by_cases h8:e.length=8
  ·rw [h8]
   have HPR:Hid (valueL l e=valueL (pruneL l) e):=(value_prune HT.out e).symm
   have hTP:=prune_term HT.out
   have hRP:∀ j,j < (pruneL l).length->flag (reachL (pruneL l)) j=true:=fun j hj=>prune_reach HT.out hj
   go_wp2_with fail
   refine (sPrune _ a l c (HN.out.below HB1.out)).mono ?_
   rintro x0 w2 ⟨⟨v2,rfl,ho2⟩,hb2⟩
   obtain ⟨a2,c2,rfl,hn2⟩:=ho2.form
   have hL1:=term_len hTP
   generalize pruneL l=P at hTP hRP hn2 hL1 HPR ⊢
   have HTP:Hid (termOk P=true):=hTP
   have HRP:Hid (∀ j,j < P.length->flag (reachL P) j=true):=hRP
   have HNP:Hid (Nodes w2 a2 P):=hn2.nodes
   have HB2:Hid (Below w.heap.size w w2):=HB1.out.trans (hb2.mono HB1.out.size)
   have HI2:Hid (Ints w2 ae e):=HI.out.below HB2.out
   clear hTP hRP ho2 hn2 hb2
   go_wp2_with fail
   go_loop [7,8] (fun s q=>∃ i:Nat,i<=P.length/\q=.int .i64 (i:Int)/\s=.int .i64 (bitsTo P i)) (fun _ q=>P.length - (intOf q).toNat)
   case atStart=>exact ⟨0,Nat.zero_le _,rfl,rfl⟩
   case round =>
    obtain ⟨i,hi,rfl,rfl⟩:=hrel
    by_cases hlt:i < P.length
    ·have hlz:(i:Int) < (P.length:Int):=by omega
     rcases HNP.out.2 with h0|⟨xb,xo,rfl,hc⟩
     ·omega
     have p0:=(hc i hlt).c0
     have p4:=(hc i hlt).c4
     rw [nth_get hlt] at p0 p4
     clear hc
     have HBN:Hid (bitsTo P (i+1)=if quant (nth P i).op then bitsTo P i+(nth P i).b else bitsTo P i):=by
      show (if _ then _ else _)=_
      rw [HRP.out i hlt,Bool.true_and]
     have hbb:=bits_bound HTP.out i hi
     have HQB:Hid (quant (nth P i).op=true->1<=(nth P i).b/\(nth P i).b<=8):=fun h=>quant_b (term_node HTP.out hlt) h
     generalize bitsTo P i=z at HBN hbb ⊢
     generalize nth P i=n at p0 p4 HBN HQB
     obtain ⟨hb0,hb9⟩:=hbb
     cases hqu:quant n.op
     ·have HB2':Hid (bitsTo P (i+1)=z):=by
       show _=_
       rw [HBN.out,hqu];rfl
      go_wp2_with (go_at_call 41;refine (sQuant _ _).mono ?_;rintro x0 w2 ⟨rfl,rfl⟩;rw [hqu])
      go_round
      case rel=>exact ⟨i+1,by omega,by go_num,by rw [HB2'.out]⟩
      case measure=>simp [intOf];omega
     ·have HB2':Hid (bitsTo P (i+1)=z+n.b):=by
       show _=_
       rw [HBN.out,hqu];rfl
      obtain ⟨hq1,hq2⟩:=HQB.out hqu
      go_wp2_with (go_at_call 41;refine (sQuant _ _).mono ?_;rintro x0 w2 ⟨rfl,rfl⟩;rw [hqu])
      go_round
      case rel=>exact ⟨i+1,by omega,by go_num,by rw [HB2'.out]⟩
      case measure=>simp [intOf];omega
    ·have hlz:¬ (i:Int) < (P.length:Int):=by omega
     have hie:i=P.length:=by omega
     have HBT:Hid (bitsTo P i=bitsTo P P.length):=by
      show _=_
      rw [hie]
     clear hie
     generalize bitsTo P i=z at HBT ⊢
     by_cases h12:12 < z
     ·have HV:Hid (valueL l e=none):=HPR.out.trans (val_none (fun h=>by have:=h.2.2.1;rw [<- HBT.out] at this;omega))
      go_wp2
      go_ret2
      rw [HV.out]
      exact ⟨rfl,HB2.out⟩
     ·have h12z:¬ (12 < z):=h12
      go_wp2_with fail
      refine (sFits _ a2 ae P e c2 ce HNP.out HTP.out HRP.out HI2.out h8).mono ?_
      rintro x0 w3 ⟨rfl,hb3⟩
      have HB3:Hid (Below w.heap.size w w3):=HB2.out.trans (hb3.mono HB2.out.size)
      have HN3:Hid (Nodes w3 a2 P):=HNP.out.below hb3
      have HI3:Hid (Ints w3 ae e):=HI2.out.below hb3
      clear hb3
      cases hf:fitT (root P) e
      ·have HV:Hid (valueL l e=none):=HPR.out.trans (val_none (fun h=>by rw [hf] at h;cases h.2.2.2))
       go_wp2
       go_ret2
       rw [HV.out]
       exact ⟨rfl,HB3.out⟩
      ·have HV:Hid (valueL l e=some (vT (tr P (P.length - 1)) e)):=HPR.out.trans (value_parts.2 ⟨HTP.out,h8,by rw [<- HBT.out];omega,hf,rfl⟩)
       rcases HI3.out.2 with h0|⟨eb,eo,rfl,hec⟩
       ·omega
       have hebl:eb < w3.heap.size:=lt_of_cell (hec 0 (by omega))
       have HEC:Hid (∀ j (h:j < e.length),(w3.alloc (.cells #[] 3)).cell? ⟨eb,eo+j,none⟩=some (.int .i64 e[j])):=fun j hj=>by
        rw [((Below.refl w3.heap.size w3).alloc (Nat.le_refl _) _).cell (p:=⟨eb,eo+j,none⟩) hebl]
        exact hec j hj
       have HLIT:Hid (Ows (w3.alloc (.cells #[] 3)) w3.heap.size (.slice (some ⟨w3.heap.size,0,none⟩) 0 0) []):=Ows.lit w3 _ (Nat.le_refl _)
       have hs3:w3.heap.size<=(w3.alloc (.cells #[] 3)).heap.size:=by simp
       have hcast:(P.length:Int) - 1=((P.length - 1:Nat):Int):=by omega
       have HCA:Hid ((P.length:Int) - 1=((P.length - 1:Nat):Int)):=hcast
       clear hec hcast
       go_wp2_with (at_builtin;go_must (refine app_intsO _ rfl _ _ rfl w3.heap.size (.slice (some ⟨w3.heap.size,0,none⟩) 0 0) [] e eb eo ce rfl (by rw [h8];rfl) HEC.out (by omega) HLIT.out hs3 (by simp [h8]) ?_;intro g5 cp5 w5 ho5 hk5;rw [show ([]:List Int).length+e.length=8 by simp [h8]] at ho5 ⊢;have HO5:Hid (Ows w5 w3.heap.size (.slice (some ⟨g5,0,none⟩) 8 cp5) e):=ho5;have HK5:Hid (Below w3.heap.size w3 w5):=((Below.refl w3.heap.size w3).alloc (Nat.le_refl _) _).trans (hk5.below (fun b hb=>(HLIT.out.lt b hb).1) hs3);clear ho5 hk5))
       obtain ⟨g6,c6,hv6,hB6,hl6,hr6⟩:=Rw1.row_ints HO5.out (by omega)
       have HG5:Hid (w3.heap.size<=g5/\Env w5 g5 e):=by
        have e6:g6=g5:=by
         have:=congrArg Value.ownBlock hv6
         simpa [Value.ownBlock] using this.symm
        rw [e6,h8] at hr6
        exact ⟨by omega,hr6⟩
       rw [HCA.out]
       refine (sAt HTP.out (P.length - 1) (by omega) _ a2 c2 g5 cp5 e (HN3.out.below HK5.out) (fun x hx=>?_) h8 HG5.out.2).mono ?_
       ·rcases HN3.out.2 with h0|⟨xb,xo,hx2,hc⟩
        ·omega
        ·rw [hx] at hx2
         have h9:=(hc 0 (by omega)).lt
         have h10:=Option.some.inj hx2
         rw [h10]
         have:=HG5.out.1
         show ¬ xb=g5
         omega
       rintro x0 w6 ⟨rfl,_,hK6⟩
       have HB6:Hid (Below w.heap.size w w6):=(HB3.out.trans (HK5.out.mono HB3.out.size)).trans (hK6.below (fun b (eb:b=g5)=>by have:=HG5.out.1;have:=HB3.out.size;omega) (by have:=HK5.out.size;have:=HB3.out.size;omega))
       clear hK6 hr6 hv6
       go_wp2
       go_ret2
       rw [HV.out]
       exact ⟨rfl,HB6.out⟩
  ·have h8z:((e.length:Int) != 8)=true:=by simp;omega
   have HV:Hid (valueL l e=none):=val_none (fun h=>h8 h.2.1)
   go_wp2
   go_ret2
   rw [HV.out]
   exact ⟨rfl,HB1.out⟩
end Sv6
namespace Sv7
open Go.RowKit
open Nd0 Pl1 Tm0 Tm6 Ap0 Vl1 Vl5 Sv6
open Sp11 (sSentence)
theorem sZeros (w:World) :
 Calls Tryz.prog 32 #[] w fun x w'=>(∃ a c,x=.returned (.slice a 8 c)/\Ints w' a (List.replicate 8 0))/\Below w.heap.size w w':=by
 go_enter Tryz.func32,Tryz.ntmps32
 go_wp2_with fail
 go_loopw [1,2] (fun v q wr=>∃ i:Nat,i<=8/\q=.int .i64 (i:Int)/\Ows wr w.heap.size v (List.replicate i 0)/\Below w.heap.size w wr) (fun _ q _=>8 - (intOf q).toNat)
 case atStart=>exact ⟨0,Nat.zero_le _,rfl,Ows.lit w _ (Nat.le_refl _),(Below.refl _ _).alloc (Nat.le_refl _) _⟩
 case round =>
  obtain ⟨i,hi,rfl,ho,hb⟩:=hrel
  have HO:Hid (Ows wr w.heap.size u1 (List.replicate i 0)):=ho
  have HB:Hid (Below w.heap.size w wr):=hb
  have hbs:w.heap.size<=wr.heap.size:=hb.size
  have HL:Hid ((List.replicate i (0:Int)).length=i):=List.length_replicate
  have HS:Hid (List.replicate (i+1) (0:Int)=List.replicate i 0++[0]):=by
   show _=_
   rw [List.replicate_succ']
  clear ho hb
  by_cases hlt:i < 8
  ·have hz:(i:Int) < 8:=by omega
   generalize List.replicate i (0:Int)=L at HO HL HS
   go_wp2_with (at_builtin;go_must (refine app_int _ rfl _ _ rfl w.heap.size u1 L 0 rfl rfl HO.out hbs (by rw [HL.out];omega) ?_;intro g5 cp5 w5 ho5 hk5 hg5;have HO5:Hid (Ows w5 w.heap.size (.slice (some ⟨g5,0,none⟩) (L.length+1) cp5) (L++[0])):=ho5;have HB5:Hid (Below w.heap.size w w5):=HB.out.trans (hk5.below (fun b hb=>(HO.out.lt b hb).1) hbs);clear ho5 hk5 hg5))
   go_roundw
   case rel=>exact ⟨i+1,by omega,by go_num,by rw [HS.out];exact HO5.out,HB5.out⟩
   case measure=>simp [intOf];omega
  ·have hz:¬ (i:Int) < 8:=by omega
   have e8:i=8:=by omega
   subst e8
   obtain ⟨av,cv,hv,hwi⟩:=HO.out.form
   rw [List.length_replicate] at hv
   subst hv
   have HI:Hid (Ints wr av (List.replicate 8 0)):=hwi.ints
   clear hwi HO
   go_wp2
   go_ret
   first
    | exact ⟨HI.out,HB.out⟩
    | exact ⟨⟨av,⟨cv,rfl⟩,HI.out⟩,HB.out⟩
    | (trace_state;fail)
theorem sHolds (w:World) (a:Option Addr) (l:List Nd) (c:Nat) (hN:Nodes w a l) :
 Calls Tryz.prog 9 #[.slice a l.length c] w fun x w'=>x=.returned (vRes (holdsL l))/\Below w.heap.size w w':=by
 have HN:Hid (Nodes w a l):=hN
 clear hN
 go_enter Tryz.func9,Tryz.ntmps9
 go_wp2_with fail
 refine (sSentence _ a l c HN.out).mono ?_
 rintro x0 w1 ⟨rfl,hb1⟩
 have HB1:Hid (Below w.heap.size w w1):=hb1
 clear hb1
 cases hS:sentB l
 ·have HV:Hid (holdsL l=none):=by
   show _=_
   unfold holdsL;rw [hS];rfl
  go_wp2
  go_ret2
  rw [HV.out]
  exact ⟨rfl,HB1.out⟩
 ·have HV:Hid (holdsL l=valueL l (List.replicate 8 0)):=by
   show _=_
   unfold holdsL;rw [hS];rfl
  go_wp2_with fail
  refine (sZeros _).mono ?_
  rintro x0 w2 ⟨⟨a2,c2,rfl,hi2⟩,hb2⟩
  have HI2:Hid (Ints w2 a2 (List.replicate 8 0)):=hi2
  have HB2:Hid (Below w.heap.size w w2):=HB1.out.trans (hb2.mono HB1.out.size)
  clear hi2 hb2
  go_wp2_with fail
  refine (sValue _ a a2 l (List.replicate 8 0) c c2 (HN.out.below HB2.out) HI2.out).mono ?_
  rintro x0 w3 ⟨rfl,hb3⟩
  have HB3:Hid (Below w.heap.size w w3):=HB2.out.trans (hb3.mono HB2.out.size)
  clear hb3
  unfold vRes
  generalize valueL l (List.replicate 8 0)=o at HV ⊢
  go_wp2
  go_ret2
  rw [HV.out]
  exact ⟨rfl,HB3.out⟩
end Sv7
namespace Sp12
open Go.RowKit
open Nd0 Tm0 Tm1 Tm2 Tm4 Tm5 Tm6 Tm11 Ap0 Ap1 Rw0 Rw1
open Sp5 (sReach)
open Sp10 (sQuant)
open Sp11 (sSentence)
open Ws1 (ret_int ret_bool)
theorem sBits (w:World) (a:Option Addr) (l:List Nd) (c:Nat) (hN:Nodes w a l) :
 Calls Tryz.prog 14 #[.slice a l.length c] w fun e w'=>e=.returned (.int .i64 (bitsL l))/\Below w.heap.size w w':=by
 have HN:Hid (Nodes w a l):=hN
 clear hN
 go_enter Tryz.func14,Tryz.ntmps14
 go_wp2_with fail
 refine (sSentence _ a l c HN.out).mono ?_
 rintro e w1 ⟨rfl,hb1⟩
 have HB1:Hid (Below w.heap.size w w1):=hb1
 clear hb1
 cases hS:sentB l
 ·have HE:Hid (bitsL l=0):=by
   show _=_
   unfold bitsL;rw [hS];rfl
  go_wp2
  go_ret
  exact ⟨ret_int HE.out.symm,HB1.out⟩
 ·have HE:Hid (bitsL l=bitsTo l l.length):=by
   show _=_
   unfold bitsL;rw [hS];rfl
  have HT:Hid (termOk l=true):=sent_ok hS
  obtain ⟨hl1,hl2⟩:=term_len (sent_ok hS)
  clear hS
  go_wp2_with fail
  refine (sReach _ _ l c (HN.out.below HB1.out) HT.out).mono ?_
  rintro e w3 ⟨⟨v3,rfl,ho3⟩,hb3⟩
  obtain ⟨g3,c3,rfl,hg3,hl3,hr3⟩:=row_bools ho3 (by rw [reachL_length];exact hl1)
  rw [reachL_length] at hr3 ⊢
  have HR3:Hid (Row w3 g3 l.length (fun i=>.bool (flag (reachL l) i))):=hr3
  have HB3:Hid (Below w.heap.size w w3):=HB1.out.trans (hb3.mono HB1.out.size)
  clear ho3 hb3 hr3 hg3 hl3
  go_wp2_with fail
  go_loop [4,5] (fun v q=>∃ k:Nat,k<=l.length/\q=.int .i64 k/\v=.int .i64 (bitsTo l k)) (fun _ q=>l.length - (intOf q).toNat)
  case atStart=>exact ⟨0,Nat.zero_le _,rfl,rfl⟩
  case round =>
   obtain ⟨k,hk,rfl,rfl⟩:=hrel
   by_cases hlt:k < l.length
   ·have hlz:(k:Int) < (l.length:Int):=by omega
    have f3:=(HR3.out k hlt).1
    try dsimp only at f3
    rcases (HN.out.below HB3.out).2 with h0|⟨xb,xo,rfl,hc⟩
    ·omega
    have p0:=(hc k hlt).c0
    have p4:=(hc k hlt).c4
    rw [nth_get hlt] at p0 p4
    clear hc
    have HBN:Hid (bitsTo l (k+1)=if flag (reachL l) k&&quant (nth l k).op then bitsTo l k+(nth l k).b else bitsTo l k):=rfl
    have hbb:=bits_bound HT.out k hk
    have HQB:Hid (quant (nth l k).op=true->1<=(nth l k).b/\(nth l k).b<=8):=fun h=>quant_b (term_node HT.out hlt) h
    generalize bitsTo l k=z at HBN hbb ⊢
    generalize nth l k=n at p0 p4 HBN HQB
    obtain ⟨hb0,hb9⟩:=hbb
    cases hf:flag (reachL l) k
    ·rw [hf] at f3
     have HB2':Hid (bitsTo l (k+1)=z):=by
      show _=_
      rw [HBN.out,hf];rfl
     go_wp2
     go_round
     case rel=>exact ⟨k+1,by omega,by go_num,by rw [HB2'.out]⟩
     case measure=>simp [intOf];omega
    ·rw [hf] at f3
     cases hqu:quant n.op
     ·have HB2':Hid (bitsTo l (k+1)=z):=by
       show _=_
       rw [HBN.out,hf,hqu];rfl
      go_wp2_with (go_at_call 41;refine (sQuant _ _).mono ?_;rintro e w' ⟨rfl,rfl⟩;rw [hqu])
      go_round
      case rel=>exact ⟨k+1,by omega,by go_num,by rw [HB2'.out]⟩
      case measure=>simp [intOf];omega
     ·have HB2':Hid (bitsTo l (k+1)=z+n.b):=by
       show _=_
       rw [HBN.out,hf,hqu];rfl
      obtain ⟨hq1,hq2⟩:=HQB.out hqu
      go_wp2_with (go_at_call 41;refine (sQuant _ _).mono ?_;rintro e w' ⟨rfl,rfl⟩;rw [hqu])
      go_round
      case rel=>exact ⟨k+1,by omega,by go_num,by rw [HB2'.out]⟩
      case measure=>simp [intOf];omega
   ·have hlz:¬ (k:Int) < (l.length:Int):=by omega
    have HKE:Hid (k=l.length):=by show _=_;omega
    go_wp2
    go_ret
    exact ⟨ret_int (by rw [HE.out,HKE.out]),HB3.out⟩
end Sp12
namespace Am1
open Go.RowKit
open Nd0 Nd1 Tm0 Tm1 Tm3 Tm5 Ap0 Ap1 Sp2 Aq0
open Sp7 (nodeAt_of sPrune)
open Sp10 (sQuant)
theorem sNamed (n:Nd) (w:World) :
 Calls Tryz.prog 61 #[.agg #[.int .i64 n.op,.int .i64 n.w,.int .i64 n.k,.int .i64 n.a,.int .i64 n.b,.int .i64 n.c]] w fun e w'=>e=.returned (.bool (nmd n))/\Below w.heap.size w w':=by
 cases h1:(n.op==1)
 all_goals
  go_enter Tryz.func61,Tryz.ntmps61
  go_wp2_with (go_at_call 41;refine (sQuant _ _).mono ?_;rintro e w' ⟨rfl,rfl⟩)
  go_ret
  exact ⟨ret_bool (by unfold nmd;rw [h1];rfl),(Below.refl _ _).alloc (Nat.le_refl _) _⟩
theorem sNums (w:World) (a:Option Addr) (l:List Nd) (c:Nat) (hN:Nodes w a l) :
 Calls Tryz.prog 27 #[.slice a l.length c] w fun e w'=>(∃ v,e=.returned v/\Owb w' w.heap.size v (numRow l))/\Below w.heap.size w w':=by
 have HN:Hid (Nodes w a l):=hN
 have hml:=hN.1
 unfold maxLen at hml
 have HRN:Hid (∀ k,k < 8->(numRow l).take (k+1)=(numRow l).take k++[numB l k]):=fun k hk=>by
  rw [List.take_succ_eq_append_getElem (by simp [numRow];exact hk)];simp [numRow]
 have hr8:(numRow l).length=8:=by simp [numRow]
 have HR8:Hid ((numRow l).length=8):=hr8
 clear hN hr8
 go_enter Tryz.func27,Tryz.ntmps27
 go_wp2
 go_loopw [3,4] (fun vo q wr=>∃ k:Nat,k<=8/\q=.int .i64 k/\Below w.heap.size w wr/\Owb wr w.heap.size vo ((numRow l).take k)) (fun _ q _=>8 - (intOf q).toNat)
 case atStart=>exact ⟨0,Nat.zero_le _,rfl,(Below.refl _ _).alloc (Nat.le_refl _) _,Owb.lit w _ (Nat.le_refl _)⟩
 case round =>
  obtain ⟨k,hk,rfl,hb,ho⟩:=hrel
  obtain ⟨ao,co,rfl, -⟩:=ho.form
  have HB:Hid (Below w.heap.size w wr):=hb
  have HO:Hid (Owb wr w.heap.size (.slice ao ((numRow l).take k).length co) ((numRow l).take k)):=ho
  clear hb ho
  by_cases hlt:k < 8
  ·have hlz:(k:Int) < 8:=by omega
   have HSC:Hid ((numRow l).take (k+1)=(numRow l).take k++[numB l k]):=HRN.out k hlt
   have hLk:((numRow l).take k).length<=1048576:=by rw [List.length_take];omega
   generalize (numRow l).take k=bs at HO HSC hLk
   obtain ⟨wi,rfl⟩:∃ wi:World,wi=wr:=⟨_,rfl⟩
   go_wp2_with fail
   go_loopw [5,6] (fun f q wr=>∃ j:Nat,j<=l.length/\q=.int .i64 j/\f=.bool (numTo l j k)/\Below w.heap.size w wr/\Owb wr w.heap.size (.slice ao bs.length co) bs) (fun _ q _=>l.length - (intOf q).toNat)
   case atStart=>exact ⟨0,Nat.zero_le _,rfl,by unfold numTo numB;rfl,HB.out,HO.out⟩
   case round =>
    clear HB HO
    obtain ⟨j,hj,rfl,rfl,hb,ho⟩:=hrel
    have HB:Hid (Below w.heap.size w wr):=hb
    have HO:Hid (Owb wr w.heap.size (.slice ao bs.length co) bs):=ho
    have hbs:w.heap.size<=wr.heap.size:=hb.size
    clear hb ho
    by_cases hlj:j < l.length
    ·have hljz:(j:Int) < (l.length:Int):=by omega
     have HST:Hid (numTo l (j+1) k=(numTo l j k||(nmd (nth l j)&&(nth l j).k==(k:Int)))):=numTo_succ hlj k
     rcases (HN.out.below HB.out).2 with h0|⟨xb,xo,rfl,hc⟩
     ·omega
     obtain ⟨p0,p1,p2,p3,p4,p5⟩:=hc j hlj
     rw [nth_get hlj] at p0 p1 p2 p3 p4 p5
     clear hc
     generalize nth l j=n at HST p0 p1 p2 p3 p4 p5
     cases hcur:numTo l j k
     ·go_wp2_with fail
      refine (sNamed n _).mono ?_
      rintro e w4 ⟨rfl,hb4⟩
      have HB4:Hid (Below w.heap.size w w4):=HB.out.trans (hb4.mono hbs)
      have HO4:Hid (Owb w4 w.heap.size (.slice ao bs.length co) bs):=HO.out.kept (S:=fun _=>False) (Kept.ofBelow hb4) (fun _ _ h=>h)
      have q2:w4.cell? ⟨xb,xo+j*6+2,none⟩=some (.int .i64 n.k):=(hb4.cell (lt_of_cell p2)).trans p2
      clear hb4 p0 p1 p2 p3 p4 p5
      cases hnm:nmd n
      ·go_wp2
       go_roundw
       case rel=>exact ⟨j+1,by omega,by go_num,by rw [HST.out,hcur,hnm];rfl,HB4.out,HO4.out⟩
       case measure=>simp [intOf];omega
      ·cases hkk:(n.k==(k:Int))
       all_goals
        go_wp2
        go_roundw
        case rel=>exact ⟨j+1,by omega,by go_num,by rw [HST.out,hcur,hnm,hkk];rfl,HB4.out,HO4.out⟩
        case measure=>simp [intOf];omega
     ·go_wp2
      go_roundw
      case rel=>exact ⟨j+1,by omega,by go_num,by rw [HST.out,hcur];rfl,HB.out,HO.out⟩
      case measure=>simp [intOf];omega
    ·have ej:j=l.length:=by omega
     subst ej
     rw [numTo_all]
     have hws:w.heap.size<=wr.heap.size:=HB.out.size
     go_wp2_with (at_builtin;go_must (refine app_bool _ rfl _ _ rfl w.heap.size (.slice ao bs.length co) bs _ rfl rfl HO.out hws hLk ?_;intro g cp w5 ho5 hk5 hg5))
     have HO5:Hid (Owb w5 w.heap.size (.slice (some ⟨g,0,none⟩) (bs.length+1) cp) (bs++[numB l k])):=ho5
     have HB5:Hid (Below w.heap.size w w5):=HB.out.trans (hk5.below (fun b hb=>(HO.out.lt b hb).1) hws)
     clear ho5 hk5 hg5
     go_wp2
     go_roundw
     case rel=>exact ⟨k+1,by omega,by go_num,HB5.out,by rw [HSC.out];exact HO5.out⟩
     case measure=>simp [intOf];omega
  ·have e:k=8:=by omega
   subst e
   have HE:Hid ((numRow l).take 8=numRow l):=by show _=_;rw [List.take_of_length_le (by rw [HR8.out];exact Nat.le_refl _)]
   go_wp2
   go_ret
   refine ⟨⟨_,rfl,?_⟩,HB.out⟩
   have h9:=HO.out
   rw [HE.out] at h9
   rw [HE.out]
   exact h9
end Am1
namespace Ap7
open Go.RowKit
open Nd0 Nd3 Ap2 Dw3 Dw4
theorem own_cap {w:World} {B:Nat} {a:Option Addr} {n c:Nat} {l:List Nd} (h:Ap2.Own w B (.slice a n c) l):n=l.length/\l.length<=c:=by
 obtain ⟨h1,h2⟩:=h
 rcases h2 with ⟨e,h0⟩|⟨g,cap,cur,e,hb,hg,hn,hm,hs,ht⟩
 ·cases e;exact ⟨h0.symm,by omega⟩
 ·cases e;exact ⟨rfl,hn⟩
end Ap7
namespace Ap13
open Go.RowKit
open Nd0 Nd3 Ap2 Dw3 Ap7
theorem app_any {ops:Array Oper} {rest:List Oper} {o:Oper} {a:Act} {Q:Exit->Act->World->Prop} (W:World) (hgd:o.guard=none) (s x:Operand)
 (ho:o.op=.call { callee:=.builtin .append,args := #[s,x],argTypes := #[24,24] })
 (B g c:Nat) (l ys L:List Nd) (hL:l++ys=L) (gx ox cx n m:Nat) (hs:a.eval s=.slice (some ⟨g,0,none⟩) n c) (hx:a.eval x=.slice (some ⟨gx,ox,none⟩) m cx) (hn:n=l.length) (hm:m=ys.length)
 (hy:∀ i (h:i < ys.length),NodeAt W gx (ox+i*6) ys[i])
 (hown:Ap2.Own W B (.slice (some ⟨g,0,none⟩) l.length c) l) (hB:B<=W.heap.size) (hlen:l.length+ys.length<=1048577)
 (h:∀ g' cap w',Ap2.Own w' B (.slice (some ⟨g',0,none⟩) L.length cap) L->Kept (fun k=>k=g) W w'->wpList Tryz.prog ops Q rest (a.put o.dst (.slice (some ⟨g',0,none⟩) L.length cap)) w') :
 wpList Tryz.prog ops Q (o :: rest) a W:=by
 subst hn hm hL
 obtain ⟨i,hi,hzz⟩:=Option.map_eq_some_iff.1 infoNode
 simp only [Prod.mk.injEq] at hzz
 obtain ⟨hz,hsz,hb⟩:=hzz
 refine wpList_append_own W hgd s x 24 ho B 53 i _ 6 48 Tryz.underlying24 hi hz hsz hb rfl (by omega) _ l.length (flat l) hs hown
  ⟨gx,ox,none⟩ ys.length cx (flat ys) hx (flat_length ys) (fun j u hu=>nodes_cells hy j u hu) ?_ (by unfold maxLen;omega) (by omega) hB ?_
 ·intro u hu
  obtain ⟨n,_,hn⟩:=List.mem_flatMap.1 hu
  simp [Nd.cells] at hn
  rcases hn with rfl|rfl|rfl|rfl|rfl|rfl<;>rfl
 ·intro v' w' h1 h2 h3
  have h4:Ap2.Own w' B v' (l++ys):=by unfold Ap2.Own;rw [flat_app,List.length_append];exact h1
  have h5:∃ g' cp,v'=.slice (some ⟨g',0,none⟩) (l++ys).length cp:=by
   rcases h4.2 with ⟨h0,_⟩|⟨g',cap,cur,he,_⟩
   ·exact absurd (h3.1 h0).1 (by simp)
   ·exact ⟨g',cap,he⟩
  obtain ⟨g',cp,rfl⟩:=h5
  exact h g' cp w' h4 ⟨h2.os,h2.tape,h2.output,h2.size,fun k hk hn=>h2.block k hk (fun e=>hn (by cases e;rfl))⟩
end Ap13
namespace Am4
open Go.RowKit
open Nd0 Nd1 Nd3 Tm0 Tm1 Tm3 Tm5 Ap1 Sp2 Sp4 Aq0 Am1
open Ap2 (Own app_node)
open Ap13 (app_any)
open Rw1 (row_bools)
theorem sTurn (w:World) (a:Option Addr) (l:List Nd) (c:Nat) (v u:Int) (hN:Nodes w a l) (hl:l.length<=1048576) :
 Calls Tryz.prog 28 #[.slice a l.length c,.int .i64 v,.int .i64 u] w fun e w'=>(∃ x,e=.returned x/\Own w' w.heap.size x (renL l v u))/\Below w.heap.size w w':=by
 have HN:Hid (Nodes w a l):=hN
 have HRL:Hid (∀ k (h:k < l.length),renL (l.take (k+1)) v u=renL (l.take k) v u++[renN v u (nth l k)]):=fun k hk=>by
  unfold renL
  rw [List.take_succ_eq_append_getElem hk,List.map_append,nth_get hk];rfl
 have HRA:Hid (∀ k,k<=l.length->(renL (l.take k) v u).length=k):=fun k hk=>by unfold renL;rw [List.length_map,List.length_take];omega
 clear hN
 go_enter Tryz.func28,Tryz.ntmps28
 go_wp2
 go_loopw [7,8] (fun x q wr=>∃ k:Nat,k<=l.length/\q=.int .i64 k/\Below w.heap.size w wr/\Own wr w.heap.size x (renL (l.take k) v u)) (fun _ q _=>l.length - (intOf q).toNat)
 case atStart=>exact ⟨0,Nat.zero_le _,rfl,(Below.refl _ _).alloc (Nat.le_refl _) _,Ap2.Own.lit w _ (Nat.le_refl _)⟩
 case round =>
  obtain ⟨k,hk,rfl,hb,ho⟩:=hrel
  obtain ⟨ao,co,rfl, -⟩:=ho.form
  have HB:Hid (Below w.heap.size w wr):=hb
  have hbs:=hb.size
  have HO:Hid (Own wr w.heap.size (.slice ao (renL (l.take k) v u).length co) (renL (l.take k) v u)):=ho
  have HLK:Hid ((renL (l.take k) v u).length=k):=HRA.out k hk
  clear hb ho
  by_cases hlt:k < l.length
  ·have hlz:(k:Int) < (l.length:Int):=by omega
   have HSC:Hid (renL (l.take (k+1)) v u=renL (l.take k) v u++[renN v u (nth l k)]):=HRL.out k hlt
   rcases (HN.out.below HB.out).2 with h0|⟨xb,xo,rfl,hc⟩
   ·omega
   obtain ⟨p0,p1,p2,p3,p4,p5⟩:=hc k hlt
   rw [nth_get hlt] at p0 p1 p2 p3 p4 p5
   clear hc
   generalize nth l k=n at HSC p0 p1 p2 p3 p4 p5
   generalize renL (l.take k) v u=L at HO HLK HSC ⊢
   obtain ⟨W1,hW1⟩:∃ W1:World,W1=wr.alloc (.cells #[.int .i64 n.op,.int .i64 n.w,.int .i64 n.k,.int .i64 n.a,.int .i64 n.b,.int .i64 n.c] 53):=⟨_,rfl⟩
   have hs1:W1.heap.size=wr.heap.size+1:=by rw [hW1];simp
   have HB1:Hid (Below wr.heap.size wr W1):=by rw [hW1];exact (Below.refl _ _).alloc (Nat.le_refl _) _
   have HG:Hid (NodeAt W1 wr.heap.size 0 n/\∀ j,W1.frozen? ⟨wr.heap.size,j,none⟩=false):=by rw [hW1];exact ⟨⟨by simp,by simp,by simp,by simp,by simp,by simp⟩,fun j=>by simp⟩
   go_wp2_with fail
   rw [<- hW1]
   refine (sNamed n W1).mono ?_
   rintro e w2 ⟨rfl,hb2⟩
   have HB2:Hid (Below wr.heap.size wr w2):=HB1.out.trans (hb2.mono (by omega))
   have HO2:Hid (Own w2 w.heap.size (.slice ao L.length co) L):=HO.out.kept (S:=fun _=>False) (Kept.ofBelow HB2.out) (fun _ _ h=>h)
   have hgl:wr.heap.size < W1.heap.size:=by omega
   obtain ⟨q0,q1,q2,q3,q4,q5⟩:=HG.out.1.below hb2 hgl
   simp only [Nat.zero_add] at q1 q2 q3 q4 q5
   have z2:w2.frozen? ⟨wr.heap.size,2,none⟩=false:=by rw [hb2.frozen hgl];exact HG.out.2 2
   have hs2:wr.heap.size < w2.heap.size:=Nat.lt_of_lt_of_le hgl hb2.size
   have HRN:Hid (renN v u n=if nmd n&&n.k==v then { n with k:=u } else n):=rfl
   clear hW1 hb2 p0 p1 p2 p3 p4 p5
   have hLl:L.length<=1048576:=by have:=HLK.out;omega
   have hws:w.heap.size<=w2.heap.size:=by omega
   cases hnm:nmd n
   ·have HY:Hid (renN v u n=n):=by show _=_;rw [HRN.out,hnm];rfl
    go_wp2_with (at_builtin;go_must (refine app_node _ rfl _ _ rfl w.heap.size (.slice ao L.length co) L n rfl _ rfl rfl HO2.out hws hLl ?_;intro g5 cp5 w5 ho5 hk5 hg5))
    have HO5:Hid (Own w5 w.heap.size (.slice (some ⟨g5,0,none⟩) (L.length+1) cp5) (L++[n])):=ho5
    have HB5:Hid (Below w.heap.size w w5):=(HB.out.trans (HB2.out.mono hbs)).trans (hk5.below (fun b hb=>(HO2.out.lt b hb).1) hws)
    clear ho5 hk5 hg5
    go_wp2
    go_roundw
    case rel=>exact ⟨k+1,by omega,by go_num,HB5.out,by rw [HSC.out,HY.out];exact HO5.out⟩
    case measure=>simp [intOf];omega
   ·cases hkv:(n.k==v)
    ·have HY:Hid (renN v u n=n):=by show _=_;rw [HRN.out,hnm,hkv];rfl
     go_wp2_with (at_builtin;go_must (refine app_node _ rfl _ _ rfl w.heap.size (.slice ao L.length co) L n rfl _ rfl rfl HO2.out hws hLl ?_;intro g5 cp5 w5 ho5 hk5 hg5))
     have HO5:Hid (Own w5 w.heap.size (.slice (some ⟨g5,0,none⟩) (L.length+1) cp5) (L++[n])):=ho5
     have HB5:Hid (Below w.heap.size w w5):=(HB.out.trans (HB2.out.mono hbs)).trans (hk5.below (fun b hb=>(HO2.out.lt b hb).1) hws)
     clear ho5 hk5 hg5
     go_wp2
     go_roundw
     case rel=>exact ⟨k+1,by omega,by go_num,HB5.out,by rw [HSC.out,HY.out];exact HO5.out⟩
     case measure=>simp [intOf];omega
    ·have HY:Hid (renN v u n=⟨n.op,n.w,u,n.a,n.b,n.c⟩):=by show _=_;rw [HRN.out,hnm,hkv];rfl
     have HK3:Hid (Kept (fun b=>b=wr.heap.size) w2 (w2.setCell ⟨wr.heap.size,2,none⟩ (.int .i64 u))):=(Kept.refl (fun b=>b=wr.heap.size) w2).setCell (p:=⟨wr.heap.size,2,none⟩) rfl _
     have hs3:(w2.setCell ⟨wr.heap.size,2,none⟩ (.int .i64 u)).heap.size=w2.heap.size:=by simp [World.setCell]
     have HO3:Hid (Own (w2.setCell ⟨wr.heap.size,2,none⟩ (.int .i64 u)) w.heap.size (.slice ao L.length co) L):=HO2.out.kept HK3.out (fun b hb e=>by have:=(HO.out.lt b hb).2;omega)
     have hws3:w.heap.size<=(w2.setCell ⟨wr.heap.size,2,none⟩ (.int .i64 u)).heap.size:=by omega
     go_wp2_with (at_builtin;go_must (refine app_node _ rfl _ _ rfl w.heap.size (.slice ao L.length co) L ⟨n.op,n.w,u,n.a,n.b,n.c⟩ rfl _ rfl (by first|rfl|simp [World.setCell]) HO3.out hws3 hLl ?_;intro g5 cp5 w5 ho5 hk5 hg5))
     have HO5:Hid (Own w5 w.heap.size (.slice (some ⟨g5,0,none⟩) (L.length+1) cp5) (L++[⟨n.op,n.w,u,n.a,n.b,n.c⟩])):=ho5
     have HB3:Hid (Below w.heap.size w (w2.setCell ⟨wr.heap.size,2,none⟩ (.int .i64 u))):=(HB.out.trans (HB2.out.mono hbs)).trans (HK3.out.below (fun b (hb:b=wr.heap.size)=>by omega) hws)
     have HB5:Hid (Below w.heap.size w w5):=HB3.out.trans (hk5.below (fun b hb=>(HO3.out.lt b hb).1) hws3)
     clear ho5 hk5 hg5
     go_wp2
     go_roundw
     case rel=>exact ⟨k+1,by omega,by go_num,HB5.out,by rw [HSC.out,HY.out];exact HO5.out⟩
     case measure=>simp [intOf];omega
  ·have e:k=l.length:=by omega
   subst e
   have HE:Hid (l.take l.length=l):=List.take_length
   go_wp2
   go_ret
   refine ⟨⟨_,rfl,?_⟩,HB.out⟩
   have h9:=HO.out
   rw [HE.out] at h9
   rw [HE.out]
   exact h9
end Am4
end Go.Proofs.YtbellafdjfliiaaGreat
