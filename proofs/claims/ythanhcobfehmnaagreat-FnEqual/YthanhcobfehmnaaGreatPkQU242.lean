import Derived.Test.YthanhcobfehmnaaGreatSv5
import Derived.Test.YthanhcobfehmnaaGreatPkQU237
import Derived.Test.YthanhcobfehmnaaGreatPkQU235
import Derived.Test.YthanhcobfehmnaaGreatPkQU227
namespace Go.Proofs.YthanhcobfehmnaaGreat
set_option maxRecDepth 100000
set_option maxHeartbeats 8000000
set_option linter.unusedVariables false
namespace Sv6
open Go.RowKit
open Nd0 Pl1 Tm0 Tm1 Tm3 Tm5 Tm6 Tm8 Tm11 Tm13 Tm14 Ap0 Ap2 Tr0 Rw0 Vl1 Vl2 Vl3 Vl5 Vm0 Kp1
open Sp10 (sQuant)
open Sp7 (sPrune)
open Sp4 (sTermOk)
open Sv4 (sAt)
open Sv5 (sFits)
open Wd1 (ret_int ret_bool)
theorem app_intsO {ops:Array Oper} {rest:List Oper} {o:Oper} {a:Act} {Q:Exit->Act->World->Prop} (W:World) (hgd:o.guard=none) (s x:Operand)
 (ho:o.op=.call { callee:=.builtin .append,args := #[s,x],argTypes := #[29,29] })
 (B:Nat) (v:Value) (l ys:List Int) (g d c:Nat) (hs:a.eval s=v) (hx:a.eval x=.slice (some ⟨g,d,none⟩) ys.length c)
 (hy:∀ j (h:j < ys.length),W.cell? ⟨g,d+j,none⟩=some (.int .i64 ys[j])) (hp:0 < ys.length)
 (hown:Ows W B v l) (hB:B<=W.heap.size) (hlen:l.length+ys.length<=1048577)
 (h:∀ g cap w',Ows w' B (.slice (some ⟨g,0,none⟩) (l.length+ys.length) cap) (l++ys)->Kept (fun k=>v.ownBlock=some k) W w'->wpList Tryz.prog ops Q rest (a.put o.dst (.slice (some ⟨g,0,none⟩) (l.length+ys.length) cap)) w') :
 wpList Tryz.prog ops Q (o :: rest) a W:=by
 obtain ⟨i,hi,hzz⟩:=Option.map_eq_some_iff.1 infoInt
 simp only [Prod.mk.injEq] at hzz
 obtain ⟨hz,hsz,hb⟩:=hzz
 refine wpList_append_lies W hgd s x 29 ho B 3 i (.int .i64 0) 1 8 Tryz.underlying29 hi hz hsz hb rfl (by omega) v l.length (l.map fun x=>.int .i64 x) hs hown
  ⟨g,d,none⟩ ys.length c (ys.map fun x=>.int .i64 x) hx (by simp) ?_ ?_ hp (by unfold maxLen;omega) (by omega) hB _ rfl ?_
 ·intro j u hu
  have hadd:(⟨g,d,none⟩:Addr).add j=⟨g,d+j,none⟩:=by unfold Addr.add;split<;>simp_all
  rw [hadd]
  rw [List.getElem?_map] at hu
  obtain ⟨y,hy1,rfl⟩:=Option.map_eq_some_iff.1 hu
  obtain ⟨hj,rfl⟩:=List.getElem?_eq_some_iff.1 hy1
  exact hy j hj
 ·intro u hu
  obtain ⟨y,_,rfl⟩:=List.mem_map.1 hu
  rfl
 ·intro g cap w' h1 h2 h3 h4
  refine h g cap w' ?_ ?_
  ·unfold Ows
   simpa using h1
  ·exact ⟨h2.os,h2.tape,h2.output,h2.size,fun k hk hn=>h2.block k hk (fun e=>hn e.symm)⟩
def vRes (o:Option Int):Value:=.tuple #[.int .i64 (o.getD 0),.bool o.isSome]
theorem val_none {l:List Nd} {e:List Int} (h:¬ (termOk l=true/\e.length=8/\bitsTo l l.length<=12/\fitT (root l) e=true)):valueL l e=none:=by
 cases hv:valueL l e with
 | none=>rfl
 | some x =>
   obtain ⟨h1,h2,h3,h4,_⟩:=value_parts.1 hv
   exact absurd ⟨h1,h2,h3,h4⟩ h
theorem sValue (w:World) (a ae:Option Addr) (l:List Nd) (e:List Int) (c ce:Nat) (hN:Nodes w a l) (hI:Ints w ae e) :
 Calls Tryz.prog 83 #[.slice a l.length c,.slice ae e.length ce] w fun x w'=>x=.returned (vRes (valueL l e))/\Below w.heap.size w w':=by
 have HN:Hid (Nodes w a l):=hN
 have HI:Hid (Ints w ae e):=hI
 clear hN hI
 go_enter Tryz.func83,Tryz.ntmps83
 go_wp2_with fail
 refine (sTermOk _ a l c HN.out).mono ?_
 rintro x0 w1 ⟨rfl,hb1⟩
 have HB1:Hid (Below w.heap.size w w1):=hb1
 clear hb1
 cases hT:termOk l
 ·have HV:Hid (valueL l e=none):=val_none (fun h=>by rw [hT] at h;cases h.1)
  go_wp2
  go_ret2
  rw [HV.out]
  exact ⟨rfl,HB1.out⟩
 ·have HT:Hid (termOk l=true):=hT
  clear hT
  by_cases h8:e.length=8
  ·rw [h8]
   have HPR:Hid (valueL l e=valueL (pruneL l) e):=(value_prune HT.out e).symm
   have hTP:=prune_term HT.out
   have hRP:∀ j,j < (pruneL l).length->flag (reachL (pruneL l)) j=true:=fun j hj=>prune_reach HT.out hj
   go_wp2_with fail
   refine (sPrune _ a l c (HN.out.below HB1.out)).mono ?_
   rintro x0 w2 ⟨⟨v2,rfl,ho2⟩,hb2⟩
   obtain ⟨a2,c2,rfl,hn2⟩:=ho2.form
   have hL1:=term_len hTP
   generalize pruneL l=P at hTP hRP hn2 hL1 HPR ⊢
   have HTP:Hid (termOk P=true):=hTP
   have HRP:Hid (∀ j,j < P.length->flag (reachL P) j=true):=hRP
   have HNP:Hid (Nodes w2 a2 P):=hn2.nodes
   have HB2:Hid (Below w.heap.size w w2):=HB1.out.trans (hb2.mono HB1.out.size)
   have HI2:Hid (Ints w2 ae e):=HI.out.below HB2.out
   clear hTP hRP ho2 hn2 hb2
   go_wp2_with fail
   go_loop [7,8] (fun s q=>∃ i:Nat,i<=P.length/\q=.int .i64 (i:Int)/\s=.int .i64 (bitsTo P i)) (fun _ q=>P.length - (intOf q).toNat)
   case atStart=>exact ⟨0,Nat.zero_le _,rfl,rfl⟩
   case round =>
    obtain ⟨i,hi,rfl,rfl⟩:=hrel
    by_cases hlt:i < P.length
    ·have hlz:(i:Int) < (P.length:Int):=by omega
     rcases HNP.out.2 with h0|⟨xb,xo,rfl,hc⟩
     ·omega
     have p0:=(hc i hlt).c0
     have p4:=(hc i hlt).c4
     rw [nth_get hlt] at p0 p4
     clear hc
     have HBN:Hid (bitsTo P (i+1)=if quant (nth P i).op then bitsTo P i+(nth P i).b else bitsTo P i):=by
      show (if _ then _ else _)=_
      rw [HRP.out i hlt,Bool.true_and]
     have hbb:=bits_bound HTP.out i hi
     have HQB:Hid (quant (nth P i).op=true->1<=(nth P i).b/\(nth P i).b<=8):=fun h=>quant_b (term_node HTP.out hlt) h
     generalize bitsTo P i=z at HBN hbb ⊢
     generalize nth P i=n at p0 p4 HBN HQB
     obtain ⟨hb0,hb9⟩:=hbb
     cases hqu:quant n.op
     ·have HB2':Hid (bitsTo P (i+1)=z):=by
       show _=_
       rw [HBN.out,hqu];rfl
      go_wp2_with (go_at_call 28;refine (sQuant _ _).mono ?_;rintro x0 w2 ⟨rfl,rfl⟩;rw [hqu])
      go_round
      case rel=>exact ⟨i+1,by omega,by go_num,by rw [HB2'.out]⟩
      case measure=>simp [intOf];omega
     ·have HB2':Hid (bitsTo P (i+1)=z+n.b):=by
       show _=_
       rw [HBN.out,hqu];rfl
      obtain ⟨hq1,hq2⟩:=HQB.out hqu
      go_wp2_with (go_at_call 28;refine (sQuant _ _).mono ?_;rintro x0 w2 ⟨rfl,rfl⟩;rw [hqu])
      go_round
      case rel=>exact ⟨i+1,by omega,by go_num,by rw [HB2'.out]⟩
      case measure=>simp [intOf];omega
    ·have hlz:¬ (i:Int) < (P.length:Int):=by omega
     have hie:i=P.length:=by omega
     have HBT:Hid (bitsTo P i=bitsTo P P.length):=by
      show _=_
      rw [hie]
     clear hie
     generalize bitsTo P i=z at HBT ⊢
     by_cases h12:12 < z
     ·have HV:Hid (valueL l e=none):=HPR.out.trans (val_none (fun h=>by have:=h.2.2.1;rw [<- HBT.out] at this;omega))
      go_wp2
      go_ret2
      rw [HV.out]
      exact ⟨rfl,HB2.out⟩
     ·have h12z:¬ (12 < z):=h12
      go_wp2_with fail
      refine (sFits _ a2 ae P e c2 ce HNP.out HTP.out HRP.out HI2.out h8).mono ?_
      rintro x0 w3 ⟨rfl,hb3⟩
      have HB3:Hid (Below w.heap.size w w3):=HB2.out.trans (hb3.mono HB2.out.size)
      have HN3:Hid (Nodes w3 a2 P):=HNP.out.below hb3
      have HI3:Hid (Ints w3 ae e):=HI2.out.below hb3
      clear hb3
      cases hf:fitT (root P) e
      ·have HV:Hid (valueL l e=none):=HPR.out.trans (val_none (fun h=>by rw [hf] at h;cases h.2.2.2))
       go_wp2
       go_ret2
       rw [HV.out]
       exact ⟨rfl,HB3.out⟩
      ·have HV:Hid (valueL l e=some (vT (tr P (P.length - 1)) e)):=HPR.out.trans (value_parts.2 ⟨HTP.out,h8,by rw [<- HBT.out];omega,hf,rfl⟩)
       rcases HI3.out.2 with h0|⟨eb,eo,rfl,hec⟩
       ·omega
       have hebl:eb < w3.heap.size:=lt_of_cell (hec 0 (by omega))
       have HEC:Hid (∀ j (h:j < e.length),(w3.alloc (.cells #[] 3)).cell? ⟨eb,eo+j,none⟩=some (.int .i64 e[j])):=fun j hj=>by
        rw [((Below.refl w3.heap.size w3).alloc (Nat.le_refl _) _).cell (p:=⟨eb,eo+j,none⟩) hebl]
        exact hec j hj
       have HLIT:Hid (Ows (w3.alloc (.cells #[] 3)) w3.heap.size (.slice (some ⟨w3.heap.size,0,none⟩) 0 0) []):=Ows.lit w3 _ (Nat.le_refl _)
       have hs3:w3.heap.size<=(w3.alloc (.cells #[] 3)).heap.size:=by simp
       have hcast:(P.length:Int) - 1=((P.length - 1:Nat):Int):=by omega
       have HCA:Hid ((P.length:Int) - 1=((P.length - 1:Nat):Int)):=hcast
       clear hec hcast
       go_wp2_with (at_builtin;go_must (refine app_intsO _ rfl _ _ rfl w3.heap.size (.slice (some ⟨w3.heap.size,0,none⟩) 0 0) [] e eb eo ce rfl (by rw [h8];rfl) HEC.out (by omega) HLIT.out hs3 (by simp [h8]) ?_;intro g5 cp5 w5 ho5 hk5;rw [show ([]:List Int).length+e.length=8 by simp [h8]] at ho5 ⊢;have HO5:Hid (Ows w5 w3.heap.size (.slice (some ⟨g5,0,none⟩) 8 cp5) e):=ho5;have HK5:Hid (Below w3.heap.size w3 w5):=((Below.refl w3.heap.size w3).alloc (Nat.le_refl _) _).trans (hk5.below (fun b hb=>(HLIT.out.lt b hb).1) hs3);clear ho5 hk5))
       obtain ⟨g6,c6,hv6,hB6,hl6,hr6⟩:=Rw1.row_ints HO5.out (by omega)
       have HG5:Hid (w3.heap.size<=g5/\Env w5 g5 e):=by
        have e6:g6=g5:=by
         have:=congrArg Value.ownBlock hv6
         simpa [Value.ownBlock] using this.symm
        rw [e6,h8] at hr6
        exact ⟨by omega,hr6⟩
       rw [HCA.out]
       refine (sAt HTP.out (P.length - 1) (by omega) _ a2 c2 g5 cp5 e (HN3.out.below HK5.out) (fun x hx=>?_) h8 HG5.out.2).mono ?_
       ·rcases HN3.out.2 with h0|⟨xb,xo,hx2,hc⟩
        ·omega
        ·rw [hx] at hx2
         have h9:=(hc 0 (by omega)).lt
         have h10:=Option.some.inj hx2
         rw [h10]
         have:=HG5.out.1
         show ¬ xb=g5
         omega
       rintro x0 w6 ⟨rfl,_,hK6⟩
       have HB6:Hid (Below w.heap.size w w6):=(HB3.out.trans (HK5.out.mono HB3.out.size)).trans (hK6.below (fun b (eb:b=g5)=>by have:=HG5.out.1;have:=HB3.out.size;omega) (by have:=HK5.out.size;have:=HB3.out.size;omega))
       clear hK6 hr6 hv6
       go_wp2
       go_ret2
       rw [HV.out]
       exact ⟨rfl,HB6.out⟩
  ·have h8z:((e.length:Int) != 8)=true:=by simp;omega
   have HV:Hid (valueL l e=none):=val_none (fun h=>h8 h.2.1)
   go_wp2
   go_ret2
   rw [HV.out]
   exact ⟨rfl,HB1.out⟩
end Sv6
namespace Sv7
open Go.RowKit
open Nd0 Pl1 Tm0 Tm6 Ap0 Vl1 Vl5 Sv6
open Sp11 (sSentence)
theorem sZeros (w:World) :
 Calls Tryz.prog 84 #[] w fun x w'=>(∃ a c,x=.returned (.slice a 8 c)/\Ints w' a (List.replicate 8 0))/\Below w.heap.size w w':=by
 go_enter Tryz.func84,Tryz.ntmps84
 go_wp2_with fail
 go_loopw [1,2] (fun v q wr=>∃ i:Nat,i<=8/\q=.int .i64 (i:Int)/\Ows wr w.heap.size v (List.replicate i 0)/\Below w.heap.size w wr) (fun _ q _=>8 - (intOf q).toNat)
 case atStart=>exact ⟨0,Nat.zero_le _,rfl,Ows.lit w _ (Nat.le_refl _),(Below.refl _ _).alloc (Nat.le_refl _) _⟩
 case round =>
  obtain ⟨i,hi,rfl,ho,hb⟩:=hrel
  have HO:Hid (Ows wr w.heap.size u1 (List.replicate i 0)):=ho
  have HB:Hid (Below w.heap.size w wr):=hb
  have hbs:w.heap.size<=wr.heap.size:=hb.size
  have HL:Hid ((List.replicate i (0:Int)).length=i):=List.length_replicate
  have HS:Hid (List.replicate (i+1) (0:Int)=List.replicate i 0++[0]):=by
   show _=_
   rw [List.replicate_succ']
  clear ho hb
  by_cases hlt:i < 8
  ·have hz:(i:Int) < 8:=by omega
   generalize List.replicate i (0:Int)=L at HO HL HS
   go_wp2_with (at_builtin;go_must (refine app_int _ rfl _ _ rfl w.heap.size u1 L 0 rfl rfl HO.out hbs (by rw [HL.out];omega) ?_;intro g5 cp5 w5 ho5 hk5 hg5;have HO5:Hid (Ows w5 w.heap.size (.slice (some ⟨g5,0,none⟩) (L.length+1) cp5) (L++[0])):=ho5;have HB5:Hid (Below w.heap.size w w5):=HB.out.trans (hk5.below (fun b hb=>(HO.out.lt b hb).1) hbs);clear ho5 hk5 hg5))
   go_roundw
   case rel=>exact ⟨i+1,by omega,by go_num,by rw [HS.out];exact HO5.out,HB5.out⟩
   case measure=>simp [intOf];omega
  ·have hz:¬ (i:Int) < 8:=by omega
   have e8:i=8:=by omega
   subst e8
   obtain ⟨av,cv,hv,hwi⟩:=HO.out.form
   rw [List.length_replicate] at hv
   subst hv
   have HI:Hid (Ints wr av (List.replicate 8 0)):=hwi.ints
   clear hwi HO
   go_wp2
   go_ret
   first
    | exact ⟨HI.out,HB.out⟩
    | exact ⟨⟨av,⟨cv,rfl⟩,HI.out⟩,HB.out⟩
    | (trace_state;fail)
theorem sHolds (w:World) (a:Option Addr) (l:List Nd) (c:Nat) (hN:Nodes w a l) :
 Calls Tryz.prog 44 #[.slice a l.length c] w fun x w'=>x=.returned (vRes (holdsL l))/\Below w.heap.size w w':=by
 have HN:Hid (Nodes w a l):=hN
 clear hN
 go_enter Tryz.func44,Tryz.ntmps44
 go_wp2_with fail
 refine (sSentence _ a l c HN.out).mono ?_
 rintro x0 w1 ⟨rfl,hb1⟩
 have HB1:Hid (Below w.heap.size w w1):=hb1
 clear hb1
 cases hS:sentB l
 ·have HV:Hid (holdsL l=none):=by
   show _=_
   unfold holdsL;rw [hS];rfl
  go_wp2
  go_ret2
  rw [HV.out]
  exact ⟨rfl,HB1.out⟩
 ·have HV:Hid (holdsL l=valueL l (List.replicate 8 0)):=by
   show _=_
   unfold holdsL;rw [hS];rfl
  go_wp2_with fail
  refine (sZeros _).mono ?_
  rintro x0 w2 ⟨⟨a2,c2,rfl,hi2⟩,hb2⟩
  have HI2:Hid (Ints w2 a2 (List.replicate 8 0)):=hi2
  have HB2:Hid (Below w.heap.size w w2):=HB1.out.trans (hb2.mono HB1.out.size)
  clear hi2 hb2
  go_wp2_with fail
  refine (sValue _ a a2 l (List.replicate 8 0) c c2 (HN.out.below HB2.out) HI2.out).mono ?_
  rintro x0 w3 ⟨rfl,hb3⟩
  have HB3:Hid (Below w.heap.size w w3):=HB2.out.trans (hb3.mono HB2.out.size)
  clear hb3
  unfold vRes
  generalize valueL l (List.replicate 8 0)=o at HV ⊢
  go_wp2
  go_ret2
  rw [HV.out]
  exact ⟨rfl,HB3.out⟩
end Sv7
namespace Am10
open Go.RowKit
open Nd0 Nd3 Tm0 Tm8 Aq0 Aq1 Aq12 Vl5
open Ap2 (Own app_node)
open Sv6 (vRes)
open Sv7 (sHolds)
open Am8 (sCloseAll)
open Am9 (sJoin)
open Pb12 (eqN eqL eqV eq_no1 eq_no2 eq_yes)
theorem holds_nil:holdsL []=none:=by
 unfold holdsL
 have:Tm6.sentB []=false:=Tm6.sent_term (by decide)
 rw [this];rfl
theorem sValid (w:World) (a:Option Addr) (l:List Nd) (c:Nat) (hN:Nodes w a l) :
 Calls Tryz.prog 20 #[.slice a l.length c] w fun e w'=>e=.returned (.tuple #[.int .i64 ((holdsL (clL l)).getD 0),.bool (holdsL (clL l)).isSome])/\Below w.heap.size w w':=by
 have HN:Hid (Nodes w a l):=hN
 clear hN
 go_enter Tryz.func20,Tryz.ntmps20
 go_wp2_with fail
 refine (sCloseAll _ _ l c HN.out).mono ?_
 rintro e w1 ⟨⟨a',c',rfl,hw1⟩,hb1⟩
 have HW1:Hid (Nodes w1 a' (clL l)):=hw1.nodes
 have HB1:Hid (Below w.heap.size w w1):=hb1
 have HCB:Hid (clB l=false->clL l=[]):=fun h=>by unfold clL;rw [h];rfl
 clear hw1 hb1
 cases hc:clB l
 ·have HE:Hid (clL l=[]):=HCB.out hc
  clear hc
  go_wp2
  go_ret2
  rw [HE.out,holds_nil]
  exact ⟨rfl,HB1.out⟩
 ·clear hc HCB
  generalize hu:clL l=u at HW1 ⊢
  have HU:Hid (clL l=u):=hu
  clear hu
  go_wp2_with fail
  refine (sHolds _ _ u c' HW1.out).mono ?_
  unfold vRes
  rintro e w2 ⟨rfl,hb2⟩
  have HB2:Hid (Below w.heap.size w w2):=HB1.out.trans (hb2.mono HB1.out.size)
  clear hb2
  go_wp2
  go_ret2
  rw [HU.out]
  exact ⟨rfl,HB2.out⟩
theorem sEqual (w:World) (a1 a2:Option Addr) (l1 l2:List Nd) (c1 c2:Nat) (hN1:Nodes w a1 l1) (hN2:Nodes w a2 l2) :
 Calls Tryz.prog 7 #[.slice a1 l1.length c1,.slice a2 l2.length c2] w fun e w'=>e=.returned (.tuple #[.int .i64 ((eqV l1 l2).getD 0),.bool (eqV l1 l2).isSome])/\Below w.heap.size w w':=by
 have HN1:Hid (Nodes w a1 l1):=hN1
 have HN2:Hid (Nodes w a2 l2):=hN2
 clear hN1 hN2
 go_enter Tryz.func7,Tryz.ntmps7
 go_wp2_with fail
 refine (Sp4.sTermOk _ _ l1 c1 HN1.out).mono ?_
 rintro e w1 ⟨rfl,hb1⟩
 have HB1:Hid (Below w.heap.size w w1):=hb1
 clear hb1
 cases hT1:termOk l1
 ·have HE:Hid (eqV l1 l2=none):=eq_no1 hT1
  go_wp2
  go_ret2
  rw [HE.out]
  exact ⟨rfl,HB1.out⟩
 ·have HT1:Hid (termOk l1=true):=hT1
  clear hT1
  go_wp2_with fail
  refine (Sp4.sTermOk _ _ l2 c2 (HN2.out.below HB1.out)).mono ?_
  rintro e w2 ⟨rfl,hb2⟩
  have HB2:Hid (Below w.heap.size w w2):=HB1.out.trans (hb2.mono HB1.out.size)
  clear hb2 HB1
  cases hT2:termOk l2
  ·have HE:Hid (eqV l1 l2=none):=eq_no2 hT2
   go_wp2
   go_ret2
   rw [HE.out]
   exact ⟨rfl,HB2.out⟩
  ·have HT2:Hid (termOk l2=true):=hT2
   have HE:Hid (eqV l1 l2=holdsL (clL (eqL l1 l2))):=eq_yes HT1.out hT2
   obtain ⟨h11,h12⟩:=term_len HT1.out
   obtain ⟨h21,h22⟩:=term_len hT2
   clear hT2
   go_wp2_with fail
   refine (sJoin _ a1 a2 l1 l2 c1 c2 (HN1.out.below HB2.out) (HN2.out.below HB2.out) ⟨h11,h12⟩ h22 (down_of HT2.out)).mono ?_
   rintro e w3 ⟨⟨g,cp,rfl,ho3⟩,hb3⟩
   have HO3:Hid (Own w3 w2.heap.size (.slice (some ⟨g,0,none⟩) (joinL l1 l2).length cp) (joinL l1 l2)):=ho3
   have HB3:Hid (Below w.heap.size w w3):=HB2.out.trans (hb3.mono HB2.out.size)
   have HS3:Hid (w2.heap.size<=w3.heap.size):=hb3.size
   have HW2:Hid (w.heap.size<=w2.heap.size):=HB2.out.size
   have hjl:(joinL l1 l2).length=l1.length+l2.length:=joinL_length l1 l2
   have HJL:Hid ((joinL l1 l2).length<=160):=by show _<=_;omega
   have HEN:Hid (eqN l1 l2=⟨13,1,0,(l1.length:Int) - 1,((joinL l1 l2).length:Int) - 1,0⟩):=by show _=_;rw [hjl];unfold eqN;simp
   have HEL:Hid (joinL l1 l2++[eqN l1 l2]=eqL l1 l2):=rfl
   have hj1:1<=(joinL l1 l2).length:=by omega
   have hj2:(joinL l1 l2).length<=160:=by omega
   clear ho3 hb3 hjl
   generalize eqN l1 l2=y at HEN HEL
   generalize joinL l1 l2=X at HO3 HJL HEL HEN hj1 hj2 ⊢
   generalize hE:eqL l1 l2=E at HEL
   have HEE:Hid (eqL l1 l2=E):=hE
   clear hE
   have HYE:Hid (X++[⟨13,1,0,(l1.length:Int) - 1,(X.length:Int) - 1,0⟩]=E):=by show _=_;rw [<- HEL.out,HEN.out]
   have hs3:w2.heap.size<=w3.heap.size:=HS3.out
   go_wp2_with (at_builtin;go_must (refine app_node w3 rfl _ _ rfl w2.heap.size (.slice (some ⟨g,0,none⟩) X.length cp) X ⟨13,1,0,(l1.length:Int) - 1,(X.length:Int) - 1,0⟩ rfl _ rfl rfl HO3.out hs3 (by omega) ?_;intro g5 cp5 w5 ho5 hk5 hg5))
   have HB5:Hid (Below w.heap.size w w5):=HB3.out.trans (hk5.below (fun b hb=>by have:=(HO3.out.lt b hb).1;have:=HW2.out;omega) HB3.out.size)
   have HN5:Hid (Nodes w5 (some ⟨g5,0,none⟩) E):=by
    rw [HYE.out] at ho5
    obtain ⟨av,cv,hv,hw⟩:=ho5.form
    simp only [Value.slice.injEq] at hv
    rw [hv.1]
    exact hw.nodes
   have HEQ:Hid (X.length+1=E.length):=by show _=_;rw [<- HYE.out,List.length_append];rfl
   clear ho5 hk5 hg5
   rw [HEQ.out]
   go_wp2_with fail
   refine (sValid _ _ E cp5 HN5.out).mono ?_
   rintro e w6 ⟨rfl,hb6⟩
   have HB6:Hid (Below w.heap.size w w6):=HB5.out.trans (hb6.mono HB5.out.size)
   clear hb6
   go_wp2
   go_ret2
   rw [HE.out,HEE.out]
   exact ⟨rfl,HB6.out⟩
end Am10
namespace Leq1
open Go.RowKit
open Nd0 Nd3 Tm0 Lw4 Aq0 Ap0 Vl1 Vc2 Ic4
open Dr0 (Cur Only Bytes Off)
open Lx1 (ITermOk)
open Lat (lat3)
open Am10 (sEqual)
open Pb12 (iEqual eqV)
open Dcn2 (drawEqual)
open Ws1 (ret_int ret_bool)
theorem ints_cap {w:World} {B c:Nat} {a:Option Addr} {l:List Int} (h:Ows w B (.slice a l.length c) l):Ints w a l/\l.length<=c:=by
 obtain ⟨a',c',hv,hw⟩:=h.form
 simp only [Value.slice.injEq] at hv
 rw [hv.1]
 refine ⟨hw.ints,?_⟩
 rcases h.2 with ⟨e,h0⟩|⟨g9,cap,cur,e,hb,hg,hn,_⟩
 ·omega
 ·simp only [Value.slice.injEq] at e
  omega
theorem opt_of {o:Option Int} {x:Int} {k:Bool} (h1:x=o.getD 0) (h2:k=o.isSome) (hk:k=true):o=some x:=by
 cases o with
 | none=>rw [h2] at hk;cases hk
 | some y=>rw [h1];rfl
theorem lawEqual (hTO:ITermOk) (hVA:IValue) (hHO:IHolds) (w:World) (a:Option Addr) (len cap:Nat) (hb:Bytes w a len) :
 Calls Tryz.prog 3 #[.slice a len cap] w fun e w'=>e=.returned (.bool true)/\Below w.heap.size w w':=by
 have HB:Hid (Bytes w a len):=hb
 have HTO:Hid ITermOk:=hTO
 have HVA:Hid IValue:=hVA
 have HHO:Hid IHolds:=hHO
 clear hTO hVA hHO
 by_cases hs:1048576 < len
 ·clear hb
  go_enter Tryz.func3,Tryz.ntmps3
  go_wp2_with fail
  refine (lbig _ a len cap true (by simp;omega)).mono ?_
  rintro e w' ⟨rfl,rfl⟩
  go_wp2
  go_ret
  exact ⟨rfl,Below.refl _ _⟩
 have hsl:len<=1048576:=by omega
 clear hb
 go_enter Tryz.func3,Tryz.ntmps3
 go_wp2_with fail
 refine (lbig _ a len cap false (by simp;omega)).mono ?_
 rintro e w0 ⟨rfl,hz⟩
 have hz':=hz.symm
 clear hz
 subst hz'
 go_wp2_with fail
 refine (drawEqual _ a len cap HB.out).mono ?_
 rintro e w1 ⟨g,c,L,a2,c2,M,rfl,hn,hm,hb1,⟨hl1,hl2,hcL⟩,hm2,hcM⟩
 have HCL:Hid (L.length<=c):=hcL
 have HCM:Hid (M.length<=c2):=hcM
 have HN1:Hid (Nodes w1 (some ⟨g,0,none⟩) L):=hn
 have HM1:Hid (Nodes w1 a2 M):=hm
 have HB1:Hid (Below w.heap.size w w1):=hb1
 clear hn hm hb1 hcL hcM
 obtain ⟨X,hX⟩:∃ X,X=(eqV L M).getD 0:=⟨_,rfl⟩
 obtain ⟨K,hK⟩:∃ K,K=(eqV L M).isSome:=⟨_,rfl⟩
 obtain ⟨Y,hY⟩:∃ Y,Y=(eqV M L).getD 0:=⟨_,rfl⟩
 obtain ⟨F,hF⟩:∃ F,F=(eqV M L).isSome:=⟨_,rfl⟩
 obtain ⟨S,hS⟩:∃ S,S=(eqV L L).getD 0:=⟨_,rfl⟩
 obtain ⟨D,hD⟩:∃ D,D=(eqV L L).isSome:=⟨_,rfl⟩
 have HLM:Hid (∀ W,Nodes W (some ⟨g,0,none⟩) L->Nodes W a2 M->Calls Tryz.prog 6 #[.slice (some ⟨g,0,none⟩) L.length c,.slice a2 M.length c2] W fun e w'=>e=.returned (.tuple #[.int .i64 X,.bool K])/\Below W.heap.size W w'):=fun W h1 h2=>by
  rw [hX,hK];exact iEqual HTO.out HHO.out W _ _ L M c c2 h1 h2 HCL.out HCM.out
 have HML:Hid (∀ W,Nodes W (some ⟨g,0,none⟩) L->Nodes W a2 M->Calls Tryz.prog 6 #[.slice a2 M.length c2,.slice (some ⟨g,0,none⟩) L.length c] W fun e w'=>e=.returned (.tuple #[.int .i64 Y,.bool F])/\Below W.heap.size W w'):=fun W h1 h2=>by
  rw [hY,hF];exact iEqual HTO.out HHO.out W _ _ M L c2 c h2 h1 HCM.out HCL.out
 have HLL:Hid (∀ W,Nodes W (some ⟨g,0,none⟩) L->Calls Tryz.prog 6 #[.slice (some ⟨g,0,none⟩) L.length c,.slice (some ⟨g,0,none⟩) L.length c] W fun e w'=>e=.returned (.tuple #[.int .i64 S,.bool D])/\Below W.heap.size W w'):=fun W h1=>by
  rw [hS,hD];exact iEqual HTO.out HHO.out W _ _ L L c c h1 h1 HCL.out HCL.out
 have HSE:Hid (∀ W,Nodes W (some ⟨g,0,none⟩) L->Nodes W a2 M->Calls Tryz.prog 7 #[.slice (some ⟨g,0,none⟩) L.length c,.slice a2 M.length c2] W fun e w'=>e=.returned (.tuple #[.int .i64 X,.bool K])/\Below W.heap.size W w'):=fun W h1 h2=>by
  rw [hX,hK];exact sEqual W _ _ L M c c2 h1 h2
 have HFK:Hid (F=true->K=true->X=Y):=fun h1 h2=>eq_turn (opt_of hX hK h2) (opt_of hY hF h1)
 have HDS:Hid (D=true->S=1):=fun h1=>eq_self (opt_of hS hD h1)
 have HSM:Hid (∀ E p q,K=true->X≠0->valueL L E=some p->valueL M E=some q->p=q):=fun E p q h1 h2 h3 h4=>eq_same (opt_of hX hK h1) h2 h3 h4
 clear hX hK hY hF hS hD
 have hxx:(X != X)=false:=by simp
 have hkk:(K != K)=false:=by simp
 go_wp2_with fail
 refine (HLM.out _ HN1.out HM1.out).mono ?_
 rintro e w2 ⟨rfl,hb2⟩
 have HN2:Hid (Nodes w2 (some ⟨g,0,none⟩) L):=HN1.out.below hb2
 have HM2:Hid (Nodes w2 a2 M):=HM1.out.below hb2
 have HB2:Hid (Below w.heap.size w w2):=HB1.out.trans (hb2.mono HB1.out.size)
 clear hb2 HN1 HM1 HB1 HLM
 go_wp2_with fail
 refine (HSE.out _ HN2.out HM2.out).mono ?_
 rintro e w3 ⟨rfl,hb3⟩
 have HN3:Hid (Nodes w3 (some ⟨g,0,none⟩) L):=HN2.out.below hb3
 have HM3:Hid (Nodes w3 a2 M):=HM2.out.below hb3
 have HB3:Hid (Below w.heap.size w w3):=HB2.out.trans (hb3.mono HB2.out.size)
 clear hb3 HN2 HM2 HB2 HSE
 go_wp2_with fail
 refine (HML.out _ HN3.out HM3.out).mono ?_
 rintro e w4 ⟨rfl,hb4⟩
 have HN4:Hid (Nodes w4 (some ⟨g,0,none⟩) L):=HN3.out.below hb4
 have HM4:Hid (Nodes w4 a2 M):=HM3.out.below hb4
 have HB4:Hid (Below w.heap.size w w4):=HB3.out.trans (hb4.mono HB3.out.size)
 clear hb4 HN3 HM3 HB3 HML
 have HXY:Hid (F=true->K=true->(X != Y)=false):=fun h1 h2=>by rw [HFK.out h1 h2];simp
 have HDX:Hid (D=true->(S != 1)=false):=fun h1=>by rw [HDS.out h1];rfl
 clear HFK HDS
 cases K<;>cases F<;>cases D
 all_goals
  first
   | have hxy:=HXY.out rfl rfl
   | skip
  first
   | have hs1:=HDX.out rfl
   | skip
  clear HXY HDX hkk
  go_wp2_with fail
  refine (HLL.out _ HN4.out).mono ?_
  rintro e w5 ⟨rfl,hb5⟩
  have HN5:Hid (Nodes w5 (some ⟨g,0,none⟩) L):=HN4.out.below hb5
  have HM5:Hid (Nodes w5 a2 M):=HM4.out.below hb5
  have HB5:Hid (Below w.heap.size w w5):=HB4.out.trans (hb5.mono HB4.out.size)
  clear hb5 HN4 HM4 HB4 HLL
  go_wp2_with fail
  try clear hxy
  try clear hs1
  go_loopw [13,14] (fun ev q wr=>∃ (j:Nat) (E:List Int),j<=8/\q=.int .i64 (j:Int)/\E.length=j/\Ows wr w5.heap.size ev E/\Below w5.heap.size w5 wr) (fun _ q _=>8 - (intOf q).toNat)
  case atStart=>exact ⟨0,[],Nat.zero_le _,rfl,rfl,Ows.lit _ _ (Nat.le_refl _),(Below.refl _ _).alloc (Nat.le_refl _) _⟩
  case round =>
   obtain ⟨j,E,hj,rfl,hel,ho,hb⟩:=hrel
   obtain ⟨ae,ce,rfl, -⟩:=ho.form
   have HO:Hid (Ows wr w5.heap.size (.slice ae E.length ce) E):=ho
   have HBI:Hid (Below w5.heap.size w5 wr):=hb
   have HEL:Hid (E.length=j):=hel
   have hE8:E.length<=8:=by omega
   have hws:w5.heap.size<=wr.heap.size:=hb.size
   clear ho hb hel
   by_cases hlj:j < 8
   ·have hljz:(j:Int) < 8:=by omega
    obtain ⟨x,hx0,hx1,hxc⟩:=lat3 wr a len cap ((j:Int)+3) (by omega) (by omega) (HB.out.below (HB5.out.trans (HBI.out.mono HB5.out.size))) hsl
    have HXC:Hid (Calls Tryz.prog 8 #[.slice a len cap,.int .i64 ((j:Int)+3)] wr fun e w'=>e=.returned (.int .i64 x)/\w'=wr):=hxc wr (Below.refl _ _)
    clear hxc
    go_wp2_with fail
    refine HXC.out.mono ?_
    rintro e w' ⟨rfl,hz⟩
    have hz':=hz.symm
    clear hz HXC
    subst hz'
    have hr0:0<=x % 2:=by omega
    have hr1:x % 2<=1:=by omega
    go_wp2_with (at_builtin;go_must (refine app_int _ rfl _ _ rfl w5.heap.size (.slice ae E.length ce) E _ rfl rfl HO.out hws (by omega) ?_;intro g7 cp7 w7 ho7 hk7 hg7))
    have HO7:Hid (Ows w7 w5.heap.size (.slice (some ⟨g7,0,none⟩) (E.length+1) cp7) (E++[x % 2])):=ho7
    have HB7:Hid (Below w5.heap.size w5 w7):=HBI.out.trans (hk7.below (fun b hb=>(HO.out.lt b hb).1) hws)
    clear ho7 hk7 hg7
    go_wp2_with fail
    go_roundw
    case rel=>exact ⟨j+1,E++[x % 2],by omega,by go_num,by rw [List.length_append,HEL.out];rfl,HO7.out,HB7.out⟩
    case measure=>simp [intOf];omega
   ·have e:j=8:=by omega
    have HIN:Hid (Ints wr ae E/\E.length<=ce):=ints_cap HO.out
    have HN9:Hid (Nodes wr (some ⟨g,0,none⟩) L):=HN5.out.below HBI.out
    have HM9:Hid (Nodes wr a2 M):=HM5.out.below HBI.out
    have HB9:Hid (Below w.heap.size w wr):=HB5.out.trans (HBI.out.mono HB5.out.size)
    subst e
    clear HO HBI hws HN5 HM5 HB5
    have HV1:Hid (Calls Tryz.prog 9 #[.slice (some ⟨g,0,none⟩) L.length c,.slice ae E.length ce] wr fun x w'=>x=.returned (.tuple #[.int .i64 ((valueL L E).getD 0),.bool (valueL L E).isSome])/\Below wr.heap.size wr w'):=HVA.out wr _ ae L E c ce HN9.out HCL.out (by omega) HIN.out.1 HIN.out.2
    have HV2:Hid (∀ W,Below wr.heap.size wr W->Calls Tryz.prog 9 #[.slice a2 M.length c2,.slice ae E.length ce] W fun x w'=>x=.returned (.tuple #[.int .i64 ((valueL M E).getD 0),.bool (valueL M E).isSome])/\Below W.heap.size W w'):=fun W hW=>HVA.out W _ ae M E c2 ce (HM9.out.below hW) HCM.out (by omega) (HIN.out.1.below hW) HIN.out.2
    obtain ⟨P,hP⟩:∃ P,P=(valueL L E).getD 0:=⟨_,rfl⟩
    obtain ⟨A1,hA1⟩:∃ A1,A1=(valueL L E).isSome:=⟨_,rfl⟩
    obtain ⟨Q,hQ⟩:∃ Q,Q=(valueL M E).getD 0:=⟨_,rfl⟩
    obtain ⟨A2,hA2⟩:∃ A2,A2=(valueL M E).isSome:=⟨_,rfl⟩
    have HPQ:=fun (h2:X≠0) (h3:A1=true) (h4:A2=true) h1=>HSM.out E P Q h1 h2 (opt_of hP hA1 h3) (opt_of hQ hA2 h4)
    rw [<- hP,<- hA1] at HV1
    rw [<- hQ,<- hA2] at HV2
    clear hP hA1 hQ hA2
    have HPX:=fun (h2:(X==0)=false) (h3:A1=true) (h4:A2=true) h1=>(show (P==Q)=true by rw [HPQ (by simpa using h2) h3 h4 h1];simp)
    have HPX:Hid _:=HPX
    clear HPQ
    go_wp2_with fail
    refine HV1.out.mono ?_
    rintro e w6 ⟨rfl,hb6⟩
    have HBW:Hid (Below wr.heap.size wr w6):=hb6
    clear hb6 HV1
    go_wp2_with fail
    refine (HV2.out _ HBW.out).mono ?_
    rintro e w7 ⟨rfl,hb7⟩
    have HB10:Hid (Below w.heap.size w w7):=HB9.out.trans ((HBW.out.trans (hb7.mono HBW.out.size)).mono HB9.out.size)
    clear hb7 HBW HV2 HB9 HM9 HN9 HIN
    cases hx0:(X==0)<;>cases A1<;>cases A2
    all_goals
     first
      | (have hpq:=HPX.out hx0 rfl rfl rfl
         clear HPX
         have HQ:Hid ((P==Q)=true):=hpq
         clear hpq
         go_wp2_with fail
         go_ret
         refine ⟨?_,HB10.out⟩
         show Ending.returned (.bool (P==Q))=_
         rw [HQ.out])
      | (clear HPX
         go_wp2_with fail
         go_ret
         exact ⟨rfl,HB10.out⟩)
end Leq1
namespace Pg3
open Go.RowKit
open Nd0 Tm0 Tm5 Pl1 Ap0 Pg1 Pg2
open Ws1 (ret_int ret_bool)
def used (n:Nd):Nd :=
 ⟨n.op,n.w,if numbered n.op then n.k else 0,if 0 < cnt n.op then n.a else 0,if 1 < cnt n.op\/quant n.op=true then n.b else 0,if 2 < cnt n.op then n.c else 0⟩
theorem iUsed (n:Nd) (w:World) :
 Calls Tryz.prog 69 #[.agg #[.int .i64 n.op,.int .i64 n.w,.int .i64 n.k,.int .i64 n.a,.int .i64 n.b,.int .i64 n.c]] w fun e w'=>e=.returned (.agg #[.int .i64 (used n).op,.int .i64 (used n).w,.int .i64 (used n).k,.int .i64 (used n).a,.int .i64 (used n).b,.int .i64 (used n).c])/\Below w.heap.size w w':=by
 have HU:∀ m:Nd,m=used n->Hid (m=used n):=fun m h=>h
 have hc3:=cnt_le n.op
 have HC:Hid (cnt n.op=0\/cnt n.op=1\/cnt n.op=2\/cnt n.op=3):=by show _\/_;omega
 have HV:Hid (used n=⟨n.op,n.w,if numbered n.op then n.k else 0,if 0 < cnt n.op then n.a else 0,if 1 < cnt n.op\/quant n.op=true then n.b else 0,if 2 < cnt n.op then n.c else 0⟩):=rfl
 clear HU hc3
 generalize used n=u at HV ⊢
 cases hn:numbered n.op<;>cases hq:quant n.op<;>rcases HC.out with hc|hc|hc|hc
 all_goals
  have HN:Hid (numbered n.op=_):=hn
  have HQ:Hid (quant n.op=_):=hq
  have HK:Hid (cnt n.op=_):=hc
  go_enter Tryz.func69,Tryz.ntmps69
  go_wp2_with (first|(go_at_call 73;refine (iCount _ _).mono ?_;rintro e w' ⟨rfl,rfl⟩;rw [hc])|(go_at_call 103;refine (iNumbered _ _).mono ?_;rintro e w' ⟨rfl,rfl⟩;rw [hn])|(go_at_call 86;refine (iQuant _ _).mono ?_;rintro e w' ⟨rfl,rfl⟩;rw [hq]))
  refine bodyPost_ret (v:=.agg #[.int .i64 u.op,.int .i64 u.w,.int .i64 u.k,.int .i64 u.a,.int .i64 u.b,.int .i64 u.c]) ?_ rfl ⟨rfl,?_⟩
  ·have h9:=HV.out
   rw [HN.out,HQ.out,HK.out] at h9
   simp at h9
   subst h9
   simp [results,Tryz.results69,go_sem]
  ·exact (((Below.refl _ _).alloc (Nat.le_refl _) _).alloc (by simp) _).alloc (by simp;omega) _
def pahead (n:Nd) (i:Int):Bool:=(parts n).all fun p=>decide (0<=p/\p < i)
theorem iAhead (n:Nd) (i:Int) (w:World) :
 Calls Tryz.prog 70 #[.agg #[.int .i64 n.op,.int .i64 n.w,.int .i64 n.k,.int .i64 n.a,.int .i64 n.b,.int .i64 n.c],.int .i64 i] w fun e w'=>e=.returned (.bool (pahead n i))/\Below w.heap.size w w':=by
 go_enter Tryz.func70,Tryz.ntmps70
 go_wp2_with fail
 refine (iParts n _).mono ?_
 rintro e w1 ⟨⟨pa,pc,rfl,hpi⟩,hb1⟩
 have HP:Hid (Ints w1 pa (parts n)):=hpi.ints
 have HB1:Hid (Below w.heap.size w w1):=((Below.refl _ _).alloc (Nat.le_refl _) _).trans (hb1.mono (by simp))
 have hpl:=parts_le n
 clear hpi hb1
 go_wp2_with fail
 go_loop [10] (fun q=>∃ k:Nat,k<=(parts n).length/\q=.int .i64 k/\∀ j (h:j < (parts n).length),j < k->0<=(parts n)[j]/\(parts n)[j] < i) (fun q=>(parts n).length - (intOf q).toNat)
 case atStart=>exact ⟨0,Nat.zero_le _,rfl,fun j _ hj=>by omega⟩
 case round =>
  obtain ⟨k,hk,rfl,hall⟩:=hrel
  have HA:Hid (∀ j (h:j < (parts n).length),j < k->0<=(parts n)[j]/\(parts n)[j] < i):=hall
  clear hall
  by_cases hlt:k < (parts n).length
  ·have hlz:(k:Int) < ((parts n).length:Int):=by omega
   rcases HP.out.2 with h0|⟨pb,po,rfl,hpc⟩
   ·omega
   have pk:=hpc k hlt
   clear hpc
   have HBAD:Hid (¬ (0<=(parts n)[k]/\(parts n)[k] < i)->pahead n i=false):=by
    show _->_
    intro h
    unfold pahead
    rw [List.all_eq_false]
    exact ⟨_,List.getElem_mem hlt,by simpa using h⟩
   have HEQ:Hid (∀ x:Int,x=(parts n)[k]->(0<=x/\x < i)->∀ j (h:j < (parts n).length),j < k+1->0<=(parts n)[j]/\(parts n)[j] < i):=by
    show ∀ _,_
    intro x hx hxi j h hj
    by_cases e:j=k
    ·subst e;subst hx;exact hxi
    ·exact HA.out j h (by omega)
   obtain ⟨x,hx⟩:∃ x:Int,x=(parts n)[k]:=⟨_,rfl⟩
   rw [<- hx] at pk HBAD
   have HX:Hid (x=(parts n)[k]):=hx
   clear hx
   by_cases h1:x < 0
   ·go_wp2
    go_ret
    exact ⟨ret_bool (HBAD.out (by omega)).symm,HB1.out⟩
   ·by_cases h2:i<=x
    ·go_wp2
     go_ret
     exact ⟨ret_bool (HBAD.out (by omega)).symm,HB1.out⟩
    ·go_wp2
     go_round
     case rel=>exact ⟨k+1,by omega,by go_num,HEQ.out x HX.out ⟨by omega,by omega⟩⟩
     case measure=>simp [intOf];omega
  ·have HT:Hid (pahead n i=true):=by
    show pahead n i=true
    unfold pahead
    rw [List.all_eq_true]
    intro p hp
    obtain ⟨j,hj,rfl⟩:=List.getElem_of_mem hp
    simpa using HA.out j hj (by omega)
   go_wp2
   go_ret
   exact ⟨ret_bool HT.out.symm,HB1.out⟩
end Pg3
end Go.Proofs.YthanhcobfehmnaaGreat
