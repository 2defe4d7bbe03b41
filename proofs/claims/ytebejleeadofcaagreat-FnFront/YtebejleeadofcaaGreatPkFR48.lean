import Derived.Test.YtebejleeadofcaaGreatFp6
import Derived.Test.YtebejleeadofcaaGreatPkFR29
import Derived.Test.YtebejleeadofcaaGreatSv5
import Derived.Test.YtebejleeadofcaaGreatSp7
import Derived.Test.YtebejleeadofcaaGreatPkFR17
import Derived.Test.YtebejleeadofcaaGreatSp11
namespace Go.Proofs.YtebejleeadofcaaGreat
set_option maxRecDepth 100000
set_option maxHeartbeats 8000000
set_option linter.unusedVariables false
namespace Fp7
open Go.RowKit
open Nd0 Qa0 Pl1 Tm0 Tm1 Tm6 Tm8 Tr0 Rw0 Vl1 Vl2 Vm0 Vm2 Kp1 Pv12 Pv15 Fr0 Fr1 Fr4 Qi0 Qi1 Fp1 Ic4 Fp4 Fp5 Fp6
open Fm1 (iRowOf)
open Fp2 (IFrontOk)
open Fm4 (hfB hfV)
theorem wo_cons {ws:List Int} {l:List Nd} (hl1:1<=l.length) {x:Qu} {q:List Qu} (hx:TyQ ws x) (hbit:∀ e,EnvOk ws e->hf q (root l) e=0\/hf q (root l) e=1) (ih:PWo ws l q):PWo ws l (x :: q):=by
 obtain ⟨al,vr,bits⟩:=x
 cases al
 ·exact wo_gen hl1 hx hbit ih rfl rfl rfl (qv_some _ _) (findSome vr bits) (setSome vr bits) (enters_of Tryz.func171 (by kernel_rfl) rfl) (enters_of Tryz.func169 (by kernel_rfl) rfl) (iVarSome vr bits) (iSetSome vr bits)
 ·exact wo_gen hl1 hx hbit ih rfl rfl rfl (qv_all _ _) (findAll vr bits) (setAll vr bits) (enters_of Tryz.func168 (by kernel_rfl) rfl) (enters_of Tryz.func166 (by kernel_rfl) rfl) (iVarAll vr bits) (iSetAll vr bits)
theorem pWo (hIA:IApply) {ws:List Int} {l:List Nd} (hT:termOk l=true) (hty:Ty ws (root l)) (hw:(root l).wid=1):∀ q:List Qu,(∀ x∈q,TyQ ws x)->PWo ws l q:=by
 intro q
 have hR:Rt (root l):=(rt_all (down_of hT) (fun k hk=>term_node hT hk) (l.length - 1) (by have:=term_len hT;omega)).1
 induction q with
 | nil=>intro _;exact wo_nil hIA hT hty
 | cons x q ih =>
   intro hq
   refine wo_cons (term_len hT).1 (hq x (by simp)) (fun e he=>?_) (ih (fun y hy=>hq y (by simp [hy])))
   cases q with
   | nil=>exact ty_bit hR hty he hw
   | cons y q=>exact hf_bit y q _ e
theorem root_wid {l:List Nd} (hT:termOk l=true) (h:(nth l (l.length - 1)).w=1):(root l).wid=1:=by
 have:=(rt_all (down_of hT) (fun k hk=>term_node hT hk) (l.length - 1) (by have:=term_len hT;omega)).2
 exact this.trans h
theorem pWo_of (hIA:IApply) {q:List Qu} {l:List Nd} (hf:frontOkB q l=true):∃ ws,PWo ws l q/\EnvOk ws (List.replicate 8 0):=by
 obtain ⟨hT,hr,ws,hw,hg⟩:=fo_of hf
 refine ⟨ws,pWo hIA hT (rest_ty (q:=q) hT hg (l.length - 1) (by have:=term_len hT;omega) (reach_root (term_len hT).1)) (root_wid hT hr) q (fun x hx=>?_),env_zero ws (wq_bound _ _ hw)⟩
 obtain ⟨i,hi,rfl⟩:=List.mem_iff_getElem.1 hx
 rw [qth_get hi]
 exact wq_ty _ _ (Nat.le_refl _) hw i hi
theorem agg_zero:agg (List.replicate 8 0)=.agg #[.int .i64 0,.int .i64 0,.int .i64 0,.int .i64 0,.int .i64 0,.int .i64 0,.int .i64 0,.int .i64 0]:=rfl
def IHoldsFront:Prop:=∀ (w:World) (aq a:Option Addr) (q:List Qu) (l:List Nd) (cq c:Nat),Qus w aq q->q.length<=1048576->Nodes w a l->l.length<=c->l.length<=1048576 ->
 Calls Tryz.prog 9 #[.slice aq q.length cq,.slice a l.length c] w fun e w'=>e=.returned (.tuple #[.int .i64 (hfV q l),.bool (hfB q l)])/\Below w.heap.size w w'
theorem iHoldsFront (hFO:IFrontOk) (hIA:IApply):IHoldsFront:=by
 intro w aq a q l cq c hQ hl hN hcap hll
 have HN:Hid (Nodes w a l):=hN
 have HQ:Hid (Qus w aq q):=hQ
 have HFO:Hid IFrontOk:=hFO
 have HIA:Hid IApply:=hIA
 have HCAP:Hid (l.length<=c):=hcap
 clear hN hQ hFO hcap hIA
 go_enter Tryz.func9,Tryz.ntmps9
 go_wp2_with fail
 refine (iRowOf w aq q cq HQ.out hl).mono ?_
 rintro e w1 ⟨⟨ar,cr,rfl,_⟩,hb1⟩
 have HB1:Hid (Below w.heap.size w w1):=hb1
 clear hb1
 cases hfe:fewB q
 ·have HV:Hid (hfV q l=0/\hfB q l=false):=by
   have h:hfB q l=false:=by unfold hfB;rw [hfe];simp
   exact ⟨by unfold hfV;rw [h];rfl,h⟩
  go_wp2
  go_ret2
  rw [HV.out.1,HV.out.2]
  exact ⟨rfl,HB1.out⟩
 ·go_wp2_with fail
  refine (HFO.out w1 aq a q l cq c (HQ.out.below HB1.out) hl (HN.out.below HB1.out) HCAP.out hll).mono ?_
  rintro e w2 ⟨rfl,hb2⟩
  have HB2:Hid (Below w.heap.size w w2):=HB1.out.trans (hb2.mono HB1.out.size)
  clear hb2
  cases hfo:frontOkB q l
  ·have HV:Hid (hfV q l=0/\hfB q l=false):=by
    have h:hfB q l=false:=by unfold hfB;rw [hfo];rfl
    exact ⟨by unfold hfV;rw [h];rfl,h⟩
   go_wp2
   go_ret2
   rw [HV.out.1,HV.out.2]
   exact ⟨rfl,HB2.out⟩
  ·have HV:Hid (hfV q l=hf q (root l) (List.replicate 8 0)/\hfB q l=true):=by
    have h:hfB q l=true:=by unfold hfB;rw [hfo,hfe];rfl
    exact ⟨by unfold hfV;rw [h];rfl,h⟩
   obtain ⟨ws,hp,he⟩:=pWo_of HIA.out hfo
   have HP:Hid (PWo ws l q):=hp
   have HE:Hid (EnvOk ws (List.replicate 8 0)):=he
   clear hp he hfo hfe
   go_wp2_with fail
   refine (iQuantsC w2 aq q cq (HQ.out.below HB2.out) hl).mono ?_
   rintro e w3 ⟨⟨ai,ci,rfl,hqv,hqc,_⟩,hb3⟩
   have HB3:Hid (Below w.heap.size w w3):=HB2.out.trans (hb3.mono HB2.out.size)
   have hcall:=HP.out w3 ai a ci c (List.replicate 8 0) hqv hqc (HN.out.below HB3.out) HE.out
   rw [agg_zero] at hcall
   have HC:Hid (Calls Tryz.prog 31 #[.slice ai q.length ci,.slice a l.length c,.agg #[.int .i64 0,.int .i64 0,.int .i64 0,.int .i64 0,.int .i64 0,.int .i64 0,.int .i64 0,.int .i64 0]] w3 fun x w'=>x=.returned (.int .i64 (hf q (root l) (List.replicate 8 0)))/\Below w3.heap.size w3 w'):=hcall
   clear hcall hqv hqc hb3 HE
   generalize hf q (root l) (List.replicate 8 0)=val at HV HC
   go_wp2_with fail
   refine HC.out.mono ?_
   rintro e w4 ⟨rfl,hb4⟩
   have HB4:Hid (Below w.heap.size w w4):=HB3.out.trans (hb4.mono HB3.out.size)
   clear hb4
   go_wp2
   go_ret2
   rw [HV.out.1,HV.out.2]
   exact ⟨rfl,HB4.out⟩
end Fp7
namespace Sv6
open Go.RowKit
open Nd0 Pl1 Tm0 Tm1 Tm3 Tm5 Tm6 Tm8 Tm11 Tm13 Tm14 Ap0 Ap2 Tr0 Rw0 Vl1 Vl2 Vl3 Vl5 Vm0 Kp1
open Sp10 (sQuant)
open Sp7 (sPrune)
open Sp4 (sTermOk)
open Sv4 (sAt)
open Sv5 (sFits)
open Wd1 (ret_int ret_bool)
theorem app_intsO {ops:Array Oper} {rest:List Oper} {o:Oper} {a:Act} {Q:Exit->Act->World->Prop} (W:World) (hgd:o.guard=none) (s x:Operand)
 (ho:o.op=.call { callee:=.builtin .append,args := #[s,x],argTypes := #[39,39] })
 (B:Nat) (v:Value) (l ys:List Int) (g d c:Nat) (hs:a.eval s=v) (hx:a.eval x=.slice (some ⟨g,d,none⟩) ys.length c)
 (hy:∀ j (h:j < ys.length),W.cell? ⟨g,d+j,none⟩=some (.int .i64 ys[j])) (hp:0 < ys.length)
 (hown:Ows W B v l) (hB:B<=W.heap.size) (hlen:l.length+ys.length<=1048577)
 (h:∀ g cap w',Ows w' B (.slice (some ⟨g,0,none⟩) (l.length+ys.length) cap) (l++ys)->Kept (fun k=>v.ownBlock=some k) W w'->wpList Tryz.prog ops Q rest (a.put o.dst (.slice (some ⟨g,0,none⟩) (l.length+ys.length) cap)) w') :
 wpList Tryz.prog ops Q (o :: rest) a W:=by
 obtain ⟨i,hi,hzz⟩:=Option.map_eq_some_iff.1 infoInt
 simp only [Prod.mk.injEq] at hzz
 obtain ⟨hz,hsz,hb⟩:=hzz
 refine wpList_append_lies W hgd s x 39 ho B 3 i (.int .i64 0) 1 8 Tryz.underlying39 hi hz hsz hb rfl (by omega) v l.length (l.map fun x=>.int .i64 x) hs hown
  ⟨g,d,none⟩ ys.length c (ys.map fun x=>.int .i64 x) hx (by simp) ?_ ?_ hp (by unfold maxLen;omega) (by omega) hB _ rfl ?_
 ·intro j u hu
  have hadd:(⟨g,d,none⟩:Addr).add j=⟨g,d+j,none⟩:=by unfold Addr.add;split<;>simp_all
  rw [hadd]
  rw [List.getElem?_map] at hu
  obtain ⟨y,hy1,rfl⟩:=Option.map_eq_some_iff.1 hu
  obtain ⟨hj,rfl⟩:=List.getElem?_eq_some_iff.1 hy1
  exact hy j hj
 ·intro u hu
  obtain ⟨y,_,rfl⟩:=List.mem_map.1 hu
  rfl
 ·intro g cap w' h1 h2 h3 h4
  refine h g cap w' ?_ ?_
  ·unfold Ows
   simpa using h1
  ·exact ⟨h2.os,h2.tape,h2.output,h2.size,fun k hk hn=>h2.block k hk (fun e=>hn e.symm)⟩
def vRes (o:Option Int):Value:=.tuple #[.int .i64 (o.getD 0),.bool o.isSome]
theorem val_none {l:List Nd} {e:List Int} (h:¬ (termOk l=true/\e.length=8/\bitsTo l l.length<=12/\fitT (root l) e=true)):valueL l e=none:=by
 cases hv:valueL l e with
 | none=>rfl
 | some x =>
   obtain ⟨h1,h2,h3,h4,_⟩:=value_parts.1 hv
   exact absurd ⟨h1,h2,h3,h4⟩ h
theorem sValue (w:World) (a ae:Option Addr) (l:List Nd) (e:List Int) (c ce:Nat) (hN:Nodes w a l) (hI:Ints w ae e) :
 Calls Tryz.prog 28 #[.slice a l.length c,.slice ae e.length ce] w fun x w'=>x=.returned (vRes (valueL l e))/\Below w.heap.size w w':=by
 have HN:Hid (Nodes w a l):=hN
 have HI:Hid (Ints w ae e):=hI
 clear hN hI
 go_enter Tryz.func28,Tryz.ntmps28
 go_wp2_with fail
 refine (sTermOk _ a l c HN.out).mono ?_
 rintro x0 w1 ⟨rfl,hb1⟩
 have HB1:Hid (Below w.heap.size w w1):=hb1
 clear hb1
 cases hT:termOk l
 ·have HV:Hid (valueL l e=none):=val_none (fun h=>by rw [hT] at h;cases h.1)
  go_wp2
  go_ret2
  rw [HV.out]
  exact ⟨rfl,HB1.out⟩
 ·have HT:Hid (termOk l=true):=hT
  clear hT
  by_cases h8:e.length=8
  ·rw [h8]
   have HPR:Hid (valueL l e=valueL (pruneL l) e):=(value_prune HT.out e).symm
   have hTP:=prune_term HT.out
   have hRP:∀ j,j < (pruneL l).length->flag (reachL (pruneL l)) j=true:=fun j hj=>prune_reach HT.out hj
   go_wp2_with fail
   refine (sPrune _ a l c (HN.out.below HB1.out)).mono ?_
   rintro x0 w2 ⟨⟨v2,rfl,ho2⟩,hb2⟩
   obtain ⟨a2,c2,rfl,hn2⟩:=ho2.form
   have hL1:=term_len hTP
   generalize pruneL l=P at hTP hRP hn2 hL1 HPR ⊢
   have HTP:Hid (termOk P=true):=hTP
   have HRP:Hid (∀ j,j < P.length->flag (reachL P) j=true):=hRP
   have HNP:Hid (Nodes w2 a2 P):=hn2.nodes
   have HB2:Hid (Below w.heap.size w w2):=HB1.out.trans (hb2.mono HB1.out.size)
   have HI2:Hid (Ints w2 ae e):=HI.out.below HB2.out
   clear hTP hRP ho2 hn2 hb2
   go_wp2_with fail
   go_loop [7,8] (fun s q=>∃ i:Nat,i<=P.length/\q=.int .i64 (i:Int)/\s=.int .i64 (bitsTo P i)) (fun _ q=>P.length - (intOf q).toNat)
   case atStart=>exact ⟨0,Nat.zero_le _,rfl,rfl⟩
   case round =>
    obtain ⟨i,hi,rfl,rfl⟩:=hrel
    by_cases hlt:i < P.length
    ·have hlz:(i:Int) < (P.length:Int):=by omega
     rcases HNP.out.2 with h0|⟨xb,xo,rfl,hc⟩
     ·omega
     have p0:=(hc i hlt).c0
     have p4:=(hc i hlt).c4
     rw [nth_get hlt] at p0 p4
     clear hc
     have HBN:Hid (bitsTo P (i+1)=if quant (nth P i).op then bitsTo P i+(nth P i).b else bitsTo P i):=by
      show (if _ then _ else _)=_
      rw [HRP.out i hlt,Bool.true_and]
     have hbb:=bits_bound HTP.out i hi
     have HQB:Hid (quant (nth P i).op=true->1<=(nth P i).b/\(nth P i).b<=8):=fun h=>quant_b (term_node HTP.out hlt) h
     generalize bitsTo P i=z at HBN hbb ⊢
     generalize nth P i=n at p0 p4 HBN HQB
     obtain ⟨hb0,hb9⟩:=hbb
     cases hqu:quant n.op
     ·have HB2':Hid (bitsTo P (i+1)=z):=by
       show _=_
       rw [HBN.out,hqu];rfl
      go_wp2_with (go_at_call 56;refine (sQuant _ _).mono ?_;rintro x0 w2 ⟨rfl,rfl⟩;rw [hqu])
      go_round
      case rel=>exact ⟨i+1,by omega,by go_num,by rw [HB2'.out]⟩
      case measure=>simp [intOf];omega
     ·have HB2':Hid (bitsTo P (i+1)=z+n.b):=by
       show _=_
       rw [HBN.out,hqu];rfl
      obtain ⟨hq1,hq2⟩:=HQB.out hqu
      go_wp2_with (go_at_call 56;refine (sQuant _ _).mono ?_;rintro x0 w2 ⟨rfl,rfl⟩;rw [hqu])
      go_round
      case rel=>exact ⟨i+1,by omega,by go_num,by rw [HB2'.out]⟩
      case measure=>simp [intOf];omega
    ·have hlz:¬ (i:Int) < (P.length:Int):=by omega
     have hie:i=P.length:=by omega
     have HBT:Hid (bitsTo P i=bitsTo P P.length):=by
      show _=_
      rw [hie]
     clear hie
     generalize bitsTo P i=z at HBT ⊢
     by_cases h12:12 < z
     ·have HV:Hid (valueL l e=none):=HPR.out.trans (val_none (fun h=>by have:=h.2.2.1;rw [<- HBT.out] at this;omega))
      go_wp2
      go_ret2
      rw [HV.out]
      exact ⟨rfl,HB2.out⟩
     ·have h12z:¬ (12 < z):=h12
      go_wp2_with fail
      refine (sFits _ a2 ae P e c2 ce HNP.out HTP.out HRP.out HI2.out h8).mono ?_
      rintro x0 w3 ⟨rfl,hb3⟩
      have HB3:Hid (Below w.heap.size w w3):=HB2.out.trans (hb3.mono HB2.out.size)
      have HN3:Hid (Nodes w3 a2 P):=HNP.out.below hb3
      have HI3:Hid (Ints w3 ae e):=HI2.out.below hb3
      clear hb3
      cases hf:fitT (root P) e
      ·have HV:Hid (valueL l e=none):=HPR.out.trans (val_none (fun h=>by rw [hf] at h;cases h.2.2.2))
       go_wp2
       go_ret2
       rw [HV.out]
       exact ⟨rfl,HB3.out⟩
      ·have HV:Hid (valueL l e=some (vT (tr P (P.length - 1)) e)):=HPR.out.trans (value_parts.2 ⟨HTP.out,h8,by rw [<- HBT.out];omega,hf,rfl⟩)
       rcases HI3.out.2 with h0|⟨eb,eo,rfl,hec⟩
       ·omega
       have hebl:eb < w3.heap.size:=lt_of_cell (hec 0 (by omega))
       have HEC:Hid (∀ j (h:j < e.length),(w3.alloc (.cells #[] 3)).cell? ⟨eb,eo+j,none⟩=some (.int .i64 e[j])):=fun j hj=>by
        rw [((Below.refl w3.heap.size w3).alloc (Nat.le_refl _) _).cell (p:=⟨eb,eo+j,none⟩) hebl]
        exact hec j hj
       have HLIT:Hid (Ows (w3.alloc (.cells #[] 3)) w3.heap.size (.slice (some ⟨w3.heap.size,0,none⟩) 0 0) []):=Ows.lit w3 _ (Nat.le_refl _)
       have hs3:w3.heap.size<=(w3.alloc (.cells #[] 3)).heap.size:=by simp
       have hcast:(P.length:Int) - 1=((P.length - 1:Nat):Int):=by omega
       have HCA:Hid ((P.length:Int) - 1=((P.length - 1:Nat):Int)):=hcast
       clear hec hcast
       go_wp2_with (at_builtin;go_must (refine app_intsO _ rfl _ _ rfl w3.heap.size (.slice (some ⟨w3.heap.size,0,none⟩) 0 0) [] e eb eo ce rfl (by rw [h8];rfl) HEC.out (by omega) HLIT.out hs3 (by simp [h8]) ?_;intro g5 cp5 w5 ho5 hk5;rw [show ([]:List Int).length+e.length=8 by simp [h8]] at ho5 ⊢;have HO5:Hid (Ows w5 w3.heap.size (.slice (some ⟨g5,0,none⟩) 8 cp5) e):=ho5;have HK5:Hid (Below w3.heap.size w3 w5):=((Below.refl w3.heap.size w3).alloc (Nat.le_refl _) _).trans (hk5.below (fun b hb=>(HLIT.out.lt b hb).1) hs3);clear ho5 hk5))
       obtain ⟨g6,c6,hv6,hB6,hl6,hr6⟩:=Rw1.row_ints HO5.out (by omega)
       have HG5:Hid (w3.heap.size<=g5/\Env w5 g5 e):=by
        have e6:g6=g5:=by
         have:=congrArg Value.ownBlock hv6
         simpa [Value.ownBlock] using this.symm
        rw [e6,h8] at hr6
        exact ⟨by omega,hr6⟩
       rw [HCA.out]
       refine (sAt HTP.out (P.length - 1) (by omega) _ a2 c2 g5 cp5 e (HN3.out.below HK5.out) (fun x hx=>?_) h8 HG5.out.2).mono ?_
       ·rcases HN3.out.2 with h0|⟨xb,xo,hx2,hc⟩
        ·omega
        ·rw [hx] at hx2
         have h9:=(hc 0 (by omega)).lt
         have h10:=Option.some.inj hx2
         rw [h10]
         have:=HG5.out.1
         show ¬ xb=g5
         omega
       rintro x0 w6 ⟨rfl,_,hK6⟩
       have HB6:Hid (Below w.heap.size w w6):=(HB3.out.trans (HK5.out.mono HB3.out.size)).trans (hK6.below (fun b (eb:b=g5)=>by have:=HG5.out.1;have:=HB3.out.size;omega) (by have:=HK5.out.size;have:=HB3.out.size;omega))
       clear hK6 hr6 hv6
       go_wp2
       go_ret2
       rw [HV.out]
       exact ⟨rfl,HB6.out⟩
  ·have h8z:((e.length:Int) != 8)=true:=by simp;omega
   have HV:Hid (valueL l e=none):=val_none (fun h=>h8 h.2.1)
   go_wp2
   go_ret2
   rw [HV.out]
   exact ⟨rfl,HB1.out⟩
end Sv6
namespace Sv7
open Go.RowKit
open Nd0 Pl1 Tm0 Tm6 Ap0 Vl1 Vl5 Sv6
open Sp11 (sSentence)
theorem sZeros (w:World) :
 Calls Tryz.prog 29 #[] w fun x w'=>(∃ a c,x=.returned (.slice a 8 c)/\Ints w' a (List.replicate 8 0))/\Below w.heap.size w w':=by
 go_enter Tryz.func29,Tryz.ntmps29
 go_wp2_with fail
 go_loopw [1,2] (fun v q wr=>∃ i:Nat,i<=8/\q=.int .i64 (i:Int)/\Ows wr w.heap.size v (List.replicate i 0)/\Below w.heap.size w wr) (fun _ q _=>8 - (intOf q).toNat)
 case atStart=>exact ⟨0,Nat.zero_le _,rfl,Ows.lit w _ (Nat.le_refl _),(Below.refl _ _).alloc (Nat.le_refl _) _⟩
 case round =>
  obtain ⟨i,hi,rfl,ho,hb⟩:=hrel
  have HO:Hid (Ows wr w.heap.size u1 (List.replicate i 0)):=ho
  have HB:Hid (Below w.heap.size w wr):=hb
  have hbs:w.heap.size<=wr.heap.size:=hb.size
  have HL:Hid ((List.replicate i (0:Int)).length=i):=List.length_replicate
  have HS:Hid (List.replicate (i+1) (0:Int)=List.replicate i 0++[0]):=by
   show _=_
   rw [List.replicate_succ']
  clear ho hb
  by_cases hlt:i < 8
  ·have hz:(i:Int) < 8:=by omega
   generalize List.replicate i (0:Int)=L at HO HL HS
   go_wp2_with (at_builtin;go_must (refine app_int _ rfl _ _ rfl w.heap.size u1 L 0 rfl rfl HO.out hbs (by rw [HL.out];omega) ?_;intro g5 cp5 w5 ho5 hk5 hg5;have HO5:Hid (Ows w5 w.heap.size (.slice (some ⟨g5,0,none⟩) (L.length+1) cp5) (L++[0])):=ho5;have HB5:Hid (Below w.heap.size w w5):=HB.out.trans (hk5.below (fun b hb=>(HO.out.lt b hb).1) hbs);clear ho5 hk5 hg5))
   go_roundw
   case rel=>exact ⟨i+1,by omega,by go_num,by rw [HS.out];exact HO5.out,HB5.out⟩
   case measure=>simp [intOf];omega
  ·have hz:¬ (i:Int) < 8:=by omega
   have e8:i=8:=by omega
   subst e8
   obtain ⟨av,cv,hv,hwi⟩:=HO.out.form
   rw [List.length_replicate] at hv
   subst hv
   have HI:Hid (Ints wr av (List.replicate 8 0)):=hwi.ints
   clear hwi HO
   go_wp2
   go_ret
   first
    | exact ⟨HI.out,HB.out⟩
    | exact ⟨⟨av,⟨cv,rfl⟩,HI.out⟩,HB.out⟩
    | (trace_state;fail)
theorem sHolds (w:World) (a:Option Addr) (l:List Nd) (c:Nat) (hN:Nodes w a l) :
 Calls Tryz.prog 8 #[.slice a l.length c] w fun x w'=>x=.returned (vRes (holdsL l))/\Below w.heap.size w w':=by
 have HN:Hid (Nodes w a l):=hN
 clear hN
 go_enter Tryz.func8,Tryz.ntmps8
 go_wp2_with fail
 refine (sSentence _ a l c HN.out).mono ?_
 rintro x0 w1 ⟨rfl,hb1⟩
 have HB1:Hid (Below w.heap.size w w1):=hb1
 clear hb1
 cases hS:sentB l
 ·have HV:Hid (holdsL l=none):=by
   show _=_
   unfold holdsL;rw [hS];rfl
  go_wp2
  go_ret2
  rw [HV.out]
  exact ⟨rfl,HB1.out⟩
 ·have HV:Hid (holdsL l=valueL l (List.replicate 8 0)):=by
   show _=_
   unfold holdsL;rw [hS];rfl
  go_wp2_with fail
  refine (sZeros _).mono ?_
  rintro x0 w2 ⟨⟨a2,c2,rfl,hi2⟩,hb2⟩
  have HI2:Hid (Ints w2 a2 (List.replicate 8 0)):=hi2
  have HB2:Hid (Below w.heap.size w w2):=HB1.out.trans (hb2.mono HB1.out.size)
  clear hi2 hb2
  go_wp2_with fail
  refine (sValue _ a a2 l (List.replicate 8 0) c c2 (HN.out.below HB2.out) HI2.out).mono ?_
  rintro x0 w3 ⟨rfl,hb3⟩
  have HB3:Hid (Below w.heap.size w w3):=HB2.out.trans (hb3.mono HB2.out.size)
  clear hb3
  unfold vRes
  generalize valueL l (List.replicate 8 0)=o at HV ⊢
  go_wp2
  go_ret2
  rw [HV.out]
  exact ⟨rfl,HB3.out⟩
end Sv7
end Go.Proofs.YtebejleeadofcaaGreat
