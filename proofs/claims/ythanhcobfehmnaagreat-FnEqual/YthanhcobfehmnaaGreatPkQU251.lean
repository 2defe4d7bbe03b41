import Derived.Test.YthanhcobfehmnaaGreatPv13
import Derived.Test.YthanhcobfehmnaaGreatPkQU248
namespace Go.Proofs.YthanhcobfehmnaaGreat
set_option maxRecDepth 100000
set_option maxHeartbeats 8000000
set_option linter.unusedVariables false
namespace Pv14
open Go.RowKit
open Nd0 Pl1 Tm0 Tm1 Tm2 Tm5 Tm6 Tm8 Tm11 Tr0 Rw0 Vl1 Vl2 Vm0 Vm1 Sv5 Vm3 Pv5 Pv13
open Lx1 (ITermOk)
open Lx2 (IReached)
open Pg14 (iQBits)
open Ws1 (ret_int ret_bool)
def upTo (r:Nat->Nat) (e:List Int) (b:Bool):Nat->Bool
 | 0=>b
 | v+1=>upTo r e b v&&wordsB (r v) (e.getD v 0)
theorem upTo_false (r:Nat->Nat) (e:List Int) (v:Nat):upTo r e false v=false:=by
 induction v with
 | zero=>rfl
 | succ v ih=>show (_&&_)=_;rw [ih];rfl
theorem upTo_true (r:Nat->Nat) (e:List Int) (v:Nat):upTo r e true v=(List.range v).all fun v=>wordsB (r v) (e.getD v 0):=by
 induction v with
 | zero=>rfl
 | succ v ih=>show (_&&_)=_;rw [ih,List.range_succ,List.all_append];simp
theorem upTo_fit {l:List Nd} {r:Nat->Nat} {b:Bool} (h:FW l r b) (e:List Int):upTo r e b 8=fitT (root l) e:=by
 obtain ⟨h1,_,h3⟩:=h
 cases hn:needT (root l) with
 | none =>
   rw [hn] at h1
   rw [h1,fit_none hn]
   exact upTo_false r e 8
 | some q =>
   rw [hn] at h1
   rw [h1,fit_some hn]
   show upTo r e true 8=_
   rw [upTo_true]
   have h4:=h3 q hn
   show _=(List.range 8).all fun v=>wordsB (q.getD v 0) (e.getD v 0)
   rw [Bool.eq_iff_iff,List.all_eq_true,List.all_eq_true]
   constructor
   ·intro h v hv
    rw [<- h4 v (List.mem_range.1 hv)];exact h v hv
   ·intro h v hv
    rw [h4 v (List.mem_range.1 hv)];exact h v hv
theorem iHasV (hTO:ITermOk) (hRE:IReached) (w:World) (a ae:Option Addr) (l:List Nd) (e:List Int) (c ce:Nat) (hN:Nodes w a l) (hcap:l.length<=c) (hT:termOk l=true) (hI:Ints w ae e) :
 Calls Tryz.prog 21 #[.slice a l.length c,.slice ae e.length ce] w fun x w'=>x=.returned (.bool (decide (e.length=8)&&decide (bitsTo l l.length<=12)&&fitT (root l) e))/\Below w.heap.size w w':=by
 have HN:Hid (Nodes w a l):=hN
 have HT:Hid (termOk l=true):=hT
 have HTO:Hid ITermOk:=hTO
 have HRE:Hid IReached:=hRE
 have HCAP:Hid (l.length<=c):=hcap
 have HI:Hid (Ints w ae e):=hI
 obtain ⟨hl1,hl2⟩:=term_len hT
 clear hN hT hTO hcap hI hRE
 obtain ⟨B,hB⟩:∃ B,B=(decide (e.length=8)&&decide (bitsTo l l.length<=12)&&fitT (root l) e):=⟨_,rfl⟩
 rw [<- hB]
 have HBV:Hid (B=(decide (e.length=8)&&decide (bitsTo l l.length<=12)&&fitT (root l) e)):=hB
 clear hB
 by_cases he:e.length=8
 ·have HL:Hid (e.length=8):=he
  have HV:Hid (B=(decide (bitsTo l l.length<=12)&&fitT (root l) e)):=by
   show _=_
   rw [HBV.out,decide_eq_true he,Bool.true_and]
  rw [he]
  clear he HBV
  go_enter Tryz.func21,Tryz.ntmps21
  go_wp2_with fail
  refine (iQBits HRE.out w a l c HN.out HCAP.out (by omega) HT.out).mono ?_
  rintro e0 w1 ⟨rfl,hb1⟩
  have HB1:Hid (Below w.heap.size w w1):=hb1
  clear hb1
  by_cases hb:bitsTo l l.length<=12
  ·have HV2:Hid (B=fitT (root l) e):=by
    show _=_
    rw [HV.out,decide_eq_true hb,Bool.true_and]
   clear HV
   go_wp2_with fail
   refine (iFreeW HTO.out w1 a l c (HN.out.below HB1.out) HCAP.out HT.out).mono ?_
   rintro e0 w2 ⟨⟨r,b,rfl,hfw⟩,hb2⟩
   have HFW:Hid (FW l r b):=hfw
   have HB2:Hid (Below w.heap.size w w2):=HB1.out.trans (hb2.mono HB1.out.size)
   have HRB:Hid (∀ v,v < 8->r v < 2 ^ 9):=hfw.2.1
   unfold agg8
   clear hb2 hfw
   have HB3:Hid (Below w.heap.size w (w2.alloc (.cells #[.int .u16 (r 0:Int),.int .u16 (r 1:Int),.int .u16 (r 2:Int),.int .u16 (r 3:Int),.int .u16 (r 4:Int),.int .u16 (r 5:Int),.int .u16 (r 6:Int),.int .u16 (r 7:Int)] 77))):=HB2.out.alloc HB2.out.size _
   go_wp2_with fail
   generalize w2.alloc (.cells #[.int .u16 (r 0:Int),.int .u16 (r 1:Int),.int .u16 (r 2:Int),.int .u16 (r 3:Int),.int .u16 (r 4:Int),.int .u16 (r 5:Int),.int .u16 (r 6:Int),.int .u16 (r 7:Int)] 77)=w3 at HB3 ⊢
   go_loopw [6,23] (fun vb q wr=>∃ v:Nat,v<=8/\vb=.bool (upTo r e b v)/\q=.int .i64 (v:Int)/\wr=w3) (fun _ q _=>8 - (intOf q).toNat)
   case atStart=>exact ⟨0,Nat.zero_le _,rfl,rfl,rfl⟩
   case round =>
    obtain ⟨v,hv,rfl,rfl,rfl⟩:=hrel
    by_cases hv8:v < 8
    ·have hvz:(v:Int) < 8:=by omega
     have hX:=fun w=>idx8 r hv8 w
     have hm:=HRB.out v hv8
     rcases (HI.out.below HB3.out).2 with h0|⟨xb,xo,rfl,hc⟩
     ·have:=HL.out;omega
     have q0:=hc v (by have:=HL.out;omega)
     have HU:Hid (upTo r e b (v+1)=(upTo r e b v&&wordsB (r v) (e.getD v 0))):=rfl
     have hev:e[v]'(by have:=HL.out;omega)=e.getD v 0:=by rw [List.getD_eq_getElem?_getD,List.getElem?_eq_getElem (by have:=HL.out;omega)];rfl
     rw [hev] at q0
     clear hev hc
     have HW:Hid (∀ w:World,Calls Tryz.prog 47 #[.int .u16 (r v:Int),.int .i64 (e.getD v 0)] w fun x w'=>x=.returned (.bool (wordsB (r v) (e.getD v 0)))/\w'=w):=fun w=>iWords (r v) (e.getD v 0) w hm
     generalize e.getD v 0=ev at q0 HU HW
     generalize wordsB (r v) ev=wb at HU HW
     cases hu:upTo r e b v
     ·have HN1:Hid (upTo r e b (v+1)=false):=by
       show _=_
       rw [HU.out,hu];rfl
      go_wp2
      go_roundw
      case rel=>exact ⟨v+1,by omega,by rw [HN1.out],by go_num,trivial⟩
      case measure=>simp [intOf];omega
     ·have HN1:Hid (upTo r e b (v+1)=wb):=by
       show _=_
       rw [HU.out,hu];rfl
      go_wp2_with (go_at_call 47;refine (HW.out _).mono ?_;rintro e9 wr ⟨rfl,rfl⟩)
      go_roundw
      case rel=>exact ⟨v+1,by omega,by rw [HN1.out],by go_num,trivial⟩
      case measure=>simp [intOf];omega
    ·have hvz:¬ (v:Int) < 8:=by omega
     have e8:v=8:=by omega
     subst e8
     have HE:Hid (upTo r e b 8=B):=(upTo_fit HFW.out e).trans HV2.out.symm
     go_wp2
     go_ret
     exact ⟨ret_bool HE.out,HB3.out⟩
  ·have HV2:Hid (false=B):=by
    show _=_
    rw [HV.out,decide_eq_false hb,Bool.false_and]
   clear HV
   go_wp2
   go_ret
   exact ⟨ret_bool HV2.out,HB1.out⟩
 ·have HV:Hid (false=B):=by
   show _=_
   rw [HBV.out,decide_eq_false he,Bool.false_and,Bool.false_and]
  have hez:((e.length:Int) != 8)=true:=by simp;omega
  go_enter Tryz.func21,Tryz.ntmps21
  go_wp2
  go_ret
  exact ⟨ret_bool HV.out,Below.refl _ _⟩
end Pv14
namespace Pv15
open Go.RowKit
open Nd0 Pl1 Tm0 Tm1 Tm2 Tm5 Tm6 Tm8 Tm11 Tr0 Rw0 Vl1 Vl2 Vm0 Vm1 Vm2 Kp1 Sv5 Vm3 Pv5 Pv7 Pv12 Pv13 Pv14 Ic4
open Lx1 (ITermOk)
open Lx2 (IReached)
open Ws1 (ret_int ret_bool)
theorem toArr (b o ce:Nat) (w:World):(Instr.arrayAt 47 (.slice (some ⟨b,o,none⟩) 8 ce)).run Tryz.prog w=.ok (.pointer (some ⟨b,o,none⟩)) w:=by
 simp [Instr.arrayAt,run_underlying Tryz.underlying47,go_sem]
theorem store_new {ops:Array Oper} {rest:List Oper} {op:Oper} {a:Act} {Q:Exit->Act->World->Prop} (w:World) (hgd:op.guard=none) (ty:TypeId) (x y:Operand) (ho:op.op=.store ty x y)
 (c c':Array Value) (g:Nat) (hx:a.eval x=.pointer (some ⟨g,0,none⟩)) (hg:g=w.heap.size) (hy:a.eval y=.agg c') (hi:(Tryz.prog.info? ty).map (·.size)=some c'.size) (hs:c.size=c'.size) (h1:c'.all (·.oneCell')=true)
 (h:wpList Tryz.prog ops Q rest (a.put op.dst undef) (w.alloc (.cells c' ty))):wpList Tryz.prog ops Q (op :: rest) a (w.alloc (.cells c ty)) :=
 wpList_plain hgd fun _ hK=>wp_store_new w ty x y ho c c' g hx hg hy hi hs h1 (hK _ _ h)
theorem iValue (hTO:ITermOk) (hRE:IReached) (hIA:IApply):IValue:=by
 intro w a ae l e c ce hN hcap hlen hI hce
 have HN:Hid (Nodes w a l):=hN
 have HTO:Hid ITermOk:=hTO
 have HRE:Hid IReached:=hRE
 have HIA:Hid IApply:=hIA
 have HCAP:Hid (l.length<=c):=hcap
 have HI:Hid (Ints w ae e):=hI
 obtain ⟨V,hV⟩:∃ V,V=valueL l e:=⟨_,rfl⟩
 rw [<- hV]
 have HV:Hid (V=valueL l e):=hV
 clear hN hTO hcap hI hRE hIA hV
 cases hT:termOk l
 ·have HVN:Hid (V=none):=by
   show _=_
   rw [HV.out];unfold valueL;rw [hT];rfl
  go_enter Tryz.func9,Tryz.ntmps9
  go_wp2_with (go_at_call 15;refine (HTO.out w a l c HN.out HCAP.out hlen).mono ?_;rintro e0 w1 ⟨rfl,hb1⟩;rw [hT])
  go_ret2
  rw [HVN.out]
  exact ⟨rfl,hb1⟩
 ·obtain ⟨hl1,hl2⟩:=term_len hT
  have HT:Hid (termOk l=true):=hT
  obtain ⟨F,hF⟩:∃ F,F=(decide (e.length=8)&&decide (bitsTo l l.length<=12)&&fitT (root l) e):=⟨_,rfl⟩
  have HF:Hid (F=(decide (e.length=8)&&decide (bitsTo l l.length<=12)&&fitT (root l) e)):=hF
  have HVF:Hid (V=if F then some (vT (root l) e) else none):=by
   show _=_
   rw [HV.out,hF];unfold valueL;rw [hT,Bool.true_and]
  clear hF
  have HHV:Hid (∀ w1,Below w.heap.size w w1->Calls Tryz.prog 21 #[.slice a l.length c,.slice ae e.length ce] w1 fun x w'=>x=.returned (.bool F)/\Below w1.heap.size w1 w'):=fun w1 hb=>by
   rw [HF.out]
   exact iHasV HTO.out HRE.out w1 a ae l e c ce (HN.out.below hb) HCAP.out HT.out (HI.out.below hb)
  cases hFb:F
  ·rw [hFb] at HVF HHV
   have HVN:Hid (V=none):=HVF.out
   go_enter Tryz.func9,Tryz.ntmps9
   go_wp2_with (first|(go_at_call 15;refine (HTO.out w a l c HN.out HCAP.out hlen).mono ?_;rintro e0 w1 ⟨rfl,hb1⟩;rw [hT])|(go_at_call 21;refine (HHV.out _ hb1).mono ?_;rintro e0 w2 ⟨rfl,hb2⟩))
   go_ret2
   rw [HVN.out]
   exact ⟨rfl,hb1.trans (hb2.mono hb1.size)⟩
  ·rw [hFb] at HVF HHV
   have HVS:Hid (V=some (vT (root l) e)):=HVF.out
   have hFF:(decide (e.length=8)&&decide (bitsTo l l.length<=12)&&fitT (root l) e)=true:=by rw [<- HF.out];exact hFb
   simp only [Bool.and_eq_true] at hFF
   have he:e.length=8:=of_decide_eq_true hFF.1.1
   have HE:Hid (e.length=8):=he
   have HFN:Hid (FitN l (l.length - 1) e):=by
    have hf:=hFF.2
    cases hn:needT (root l) with
    | none=>rw [fit_none hn] at hf;cases hf
    | some q =>
      rw [fit_some hn] at hf
      exact ⟨q,hn,fit_iff.1 hf⟩
   rw [he] at HHV ⊢
   clear hFF HF HVF he hFb
   obtain ⟨zc,hzc⟩:∃ zc:Array Value,zc=Tryz.zeroCells51:=⟨_,rfl⟩
   have hZ:Zc zc:=by rw [hzc];exact zc_of
   rcases HI.out.2 with h0|⟨xb,xo,rfl,hc⟩
   ·have:=HE.out;omega
   have hX:=fun w=>toArr xb xo ce w
   have hxl:xb < w.heap.size:=lt_of_cell (hc 0 (by have:=HE.out;omega))
   have HQ:Hid (∀ W:World,Below w.heap.size w W->∀ i:Nat,i < 8->W.cell? ⟨xb,xo+i,none⟩=some (.int .i64 (wd e (i:Int)))):=by
    show ∀ _,_
    intro W hW i hi
    rw [hW.cell (p:=⟨xb,xo+i,none⟩) hxl,hc i (by have:=HE.out;omega),wd_get (by have:=HE.out;omega)]
   have hw1:IntKind.i64.wrap ((l.length:Int) - 1)=(l.length:Int) - 1:=by rw [IntKind.wrap_i64]<;>omega
   clear hc hxl
   go_enter Tryz.func9,Tryz.ntmps9
   go_wp2_with (first|(go_at_call 15;refine (HTO.out w a l c HN.out HCAP.out hlen).mono ?_;rintro e0 w1 ⟨rfl,hb1⟩;rw [hT];have HB1:Hid (Below w.heap.size w w1):=hb1;clear hb1)|(go_at_call 21;refine (HHV.out _ HB1.out).mono ?_;rintro e0 w2 ⟨rfl,hb2⟩;have HB2:Hid (Below w.heap.size w w2):=HB1.out.trans (hb2.mono HB1.out.size);have q0:=HQ.out _ HB2.out 0 (by omega);have q1:=HQ.out _ HB2.out 1 (by omega);have q2:=HQ.out _ HB2.out 2 (by omega);have q3:=HQ.out _ HB2.out 3 (by omega);have q4:=HQ.out _ HB2.out 4 (by omega);have q5:=HQ.out _ HB2.out 5 (by omega);have q6:=HQ.out _ HB2.out 6 (by omega);have q7:=HQ.out _ HB2.out 7 (by omega);rw [Nat.add_zero] at q0;clear hb2)|(rw [<- hzc];refine store_new _ rfl 51 (.tmp 6) (.tmp 20) rfl zc (scCells zc a l.length c e) _ rfl rfl rfl (by rw [sc_size hZ];exact info_sc) (by rw [sc_size hZ];exact hZ.size) (sc_one hZ _ _ _ _) ?_;clear hzc))
   have hBW:Below w2.heap.size w2 (w2.alloc (.cells (scCells zc a l.length c e) 51)):=(Below.refl _ _).alloc (Nat.le_refl _) _
   have hsc:=(sc_new w2 hZ a l c 51 e).1
   have hcall:=pVal HIA.out HT.out hl2 (l.length - 1) (by omega) _ w2.heap.size a c e _ _ ((HN.out.below HB2.out).below hBW) (fun y hy h=>by
    have h2:y.block < w.heap.size:=by
     rcases HN.out.2 with h0|⟨yb,yo,rfl,hc⟩
     ·omega
     ·have e:=Option.some.inj hy
      subst e
      exact (hc 0 (by omega)).lt
    have:=HB2.out.size
    omega) HE.out hsc HFN.out
   have e1:((l.length - 1:Nat):Int)=(l.length:Int) - 1:=by omega
   rw [e1] at hcall
   refine hcall.mono ?_
   rintro x0 w3 ⟨rfl,_,hK3⟩
   have HR:Hid (V=some (vT (tr l (l.length - 1)) e)):=HVS.out
   have HB3:Hid (Below w.heap.size w w3):=by
    have h1:=Kept.past (Kept.ofBelow (S:=fun _=>False) (HB2.out.trans (hBW.mono HB2.out.size))) hK3 (fun b h=>.inr (by have:=HB2.out.size;omega))
    exact ⟨h1.os,h1.tape,h1.output,h1.size,fun b hb=>h1.block b hb (fun h=>h)⟩
   clear hcall hsc hBW hK3 e1
   generalize vT (tr l (l.length - 1)) e=val at HR ⊢
   go_wp2
   go_ret2
   rw [HR.out]
   exact ⟨rfl,HB3.out⟩
end Pv15
namespace Pv16
open Go.RowKit
open Nd0 Pl1 Tm0 Tm6 Rw0 Vl1 Vl5 Ic4
open Pg11 (makeInts noughts noughts_get)
open Pg14 (iSentence)
open Lx1 (ITermOk)
open Lx2 (IReached)
theorem iHolds (hTO:ITermOk) (hRE:IReached) (hV:IValue):IHolds:=by
 intro w a l c hN hcap hlen
 have HN:Hid (Nodes w a l):=hN
 have HTO:Hid ITermOk:=hTO
 have HRE:Hid IReached:=hRE
 have HVA:Hid IValue:=hV
 have HCAP:Hid (l.length<=c):=hcap
 obtain ⟨V,hV⟩:∃ V,V=holdsL l:=⟨_,rfl⟩
 rw [<- hV]
 have HV:Hid (V=holdsL l):=hV
 clear hN hTO hcap hRE hV
 cases hS:sentB l
 ·have HVN:Hid (V=none):=by
   show _=_
   rw [HV.out];unfold holdsL;rw [hS];rfl
  go_enter Tryz.func40,Tryz.ntmps40
  go_wp2_with (go_at_call 78;refine (iSentence HTO.out HRE.out w a l c HN.out HCAP.out hlen).mono ?_;rintro e0 w1 ⟨rfl,hb1⟩;rw [hS])
  go_ret2
  rw [HVN.out]
  exact ⟨rfl,hb1⟩
 ·have HVS:Hid (V=valueL l (List.replicate 8 0)):=by
   show _=_
   rw [HV.out];unfold holdsL;rw [hS];rfl
  have hmk:∀ w:World,(Instr.makeSlice 29 (.int .i64 8) (.int .i64 8)).run Tryz.prog w=.ok (.slice (some ⟨w.heap.size,0,none⟩) 8 8) (w.alloc (.cells (noughts 8) 3)):=fun w=>makeInts 8 (by omega) w
  go_enter Tryz.func40,Tryz.ntmps40
  go_wp2_with (go_at_call 78;refine (iSentence HTO.out HRE.out w a l c HN.out HCAP.out hlen).mono ?_;rintro e0 w1 ⟨rfl,hb1⟩;rw [hS];have HB1:Hid (Below w.heap.size w w1):=hb1;clear hb1)
  clear hmk
  have hAl:Below w1.heap.size w1 (w1.alloc (.cells (noughts 8) 3)):=(Below.refl _ _).alloc (Nat.le_refl _) _
  have hB2:Below w.heap.size w (w1.alloc (.cells (noughts 8) 3)):=HB1.out.trans (hAl.mono HB1.out.size)
  have hI:Ints (w1.alloc (.cells (noughts 8) 3)) (some ⟨w1.heap.size,0,none⟩) (List.replicate 8 0):=by
   refine ⟨by decide,.inr ⟨w1.heap.size,0,rfl,fun i hi=>?_⟩⟩
   rw [Nat.zero_add,World.cell?_alloc_new,List.getElem_replicate]
   exact noughts_get _ _ (by simpa using hi)
  have hcall:=HVA.out _ a (some ⟨w1.heap.size,0,none⟩) l (List.replicate 8 0) c 8 (HN.out.below hB2) HCAP.out hlen hI (by simp)
  rw [List.length_replicate] at hcall
  refine hcall.mono ?_
  rintro x0 w3 ⟨rfl,hb3⟩
  rw [<- HVS.out]
  have HB3:Hid (Below w.heap.size w w3):=hB2.trans (hb3.mono hB2.size)
  clear hcall hI hB2 hAl hb3
  go_wp2
  go_ret2
  exact ⟨rfl,HB3.out⟩
end Pv16
namespace Pv1
open Go.RowKit
open Nd0 Pl1 Pl2 Vl1 Vl2 Bt0 Wd1 Wd2 Wd3 Wd4 Wd5 Ic4
open Sv1 (Rg below1)
theorem wr64 (n:Int) (h : -9223372036854775808<=n/\n<=9223372036854775807):wrap64 n=n:=by unfold wrap64;omega
def tab:Array Value := #[.func (.func 128) #[] #[],.nilFunc,.func (.func 129) #[] #[],.func (.func 131) #[] #[],.func (.func 132) #[] #[],.func (.func 133) #[] #[],.func (.func 134) #[] #[],.func (.func 136) #[] #[],.func (.func 138) #[] #[],.func (.func 140) #[] #[],.func (.func 142) #[] #[],.func (.func 144) #[] #[],.func (.func 146) #[] #[],.func (.func 148) #[] #[],.func (.func 149) #[] #[],.func (.func 151) #[] #[],.func (.func 153) #[] #[],.func (.func 154) #[] #[],.func (.func 156) #[] #[]]
def Clo (f:Nat) (n:Nd) (W a b c:Int) (v:Int):Prop:=∀ w:World,
 Calls Tryz.prog f #[.agg #[.int .i64 n.op,.int .i64 n.w,.int .i64 n.k,.int .i64 n.a,.int .i64 n.b,.int .i64 n.c],.int .i64 W,.int .i64 a,.int .i64 b,.int .i64 c] w fun e w'=>e=.returned (.int .i64 v)/\Below w.heap.size w w'
theorem c0 (n:Nd) (W a b c:Int):Clo 128 n W a b c (n.k):=by
 intro w
 go_enter Tryz.func128,Tryz.ntmps128
 go_wp2
 go_ret
 exact ⟨ret_int (by rfl),below1 _ _⟩
theorem c2 (n:Nd) (W a b c:Int):Clo 129 n W a b c (vFlip n.w a):=by
 intro w
 go_enter Tryz.func129,Tryz.ntmps129
 go_wp2_with (first|(go_at_call 130;refine (iFlip _ _ _).mono ?_;rintro e w' ⟨rfl,rfl⟩))
 go_ret
 exact ⟨ret_int (by rfl),below1 _ _⟩
theorem c3 (n:Nd) (W a b c:Int) (r3:0<=a/\a<=255) (r4:0<=b/\b<=255):Clo 131 n W a b c (nAnd a b):=by
 intro w
 have HB:Hid (bits .and .i64 a b=nAnd a b):=band r3 r4
 go_enter Tryz.func131,Tryz.ntmps131
 go_wp2
 go_ret
 exact ⟨ret_int (by exact HB.out),below1 _ _⟩
theorem c4 (n:Nd) (W a b c:Int) (r3:0<=a/\a<=255) (r4:0<=b/\b<=255):Clo 132 n W a b c (nOr a b):=by
 intro w
 have HB:Hid (bits .or .i64 a b=nOr a b):=bor r3 r4
 go_enter Tryz.func132,Tryz.ntmps132
 go_wp2
 go_ret
 exact ⟨ret_int (by exact HB.out),below1 _ _⟩
theorem c5 (n:Nd) (W a b c:Int) (r3:0<=a/\a<=255) (r4:0<=b/\b<=255):Clo 133 n W a b c (nXor a b):=by
 intro w
 have HB:Hid (bits .xor .i64 a b=nXor a b):=bxor r3 r4
 go_enter Tryz.func133,Tryz.ntmps133
 go_wp2
 go_ret
 exact ⟨ret_int (by exact HB.out),below1 _ _⟩
theorem c6 (n:Nd) (W a b c:Int):Clo 134 n W a b c (vAdd n.w a b):=by
 intro w
 go_enter Tryz.func134,Tryz.ntmps134
 go_wp2_with (first|(go_at_call 135;refine (iAdd _ _ _ _).mono ?_;rintro e w' ⟨rfl,rfl⟩))
 go_ret
 exact ⟨ret_int (by rfl),below1 _ _⟩
theorem c7 (n:Nd) (W a b c:Int):Clo 136 n W a b c (vSub n.w a b):=by
 intro w
 go_enter Tryz.func136,Tryz.ntmps136
 go_wp2_with (first|(go_at_call 137;refine (iSub _ _ _ _).mono ?_;rintro e w' ⟨rfl,rfl⟩))
 go_ret
 exact ⟨ret_int (by rfl),below1 _ _⟩
theorem c8 (n:Nd) (W a b c:Int):Clo 138 n W a b c (vMul n.w a b):=by
 intro w
 go_enter Tryz.func138,Tryz.ntmps138
 go_wp2_with (first|(go_at_call 139;refine (iMul _ _ _ _).mono ?_;rintro e w' ⟨rfl,rfl⟩))
 go_ret
 exact ⟨ret_int (by rfl),below1 _ _⟩
theorem c9 (n:Nd) (W a b c:Int):Clo 140 n W a b c (vDiv n.w a b):=by
 intro w
 go_enter Tryz.func140,Tryz.ntmps140
 go_wp2_with (first|(go_at_call 141;refine (iDiv _ _ _ _).mono ?_;rintro e w' ⟨rfl,rfl⟩))
 go_ret
 exact ⟨ret_int (by rfl),below1 _ _⟩
theorem c10 (n:Nd) (W a b c:Int):Clo 142 n W a b c (vRem n.w a b):=by
 intro w
 go_enter Tryz.func142,Tryz.ntmps142
 go_wp2_with (first|(go_at_call 143;refine (iRem _ _ _ _).mono ?_;rintro e w' ⟨rfl,rfl⟩))
 go_ret
 exact ⟨ret_int (by rfl),below1 _ _⟩
theorem c11 (n:Nd) (W a b c:Int):Clo 144 n W a b c (vShl n.w a b):=by
 intro w
 go_enter Tryz.func144,Tryz.ntmps144
 go_wp2_with (first|(go_at_call 145;refine (iShl _ _ _ _).mono ?_;rintro e w' ⟨rfl,rfl⟩))
 go_ret
 exact ⟨ret_int (by rfl),below1 _ _⟩
theorem c12 (n:Nd) (W a b c:Int):Clo 146 n W a b c (vShr n.w a b):=by
 intro w
 go_enter Tryz.func146,Tryz.ntmps146
 go_wp2_with (first|(go_at_call 147;refine (iShr _ _ _ _).mono ?_;rintro e w' ⟨rfl,rfl⟩))
 go_ret
 exact ⟨ret_int (by rfl),below1 _ _⟩
theorem c13 (n:Nd) (W a b c v:Int) (hv:v=if a=b then 1 else 0):Clo 148 n W a b c v:=by
 intro w
 cases hab:(a==b)
 ·have HV:Hid (v=0):=by
   show _=_
   rw [hv,if_neg (by simpa using hab)]
  clear hv
  go_enter Tryz.func148,Tryz.ntmps148
  go_wp2_with (go_at_call 90;refine (iOne _ _).mono ?_;rintro e w' ⟨rfl,rfl⟩)
  go_ret
  exact ⟨ret_int HV.out.symm,below1 _ _⟩
 ·have HV:Hid (v=1):=by
   show _=_
   rw [hv,if_pos (by simpa using hab)]
  clear hv
  go_enter Tryz.func148,Tryz.ntmps148
  go_wp2_with (go_at_call 90;refine (iOne _ _).mono ?_;rintro e w' ⟨rfl,rfl⟩)
  go_ret
  exact ⟨ret_int HV.out.symm,below1 _ _⟩
theorem c14 (n:Nd) (W a b c:Int):Clo 149 n W a b c (vLess W a b):=by
 intro w
 go_enter Tryz.func149,Tryz.ntmps149
 go_wp2_with (first|(go_at_call 150;refine (iLess _ _ _ _).mono ?_;rintro e w' ⟨rfl,rfl⟩))
 go_ret
 exact ⟨ret_int (by rfl),below1 _ _⟩
theorem c15 (n:Nd) (W a b c:Int):Clo 151 n W a b c (vLessSigned W a b):=by
 intro w
 go_enter Tryz.func151,Tryz.ntmps151
 go_wp2_with (first|(go_at_call 152;refine (iLessSigned _ _ _ _).mono ?_;rintro e w' ⟨rfl,rfl⟩))
 go_ret
 exact ⟨ret_int (by rfl),below1 _ _⟩
theorem c16 (n:Nd) (W a b c:Int) (r1:1<=n.w/\n.w<=8) (r2:1<=W/\W<=8) (r3:0<=a/\a<=255) (r4:0<=b/\b<=255) (v:Int) (hv:v=if n.w < W then b else a*p2 (n.w - W).toNat+b):Clo 153 n W a b c v:=by
 intro w
 by_cases hlt:n.w < W
 ·have HV:Hid (v=b):=hv.trans (if_pos hlt)
  clear hv
  go_enter Tryz.func153,Tryz.ntmps153
  go_wp2
  go_ret
  exact ⟨ret_int HV.out.symm,below1 _ _⟩
 ·have HV:Hid (v=a*p2 (n.w - W).toNat+b):=hv.trans (if_neg hlt)
  clear hv
  have hr:=p2_mono (show (n.w - W).toNat<=7 by omega)
  have hq:=p2_pos (n.w - W).toNat
  have hr7:p2 7=128:=rfl
  obtain ⟨hb1,hb2⟩:=mul_bd r3.1 r3.2 (show 0<=p2 (n.w - W).toNat by omega) (by omega)
  have hsh:0<=n.w - W:=by omega
  have HS:Hid (a*2 ^ (n.w - W).toNat=a*p2 (n.w - W).toNat):=by show _=_;simp [p2]
  go_enter Tryz.func153,Tryz.ntmps153
  go_wp2
  go_ret
  exact ⟨ret_int (by rw [HV.out,HS.out,wr64 (a*p2 (n.w - W).toNat) (by omega)];exact wr64 _ (by omega)),below1 _ _⟩
theorem c17 (n:Nd) (W a b c:Int) (hw:(Lit.int .i64 n.w).wf=true):Clo 154 n W a b c (vSlice W a n.k n.w):=by
 intro w
 go_enter Tryz.func154,Tryz.ntmps154
 go_wp2_with (first|(go_at_call 155;refine (iSlice _ _ _ _ _ hw).mono ?_;rintro e w' ⟨rfl,rfl⟩))
 go_ret
 exact ⟨ret_int (by rfl),below1 _ _⟩
theorem c18 (n:Nd) (W a b c v:Int) (hv:v=if a=1 then b else c):Clo 156 n W a b c v:=by
 intro w
 cases ha:(a==1)
 ·have HV:Hid (v=c):=hv.trans (if_neg (by simpa using ha))
  clear hv
  go_enter Tryz.func156,Tryz.ntmps156
  go_wp2
  go_ret
  exact ⟨ret_int HV.out.symm,below1 _ _⟩
 ·have HV:Hid (v=b):=hv.trans (if_pos (by simpa using ha))
  clear hv
  go_enter Tryz.func156,Tryz.ntmps156
  go_wp2
  go_ret
  exact ⟨ret_int HV.out.symm,below1 _ _⟩
theorem byteOk (x:Int) (w:World) :
 Calls Tryz.prog 118 #[.int .i64 x] w fun e w'=>e=.returned (.bool (decide (0<=x/\x<=255)))/\w'=w:=by
 by_cases h1:0<=x<;>by_cases h2:x<=255
 all_goals
  go_enter Tryz.func118,Tryz.ntmps118
  go_wp2
  go_ret
  exact ⟨ret_bool (by simp<;>omega),rfl⟩
theorem sizeTab:(Tryz.prog.info? 138).map (·.size)=some tab.size:=by kernel_rfl
theorem oneTab:tab.all (·.oneCell')=true:=by kernel_rfl
theorem store_new {ops:Array Oper} {rest:List Oper} {op:Oper} {a:Act} {Q:Exit->Act->World->Prop} (w:World) (hgd:op.guard=none) (ty:TypeId) (x y:Operand) (ho:op.op=.store ty x y)
 (c c':Array Value) (g:Nat) (hx:a.eval x=.pointer (some ⟨g,0,none⟩)) (hg:g=w.heap.size) (hy:a.eval y=.agg c') (hi:(Tryz.prog.info? ty).map (·.size)=some c'.size) (hs:c.size=c'.size) (h1:c'.all (·.oneCell')=true)
 (h:wpList Tryz.prog ops Q rest (a.put op.dst undef) (w.alloc (.cells c' ty))):wpList Tryz.prog ops Q (op :: rest) a (w.alloc (.cells c ty)) :=
 wpList_plain hgd fun _ hK=>by
  subst hg
  unfold Oper.wp execOp
  simp only [ho,hx,hy,Sem.run_bind,Sem.run_pure,run_storeAt_new w ty c c' hi hs h1,Result.andThen_ok]
  exact hK _ _ h
theorem operators (w:World) :
 Calls Tryz.prog 119 #[] w fun e w'=>e=.returned (.agg tab)/\w'=w.alloc (.cells tab 138):=by
 go_enter Tryz.func119,Tryz.ntmps119
 go_wp2_with (refine store_new _ rfl 138 (.tmp 0) (.tmp 1) rfl _ tab _ rfl rfl rfl sizeTab rfl oneTab ?_)
 refine bodyPost_ret (v:=.agg tab) ?_ rfl ⟨rfl,rfl⟩
 exact results_cell_row rfl _ _ w.heap.size _ tab _ _ rfl (heap_alloc_last w _) Tryz.underlying138 rfl sizeTab
end Pv1
namespace Pv3
open Go.RowKit
open Nd0 Pl1 Pl2 Vl1 Vl2 Bt0 Wd1 Wd2 Wd3 Wd4 Wd5 Ic4 Pv1
open Sv1 (Rg below1)
theorem eqIn_func (d:Nat) (f:Fn) (x y:Array Value) (w:World):(Op.equalIn (d+1) 137 (.func f x y) .nilFunc).run Tryz.prog w=.ok false w:=by
 simp [Op.equalIn,run_underlying Tryz.underlying137]
theorem eqIn_nil (d:Nat) (w:World):(Op.equalIn (d+1) 137 .nilFunc .nilFunc).run Tryz.prog w=.ok true w:=by
 simp [Op.equalIn,run_underlying Tryz.underlying137]
theorem eql_func (f:Fn) (x y:Array Value) (w:World):(binOp .eql 137 (.func f x y) .nilFunc).run Tryz.prog w=.ok (.bool false) w:=by
 have h:(Op.equal 137 (.func f x y) .nilFunc).run Tryz.prog w=.ok false w:=eqIn_func 9999 f x y w
 simp only [binOp]
 simp [h]
theorem eql_nil (w:World):(binOp .eql 137 .nilFunc .nilFunc).run Tryz.prog w=.ok (.bool true) w:=by
 have h:(Op.equal 137 .nilFunc .nilFunc).run Tryz.prog w=.ok true w:=eqIn_nil 9999 w
 simp only [binOp]
 simp [h]
theorem facts7 (w:World) (k:Nat) (f v0 v1 v2 v3 v4 v5:Value) (hk:k < tab.size) (h:tab[k]'hk=f) :
 (((w.alloc (.cells #[v0,v1,v2,v3,v4,v5] 44)).alloc (.cells tab 138)).alloc (.cells tab 138)).cell? ⟨w.heap.size,0,none⟩=some v0 /\
 (((w.alloc (.cells #[v0,v1,v2,v3,v4,v5] 44)).alloc (.cells tab 138)).alloc (.cells tab 138)).cell? ⟨w.heap.size,1,none⟩=some v1 /\
 (((w.alloc (.cells #[v0,v1,v2,v3,v4,v5] 44)).alloc (.cells tab 138)).alloc (.cells tab 138)).cell? ⟨w.heap.size,2,none⟩=some v2 /\
 (((w.alloc (.cells #[v0,v1,v2,v3,v4,v5] 44)).alloc (.cells tab 138)).alloc (.cells tab 138)).cell? ⟨w.heap.size,3,none⟩=some v3 /\
 (((w.alloc (.cells #[v0,v1,v2,v3,v4,v5] 44)).alloc (.cells tab 138)).alloc (.cells tab 138)).cell? ⟨w.heap.size,4,none⟩=some v4 /\
 (((w.alloc (.cells #[v0,v1,v2,v3,v4,v5] 44)).alloc (.cells tab 138)).alloc (.cells tab 138)).cell? ⟨w.heap.size,5,none⟩=some v5 /\
 (((w.alloc (.cells #[v0,v1,v2,v3,v4,v5] 44)).alloc (.cells tab 138)).alloc (.cells tab 138)).cell? ⟨w.heap.size+1+1,k,none⟩=some f:=by
 have hB:Below (w.alloc (.cells #[v0,v1,v2,v3,v4,v5] 44)).heap.size (w.alloc (.cells #[v0,v1,v2,v3,v4,v5] 44)) (((w.alloc (.cells #[v0,v1,v2,v3,v4,v5] 44)).alloc (.cells tab 138)).alloc (.cells tab 138)):=((Below.refl _ _).alloc (Nat.le_refl _) _).alloc (by simp) _
 have e:((w.alloc (.cells #[v0,v1,v2,v3,v4,v5] 44)).alloc (.cells tab 138)).heap.size=w.heap.size+1+1:=by simp
 refine ⟨?_,?_,?_,?_,?_,?_,?_⟩
 ·rw [hB.cell (by simp),World.cell?_alloc_new];rfl
 ·rw [hB.cell (by simp),World.cell?_alloc_new];rfl
 ·rw [hB.cell (by simp),World.cell?_alloc_new];rfl
 ·rw [hB.cell (by simp),World.cell?_alloc_new];rfl
 ·rw [hB.cell (by simp),World.cell?_alloc_new];rfl
 ·rw [hB.cell (by simp),World.cell?_alloc_new];rfl
 ·rw [<- e,World.cell?_alloc_new,<- h]
  exact Array.getElem?_eq_getElem hk
theorem kept7 {W W':World} {b t k:Nat} {v0 v1 v2 v3 v4 v5 f:Value}
 (h:W.cell? ⟨b,0,none⟩=some v0/\W.cell? ⟨b,1,none⟩=some v1/\W.cell? ⟨b,2,none⟩=some v2/\W.cell? ⟨b,3,none⟩=some v3/\W.cell? ⟨b,4,none⟩=some v4/\W.cell? ⟨b,5,none⟩=some v5/\W.cell? ⟨t,k,none⟩=some f) (hb:Below W.heap.size W W') :
 W'.cell? ⟨b,0,none⟩=some v0/\W'.cell? ⟨b,1,none⟩=some v1/\W'.cell? ⟨b,2,none⟩=some v2/\W'.cell? ⟨b,3,none⟩=some v3/\W'.cell? ⟨b,4,none⟩=some v4/\W'.cell? ⟨b,5,none⟩=some v5/\W'.cell? ⟨t,k,none⟩=some f:=by
 obtain ⟨h0,h1,h2,h3,h4,h5,h6⟩:=h
 exact ⟨(hb.cell (lt_of_cell h0)).trans h0,(hb.cell (lt_of_cell h1)).trans h1,(hb.cell (lt_of_cell h2)).trans h2,(hb.cell (lt_of_cell h3)).trans h3,(hb.cell (lt_of_cell h4)).trans h4,(hb.cell (lt_of_cell h5)).trans h5,(hb.cell (lt_of_cell h6)).trans h6⟩
def iApp (n:Nd) (W a b c v:Int) (w:World):Prop :=
 Calls Tryz.prog 92 #[.agg #[.int .i64 n.op,.int .i64 n.w,.int .i64 n.k,.int .i64 n.a,.int .i64 n.b,.int .i64 n.c],.int .i64 W,.int .i64 a,.int .i64 b,.int .i64 c] w fun e w'=>e=.returned (.int .i64 v)/\Below w.heap.size w w'
end Pv3
namespace Pw1
open Go.RowKit
open Nd0 Pl1 Pl2 Vl1 Vl2 Bt0 Wd1 Wd2 Wd3 Wd4 Wd5 Ic4 Pv1 Pv3
open Sv1 (Rg below1)
theorem iAt {n:Nd} {W a b c v:Int} (k f:Nat) (w:World) (h:Rg n W a b c) (hop:n.op=(k:Int)) (hk:k < tab.size) (ht:tab[k]'hk=.func (.func f) #[] #[]) (hf:∀ args w,(callFunc f args).run Tryz.prog w=.ok (.enter f args) w) (hC:Clo f n W a b c v):iApp n W a b c v w:=by
 obtain ⟨h1,h2,h3,h4,h5⟩:=h
 obtain ⟨op,wd,vk,na,nb,nc⟩:=n
 dsimp only at h1 h2 h3 h4 h5 hop
 subst hop
 have HC:Hid (Clo f ⟨(k:Int),wd,vk,na,nb,nc⟩ W a b c v):=hC
 have hts:tab.size=19:=rfl
 have hkz:(k:Int) < 19:=by omega
 have hk0:¬ (k:Int) < 0:=by omega
 have hk9:¬ (19:Int)<=(k:Int):=by omega
 have hef:=eql_func
 have HS0:=facts7 w k _ (.int .i64 (k:Int)) (.int .i64 wd) (.int .i64 vk) (.int .i64 na) (.int .i64 nb) (.int .i64 nc) hk ht
 have hs6:=HS0.2.2.2.2.2.2
 clear hC hk ht
 unfold iApp
 go_enter Tryz.func92,Tryz.ntmps92
 go_wp2_with (first|(go_at_call 68;refine (iWidthOk _ _).mono ?_;rintro e w' ⟨rfl,rfl⟩)|(go_at_call 118;refine (byteOk _ _).mono ?_;rintro e w' ⟨rfl,rfl⟩)|(go_at_call 119;refine (operators _).mono ?_;rintro e w' ⟨rfl,rfl⟩)|refine store_new _ rfl 138 (.tmp 11) (.tmp 36) rfl _ tab _ rfl (by simp) rfl sizeTab rfl oneTab ?_)
 obtain ⟨W3,hW3⟩:∃ W3:World,W3=((w.alloc (.cells #[.int .i64 (k:Int),.int .i64 wd,.int .i64 vk,.int .i64 na,.int .i64 nb,.int .i64 nc] 44)).alloc (.cells tab 138)).alloc (.cells tab 138):=⟨_,rfl⟩
 have HS:W3.cell? ⟨w.heap.size,0,none⟩=some (.int .i64 (k:Int))/\W3.cell? ⟨w.heap.size,1,none⟩=some (.int .i64 wd)/\W3.cell? ⟨w.heap.size,2,none⟩=some (.int .i64 vk)/\W3.cell? ⟨w.heap.size,3,none⟩=some (.int .i64 na)/\W3.cell? ⟨w.heap.size,4,none⟩=some (.int .i64 nb)/\W3.cell? ⟨w.heap.size,5,none⟩=some (.int .i64 nc)/\W3.cell? ⟨w.heap.size+1+1,k,none⟩=some (.func (.func f) #[] #[]):=by
  rw [hW3]
  exact HS0
 have HB3:Hid (Below w.heap.size w W3):=by
  rw [hW3]
  exact (((Below.refl _ _).alloc (Nat.le_refl _) _).alloc (by simp) _).alloc (by simp;omega) _
 rw [<- hW3]
 clear hW3 HS0 hs6
 go_region_held (fun w'=>w'.cell? ⟨w.heap.size,0,none⟩=some (.int .i64 (k:Int))/\w'.cell? ⟨w.heap.size,1,none⟩=some (.int .i64 wd)/\w'.cell? ⟨w.heap.size,2,none⟩=some (.int .i64 vk)/\w'.cell? ⟨w.heap.size,3,none⟩=some (.int .i64 na)/\w'.cell? ⟨w.heap.size,4,none⟩=some (.int .i64 nb)/\w'.cell? ⟨w.heap.size,5,none⟩=some (.int .i64 nc)/\w'.cell? ⟨w.heap.size+1+1,k,none⟩=some (.func (.func f) #[] #[])) ((first|exact HS|exact kept7 (W:=W3.drew) HS hb4)) ((refine (HC.out _).mono ?_;rintro e w4 ⟨rfl,hb4⟩;have HB4:Hid (Below w.heap.size w w4):=HB3.out.drew.trans (hb4.mono HB3.out.size)))
 go_wp2
 go_ret
 exact ⟨rfl,HB4.out⟩
end Pw1
end Go.Proofs.YthanhcobfehmnaaGreat
