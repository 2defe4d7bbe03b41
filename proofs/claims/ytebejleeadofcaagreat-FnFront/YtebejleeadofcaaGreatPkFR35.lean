import Derived.RangeFuncNested
import Derived.RangeFuncBound
import Derived.RangeFuncCalls
import Derived.RangeFuncLeaves
import Derived.Shelf.Abstract
import Derived.Shelf.RegionOpen
import Derived.WalkKit
import Derived.OwnWalkIn
import Derived.TacticsInMore
import Derived.LoopNIn
import Derived.LoopIn
import Derived.OrdersHeld
import Derived.OrdersIn
import Derived.TacticsIn
import Derived.Deep.RegionHeld
import Derived.Test.YtebejleeadofcaaGreatPkFR34
import Derived.Test.YtebejleeadofcaaGreatPkFR30
import Derived.Test.YtebejleeadofcaaGreatPkFR17
import Derived.Test.YtebejleeadofcaaGreatPkFR24
import Derived.Test.YtebejleeadofcaaGreatPkFR18
namespace Go.Proofs.YtebejleeadofcaaGreat
set_option maxRecDepth 100000
set_option maxHeartbeats 8000000
set_option linter.unusedVariables false
namespace Fp3
open Go.RowKit
open Nd0 Nd3 Qa0 Ap2 Ap7 Fr0 Qi0 Qi1 Fp2 Fm3
def IBack:Prop:=∀ (w:World) (aq a:Option Addr) (q:List Qu) (l:List Nd) (cq c:Nat),Qus w aq q->q.length<=1048576->Nodes w a l->l.length<=c->l.length<=1048576 ->
 Calls Tryz.prog 12 #[.slice aq q.length cq,.slice a l.length c] w (BPost w q l)
theorem iBack (hFO:IFrontOk):IBack:=by
 intro w aq a q l cq c hQ hl hN hcap hll
 have HN:Hid (Nodes w a l):=hN
 have HQS:Hid (Qus w aq q):=hQ
 have HFO:Hid IFrontOk:=hFO
 have HCAP:Hid (l.length<=c):=hcap
 clear hN hQ hFO hcap
 go_enter Tryz.func12,Tryz.ntmps12
 go_wp2_with fail
 refine (HFO.out _ aq a q l cq c HQS.out hl HN.out HCAP.out hll).mono ?_
 rintro e w1 ⟨rfl,hb1⟩
 have HB1:Hid (Below w.heap.size w w1):=hb1
 clear hb1
 cases hf:frontOkB q l
 ·have HF:Hid (backB q l=false):=by show _=_;unfold backB;rw [hf];rfl
  go_wp2
  go_ret2
  exact bpost_no HF.out HB1.out _
 ·by_cases h80:l.length+q.length<=80
  rotate_left
  ·have h81:80 < (l.length:Int)+(q.length:Int):=by omega
   have HF:Hid (backB q l=false):=by show _=_;unfold backB;rw [hf,decide_eq_false h80];rfl
   go_wp2
   go_ret2
   exact bpost_no HF.out HB1.out _
  ·have h81:¬ 80 < (l.length:Int)+(q.length:Int):=by omega
   have HF:Hid (backB q l=true):=by show _=_;unfold backB;rw [hf,decide_eq_true h80];rfl
   have hl1:1<=l.length:=(Tm0.term_len (fo_of hf).1).1
   clear hf
   rcases (HN.out.below HB1.out).2 with h0|⟨xb,xo,rfl,hcn⟩
   ·omega
   have hwal:Below w1.heap.size w1 (w1.alloc (.cells #[] 58)):=(Below.refl _ _).alloc (Nat.le_refl _) _
   have HHY:Hid (∀ i (h:i < l.length),NodeAt (w1.alloc (.cells #[] 58)) xb (xo+i*6) l[i]):=fun i hi=>(hcn i hi).below hwal (hcn i hi).lt
   have HOL:Hid (Ap2.Own (w1.alloc (.cells #[] 58)) w.heap.size (.slice (some ⟨w1.heap.size,0,none⟩) 0 0) []):=Own.lit w1 _ HB1.out.size
   have hs1:w.heap.size<=w1.heap.size:=HB1.out.size
   clear hcn
   go_wp2_with (at_builtin;go_must (refine app_nodes _ rfl _ _ rfl w.heap.size (.slice (some ⟨w1.heap.size,0,none⟩) 0 0) [] l xb xo c rfl rfl HHY.out hl1 HOL.out (by simp;omega) (by simp;omega) ?_;intro g4 cp4 w4 ho4 hk4 hg4;simp only [List.length_nil,Nat.zero_add,List.nil_append] at ho4;have HO4:Hid (Ap2.Own w4 w.heap.size (.slice (some ⟨g4,0,none⟩) l.length cp4) l):=ho4;have HB4:Hid (Below w.heap.size w w4):=HB1.out.trans (((hwal.trans (hk4.below (fun k hk=>by cases hk;exact Nat.le_refl _) (by simp)))).mono HB1.out.size);clear ho4 hk4 hg4 hwal))
   refine (iQuantsOf w4 aq q cq (HQS.out.below HB4.out) hl).mono ?_
   rintro e w5 ⟨⟨ai,ci,rfl,hqv,hqb⟩,hb5⟩
   have HQV:Hid (Qvs w5 ai q):=hqv
   have HQB:Hid (∀ x,ai=some x->0 < q.length->w4.heap.size<=x.block/\x.block < w5.heap.size):=fun x hx hp=>by
    refine ⟨hqb x hp hx,?_⟩
    rcases hqv.2 with h0|⟨b,o,he,hc⟩
    ·omega
    ·rw [hx] at he
     cases he
     exact lt_of_cell (hc 0 hp)
   have HB5:Hid (Below w.heap.size w w5):=HB4.out.trans (hb5.mono HB4.out.size)
   have HO5:Hid (Ap2.Own w5 w.heap.size (.slice (some ⟨g4,0,none⟩) l.length cp4) l):=HO4.out.kept (S:=fun _=>False) (Kept.ofBelow hb5) (fun _ _ h=>h)
   have HV5:Hid (∀ b,(Value.slice (some ⟨g4,0,none⟩) l.length cp4).ownBlock=some b->b < w4.heap.size\/w5.heap.size<=b):=fun b h=>.inl (HO4.out.lt b h).2
   clear hqv hqb hb5 HO4
   go_wp2
   go_loopw [6,8] (fun v i wr=>∃ j k:Nat,j+k=q.length/\i=.int .i64 ((j:Int) - 1)/\Ap2.Own wr w.heap.size v (backTo q l k)/\Below w.heap.size w wr/\Qvs wr ai q/\(∀ b,v.ownBlock=some b->b < w4.heap.size\/w5.heap.size<=b)/\w5.heap.size<=wr.heap.size) (fun _ i _=>(intOf i+1).toNat)
   case atStart=>exact ⟨q.length,0,rfl,rfl,HO5.out,HB5.out,HQV.out,HV5.out,Nat.le_refl _⟩
   case round =>
    clear HO5 HB5 HHY HOL HQV HV5 HB4
    obtain ⟨j,k,hjk,rfl,ho,hb,hqv,hvb,hs5⟩:=hrel
    have HB:Hid (Below w.heap.size w wr):=hb
    have HQV:Hid (Qvs wr ai q):=hqv
    have HVB:Hid (∀ b,u6.ownBlock=some b->b < w4.heap.size\/w5.heap.size<=b):=hvb
    have hbs:w.heap.size<=wr.heap.size:=hb.size
    have HRL:Hid ((backTo q l k).length=l.length+k):=backTo_length q l k
    have hrb:(backTo q l k).length<=80:=by have:=HRL.out;omega
    have hra:1<=(backTo q l k).length:=by have:=HRL.out;omega
    obtain ⟨av,cv,hv,_⟩:=ho.form
    subst hv
    have HO:Hid (Ap2.Own wr w.heap.size (.slice av (backTo q l k).length cv) (backTo q l k)):=ho
    clear ho hb hqv hvb
    cases j with
    | zero =>
      have HE:Hid (k=q.length):=by show _=_;omega
      have HO9:Hid (Ap2.Own wr w.heap.size (.slice av (backTo q l k).length cv) (backTo q l q.length)):=by rw [<- HE.out];exact HO.out
      have hz:¬ (0:Int)<=((0:Nat):Int) - 1:=by omega
      go_wp2
      go_ret2
      exact bpost_yes HF.out HB.out HO9.out
    | succ j =>
      have ej:((j+1:Nat):Int) - 1=(j:Int):=by omega
      rw [ej]
      have hlz:(j:Int) < (q.length:Int):=by omega
      have hj0:(0:Int)<=(j:Int):=by omega
      rcases HQV.out.2 with h0|⟨b,o,rfl,hc⟩
      ·omega
      have p0:=hc j (by omega)
      rw [qth_get (by omega:j < q.length)] at p0
      clear hc ej
      have HBK:Hid (backTo q l (k+1)=backTo q l k++[qNode (qth q j) ((backTo q l k).length - 1)]):=by
       show _=_
       have e:q.length - 1 - k=j:=by omega
       show backTo q l k++[qNode (qth q (q.length - 1 - k)) _]=_
       rw [e]
      generalize backTo q l k=R at HO HBK HRL hra hrb HVB ⊢
      generalize qth q j=x at p0 HBK
      have hR1:(1:Int)<=(R.length:Int):=by omega
      have hRw:IntKind.i64.wrap ((R.length:Int) - 1)=(R.length:Int) - 1:=by rw [IntKind.wrap_i64]<;>omega
      go_wp2_with fail
      refine (iNodeOf x _ _).mono ?_
      rintro e w6 ⟨rfl,hb6⟩
      have HK6:Hid (Below wr.heap.size wr w6):=hb6
      have HB6:Hid (Below w.heap.size w w6):=HB.out.trans (hb6.mono hbs)
      have HO6:Hid (Ap2.Own w6 w.heap.size (.slice av R.length cv) R):=HO.out.kept (S:=fun _=>False) (Kept.ofBelow hb6) (fun _ _ h=>h)
      have hs6:w.heap.size<=w6.heap.size:=HB6.out.size
      have hs56:w5.heap.size<=w6.heap.size:=Nat.le_trans hs5 hb6.size
      have HQ6:Hid (Qvs w6 (some ⟨b,o,none⟩) q):=HQV.out.below hb6
      clear hb6
      go_wp2_with (at_builtin;go_must (refine app_node w6 rfl _ _ rfl w.heap.size (.slice av R.length cv) R ⟨if x.all then 19 else 20,1,x.vr,(R.length:Int) - 1,x.bits,0⟩ rfl w6.heap.size rfl rfl HO6.out hs6 (by omega) ?_;intro g7 cp7 w7 ho7 hk7 hg7;have HO7:Hid (Ap2.Own w7 w.heap.size (.slice (some ⟨g7,0,none⟩) (R.length+1) cp7) (R++[⟨if x.all then 19 else 20,1,x.vr,(R.length:Int) - 1,x.bits,0⟩])):=ho7;have HB7:Hid (Below w.heap.size w w7):=HB6.out.trans (hk7.below (fun k hk=>(HO6.out.lt k hk).1) hs6);have HQ7:Hid (Qvs w7 (some ⟨b,o,none⟩) q):=(HQ6.out.kept hk7 (fun y hy h=>by have h1:=HQB.out y hy (by omega);have h2:=HVB.out y.block h;omega));have hs7:w5.heap.size<=w7.heap.size:=Nat.le_trans hs56 hk7.size;have HV7:Hid (∀ b,(Value.slice (some ⟨g7,0,none⟩) (R.length+1) cp7).ownBlock=some b->b < w4.heap.size\/w5.heap.size<=b):=(fun b' hb'=>by have e9:g7=b':=Option.some.inj hb';subst e9;rcases hg7 with h9|h9;exact HVB.out g7 h9;exact .inr (Nat.le_trans hs56 h9));clear ho7 hk7 hg7))
      go_roundw
      case rel=>exact ⟨j,k+1,by omega,by go_num,by rw [HBK.out];exact HO7.out,HB7.out,HQ7.out,HV7.out,hs7⟩
      case measure=>simp [intOf]
end Fp3
namespace Pv6
open Go.RowKit Go.Shelf
open Pl1 Vl1 Vl2
open Pg1 (iWordOk)
attribute [local go_sem] Oper.semAt_some
theorem iEach (b:Int) (w:World) :
 Calls Tryz.prog 63 #[.int .i64 b] w fun e w'=>e=.returned (.func (.func 82) #[] #[.pointer (some ⟨w.heap.size,0,none⟩)])/\w'=w.alloc (.cells #[.int .i64 b] 3):=by
 go_enter Tryz.func63,Tryz.ntmps63
 go_wp2
 go_ret
 exact ⟨rfl,rfl⟩
theorem fin_take {M j:Nat} (h:j < M):(List.finRange M).take (j+1)=(List.finRange M).take j++[⟨j,h⟩]:=by
 rw [List.take_succ_eq_append_getElem (by simp;exact h)]
 simp
theorem wok_lt {b:Int} (h1:1<=b) (h8:b<=8) (j:Nat):wok b (j:Int)=decide (j < 2 ^ b.toNat):=by
 rw [Bool.eq_iff_iff,wok_iff,decide_eq_true_iff,p2_nat]
 omega
theorem words_stops (n n₀ Bn:Nat) (b:Int) (h1:1<=b) (h8:b<=8) (w:World) (hB:Bn < n₀) (hn:n₀<=w.heap.size) (hc:w.cell? ⟨Bn,0,none⟩=some (.int .i64 b)) :
 SeqStopsK Fence.wide n Tryz.prog 82 #[.pointer (some ⟨Bn,0,none⟩)] (fun k:Fin (2 ^ b.toNat) => #[Value.int .i64 (k.val:Int)]) (Below n₀) (fun xs=>xs=List.finRange (2 ^ b.toNat)) (fun _=>True) (2 ^ b.toNat) w:=fun l J Jx W hW hJ hJx hY h0=>by
 have hcW:W.cell? ⟨Bn,0,none⟩=some (.int .i64 b):=(hW.cell (p:=⟨Bn,0,none⟩) (show Bn < w.heap.size by omega)).trans hc
 have hw:∀ j:Nat,wok b (j:Int)=decide (j < 2 ^ b.toNat):=fun j=>wok_lt h1 h8 j
 have hM:2 ^ b.toNat<=256:=Nat.pow_le_pow_right (n:=2) (by omega) (show b.toNat<=8 by omega)
 generalize 2 ^ b.toNat=M at *
 refine callsIn_of_wp Tryz.func82 rfl trivial ?_ rfl
 simp only [Tryz.ntmps82,List.size_toArray,List.length_cons,List.length_nil,Nat.reduceAdd,Nat.reduceSub,Array.replicate_succ,Array.replicate_zero,List.push_toArray,List.append_toArray,List.nil_append,List.cons_append]
 gi_wp2
 gi_loopw [3] (fun q wr=>∃ j:Nat,j<=M/\q=.int .i64 (j:Int)/\J ((List.finRange M).take j) wr/\Below n₀ W wr) (fun q _=>M - (intOf q).toNat)
 case atStart=>exact ⟨0,Nat.zero_le _,rfl,h0,Below.refl _ _⟩
 case round =>
  obtain ⟨j,hj,rfl,hJs,hBe⟩:=hrel
  have HJS:Hid (J ((List.finRange M).take j) wr):=hJs
  have HBE:Hid (Below n₀ W wr):=hBe
  have hcr:wr.cell? ⟨Bn,0,none⟩=some (.int .i64 b):=(hBe.cell (p:=⟨Bn,0,none⟩) hB).trans hcW
  have hwj:=hw j
  by_cases hlt:j < M
  ·rw [decide_eq_true hlt] at hwj
   obtain ⟨fn,tmps,assign,body,hy,hR⟩:=hY ((List.finRange M).take j) ⟨j,hlt⟩ wr hJs (by simp;omega)
   have hjz:(j:Int)<=255:=by omega
   clear hw hY hJs hBe
   gi_wp2_with (refine ⟨trivial,(fun h=>absurd h (by decide)),?_⟩;gi_at_call 83;refine (callsIn_wide.2 (iWordOk _ _ _)).mono ?_;rintro e wr ⟨rfl,rfl⟩;rw [hwj])
   refine ⟨(fun h=>absurd h (by decide)),hR.mono ?_⟩
   rintro e W3 (⟨rfl,hJ3,hk3⟩|⟨rfl,hJx3⟩)
   ·have HJ3:Hid (J ((List.finRange M).take (j+1)) W3):=by rw [fin_take hlt];exact hJ3
    have HB3:Hid (Below n₀ W W3):=HBE.out.trans hk3
    clear hJ3 hk3
    gi_wp2
    go_roundw
    case rel=>exact ⟨j+1,by omega,by go_num,HJ3.out,HB3.out⟩
    case measure=>simp [intOf];omega
   ·have HJ3:Hid (Jx ((List.finRange M).take j++[⟨j,hlt⟩]) W3):=hJx3
    clear hJx3
    gi_wp2
    refine bodyPost_ret (results_none rfl _ _ _) rfl ?_
    exact ⟨⟨_,rfl⟩,.inr ⟨_,trivial,HJ3.out⟩⟩
  ·rw [decide_eq_false hlt] at hwj
   have HJE:Hid (j=M):=by
    show _=_
    omega
   clear hw hY hJs hBe
   gi_wp2_with (refine ⟨trivial,(fun h=>absurd h (by decide)),?_⟩;gi_at_call 83;refine (callsIn_wide.2 (iWordOk _ _ _)).mono ?_;rintro e wr ⟨rfl,rfl⟩;rw [hwj])
   go_end0
   exact ⟨⟨_,rfl⟩,.inl ⟨_,rfl,by have h9:=HJS.out;rw [HJE.out,List.take_of_length_le (by simp)] at h9;exact h9⟩⟩
end Pv6
namespace Lift
open Go.RowKit
variable {l n:Nat} {P:Program} {ops:Array Oper} {Q:Exit->Act->World->Prop} {md:Region.Mode}
theorem op_lift {o:Oper} {a:Act} {w:World} {K:Act->World->Prop} (hd:∀ c,o.op≠.defer c) (h:o.wp P a w K Q):o.wpIn (Fence.wide.inRound l) n P a w K Q:=by
 refine ⟨fun f _=>trivial,?_⟩
 show o.uponIn (Fence.wide.inRound l) n P a K Q ((o.semAt (some l) a.eval).run P w)
 rw [Oper.semAt_some l a.eval o hd]
 unfold Oper.wp at h
 generalize (execOp a.eval o).run P w=r at h ⊢
 cases r with
 | ok x w' =>
   cases x<;>simp only [Oper.upon] at h<;>simp only [Oper.uponIn]
   all_goals first
    | exact h
    | exact ⟨(fun h0=>Bool.noConfusion (show false=true from h0)),CallsIn.inRound l (callsIn_wide.2 h)⟩
    | exact ⟨(fun h0=>Bool.noConfusion (show false=true from h0)),(fun c cs _=>by
     obtain ⟨v,w',r,s⟩:=h c cs
     exact ⟨v,w',r,stepsIn_wide.2 s⟩)⟩
 | halt x w'=>cases x<;>simp only [Oper.upon] at h<;>simp only [Oper.uponIn]<;>exact h
theorem any_lift (hL:¬ LetsOut Q) (hd:∀ (i:Nat) (o:Oper),ops[i]? = some o->∀ c,o.op≠.defer c):∀ (fuel:Nat) (listed:Array Bool) (a:Act) (w:World),wpAny P md ops Q fuel listed a w->wpAnyIn (Fence.wide.inRound l) n P md ops Q fuel listed a w:=by
 intro fuel
 induction fuel with
 | zero=>intro listed a w h;exact h
 | succ fuel ih =>
   intro listed a w h
   refine ⟨h.1,fun i hi=>?_⟩
   have h2:=h.2 i hi
   unfold wpOp at h2
   unfold wpOpIn
   cases ho:ops[i]? with
   | none=>rw [ho] at h2;exact ih _ _ _ h2
   | some o =>
     rw [ho] at h2
     dsimp only at h2 ⊢
     split
     ·rename_i hw
      rw [if_pos hw] at h2
      rcases h2 with h3|h3
      ·exact op_lift (hd i o ho) (Oper.wp_mono (fun a w h=>ih _ _ _ h) h3)
      ·exact absurd h3.2 hL
     ·rename_i hw
      rw [if_neg hw] at h2
      exact ⟨fun f _=>trivial,ih _ _ _ h2⟩
def noDefer (ops:Array Oper):Bool:=ops.toList.all fun o=>match o.op with
 | .defer _=>false
 | _=>true
theorem noDefer_of (h:noDefer ops=true):∀ (i:Nat) (o:Oper),ops[i]? = some o->∀ c,o.op≠.defer c:=by
 intro i o ho c hc
 have h2:=List.all_eq_true.1 h o (by
  obtain ⟨hi,rfl⟩:=Array.getElem?_eq_some_iff.1 ho
  simp)
 rw [hc] at h2
 cases h2
theorem region_lift {S:World->Prop} {id:Nat} {a:Act} {w:World} (hm:P.follows .mixedOrders=true) (hL:¬ LetsOut Q) (hd:noDefer ops=true)
 (hS:S w.drew) (h:S w.drew->wpAnyH P .any ops Q S ops.size (Array.replicate ops.size false) a w.drew):(Code.region id ops true).wpIn (Fence.wide.inRound l) n P Q a w :=
 wpIn_region_any hm (any_lift hL (noDefer_of hd) _ _ _ _ (wpAny_of_held _ _ _ _ (h hS)))
end Lift
namespace Vm1
open Nd0 Pl1 Pl2 Tm0 Tm1 Tm3 Tm5 Tm6 Tm8 Tm11 Tm13 Tm14 Tr0 Vl1 Vl2 Vm0
def rowN (l:List Nd) (j:Nat):List Nat:=(needT (tr l j)).getD []
def preN (l:List Nd) (n:Nd) (v:Nat):Nat->Nat
 | 0=>if n.op=1/\n.k=(v:Int) then 2 ^ n.w.toNat else 0
 | d+1=>preN l n v d ||| (rowN l ((parts n).getD d 0).toNat).getD v 0
def preA (l:List Nd) (n:Nd) (v:Nat):Nat:=preN l n v (parts n).length
def badQ (l:List Nd) (n:Nd):Bool:=quant n.op&&decide (preA l n n.k.toNat≠0/\preA l n n.k.toNat≠2 ^ n.b.toNat)
theorem getD_map8 (f:Nat->Nat) {v:Nat} (hv:v < 8):((List.range 8).map f).getD v 0=f v:=by
 rw [List.getD_eq_getElem?_getD,List.getElem?_map,List.getElem?_range hv];rfl
theorem need_row {l:List Nd} {i:Nat} (hp:∀ p∈parts (nth l i),(needT (tr l p.toNat)).isSome=true):∀ p∈parts (nth l i),needT (tr l p.toNat)=some (rowN l p.toNat):=fun p h=>by
 obtain ⟨r,hr⟩:=Option.isSome_iff_exists.1 (hp p h)
 unfold rowN;rw [hr];rfl
section
variable {l:List Nd} (hD:Down l) {i:Nat} (hi:i < l.length) (hp:∀ p∈parts (nth l i),(needT (tr l p.toNat)).isSome=true)
include hD hi hp
theorem need_none (hb:badQ l (nth l i)=true):needT (tr l i)=none:=by
 have hr:=need_row hp
 unfold badQ at hb
 simp only [Bool.and_eq_true] at hb
 obtain ⟨hq,hb⟩:=hb
 have hb:=of_decide_eq_true hb
 rw [tr_at hD hi]
 generalize nth l i=n at hr hq hb
 have hq2:n.op=19\/n.op=20:=by simpa [quant] using hq
 have h1:n.op=2\/n.op=17\/n.op=19\/n.op=20:=by omega
 rw [mk_one h1]
 have hpp:=parts_one h1
 simp only [needT]
 rw [hr n.a (by rw [hpp];simp)]
 simp only [Option.bind_some,hq,if_true]
 have e:preA l n n.k.toNat=(rowN l n.a.toNat).getD n.k.toNat 0:=by
  unfold preA
  rw [hpp]
  show preN l n n.k.toNat (0+1)=_
  unfold preN
  rw [hpp]
  have:¬ (n.op=1/\n.k=(n.k.toNat:Int)):=fun h=>by omega
  simp only [preN]
  rw [if_neg this]
  simp
 rw [e] at hb
 rw [if_pos hb]
theorem need_some (hb:badQ l (nth l i)=false) (hk:quant (nth l i).op=true->0<=(nth l i).k):∃ r,needT (tr l i)=some r/\∀ v,v < 8->r.getD v 0=if quant (nth l i).op/\(nth l i).k=(v:Int) then 0 else preA l (nth l i) v:=by
 have hr:=need_row hp
 unfold badQ at hb
 rw [tr_at hD hi]
 generalize nth l i=n at hr hb hk
 by_cases h1:n.op=2\/n.op=17\/n.op=19\/n.op=20
 ·rw [mk_one h1]
  have hpp:=parts_one h1
  simp only [needT]
  have hra:=hr n.a (by rw [hpp];simp)
  have hrl:=need_len _ _ hra
  have e:∀ v,preA l n v=(rowN l n.a.toNat).getD v 0:=fun v=>by
   unfold preA
   rw [hpp]
   show preN l n v (0+1)=_
   unfold preN
   rw [hpp]
   have:¬ (n.op=1/\n.k=(v:Int)):=fun h=>by omega
   simp only [preN]
   rw [if_neg this]
   simp
  rw [hra]
  simp only [Option.bind_some]
  cases hq:quant n.op
  ·simp only [Bool.false_eq_true,if_false]
   exact ⟨_,rfl,fun v hv=>by rw [if_neg (by simp),e v]⟩
  ·simp only [if_true]
   rw [hq] at hb
   simp only [Bool.true_and] at hb
   have hb:=of_decide_eq_false hb
   rw [e] at hb
   rw [if_neg hb]
   refine ⟨_,rfl,fun v hv=>?_⟩
   have h0:=hk hq
   by_cases ev:n.k=(v:Int)
   ·rw [if_pos ⟨by simp,ev⟩]
    have:n.k.toNat=v:=by omega
    rw [this,List.getD_eq_getElem?_getD,List.getElem?_set_self (by rw [hrl];exact hv)];rfl
   ·rw [if_neg (fun h=>ev h.2),e v,List.getD_eq_getElem?_getD,List.getElem?_set_ne (by omega),<- List.getD_eq_getElem?_getD]
 ·have hq:quant n.op=false:=by
   have:¬ n.op=19/\¬ n.op=20:=by omega
   simp [quant,this]
  by_cases h2:3<=n.op/\n.op<=16
  ·rw [mk_two h2]
   have hpp:=parts_two h2
   simp only [needT]
   rw [hr n.a (by rw [hpp];simp),hr n.b (by rw [hpp];simp)]
   simp only [Option.bind_some]
   refine ⟨_,rfl,fun v hv=>?_⟩
   rw [hq,if_neg (by simp),or_at _ _ hv]
   unfold preA
   rw [hpp]
   show _=preN l n v (0+1+1)
   have:¬ (n.op=1/\n.k=(v:Int)):=fun h=>by omega
   simp only [preN,hpp]
   rw [if_neg this]
   simp
  ·by_cases h3:n.op=18
   ·rw [mk_three h3]
    have hpp:=parts_three h3
    simp only [needT]
    rw [hr n.a (by rw [hpp];simp),hr n.b (by rw [hpp];simp),hr n.c (by rw [hpp];simp)]
    simp only [Option.bind_some]
    refine ⟨_,rfl,fun v hv=>?_⟩
    rw [hq,if_neg (by simp),or_at _ _ hv,or_at _ _ hv]
    unfold preA
    rw [hpp]
    show _=preN l n v (0+1+1+1)
    have:¬ (n.op=1/\n.k=(v:Int)):=fun h=>by omega
    simp only [preN,hpp]
    rw [if_neg this]
    simp
   ·rw [mk_leaf h1 h2 h3]
    have hpp:=parts_none h1 h2 h3
    simp only [needT]
    refine ⟨_,rfl,fun v hv=>?_⟩
    rw [hq,if_neg (by simp),getD_map8 _ hv]
    unfold preA
    rw [hpp]
    rfl
end
theorem part_none {l:List Nd} (hD:Down l) {i:Nat} (hi:i < l.length) {p:Int} (hp:p∈parts (nth l i)) (h:needT (tr l p.toNat)=none):needT (tr l i)=none:=by
 rw [tr_at hD hi]
 generalize nth l i=n at hp
 by_cases h1:n.op=2\/n.op=17\/n.op=19\/n.op=20
 ·rw [mk_one h1]
  rw [parts_one h1] at hp
  simp only [List.mem_cons,List.not_mem_nil,or_false] at hp
  subst hp
  simp only [needT]
  rw [h];rfl
 ·by_cases h2:3<=n.op/\n.op<=16
  ·rw [mk_two h2]
   rw [parts_two h2] at hp
   simp only [List.mem_cons,List.not_mem_nil,or_false] at hp
   simp only [needT]
   rcases hp with rfl|rfl
   ·rw [h];rfl
   ·rw [h];cases needT (tr l n.a.toNat)<;>rfl
  ·by_cases h3:n.op=18
   ·rw [mk_three h3]
    rw [parts_three h3] at hp
    simp only [List.mem_cons,List.not_mem_nil,or_false] at hp
    simp only [needT]
    rcases hp with rfl|rfl|rfl
    ·rw [h];rfl
    ·rw [h];cases needT (tr l n.a.toNat)<;>rfl
    ·rw [h];cases needT (tr l n.a.toNat)<;>cases needT (tr l n.b.toNat)<;>rfl
   ·rw [parts_none h1 h2 h3] at hp
    cases hp
theorem root_none {l:List Nd} (hD:Down l):∀ d i,l.length=i+1+d->flag (reachL l) i=true->needT (tr l i)=none->needT (root l)=none:=by
 intro d
 induction d using Nat.strongRecOn with
 | ind d ih =>
   intro i hi hf hn
   rcases reach_why hD (i:=i) (by omega) hf with e|⟨j,h1,h2,h3,h4⟩
   ·unfold root;rw [<- e];exact hn
   ·refine ih (l.length - (j+1)) (by omega) j (by omega) h3 (part_none hD (by omega) h4 ?_)
    rw [Int.toNat_natCast];exact hn
theorem need_bd:∀ (x:Tr) (r:List Nat),Rt x->needT x=some r->∀ v,r.getD v 0 < 2 ^ 9:=by
 have hor:∀ (r s:List Nat) (v:Nat),(∀ v,r.getD v 0 < 2 ^ 9)->(∀ v,s.getD v 0 < 2 ^ 9)->(orL r s).getD v 0 < 2 ^ 9:=by
  intro r s v hr hs
  by_cases hv:v < 8
  ·rw [or_at r s hv];exact Nat.or_lt_two_pow (hr v) (hs v)
  ·rw [List.getD_eq_getElem?_getD,List.getElem?_eq_none (by unfold orL;simp;omega)];decide
 intro x
 induction x with
 | leaf op w k =>
   intro r hR h v
   simp only [needT] at h
   cases h
   by_cases hv:v < 8
   ·rw [getD_map8 _ hv]
    split
    ·have h8:w.toNat<=8:=by have:=hR.2.1;omega
     exact Nat.lt_of_le_of_lt (Nat.pow_le_pow_right (by omega) h8) (by decide)
    ·decide
   ·rw [List.getD_eq_getElem?_getD,List.getElem?_eq_none (by simp;omega)];decide
 | one op w k b x ih =>
   intro r hR h v
   simp only [needT] at h
   cases hn:needT x with
   | none=>rw [hn] at h;cases h
   | some s =>
     rw [hn] at h
     simp only [Option.bind_some] at h
     have hs:=ih s hR.2.2.1 hn
     split at h
     ·split at h
      ·cases h
      ·cases h
       rw [List.getD_eq_getElem?_getD]
       by_cases e:k.toNat=v
       ·subst e
        by_cases hl:k.toNat < s.length
        ·rw [List.getElem?_set_self hl];decide
        ·rw [List.getElem?_eq_none (by rw [List.length_set];omega)];decide
       ·rw [List.getElem?_set_ne e,<- List.getD_eq_getElem?_getD];exact hs v
     ·cases h;exact hs v
 | two op w x y ihx ihy =>
   intro r hR h v
   simp only [needT] at h
   cases hx:needT x with
   | none=>rw [hx] at h;cases h
   | some s =>
     cases hy:needT y with
     | none=>rw [hx,hy] at h;cases h
     | some t =>
       rw [hx,hy] at h
       simp only [Option.bind_some] at h
       cases h
       exact hor s t v (ihx s hR.2.2.1 hx) (ihy t hR.2.2.2.1 hy)
 | three op w x y z ihx ihy ihz =>
   intro r hR h v
   simp only [needT] at h
   cases hx:needT x with
   | none=>rw [hx] at h;cases h
   | some s =>
     cases hy:needT y with
     | none=>rw [hx,hy] at h;cases h
     | some t =>
       cases hz:needT z with
       | none=>rw [hx,hy,hz] at h;cases h
       | some u =>
         rw [hx,hy,hz] at h
         simp only [Option.bind_some] at h
         cases h
         exact hor _ u v (fun v=>hor s t v (ihx s hR.2.2.1 hx) (ihy t hR.2.2.2.1 hy)) (ihz u hR.2.2.2.2.1 hz)
end Vm1
namespace Vm2
open Nd0 Pl1 Pl2 Tm0 Tm1 Tm3 Tm5 Tm6 Tm8 Tm11 Tm13 Tm14 Tr0 Vl1 Vl2 Vm0 Vm1
def FitN (l:List Nd) (i:Nat) (e:List Int):Prop:=∃ r,needT (tr l i)=some r/\Fits r e
theorem FitN.part {l:List Nd} (hD:Down l) {i:Nat} (hi:i < l.length) {e:List Int} (h:FitN l i e) (hq:quant (nth l i).op=false) {p:Int} (hp:p∈parts (nth l i)):FitN l p.toNat e:=by
 obtain ⟨r,hr,hF⟩:=h
 rw [tr_at hD hi] at hr
 generalize nth l i=n at hp hq hr
 have hq2:¬ n.op=19/\¬ n.op=20:=by simpa [quant] using hq
 by_cases h1:n.op=2\/n.op=17\/n.op=19\/n.op=20
 ·rw [mk_one h1] at hr
  rw [parts_one h1] at hp
  simp only [List.mem_cons,List.not_mem_nil,or_false] at hp
  subst hp
  simp only [needT] at hr
  cases hn:needT (tr l n.a.toNat) with
  | none=>rw [hn] at hr;cases hr
  | some s =>
    rw [hn] at hr
    simp only [Option.bind_some,hq,Bool.false_eq_true,if_false] at hr
    cases hr
    exact ⟨_,hn,hF⟩
 ·by_cases h2:3<=n.op/\n.op<=16
  ·rw [mk_two h2] at hr
   rw [parts_two h2] at hp
   simp only [List.mem_cons,List.not_mem_nil,or_false] at hp
   simp only [needT] at hr
   cases hx:needT (tr l n.a.toNat) with
   | none=>rw [hx] at hr;cases hr
   | some s =>
     cases hy:needT (tr l n.b.toNat) with
     | none=>rw [hx,hy] at hr;cases hr
     | some t =>
       rw [hx,hy] at hr
       simp only [Option.bind_some] at hr
       cases hr
       rcases hp with rfl|rfl
       ·exact ⟨s,hx,hF.left⟩
       ·exact ⟨t,hy,hF.right⟩
  ·by_cases h3:n.op=18
   ·rw [mk_three h3] at hr
    rw [parts_three h3] at hp
    simp only [List.mem_cons,List.not_mem_nil,or_false] at hp
    simp only [needT] at hr
    cases hx:needT (tr l n.a.toNat) with
    | none=>rw [hx] at hr;cases hr
    | some s =>
      cases hy:needT (tr l n.b.toNat) with
      | none=>rw [hx,hy] at hr;cases hr
      | some t =>
        cases hz:needT (tr l n.c.toNat) with
        | none=>rw [hx,hy,hz] at hr;cases hr
        | some u =>
          rw [hx,hy,hz] at hr
          simp only [Option.bind_some] at hr
          cases hr
          rcases hp with rfl|rfl|rfl
          ·exact ⟨s,hx,hF.left.left⟩
          ·exact ⟨t,hy,hF.left.right⟩
          ·exact ⟨u,hz,hF.right⟩
   ·rw [parts_none h1 h2 h3] at hp
    cases hp
theorem FitN.below {l:List Nd} (hD:Down l) {i:Nat} (hi:i < l.length) (hN:nodeOk l i=true) {e:List Int} (he:e.length=8) (h:FitN l i e) (hq:quant (nth l i).op=true) {k:Nat} (hk:k < 2 ^ (nth l i).b.toNat):FitN l (nth l i).a.toNat (e.set (nth l i).k.toNat (k:Int)):=by
 obtain ⟨r,hr,hF⟩:=h
 have hkk:=shape_var hN (.inr hq)
 have hbb:=quant_b hN hq
 rw [tr_at hD hi] at hr
 generalize nth l i=n at hq hr hkk hbb hk
 have hq2:n.op=19\/n.op=20:=by simpa [quant] using hq
 rw [mk_one (by omega)] at hr
 simp only [needT] at hr
 cases hn:needT (tr l n.a.toNat) with
 | none=>rw [hn] at hr;cases hr
 | some s =>
   rw [hn] at hr
   simp only [Option.bind_some,hq,if_true] at hr
   by_cases hc:s.getD n.k.toNat 0≠0/\s.getD n.k.toNat 0≠2 ^ n.b.toNat
   ·rw [if_pos hc] at hr;cases hr
   ·rw [if_neg hc] at hr
    cases hr
    exact ⟨s,hn,Fits.below (need_len _ _ hn) he hkk hbb hk hc hF⟩
theorem FitN.word {l:List Nd} (hT:termOk l=true) {i:Nat} (hi:i < l.length) {e:List Int} (he:e.length=8) (h:FitN l i e):wok (nth l i).w (vT (tr l i) e)=true:=by
 obtain ⟨r,hr,hF⟩:=h
 have h2:=rt_all (down_of hT) (fun k hk=>term_node hT hk) i hi
 have:=value_word _ r e h2.1 hr he hF
 rw [h2.2] at this
 exact this
def hitB (l:List Nd) (e:List Int) (n:Nd) (x:Int):Bool:=(List.range (2 ^ n.b.toNat)).any fun (k:Nat)=>vT (tr l n.a.toNat) (e.set n.k.toNat (k:Int))==x
theorem hit_iff {l:List Nd} {e:List Int} {n:Nd} {x:Int}:hitB l e n x=true↔∃ k:Nat,k < 2 ^ n.b.toNat/\vT (tr l n.a.toNat) (e.set n.k.toNat (k:Int))=x:=by
 unfold hitB
 rw [List.any_eq_true]
 constructor
 ·rintro ⟨k,h1,h2⟩;exact ⟨k,List.mem_range.1 h1,by simpa using h2⟩
 ·rintro ⟨k,h1,h2⟩;exact ⟨k,List.mem_range.2 h1,by simpa using h2⟩
theorem vT_hit {l:List Nd} (hT:termOk l=true) {i:Nat} (hi:i < l.length) {e:List Int} (he:e.length=8) (h:FitN l i e) (hq:quant (nth l i).op=true) :
 vT (tr l i) e=if (nth l i).op=19 then (if (!hitB l e (nth l i) 0) then 1 else 0) else (if hitB l e (nth l i) 1 then 1 else 0):=by
 have hD:=down_of hT
 have hq2:(nth l i).op=19\/(nth l i).op=20:=by simpa [quant] using hq
 have haa:=hD i hi (nth l i).a (by rw [parts_one (by omega)];simp)
 have hw1:(nth l (nth l i).a.toNat).w=1:=by
  have h2:=(rt_all hD (fun k hk=>term_node hT hk) i hi).1
  rw [tr_at hD hi,mk_one (by omega)] at h2
  have h3:=h2.2.2.2
  have h4:=(rt_all hD (fun k hk=>term_node hT hk) (nth l i).a.toNat (by omega)).2
  rcases h3 with h5|h5|h5
  ·omega
  ·omega
  ·rw [<- h4];exact h5.2.1
 have hbit:∀ k:Nat,k < 2 ^ (nth l i).b.toNat->vT (tr l (nth l i).a.toNat) (e.set (nth l i).k.toNat (k:Int))=0\/vT (tr l (nth l i).a.toNat) (e.set (nth l i).k.toNat (k:Int))=1:=fun k hk=>by
  have h2:=FitN.word hT (by omega) (by rw [List.length_set];exact he) (h.below hD hi (term_node hT hi) he hq hk)
  rw [hw1] at h2
  have h3:=wok_iff.1 h2
  have h4:p2 (1:Int).toNat=2:=rfl
  rw [h4] at h3
  omega
 rw [vT_quant hD hi e hq]
 by_cases h19:(nth l i).op=19
 ·rw [if_pos h19,if_pos h19]
  cases hh:hitB l e (nth l i) 0
  ·simp only [Bool.not_false,if_true]
   refine allN_one.2 (fun k hk=>?_)
   rcases hbit k hk with h5|h5
   ·rw [hit_iff.2 ⟨k,hk,h5⟩] at hh;cases hh
   ·exact h5
  ·obtain ⟨k,hk,h5⟩:=hit_iff.1 hh
   simp only [Bool.not_true,Bool.false_eq_true,if_false]
   rcases allN_bit (fun i_1=>vT (tr l (nth l i).a.toNat) (e.set (nth l i).k.toNat (i_1:Int))) (2 ^ (nth l i).b.toNat) with h6|h6
   ·exact h6
   ·have h7:=allN_one.1 h6 k hk
    rw [h5] at h7;cases h7
 ·rw [if_neg h19,if_neg h19]
  cases hh:hitB l e (nth l i) 1
  ·simp only [Bool.false_eq_true,if_false]
   rcases anyN_bit (fun i_1=>vT (tr l (nth l i).a.toNat) (e.set (nth l i).k.toNat (i_1:Int))) (2 ^ (nth l i).b.toNat) with h6|h6
   ·exact h6
   ·rw [hit_iff.2 (anyN_one.1 h6)] at hh;cases hh
  ·simp only [if_true]
   exact anyN_one.2 (hit_iff.1 hh)
end Vm2
end Go.Proofs.YtebejleeadofcaaGreat
