import Derived.Deep.RegionHeld
import Derived.Test.YtebejleeadofcaaGreatRows
import Derived.WalkKit
import Derived.WalkSpells
import Derived.Stop.Asserts
import Derived.Deep.MidRow
import Derived.Test.YtebejleeadofcaaGreatSv3
import Derived.Test.YtebejleeadofcaaGreatPkFR25
import Derived.Test.YtebejleeadofcaaGreatPkFR22
import Derived.Test.YtebejleeadofcaaGreatPkFR23
import Derived.Test.YtebejleeadofcaaGreatFr2
import Derived.Test.YtebejleeadofcaaGreatPkFR13
import Derived.Test.YtebejleeadofcaaGreatPkFR21
import Derived.Test.YtebejleeadofcaaGreatPkFR24
import Derived.Test.YtebejleeadofcaaGreatPkFR3
import Derived.Test.YtebejleeadofcaaGreatPkFR17
import Derived.Test.YtebejleeadofcaaGreatPkFR26
namespace Go.Proofs.YtebejleeadofcaaGreat
set_option maxRecDepth 100000
set_option maxHeartbeats 8000000
set_option linter.unusedVariables false
namespace Sv4
open Go.RowKit
open Nd0 Pl1 Tm0 Tm1 Tm5 Tm6 Tm8 Ap0 Tr0 Rw0 Vl1 Vl2 Vm0 Kp1 Sv3
open Wd1 (ret_int)
def vsTo (l:List Nd) (e:List Int) (k:Nat):List Int:=(List.range k).map fun j=>vT (tr l j) e
theorem vsTo_length (l:List Nd) (e:List Int) (k:Nat):(vsTo l e k).length=k:=by simp [vsTo]
theorem vsTo_succ (l:List Nd) (e:List Int) (k:Nat):vsTo l e (k+1)=vsTo l e k++[vT (tr l k) e]:=by simp [vsTo,List.range_succ]
theorem vsTo_wd (l:List Nd) (e:List Int) {j k:Nat} (h:j < k):wd (vsTo l e k) (j:Int)=vT (tr l j) e:=by
 rw [<- wd_get (by rw [vsTo_length];exact h)];simp [vsTo]
theorem at_of {l:List Nd} {i:Nat} (hi:i < l.length) (h80:l.length<=80) (ih:∀ k,k<=i->SOne l k):SAt l i:=by
 intro w a c g ce e hN0 hag he hE
 have HN0:Hid (Nodes w a l):=hN0
 have HAG:Hid (∀ x,a=some x->¬ x.block=g):=hag
 have HE:Hid (Env w g e):=hE
 have IH:Hid (∀ k,k<=i->SOne l k):=ih
 have hg:=hE.lt
 clear hN0 hag hE ih
 go_enter Tryz.func61,Tryz.ntmps61
 go_wp2_with fail
 go_loopw [7,8] (fun v q wr=>∃ k:Nat,k<=i+1/\q=.int .i64 (k:Int)/\Ows wr w.heap.size v (vsTo l e k)/\Env wr g e/\Kept (fun b=>b=g) w wr) (fun _ q _=>i+1 - (intOf q).toNat)
 case atStart=>exact ⟨0,Nat.zero_le _,rfl,Ows.lit w _ (Nat.le_refl _),HE.out.kept (S:=fun _=>False) ((Kept.refl _ _).alloc _) (fun h=>h),(Kept.refl _ _).alloc _⟩
 case round =>
  obtain ⟨k,hk,rfl,ho,hE2,hK2⟩:=hrel
  have HE2:Hid (Env wr g e):=hE2
  have HK2:Hid (Kept (fun b=>b=g) w wr):=hK2
  have hBs:w.heap.size<=wr.heap.size:=hK2.size
  have HLN:Hid ((vsTo l e k).length=k):=vsTo_length l e k
  clear hE2 hK2
  by_cases hlt:k<=i
  ·have hkz:(k:Int)<=(i:Int):=by omega
   obtain ⟨av,cv,rfl,hwi⟩:=ho.form
   have HO:Hid (Ows wr w.heap.size (.slice av (vsTo l e k).length cv) (vsTo l e k)):=ho
   have HI:Hid (Ints wr av (vsTo l e k)):=hwi.ints
   rw [HLN.out] at HO ⊢
   clear ho hwi
   have HSU:Hid (vsTo l e (k+1)=vsTo l e k++[vT (tr l k) e]):=vsTo_succ l e k
   have HON:=IH.out k hlt
   have HONH:Hid (SOne l k):=HON
   clear HON
   go_wp2_with fail
   refine (HONH.out _ _ _ c g ce cv e (vsTo l e k) (HN0.out.kept HK2.out HAG.out) HAG.out he HE2.out HI.out HLN.out (fun j hj=>vsTo_wd l e hj)).mono ?_
   rintro x0 w2 ⟨rfl,hE3,hK3⟩
   have HE3:Hid (Env w2 g e):=hE3
   have HK3:Hid (Kept (fun b=>b=g) w w2):=HK2.out.trans hK3
   have HO3:Hid (Ows w2 w.heap.size (.slice av k cv) (vsTo l e k)):=HO.out.kept hK3 (fun b hb (e:b=g)=>by have:=(HO.out.lt b hb).1;omega)
   have hB3:w.heap.size<=w2.heap.size:=HK3.out.size
   clear hE3 hK3 HO HI HE2
   generalize vT (tr l k) e=x at HSU
   generalize vsTo l e k=L at HO3 HSU HLN
   have HLE:Hid (L.length<=1048576):=by
    show _<=_
    have:=HLN.out
    omega
   go_wp2_with (at_builtin;go_must (refine app_int _ rfl _ _ rfl w.heap.size (.slice av k cv) L x rfl rfl HO3.out hB3 HLE.out ?_;intro g5 cp5 w5 ho5 hk5 hg5;have HO5:Hid (Ows w5 w.heap.size (.slice (some ⟨g5,0,none⟩) (L.length+1) cp5) (L++[x])):=ho5;have HK5:Hid (Kept (fun b=>(Value.slice av k cv).ownBlock=some b) w2 w5):=hk5;clear ho5 hk5 hg5))
   go_roundw
   case rel =>
    refine ⟨k+1,by omega,by go_num,by rw [HSU.out];exact HO5.out,HE3.out.kept HK5.out (fun h=>by have:=(HO3.out.lt g h).1;omega),Kept.past HK3.out HK5.out (fun b h=>.inr (HO3.out.lt b h).1)⟩
   case measure=>simp [intOf];omega
  ·have hkz:¬ (k:Int)<=(i:Int):=by omega
   have hke:k=i+1:=by omega
   obtain ⟨g6,c6,hv6,hg6,hr6⟩:∃ g6 c6,u7=.slice (some ⟨g6,0,none⟩) (i+1) c6/\g6 < wr.heap.size/\wr.cell? ⟨g6,i,none⟩=some (.int .i64 (vT (tr l i) e)):=by
    obtain ⟨g6,c6,hv,_,hlt6,hrow⟩:=Rw1.row_ints ho (by rw [HLN.out];omega)
    rw [HLN.out,hke] at hv
    refine ⟨g6,c6,hv,hlt6,?_⟩
    have:=(hrow i (by rw [HLN.out];omega)).1
    rw [this]
    dsimp only
    rw [vsTo_wd l e (by omega)]
   subst hv6
   clear ho
   have hiz:(i:Int) < (i:Int)+1:=by omega
   go_wp2
   go_ret
   exact ⟨rfl,HE2.out,HK2.out⟩
theorem sAt {l:List Nd} (hT:termOk l=true):∀ i,i < l.length->SAt l i:=by
 intro i
 induction i using Nat.strongRecOn with
 | ind i ih =>
   intro hi
   have hl:=term_len hT
   have hD:=down_of hT
   have hN:∀ k,k < l.length->nodeOk l k=true:=fun k hk=>term_node hT hk
   refine at_of hi hl.2 (fun k hk=>?_)
   have hkl:k < l.length:=by omega
   by_cases h1:(nth l k).op=1
   ·exact one_var hD hN hkl hl.2 h1
   ·cases hq:quant (nth l k).op
    ·exact one_other hD hN hkl hl.2 h1 hq
    ·refine one_quant hD hN hkl hl.2 hq ?_
     have hq2:(nth l k).op=19\/(nth l k).op=20:=by simpa [quant] using hq
     have haa:=hD k hkl (nth l k).a (by rw [parts_one (by omega)];simp)
     exact ih _ (by omega) (by omega)
end Sv4
namespace Fm4
open Go.RowKit
open Nd0 Qa0 Pl1 Tm0 Tm1 Tm6 Tr0 Rw0 Rw1 Vl1 Vm0 Kp1 Fr0 Fr1 Fr4
open Fm1 (quAt)
open Sv4 (sAt)
open Wd1 (spow)
open Ws1 (ret_int ret_bool)
def hfB (q:List Qu) (l:List Nd):Bool:=frontOkB q l&&fewB q
def hfV (q:List Qu) (l:List Nd):Int:=if hfB q l then hf q (root l) (List.replicate 8 0) else 0
end Fm4
namespace Ff1
open Nd0 Qa0 Pl1 Tm0 Tm1 Tm5 Tm6 Tm8 Tm10 Tm11 Tr0 Vl1 Vl2 Fr0 Fr1 Fr2 Fr3 Fr4 Fr5 To0 To0t De0 Dh0 Dh1 Dh3 Ff0
theorem hold_ok {l:List Nd} (hS:sentB l=true) (hb:bitsL l<=8):Fm4.hfB (frontQ l) (frontR l)=true:=by
 obtain ⟨ws,hF⟩:=fs_of hS
 have hbl:=front_bits hS
 have hfe:=few_bit (q:=frontQ l) (fun i hi=>by rw [<- qth_get hi];exact rq_of (hF.rq _ (List.getElem_mem hi))) (by omega)
 unfold Fm4.hfB
 rw [front_ok hS,hfe];rfl
end Ff1
namespace Fb1
open Nd0 Qa0 Pl1 Tm0 Tm1 Tm3 Tm4 Tm5 Tm6 Tm8 Tm9 Tm10 Tm11 Tm12 Tm13 Tm14 Tr0 Vl1 Vl4 Fr0 Fr1 Fr2 Fr3 Fr4 Fr5 To0 To0t De0 Dh0 Ff0 Ff1 Fb0
open Vl5 (holdsL)
structure Fq (q:List Qu) (r:List Nd):Prop where
 term:termOk r=true
 wid:(nth r (r.length - 1)).w=1
 all:∀ i,i < r.length->flag (reachL r) i=true
 qf:∀ i,i < r.length->quant (nth r i).op=false
 rq:∀ j,j < q.length->Rq (qth q j)
 ap:∀ i j,i < j->j < q.length->(qth q i).vr≠(qth q j).vr
 var:∀ i,i < r.length->(nth r i).op=1->∃ j,j < q.length/\(qth q j).vr=(nth r i).k/\(qth q j).bits=(nth r i).w
theorem fq_of {l:List Nd} (hS:sentB l=true):Fq (frontQ l) (frontR l):=by
 obtain ⟨ws,hF⟩:=fs_of hS
 have hfo:=front_ok hS
 obtain ⟨hT,hw,us,hus,hbad⟩:=fo_of hfo
 have eR:frontR l=restL l:=by unfold frontR;rw [hS];rfl
 have hR:∀ i,i < (frontR l).length->flag (reachL (frontR l)) i=true:=by
  rw [eR]
  exact fun i hi=>prune_reach (cut_term hF.term) hi
 have hrq:∀ j,j < (frontQ l).length->Rq (qth (frontQ l) j):=fun j hj=>by rw [<- qth_get hj];exact rq_of (hF.rq _ (List.getElem_mem hj))
 have hap:∀ i j,i < j->j < (frontQ l).length->(qth (frontQ l) i).vr≠(qth (frontQ l) j).vr:=fun i j hij hj e=>by
  have h1:=List.pairwise_iff_getElem.1 hF.pair i j (by omega) hj hij
  rw [qth_get,qth_get] at h1
  exact h1 (by rw [e])
 have hq:∀ i,i < (frontR l).length->quant (nth (frontR l) i).op=false:=fun i hi=>by
  have h1:=hbad i hi
  unfold badF at h1
  cases h2:quant (nth (frontR l) i).op
  ·rfl
  ·rw [h2] at h1;simp at h1
 refine ⟨hT,hw,hR,hq,hrq,hap,fun i hi ho=>?_⟩
 have h1:=hbad i hi
 unfold badF at h1
 rw [hR i hi,hq i hi,ho] at h1
 have h2:wd us (nth (frontR l) i).k=(nth (frontR l) i).w:=by simpa using h1
 have hn:=term_node hT hi
 have hk:0<=(nth (frontR l) i).k/\(nth (frontR l) i).k<=7/\1<=(nth (frontR l) i).w:=⟨(shape_var hn (.inl ho)).1,(shape_var hn (.inl ho)).2,(node_width hn).1⟩
 obtain ⟨us',hu1,hu2⟩:=wq_some hrq (ap_pairs hF.pair) _ (Nat.le_refl _)
 rw [hus] at hu1
 cases hu1
 by_cases hj:∃ j,j < (frontQ l).length/\(qth (frontQ l) j).vr.toNat=(nth (frontR l) i).k.toNat
 ·obtain ⟨j,hj,he⟩:=hj
  have h3:=wq_ty _ _ (Nat.le_refl _) hus j hj
  have he':(qth (frontQ l) j).vr=(nth (frontR l) i).k:=by have:=h3.1;omega
  refine ⟨j,hj,he',?_⟩
  rw [h3.2.2.2.2,he',h2]
 ·exfalso
  have h3:=hu2 (nth (frontR l) i).k.toNat (by omega) (fun j hj' e=>hj ⟨j,hj',e⟩)
  rw [Int.toNat_of_nonneg hk.1,h2] at h3
  omega
theorem thr_self {r m:List Nd} (hT:termOk r=true) (hq:∀ i,i < r.length->quant (nth r i).op=false) (hlo:∀ i,i < r.length->nth m i=nth r i) (hlen:r.length<=m.length) (hD:Down m):thrTo m r.length=r:=by
 have hb:∀ i,i < r.length->bel m i=i:=fun i hi=>bel_other hD (by omega) (by rw [hlo i hi];exact hq i hi)
 refine Eq.trans ?_ (map_nth r)
 unfold thrTo
 apply List.map_congr_left
 intro i hi
 have hi':=List.mem_range.1 hi
 rw [hlo i hi']
 have hp:∀ p∈parts (nth r i),((bel m p.toNat:Nat):Int)=p:=fun p hp=>by
  have hd:=down_of hT i hi' p hp
  rw [hb _ (by omega)]
  omega
 unfold thrN
 rcases parts_cases (nth r i) with e|e|e|e
 ·rw [e];rfl
 ·rw [e] at hp ⊢
  have:=hp (nth r i).a (by simp)
  simp [this]
 ·rw [e] at hp ⊢
  have h1:=hp (nth r i).a (by simp)
  have h2:=hp (nth r i).b (by simp)
  simp [h1,h2]
 ·rw [e] at hp ⊢
  have h1:=hp (nth r i).a (by simp)
  have h2:=hp (nth r i).b (by simp)
  have h3:=hp (nth r i).c (by simp)
  simp [h1,h2,h3]
theorem prune_full {m:List Nd} (hM:termOk m=true) (h:∀ j,j < m.length->flag (reachL m) j=true):pruneL m=m:=by
 rw [prune_ok hM,prune_map,reachTo_full h _ (Nat.le_refl _),List.map_map]
 refine Eq.trans ?_ (map_nth m)
 apply List.map_congr_left
 intro i hi
 simp only [Function.comp,Int.toNat_natCast]
 exact remap_self hM h (List.mem_range.1 hi)
theorem back_all {q:List Qu} {r:List Nd} (h:Fq q r) (h80:r.length+q.length<=80) :
 sentB (backTo q r q.length)=true/\frontQ (backTo q r q.length)=q/\frontR (backTo q r q.length)=r:=by
 have hb:=bk_all h.term h.wid h.all h.qf (fun j hj=>h.rq j hj) h.ap h80 q.length (Nat.le_refl _)
 generalize backTo q r q.length=m at hb
 have hrl:=term_len h.term
 obtain ⟨ws,hws,hw1,hw2⟩:=hb.ws
 have hD:=down_of hb.term
 have hS:sentB m=true:=by
  refine sent_all hb.term hb.wid ?_ hws ?_ ⟨fun i hi hf hh=>?_,fun i hi hf hh=>?_⟩
  ·cases hfl:freeL m with
   | nil=>rfl
   | cons x t =>
     exfalso
     obtain ⟨h1,h2⟩:=hb.free x (by rw [hfl];exact List.mem_cons_self ..)
     obtain ⟨i,hi,ho,hk⟩:=free_why h.term h1
     obtain ⟨j,hj,hv,_⟩:=h.var i hi ho
     exact h2 j (by omega) hj (hv.trans hk)
  ·intro i hi hf ho
   by_cases hir:i < r.length
   ·rw [hb.lo i hir] at ho ⊢
    obtain ⟨j,hj,hv,hbt⟩:=h.var i hir ho
    rw [<- hv,hw1 j (by omega) hj,hbt]
   ·have h1:=(hb.hi i (by omega) hi).1
    rw [ho] at h1
    cases h1
  ·by_cases hir:i < r.length
   ·rw [hb.hold i hir] at hh;cases hh
   ·have h1:=(hb.hi i (by omega) hi).1
    unfold outer
    rw [h1];simp
  ·by_cases hir:i < r.length
   ·rw [hb.hold i hir] at hh;cases hh
   ·exact hb.use i (by omega) hi
 refine ⟨hS,?_,?_⟩
 ·unfold frontQ
  rw [hS,if_pos rfl,hb.wk,Nat.sub_self]
  rfl
 ·have hbel:∀ i,r.length - 1<=i->i < m.length->bel m i=r.length - 1:=by
   intro i
   induction i with
   | zero =>
     intro h1 h2
     rw [bel_other hD h2 (by rw [hb.lo 0 (by omega)];exact h.qf 0 (by omega))]
     omega
   | succ i ih =>
     intro h1 h2
     by_cases hir:i+1 < r.length
     ·rw [bel_other hD h2 (by rw [hb.lo _ hir];exact h.qf _ hir)]
      omega
     ·obtain ⟨h3,h4⟩:=hb.hi (i+1) (by omega) h2
      rw [bel_quant hD h2 h3]
      have h5:(nth m (i+1)).a=((i+1:Nat):Int) - 1:=by
       have h6:=parts_one (n:=nth m (i+1)) (by have:=h3;simp [quant] at this;omega)
       rw [h6] at h4
       simpa using h4
      rw [h5,show (((i+1:Nat):Int) - 1).toNat=i by omega]
      exact ih (by omega) (by omega)
  have hcut:cutL m=r:=by
   unfold cutL
   have hml:=hb.len
   rw [hbel (m.length - 1) (by omega) (by omega),show r.length - 1+1=r.length by omega]
   exact thr_self h.term h.qf hb.lo (by omega) hD
  unfold frontR
  rw [hS,if_pos rfl]
  unfold restL
  rw [hcut]
  exact prune_full h.term h.all
theorem hold_front {l:List Nd} (hS:sentB l=true) (hb:bitsL l<=8):holdsL l=some (Fm4.hfV (frontQ l) (frontR l)):=by
 have hB:=hold_ok hS hb
 have hB':=hB
 unfold Fm4.hfB at hB'
 obtain ⟨hfo,hfew⟩:=Bool.and_eq_true_iff.1 hB'
 rw [Dh2.said (by unfold toB;rw [hfo,hfew];rfl)]
 unfold Fm4.hfV
 rw [hB,if_pos rfl]
 obtain ⟨us,hFo⟩:=fo_all hfo
 have hv:=verdict hFo
 rw [<- hf_HF] at hv
 have h01:hf (frontQ l) (root (frontR l)) (List.replicate 8 0)=0\/hf (frontQ l) (root (frontR l)) (List.replicate 8 0)=1:=by
  cases hq:frontQ l with
  | nil=>exact ty_bit hFo.rt hFo.ty hFo.env hFo.wid
  | cons x q=>exact hf_bit _ _ _ _
 rw [rows_L hfew]
 congr 1
 rcases h01 with e|e
 ·rw [e,if_neg]
  intro hd
  have:=hv.1 hd
  rw [e] at this
  cases this
 ·rw [e,if_pos (hv.2 e)]
theorem front_first {l:List Nd} (hS:sentB l=true) (hb:bitsL l<=8):frontOkB (frontQ l) (frontR l)=true/\Fm4.hfB (frontQ l) (frontR l)=true/\holdsL l=some (Fm4.hfV (frontQ l) (frontR l))/\bitsL l=((rowsL (frontQ l)).length:Int):=by
 have hH:=hold_ok hS hb
 have hH':=hH
 unfold Fm4.hfB at hH'
 have hfew:=(Bool.and_eq_true_iff.1 hH').2
 have hfb:=front_bits hS
 exact ⟨front_ok hS,hH,hold_front hS hb,by rw [rows_len hfew];exact hfb.symm⟩
theorem front_back {l:List Nd} (hS:sentB l=true) (hb:bitsL l<=8) (hB:backB (frontQ l) (frontR l)=true):sentB (backL (frontQ l) (frontR l))=true/\frontQ (backL (frontQ l) (frontR l))=frontQ l/\frontR (backL (frontQ l) (frontR l))=frontR l/\holdsL (backL (frontQ l) (frontR l))=some (Fm4.hfV (frontQ l) (frontR l)):=by
 have h80:(frontR l).length+(frontQ l).length<=80:=by
  unfold backB at hB
  simpa using (Bool.and_eq_true_iff.1 hB).2
 have hm:backL (frontQ l) (frontR l)=backTo (frontQ l) (frontR l) (frontQ l).length:=by unfold backL;rw [hB,if_pos rfl]
 obtain ⟨h1,h2,h3⟩:=back_all (fq_of hS) h80
 rw [<- hm] at h1 h2 h3
 have hfb:=front_bits hS
 have hfm:=front_bits h1
 rw [h2] at hfm
 refine ⟨h1,h2,h3,?_⟩
 rw [hold_front h1 (by omega),h2,h3]
end Fb1
namespace Fm5
open Go.RowKit
open Nd0 Tm0 Tm1 Tm5 Tm6 Tm8 Fr2
open Sp7 (nodeAt_of)
open Sp10 (sQuant)
end Fm5
namespace Fm6
open Go.RowKit
open Nd0 Qa0 Qa2 Tm0 Tm1 Tm5 Tm6 Tm8 Tr0 Fr1 Fr5
open Sp7 (nodeAt_of)
end Fm6
namespace Ap14
open Go.RowKit
open Nd0 Qa0 Qa2 Fm6
end Ap14
namespace Fq0
open Nd0 Qa0 Pl1 Tm0 Tm1 Tm5 Tm6 Tm8 Tm10 Tm11 Tr0 Fr1 Fr2 Fr3 Fr5
def fq (l:List Nd) (i:Nat):List Qu:=wk (tr l i) false
theorem fq_bad {l:List Nd} (hT:termOk l=true) {i:Nat} (hi:i < l.length) (h:flag (holdTo l l.length) i=false):fq l i=[]:=wk_none hT hi h false
theorem fq_not {l:List Nd} (hT:termOk l=true) {i:Nat} (hi:i < l.length) (h:(nth l i).op=2):fq l i=(fq l (nth l i).a.toNat).map turnQ:=by
 unfold fq
 rw [wk_not hT hi h,wk_turn]
theorem fq_q {l:List Nd} (hT:termOk l=true) {i:Nat} (hi:i < l.length) (h:quant (nth l i).op=true):fq l i=⟨(nth l i).op==19,(nth l i).k,(nth l i).b⟩ :: fq l (nth l i).a.toNat:=by
 unfold fq
 rw [wk_q hT hi h]
 simp
theorem fq_two {l:List Nd} (hT:termOk l=true) {i:Nat} (hi:i < l.length) (h:(nth l i).op=3\/(nth l i).op=4):fq l i=fq l (nth l i).a.toNat++fq l (nth l i).b.toNat:=wk_two hT hi h false
theorem fq_none {l:List Nd} (hS:sentB l=true) {i:Nat} (hi:i < l.length) (hf:flag (reachL l) i=true) (h:¬ ((nth l i).op=2\/(nth l i).op=3\/(nth l i).op=4\/quant (nth l i).op=true)):fq l i=[]:=by
 cases hh:flag (holdTo l l.length) i
 ·exact fq_bad (sent_ok hS) hi hh
 ·exact absurd (hold_outer hS hi hf hh) h
theorem fq_len {l:List Nd} (hS:sentB l=true):∀ d i,i+d+1=l.length->flag (reachL l) i=true->(fq l i).length<=8:=by
 have hT:=sent_ok hS
 have hD:=down_of hT
 intro d
 induction d using Nat.strongRecOn with
 | ind d ih =>
   intro i hd hf
   rcases reach_why hD (by omega:i < l.length) hf with h|⟨j,h1,h2,h3,h4⟩
   ·have e:i=l.length - 1:=by omega
    subst e
    exact wk_len hS false
   ·have hj:=ih (l.length - 1 - j) (by omega) j (by omega) h3
    cases hh:flag (holdTo l l.length) i
    ·rw [fq_bad hT (by omega) hh];exact Nat.zero_le _
    ·have hhj:=hold_part hD h2 h4 (by rw [Int.toNat_natCast];exact hh)
     rcases hold_outer hS h2 h3 hhj with ho|ho|ho|ho
     ·rw [fq_not hT h2 ho,List.length_map] at hj
      rw [parts_one (by omega)] at h4
      have e:(nth l j).a.toNat=i:=by simp at h4;omega
      rw [e] at hj;exact hj
     ·rw [fq_two hT h2 (.inl ho),List.length_append] at hj
      rw [parts_two (by omega)] at h4
      have e:(nth l j).a.toNat=i\/(nth l j).b.toNat=i:=by
       simp at h4;omega
      rcases e with e|e<;>rw [e] at hj<;>omega
     ·rw [fq_two hT h2 (.inr ho),List.length_append] at hj
      rw [parts_two (by omega)] at h4
      have e:(nth l j).a.toNat=i\/(nth l j).b.toNat=i:=by
       simp at h4;omega
      rcases e with e|e<;>rw [e] at hj<;>omega
     ·rw [fq_q hT h2 ho,List.length_cons] at hj
      have hq2:(nth l j).op=19\/(nth l j).op=20:=by simpa [quant] using ho
      rw [parts_one (by omega)] at h4
      have e:(nth l j).a.toNat=i:=by simp at h4;omega
      rw [e] at hj;omega
theorem fq_le {l:List Nd} (hS:sentB l=true) {i:Nat} (hi:i < l.length) (hf:flag (reachL l) i=true):(fq l i).length<=8:=fq_len hS (l.length - 1 - i) i (by omega) hf
theorem fq_front {l:List Nd} (hS:sentB l=true):frontQ l=fq l (l.length - 1):=by
 unfold frontQ;rw [hS];rfl
end Fq0
namespace Qi0
open Go.RowKit
open Nd0 Qa0
def qv (x:Qu):Value:=.iface (if x.all then 104 else 105) (.agg #[.int .i64 x.vr,.int .i64 x.bits])
theorem iNewQ (al:Bool) (v b:Int) (w:World) :
 Calls Tryz.prog 42 #[.bool al,.int .i64 v,.int .i64 b] w fun e w'=>e=.returned (qv ⟨al,v,b⟩)/\w'=w:=by
 cases al
 all_goals
  go_enter Tryz.func42,Tryz.ntmps42
  go_wp2
  go_ret
  exact ⟨rfl,rfl⟩
theorem qv_all (v b:Int):qv ⟨true,v,b⟩=.iface 104 (.agg #[.int .i64 v,.int .i64 b]):=rfl
theorem qv_some (v b:Int):qv ⟨false,v,b⟩=.iface 105 (.agg #[.int .i64 v,.int .i64 b]):=rfl
theorem asksNo (v b:Int) (w:World):(Instr.typeAssert (.iface 105 (.agg #[.int .i64 v,.int .i64 b])) 51 104 true).run Tryz.prog w=.ok (.tuple #[.agg #[.int .i64 0,.int .i64 0],.bool false]) w:=by kernel_rfl
theorem asksYes (v b:Int) (w:World):(Instr.typeAssert (.iface 104 (.agg #[.int .i64 v,.int .i64 b])) 51 104 true).run Tryz.prog w=.ok (.tuple #[.agg #[.int .i64 v,.int .i64 b],.bool true]) w:=by kernel_rfl
theorem iOpOf (x:Qu) (w:World) :
 Calls Tryz.prog 45 #[qv x] w fun e w'=>e=.returned (.int .i64 (if x.all then 19 else 20))/\w'=w:=by
 obtain ⟨al,v,b⟩:=x
 cases al
 ·have hm:=asksNo v b
  rw [qv_some]
  go_enter Tryz.func45,Tryz.ntmps45
  go_wp2
  go_ret
  exact ⟨rfl,rfl⟩
 ·have hm:=asksYes v b
  rw [qv_all]
  go_enter Tryz.func45,Tryz.ntmps45
  go_wp2
  go_ret
  exact ⟨rfl,rfl⟩
theorem findAll (v b:Int) (w:World):(method 255 104 (.agg #[.int .i64 v,.int .i64 b]) "loop.example/g00116/impl.variable").run Tryz.prog w=.ok (168,.agg #[.int .i64 v,.int .i64 b]) w:=by kernel_rfl
theorem findSome (v b:Int) (w:World):(method 255 105 (.agg #[.int .i64 v,.int .i64 b]) "loop.example/g00116/impl.variable").run Tryz.prog w=.ok (171,.agg #[.int .i64 v,.int .i64 b]) w:=by kernel_rfl
theorem iVarAll (v b:Int) (w:World):Calls Tryz.prog 168 #[.agg #[.int .i64 v,.int .i64 b]] w fun e w'=>e=.returned (.tuple #[.int .i64 v,.int .i64 b])/\Below w.heap.size w w':=by
 go_enter Tryz.func168,Tryz.ntmps168
 go_wp2_with fail
 go_quiet (fail)
 go_wp2
 go_ret2
 exact ⟨rfl,Kp0.below_drewN ((Below.refl _ _).alloc (Nat.le_refl _) _) _⟩
theorem iVarSome (v b:Int) (w:World):Calls Tryz.prog 171 #[.agg #[.int .i64 v,.int .i64 b]] w fun e w'=>e=.returned (.tuple #[.int .i64 v,.int .i64 b])/\Below w.heap.size w w':=by
 go_enter Tryz.func171,Tryz.ntmps171
 go_wp2_with fail
 go_quiet (fail)
 go_wp2
 go_ret2
 exact ⟨rfl,Kp0.below_drewN ((Below.refl _ _).alloc (Nat.le_refl _) _) _⟩
theorem results_node {w:World} {g:Nat} {n:Nd} {tmps:Array Value} (hp:tmps.getD 4 undef=.pointer (some ⟨g,0,none⟩)) (h:NodeAt w g 0 n) :
 (results Tryz.f34 tmps).run Tryz.prog w=.ok (.agg #[.int .i64 n.op,.int .i64 n.w,.int .i64 n.k,.int .i64 n.a,.int .i64 n.b,.int .i64 n.c]) w:=by
 have hr:w.rangeAt g 0 [.int .i64 n.op,.int .i64 n.w,.int .i64 n.k,.int .i64 n.a,.int .i64 n.b,.int .i64 n.c]:=fun j v hv=>by
  rw [Nat.zero_add]
  have hj:j < 6:=by
   have:=(List.getElem?_eq_some_iff.1 hv).1
   simpa using this
  rcases (show j=0\/j=1\/j=2\/j=3\/j=4\/j=5 by omega) with h'|h'|h'|h'|h'|h'<;>subst h'
  ·rw [<- hv];exact h.c0
  ·rw [<- hv];exact h.c1
  ·rw [<- hv];exact h.c2
  ·rw [<- hv];exact h.c3
  ·rw [<- hv];exact h.c4
  ·rw [<- hv];exact h.c5
 have hl:=run_loadVar_mid (P:=Tryz.prog) w g 0 58 _ _ hr Tryz.underlying58 rfl rfl
 have hp':tmps[4]?.getD undef=.pointer (some ⟨g,0,none⟩):=by simpa using hp
 simp [results,hp',asAddr,hl]
theorem iNodeOf (x:Qu) (p:Int) (w:World) :
 Calls Tryz.prog 34 #[qv x,.int .i64 p] w fun e w'=>e=.returned (.agg #[.int .i64 (if x.all then 19 else 20),.int .i64 1,.int .i64 x.vr,.int .i64 p,.int .i64 x.bits,.int .i64 0])/\Below w.heap.size w w':=by
 obtain ⟨al,v,b⟩:=x
 obtain ⟨W,hW⟩:∃ W:World,W=w.alloc (.cells #[.int .i64 0,.int .i64 0,.int .i64 0,.int .i64 0,.int .i64 0,.int .i64 0] 58):=⟨_,rfl⟩
 obtain ⟨g,hg⟩:∃ g:Nat,g=w.heap.size:=⟨_,rfl⟩
 have HBW:Hid (Below w.heap.size w W):=by rw [hW];exact (Below.refl _ _).alloc (Nat.le_refl _) _
 have HNA:Hid (NodeAt W g 0 ⟨0,0,0,0,0,0⟩/\(∀ j,W.frozen? ⟨g,j,none⟩=false)/\g < W.heap.size):=by
  rw [hW,hg]
  exact ⟨⟨by rw [World.cell?_alloc_new];rfl,by rw [World.cell?_alloc_new];rfl,by rw [World.cell?_alloc_new];rfl,by rw [World.cell?_alloc_new];rfl,by rw [World.cell?_alloc_new];rfl,by rw [World.cell?_alloc_new];rfl⟩,fun j=>by simp,by simp⟩
 have HEND:Hid (∀ (w1:World) (n:Nd),Below W.heap.size W w1->Below w.heap.size w (setNode w1 g 0 n)):=fun w1 n h=>by
  have h1:=setNode_keptS (S:=fun b=>b=g) (b:=g) (p:=0) (n:=n) rfl (Kept.ofBelow h)
  exact HBW.out.trans (h1.below (fun b hb=>by have hb':b=g:=hb;omega) HBW.out.size)
 cases al
 ·have HO:Hid (∀ w,Calls Tryz.prog 45 #[.iface 105 (.agg #[.int .i64 v,.int .i64 b])] w fun e w'=>e=.returned (.int .i64 20)/\w'=w):=fun w=>iOpOf ⟨false,v,b⟩ w
  have hm:=findSome v b
  rw [qv_some]
  go_enter Tryz.func34,Tryz.ntmps34
  go_wp2_with fail
  rw [<- hW]
  refine (iVarSome v b W).mono ?_
  rintro e w1 ⟨rfl,hb1⟩
  have HB1:Hid (Below W.heap.size W w1):=hb1
  have hgw:g < w1.heap.size:=Nat.lt_of_lt_of_le HNA.out.2.2 hb1.size
  have HNX:Hid (NodeAt w1 g 0 ⟨0,0,0,0,0,0⟩):=HNA.out.1.below hb1 HNA.out.2.2
  obtain ⟨q0,q1,q2,q3,q4,q5⟩:=HNX.out
  simp only [Nat.zero_add] at q1 q2 q3 q4 q5
  have hf:∀ j,w1.frozen? ⟨g,j,none⟩=false:=fun j=>by rw [hb1.frozen HNA.out.2.2];exact HNA.out.2.1 j
  have f0:=hf 0
  have f1:=hf 1
  have f2:=hf 2
  have f3:=hf 3
  have f4:=hf 4
  have f5:=hf 5
  rw [<- hg]
  clear hb1 hW hm hf hg
  go_wp2_with (go_at_call 45;refine (HO.out _).mono ?_;rintro e w' ⟨rfl,hw'⟩;have hw'':=hw'.symm;clear hw';subst hw'')
  have HNN:=setNode_same (n:=⟨20,1,v,p,b,0⟩) HNX.out
  refine bodyPost_ret (v:=.agg #[.int .i64 20,.int .i64 1,.int .i64 v,.int .i64 p,.int .i64 b,.int .i64 0]) (results_node rfl HNN) rfl ⟨rfl,HEND.out _ ⟨20,1,v,p,b,0⟩ HB1.out⟩
 ·have HO:Hid (∀ w,Calls Tryz.prog 45 #[.iface 104 (.agg #[.int .i64 v,.int .i64 b])] w fun e w'=>e=.returned (.int .i64 19)/\w'=w):=fun w=>iOpOf ⟨true,v,b⟩ w
  have hm:=findAll v b
  rw [qv_all]
  go_enter Tryz.func34,Tryz.ntmps34
  go_wp2_with fail
  rw [<- hW]
  refine (iVarAll v b W).mono ?_
  rintro e w1 ⟨rfl,hb1⟩
  have HB1:Hid (Below W.heap.size W w1):=hb1
  have hgw:g < w1.heap.size:=Nat.lt_of_lt_of_le HNA.out.2.2 hb1.size
  have HNX:Hid (NodeAt w1 g 0 ⟨0,0,0,0,0,0⟩):=HNA.out.1.below hb1 HNA.out.2.2
  obtain ⟨q0,q1,q2,q3,q4,q5⟩:=HNX.out
  simp only [Nat.zero_add] at q1 q2 q3 q4 q5
  have hf:∀ j,w1.frozen? ⟨g,j,none⟩=false:=fun j=>by rw [hb1.frozen HNA.out.2.2];exact HNA.out.2.1 j
  have f0:=hf 0
  have f1:=hf 1
  have f2:=hf 2
  have f3:=hf 3
  have f4:=hf 4
  have f5:=hf 5
  rw [<- hg]
  clear hb1 hW hm hf hg
  go_wp2_with (go_at_call 45;refine (HO.out _).mono ?_;rintro e w' ⟨rfl,hw'⟩;have hw'':=hw'.symm;clear hw';subst hw'')
  have HNN:=setNode_same (n:=⟨19,1,v,p,b,0⟩) HNX.out
  refine bodyPost_ret (v:=.agg #[.int .i64 19,.int .i64 1,.int .i64 v,.int .i64 p,.int .i64 b,.int .i64 0]) (results_node rfl HNN) rfl ⟨rfl,HEND.out _ ⟨19,1,v,p,b,0⟩ HB1.out⟩
end Qi0
end Go.Proofs.YtebejleeadofcaaGreat
