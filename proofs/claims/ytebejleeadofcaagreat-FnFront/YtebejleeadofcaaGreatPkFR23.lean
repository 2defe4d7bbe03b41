import Derived.Test.YtebejleeadofcaaGreatPkFR21
import Derived.Test.YtebejleeadofcaaGreatPkFR22
import Derived.Test.YtebejleeadofcaaGreatPkFR3
import Derived.Test.YtebejleeadofcaaGreatPkFR17
namespace Go.Proofs.YtebejleeadofcaaGreat
set_option maxRecDepth 100000
set_option maxHeartbeats 8000000
set_option linter.unusedVariables false
namespace Dh1
open Nd0 Qa0 Pl1 Tm0 Tm1 Tm5 Tm6 Tm8 Tm10 Tm11 Tr0 Vl1 Vl2 Fr0 Fr1 Fr2 Fr3 Fr5 To0
theorem rch_head {l:List Nd} {i z:Nat} (h:Rch l i z):z=i\/∃ p∈parts (nth l i),Rch l p.toNat z:=by
 induction h with
 | refl=>exact .inl rfl
 | down h hp ih =>
   rcases ih with rfl|⟨p',hp',h'⟩
   ·exact .inr ⟨_,hp,.refl⟩
   ·exact .inr ⟨p',hp',.down h' hp⟩
theorem rch_root {l:List Nd} (hD:Down l):∀ d z,z+d+1=l.length->flag (reachL l) z=true->Rch l (l.length - 1) z:=by
 intro d
 induction d using Nat.strongRecOn with
 | _ d ih =>
   intro z hz hf
   rcases reach_why hD (by omega) hf with h|⟨j,h1,h2,h3,h4⟩
   ·have:z=l.length - 1:=by omega
    rw [<- this]
    exact .refl
   ·have:=ih (l.length - 1 - j) (by omega) j (by omega) h3
    have h5:=Rch.down this h4
    rw [Int.toNat_natCast] at h5
    exact h5
theorem in_wk {l:List Nd} (hS:sentB l=true) (hT:termOk l=true):∀ i,i < l.length->flag (reachL l) i=true->∀ z,Rch l i z->quant (nth l z).op=true->∀ u,∃ x∈wk (tr l i) u,x.vr=(nth l z).k/\x.bits=(nth l z).b:=by
 intro i
 induction i using Nat.strongRecOn with
 | _ i ih =>
   intro hi hf z hz hq u
   have hD:=down_of hT
   have hzl:z < l.length:=Nat.lt_of_le_of_lt (hz.le hD hi) hi
   rcases rch_head hz with rfl|⟨p,hp,hz'⟩
   ·rw [wk_q hT hi hq]
    exact ⟨_,List.mem_cons_self,rfl,rfl⟩
   ·have hpi:=hD i hi p hp
    have hp0:p.toNat < i:=by omega
    have hfp:=reach_closed hD hi hf hp
    have hh:flag (holdTo l l.length) i=true:=hz.hold hD hi (quant_hold hD hzl hq)
    have go:∀ u,∃ x∈wk (tr l p.toNat) u,x.vr=(nth l z).k/\x.bits=(nth l z).b:=fun u=>ih p.toNat hp0 (by omega) hfp z hz' hq u
    rcases hold_outer hS hi hf hh with h|h|h|h
    ·rw [wk_not hT hi h]
     have:p=(nth l i).a:=by rw [parts_one (.inl h)] at hp;simpa using hp
     rw [<- this]
     exact go _
    ·rw [wk_two hT hi (.inl h)]
     have:p=(nth l i).a\/p=(nth l i).b:=by rw [parts_two (by omega)] at hp;simpa using hp
     rcases this with e|e
     ·obtain ⟨x,hx,h9⟩:=go u
      exact ⟨x,List.mem_append.2 (.inl (e ▸ hx)),h9⟩
     ·obtain ⟨x,hx,h9⟩:=go u
      exact ⟨x,List.mem_append.2 (.inr (e ▸ hx)),h9⟩
    ·rw [wk_two hT hi (.inr h)]
     have:p=(nth l i).a\/p=(nth l i).b:=by rw [parts_two (by omega)] at hp;simpa using hp
     rcases this with e|e
     ·obtain ⟨x,hx,h9⟩:=go u
      exact ⟨x,List.mem_append.2 (.inl (e ▸ hx)),h9⟩
     ·obtain ⟨x,hx,h9⟩:=go u
      exact ⟨x,List.mem_append.2 (.inr (e ▸ hx)),h9⟩
    ·rw [wk_q hT hi h]
     have h2:(nth l i).op=19\/(nth l i).op=20:=by simpa [quant] using h
     have:p=(nth l i).a:=by rw [parts_one (by omega)] at hp;simpa using hp
     obtain ⟨x,hx,h9⟩:=go u
     exact ⟨x,List.mem_cons_of_mem _ (this ▸ hx),h9⟩
def sumP (P:Qu->Bool):List Qu->Nat
 | []=>0
 | x :: q=>(if P x then x.bits.toNat else 0)+sumP P q
theorem sum_le (P:Qu->Bool) (q:List Qu):sumP P q<=bitL q:=by
 induction q with
 | nil=>exact Nat.le_refl _
 | cons x q ih =>
   unfold sumP bitL
   split<;>omega
theorem sum_mono {P P':Qu->Bool} (h:∀ x,P x=true->P' x=true) (q:List Qu):sumP P q<=sumP P' q:=by
 induction q with
 | nil=>exact Nat.le_refl _
 | cons x q ih =>
   unfold sumP
   by_cases hx:P x=true
   ·rw [if_pos hx,if_pos (h x hx)];omega
   ·rw [if_neg hx]
    omega
theorem sum_more {P P':Qu->Bool} (h:∀ x,P x=true->P' x=true):∀ (q:List Qu) (y:Qu),y∈q->P y=false->P' y=true->sumP P q+y.bits.toNat<=sumP P' q:=by
 intro q
 induction q with
 | nil=>intro y hy;cases hy
 | cons x q ih =>
   intro y hy h0 h1
   have hm:=sum_mono h q
   unfold sumP
   rcases List.mem_cons.1 hy with rfl|hy
   ·rw [h0,h1]
    simp
    omega
   ·have:=ih y hy h0 h1
    by_cases hx:P x=true
    ·rw [if_pos hx,if_pos (h x hx)];omega
    ·rw [if_neg hx]
     omega
open Classical in
noncomputable def Pk (l:List Nd) (k:Nat) (x:Qu):Bool:=decide (∃ i,i < k/\RQ l i/\(nth l i).k=x.vr)
theorem pk_iff {l:List Nd} {k:Nat} {x:Qu}:Pk l k x=true↔∃ i,i < k/\RQ l i/\(nth l i).k=x.vr:=by unfold Pk;simp
theorem bits_front {l:List Nd} (hS:sentB l=true):bitsTo l l.length<=(bitL (wk (root l) false):Int):=by
 obtain ⟨ws,hq,hr,hw,hty,hsc⟩:=sent_tree hS
 have hT:=sent_ok hS
 have h1:=term_len hT
 have hqw:=(quants_widths hT l.length (Nat.le_refl _) ws hq).2
 have key:∀ k,k<=l.length->bitsTo l k<=(sumP (Pk l k) (wk (root l) false):Int):=by
  intro k
  induction k with
  | zero=>intro _;exact Int.natCast_nonneg _
  | succ k ih =>
    intro hk
    have hmono:∀ x,Pk l k x=true->Pk l (k+1) x=true:=fun x hx=>by
     obtain ⟨i,hi,h9⟩:=pk_iff.1 hx
     exact pk_iff.2 ⟨i,by omega,h9⟩
    show (if flag (reachL l) k&&quant (nth l k).op then bitsTo l k+(nth l k).b else bitsTo l k)<=_
    by_cases hc:(flag (reachL l) k&&quant (nth l k).op)=true
    ·rw [if_pos hc]
     obtain ⟨hf,hqk⟩:=Bool.and_eq_true_iff.1 hc
     obtain ⟨x,hx,hv,hb⟩:=in_wk hS hT (l.length - 1) (by omega) (reach_root h1.1) k (rch_root (down_of hT) (l.length - 1 - k) k (by omega) hf) hqk false
     have hno:Pk l k x=false:=by
      refine Bool.eq_false_iff.2 fun hp=>?_
      obtain ⟨i,hi,hRQ,he⟩:=pk_iff.1 hp
      exact hqw i k hi (by omega) hRQ ⟨hf,hqk⟩ (he.trans hv)
     have hyes:Pk l (k+1) x=true:=pk_iff.2 ⟨k,by omega,⟨hf,hqk⟩,hv.symm⟩
     have h2:=sum_more hmono (wk (root l) false) x hx hno hyes
     have h3:=ih (by omega)
     have h4:(x.bits.toNat:Int)=(nth l k).b:=by
      have:=(wk_ty (root l) false hr hty x hx).2.2.1
      rw [<- hb]
      omega
     omega
    ·rw [if_neg hc]
     have h2:=sum_mono hmono (wk (root l) false)
     have h3:=ih (by omega)
     omega
 have h5:=key l.length (Nat.le_refl _)
 have h6:=sum_le (Pk l l.length) (wk (root l) false)
 omega
end Dh1
namespace To0t
open Go.RowKit
open Nd0 Qa0 Fr0 To0
def toB (q:List Qu) (l:List Nd):Bool:=fewB q&&frontOkB q l
end To0t
namespace Dh2
open Nd0 Qa0 Pl1 Tm0 Tm1 Tm5 Tm6 Tm8 Tm10 Tm11 Tr0 Vl1 Vl2 Fr0 Fr1 Fr2 Fr3 Fr4 Fr5 To0 To0t De0 Dh0 Dh1
open Vl5 (holdsL)
theorem quants_bound {l:List Nd} (hT:termOk l=true):∀ k,k<=l.length->∀ ws,quantsTo l k=some ws->∀ v:Nat,v < 8->0<=wd ws (v:Int)/\wd ws (v:Int)<=8:=by
 intro k
 induction k with
 | zero =>
   intro _ ws h v hv
   cases h
   rw [wdz v]
   omega
 | succ k ih =>
   intro hk ws h
   cases hq:quantsTo l k with
   | none=>rw [quants_none hq (k+1) (by omega)] at h;cases h
   | some us =>
     rw [quants_succ hq] at h
     have h1:=ih (by omega) us hq
     unfold qStep at h
     by_cases hc:(flag (reachL l) k&&quant (nth l k).op)=true
     ·rw [if_pos hc] at h
      simp only [Bool.and_eq_true] at hc
      by_cases h0:wd us (nth l k).k=0
      ·rw [if_pos h0] at h
       cases h
       have hlen:=quants_len hq
       have hkk:=shape_var (term_node hT (by omega:k < l.length)) (.inr hc.2)
       have hb:=quant_b (term_node hT (by omega:k < l.length)) hc.2
       intro v hv
       by_cases e:(nth l k).k.toNat=v
       ·have e2:(v:Int)=(nth l k).k:=by omega
        rw [e2,Fr3.wd_set_same (by omega)]
        omega
       ·rw [Fr3.wd_set_ne (by omega)]
        exact h1 v hv
      ·rw [if_neg h0] at h;cases h
     ·rw [if_neg hc] at h
      cases h
      exact h1
theorem said {l:List Nd} (h:toB (frontQ l) (frontR l)=true):holdsL l=some (if dc (rowsL (frontQ l)) (atL (frontQ l) (frontR l))=true then 1 else 0):=by
 unfold toB at h
 obtain ⟨hfew,hfo⟩:=Bool.and_eq_true_iff.1 h
 cases hS:sentB l with
 | false =>
   have e:frontR l=[]:=by unfold frontR;rw [hS];rfl
   rw [e] at hfo
   have:=(fo_of hfo).1
   have:=term_len this
   simp at this
 | true =>
   have eQ:frontQ l=wk (root l) false:=by unfold frontQ;rw [hS];rfl
   have eR:frontR l=restL l:=by unfold frontR;rw [hS];rfl
   have hT:=sent_ok hS
   obtain ⟨ws,hq,hr,hw,hty,hsc⟩:=sent_tree hS
   have hz:=env_zero ws (quants_bound hT l.length (Nat.le_refl _) ws hq)
   obtain ⟨ws',hF⟩:=fo_all hfo
   have hv:=verdict hF
   have hp:=prenex (root l) [] hr hw hty hsc (fun s hs=>by cases hs) (List.replicate 8 0) hz
   have hbits:bitsTo l l.length<=12:=by
    have h1:=bits_front hS
    obtain ⟨n,hn1,hn2⟩:=few_of hfew
    have h2:=bit_all hn1
    rw [eQ] at h2
    omega
   have hrr:root (frontR l)=str (root l):=by rw [eR];exact rest_root hT
   have hfit:fitT (root l) (List.replicate 8 0)=true:=by
    obtain ⟨r,hr1,hr2⟩:=need_ty (root l) hr hty
    unfold fitT
    rw [hr1]
    exact fit_iff.2 (fits_ty hr2 hz)
   have hval:valueL l (List.replicate 8 0)=some (vT (root l) (List.replicate 8 0)):=Vl3.value_parts.2 ⟨hT,by simp,hbits,hfit,rfl⟩
   unfold holdsL
   rw [hS,if_pos rfl,hval,rows_L hfew]
   congr 1
   rw [hrr] at hv
   rw [<- eQ] at hp
   rcases ty_bit hr hty hz hw with e|e
   ·rw [e,if_neg]
    intro hd
    have:=hp.2 (hv.1 hd)
    rw [e] at this
    cases this
   ·rw [e,if_pos (hv.2 (hp.1 e))]
end Dh2
namespace Dh3
open Nd0 Qa0 Pl1 Tm0 Tm1 Tm5 Tm6 Tm8 Tm10 Tm11 Tr0 Vl1 Vl2 Fr0 Fr1 Fr2 Fr3 Fr4 Fr5 To0 To0t De0 Dh0 Dh1
theorem wk_in {l:List Nd} (hS:sentB l=true) (hT:termOk l=true):∀ i,i < l.length->flag (reachL l) i=true->∀ (u:Bool) (x:Qu),x∈wk (tr l i) u->∃ z,z < l.length/\RQ l z/\(nth l z).k=x.vr:=by
 intro i
 induction i using Nat.strongRecOn with
 | _ i ih =>
   intro hi hf u x hx
   have hD:=down_of hT
   cases hh:flag (holdTo l l.length) i with
   | false=>rw [wk_none hT hi hh] at hx;cases hx
   | true =>
     have go:∀ p∈parts (nth l i),∀ u,x∈wk (tr l p.toNat) u->∃ z,z < l.length/\RQ l z/\(nth l z).k=x.vr:=fun p hp u h=>by
      have hpi:=hD i hi p hp
      exact ih p.toNat (by omega) (by omega) (reach_closed hD hi hf hp) u x h
     rcases hold_outer hS hi hf hh with h|h|h|h
     ·rw [wk_not hT hi h] at hx
      exact go _ (by rw [parts_one (.inl h)];simp) _ hx
     ·rw [wk_two hT hi (.inl h)] at hx
      rcases List.mem_append.1 hx with hx|hx
      ·exact go _ (by rw [parts_two (by omega)];simp) _ hx
      ·exact go _ (by rw [parts_two (by omega)];simp) _ hx
     ·rw [wk_two hT hi (.inr h)] at hx
      rcases List.mem_append.1 hx with hx|hx
      ·exact go _ (by rw [parts_two (by omega)];simp) _ hx
      ·exact go _ (by rw [parts_two (by omega)];simp) _ hx
     ·rw [wk_q hT hi h] at hx
      rcases List.mem_cons.1 hx with rfl|hx
      ·exact ⟨i,hi,⟨hf,h⟩,rfl⟩
      ·have h2:(nth l i).op=19\/(nth l i).op=20:=by simpa [quant] using h
       exact go _ (by rw [parts_one (by omega)];simp) _ hx
theorem sum_same {P P':Qu->Bool}:∀ (q:List Qu),(∀ x∈q,P' x=true->P x=true)->sumP P' q<=sumP P q:=by
 intro q
 induction q with
 | nil=>intro _;exact Nat.le_refl _
 | cons x q ih =>
   intro h
   have h1:=ih fun y hy=>h y (List.mem_cons_of_mem _ hy)
   unfold sumP
   by_cases hx:P' x=true
   ·rw [if_pos hx,if_pos (h x List.mem_cons_self hx)];omega
   ·rw [if_neg hx];omega
theorem sum_once {P P':Qu->Bool} {v:Int} {b:Nat}:∀ (q:List Qu),q.Pairwise (fun x y=>x.vr≠y.vr)->(∀ x∈q,P' x=true->P x=true\/x.vr=v)->(∀ x∈q,x.vr=v->x.bits.toNat<=b)->sumP P' q<=sumP P q+b:=by
 intro q
 induction q with
 | nil=>intro _ _ _;exact Nat.zero_le _
 | cons x q ih =>
   intro hp h hb
   obtain ⟨hp1,hp2⟩:=List.pairwise_cons.1 hp
   by_cases hv:x.vr=v
   ·have h1:=sum_same (P:=P) (P':=P') q fun y hy hy1=>by
     rcases h y (List.mem_cons_of_mem _ hy) hy1 with h9|h9
     ·exact h9
     ·exact absurd (hv.trans h9.symm) (hp1 y hy)
    have h2:=hb x List.mem_cons_self hv
    unfold sumP
    split<;>split<;>omega
   ·have h1:=ih hp2 (fun y hy=>h y (List.mem_cons_of_mem _ hy)) (fun y hy=>hb y (List.mem_cons_of_mem _ hy))
    unfold sumP
    by_cases hx:P' x=true
    ·rcases h x List.mem_cons_self hx with h9|h9
     ·rw [if_pos hx,if_pos h9];omega
     ·exact absurd h9 hv
    ·rw [if_neg hx];omega
theorem sum_all {P:Qu->Bool}:∀ (q:List Qu),(∀ x∈q,P x=true)->sumP P q=bitL q:=by
 intro q
 induction q with
 | nil=>intro _;rfl
 | cons x q ih =>
   intro h
   unfold sumP bitL
   rw [if_pos (h x List.mem_cons_self),ih fun y hy=>h y (List.mem_cons_of_mem _ hy)]
theorem ap_pair {q:List Qu} (h:Ap q):q.Pairwise (fun x y=>x.vr≠y.vr):=by
 refine List.pairwise_iff_getElem.2 fun i j hi hj hij e=>?_
 refine h i j hij hj ?_
 rw [<- qth_get hi,<- qth_get hj,e]
theorem bits_back {l:List Nd} (hS:sentB l=true) (hA:Ap (wk (root l) false)):(bitL (wk (root l) false):Int)<=bitsTo l l.length:=by
 obtain ⟨ws,hq,hr,hw,hty,hsc⟩:=sent_tree hS
 have hT:=sent_ok hS
 have h1:=term_len hT
 have hP:=ap_pair hA
 have key:∀ k,k<=l.length->(sumP (Pk l k) (wk (root l) false):Int)<=bitsTo l k:=by
  intro k
  induction k with
  | zero =>
    intro _
    have:sumP (Pk l 0) (wk (root l) false)=0:=by
     have h0:∀ q:List Qu,sumP (Pk l 0) q=0:=fun q=>by
      induction q with
      | nil=>rfl
      | cons x q ih =>
        unfold sumP
        rw [ih,if_neg]
        intro hx
        obtain ⟨i,hi,_⟩:=pk_iff.1 hx
        omega
     exact h0 _
    rw [this]
    exact Int.le_refl _
  | succ k ih =>
    intro hk
    show _<=(if flag (reachL l) k&&quant (nth l k).op then bitsTo l k+(nth l k).b else bitsTo l k)
    have h3:=ih (by omega)
    by_cases hc:(flag (reachL l) k&&quant (nth l k).op)=true
    ·rw [if_pos hc]
     obtain ⟨hf,hqk⟩:=Bool.and_eq_true_iff.1 hc
     obtain ⟨x,hx,hv,hb⟩:=in_wk hS hT (l.length - 1) (by omega) (reach_root h1.1) k (rch_root (down_of hT) (l.length - 1 - k) k (by omega) hf) hqk false
     have h4:(x.bits.toNat:Int)=(nth l k).b:=by
      have:=(wk_ty (root l) false hr hty x hx).2.2.1
      rw [<- hb]
      omega
     have h2:=sum_once (P:=Pk l k) (P':=Pk l (k+1)) (v:=(nth l k).k) (b:=x.bits.toNat) (wk (root l) false) hP (fun y hy hy1=>by
      obtain ⟨i,hi,hRQ,he⟩:=pk_iff.1 hy1
      by_cases e:i=k
      ·exact .inr (by rw [<- he,e])
      ·exact .inl (pk_iff.2 ⟨i,by omega,hRQ,he⟩)) (fun y hy e=>by
      obtain ⟨i,hi,rfl⟩:=List.mem_iff_getElem.1 hx
      obtain ⟨j,hj,rfl⟩:=List.mem_iff_getElem.1 hy
      rcases Nat.lt_trichotomy i j with h9|rfl|h9
      ·exact absurd (hv.trans e.symm) (List.pairwise_iff_getElem.1 hP i j hi hj h9)
      ·exact Nat.le_refl _
      ·exact absurd (e.trans hv.symm) (List.pairwise_iff_getElem.1 hP j i hj hi h9))
     omega
    ·rw [if_neg hc]
     have h2:=sum_same (P:=Pk l k) (P':=Pk l (k+1)) (wk (root l) false) fun y hy hy1=>by
      obtain ⟨i,hi,hRQ,he⟩:=pk_iff.1 hy1
      by_cases e:i=k
      ·exact absurd (Bool.and_eq_true_iff.2 (e ▸ hRQ)) hc
      ·exact pk_iff.2 ⟨i,by omega,hRQ,he⟩
     omega
 have h5:=key l.length (Nat.le_refl _)
 have h6:=sum_all (P:=Pk l l.length) (wk (root l) false) fun x hx=>by
  obtain ⟨z,hz,hRQ,he⟩:=wk_in hS hT (l.length - 1) (by omega) (reach_root h1.1) false x hx
  exact pk_iff.2 ⟨z,hz,hRQ,he⟩
 rw [h6] at h5
 exact h5
end Dh3
namespace Ff0
open Nd0 Qa0 Pl1 Tm0 Tm1 Tm5 Tm6 Tm8 Tm10 Tm11 Tr0 Vl1 Vl2 Fr0 Fr1 Fr2 Fr3 Fr4 Fr5 To0 To0t De0 Dh0 Dh1 Dh3
def Rq (x:Qu):Prop:=0<=x.vr/\x.vr<=7/\1<=x.bits/\x.bits<=8
theorem rq_of {ws:List Int} {x:Qu} (h:TyQ ws x):Rq x:=⟨h.1,h.2.1,h.2.2.1,h.2.2.2.1⟩
theorem wd_off {us:List Int} {x:Qu} (h8:us.length=8) {v:Nat} (h:x.vr.toNat≠v):wd (us.set x.vr.toNat x.bits) (v:Int)=wd us (v:Int):=by
 unfold wd
 rw [Int.toNat_natCast]
 simp [List.getD,List.getElem?_set_ne h]
theorem wq_some {q:List Qu} (hT:∀ i,i < q.length->Rq (qth q i)) (hA:Ap q):∀ k,k<=q.length->∃ us,wqTo q k=some us/\∀ v:Nat,v < 8->(∀ i,i < k->(qth q i).vr.toNat≠v)->wd us (v:Int)=0:=by
 intro k
 induction k with
 | zero =>
   intro _
   exact ⟨_,rfl,fun v hv _=>Tm14.wd_zeros 8 _⟩
 | succ k ih =>
   intro hk
   obtain ⟨us,hu,h0⟩:=ih (by omega)
   obtain ⟨r1,r2,r3,r4⟩:=hT k (by omega)
   have h8:=wq_len us hu
   have hz:wd us (qth q k).vr=0:=by
    have h1:=h0 (qth q k).vr.toNat (by omega) (fun i hi=>hA i k hi (by omega))
    rw [Int.toNat_of_nonneg r1] at h1
    exact h1
   refine ⟨us.set (qth q k).vr.toNat (qth q k).bits,?_,fun v hv hn=>?_⟩
   ·rw [wq_succ hu]
    unfold wqStep
    rw [if_pos ⟨r1,r2,r3,r4,hz⟩]
   ·rw [wd_off h8 (hn k (by omega))]
    exact h0 v hv fun i hi=>hn i (by omega)
theorem bq_some {q:List Qu} (hT:∀ i,i < q.length->Rq (qth q i)):∀ k,k<=q.length->∃ n,bqTo q k=some n:=by
 intro k
 induction k with
 | zero=>intro _;exact ⟨0,rfl⟩
 | succ k ih =>
   intro hk
   obtain ⟨n,hn⟩:=ih (by omega)
   obtain ⟨r1,r2,r3,r4⟩:=hT k (by omega)
   exact ⟨_,bq_succ hn ⟨r3,r4⟩⟩
theorem few_bit {q:List Qu} (hT:∀ i,i < q.length->Rq (qth q i)) (h:bitL q<=12):fewB q=true:=by
 obtain ⟨n,hn⟩:=bq_some hT q.length (Nat.le_refl _)
 have:=bit_all hn
 exact few_yes hn (by omega)
theorem ap_pairs {q:List Qu} (h:q.Pairwise (fun x y=>x.vr.toNat≠y.vr.toNat)):Ap q:=by
 rw [List.pairwise_iff_getElem] at h
 intro i k hi hk
 have:=h i k (by omega) hk hi
 rw [qth_get (by omega),qth_get hk] at this
 exact this
theorem str_qf:∀ t:Tr,Qf (str t):=by
 intro t
 induction t with
 | leaf op w k=>exact trivial
 | one op w k b x ih =>
   simp only [str]
   split
   ·exact ih
   ·rename_i h
    exact ⟨by simpa using h,ih⟩
 | two op w x y ih1 ih2=>exact ⟨ih1,ih2⟩
 | three op w x y z ih1 ih2 ih3=>exact ⟨ih1,ih2,ih3⟩
theorem str_us {ws us:List Int}:∀ (t:Tr) (S:List Int),Sc S t->Ty ws t->(∀ v,v∈S\/v∈bv t->wd us v=wd ws v)->Ty us (str t):=by
 intro t
 induction t with
 | leaf op w k =>
   intro S hS hT hv h1
   rw [hv k (.inl (hS h1))]
   exact hT h1
 | one op w k b x ih =>
   intro S hS hT hv
   simp only [Sc] at hS
   simp only [str]
   by_cases h2:op=2
   ·subst h2
    rw [if_pos rfl] at hS
    rw [bv_not] at hv
    rw [if_neg (by decide)]
    exact ⟨ih S hS hT.1 hv,fun h=>absurd h (by decide)⟩
   ·rw [if_neg h2] at hS
    by_cases hq:quant op=true
    ·rw [if_pos hq] at hS ⊢
     rw [bv_quant hq] at hv
     refine ih (k :: S) hS.2 hT.1 fun v h=>hv v ?_
     rcases h with h|h
     ·rcases List.mem_cons.1 h with rfl|h
      ·exact .inr List.mem_cons_self
      ·exact .inl h
     ·exact .inr (List.mem_cons_of_mem _ h)
    ·rw [if_neg hq] at hS ⊢
     refine ⟨ih S hS.2 hT.1 fun v h=>hv v ?_,fun h=>absurd h hq⟩
     rcases h with h|h
     ·exact .inl h
     ·rw [bv_qf hS.1] at h;cases h
 | two op w x y ih1 ih2 =>
   intro S hS hT hv
   have hx:∀ v,v∈bv x->v∈bv (.two op w x y):=fun v h=>by
    by_cases hc:op=3\/op=4
    ·rw [bv_two hc];exact List.mem_append_left _ h
    ·have:=hS.2.2
     rw [if_neg hc] at this
     rw [bv_qf this.1] at h;cases h
   have hy:∀ v,v∈bv y->v∈bv (.two op w x y):=fun v h=>by
    by_cases hc:op=3\/op=4
    ·rw [bv_two hc];exact List.mem_append_right _ h
    ·have:=hS.2.2
     rw [if_neg hc] at this
     rw [bv_qf this.2] at h;cases h
   exact ⟨ih1 S hS.1 hT.1 fun v h=>hv v (h.elim .inl fun h=>.inr (hx v h)),ih2 S hS.2.1 hT.2 fun v h=>hv v (h.elim .inl fun h=>.inr (hy v h))⟩
 | three op w x y z ih1 ih2 ih3 =>
   intro S hS hT hv
   obtain ⟨s1,s2,s3,q1,q2,q3⟩:=hS
   refine ⟨ih1 S s1 hT.1 fun v h=>hv v ?_,ih2 S s2 hT.2.1 fun v h=>hv v ?_,ih3 S s3 hT.2.2 fun v h=>hv v ?_⟩
   ·exact h.elim .inl fun h=>by rw [bv_qf q1] at h;cases h
   ·exact h.elim .inl fun h=>by rw [bv_qf q2] at h;cases h
   ·exact h.elim .inl fun h=>by rw [bv_qf q3] at h;cases h
theorem all_down {l:List Nd} (hD:Down l) (P:Tr->Prop) (hP:∀ n f,P (mkF n f)->∀ p∈parts n,P (f p.toNat)) (hr:P (root l)):∀ d i,i+d+1=l.length->flag (reachL l) i=true->P (tr l i):=by
 intro d
 induction d using Nat.strongRecOn with
 | ind d ih =>
   intro i hi hf
   rcases reach_why hD (by omega) hf with h|⟨j,hj1,hj2,hj3,hj4⟩
   ·have:i=l.length - 1:=by omega
    rw [this];exact hr
   ·have h1:=ih (l.length - 1 - j) (by omega) j (by omega) hj3
    rw [tr_at hD hj2] at h1
    have:=hP _ _ h1 _ hj4
    rwa [Int.toNat_natCast] at this
theorem qt_down (us:List Int) (n:Nd) (f:Nat->Tr) (h:Qf (mkF n f)/\Ty us (mkF n f)):∀ p∈parts n,Qf (f p.toNat)/\Ty us (f p.toNat):=by
 intro p hp
 by_cases h1:n.op=2\/n.op=17\/n.op=19\/n.op=20
 ·rw [mk_one h1] at h
  rw [parts_one h1] at hp
  simp at hp
  subst hp
  exact ⟨h.1.2,h.2.1⟩
 ·by_cases h2:3<=n.op/\n.op<=16
  ·rw [mk_two h2] at h
   rw [parts_two h2] at hp
   simp at hp
   rcases hp with rfl|rfl
   ·exact ⟨h.1.1,h.2.1⟩
   ·exact ⟨h.1.2,h.2.2⟩
  ·by_cases h3:n.op=18
   ·rw [mk_three h3] at h
    rw [parts_three h3] at hp
    simp at hp
    rcases hp with rfl|rfl|rfl
    ·exact ⟨h.1.1,h.2.1⟩
    ·exact ⟨h.1.2.1,h.2.2.1⟩
    ·exact ⟨h.1.2.2,h.2.2.2⟩
   ·have h0:parts n=[]:=by
     rcases Tm3.parts_cases n with h|h|h|h
     ·exact h
     all_goals (exfalso;unfold parts at h;simp only [h1,h2,h3,if_false] at h;cases h)
    rw [h0] at hp;cases hp
theorem no_bad {r:List Nd} {us:List Int} (hT:termOk r=true) (hR:∀ j,j < r.length->flag (reachL r) j=true) (h:Qf (root r)/\Ty us (root r)):∀ i,i < r.length->badF r us i=false:=by
 intro i hi
 have hD:=down_of hT
 have h1:=all_down hD (fun t=>Qf t/\Ty us t) (qt_down us) h (r.length - 1 - i) i (by omega) (hR i hi)
 rw [tr_at hD hi] at h1
 unfold badF
 rw [Bool.or_eq_false_iff]
 constructor
 ·by_cases hq:quant (nth r i).op=true
  ·have hq2:(nth r i).op=19\/(nth r i).op=20:=by simpa [quant] using hq
   rw [mk_one (by omega)] at h1
   exact h1.1.1
  ·simpa using hq
 ·by_cases h4:(nth r i).op=1
  ·rw [mk_leaf (by omega) (by omega) (by omega)] at h1
   have:=h1.2 h4
   rw [this]
   simp
  ·simp [h4]
structure Fs (l:List Nd) (ws:List Int):Prop where
 term:termOk l=true
 rt:Rt (root l)
 wid:(root l).wid=1
 ty:Ty ws (root l)
 sc:Sc [] (root l)
 rest:root (frontR l)=str (root l)
 eq:frontQ l=wk (root l) false
 rq:∀ x∈frontQ l,TyQ ws x
 pair:(frontQ l).Pairwise (fun x y=>x.vr.toNat≠y.vr.toNat)
theorem fs_of {l:List Nd} (hS:sentB l=true):∃ ws,Fs l ws:=by
 obtain ⟨ws,hq,hr,hw,hty,hsc⟩:=sent_tree hS
 have hT:=sent_ok hS
 have eQ:frontQ l=wk (root l) false:=by unfold frontQ;rw [hS];rfl
 have eR:frontR l=restL l:=by unfold frontR;rw [hS];rfl
 have hrq:∀ x∈frontQ l,TyQ ws x:=by rw [eQ];exact wk_ty (root l) false hr hty
 refine ⟨ws,hT,hr,hw,hty,hsc,by rw [eR];exact rest_root hT,eQ,hrq,?_⟩
 have h1:=(sc_nodup _ _ hsc).1
 unfold bv List.Nodup at h1
 rw [<- eQ,List.pairwise_map] at h1
 refine List.Pairwise.imp_of_mem (fun {x y} hx hy hne e=>hne ?_) h1
 have h2:=(hrq x hx).1
 have h3:=(hrq y hy).1
 omega
theorem front_more {l:List Nd} (hS:sentB l=true) {p:List Qu} (hp:∀ x∈p,Rq x) (hA:p.Pairwise (fun x y=>x.vr.toNat≠y.vr.toNat)) (hq:∀ x∈frontQ l,x∈p):frontOkB p (frontR l)=true:=by
 obtain ⟨ws,hF⟩:=fs_of hS
 have eR:frontR l=restL l:=by unfold frontR;rw [hS];rfl
 have hTc:=cut_term hF.term
 have hTr:termOk (frontR l)=true:=by rw [eR];exact Tm13.prune_term hTc
 have hrp:∀ i,i < p.length->Rq (qth p i):=fun i hi=>by rw [<- qth_get hi];exact hp _ (List.getElem_mem hi)
 have hAp:=ap_pairs hA
 obtain ⟨us,hu,_⟩:=wq_some hrp hAp p.length (Nat.le_refl _)
 have hlen:=term_len hTr
 have hrt:=rt_all (down_of hTr) (fun k hk=>term_node hTr hk) ((frontR l).length - 1) (by omega)
 refine fo_yes hTr ?_ hu (no_bad hTr (by rw [eR];exact fun j hj=>Tm13.prune_reach hTc hj) ?_)
 ·have h1:(root (frontR l)).wid=1:=by rw [hF.rest,str_wid _ hF.rt];exact hF.wid
  exact hrt.2.symm.trans h1
 ·rw [hF.rest]
  refine ⟨str_qf _,str_us (root l) [] hF.sc hF.ty fun v hv=>?_⟩
  rcases hv with hv|hv
  ·cases hv
  ·obtain ⟨x,hx,rfl⟩:=List.mem_map.1 hv
   rw [<- hF.eq] at hx
   have h2:=(hF.rq x hx).2.2.2.2
   obtain ⟨i,hi,he⟩:=List.mem_iff_getElem.1 (hq x hx)
   have h3:=(wq_ty _ _ (Nat.le_refl _) hu i hi).2.2.2.2
   rw [<- qth_get hi,he] at h3
   rw [<- h2,<- h3]
theorem front_ok {l:List Nd} (hS:sentB l=true):frontOkB (frontQ l) (frontR l)=true:=by
 obtain ⟨ws,hF⟩:=fs_of hS
 exact front_more hS (fun x hx=>rq_of (hF.rq x hx)) hF.pair (fun x hx=>hx)
theorem front_bits {l:List Nd} (hS:sentB l=true):(bitL (frontQ l):Int)=bitsL l:=by
 obtain ⟨ws,hF⟩:=fs_of hS
 have hA:=ap_pairs hF.pair
 rw [hF.eq] at hA
 have h1:=bits_back hS hA
 have h2:=bits_front hS
 unfold bitsL
 rw [hS,if_pos rfl,hF.eq]
 omega
theorem rows_len {q:List Qu} (h:fewB q=true):(rowsL q).length=bitL q:=by rw [rows_L h,rowL_len]
end Ff0
end Go.Proofs.YtebejleeadofcaaGreat
