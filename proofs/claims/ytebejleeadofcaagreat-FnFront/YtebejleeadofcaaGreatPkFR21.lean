import Derived.Test.YtebejleeadofcaaGreatFr2
namespace Go.Proofs.YtebejleeadofcaaGreat
set_option maxRecDepth 100000
set_option maxHeartbeats 8000000
set_option linter.unusedVariables false
namespace Fr3
open Nd0 Qa0 Pl1 Pl2 Tm0 Tm1 Tm2 Tm3 Tm4 Tm5 Tm6 Tm8 Tm9 Tm10 Tm11 Tm13 Tm14 Tr0 Vl1 Vl2 Vm0 Fr0 Fr1 Fr2
theorem wd_set_same {ws:List Int} {k:Int} {x:Int} (h:k.toNat < ws.length):wd (ws.set k.toNat x) k=x:=by
 unfold wd;simp [List.getD,h]
theorem wd_set_ne {ws:List Int} {k j:Int} {x:Int} (h:k.toNat≠j.toNat):wd (ws.set k.toNat x) j=wd ws j:=by
 unfold wd;simp [List.getD,List.getElem?_set_ne h]
def RQ (l:List Nd) (i:Nat):Prop:=flag (reachL l) i=true/\quant (nth l i).op=true
theorem quants_widths {l:List Nd} (hT:termOk l=true):∀ k,k<=l.length->∀ ws,quantsTo l k=some ws ->
 (∀ i,i < k->RQ l i->wd ws (nth l i).k=(nth l i).b)/\(∀ i j,i < j->j < k->RQ l i->RQ l j->(nth l i).k≠(nth l j).k):=by
 intro k
 induction k with
 | zero=>intro _ ws _;exact ⟨fun i hi=>absurd hi (Nat.not_lt_zero _),fun i j _ hj=>absurd hj (Nat.not_lt_zero _)⟩
 | succ k ih =>
   intro hk ws h
   cases hq:quantsTo l k with
   | none=>rw [quants_none hq (k+1) (by omega)] at h;cases h
   | some us =>
     rw [quants_succ hq] at h
     obtain ⟨h1,h2⟩:=ih (by omega) us hq
     unfold qStep at h
     by_cases hc:(flag (reachL l) k&&quant (nth l k).op)=true
     ·rw [if_pos hc] at h
      simp only [Bool.and_eq_true] at hc
      by_cases h0:wd us (nth l k).k=0
      ·rw [if_pos h0] at h
       cases h
       have hlen:=quants_len hq
       have hkk:=shape_var (term_node hT (by omega:k < l.length)) (.inr hc.2)
       have hne:∀ i,i < k->RQ l i->(nth l i).k≠(nth l k).k:=fun i hi hr he=>by
        have h3:=h1 i hi hr
        have h4:=quant_b (term_node hT (by omega:i < l.length)) hr.2
        rw [he,h0] at h3
        omega
       refine ⟨fun i hi hr=>?_,fun i j hij hj hi' hj'=>?_⟩
       ·by_cases e:i=k
        ·subst e
         exact wd_set_same (by omega)
        ·have h5:=hne i (by omega) hr
         have h6:=shape_var (term_node hT (by omega:i < l.length)) (.inr hr.2)
         rw [wd_set_ne (by omega)]
         exact h1 i (by omega) hr
       ·by_cases e:j=k
        ·subst e;exact hne i hij hi'
        ·exact h2 i j hij (by omega) hi' hj'
      ·rw [if_neg h0] at h;cases h
     ·rw [if_neg hc] at h
      cases h
      have hnk:¬ RQ l k:=fun hr=>hc (by rw [hr.1,hr.2];rfl)
      refine ⟨fun i hi hr=>?_,fun i j hij hj hi' hj'=>?_⟩
      ·by_cases e:i=k
       ·subst e;exact absurd hr hnk
       ·exact h1 i (by omega) hr
      ·by_cases e:j=k
       ·subst e;exact absurd hj' hnk
       ·exact h2 i j hij (by omega) hi' hj'
theorem ty_reached {l:List Nd} {ws:List Int} (hT:termOk l=true) (hq:quantsTo l l.length=some ws) (hw:Wid l ws):∀ i,i < l.length->flag (reachL l) i=true->Ty ws (tr l i):=by
 have hD:=down_of hT
 intro i
 induction i using Nat.strongRecOn with
 | ind i ih =>
   intro hi hf
   have hp:∀ p∈parts (nth l i),Ty ws (tr l p.toNat):=fun p hp=>by
    have h1:=hD i hi p hp
    exact ih _ (by omega) (by omega) (reach_closed hD hi hf hp)
   have hwid:=hw i hi hf
   have hqw:=(quants_widths hT _ (Nat.le_refl _) ws hq).1 i hi
   rw [tr_at hD hi]
   by_cases h1:(nth l i).op=2\/(nth l i).op=17\/(nth l i).op=19\/(nth l i).op=20
   ·rw [parts_one h1] at hp
    rw [mk_one h1]
    exact ⟨hp _ (by simp),fun h=>(hqw ⟨hf,h⟩).symm⟩
   ·by_cases h2:3<=(nth l i).op/\(nth l i).op<=16
    ·rw [parts_two h2] at hp
     rw [mk_two h2]
     exact ⟨hp _ (by simp),hp _ (by simp)⟩
    ·by_cases h3:(nth l i).op=18
     ·rw [parts_three h3] at hp
      rw [mk_three h3]
      exact ⟨hp _ (by simp),hp _ (by simp),hp _ (by simp)⟩
     ·rw [mk_leaf h1 h2 h3]
      exact hwid
theorem hold_qf {l:List Nd} (hD:Down l):∀ i,i < l.length->flag (holdTo l l.length) i=false->Qf (tr l i):=by
 intro i
 induction i using Nat.strongRecOn with
 | ind i ih =>
   intro hi hf
   rw [hold_at hD hi,Bool.or_eq_false_iff] at hf
   have hp:∀ p∈parts (nth l i),Qf (tr l p.toNat):=fun p hp=>by
    have h1:=hD i hi p hp
    have h2:=hf.2
    unfold below at h2
    rw [List.any_eq_false] at h2
    exact ih _ (by omega) (by omega) (by simpa using h2 p hp)
   rw [tr_at hD hi]
   by_cases h1:(nth l i).op=2\/(nth l i).op=17\/(nth l i).op=19\/(nth l i).op=20
   ·rw [parts_one h1] at hp
    rw [mk_one h1]
    exact ⟨hf.1,hp _ (by simp)⟩
   ·by_cases h2:3<=(nth l i).op/\(nth l i).op<=16
    ·rw [parts_two h2] at hp
     rw [mk_two h2]
     exact ⟨hp _ (by simp),hp _ (by simp)⟩
    ·by_cases h3:(nth l i).op=18
     ·rw [parts_three h3] at hp
      rw [mk_three h3]
      exact ⟨hp _ (by simp),hp _ (by simp),hp _ (by simp)⟩
     ·rw [mk_leaf h1 h2 h3]
      exact trivial
inductive Rch (l:List Nd) (i:Nat):Nat->Prop
 | refl:Rch l i i
 | down {y:Nat} {p:Int}:Rch l i y->p∈parts (nth l y)->Rch l i p.toNat
theorem Rch.le {l:List Nd} (hD:Down l) {i z:Nat} (hi:i < l.length) (h:Rch l i z):z<=i:=by
 induction h with
 | refl=>exact Nat.le_refl _
 | down h hp ih=>have:=hD _ (by omega) _ hp;omega
theorem Rch.flag {l:List Nd} (hD:Down l) {i z:Nat} (hi:i < l.length) (hf:flag (reachL l) i=true) (h:Rch l i z):Tm1.flag (reachL l) z=true:=by
 induction h with
 | refl=>exact hf
 | down h hp ih=>have:=h.le hD hi;exact reach_closed hD (by omega) ih hp
theorem Rch.part {l:List Nd} {i z:Nat} {p:Int} (hp:p∈parts (nth l i)) (h:Rch l p.toNat z):Rch l i z:=by
 induction h with
 | refl=>exact .down .refl hp
 | down h hq ih=>exact .down ih hq
theorem hold_part {l:List Nd} (hD:Down l) {i:Nat} (hi:i < l.length) {p:Int} (hp:p∈parts (nth l i)) (h:flag (holdTo l l.length) p.toNat=true):flag (holdTo l l.length) i=true:=by
 rw [hold_at hD hi]
 have:below (holdTo l l.length) (parts (nth l i))=true:=List.any_eq_true.2 ⟨p,hp,h⟩
 rw [this,Bool.or_true]
theorem Rch.hold {l:List Nd} (hD:Down l) {i z:Nat} (hi:i < l.length) (h:Rch l i z) (hz:Tm1.flag (holdTo l l.length) z=true):Tm1.flag (holdTo l l.length) i=true:=by
 induction h with
 | refl=>exact hz
 | down h hp ih=>have:=h.le hD hi;exact ih (hold_part hD (by omega) hp hz)
theorem quant_hold {l:List Nd} (hD:Down l) {i:Nat} (hi:i < l.length) (h:quant (nth l i).op=true):flag (holdTo l l.length) i=true:=by
 rw [hold_at hD hi,h];rfl
theorem times_pos {ps:List Int} {p:Int} (h:p∈ps):1<=times ps p.toNat:=by
 unfold times
 exact List.length_pos_of_mem (List.mem_filter.2 ⟨h,by simp⟩)
theorem uses_step {l:List Nd} (hD:Down l) {j:Nat} (hj:j < l.length) (hf:flag (reachL l) j=true) (z:Nat):wd (usesF l (j+1)) (z:Int)=wd (usesF l j) (z:Int)+(times (parts (nth l j)) z:Int):=by
 have e:usesF l (j+1)=if flag (reachL l) j then addUses (usesF l j) (parts (nth l j)) else usesF l j:=rfl
 rw [e,if_pos hf]
 exact addUses_wd _ _ z (fun p hp=>by have:=hD j hj p hp;rw [usesF_length];omega)
theorem uses_nonneg (l:List Nd) (k z:Nat):0<=wd (usesF l k) (z:Int):=by
 have h:=usesF_le l (Nat.zero_le k) z
 have e:wd (usesF l 0) (z:Int)=0:=wd_zeros _ _
 omega
section
variable {l:List Nd} (hD:Down l) (hM:Mov l)
include hD hM
theorem one_parent {j j':Nat} (hj:j < l.length) (hj':j' < l.length) (hf:flag (reachL l) j=true) (hf':flag (reachL l) j'=true) {p p':Int} (hp:p∈parts (nth l j)) (hp':p'∈parts (nth l j')) (he:p.toNat=p'.toNat) (hh:flag (holdTo l l.length) p.toNat=true):j=j':=by
 have key:∀ j j':Nat,j < j'->j' < l.length->flag (reachL l) j=true->flag (reachL l) j'=true->∀ p p':Int,p∈parts (nth l j)->p'∈parts (nth l j')->p.toNat=p'.toNat->flag (holdTo l l.length) p.toNat=true->False:=by
  intro j j' hlt hj' hf hf' p p' hp hp' he hh
  have h1:=uses_step hD (by omega:j < l.length) hf p.toNat
  have h2:=uses_step hD hj' hf' p.toNat
  have h3:=times_pos hp
  have h4:=times_pos hp'
  rw [<- he] at h4
  have h5:=usesF_le l (show j+1<=j' by omega) p.toNat
  have h6:=usesF_le l (show j'+1<=l.length by omega) p.toNat
  have h7:=uses_nonneg l j p.toNat
  have hb:=hD j (by omega) p hp
  have h8:=hM.2 p.toNat (by omega) (reach_closed hD (by omega) hf hp) hh
  omega
 rcases Nat.lt_trichotomy j j' with h|h|h
 ·exact (key j j' h hj' hf hf' p p' hp hp' he hh).elim
 ·exact h
 ·exact (key j' j h hj hf' hf p' p hp' hp he.symm (by rw [<- he];exact hh)).elim
theorem once {j:Nat} (hj:j < l.length) (hf:flag (reachL l) j=true) {p:Int} (hp:p∈parts (nth l j)) (hh:flag (holdTo l l.length) p.toNat=true):times (parts (nth l j)) p.toNat=1:=by
 have h1:=uses_step hD hj hf p.toNat
 have h3:=times_pos hp
 have h6:=usesF_le l (show j+1<=l.length by omega) p.toNat
 have h7:=uses_nonneg l j p.toNat
 have hb:=hD j hj p hp
 have h8:=hM.2 p.toNat (by omega) (reach_closed hD hj hf hp) hh
 omega
theorem chain {x y z:Nat} (hx:x < l.length) (hy:y < l.length) (fx:flag (reachL l) x=true) (fy:flag (reachL l) y=true) (h1:Rch l x z):flag (holdTo l l.length) z=true->Rch l y z->Rch l x y\/Rch l y x:=by
 induction h1 with
 | refl=>intro _ h;exact .inr h
 | down h hp ih =>
   rename_i u p
   intro hh h2
   have hu:=h.le hD hx
   have key:∀ z,Rch l y z->z=p.toNat->Rch l x y\/Rch l y x:=by
    intro z h2 he
    cases h2 with
    | refl=>subst he;exact .inl (.down h hp)
    | down h3 hp3 =>
      rename_i u' p'
      have hu':=h3.le hD hy
      have e:u=u':=one_parent hD hM (by omega) (by omega) (h.flag hD hx fx) (h3.flag hD hy fy) hp hp3 he.symm hh
      subst e
      exact ih (hold_part hD (by omega) hp hh) h3
   exact key _ h2 rfl
theorem apart {j:Nat} (hj:j < l.length) (hf:flag (reachL l) j=true) {p p':Int} (hp:p∈parts (nth l j)) (hp':p'∈parts (nth l j)) (ht:p.toNat=p'.toNat->2<=times (parts (nth l j)) p.toNat) {z:Nat} (h1:Rch l p.toNat z) (h2:Rch l p'.toNat z) (hz:flag (holdTo l l.length) z=true):False:=by
 have b1:=hD j hj p hp
 have b2:=hD j hj p' hp'
 have f1:=reach_closed hD hj hf hp
 have f2:=reach_closed hD hj hf hp'
 have key:∀ p p':Int,p∈parts (nth l j)->p'∈parts (nth l j)->flag (holdTo l l.length) p.toNat=true->flag (holdTo l l.length) p'.toNat=true->(p.toNat=p'.toNat->2<=times (parts (nth l j)) p.toNat)->0<=p/\p < (j:Int)->flag (reachL l) p.toNat=true->Rch l p.toNat p'.toNat->False:=by
  intro p p' hp hp' hh hh' ht b1 f1 hr
  generalize he:p'.toNat=z at hr
  cases hr with
  | refl =>
    have:=once hD hM hj hf hp hh
    have:=ht he.symm
    omega
  | down h3 hp3 =>
    rename_i u q
    have hu:=h3.le hD (by omega)
    have e:u=j:=one_parent hD hM (by omega) hj (h3.flag hD (by omega) f1) hf hp3 hp' he.symm (by rw [<- he];exact hh')
    omega
 have hh:=h1.hold hD (by omega) hz
 have hh':=h2.hold hD (by omega) hz
 rcases chain hD hM (by omega) (by omega) f1 f2 h1 hz h2 with hr|hr
 ·exact key p p' hp hp' hh hh' ht b1 f1 hr
 ·exact key p' p hp' hp hh' hh (fun he=>by rw [he];exact ht he.symm) b2 f2 hr
end
theorem bv_rch {l:List Nd} (hD:Down l):∀ i,i < l.length->∀ v∈bv (tr l i),∃ z,Rch l i z/\quant (nth l z).op=true/\(nth l z).k=v:=by
 intro i
 induction i using Nat.strongRecOn with
 | ind i ih =>
   intro hi v hv
   have hp:∀ p∈parts (nth l i),∀ v∈bv (tr l p.toNat),∃ z,Rch l i z/\quant (nth l z).op=true/\(nth l z).k=v:=fun p hp v hv=>by
    have h1:=hD i hi p hp
    obtain ⟨z,h2,h3⟩:=ih _ (by omega) (by omega) v hv
    exact ⟨z,h2.part hp,h3⟩
   rw [tr_at hD hi] at hv
   by_cases h1:(nth l i).op=2\/(nth l i).op=17\/(nth l i).op=19\/(nth l i).op=20
   ·rw [parts_one h1] at hp
    rw [mk_one h1] at hv
    by_cases h2:(nth l i).op=2
    ·rw [h2,bv_not] at hv
     exact hp _ (by simp) v hv
    ·by_cases hq:quant (nth l i).op=true
     ·rw [bv_quant hq] at hv
      rcases List.mem_cons.1 hv with rfl|hv
      ·exact ⟨i,.refl,hq,rfl⟩
      ·exact hp _ (by simp) v hv
     ·rw [bv_one h2 hq] at hv;cases hv
   ·by_cases h2:3<=(nth l i).op/\(nth l i).op<=16
    ·rw [parts_two h2] at hp
     rw [mk_two h2] at hv
     by_cases h3:(nth l i).op=3\/(nth l i).op=4
     ·rw [bv_two h3] at hv
      rcases List.mem_append.1 hv with hv|hv
      ·exact hp _ (by simp) v hv
      ·exact hp _ (by simp) v hv
     ·rw [bv_two' h3] at hv;cases hv
    ·by_cases h3:(nth l i).op=18
     ·rw [mk_three h3] at hv;cases hv
     ·rw [mk_leaf h1 h2 h3] at hv;cases hv
theorem sc_reached {l:List Nd} {ws:List Int} (hT:termOk l=true) (hq:quantsTo l l.length=some ws) (hM:Mov l):∀ i,i < l.length->flag (reachL l) i=true->∀ S:List Int,
 (∀ v:Nat,v < 8->flag (row (freeRows l l.length) (i:Int)) v=true->(v:Int)∈S)->(∀ z,Rch l i z->quant (nth l z).op=true->(nth l z).k ∉ S)->Sc S (tr l i):=by
 have hD:=down_of hT
 have hdist:=(quants_widths hT _ (Nat.le_refl _) ws hq).2
 intro i
 induction i using Nat.strongRecOn with
 | ind i ih =>
   intro hi hf S hfr hqs
   have hbnd:=hD i hi
   have hfl:∀ p∈parts (nth l i),flag (reachL l) p.toNat=true:=fun p hp=>reach_closed hD hi hf hp
   have hfree:∀ v:Nat,v < 8->freeAt (freeRows l l.length) (nth l i) v=true->(v:Int)∈S:=fun v hv h=>hfr v hv (by rw [free_at hD hi hv];exact h)
   have hpin:∀ p∈parts (nth l i),∀ v:Nat,flag (row (freeRows l l.length) ((p.toNat:Nat):Int)) v=true->inParts (freeRows l l.length) (parts (nth l i)) v=true:=fun p hp v h=>by
    have hb:=hbnd p hp
    rw [Int.toNat_of_nonneg hb.1] at h
    exact List.any_eq_true.2 ⟨p,hp,h⟩
   have hplain:quant (nth l i).op=false->∀ p∈parts (nth l i),Sc S (tr l p.toNat):=fun hnq p hp=>by
    have hb:=hbnd p hp
    refine ih _ (by omega) (by omega) (hfl p hp) S (fun v hv h=>hfree v hv ?_) (fun z hz=>hqs z (hz.part hp))
    unfold freeAt
    have hq2:((nth l i).op==19||(nth l i).op==20)=false:=hnq
    rw [hq2,hpin p hp v h]
    simp
   have hqf:outer (nth l i).op=false->∀ p∈parts (nth l i),Qf (tr l p.toNat):=fun ho p hp=>by
    have hb:=hbnd p hp
    refine hold_qf hD _ (by omega) ?_
    cases hh:flag (holdTo l l.length) p.toNat with
    | false=>rfl
    | true =>
      have:=hM.1 i hi hf (hold_part hD hi hp hh)
      rw [ho] at this;cases this
   rw [tr_at hD hi]
   by_cases h1:(nth l i).op=2\/(nth l i).op=17\/(nth l i).op=19\/(nth l i).op=20
   ·rw [mk_one h1]
    have hpa:(nth l i).a∈parts (nth l i):=by rw [parts_one h1];simp
    have hb:=hbnd _ hpa
    simp only [Sc]
    by_cases h2:(nth l i).op=2
    ·rw [if_pos h2]
     exact hplain (by rw [h2];rfl) _ hpa
    ·rw [if_neg h2]
     by_cases hqu:quant (nth l i).op=true
     ·rw [if_pos hqu]
      refine ⟨hqs i .refl hqu,?_⟩
      refine ih _ (by omega) (by omega) (hfl _ hpa) _ (fun v hv h=>?_) (fun z hz hzq hm=>?_)
      ·by_cases e:(nth l i).k=(v:Int)
       ·rw [<- e];exact List.mem_cons_self
       ·refine List.mem_cons_of_mem _ (hfree v hv ?_)
        unfold freeAt
        rw [if_neg (by simp [e]),hpin _ hpa v h,Bool.or_true]
      ·rcases List.mem_cons.1 hm with he|hm
       ·have hz1:=hz.le hD (by omega)
        have hz2:=hz.flag hD (by omega) (hfl _ hpa)
        exact hdist z i (by omega) hi ⟨hz2,hzq⟩ ⟨hf,hqu⟩ he
       ·exact hqs z (hz.part hpa) hzq hm
     ·rw [if_neg hqu]
      have hqu':quant (nth l i).op=false:=by simpa using hqu
      have h17:(nth l i).op=17:=by
       have:¬ ((nth l i).op=19\/(nth l i).op=20):=fun h=>hqu (by rcases h with h|h<;>rw [h]<;>rfl)
       omega
      exact ⟨hqf (by rw [h17];rfl) _ hpa,hplain hqu' _ hpa⟩
   ·by_cases h2:3<=(nth l i).op/\(nth l i).op<=16
    ·rw [mk_two h2]
     have hpa:(nth l i).a∈parts (nth l i):=by rw [parts_two h2];simp
     have hpb:(nth l i).b∈parts (nth l i):=by rw [parts_two h2];simp
     have hb1:=hbnd _ hpa
     have hb2:=hbnd _ hpb
     have hqu:quant (nth l i).op=false:=by
      have:¬ (nth l i).op=19/\¬ (nth l i).op=20:=by omega
      simpa [quant] using this
     refine ⟨hplain hqu _ hpa,hplain hqu _ hpb,?_⟩
     by_cases h3:(nth l i).op=3\/(nth l i).op=4
     ·rw [if_pos h3]
      intro v hv hv'
      obtain ⟨z,hz,hzq,hzk⟩:=bv_rch hD _ (by omega) v hv
      obtain ⟨z',hz',hzq',hzk'⟩:=bv_rch hD _ (by omega) v hv'
      have hl:=hz.le hD (by omega)
      have hl':=hz'.le hD (by omega)
      have hzf:=hz.flag hD (by omega) (hfl _ hpa)
      have hzf':=hz'.flag hD (by omega) (hfl _ hpb)
      have e:z=z':=by
       rcases Nat.lt_trichotomy z z' with h|h|h
       ·exact absurd (hzk.trans hzk'.symm) (hdist z z' h (by omega) ⟨hzf,hzq⟩ ⟨hzf',hzq'⟩)
       ·exact h
       ·exact absurd (hzk'.trans hzk.symm) (hdist z' z h (by omega) ⟨hzf',hzq'⟩ ⟨hzf,hzq⟩)
      subst e
      refine apart hD hM hi hf hpa hpb (fun he=>?_) hz hz' (quant_hold hD (by omega) hzq)
      rw [parts_two h2]
      simp [times,he]
     ·rw [if_neg h3]
      have ho:outer (nth l i).op=false:=by
       have:¬ (nth l i).op=2/\¬ (nth l i).op=3/\¬ (nth l i).op=4:=by omega
       unfold outer
       rw [hqu]
       simp [this.1,this.2.1,this.2.2]
      exact ⟨hqf ho _ hpa,hqf ho _ hpb⟩
    ·by_cases h3:(nth l i).op=18
     ·rw [mk_three h3]
      have hpa:(nth l i).a∈parts (nth l i):=by rw [parts_three h3];simp
      have hpb:(nth l i).b∈parts (nth l i):=by rw [parts_three h3];simp
      have hpc:(nth l i).c∈parts (nth l i):=by rw [parts_three h3];simp
      have hqu:quant (nth l i).op=false:=by rw [h3];rfl
      have ho:outer (nth l i).op=false:=by rw [h3];rfl
      exact ⟨hplain hqu _ hpa,hplain hqu _ hpb,hplain hqu _ hpc,hqf ho _ hpa,hqf ho _ hpb,hqf ho _ hpc⟩
     ·rw [mk_leaf h1 h2 h3]
      intro h4
      have hk:=shape_var (term_node hT hi) (.inl h4)
      have:=hfree (nth l i).k.toNat (by omega) (by
       unfold freeAt
       rw [Int.toNat_of_nonneg hk.1,h4]
       simp)
      rw [Int.toNat_of_nonneg hk.1] at this
      exact this
theorem free_none {l:List Nd} (hT:termOk l=true) (h:(freeL l).length=0):∀ v:Nat,v < 8->flag (row (freeRows l l.length) ((l.length - 1:Nat):Int)) v=false:=by
 intro v hv
 obtain ⟨h1,h2⟩:=term_len hT
 cases hf:flag (row (freeRows l l.length) ((l.length - 1:Nat):Int)) v with
 | false=>rfl
 | true =>
   have e:((l.length - 1:Nat):Int)=(l.length:Int) - 1:=by omega
   rw [e] at hf
   have hm:(v:Int)∈freeL l:=by
    unfold freeL
    rw [hT]
    exact List.mem_map.2 ⟨v,List.mem_filter.2 ⟨List.mem_range.2 hv,hf⟩,rfl⟩
   have:freeL l=[]:=List.eq_nil_of_length_eq_zero h
   rw [this] at hm;cases hm
theorem sent_tree {l:List Nd} (h:sentB l=true):∃ ws,quantsTo l l.length=some ws/\Rt (root l)/\(root l).wid=1/\Ty ws (root l)/\Sc [] (root l):=by
 obtain ⟨hT,hw,hf,ws,hq,hW,hM⟩:=(sent_iff l).1 h
 obtain ⟨h1,h2⟩:=term_len hT
 have hD:=down_of hT
 have hr:=rt_all hD (fun k hk=>term_node hT hk) (l.length - 1) (by omega)
 have hreach:=reach_root h1
 refine ⟨ws,hq,hr.1,by rw [root,hr.2,hw],ty_reached hT hq hW _ (by omega) hreach,?_⟩
 refine sc_reached hT hq hM _ (by omega) hreach [] (fun v hv hv2=>?_) (fun z _ _=>by simp)
 rw [free_none hT hf v hv] at hv2;cases hv2
end Fr3
namespace Fr5
open Nd0 Qa0 Pl1 Tm0 Tm1 Tm5 Tm6 Tm8 Tm10 Tr0 Vl1 Vl2 Fr0 Fr1 Fr2 Fr3
theorem sc_nodup:∀ (t:Tr) (S:List Int),Sc S t->(bv t).Nodup/\∀ v∈bv t,v ∉ S:=by
 intro t
 induction t with
 | leaf op w k=>intro S h;exact ⟨List.nodup_nil,fun v hv=>by cases hv⟩
 | one op w k b x ih =>
   intro S h
   simp only [Sc] at h
   by_cases h2:op=2
   ·rw [if_pos h2] at h
    have e:bv (.one op w k b x)=bv x:=by
     unfold bv
     simp only [wk]
     rw [if_pos h2]
     exact bv_turn x (!false)
    rw [e]
    exact ih S h
   ·rw [if_neg h2] at h
    cases hq:quant op with
    | true =>
      rw [hq,if_pos rfl] at h
      rw [bv_quant hq]
      obtain ⟨h3,h4⟩:=ih (k :: S) h.2
      refine ⟨List.nodup_cons.2 ⟨fun hk=>h4 k hk (by simp),h3⟩,fun v hv=>?_⟩
      rcases List.mem_cons.1 hv with rfl|hv
      ·exact h.1
      ·exact fun hs=>h4 v hv (by simp [hs])
    | false =>
      have e:bv (.one op w k b x)=[]:=by
       unfold bv
       simp only [wk]
       rw [if_neg h2,hq]
       rfl
      rw [e]
      exact ⟨List.nodup_nil,fun v hv=>by cases hv⟩
 | two op w x y ihx ihy =>
   intro S h
   simp only [Sc] at h
   obtain ⟨hx,hy,hd⟩:=h
   by_cases h3:op=3\/op=4
   ·rw [if_pos h3] at hd
    have e:bv (.two op w x y)=bv x++bv y:=by
     unfold bv
     simp only [wk]
     rw [if_pos h3,List.map_append]
    rw [e]
    obtain ⟨x1,x2⟩:=ihx S hx
    obtain ⟨y1,y2⟩:=ihy S hy
    refine ⟨List.nodup_append.2 ⟨x1,y1,fun a ha b hb e=>hd a ha (e ▸ hb)⟩,fun v hv=>?_⟩
    rcases List.mem_append.1 hv with hv|hv
    ·exact x2 v hv
    ·exact y2 v hv
   ·have e:bv (.two op w x y)=[]:=by
     unfold bv
     simp only [wk]
     rw [if_neg h3]
     rfl
    rw [e]
    exact ⟨List.nodup_nil,fun v hv=>by cases hv⟩
 | three op w x y z ihx ihy ihz =>
   intro S h
   exact ⟨List.nodup_nil,fun v hv=>by cases hv⟩
theorem nodup_small (m:Nat):∀ l:List Nat,l.Nodup->(∀ v∈l,v < m)->l.length<=m:=by
 induction m with
 | zero =>
   intro l _ h
   cases l with
   | nil=>exact Nat.le_refl _
   | cons x l=>exact absurd (h x (by simp)) (by omega)
 | succ m ih =>
   intro l hn h
   by_cases hm:m∈l
   ·have h1:=ih (l.erase m) (hn.erase m) (fun v hv=>by
     have h2:=h v (List.mem_of_mem_erase hv)
     have h3:v≠m:=fun e=>by rw [e] at hv;exact (List.Nodup.not_mem_erase hn) hv
     omega)
    rw [List.length_erase_of_mem hm] at h1
    omega
   ·have:=ih l hn (fun v hv=>by
     have h2:=h v hv
     have h3:v≠m:=fun e=>hm (e ▸ hv)
     omega)
    omega
theorem wk_len {l:List Nd} (h:sentB l=true) (u:Bool):(wk (root l) u).length<=8:=by
 obtain ⟨ws,_,hR,_,hty,hsc⟩:=sent_tree h
 have h1:=(sc_nodup _ _ hsc).1
 have h2:∀ v∈bv (root l),0<=v/\v<=7:=fun v hv=>by
  obtain ⟨x,hx,rfl⟩:=List.mem_map.1 hv
  have:=wk_ty (root l) false hR hty x hx
  exact ⟨this.1,this.2.1⟩
 have h3:((bv (root l)).map Int.toNat).Nodup:=by
  unfold List.Nodup
  rw [List.pairwise_map]
  refine List.Pairwise.imp_of_mem (fun {x y} hx hy hne e=>hne ?_) h1
  have:=h2 x hx
  have:=h2 y hy
  omega
 have h4:=nodup_small 8 _ h3 (fun v hv=>by
  obtain ⟨x,hx,rfl⟩:=List.mem_map.1 hv
  have:=h2 x hx
  omega)
 rw [List.length_map] at h4
 rw [<- bv_turn (root l) u,List.length_map] at h4
 exact h4
theorem wk_none {l:List Nd} (hT:termOk l=true) {i:Nat} (hi:i < l.length) (h:flag (holdTo l l.length) i=false) (u:Bool):wk (tr l i) u=[]:=qf_wk _ u (hold_qf (down_of hT) i hi h)
theorem hold_outer {l:List Nd} (hS:sentB l=true) {i:Nat} (hi:i < l.length) (hf:flag (reachL l) i=true) (h:flag (holdTo l l.length) i=true):(nth l i).op=2\/(nth l i).op=3\/(nth l i).op=4\/quant (nth l i).op=true:=by
 cases ho:outer (nth l i).op with
 | false=>rw [sent_outer hi hf h ho] at hS;cases hS
 | true =>
   unfold outer at ho
   simp only [Bool.or_eq_true,beq_iff_eq] at ho
   rcases ho with ((h1|h1)|h1)|h1<;>simp [h1]
theorem wk_not {l:List Nd} (hT:termOk l=true) {i:Nat} (hi:i < l.length) (h:(nth l i).op=2) (u:Bool):wk (tr l i) u=wk (tr l (nth l i).a.toNat) (!u):=by
 rw [tr_at (down_of hT) hi,mk_one (by omega)]
 simp only [wk]
 rw [if_pos h]
theorem wk_q {l:List Nd} (hT:termOk l=true) {i:Nat} (hi:i < l.length) (h:quant (nth l i).op=true) (u:Bool):wk (tr l i) u=⟨((nth l i).op==19) != u,(nth l i).k,(nth l i).b⟩ :: wk (tr l (nth l i).a.toNat) u:=by
 have h2:(nth l i).op=19\/(nth l i).op=20:=by simpa [quant] using h
 rw [tr_at (down_of hT) hi,mk_one (by omega)]
 simp only [wk]
 rw [if_neg (by omega),h,if_pos rfl]
theorem wk_two {l:List Nd} (hT:termOk l=true) {i:Nat} (hi:i < l.length) (h:(nth l i).op=3\/(nth l i).op=4) (u:Bool):wk (tr l i) u=wk (tr l (nth l i).a.toNat) u++wk (tr l (nth l i).b.toNat) u:=by
 rw [tr_at (down_of hT) hi,mk_two (by omega)]
 simp only [wk]
 rw [if_pos h]
end Fr5
end Go.Proofs.YtebejleeadofcaaGreat
