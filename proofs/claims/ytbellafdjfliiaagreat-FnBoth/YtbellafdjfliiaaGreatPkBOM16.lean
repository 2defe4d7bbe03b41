import Derived.Test.YtbellafdjfliiaaGreatPkBOM14
import Derived.Test.YtbellafdjfliiaaGreatPkBOM15
namespace Go.Proofs.YtbellafdjfliiaaGreat
set_option maxRecDepth 100000
set_option maxHeartbeats 8000000
set_option linter.unusedVariables false
namespace Vm0
open Nd0 Pl1 Pl2 Tm0 Tm1 Tm3 Tm5 Tm6 Tm8 Tm11 Tm13 Tm14 Tr0 Vl1 Vl2
theorem applyL_k {op:Int} (h:(3<=op/\op<=16)\/op=18) (W k k' w a b c:Int):applyL op W k w a b c=applyL op W k' w a b c:=by
 have h0:¬ op=0:=by omega
 have h17:¬ op=17:=by omega
 unfold applyL opL
 simp only [h0,h17,if_false]
def pvs (l:List Nd) (e:List Int) (n:Nd):List Int:=(parts n).map fun p=>vT (tr l p.toNat) e
def pw (l:List Nd) (n:Nd):Int:=match parts n with
 | []=>1
 | p :: _=>(nth l p.toNat).w
section
variable {l:List Nd} (hD:Down l) (hN:∀ k,k < l.length->nodeOk l k=true) {k:Nat} (hk:k < l.length) (e:List Int)
include hD hN hk
theorem vT_other (h1:¬ (nth l k).op=1) (hq:quant (nth l k).op=false) :
 vT (tr l k) e=applyL (nth l k).op (nth l k).w (nth l k).k (pw l (nth l k)) ((pvs l e (nth l k)).getD 0 0) ((pvs l e (nth l k)).getD 1 0) ((pvs l e (nth l k)).getD 2 0):=by
 rw [tr_at hD hk]
 have hd:=hD k hk
 have hp:∀ p∈parts (nth l k),(tr l p.toNat).wid=(nth l p.toNat).w:=fun p h=>(rt_all hD hN p.toNat (by have:=hd p h;omega)).2
 generalize nth l k=n at h1 hq hp hd
 have hq2:¬ n.op=19/\¬ n.op=20:=by simpa [quant] using hq
 by_cases g1:n.op=2\/n.op=17\/n.op=19\/n.op=20
 ·rw [mk_one g1]
  unfold pvs pw
  rw [parts_one g1] at hp ⊢
  simp only [vT,List.map_cons,List.map_nil]
  rw [if_neg hq2.1,if_neg hq2.2,hp n.a (by simp)]
  rfl
 ·by_cases g2:3<=n.op/\n.op<=16
  ·rw [mk_two g2]
   unfold pvs pw
   rw [parts_two g2] at hp ⊢
   simp only [vT,List.map_cons,List.map_nil]
   rw [hp n.a (by simp),applyL_k (.inl g2) _ 0 n.k]
   rfl
  ·by_cases g3:n.op=18
   ·rw [mk_three g3]
    unfold pvs pw
    rw [parts_three g3] at hp ⊢
    simp only [vT,List.map_cons,List.map_nil]
    rw [hp n.a (by simp),applyL_k (.inr g3) _ 0 n.k]
    rfl
   ·rw [mk_leaf g1 g2 g3]
    unfold pvs pw
    rw [parts_none g1 g2 g3]
    simp only [vT]
    rw [if_neg h1]
    rfl
end
theorem vT_var {l:List Nd} (hD:Down l) {k:Nat} (hk:k < l.length) (e:List Int) (h1:(nth l k).op=1):vT (tr l k) e=wd e (nth l k).k:=by
 rw [tr_at hD hk,mk_leaf (by omega) (by omega) (by omega)]
 simp only [vT]
 rw [if_pos h1]
 rfl
def allN (f:Nat->Int) (m:Nat):Int:=if (List.range m).all (fun i=>f i==1) then 1 else 0
def anyN (f:Nat->Int) (m:Nat):Int:=if (List.range m).any (fun i=>f i==1) then 1 else 0
theorem allN_yes {f:Nat->Int} {m:Nat} (h:f m=1):allN f (m+1)=allN f m:=by
 unfold allN;rw [List.range_succ,List.all_append];simp [h]
theorem allN_no {f:Nat->Int} {m:Nat} (h:¬ f m=1):allN f (m+1)=0:=by
 unfold allN;rw [List.range_succ,List.all_append];simp [h]
theorem anyN_yes {f:Nat->Int} {m:Nat} (h:f m=1):anyN f (m+1)=1:=by
 unfold anyN;rw [List.range_succ,List.any_append];simp [h]
theorem anyN_no {f:Nat->Int} {m:Nat} (h:¬ f m=1):anyN f (m+1)=anyN f m:=by
 unfold anyN;rw [List.range_succ,List.any_append];simp [h]
theorem anyN_bit (f:Nat->Int) (m:Nat):anyN f m=0\/anyN f m=1:=by unfold anyN;split<;>simp
theorem anyN_one {f:Nat->Int} {m:Nat}:anyN f m=1↔∃ i,i < m/\f i=1:=by
 unfold anyN
 constructor
 ·intro h
  split at h
  ·rename_i h2
   obtain ⟨i,h3,h4⟩:=List.any_eq_true.1 h2
   exact ⟨i,List.mem_range.1 h3,by simpa using h4⟩
  ·cases h
 ·rintro ⟨i,h1,h2⟩
  rw [if_pos (List.any_eq_true.2 ⟨i,List.mem_range.2 h1,by simpa using h2⟩)]
theorem allN_one {f:Nat->Int} {m:Nat}:allN f m=1↔∀ i,i < m->f i=1:=by
 unfold allN
 constructor
 ·intro h i hi
  split at h
  ·rename_i h2
   simpa using List.all_eq_true.1 h2 i (List.mem_range.2 hi)
  ·cases h
 ·intro h
  rw [if_pos (List.all_eq_true.2 fun i hi=>by simpa using h i (List.mem_range.1 hi))]
theorem allN_bit (f:Nat->Int) (m:Nat):allN f m=0\/allN f m=1:=by unfold allN;split<;>simp
theorem vT_quant {l:List Nd} (hD:Down l) {k:Nat} (hk:k < l.length) (e:List Int) (hq:quant (nth l k).op=true) :
 vT (tr l k) e=if (nth l k).op=19 then allN (fun i=>vT (tr l (nth l k).a.toNat) (e.set (nth l k).k.toNat (i:Int))) (2 ^ (nth l k).b.toNat) else anyN (fun i=>vT (tr l (nth l k).a.toNat) (e.set (nth l k).k.toNat (i:Int))) (2 ^ (nth l k).b.toNat):=by
 have hq2:(nth l k).op=19\/(nth l k).op=20:=by simpa [quant] using hq
 rw [tr_at hD hk,mk_one (by omega)]
 simp only [vT]
 rcases hq2 with h|h
 ·rw [if_pos h,if_pos h];rfl
 ·have h19:¬ (nth l k).op=19:=by omega
  rw [if_neg h19,if_pos h,if_neg h19];rfl
theorem set_self (e:List Int) {i:Nat} (h:i < e.length):e.set i (wd e (i:Int))=e:=by
 have:wd e (i:Int)=e[i]:=(wd_get h).symm
 rw [this];exact List.set_getElem_self h
theorem node_k {l:List Nd} (hD:Down l) (hN:∀ k,k < l.length->nodeOk l k=true) {k:Nat} (hk:k < l.length):0<=(nth l k).k/\(nth l k).k<=255:=by
 have hok:=hN k hk
 have hd:=hD k hk
 simp only [nodeOk,Bool.and_eq_true] at hok
 have hs:=hok.2
 have hw:∀ p∈parts (nth l k),width l p<=8:=fun p hp=>by
  have h1:=hd p hp
  exact (node_width (hN p.toNat (by omega))).2
 have hw1:=of_decide_eq_true hok.1.2
 generalize nth l k=n at hs hw hw1
 unfold shapeOk at hs
 by_cases h0:n.op=0
 ·rw [if_pos h0] at hs
  simp only [Bool.and_eq_true] at hs
  have:=wok_iff.1 hs.1
  have h2:=p2_mono (show n.w.toNat<=8 by omega)
  have h3:p2 8=256:=rfl
  omega
 rw [if_neg h0] at hs
 by_cases h1:n.op=1
 ·rw [if_pos h1] at hs
  have:=of_decide_eq_true hs
  omega
 rw [if_neg h1] at hs
 by_cases h2:n.op=2
 ·rw [if_pos h2] at hs
  have:=of_decide_eq_true hs
  omega
 rw [if_neg h2] at hs
 by_cases h3:3<=n.op/\n.op<=12
 ·rw [if_pos h3] at hs
  have:=of_decide_eq_true hs
  omega
 rw [if_neg h3] at hs
 by_cases h4:13<=n.op/\n.op<=15
 ·rw [if_pos h4] at hs
  have:=of_decide_eq_true hs
  omega
 rw [if_neg h4] at hs
 by_cases h5:n.op=16
 ·rw [if_pos h5] at hs
  have:=of_decide_eq_true hs
  omega
 rw [if_neg h5] at hs
 by_cases h6:n.op=17
 ·rw [if_pos h6] at hs
  have:=of_decide_eq_true hs
  rw [parts_one (.inr (.inl h6))] at hw this
  have h8:=hw n.a (by simp)
  simp only [List.map_cons,List.map_nil,List.getD_cons_zero] at this
  omega
 rw [if_neg h6] at hs
 by_cases h7:n.op=18
 ·rw [if_pos h7] at hs
  have:=of_decide_eq_true hs
  omega
 rw [if_neg h7] at hs
 by_cases h8:n.op=19\/n.op=20
 ·rw [if_pos h8] at hs
  have:=of_decide_eq_true hs
  omega
 rw [if_neg h8] at hs
 cases hs
theorem wf_small {k:Int} (h:0<=k/\k<=255):(Go.Lit.int .i64 k).wf=true:=by
 simp [Go.Lit.wf,Go.IntKind.min,Go.IntKind.max,Go.IntKind.signed,Go.IntKind.bits];omega
end Vm0
namespace Fr1
open Nd0 Qa0 Pl1 Pl2 Tm0 Tm5 Tm6 Tr0 Vl1 Vl2 Vm0 Fr0
def turnQ (x:Qu):Qu:=⟨!x.all,x.vr,x.bits⟩
def wk:Tr->Bool->List Qu
 | .leaf _ _ _,_=>[]
 | .one op _ k b x,u=>if op=2 then wk x (!u) else if quant op then ⟨(op==19) != u,k,b⟩ :: wk x u else []
 | .two op _ x y,u=>if op=3\/op=4 then wk x u++wk y u else []
 | .three _ _ _ _ _,_=>[]
theorem wk_turn:∀ (t:Tr) (u:Bool),wk t (!u)=(wk t u).map turnQ:=by
 intro t
 induction t with
 | leaf op w k=>intro u;rfl
 | one op w k b x ih =>
   intro u
   simp only [wk]
   by_cases h:op=2
   ·rw [if_pos h,if_pos h];exact ih _
   ·rw [if_neg h,if_neg h]
    by_cases hq:quant op=true
    ·rw [if_pos hq,if_pos hq,List.map_cons,ih]
     refine congrArg (fun z=>z :: _) ?_
     cases u<;>cases (op==19)<;>rfl
    ·rw [if_neg hq,if_neg hq];rfl
 | two op w x y ih1 ih2 =>
   intro u
   simp only [wk]
   split
   ·rw [ih1,ih2,List.map_append]
   ·rfl
 | three op w x y z ih1 ih2 ih3=>intro u;rfl
def str:Tr->Tr
 | .leaf op w k=>.leaf op w k
 | .one op w k b x=>if quant op then str x else .one op w k b (str x)
 | .two op w x y=>.two op w (str x) (str y)
 | .three op w x y z=>.three op w (str x) (str y) (str z)
def Ty (ws:List Int):Tr->Prop
 | .leaf op w k=>op=1->w=wd ws k
 | .one op _ k b x=>Ty ws x/\(quant op=true->b=wd ws k)
 | .two _ _ x y=>Ty ws x/\Ty ws y
 | .three _ _ x y z=>Ty ws x/\Ty ws y/\Ty ws z
theorem wd_nat (ws:List Int) {k:Int} (hk:0<=k):wd ws ((k.toNat:Nat):Int)=wd ws k:=by rw [Int.toNat_of_nonneg hk]
theorem or_same {a b c:Nat} (ha:a=0\/a=c) (hb:b=0\/b=c):a ||| b=0\/a ||| b=c:=by
 rcases ha with rfl|rfl<;>rcases hb with rfl|rfl<;>simp
theorem need_ty {ws:List Int}:∀ (t:Tr),Rt t->Ty ws t->∃ r,needT t=some r/\∀ v:Nat,v < 8->r.getD v 0=0\/r.getD v 0=2 ^ (wd ws (v:Int)).toNat:=by
 intro t
 induction t with
 | leaf op w k =>
   intro hR hT
   refine ⟨_,rfl,fun v hv=>?_⟩
   rw [show ((List.range 8).map fun (v:Nat)=>if op=1/\k=(v:Int) then 2 ^ w.toNat else 0).getD v 0=(if op=1/\k=(v:Int) then 2 ^ w.toNat else 0) by simp [List.getD,hv]]
   split
   ·rename_i h
    rw [hT h.1,h.2];exact .inr rfl
   ·exact .inl rfl
 | one op w k b x ih =>
   intro hR hT
   obtain ⟨r,h1,h2⟩:=ih hR.2.2.1 hT.1
   have hl:=need_len _ _ h1
   simp only [needT]
   rw [h1]
   simp only [Option.bind_some]
   by_cases hq:quant op=true
   ·rw [if_pos hq]
    have hk:0<=k/\k<=7:=by
     have hq2:op=19\/op=20:=by simpa [quant] using hq
     rcases hR.2.2.2 with h|h|h
     ·omega
     ·omega
     ·exact ⟨h.2.2.2.1,h.2.2.2.2.1⟩
    have h3:=h2 k.toNat (by omega)
    rw [wd_nat ws hk.1,<- hT.2 hq] at h3
    rw [if_neg (fun hc=>h3.elim (fun h=>hc.1 h) (fun h=>hc.2 h))]
    refine ⟨_,rfl,fun v hv=>?_⟩
    by_cases hc:k.toNat=v
    ·left
     rw [<- hc];simp [List.getD,hl,show k.toNat < 8 by omega]
    ·have:(r.set k.toNat 0).getD v 0=r.getD v 0:=by simp [List.getD,List.getElem?_set_ne hc]
     rw [this];exact h2 v hv
   ·rw [if_neg hq]
    exact ⟨r,rfl,h2⟩
 | two op w x y ih1 ih2 =>
   intro hR hT
   obtain ⟨r,h1,h2⟩:=ih1 hR.2.2.1 hT.1
   obtain ⟨s,h3,h4⟩:=ih2 hR.2.2.2.1 hT.2
   simp only [needT]
   rw [h1,h3]
   exact ⟨_,rfl,fun v hv=>by rw [or_at r s hv];exact or_same (h2 v hv) (h4 v hv)⟩
 | three op w x y z ih1 ih2 ih3 =>
   intro hR hT
   obtain ⟨r,h1,h2⟩:=ih1 hR.2.2.1 hT.1
   obtain ⟨s,h3,h4⟩:=ih2 hR.2.2.2.1 hT.2.1
   obtain ⟨u,h5,h6⟩:=ih3 hR.2.2.2.2.1 hT.2.2
   simp only [needT]
   rw [h1,h3,h5]
   exact ⟨_,rfl,fun v hv=>by rw [or_at _ u hv,or_at r s hv];exact or_same (or_same (h2 v hv) (h4 v hv)) (h6 v hv)⟩
def Qf:Tr->Prop
 | .leaf _ _ _=>True
 | .one op _ _ _ x=>quant op=false/\Qf x
 | .two _ _ x y=>Qf x/\Qf y
 | .three _ _ x y z=>Qf x/\Qf y/\Qf z
def bv (t:Tr):List Int:=(wk t false).map (·.vr)
theorem bv_turn (t:Tr) (u:Bool):(wk t u).map (·.vr)=bv t:=by
 cases u with
 | false=>rfl
 | true =>
   have:=wk_turn t false
   simp only [Bool.not_false] at this
   rw [this,List.map_map]
   rfl
def Sc:List Int->Tr->Prop
 | S,.leaf op _ k=>op=1->k∈S
 | S,.one op _ k _ x=>if op=2 then Sc S x else if quant op then k ∉ S/\Sc (k :: S) x else Qf x/\Sc S x
 | S,.two op _ x y=>Sc S x/\Sc S y/\(if op=3\/op=4 then (∀ v∈bv x,v ∉ bv y) else Qf x/\Qf y)
 | S,.three _ _ x y z=>Sc S x/\Sc S y/\Sc S z/\Qf x/\Qf y/\Qf z
theorem bv_quant {op w k b:Int} {x:Tr} (h:quant op=true):bv (.one op w k b x)=k :: bv x:=by
 have h2:¬ op=2:=by
  have hq2:op=19\/op=20:=by simpa [quant] using h
  omega
 unfold bv
 simp only [wk]
 rw [if_neg h2,if_pos h]
 rfl
theorem bv_not {w k b:Int} {x:Tr}:bv (.one 2 w k b x)=bv x:=by
 unfold bv
 simp only [wk,if_true]
 exact bv_turn x _
theorem bv_one {op w k b:Int} {x:Tr} (h2:¬ op=2) (h:¬ quant op=true):bv (.one op w k b x)=[]:=by
 unfold bv;simp only [wk];rw [if_neg h2,if_neg h];rfl
theorem bv_two {op w:Int} {x y:Tr} (h:op=3\/op=4):bv (.two op w x y)=bv x++bv y:=by
 unfold bv;simp only [wk];rw [if_pos h,List.map_append]
theorem bv_two' {op w:Int} {x y:Tr} (h:¬ (op=3\/op=4)):bv (.two op w x y)=[]:=by
 unfold bv;simp only [wk];rw [if_neg h];rfl
end Fr1
namespace Fr2
open Nd0 Qa0 Pl1 Pl2 Tm0 Tm1 Tm2 Tm3 Tm4 Tm5 Tm6 Tm8 Tm10 Tm11 Tm13 Tm14 Tr0 Vl1 Vl2 Vm0 Fr0 Fr1
end Fr2
namespace Fr3
open Nd0 Qa0 Pl1 Pl2 Tm0 Tm1 Tm2 Tm3 Tm4 Tm5 Tm6 Tm8 Tm9 Tm10 Tm11 Tm13 Tm14 Tr0 Vl1 Vl2 Vm0 Fr0 Fr1 Fr2
theorem wd_set_same {ws:List Int} {k:Int} {x:Int} (h:k.toNat < ws.length):wd (ws.set k.toNat x) k=x:=by
 unfold wd;simp [List.getD,h]
theorem wd_set_ne {ws:List Int} {k j:Int} {x:Int} (h:k.toNat≠j.toNat):wd (ws.set k.toNat x) j=wd ws j:=by
 unfold wd;simp [List.getD,List.getElem?_set_ne h]
def RQ (l:List Nd) (i:Nat):Prop:=flag (reachL l) i=true/\quant (nth l i).op=true
theorem quants_widths {l:List Nd} (hT:termOk l=true):∀ k,k<=l.length->∀ ws,quantsTo l k=some ws ->
 (∀ i,i < k->RQ l i->wd ws (nth l i).k=(nth l i).b)/\(∀ i j,i < j->j < k->RQ l i->RQ l j->(nth l i).k≠(nth l j).k):=by
 intro k
 induction k with
 | zero=>intro _ ws _;exact ⟨fun i hi=>absurd hi (Nat.not_lt_zero _),fun i j _ hj=>absurd hj (Nat.not_lt_zero _)⟩
 | succ k ih =>
   intro hk ws h
   cases hq:quantsTo l k with
   | none=>rw [quants_none hq (k+1) (by omega)] at h;cases h
   | some us =>
     rw [quants_succ hq] at h
     obtain ⟨h1,h2⟩:=ih (by omega) us hq
     unfold qStep at h
     by_cases hc:(flag (reachL l) k&&quant (nth l k).op)=true
     ·rw [if_pos hc] at h
      simp only [Bool.and_eq_true] at hc
      by_cases h0:wd us (nth l k).k=0
      ·rw [if_pos h0] at h
       cases h
       have hlen:=quants_len hq
       have hkk:=shape_var (term_node hT (by omega:k < l.length)) (.inr hc.2)
       have hne:∀ i,i < k->RQ l i->(nth l i).k≠(nth l k).k:=fun i hi hr he=>by
        have h3:=h1 i hi hr
        have h4:=quant_b (term_node hT (by omega:i < l.length)) hr.2
        rw [he,h0] at h3
        omega
       refine ⟨fun i hi hr=>?_,fun i j hij hj hi' hj'=>?_⟩
       ·by_cases e:i=k
        ·subst e
         exact wd_set_same (by omega)
        ·have h5:=hne i (by omega) hr
         have h6:=shape_var (term_node hT (by omega:i < l.length)) (.inr hr.2)
         rw [wd_set_ne (by omega)]
         exact h1 i (by omega) hr
       ·by_cases e:j=k
        ·subst e;exact hne i hij hi'
        ·exact h2 i j hij (by omega) hi' hj'
      ·rw [if_neg h0] at h;cases h
     ·rw [if_neg hc] at h
      cases h
      have hnk:¬ RQ l k:=fun hr=>hc (by rw [hr.1,hr.2];rfl)
      refine ⟨fun i hi hr=>?_,fun i j hij hj hi' hj'=>?_⟩
      ·by_cases e:i=k
       ·subst e;exact absurd hr hnk
       ·exact h1 i (by omega) hr
      ·by_cases e:j=k
       ·subst e;exact absurd hj' hnk
       ·exact h2 i j hij (by omega) hi' hj'
theorem ty_reached {l:List Nd} {ws:List Int} (hT:termOk l=true) (hq:quantsTo l l.length=some ws) (hw:Wid l ws):∀ i,i < l.length->flag (reachL l) i=true->Ty ws (tr l i):=by
 have hD:=down_of hT
 intro i
 induction i using Nat.strongRecOn with
 | ind i ih =>
   intro hi hf
   have hp:∀ p∈parts (nth l i),Ty ws (tr l p.toNat):=fun p hp=>by
    have h1:=hD i hi p hp
    exact ih _ (by omega) (by omega) (reach_closed hD hi hf hp)
   have hwid:=hw i hi hf
   have hqw:=(quants_widths hT _ (Nat.le_refl _) ws hq).1 i hi
   rw [tr_at hD hi]
   by_cases h1:(nth l i).op=2\/(nth l i).op=17\/(nth l i).op=19\/(nth l i).op=20
   ·rw [parts_one h1] at hp
    rw [mk_one h1]
    exact ⟨hp _ (by simp),fun h=>(hqw ⟨hf,h⟩).symm⟩
   ·by_cases h2:3<=(nth l i).op/\(nth l i).op<=16
    ·rw [parts_two h2] at hp
     rw [mk_two h2]
     exact ⟨hp _ (by simp),hp _ (by simp)⟩
    ·by_cases h3:(nth l i).op=18
     ·rw [parts_three h3] at hp
      rw [mk_three h3]
      exact ⟨hp _ (by simp),hp _ (by simp),hp _ (by simp)⟩
     ·rw [mk_leaf h1 h2 h3]
      exact hwid
theorem hold_qf {l:List Nd} (hD:Down l):∀ i,i < l.length->flag (holdTo l l.length) i=false->Qf (tr l i):=by
 intro i
 induction i using Nat.strongRecOn with
 | ind i ih =>
   intro hi hf
   rw [hold_at hD hi,Bool.or_eq_false_iff] at hf
   have hp:∀ p∈parts (nth l i),Qf (tr l p.toNat):=fun p hp=>by
    have h1:=hD i hi p hp
    have h2:=hf.2
    unfold below at h2
    rw [List.any_eq_false] at h2
    exact ih _ (by omega) (by omega) (by simpa using h2 p hp)
   rw [tr_at hD hi]
   by_cases h1:(nth l i).op=2\/(nth l i).op=17\/(nth l i).op=19\/(nth l i).op=20
   ·rw [parts_one h1] at hp
    rw [mk_one h1]
    exact ⟨hf.1,hp _ (by simp)⟩
   ·by_cases h2:3<=(nth l i).op/\(nth l i).op<=16
    ·rw [parts_two h2] at hp
     rw [mk_two h2]
     exact ⟨hp _ (by simp),hp _ (by simp)⟩
    ·by_cases h3:(nth l i).op=18
     ·rw [parts_three h3] at hp
      rw [mk_three h3]
      exact ⟨hp _ (by simp),hp _ (by simp),hp _ (by simp)⟩
     ·rw [mk_leaf h1 h2 h3]
      exact trivial
inductive Rch (l:List Nd) (i:Nat):Nat->Prop
 | refl:Rch l i i
 | down {y:Nat} {p:Int}:Rch l i y->p∈parts (nth l y)->Rch l i p.toNat
theorem Rch.le {l:List Nd} (hD:Down l) {i z:Nat} (hi:i < l.length) (h:Rch l i z):z<=i:=by
 induction h with
 | refl=>exact Nat.le_refl _
 | down h hp ih=>have:=hD _ (by omega) _ hp;omega
theorem Rch.flag {l:List Nd} (hD:Down l) {i z:Nat} (hi:i < l.length) (hf:flag (reachL l) i=true) (h:Rch l i z):Tm1.flag (reachL l) z=true:=by
 induction h with
 | refl=>exact hf
 | down h hp ih=>have:=h.le hD hi;exact reach_closed hD (by omega) ih hp
theorem Rch.part {l:List Nd} {i z:Nat} {p:Int} (hp:p∈parts (nth l i)) (h:Rch l p.toNat z):Rch l i z:=by
 induction h with
 | refl=>exact .down .refl hp
 | down h hq ih=>exact .down ih hq
theorem hold_part {l:List Nd} (hD:Down l) {i:Nat} (hi:i < l.length) {p:Int} (hp:p∈parts (nth l i)) (h:flag (holdTo l l.length) p.toNat=true):flag (holdTo l l.length) i=true:=by
 rw [hold_at hD hi]
 have:below (holdTo l l.length) (parts (nth l i))=true:=List.any_eq_true.2 ⟨p,hp,h⟩
 rw [this,Bool.or_true]
theorem Rch.hold {l:List Nd} (hD:Down l) {i z:Nat} (hi:i < l.length) (h:Rch l i z) (hz:Tm1.flag (holdTo l l.length) z=true):Tm1.flag (holdTo l l.length) i=true:=by
 induction h with
 | refl=>exact hz
 | down h hp ih=>have:=h.le hD hi;exact ih (hold_part hD (by omega) hp hz)
theorem quant_hold {l:List Nd} (hD:Down l) {i:Nat} (hi:i < l.length) (h:quant (nth l i).op=true):flag (holdTo l l.length) i=true:=by
 rw [hold_at hD hi,h];rfl
theorem times_pos {ps:List Int} {p:Int} (h:p∈ps):1<=times ps p.toNat:=by
 unfold times
 exact List.length_pos_of_mem (List.mem_filter.2 ⟨h,by simp⟩)
theorem uses_step {l:List Nd} (hD:Down l) {j:Nat} (hj:j < l.length) (hf:flag (reachL l) j=true) (z:Nat):wd (usesF l (j+1)) (z:Int)=wd (usesF l j) (z:Int)+(times (parts (nth l j)) z:Int):=by
 have e:usesF l (j+1)=if flag (reachL l) j then addUses (usesF l j) (parts (nth l j)) else usesF l j:=rfl
 rw [e,if_pos hf]
 exact addUses_wd _ _ z (fun p hp=>by have:=hD j hj p hp;rw [usesF_length];omega)
theorem uses_nonneg (l:List Nd) (k z:Nat):0<=wd (usesF l k) (z:Int):=by
 have h:=usesF_le l (Nat.zero_le k) z
 have e:wd (usesF l 0) (z:Int)=0:=wd_zeros _ _
 omega
section
variable {l:List Nd} (hD:Down l) (hM:Mov l)
include hD hM
theorem one_parent {j j':Nat} (hj:j < l.length) (hj':j' < l.length) (hf:flag (reachL l) j=true) (hf':flag (reachL l) j'=true) {p p':Int} (hp:p∈parts (nth l j)) (hp':p'∈parts (nth l j')) (he:p.toNat=p'.toNat) (hh:flag (holdTo l l.length) p.toNat=true):j=j':=by
 have key:∀ j j':Nat,j < j'->j' < l.length->flag (reachL l) j=true->flag (reachL l) j'=true->∀ p p':Int,p∈parts (nth l j)->p'∈parts (nth l j')->p.toNat=p'.toNat->flag (holdTo l l.length) p.toNat=true->False:=by
  intro j j' hlt hj' hf hf' p p' hp hp' he hh
  have h1:=uses_step hD (by omega:j < l.length) hf p.toNat
  have h2:=uses_step hD hj' hf' p.toNat
  have h3:=times_pos hp
  have h4:=times_pos hp'
  rw [<- he] at h4
  have h5:=usesF_le l (show j+1<=j' by omega) p.toNat
  have h6:=usesF_le l (show j'+1<=l.length by omega) p.toNat
  have h7:=uses_nonneg l j p.toNat
  have hb:=hD j (by omega) p hp
  have h8:=hM.2 p.toNat (by omega) (reach_closed hD (by omega) hf hp) hh
  omega
 rcases Nat.lt_trichotomy j j' with h|h|h
 ·exact (key j j' h hj' hf hf' p p' hp hp' he hh).elim
 ·exact h
 ·exact (key j' j h hj hf' hf p' p hp' hp he.symm (by rw [<- he];exact hh)).elim
theorem once {j:Nat} (hj:j < l.length) (hf:flag (reachL l) j=true) {p:Int} (hp:p∈parts (nth l j)) (hh:flag (holdTo l l.length) p.toNat=true):times (parts (nth l j)) p.toNat=1:=by
 have h1:=uses_step hD hj hf p.toNat
 have h3:=times_pos hp
 have h6:=usesF_le l (show j+1<=l.length by omega) p.toNat
 have h7:=uses_nonneg l j p.toNat
 have hb:=hD j hj p hp
 have h8:=hM.2 p.toNat (by omega) (reach_closed hD hj hf hp) hh
 omega
theorem chain {x y z:Nat} (hx:x < l.length) (hy:y < l.length) (fx:flag (reachL l) x=true) (fy:flag (reachL l) y=true) (h1:Rch l x z):flag (holdTo l l.length) z=true->Rch l y z->Rch l x y\/Rch l y x:=by
 induction h1 with
 | refl=>intro _ h;exact .inr h
 | down h hp ih =>
   rename_i u p
   intro hh h2
   have hu:=h.le hD hx
   have key:∀ z,Rch l y z->z=p.toNat->Rch l x y\/Rch l y x:=by
    intro z h2 he
    cases h2 with
    | refl=>subst he;exact .inl (.down h hp)
    | down h3 hp3 =>
      rename_i u' p'
      have hu':=h3.le hD hy
      have e:u=u':=one_parent hD hM (by omega) (by omega) (h.flag hD hx fx) (h3.flag hD hy fy) hp hp3 he.symm hh
      subst e
      exact ih (hold_part hD (by omega) hp hh) h3
   exact key _ h2 rfl
theorem apart {j:Nat} (hj:j < l.length) (hf:flag (reachL l) j=true) {p p':Int} (hp:p∈parts (nth l j)) (hp':p'∈parts (nth l j)) (ht:p.toNat=p'.toNat->2<=times (parts (nth l j)) p.toNat) {z:Nat} (h1:Rch l p.toNat z) (h2:Rch l p'.toNat z) (hz:flag (holdTo l l.length) z=true):False:=by
 have b1:=hD j hj p hp
 have b2:=hD j hj p' hp'
 have f1:=reach_closed hD hj hf hp
 have f2:=reach_closed hD hj hf hp'
 have key:∀ p p':Int,p∈parts (nth l j)->p'∈parts (nth l j)->flag (holdTo l l.length) p.toNat=true->flag (holdTo l l.length) p'.toNat=true->(p.toNat=p'.toNat->2<=times (parts (nth l j)) p.toNat)->0<=p/\p < (j:Int)->flag (reachL l) p.toNat=true->Rch l p.toNat p'.toNat->False:=by
  intro p p' hp hp' hh hh' ht b1 f1 hr
  generalize he:p'.toNat=z at hr
  cases hr with
  | refl =>
    have:=once hD hM hj hf hp hh
    have:=ht he.symm
    omega
  | down h3 hp3 =>
    rename_i u q
    have hu:=h3.le hD (by omega)
    have e:u=j:=one_parent hD hM (by omega) hj (h3.flag hD (by omega) f1) hf hp3 hp' he.symm (by rw [<- he];exact hh')
    omega
 have hh:=h1.hold hD (by omega) hz
 have hh':=h2.hold hD (by omega) hz
 rcases chain hD hM (by omega) (by omega) f1 f2 h1 hz h2 with hr|hr
 ·exact key p p' hp hp' hh hh' ht b1 f1 hr
 ·exact key p' p hp' hp hh' hh (fun he=>by rw [he];exact ht he.symm) b2 f2 hr
end
theorem bv_rch {l:List Nd} (hD:Down l):∀ i,i < l.length->∀ v∈bv (tr l i),∃ z,Rch l i z/\quant (nth l z).op=true/\(nth l z).k=v:=by
 intro i
 induction i using Nat.strongRecOn with
 | ind i ih =>
   intro hi v hv
   have hp:∀ p∈parts (nth l i),∀ v∈bv (tr l p.toNat),∃ z,Rch l i z/\quant (nth l z).op=true/\(nth l z).k=v:=fun p hp v hv=>by
    have h1:=hD i hi p hp
    obtain ⟨z,h2,h3⟩:=ih _ (by omega) (by omega) v hv
    exact ⟨z,h2.part hp,h3⟩
   rw [tr_at hD hi] at hv
   by_cases h1:(nth l i).op=2\/(nth l i).op=17\/(nth l i).op=19\/(nth l i).op=20
   ·rw [parts_one h1] at hp
    rw [mk_one h1] at hv
    by_cases h2:(nth l i).op=2
    ·rw [h2,bv_not] at hv
     exact hp _ (by simp) v hv
    ·by_cases hq:quant (nth l i).op=true
     ·rw [bv_quant hq] at hv
      rcases List.mem_cons.1 hv with rfl|hv
      ·exact ⟨i,.refl,hq,rfl⟩
      ·exact hp _ (by simp) v hv
     ·rw [bv_one h2 hq] at hv;cases hv
   ·by_cases h2:3<=(nth l i).op/\(nth l i).op<=16
    ·rw [parts_two h2] at hp
     rw [mk_two h2] at hv
     by_cases h3:(nth l i).op=3\/(nth l i).op=4
     ·rw [bv_two h3] at hv
      rcases List.mem_append.1 hv with hv|hv
      ·exact hp _ (by simp) v hv
      ·exact hp _ (by simp) v hv
     ·rw [bv_two' h3] at hv;cases hv
    ·by_cases h3:(nth l i).op=18
     ·rw [mk_three h3] at hv;cases hv
     ·rw [mk_leaf h1 h2 h3] at hv;cases hv
theorem sc_reached {l:List Nd} {ws:List Int} (hT:termOk l=true) (hq:quantsTo l l.length=some ws) (hM:Mov l):∀ i,i < l.length->flag (reachL l) i=true->∀ S:List Int,
 (∀ v:Nat,v < 8->flag (row (freeRows l l.length) (i:Int)) v=true->(v:Int)∈S)->(∀ z,Rch l i z->quant (nth l z).op=true->(nth l z).k ∉ S)->Sc S (tr l i):=by
 have hD:=down_of hT
 have hdist:=(quants_widths hT _ (Nat.le_refl _) ws hq).2
 intro i
 induction i using Nat.strongRecOn with
 | ind i ih =>
   intro hi hf S hfr hqs
   have hbnd:=hD i hi
   have hfl:∀ p∈parts (nth l i),flag (reachL l) p.toNat=true:=fun p hp=>reach_closed hD hi hf hp
   have hfree:∀ v:Nat,v < 8->freeAt (freeRows l l.length) (nth l i) v=true->(v:Int)∈S:=fun v hv h=>hfr v hv (by rw [free_at hD hi hv];exact h)
   have hpin:∀ p∈parts (nth l i),∀ v:Nat,flag (row (freeRows l l.length) ((p.toNat:Nat):Int)) v=true->inParts (freeRows l l.length) (parts (nth l i)) v=true:=fun p hp v h=>by
    have hb:=hbnd p hp
    rw [Int.toNat_of_nonneg hb.1] at h
    exact List.any_eq_true.2 ⟨p,hp,h⟩
   have hplain:quant (nth l i).op=false->∀ p∈parts (nth l i),Sc S (tr l p.toNat):=fun hnq p hp=>by
    have hb:=hbnd p hp
    refine ih _ (by omega) (by omega) (hfl p hp) S (fun v hv h=>hfree v hv ?_) (fun z hz=>hqs z (hz.part hp))
    unfold freeAt
    have hq2:((nth l i).op==19||(nth l i).op==20)=false:=hnq
    rw [hq2,hpin p hp v h]
    simp
   have hqf:outer (nth l i).op=false->∀ p∈parts (nth l i),Qf (tr l p.toNat):=fun ho p hp=>by
    have hb:=hbnd p hp
    refine hold_qf hD _ (by omega) ?_
    cases hh:flag (holdTo l l.length) p.toNat with
    | false=>rfl
    | true =>
      have:=hM.1 i hi hf (hold_part hD hi hp hh)
      rw [ho] at this;cases this
   rw [tr_at hD hi]
   by_cases h1:(nth l i).op=2\/(nth l i).op=17\/(nth l i).op=19\/(nth l i).op=20
   ·rw [mk_one h1]
    have hpa:(nth l i).a∈parts (nth l i):=by rw [parts_one h1];simp
    have hb:=hbnd _ hpa
    simp only [Sc]
    by_cases h2:(nth l i).op=2
    ·rw [if_pos h2]
     exact hplain (by rw [h2];rfl) _ hpa
    ·rw [if_neg h2]
     by_cases hqu:quant (nth l i).op=true
     ·rw [if_pos hqu]
      refine ⟨hqs i .refl hqu,?_⟩
      refine ih _ (by omega) (by omega) (hfl _ hpa) _ (fun v hv h=>?_) (fun z hz hzq hm=>?_)
      ·by_cases e:(nth l i).k=(v:Int)
       ·rw [<- e];exact List.mem_cons_self
       ·refine List.mem_cons_of_mem _ (hfree v hv ?_)
        unfold freeAt
        rw [if_neg (by simp [e]),hpin _ hpa v h,Bool.or_true]
      ·rcases List.mem_cons.1 hm with he|hm
       ·have hz1:=hz.le hD (by omega)
        have hz2:=hz.flag hD (by omega) (hfl _ hpa)
        exact hdist z i (by omega) hi ⟨hz2,hzq⟩ ⟨hf,hqu⟩ he
       ·exact hqs z (hz.part hpa) hzq hm
     ·rw [if_neg hqu]
      have hqu':quant (nth l i).op=false:=by simpa using hqu
      have h17:(nth l i).op=17:=by
       have:¬ ((nth l i).op=19\/(nth l i).op=20):=fun h=>hqu (by rcases h with h|h<;>rw [h]<;>rfl)
       omega
      exact ⟨hqf (by rw [h17];rfl) _ hpa,hplain hqu' _ hpa⟩
   ·by_cases h2:3<=(nth l i).op/\(nth l i).op<=16
    ·rw [mk_two h2]
     have hpa:(nth l i).a∈parts (nth l i):=by rw [parts_two h2];simp
     have hpb:(nth l i).b∈parts (nth l i):=by rw [parts_two h2];simp
     have hb1:=hbnd _ hpa
     have hb2:=hbnd _ hpb
     have hqu:quant (nth l i).op=false:=by
      have:¬ (nth l i).op=19/\¬ (nth l i).op=20:=by omega
      simpa [quant] using this
     refine ⟨hplain hqu _ hpa,hplain hqu _ hpb,?_⟩
     by_cases h3:(nth l i).op=3\/(nth l i).op=4
     ·rw [if_pos h3]
      intro v hv hv'
      obtain ⟨z,hz,hzq,hzk⟩:=bv_rch hD _ (by omega) v hv
      obtain ⟨z',hz',hzq',hzk'⟩:=bv_rch hD _ (by omega) v hv'
      have hl:=hz.le hD (by omega)
      have hl':=hz'.le hD (by omega)
      have hzf:=hz.flag hD (by omega) (hfl _ hpa)
      have hzf':=hz'.flag hD (by omega) (hfl _ hpb)
      have e:z=z':=by
       rcases Nat.lt_trichotomy z z' with h|h|h
       ·exact absurd (hzk.trans hzk'.symm) (hdist z z' h (by omega) ⟨hzf,hzq⟩ ⟨hzf',hzq'⟩)
       ·exact h
       ·exact absurd (hzk'.trans hzk.symm) (hdist z' z h (by omega) ⟨hzf',hzq'⟩ ⟨hzf,hzq⟩)
      subst e
      refine apart hD hM hi hf hpa hpb (fun he=>?_) hz hz' (quant_hold hD (by omega) hzq)
      rw [parts_two h2]
      simp [times,he]
     ·rw [if_neg h3]
      have ho:outer (nth l i).op=false:=by
       have:¬ (nth l i).op=2/\¬ (nth l i).op=3/\¬ (nth l i).op=4:=by omega
       unfold outer
       rw [hqu]
       simp [this.1,this.2.1,this.2.2]
      exact ⟨hqf ho _ hpa,hqf ho _ hpb⟩
    ·by_cases h3:(nth l i).op=18
     ·rw [mk_three h3]
      have hpa:(nth l i).a∈parts (nth l i):=by rw [parts_three h3];simp
      have hpb:(nth l i).b∈parts (nth l i):=by rw [parts_three h3];simp
      have hpc:(nth l i).c∈parts (nth l i):=by rw [parts_three h3];simp
      have hqu:quant (nth l i).op=false:=by rw [h3];rfl
      have ho:outer (nth l i).op=false:=by rw [h3];rfl
      exact ⟨hplain hqu _ hpa,hplain hqu _ hpb,hplain hqu _ hpc,hqf ho _ hpa,hqf ho _ hpb,hqf ho _ hpc⟩
     ·rw [mk_leaf h1 h2 h3]
      intro h4
      have hk:=shape_var (term_node hT hi) (.inl h4)
      have:=hfree (nth l i).k.toNat (by omega) (by
       unfold freeAt
       rw [Int.toNat_of_nonneg hk.1,h4]
       simp)
      rw [Int.toNat_of_nonneg hk.1] at this
      exact this
theorem free_none {l:List Nd} (hT:termOk l=true) (h:(freeL l).length=0):∀ v:Nat,v < 8->flag (row (freeRows l l.length) ((l.length - 1:Nat):Int)) v=false:=by
 intro v hv
 obtain ⟨h1,h2⟩:=term_len hT
 cases hf:flag (row (freeRows l l.length) ((l.length - 1:Nat):Int)) v with
 | false=>rfl
 | true =>
   have e:((l.length - 1:Nat):Int)=(l.length:Int) - 1:=by omega
   rw [e] at hf
   have hm:(v:Int)∈freeL l:=by
    unfold freeL
    rw [hT]
    exact List.mem_map.2 ⟨v,List.mem_filter.2 ⟨List.mem_range.2 hv,hf⟩,rfl⟩
   have:freeL l=[]:=List.eq_nil_of_length_eq_zero h
   rw [this] at hm;cases hm
theorem sent_tree {l:List Nd} (h:sentB l=true):∃ ws,quantsTo l l.length=some ws/\Rt (root l)/\(root l).wid=1/\Ty ws (root l)/\Sc [] (root l):=by
 obtain ⟨hT,hw,hf,ws,hq,hW,hM⟩:=(sent_iff l).1 h
 obtain ⟨h1,h2⟩:=term_len hT
 have hD:=down_of hT
 have hr:=rt_all hD (fun k hk=>term_node hT hk) (l.length - 1) (by omega)
 have hreach:=reach_root h1
 refine ⟨ws,hq,hr.1,by rw [root,hr.2,hw],ty_reached hT hq hW _ (by omega) hreach,?_⟩
 refine sc_reached hT hq hM _ (by omega) hreach [] (fun v hv hv2=>?_) (fun z _ _=>by simp)
 rw [free_none hT hf v hv] at hv2;cases hv2
end Fr3
end Go.Proofs.YtbellafdjfliiaaGreat
