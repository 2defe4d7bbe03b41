import Derived.Test.YtebejleeadofcaaGreatPkFR18
namespace Go.Proofs.YtebejleeadofcaaGreat
set_option maxRecDepth 100000
set_option maxHeartbeats 8000000
set_option linter.unusedVariables false
namespace Fr1
open Nd0 Qa0 Pl1 Pl2 Tm0 Tm5 Tm6 Tr0 Vl1 Vl2 Vm0 Fr0
def turnQ (x:Qu):Qu:=⟨!x.all,x.vr,x.bits⟩
def wk:Tr->Bool->List Qu
 | .leaf _ _ _,_=>[]
 | .one op _ k b x,u=>if op=2 then wk x (!u) else if quant op then ⟨(op==19) != u,k,b⟩ :: wk x u else []
 | .two op _ x y,u=>if op=3\/op=4 then wk x u++wk y u else []
 | .three _ _ _ _ _,_=>[]
theorem wk_turn:∀ (t:Tr) (u:Bool),wk t (!u)=(wk t u).map turnQ:=by
 intro t
 induction t with
 | leaf op w k=>intro u;rfl
 | one op w k b x ih =>
   intro u
   simp only [wk]
   by_cases h:op=2
   ·rw [if_pos h,if_pos h];exact ih _
   ·rw [if_neg h,if_neg h]
    by_cases hq:quant op=true
    ·rw [if_pos hq,if_pos hq,List.map_cons,ih]
     refine congrArg (fun z=>z :: _) ?_
     cases u<;>cases (op==19)<;>rfl
    ·rw [if_neg hq,if_neg hq];rfl
 | two op w x y ih1 ih2 =>
   intro u
   simp only [wk]
   split
   ·rw [ih1,ih2,List.map_append]
   ·rfl
 | three op w x y z ih1 ih2 ih3=>intro u;rfl
def str:Tr->Tr
 | .leaf op w k=>.leaf op w k
 | .one op w k b x=>if quant op then str x else .one op w k b (str x)
 | .two op w x y=>.two op w (str x) (str y)
 | .three op w x y z=>.three op w (str x) (str y) (str z)
def HF:List Qu->(List Int->Prop)->List Int->Prop
 | [],P,e=>P e
 | x :: q,P,e=>if x.all then ∀ i:Nat,i < 2 ^ x.bits.toNat->HF q P (e.set x.vr.toNat (i:Int)) else ∃ i:Nat,i < 2 ^ x.bits.toNat/\HF q P (e.set x.vr.toNat (i:Int))
def hf:List Qu->Tr->List Int->Int
 | [],t,e=>vT t e
 | x :: q,t,e=>if x.all then allN (fun i=>hf q t (e.set x.vr.toNat (i:Int))) (2 ^ x.bits.toNat) else anyN (fun i=>hf q t (e.set x.vr.toNat (i:Int))) (2 ^ x.bits.toNat)
theorem hf_HF:∀ (q:List Qu) (t:Tr) (e:List Int),hf q t e=1↔HF q (fun e=>vT t e=1) e:=by
 intro q t
 induction q with
 | nil=>intro e;exact Iff.rfl
 | cons x q ih =>
   intro e
   simp only [hf,HF]
   cases x.all with
   | true =>
     simp only [if_true]
     rw [allN_one]
     exact ⟨fun h i hi=>(ih _).1 (h i hi),fun h i hi=>(ih _).2 (h i hi)⟩
   | false =>
     simp only [Bool.false_eq_true,if_false]
     rw [anyN_one]
     exact ⟨fun ⟨i,hi,h⟩=>⟨i,hi,(ih _).1 h⟩,fun ⟨i,hi,h⟩=>⟨i,hi,(ih _).2 h⟩⟩
theorem hf_bit (x:Qu) (q:List Qu) (t:Tr) (e:List Int):hf (x :: q) t e=0\/hf (x :: q) t e=1:=by
 simp only [hf]
 split
 ·exact allN_bit _ _
 ·exact anyN_bit _ _
theorem HF_not:∀ (q:List Qu) (P:List Int->Prop) (e:List Int),(¬ HF q P e)↔HF (q.map turnQ) (fun e=>¬ P e) e:=by
 intro q P
 induction q with
 | nil=>intro e;exact Iff.rfl
 | cons x q ih =>
   intro e
   obtain ⟨a,v,b⟩:=x
   cases a with
   | true =>
     simp only [HF,List.map_cons,turnQ,if_true,Bool.not_true,Bool.false_eq_true,if_false]
     constructor
     ·intro h
      apply Classical.byContradiction
      intro hn
      refine h (fun i hi=>?_)
      apply Classical.byContradiction
      intro h2
      exact hn ⟨i,hi,(ih _).1 h2⟩
     ·rintro ⟨i,hi,h⟩ h2
      exact (ih _).2 h (h2 i hi)
   | false =>
     simp only [HF,List.map_cons,turnQ,Bool.not_false,Bool.false_eq_true,if_false,if_true]
     constructor
     ·intro h i hi
      exact (ih _).1 (fun h2=>h ⟨i,hi,h2⟩)
     ·rintro h ⟨i,hi,h2⟩
      exact (ih _).2 (h i hi) h2
theorem HF_append:∀ (p q:List Qu) (P:List Int->Prop) (e:List Int),HF (p++q) P e↔HF p (HF q P) e:=by
 intro p q P
 induction p with
 | nil=>intro e;exact Iff.rfl
 | cons x p ih =>
   intro e
   simp only [List.cons_append,HF]
   split
   ·exact ⟨fun h i hi=>(ih _).1 (h i hi),fun h i hi=>(ih _).2 (h i hi)⟩
   ·exact ⟨fun ⟨i,hi,h⟩=>⟨i,hi,(ih _).1 h⟩,fun ⟨i,hi,h⟩=>⟨i,hi,(ih _).2 h⟩⟩
def EnvOk (ws e:List Int):Prop:=e.length=8/\∀ v:Nat,v < 8->wd ws (v:Int)≠0->wok (wd ws (v:Int)) (wd e (v:Int))=true
def TyQ (ws:List Int) (x:Qu):Prop:=0<=x.vr/\x.vr<=7/\1<=x.bits/\x.bits<=8/\x.bits=wd ws x.vr
theorem EnvOk.set {ws e:List Int} {x:Qu} (hx:TyQ ws x) (h:EnvOk ws e) {i:Nat} (hi:i < 2 ^ x.bits.toNat):EnvOk ws (e.set x.vr.toNat (i:Int)):=by
 refine ⟨by rw [List.length_set];exact h.1,fun v hv h0=>?_⟩
 obtain ⟨h1,h2,h3,h4,h5⟩:=hx
 have hl:=h.1
 by_cases hc:x.vr.toNat=v
 ·have e1:wd (e.set x.vr.toNat (i:Int)) (v:Int)=(i:Int):=by
   unfold wd
   rw [Int.toNat_natCast,<- hc]
   simp [List.getD,show x.vr.toNat < e.length by omega]
  have e2:wd ws (v:Int)=x.bits:=by rw [h5,<- hc];unfold wd;rw [Int.toNat_natCast]
  rw [e1,e2]
  exact wok_of_nat h3 h4 hi
 ·have e1:wd (e.set x.vr.toNat (i:Int)) (v:Int)=wd e (v:Int):=by
   unfold wd
   rw [Int.toNat_natCast]
   simp [List.getD,List.getElem?_set_ne hc]
  rw [e1]
  exact h.2 v hv h0
theorem HF_congr {ws:List Int} {P P':List Int->Prop} (hP:∀ e,EnvOk ws e->(P e↔P' e)):∀ (q:List Qu),(∀ x∈q,TyQ ws x)->∀ e,EnvOk ws e->(HF q P e↔HF q P' e):=by
 intro q
 induction q with
 | nil=>intro _ e he;exact hP e he
 | cons x q ih =>
   intro hq e he
   have ih':=ih (fun y hy=>hq y (List.mem_cons_of_mem _ hy))
   have hx:=hq x List.mem_cons_self
   simp only [HF]
   split
   ·exact ⟨fun h i hi=>(ih' _ (he.set hx hi)).1 (h i hi),fun h i hi=>(ih' _ (he.set hx hi)).2 (h i hi)⟩
   ·exact ⟨fun ⟨i,hi,h⟩=>⟨i,hi,(ih' _ (he.set hx hi)).1 h⟩,fun ⟨i,hi,h⟩=>⟨i,hi,(ih' _ (he.set hx hi)).2 h⟩⟩
def Ind (v:Int) (P:List Int->Prop):Prop:=∀ (e:List Int) (i:Int),P (e.set v.toNat i)↔P e
theorem HF_and {C:List Int->Prop}:∀ (q:List Qu),(∀ x∈q,Ind x.vr C)->∀ (P:List Int->Prop) (e:List Int),HF q (fun e=>P e/\C e) e↔HF q P e/\C e:=by
 intro q
 induction q with
 | nil=>intro _ P e;exact Iff.rfl
 | cons x q ih =>
   intro hq P e
   have ih':=ih (fun y hy=>hq y (List.mem_cons_of_mem _ hy)) P
   have hx:=hq x List.mem_cons_self
   have hp:0 < 2 ^ x.bits.toNat:=Nat.two_pow_pos _
   simp only [HF]
   split
   ·constructor
    ·intro h
     exact ⟨fun i hi=>((ih' _).1 (h i hi)).1,(hx e _).1 ((ih' _).1 (h 0 hp)).2⟩
    ·rintro ⟨h1,h2⟩ i hi
     exact (ih' _).2 ⟨h1 i hi,(hx e _).2 h2⟩
   ·constructor
    ·rintro ⟨i,hi,h⟩
     have:=(ih' _).1 h
     exact ⟨⟨i,hi,this.1⟩,(hx e _).1 this.2⟩
    ·rintro ⟨⟨i,hi,h⟩,h2⟩
     exact ⟨i,hi,(ih' _).2 ⟨h,(hx e _).2 h2⟩⟩
theorem HF_or {C:List Int->Prop}:∀ (q:List Qu),(∀ x∈q,Ind x.vr C)->∀ (P:List Int->Prop) (e:List Int),HF q (fun e=>P e\/C e) e↔HF q P e\/C e:=by
 intro q
 induction q with
 | nil=>intro _ P e;exact Iff.rfl
 | cons x q ih =>
   intro hq P e
   have ih':=ih (fun y hy=>hq y (List.mem_cons_of_mem _ hy)) P
   have hx:=hq x List.mem_cons_self
   have hp:0 < 2 ^ x.bits.toNat:=Nat.two_pow_pos _
   simp only [HF]
   split
   ·constructor
    ·intro h
     by_cases hc:C e
     ·exact .inr hc
     ·refine .inl fun i hi=>?_
      rcases (ih' _).1 (h i hi) with h1|h1
      ·exact h1
      ·exact absurd ((hx e _).1 h1) hc
    ·rintro (h|h) i hi
     ·exact (ih' _).2 (.inl (h i hi))
     ·exact (ih' _).2 (.inr ((hx e _).2 h))
   ·constructor
    ·rintro ⟨i,hi,h⟩
     rcases (ih' _).1 h with h1|h1
     ·exact .inl ⟨i,hi,h1⟩
     ·exact .inr ((hx e _).1 h1)
    ·rintro (⟨i,hi,h⟩|h)
     ·exact ⟨i,hi,(ih' _).2 (.inl h)⟩
     ·exact ⟨0,hp,(ih' _).2 (.inr ((hx e _).2 h))⟩
theorem HF_ind {P:List Int->Prop} {v:Int} (hv:Ind v P):∀ (q:List Qu),(∀ x∈q,x.vr.toNat≠v.toNat)->Ind v (HF q P):=by
 intro q
 induction q with
 | nil=>intro _;exact hv
 | cons x q ih =>
   intro hq e i
   have ih':=ih (fun y hy=>hq y (List.mem_cons_of_mem _ hy))
   have hx:=hq x List.mem_cons_self
   simp only [HF]
   split
   ·constructor
    ·intro h j hj
     have:=h j hj
     rw [List.set_comm _ _ (fun h=>hx h.symm)] at this
     exact (ih' _ _).1 this
    ·intro h j hj
     rw [List.set_comm _ _ (fun h=>hx h.symm)]
     exact (ih' _ _).2 (h j hj)
   ·constructor
    ·rintro ⟨j,hj,h⟩
     rw [List.set_comm _ _ (fun h=>hx h.symm)] at h
     exact ⟨j,hj,(ih' _ _).1 h⟩
    ·rintro ⟨j,hj,h⟩
     refine ⟨j,hj,?_⟩
     rw [List.set_comm _ _ (fun h=>hx h.symm)]
     exact (ih' _ _).2 h
def Ty (ws:List Int):Tr->Prop
 | .leaf op w k=>op=1->w=wd ws k
 | .one op _ k b x=>Ty ws x/\(quant op=true->b=wd ws k)
 | .two _ _ x y=>Ty ws x/\Ty ws y
 | .three _ _ x y z=>Ty ws x/\Ty ws y/\Ty ws z
theorem wd_nat (ws:List Int) {k:Int} (hk:0<=k):wd ws ((k.toNat:Nat):Int)=wd ws k:=by rw [Int.toNat_of_nonneg hk]
theorem or_same {a b c:Nat} (ha:a=0\/a=c) (hb:b=0\/b=c):a ||| b=0\/a ||| b=c:=by
 rcases ha with rfl|rfl<;>rcases hb with rfl|rfl<;>simp
theorem need_ty {ws:List Int}:∀ (t:Tr),Rt t->Ty ws t->∃ r,needT t=some r/\∀ v:Nat,v < 8->r.getD v 0=0\/r.getD v 0=2 ^ (wd ws (v:Int)).toNat:=by
 intro t
 induction t with
 | leaf op w k =>
   intro hR hT
   refine ⟨_,rfl,fun v hv=>?_⟩
   rw [show ((List.range 8).map fun (v:Nat)=>if op=1/\k=(v:Int) then 2 ^ w.toNat else 0).getD v 0=(if op=1/\k=(v:Int) then 2 ^ w.toNat else 0) by simp [List.getD,hv]]
   split
   ·rename_i h
    rw [hT h.1,h.2];exact .inr rfl
   ·exact .inl rfl
 | one op w k b x ih =>
   intro hR hT
   obtain ⟨r,h1,h2⟩:=ih hR.2.2.1 hT.1
   have hl:=need_len _ _ h1
   simp only [needT]
   rw [h1]
   simp only [Option.bind_some]
   by_cases hq:quant op=true
   ·rw [if_pos hq]
    have hk:0<=k/\k<=7:=by
     have hq2:op=19\/op=20:=by simpa [quant] using hq
     rcases hR.2.2.2 with h|h|h
     ·omega
     ·omega
     ·exact ⟨h.2.2.2.1,h.2.2.2.2.1⟩
    have h3:=h2 k.toNat (by omega)
    rw [wd_nat ws hk.1,<- hT.2 hq] at h3
    rw [if_neg (fun hc=>h3.elim (fun h=>hc.1 h) (fun h=>hc.2 h))]
    refine ⟨_,rfl,fun v hv=>?_⟩
    by_cases hc:k.toNat=v
    ·left
     rw [<- hc];simp [List.getD,hl,show k.toNat < 8 by omega]
    ·have:(r.set k.toNat 0).getD v 0=r.getD v 0:=by simp [List.getD,List.getElem?_set_ne hc]
     rw [this];exact h2 v hv
   ·rw [if_neg hq]
    exact ⟨r,rfl,h2⟩
 | two op w x y ih1 ih2 =>
   intro hR hT
   obtain ⟨r,h1,h2⟩:=ih1 hR.2.2.1 hT.1
   obtain ⟨s,h3,h4⟩:=ih2 hR.2.2.2.1 hT.2
   simp only [needT]
   rw [h1,h3]
   exact ⟨_,rfl,fun v hv=>by rw [or_at r s hv];exact or_same (h2 v hv) (h4 v hv)⟩
 | three op w x y z ih1 ih2 ih3 =>
   intro hR hT
   obtain ⟨r,h1,h2⟩:=ih1 hR.2.2.1 hT.1
   obtain ⟨s,h3,h4⟩:=ih2 hR.2.2.2.1 hT.2.1
   obtain ⟨u,h5,h6⟩:=ih3 hR.2.2.2.2.1 hT.2.2
   simp only [needT]
   rw [h1,h3,h5]
   exact ⟨_,rfl,fun v hv=>by rw [or_at _ u hv,or_at r s hv];exact or_same (or_same (h2 v hv) (h4 v hv)) (h6 v hv)⟩
theorem fits_ty {ws e:List Int} {r:List Nat} (h:∀ v:Nat,v < 8->r.getD v 0=0\/r.getD v 0=2 ^ (wd ws (v:Int)).toNat) (he:EnvOk ws e):Fits r e:=by
 intro v hv j h1 h8 hb
 rcases h v hv with h0|h0
 ·rw [h0,Nat.zero_testBit] at hb;cases hb
 ·rw [h0,Nat.testBit_two_pow] at hb
  have hj:(wd ws (v:Int)).toNat=j:=of_decide_eq_true hb
  have hw:wd ws (v:Int)=(j:Int):=by omega
  have:=he.2 v hv (by omega)
  rw [hw] at this
  have e1:wd e (v:Int)=e.getD v 0:=by unfold wd;rw [Int.toNat_natCast]
  rw [<- e1];exact this
theorem ty_word {ws e:List Int} {t:Tr} (hR:Rt t) (hT:Ty ws t) (he:EnvOk ws e):wok t.wid (vT t e)=true:=by
 obtain ⟨r,h1,h2⟩:=need_ty t hR hT
 exact value_word t r e hR h1 he.1 (fits_ty h2 he)
theorem ty_bit {ws e:List Int} {t:Tr} (hR:Rt t) (hT:Ty ws t) (he:EnvOk ws e) (hw:t.wid=1):vT t e=0\/vT t e=1:=by
 have h:=ty_word hR hT he
 rw [hw] at h
 have h3:=wok_iff.1 h
 have h4:p2 (1:Int).toNat=2:=rfl
 rw [h4] at h3
 omega
def Qf:Tr->Prop
 | .leaf _ _ _=>True
 | .one op _ _ _ x=>quant op=false/\Qf x
 | .two _ _ x y=>Qf x/\Qf y
 | .three _ _ x y z=>Qf x/\Qf y/\Qf z
theorem qf_wk:∀ (t:Tr) (u:Bool),Qf t->wk t u=[]:=by
 intro t
 induction t with
 | leaf op w k=>intro u _;rfl
 | one op w k b x ih =>
   intro u h
   simp only [wk]
   split
   ·exact ih _ h.2
   ·rw [h.1];rfl
 | two op w x y ih1 ih2 =>
   intro u h
   simp only [wk]
   split
   ·rw [ih1 _ h.1,ih2 _ h.2];rfl
   ·rfl
 | three op w x y z ih1 ih2 ih3=>intro u _;rfl
theorem qf_str:∀ (t:Tr),Qf t->str t=t:=by
 intro t
 induction t with
 | leaf op w k=>intro _;rfl
 | one op w k b x ih=>intro h;simp only [str];rw [h.1,ih h.2];rfl
 | two op w x y ih1 ih2=>intro h;simp only [str];rw [ih1 h.1,ih2 h.2]
 | three op w x y z ih1 ih2 ih3=>intro h;simp only [str];rw [ih1 h.1,ih2 h.2.1,ih3 h.2.2]
def bv (t:Tr):List Int:=(wk t false).map (·.vr)
theorem bv_turn (t:Tr) (u:Bool):(wk t u).map (·.vr)=bv t:=by
 cases u with
 | false=>rfl
 | true =>
   have:=wk_turn t false
   simp only [Bool.not_false] at this
   rw [this,List.map_map]
   rfl
def Sc:List Int->Tr->Prop
 | S,.leaf op _ k=>op=1->k∈S
 | S,.one op _ k _ x=>if op=2 then Sc S x else if quant op then k ∉ S/\Sc (k :: S) x else Qf x/\Sc S x
 | S,.two op _ x y=>Sc S x/\Sc S y/\(if op=3\/op=4 then (∀ v∈bv x,v ∉ bv y) else Qf x/\Qf y)
 | S,.three _ _ x y z=>Sc S x/\Sc S y/\Sc S z/\Qf x/\Qf y/\Qf z
theorem bv_quant {op w k b:Int} {x:Tr} (h:quant op=true):bv (.one op w k b x)=k :: bv x:=by
 have h2:¬ op=2:=by
  have hq2:op=19\/op=20:=by simpa [quant] using h
  omega
 unfold bv
 simp only [wk]
 rw [if_neg h2,if_pos h]
 rfl
theorem bv_not {w k b:Int} {x:Tr}:bv (.one 2 w k b x)=bv x:=by
 unfold bv
 simp only [wk,if_true]
 exact bv_turn x _
theorem bv_one {op w k b:Int} {x:Tr} (h2:¬ op=2) (h:¬ quant op=true):bv (.one op w k b x)=[]:=by
 unfold bv;simp only [wk];rw [if_neg h2,if_neg h];rfl
theorem bv_two {op w:Int} {x y:Tr} (h:op=3\/op=4):bv (.two op w x y)=bv x++bv y:=by
 unfold bv;simp only [wk];rw [if_pos h,List.map_append]
theorem bv_two' {op w:Int} {x y:Tr} (h:¬ (op=3\/op=4)):bv (.two op w x y)=[]:=by
 unfold bv;simp only [wk];rw [if_neg h];rfl
theorem bv_qf {t:Tr} (h:Qf t):bv t=[]:=by unfold bv;rw [qf_wk t false h];rfl
theorem sc_bv:∀ (t:Tr) (S:List Int),Sc S t->∀ v∈bv t,v ∉ S:=by
 intro t
 induction t with
 | leaf op w k=>intro S _ v hv;cases hv
 | one op w k b x ih =>
   intro S h v hv
   simp only [Sc] at h
   by_cases h2:op=2
   ·subst h2
    rw [if_pos rfl] at h
    rw [bv_not] at hv
    exact ih S h v hv
   ·rw [if_neg h2] at h
    by_cases hq:quant op=true
    ·rw [if_pos hq] at h
     rw [bv_quant hq] at hv
     rcases List.mem_cons.1 hv with rfl|hv
     ·exact h.1
     ·exact fun hs=>ih _ h.2 v hv (List.mem_cons_of_mem _ hs)
    ·rw [bv_one h2 hq] at hv;cases hv
 | two op w x y ih1 ih2 =>
   intro S h v hv
   by_cases hc:op=3\/op=4
   ·rw [bv_two hc] at hv
    rcases List.mem_append.1 hv with hv|hv
    ·exact ih1 S h.1 v hv
    ·exact ih2 S h.2.1 v hv
   ·rw [bv_two' hc] at hv;cases hv
 | three op w x y z ih1 ih2 ih3=>intro S _ v hv;cases hv
theorem getD_set_ne (e:List Int) {a b:Nat} (h:a≠b) (i:Int):(e.set a i).getD b 0=e.getD b 0:=by
 simp [List.getD,List.getElem?_set_ne h]
theorem str_ind:∀ (t:Tr) (S:List Int),Rt t->Sc S t->(∀ s∈S,0<=s)->∀ v:Int,0<=v->v ∉ S->v ∉ bv t->∀ (e:List Int) (i:Int),vT (str t) (e.set v.toNat i)=vT (str t) e:=by
 intro t
 induction t with
 | leaf op w k =>
   intro S hR h hS v hv hs hb e i
   simp only [str,vT]
   by_cases h1:op=1
   ·rw [if_pos h1,if_pos h1]
    have hk:=h h1
    have h0:=hS k hk
    refine getD_set_ne e (fun hc=>hs ?_) i
    have:v=k:=by omega
    rw [this];exact hk
   ·rw [if_neg h1,if_neg h1]
 | one op w k b x ih =>
   intro S hR h hS v hv hs hb e i
   simp only [Sc] at h
   have hq19:quant op=false->¬ op=19/\¬ op=20:=fun h=>by simpa [quant] using h
   by_cases h2:op=2
   ·subst h2
    rw [if_pos rfl] at h
    rw [bv_not] at hb
    have:=ih S hR.2.2.1 h hS v hv hs hb e i
    simp only [str,vT,show quant 2=false from rfl,Bool.false_eq_true,show ¬ (2:Int)=19 by decide,show ¬ (2:Int)=20 by decide,if_false]
    rw [this]
   ·rw [if_neg h2] at h
    by_cases hq:quant op=true
    ·rw [if_pos hq] at h
     rw [bv_quant hq] at hb
     have hk:0<=k:=by
      have hq2:op=19\/op=20:=by simpa [quant] using hq
      rcases hR.2.2.2 with h5|h5|h5
      ·omega
      ·omega
      ·exact h5.2.2.2.1
     have:=ih (k :: S) hR.2.2.1 h.2 (fun s hs=>by rcases List.mem_cons.1 hs with rfl|hs;exact hk;exact hS s hs) v hv (fun hm=>by rcases List.mem_cons.1 hm with rfl|hm;exact hb List.mem_cons_self;exact hs hm) (fun hm=>hb (List.mem_cons_of_mem _ hm)) e i
     simp only [str]
     rw [if_pos hq]
     exact this
    ·rw [if_neg hq] at h
     have hqf:quant op=false:=by simpa using hq
     have:=ih S hR.2.2.1 h.2 hS v hv hs (by rw [bv_qf h.1];simp) e i
     simp only [str]
     rw [if_neg hq]
     simp only [vT]
     rw [if_neg (hq19 hqf).1,if_neg (hq19 hqf).1,if_neg (hq19 hqf).2,if_neg (hq19 hqf).2,this]
 | two op w x y ih1 ih2 =>
   intro S hR h hS v hv hs hb e i
   have hb1:v ∉ bv x:=by
    by_cases hc:op=3\/op=4
    ·rw [bv_two hc] at hb;exact fun hm=>hb (List.mem_append_left _ hm)
    ·have:=h.2.2
     rw [if_neg hc] at this
     rw [bv_qf this.1];simp
   have hb2:v ∉ bv y:=by
    by_cases hc:op=3\/op=4
    ·rw [bv_two hc] at hb;exact fun hm=>hb (List.mem_append_right _ hm)
    ·have:=h.2.2
     rw [if_neg hc] at this
     rw [bv_qf this.2];simp
   simp only [str,vT]
   rw [ih1 S hR.2.2.1 h.1 hS v hv hs hb1 e i,ih2 S hR.2.2.2.1 h.2.1 hS v hv hs hb2 e i]
 | three op w x y z ih1 ih2 ih3 =>
   intro S hR h hS v hv hs hb e i
   obtain ⟨s1,s2,s3,q1,q2,q3⟩:=h
   simp only [str,vT]
   rw [ih1 S hR.2.2.1 s1 hS v hv hs (by rw [bv_qf q1];simp) e i,ih2 S hR.2.2.2.1 s2 hS v hv hs (by rw [bv_qf q2];simp) e i,ih3 S hR.2.2.2.2.1 s3 hS v hv hs (by rw [bv_qf q3];simp) e i]
theorem str_wid:∀ (t:Tr),Rt t->(str t).wid=t.wid:=by
 intro t
 induction t with
 | leaf op w k=>intro _;rfl
 | one op w k b x ih =>
   intro hR
   simp only [str]
   by_cases hq:quant op=true
   ·rw [if_pos hq,ih hR.2.2.1]
    have hq2:op=19\/op=20:=by simpa [quant] using hq
    rcases hR.2.2.2 with h|h|h
    ·omega
    ·omega
    ·show x.wid=w;rw [h.2.1,h.2.2.1]
   ·rw [if_neg hq];rfl
 | two op w x y ih1 ih2=>intro _;rfl
 | three op w x y z ih1 ih2 ih3=>intro _;rfl
theorem str_rt:∀ (t:Tr),Rt t->Rt (str t):=by
 intro t
 induction t with
 | leaf op w k=>intro h;exact h
 | one op w k b x ih =>
   intro hR
   simp only [str]
   by_cases hq:quant op=true
   ·rw [if_pos hq];exact ih hR.2.2.1
   ·rw [if_neg hq]
    have:=str_wid x hR.2.2.1
    refine ⟨hR.1,hR.2.1,ih hR.2.2.1,?_⟩
    rw [this];exact hR.2.2.2
 | two op w x y ih1 ih2 =>
   intro hR
   refine ⟨hR.1,hR.2.1,ih1 hR.2.2.1,ih2 hR.2.2.2.1,?_⟩
   rw [str_wid x hR.2.2.1,str_wid y hR.2.2.2.1];exact hR.2.2.2.2
 | three op w x y z ih1 ih2 ih3 =>
   intro hR
   refine ⟨hR.1,hR.2.1,ih1 hR.2.2.1,ih2 hR.2.2.2.1,ih3 hR.2.2.2.2.1,?_⟩
   rw [str_wid x hR.2.2.1,str_wid y hR.2.2.2.1,str_wid z hR.2.2.2.2.1];exact hR.2.2.2.2.2
theorem str_ty {ws:List Int}:∀ (t:Tr),Ty ws t->Ty ws (str t):=by
 intro t
 induction t with
 | leaf op w k=>intro h;exact h
 | one op w k b x ih =>
   intro h
   simp only [str]
   split
   ·exact ih h.1
   ·exact ⟨ih h.1,h.2⟩
 | two op w x y ih1 ih2=>intro h;exact ⟨ih1 h.1,ih2 h.2⟩
 | three op w x y z ih1 ih2 ih3=>intro h;exact ⟨ih1 h.1,ih2 h.2.1,ih3 h.2.2⟩
theorem wk_ty {ws:List Int}:∀ (t:Tr) (u:Bool),Rt t->Ty ws t->∀ x∈wk t u,TyQ ws x:=by
 intro t
 induction t with
 | leaf op w k=>intro u _ _ x hx;cases hx
 | one op w k b y ih =>
   intro u hR hT x hx
   simp only [wk] at hx
   by_cases h2:op=2
   ·rw [if_pos h2] at hx;exact ih _ hR.2.2.1 hT.1 x hx
   ·rw [if_neg h2] at hx
    by_cases hq:quant op=true
    ·rw [if_pos hq] at hx
     rcases List.mem_cons.1 hx with rfl|hx
     ·have hq2:op=19\/op=20:=by simpa [quant] using hq
      rcases hR.2.2.2 with h|h|h
      ·omega
      ·omega
      ·exact ⟨h.2.2.2.1,h.2.2.2.2.1,h.2.2.2.2.2.1,h.2.2.2.2.2.2,hT.2 hq⟩
     ·exact ih _ hR.2.2.1 hT.1 x hx
    ·rw [if_neg hq] at hx;cases hx
 | two op w y z ih1 ih2 =>
   intro u hR hT x hx
   simp only [wk] at hx
   split at hx
   ·rcases List.mem_append.1 hx with hx|hx
    ·exact ih1 _ hR.2.2.1 hT.1 x hx
    ·exact ih2 _ hR.2.2.2.1 hT.2 x hx
   ·cases hx
 | three op w y z z2 ih1 ih2 ih3=>intro u _ _ x hx;cases hx
theorem bit_and {a b:Int} (ha:a=0\/a=1) (hb:b=0\/b=1):nAnd a b=1↔a=1/\b=1:=by
 rcases ha with rfl|rfl<;>rcases hb with rfl|rfl<;>decide
theorem bit_or {a b:Int} (ha:a=0\/a=1) (hb:b=0\/b=1):nOr a b=1↔a=1\/b=1:=by
 rcases ha with rfl|rfl<;>rcases hb with rfl|rfl<;>decide
theorem vT_not {w k b:Int} {x:Tr} {e:List Int} (hw:w=1) (hx:x.wid=1) (hb:vT x e=0\/vT x e=1):vT (.one 2 w k b x) e=1↔¬ vT x e=1:=by
 subst hw
 simp only [vT,show ¬ (2:Int)=19 by decide,show ¬ (2:Int)=20 by decide,if_false]
 rw [hx,app_in ⟨by decide,by decide⟩ ⟨by decide,by decide⟩ (by omega) ⟨by decide,by decide⟩ ⟨by decide,by decide⟩]
 show vFlip 1 (vT x e)=1↔_
 rcases hb with h|h<;>rw [h]<;>decide
theorem vT_two {op w:Int} {x y:Tr} {e:List Int} (hw:w=1) (hx:x.wid=1) (hb:vT x e=0\/vT x e=1) (hc:vT y e=0\/vT y e=1):vT (.two op w x y) e=opL op 1 0 1 (vT x e) (vT y e) 0:=by
 subst hw
 simp only [vT]
 rw [hx,app_in ⟨by decide,by decide⟩ ⟨by decide,by decide⟩ (by omega) (by omega) ⟨by decide,by decide⟩]
theorem prenex {ws:List Int}:∀ (t:Tr) (S:List Int),Rt t->t.wid=1->Ty ws t->Sc S t->(∀ s∈S,0<=s)->∀ e,EnvOk ws e->(vT t e=1↔HF (wk t false) (fun e=>vT (str t) e=1) e):=by
 intro t
 induction t with
 | leaf op w k=>intro S _ _ _ _ _ e _;exact Iff.rfl
 | one op w k b x ih =>
   intro S hR hw hT hSc hS e he
   have hw1:w=1:=hw
   by_cases h2:op=2
   ·subst h2
    simp only [Sc,if_true] at hSc
    have hx1:x.wid=1:=by
     rcases hR.2.2.2 with h|h|h
     ·rw [h.2];exact hw1
     ·omega
     ·omega
    have hbit:∀ d,EnvOk ws d->(vT x d=0\/vT x d=1):=fun d hd=>ty_bit hR.2.2.1 hT.1 hd hx1
    have hbit2:∀ d,EnvOk ws d->(vT (str x) d=0\/vT (str x) d=1):=fun d hd=>ty_bit (str_rt x hR.2.2.1) (str_ty x hT.1) hd (by rw [str_wid x hR.2.2.1];exact hx1)
    have ih':=ih S hR.2.2.1 hx1 hT.1 hSc hS e he
    rw [vT_not hw1 hx1 (hbit e he),ih',HF_not,<- wk_turn]
    simp only [wk,if_true,str,show quant 2=false from rfl,Bool.false_eq_true,if_false]
    refine HF_congr (ws:=ws) (fun d hd=>?_) _ (wk_ty x _ hR.2.2.1 hT.1) e he
    exact (vT_not hw1 (by rw [str_wid x hR.2.2.1];exact hx1) (hbit2 d hd)).symm
   ·by_cases hq:quant op=true
    ·simp only [Sc] at hSc
     rw [if_neg h2,if_pos hq] at hSc
     have hq2:op=19\/op=20:=by simpa [quant] using hq
     obtain ⟨hx1,hk0,hk7,hb1,hb8⟩:x.wid=1/\0<=k/\k<=7/\1<=b/\b<=8:=by
      rcases hR.2.2.2 with h|h|h
      ·omega
      ·omega
      ·exact ⟨h.2.1,h.2.2.2.1,h.2.2.2.2.1,h.2.2.2.2.2.1,h.2.2.2.2.2.2⟩
     have hty:TyQ ws ⟨(op==19) != false,k,b⟩:=⟨hk0,hk7,hb1,hb8,hT.2 hq⟩
     have ih':=fun (i:Nat) (hi:i < 2 ^ b.toNat)=>ih (k :: S) hR.2.2.1 hx1 hT.1 hSc.2 (fun s hs=>by rcases List.mem_cons.1 hs with rfl|hs;exact hk0;exact hS s hs) (e.set k.toNat (i:Int)) (he.set hty hi)
     simp only [wk,str]
     rw [if_neg h2,if_pos hq,if_pos hq]
     simp only [HF,Bool.bne_false]
     rcases hq2 with rfl|rfl
     ·have e1:vT (.one 19 w k b x) e=allN (fun i=>vT x (e.set k.toNat (i:Int))) (2 ^ b.toNat):=by simp only [vT,if_true];rfl
      rw [e1,allN_one]
      simp only [show ((19:Int)==19)=true from rfl,if_true]
      exact ⟨fun h i hi=>(ih' i hi).1 (h i hi),fun h i hi=>(ih' i hi).2 (h i hi)⟩
     ·have e1:vT (.one 20 w k b x) e=anyN (fun i=>vT x (e.set k.toNat (i:Int))) (2 ^ b.toNat):=by simp only [vT,show ¬ (20:Int)=19 by decide,if_false,if_true];rfl
      rw [e1,anyN_one]
      simp only [show ((20:Int)==19)=false from rfl,Bool.false_eq_true,if_false]
      exact ⟨fun ⟨i,hi,h⟩=>⟨i,hi,(ih' i hi).1 h⟩,fun ⟨i,hi,h⟩=>⟨i,hi,(ih' i hi).2 h⟩⟩
    ·simp only [Sc] at hSc
     rw [if_neg h2,if_neg hq] at hSc
     have hqf:Qf (.one op w k b x):=⟨by simpa using hq,hSc.1⟩
     rw [qf_wk _ _ hqf,qf_str _ hqf]
     exact Iff.rfl
 | two op w x y ih1 ih2 =>
   intro S hR hw hT hSc hS e he
   have hw1:w=1:=hw
   by_cases hc:op=3\/op=4
   ·obtain ⟨s1,s2,s3⟩:=hSc
    rw [if_pos hc] at s3
    obtain ⟨hx1,hy1⟩:x.wid=1/\y.wid=1:=by
     rcases hR.2.2.2.2 with h|h|h
     ·rw [h.2.2.1,h.2.2.2];exact ⟨hw1,hw1⟩
     ·omega
     ·omega
    have rx:=hR.2.2.1
    have ry:=hR.2.2.2.1
    have bx:=fun d (hd:EnvOk ws d)=>ty_bit rx hT.1 hd hx1
    have by':=fun d (hd:EnvOk ws d)=>ty_bit ry hT.2 hd hy1
    have bx2:=fun d (hd:EnvOk ws d)=>ty_bit (str_rt x rx) (str_ty x hT.1) hd (by rw [str_wid x rx];exact hx1)
    have by2:=fun d (hd:EnvOk ws d)=>ty_bit (str_rt y ry) (str_ty y hT.2) hd (by rw [str_wid y ry];exact hy1)
    have i1:=ih1 S rx hx1 hT.1 s1 hS e he
    have i2:=ih2 S ry hy1 hT.2 s2 hS e he
    have tq1:=wk_ty x false rx hT.1
    have tq2:=wk_ty y false ry hT.2
    have hIA:∀ z∈wk y false,Ind z.vr (fun e=>vT (str x) e=1):=fun z hz d i=>by
     have hzb:z.vr∈bv y:=List.mem_map_of_mem hz
     show vT (str x) (d.set z.vr.toNat i)=1↔vT (str x) d=1
     rw [str_ind x S rx s1 hS z.vr (tq2 z hz).1 (sc_bv y S s2 _ hzb) (fun hm=>s3 _ hm hzb) d i]
    have hIB:∀ z∈wk x false,Ind z.vr (HF (wk y false) (fun e=>vT (str y) e=1)):=fun z hz=>by
     have hzb:z.vr∈bv x:=List.mem_map_of_mem hz
     refine HF_ind (fun d i=>?_) _ (fun z2 hz2 hcc=>?_)
     ·show vT (str y) (d.set z.vr.toNat i)=1↔vT (str y) d=1
      rw [str_ind y S ry s2 hS z.vr (tq1 z hz).1 (sc_bv x S s1 _ hzb) (s3 _ hzb) d i]
     ·have h1:=(tq1 z hz).1
      have h2:=(tq2 z2 hz2).1
      have h3:z.vr=z2.vr:=by omega
      exact s3 _ hzb (by rw [h3];exact List.mem_map_of_mem hz2)
    simp only [wk,str]
    rw [if_pos hc,HF_append]
    rcases hc with rfl|rfl
    ·have e1:vT (.two 3 w x y) e=1↔vT x e=1/\vT y e=1:=by
      rw [vT_two hw1 hx1 (bx e he) (by' e he)]
      exact bit_and (bx e he) (by' e he)
     rw [e1,i1,i2,<- HF_and _ hIB]
     refine (HF_congr (ws:=ws) (fun d hd=>?_) _ tq1 e he).symm
     have h1:HF (wk y false) (fun e=>vT (.two 3 w (str x) (str y)) e=1) d↔HF (wk y false) (fun e=>vT (str y) e=1/\vT (str x) e=1) d:=by
      refine HF_congr (ws:=ws) (fun d2 hd2=>?_) _ tq2 d hd
      rw [vT_two hw1 (by rw [str_wid x rx];exact hx1) (bx2 d2 hd2) (by2 d2 hd2),and_comm]
      exact bit_and (bx2 d2 hd2) (by2 d2 hd2)
     rw [h1,HF_and _ hIA,and_comm]
    ·have e1:vT (.two 4 w x y) e=1↔vT x e=1\/vT y e=1:=by
      rw [vT_two hw1 hx1 (bx e he) (by' e he)]
      exact bit_or (bx e he) (by' e he)
     rw [e1,i1,i2,<- HF_or _ hIB]
     refine (HF_congr (ws:=ws) (fun d hd=>?_) _ tq1 e he).symm
     have h1:HF (wk y false) (fun e=>vT (.two 4 w (str x) (str y)) e=1) d↔HF (wk y false) (fun e=>vT (str y) e=1\/vT (str x) e=1) d:=by
      refine HF_congr (ws:=ws) (fun d2 hd2=>?_) _ tq2 d hd
      rw [vT_two hw1 (by rw [str_wid x rx];exact hx1) (bx2 d2 hd2) (by2 d2 hd2),or_comm]
      exact bit_or (bx2 d2 hd2) (by2 d2 hd2)
     rw [h1,HF_or _ hIA,or_comm]
   ·have s3:=hSc.2.2
    rw [if_neg hc] at s3
    have hqf:Qf (.two op w x y):=s3
    rw [qf_wk _ _ hqf,qf_str _ hqf]
    exact Iff.rfl
 | three op w x y z ih1 ih2 ih3 =>
   intro S hR hw hT hSc hS e he
   have hqf:Qf (.three op w x y z):=hSc.2.2.2
   rw [qf_wk _ _ hqf,qf_str _ hqf]
   exact Iff.rfl
end Fr1
end Go.Proofs.YtebejleeadofcaaGreat
