import Derived.Test.YtebejleeadofcaaGreatPkFR17
import Derived.Test.YtebejleeadofcaaGreatPkFR2
namespace Go.Proofs.YtebejleeadofcaaGreat
set_option maxRecDepth 100000
set_option maxHeartbeats 8000000
set_option linter.unusedVariables false
namespace Fr0
open Nd0 Qa0 Tm0 Tm1 Tm5 Tm6
def qth (q:List Qu) (i:Nat):Qu:=q.getD i Qu.zero
theorem qth_get {q:List Qu} {i:Nat} (h:i < q.length):q[i]=qth q i:=by simp [qth,List.getD,h]
def swTo (q:List Qu):Nat->Nat
 | 0=>0
 | i+1=>swTo q i+(if i=0 then 0 else if (qth q i).all != (qth q (i - 1)).all then 1 else 0)
def swapsL (q:List Qu):Nat:=swTo q q.length
theorem swTo_le (q:List Qu) (i:Nat):swTo q i<=i:=by
 induction i with
 | zero=>exact Nat.le_refl _
 | succ i ih =>
   show swTo q i+_<=_
   split
   ·omega
   ·split<;>omega
theorem sw_one (q:List Qu):swTo q 1=0:=rfl
theorem sw_next (q:List Qu) {i:Nat} (h:1<=i):swTo q (i+1)=swTo q i+(if (qth q i).all != (qth q (i - 1)).all then 1 else 0):=by
 show swTo q i+_=_
 rw [if_neg (by omega)]
def bqTo (q:List Qu):Nat->Option Nat
 | 0=>some 0
 | i+1=>(bqTo q i).bind fun n=>if 1<=(qth q i).bits/\(qth q i).bits<=8 then some (n+(qth q i).bits.toNat) else none
def rowTo (q:List Qu):Nat->List Bool
 | 0=>[]
 | i+1=>rowTo q i++List.replicate (qth q i).bits.toNat (qth q i).all
def fewB (q:List Qu):Bool:=match bqTo q q.length with
 | none=>false
 | some n=>decide (n<=12)
def rowsL (q:List Qu):List Bool:=if fewB q then rowTo q q.length else []
theorem bq_none {q:List Qu} {k:Nat} (h:bqTo q k=none):∀ j,k<=j->bqTo q j=none:=by
 intro j hj
 induction j with
 | zero=>have:k=0:=by omega
         subst this;exact h
 | succ j ih =>
   by_cases e:k=j+1
   ·subst e;exact h
   ·show (bqTo q j).bind _=none
    rw [ih (by omega)];rfl
theorem bq_succ {q:List Qu} {k n:Nat} (h:bqTo q k=some n) (hb:1<=(qth q k).bits/\(qth q k).bits<=8):bqTo q (k+1)=some (n+(qth q k).bits.toNat):=by
 show (bqTo q k).bind _=_
 rw [h]
 exact if_pos hb
theorem bq_bad {q:List Qu} {k:Nat} (hb:¬ (1<=(qth q k).bits/\(qth q k).bits<=8)):bqTo q (k+1)=none:=by
 show (bqTo q k).bind _=_
 cases bqTo q k with
 | none=>rfl
 | some n=>exact if_neg hb
theorem bq_le {q:List Qu} {k:Nat}:∀ n,bqTo q k=some n->n<=8*k:=by
 induction k with
 | zero=>intro n h;cases h;omega
 | succ k ih =>
   intro n h
   by_cases hb:1<=(qth q k).bits/\(qth q k).bits<=8
   ·cases hk:bqTo q k with
    | none=>rw [bq_none hk (k+1) (by omega)] at h;cases h
    | some m =>
      rw [bq_succ hk hb] at h
      cases h
      have:=ih m hk
      omega
   ·rw [bq_bad hb] at h;cases h
theorem bq_mono {q:List Qu} {k n:Nat} (h:bqTo q k=some n):∀ j m,k<=j->bqTo q j=some m->n<=m:=by
 intro j
 induction j with
 | zero=>intro m hj hm;have:k=0:=by omega
         subst this;rw [h] at hm;cases hm;exact Nat.le_refl _
 | succ j ih =>
   intro m hj hm
   by_cases e:k=j+1
   ·subst e;rw [h] at hm;cases hm;exact Nat.le_refl _
   ·by_cases hb:1<=(qth q j).bits/\(qth q j).bits<=8
    ·cases hk:bqTo q j with
     | none=>rw [bq_none hk (j+1) (by omega)] at hm;cases hm
     | some x =>
       rw [bq_succ hk hb] at hm
       cases hm
       have:=ih x (by omega) hk
       omega
    ·rw [bq_bad hb] at hm;cases hm
theorem rowTo_length {q:List Qu} {k:Nat}:∀ n,bqTo q k=some n->(rowTo q k).length=n:=by
 induction k with
 | zero=>intro n h;cases h;rfl
 | succ k ih =>
   intro n h
   by_cases hb:1<=(qth q k).bits/\(qth q k).bits<=8
   ·cases hk:bqTo q k with
    | none=>rw [bq_none hk (k+1) (by omega)] at h;cases h
    | some m =>
      rw [bq_succ hk hb] at h
      cases h
      show (rowTo q k++_).length=_
      rw [List.length_append,ih m hk,List.length_replicate]
   ·rw [bq_bad hb] at h;cases h
theorem few_bad {q:List Qu} {k:Nat} (hk:k<=q.length) (h:bqTo q k=none):fewB q=false:=by
 unfold fewB;rw [bq_none h _ hk]
theorem few_much {q:List Qu} {k n:Nat} (hk:k<=q.length) (h:bqTo q k=some n) (hn:12 < n):fewB q=false:=by
 unfold fewB
 cases hm:bqTo q q.length with
 | none=>rfl
 | some m =>
   have:=bq_mono h _ m hk hm
   exact decide_eq_false (by omega)
theorem few_yes {q:List Qu} {n:Nat} (h:bqTo q q.length=some n) (hn:n<=12):fewB q=true:=by
 unfold fewB;rw [h];exact decide_eq_true hn
theorem few_of {q:List Qu} (h:fewB q=true):∃ n,bqTo q q.length=some n/\n<=12:=by
 unfold fewB at h
 cases hm:bqTo q q.length with
 | none=>rw [hm] at h;cases h
 | some m=>rw [hm] at h;exact ⟨m,rfl,of_decide_eq_true h⟩
theorem rowsL_le (q:List Qu):(rowsL q).length<=12:=by
 unfold rowsL
 split
 ·rename_i h
  obtain ⟨n,h1,h2⟩:=few_of h
  rw [rowTo_length n h1];exact h2
 ·exact Nat.zero_le _
theorem rowTo_part (q:List Qu) (k j:Nat):rowTo q k++List.replicate (j+1) (qth q k).all=(rowTo q k++List.replicate j (qth q k).all)++[(qth q k).all]:=by
 rw [List.replicate_succ',List.append_assoc]
def wqStep (ws:List Int) (x:Qu):Option (List Int):=if 0<=x.vr/\x.vr<=7/\1<=x.bits/\x.bits<=8/\wd ws x.vr=0 then some (ws.set x.vr.toNat x.bits) else none
def wqTo (q:List Qu):Nat->Option (List Int)
 | 0=>some (List.replicate 8 0)
 | i+1=>(wqTo q i).bind fun ws=>wqStep ws (qth q i)
theorem wq_none {q:List Qu} {k:Nat} (h:wqTo q k=none):∀ j,k<=j->wqTo q j=none:=by
 intro j hj
 induction j with
 | zero=>have:k=0:=by omega
         subst this;exact h
 | succ j ih =>
   by_cases e:k=j+1
   ·subst e;exact h
   ·show (wqTo q j).bind _=none
    rw [ih (by omega)];rfl
theorem wq_succ {q:List Qu} {k:Nat} {ws:List Int} (h:wqTo q k=some ws):wqTo q (k+1)=wqStep ws (qth q k):=by
 show (wqTo q k).bind _=_;rw [h];rfl
theorem wq_len {q:List Qu} {k:Nat}:∀ ws,wqTo q k=some ws->ws.length=8:=by
 induction k with
 | zero=>intro ws h;cases h;rfl
 | succ k ih =>
   intro ws h
   cases hk:wqTo q k with
   | none=>rw [wq_none hk (k+1) (by omega)] at h;cases h
   | some us =>
     rw [wq_succ hk] at h
     unfold wqStep at h
     split at h
     ·cases h;rw [List.length_set];exact ih us hk
     ·cases h
def badF (l:List Nd) (ws:List Int) (i:Nat):Bool:=quant (nth l i).op||(flag (reachL l) i&&(nth l i).op==1&&wd ws (nth l i).k != (nth l i).w)
def frontOkB (q:List Qu) (l:List Nd):Bool :=
 termOk l&&decide ((nth l (l.length - 1)).w=1)&&match wqTo q q.length with
  | none=>false
  | some ws => !(List.range l.length).any (badF l ws)
theorem fo_term {q:List Qu} {l:List Nd} (h:termOk l=false):frontOkB q l=false:=by unfold frontOkB;rw [h];rfl
theorem fo_root {q:List Qu} {l:List Nd} (h:¬ (nth l (l.length - 1)).w=1):frontOkB q l=false:=by unfold frontOkB;rw [decide_eq_false h];simp
theorem fo_wid {q:List Qu} {l:List Nd} {k:Nat} (hk:k<=q.length) (h:wqTo q k=none):frontOkB q l=false:=by unfold frontOkB;rw [wq_none h _ hk];simp
theorem fo_bad {q:List Qu} {l:List Nd} {ws:List Int} (h:wqTo q q.length=some ws) {i:Nat} (hi:i < l.length) (hb:badF l ws i=true):frontOkB q l=false:=by
 unfold frontOkB
 rw [h]
 have:(List.range l.length).any (badF l ws)=true:=List.any_eq_true.2 ⟨i,List.mem_range.2 hi,hb⟩
 simp only [this]
 simp
theorem fo_yes {q:List Qu} {l:List Nd} {ws:List Int} (hT:termOk l=true) (hr:(nth l (l.length - 1)).w=1) (h:wqTo q q.length=some ws) (hg:∀ i,i < l.length->badF l ws i=false):frontOkB q l=true:=by
 unfold frontOkB
 rw [h,hT,decide_eq_true hr]
 have:(List.range l.length).any (badF l ws)=false:=by
  rw [List.any_eq_false];intro i hi;rw [hg i (List.mem_range.1 hi)];simp
 simp only [this]
 rfl
theorem fo_of {q:List Qu} {l:List Nd} (h:frontOkB q l=true):termOk l=true/\(nth l (l.length - 1)).w=1/\∃ ws,wqTo q q.length=some ws/\∀ i,i < l.length->badF l ws i=false:=by
 unfold frontOkB at h
 simp only [Bool.and_eq_true] at h
 refine ⟨h.1.1,of_decide_eq_true h.1.2,?_⟩
 cases hw:wqTo q q.length with
 | none=>rw [hw] at h;cases h.2
 | some ws =>
   rw [hw] at h
   refine ⟨ws,rfl,fun i hi=>?_⟩
   have h2:=h.2
   simp only [Bool.not_eq_true',List.any_eq_false] at h2
   have:=h2 i (List.mem_range.2 hi)
   simpa using this
def qNode (x:Qu) (p:Int):Nd:=⟨if x.all then 19 else 20,1,x.vr,p,x.bits,0⟩
def backTo (q:List Qu) (l:List Nd):Nat->List Nd
 | 0=>l
 | k+1=>backTo q l k++[qNode (qth q (q.length - 1 - k)) ((backTo q l k).length - 1)]
theorem backTo_length (q:List Qu) (l:List Nd) (k:Nat):(backTo q l k).length=l.length+k:=by
 induction k with
 | zero=>rfl
 | succ k ih=>show (backTo q l k++[_]).length=_;rw [List.length_append,ih];rfl
def backB (q:List Qu) (l:List Nd):Bool:=frontOkB q l&&decide (l.length+q.length<=80)
def backL (q:List Qu) (l:List Nd):List Nd:=if backB q l then backTo q l q.length else []
theorem backL_le (q:List Qu) (l:List Nd):(backL q l).length<=80:=by
 unfold backL
 split
 ·rename_i h
  unfold backB at h
  simp only [Bool.and_eq_true,decide_eq_true_eq] at h
  rw [backTo_length];omega
 ·exact Nat.zero_le _
end Fr0
namespace Vm0
open Nd0 Pl1 Pl2 Tm0 Tm1 Tm3 Tm5 Tm6 Tm8 Tm11 Tm13 Tm14 Tr0 Vl1 Vl2
theorem applyL_k {op:Int} (h:(3<=op/\op<=16)\/op=18) (W k k' w a b c:Int):applyL op W k w a b c=applyL op W k' w a b c:=by
 have h0:¬ op=0:=by omega
 have h17:¬ op=17:=by omega
 unfold applyL opL
 simp only [h0,h17,if_false]
def pvs (l:List Nd) (e:List Int) (n:Nd):List Int:=(parts n).map fun p=>vT (tr l p.toNat) e
def pw (l:List Nd) (n:Nd):Int:=match parts n with
 | []=>1
 | p :: _=>(nth l p.toNat).w
section
variable {l:List Nd} (hD:Down l) (hN:∀ k,k < l.length->nodeOk l k=true) {k:Nat} (hk:k < l.length) (e:List Int)
include hD hN hk
theorem vT_other (h1:¬ (nth l k).op=1) (hq:quant (nth l k).op=false) :
 vT (tr l k) e=applyL (nth l k).op (nth l k).w (nth l k).k (pw l (nth l k)) ((pvs l e (nth l k)).getD 0 0) ((pvs l e (nth l k)).getD 1 0) ((pvs l e (nth l k)).getD 2 0):=by
 rw [tr_at hD hk]
 have hd:=hD k hk
 have hp:∀ p∈parts (nth l k),(tr l p.toNat).wid=(nth l p.toNat).w:=fun p h=>(rt_all hD hN p.toNat (by have:=hd p h;omega)).2
 generalize nth l k=n at h1 hq hp hd
 have hq2:¬ n.op=19/\¬ n.op=20:=by simpa [quant] using hq
 by_cases g1:n.op=2\/n.op=17\/n.op=19\/n.op=20
 ·rw [mk_one g1]
  unfold pvs pw
  rw [parts_one g1] at hp ⊢
  simp only [vT,List.map_cons,List.map_nil]
  rw [if_neg hq2.1,if_neg hq2.2,hp n.a (by simp)]
  rfl
 ·by_cases g2:3<=n.op/\n.op<=16
  ·rw [mk_two g2]
   unfold pvs pw
   rw [parts_two g2] at hp ⊢
   simp only [vT,List.map_cons,List.map_nil]
   rw [hp n.a (by simp),applyL_k (.inl g2) _ 0 n.k]
   rfl
  ·by_cases g3:n.op=18
   ·rw [mk_three g3]
    unfold pvs pw
    rw [parts_three g3] at hp ⊢
    simp only [vT,List.map_cons,List.map_nil]
    rw [hp n.a (by simp),applyL_k (.inr g3) _ 0 n.k]
    rfl
   ·rw [mk_leaf g1 g2 g3]
    unfold pvs pw
    rw [parts_none g1 g2 g3]
    simp only [vT]
    rw [if_neg h1]
    rfl
end
theorem vT_var {l:List Nd} (hD:Down l) {k:Nat} (hk:k < l.length) (e:List Int) (h1:(nth l k).op=1):vT (tr l k) e=wd e (nth l k).k:=by
 rw [tr_at hD hk,mk_leaf (by omega) (by omega) (by omega)]
 simp only [vT]
 rw [if_pos h1]
 rfl
def allN (f:Nat->Int) (m:Nat):Int:=if (List.range m).all (fun i=>f i==1) then 1 else 0
def anyN (f:Nat->Int) (m:Nat):Int:=if (List.range m).any (fun i=>f i==1) then 1 else 0
theorem allN_yes {f:Nat->Int} {m:Nat} (h:f m=1):allN f (m+1)=allN f m:=by
 unfold allN;rw [List.range_succ,List.all_append];simp [h]
theorem allN_no {f:Nat->Int} {m:Nat} (h:¬ f m=1):allN f (m+1)=0:=by
 unfold allN;rw [List.range_succ,List.all_append];simp [h]
theorem anyN_yes {f:Nat->Int} {m:Nat} (h:f m=1):anyN f (m+1)=1:=by
 unfold anyN;rw [List.range_succ,List.any_append];simp [h]
theorem anyN_no {f:Nat->Int} {m:Nat} (h:¬ f m=1):anyN f (m+1)=anyN f m:=by
 unfold anyN;rw [List.range_succ,List.any_append];simp [h]
theorem anyN_bit (f:Nat->Int) (m:Nat):anyN f m=0\/anyN f m=1:=by unfold anyN;split<;>simp
theorem anyN_one {f:Nat->Int} {m:Nat}:anyN f m=1↔∃ i,i < m/\f i=1:=by
 unfold anyN
 constructor
 ·intro h
  split at h
  ·rename_i h2
   obtain ⟨i,h3,h4⟩:=List.any_eq_true.1 h2
   exact ⟨i,List.mem_range.1 h3,by simpa using h4⟩
  ·cases h
 ·rintro ⟨i,h1,h2⟩
  rw [if_pos (List.any_eq_true.2 ⟨i,List.mem_range.2 h1,by simpa using h2⟩)]
theorem allN_one {f:Nat->Int} {m:Nat}:allN f m=1↔∀ i,i < m->f i=1:=by
 unfold allN
 constructor
 ·intro h i hi
  split at h
  ·rename_i h2
   simpa using List.all_eq_true.1 h2 i (List.mem_range.2 hi)
  ·cases h
 ·intro h
  rw [if_pos (List.all_eq_true.2 fun i hi=>by simpa using h i (List.mem_range.1 hi))]
theorem allN_bit (f:Nat->Int) (m:Nat):allN f m=0\/allN f m=1:=by unfold allN;split<;>simp
theorem vT_quant {l:List Nd} (hD:Down l) {k:Nat} (hk:k < l.length) (e:List Int) (hq:quant (nth l k).op=true) :
 vT (tr l k) e=if (nth l k).op=19 then allN (fun i=>vT (tr l (nth l k).a.toNat) (e.set (nth l k).k.toNat (i:Int))) (2 ^ (nth l k).b.toNat) else anyN (fun i=>vT (tr l (nth l k).a.toNat) (e.set (nth l k).k.toNat (i:Int))) (2 ^ (nth l k).b.toNat):=by
 have hq2:(nth l k).op=19\/(nth l k).op=20:=by simpa [quant] using hq
 rw [tr_at hD hk,mk_one (by omega)]
 simp only [vT]
 rcases hq2 with h|h
 ·rw [if_pos h,if_pos h];rfl
 ·have h19:¬ (nth l k).op=19:=by omega
  rw [if_neg h19,if_pos h,if_neg h19];rfl
theorem set_self (e:List Int) {i:Nat} (h:i < e.length):e.set i (wd e (i:Int))=e:=by
 have:wd e (i:Int)=e[i]:=(wd_get h).symm
 rw [this];exact List.set_getElem_self h
theorem node_k {l:List Nd} (hD:Down l) (hN:∀ k,k < l.length->nodeOk l k=true) {k:Nat} (hk:k < l.length):0<=(nth l k).k/\(nth l k).k<=255:=by
 have hok:=hN k hk
 have hd:=hD k hk
 simp only [nodeOk,Bool.and_eq_true] at hok
 have hs:=hok.2
 have hw:∀ p∈parts (nth l k),width l p<=8:=fun p hp=>by
  have h1:=hd p hp
  exact (node_width (hN p.toNat (by omega))).2
 have hw1:=of_decide_eq_true hok.1.2
 generalize nth l k=n at hs hw hw1
 unfold shapeOk at hs
 by_cases h0:n.op=0
 ·rw [if_pos h0] at hs
  simp only [Bool.and_eq_true] at hs
  have:=wok_iff.1 hs.1
  have h2:=p2_mono (show n.w.toNat<=8 by omega)
  have h3:p2 8=256:=rfl
  omega
 rw [if_neg h0] at hs
 by_cases h1:n.op=1
 ·rw [if_pos h1] at hs
  have:=of_decide_eq_true hs
  omega
 rw [if_neg h1] at hs
 by_cases h2:n.op=2
 ·rw [if_pos h2] at hs
  have:=of_decide_eq_true hs
  omega
 rw [if_neg h2] at hs
 by_cases h3:3<=n.op/\n.op<=12
 ·rw [if_pos h3] at hs
  have:=of_decide_eq_true hs
  omega
 rw [if_neg h3] at hs
 by_cases h4:13<=n.op/\n.op<=15
 ·rw [if_pos h4] at hs
  have:=of_decide_eq_true hs
  omega
 rw [if_neg h4] at hs
 by_cases h5:n.op=16
 ·rw [if_pos h5] at hs
  have:=of_decide_eq_true hs
  omega
 rw [if_neg h5] at hs
 by_cases h6:n.op=17
 ·rw [if_pos h6] at hs
  have:=of_decide_eq_true hs
  rw [parts_one (.inr (.inl h6))] at hw this
  have h8:=hw n.a (by simp)
  simp only [List.map_cons,List.map_nil,List.getD_cons_zero] at this
  omega
 rw [if_neg h6] at hs
 by_cases h7:n.op=18
 ·rw [if_pos h7] at hs
  have:=of_decide_eq_true hs
  omega
 rw [if_neg h7] at hs
 by_cases h8:n.op=19\/n.op=20
 ·rw [if_pos h8] at hs
  have:=of_decide_eq_true hs
  omega
 rw [if_neg h8] at hs
 cases hs
theorem wf_small {k:Int} (h:0<=k/\k<=255):(Go.Lit.int .i64 k).wf=true:=by
 simp [Go.Lit.wf,Go.IntKind.min,Go.IntKind.max,Go.IntKind.signed,Go.IntKind.bits];omega
end Vm0
end Go.Proofs.YtebejleeadofcaaGreat
