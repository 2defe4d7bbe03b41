import Derived.Test.YtbellafdjfliiaaGreatPkBOM14
import Derived.Test.YtbellafdjfliiaaGreatPkBOM12
import Derived.Test.YtbellafdjfliiaaGreatPkBOM13
import Derived.Test.YtbellafdjfliiaaGreatPkBOM0
import Derived.Test.YtbellafdjfliiaaGreatPkBOM9
namespace Go.Proofs.YtbellafdjfliiaaGreat
set_option maxRecDepth 100000
set_option maxHeartbeats 8000000
set_option linter.unusedVariables false
namespace Vl3
open Nd0 Pl1 Pl2 Tm0 Tm1 Tm3 Tm5 Tm8 Tm11 Tm13 Tm14 Tx0 Tx2 Tx3 Tx4 Tr0 Vl1 Vl2
theorem sum_erase {α:Type} [DecidableEq α] (f:α->Int) {x:α}:∀ (b:List α),x∈b->(b.map f).sum=f x+((b.erase x).map f).sum:=by
 intro b
 induction b with
 | nil=>intro h;cases h
 | cons y b ih =>
   intro h
   by_cases e:y=x
   ·subst e
    rw [List.erase_cons_head]
    simp
   ·have hx:x∈b:=by
     rcases List.mem_cons.1 h with e'|e'
     ·exact absurd e'.symm e
     ·exact e'
    rw [List.erase_cons_tail (by simpa using e)]
    simp only [List.map_cons,List.sum_cons]
    rw [ih hx]
    omega
theorem sum_le_of_inj {α:Type} [DecidableEq α] (f:α->Int):∀ (a b:List α),a.Nodup->(∀ x∈a,x∈b)->(∀ x∈b,0<=f x)->(a.map f).sum<=(b.map f).sum:=by
 intro a
 induction a with
 | nil =>
   intro b _ _ h0
   induction b with
   | nil=>exact Int.le_refl _
   | cons y b ihb =>
     have h1:=h0 y (by simp)
     have h2:=ihb (by simp) (fun x hx=>h0 x (by simp [hx]))
     simp only [List.map_nil,List.sum_nil,List.map_cons,List.sum_cons] at h2 ⊢
     omega
 | cons x a ih =>
   intro b hn hs h0
   have hx:x∈b:=hs x (by simp)
   have hn':=List.nodup_cons.1 hn
   have h1:=ih (b.erase x) hn'.2 (fun y hy=>by
    have hne:y≠x:=by intro e;subst e;exact hn'.1 hy
    exact (List.mem_erase_of_ne hne).2 (hs y (by simp [hy]))) (fun y hy=>h0 y (List.mem_of_mem_erase hy))
   have h2:=sum_erase f b hx
   rw [h2]
   simp only [List.map_cons,List.sum_cons]
   omega
theorem value_parts {l:List Nd} {e:List Int} {x:Int}:valueL l e=some x↔termOk l=true/\e.length=8/\bitsTo l l.length<=12/\fitT (root l) e=true/\vT (root l) e=x:=by
 unfold valueL
 split
 ·rename_i hc
  simp only [Bool.and_eq_true,decide_eq_true_eq] at hc
  constructor
  ·intro h;cases h;exact ⟨hc.1.1.1,hc.1.1.2,hc.1.2,hc.2,rfl⟩
  ·intro h;rw [h.2.2.2.2]
 ·rename_i hc
  simp only [Bool.and_eq_true,decide_eq_true_eq] at hc
  constructor
  ·intro h;cases h
  ·intro h;exact absurd ⟨⟨⟨h.1,h.2.1⟩,h.2.2.1⟩,h.2.2.2.1⟩ hc
end Vl3
namespace Vl4
open Nd0 Pl1 Pl2 Tm0 Tm1 Tm3 Tm5 Tm8 Tm11 Tm12 Tm13 Tm14 Tx2 Tr0 Vl1 Vl2 Vl3
section
variable {t:List Nd} {q:Nd} (hT:termOk t=true) (hQ:termOk (t++[q])=true) (hp:parts q=[(t.length:Int) - 1])
include hT hQ hp
theorem flag_more:∀ d i,t.length=i+1+d->flag (reachL t) i=true->flag (reachL (t++[q])) i=true:=by
 intro d
 induction d using Nat.strongRecOn with
 | ind d ih =>
   intro i hi hf
   have hl:=term_len hT
   have hDq:=down_of hQ
   rcases reach_why (down_of hT) (i:=i) (by omega) hf with e|⟨j,h1,h2,h3,h4⟩
   ·have hr:flag (reachL (t++[q])) t.length=true:=by
     have:=reach_root (l:=t++[q]) (by simp)
     simpa using this
    have:=reach_closed hDq (i:=t.length) (by simp) hr (p:=(t.length:Int) - 1) (by rw [nth_app_last,hp];simp)
    rw [show ((t.length:Int) - 1).toNat=i by omega] at this
    exact this
   ·have:=reach_closed hDq (i:=j) (by simp;omega) (ih (t.length - (j+1)) (by omega) j (by omega) h3) (p:=(i:Int)) (by rw [nth_app_left h2];exact h4)
    rw [Int.toNat_natCast] at this
    exact this
theorem flag_less:∀ d i,t.length=i+1+d->flag (reachL (t++[q])) i=true->flag (reachL t) i=true:=by
 intro d
 induction d using Nat.strongRecOn with
 | ind d ih =>
   intro i hi hf
   have hl:=term_len hT
   rcases reach_why (down_of hQ) (i:=i) (by simp;omega) hf with e|⟨j,h1,h2,h3,h4⟩
   ·simp at e;omega
   ·simp only [List.length_append,List.length_cons,List.length_nil] at h2
    by_cases hj:j < t.length
    ·rw [nth_app_left hj] at h4
     have:=reach_closed (down_of hT) (i:=j) hj (ih (t.length - (j+1)) (by omega) j (by omega) h3) (p:=(i:Int)) h4
     rw [Int.toNat_natCast] at this
     exact this
    ·have e:j=t.length:=by omega
     subst e
     rw [nth_app_last,hp] at h4
     have e2:(i:Int)=(t.length:Int) - 1:=by simpa using h4
     have e3:i=t.length - 1:=by omega
     rw [e3]
     exact reach_root (by omega)
theorem flag_snoc {i:Nat} (hi:i < t.length):flag (reachL (t++[q])) i=flag (reachL t) i:=by
 cases h:flag (reachL t) i
 ·cases h2:flag (reachL (t++[q])) i
  ·rfl
  ·rw [flag_less hT hQ hp (t.length - (i+1)) i (by omega) h2] at h;cases h
 ·exact flag_more hT hQ hp (t.length - (i+1)) i (by omega) h
theorem bits_to:∀ k,k<=t.length->bitsTo (t++[q]) k=bitsTo t k:=by
 intro k
 induction k with
 | zero=>intro _;rfl
 | succ k ih =>
   intro hk
   simp only [bitsTo]
   rw [ih (by omega),flag_snoc hT hQ hp (by omega),nth_app_left (by omega)]
theorem bits_snoc:bitsTo (t++[q]) (t++[q]).length=bitsTo t t.length+(if quant q.op then q.b else 0):=by
 have hr:flag (reachL (t++[q])) t.length=true:=by
  have:=reach_root (l:=t++[q]) (by simp)
  simpa using this
 rw [List.length_append]
 show bitsTo (t++[q]) (t.length+1)=_
 simp only [bitsTo]
 rw [hr,nth_app_last,bits_to hT hQ hp t.length (Nat.le_refl _)]
 simp only [Bool.true_and]
 split<;>omega
theorem root_snoc (h1:q.op=2\/q.op=17\/q.op=19\/q.op=20):root (t++[q])=.one q.op q.w q.k q.b (root t):=by
 have hl:=term_len hT
 have ha:q.a=(t.length:Int) - 1:=by
  rw [parts_one h1] at hp
  simpa using hp
 unfold root
 have e:(t++[q]).length - 1=t.length:=by simp
 rw [e,tr_at (down_of hQ) (by simp),nth_app_last,mk_one h1,ha,show ((t.length:Int) - 1).toNat=t.length - 1 by omega,tr_app t [q] (by omega)]
end
end Vl4
namespace Vl5
open Nd0 Pl1 Pl2 Tm0 Tm1 Tm2 Tm3 Tm4 Tm5 Tm6 Tm7 Tm8 Tm9 Tm10 Tm11 Tm12 Tm13 Tm14 Tr0 Vl1 Vl2 Vl3 Vl4
def notN (t:List Nd):Nd:=⟨2,1,0,(t.length:Int) - 1,0,0⟩
theorem not_parts (t:List Nd):parts (notN t)=[(t.length:Int) - 1]:=parts_one (.inl rfl)
theorem termOk_not {l:List Nd} (hT:termOk l=true) (hw:(nth l (l.length - 1)).w=1) (hl:l.length < 80):termOk (l++[notN l])=true:=by
 obtain ⟨hl1,hl2⟩:=term_len hT
 refine term_good (by simp;omega) (fun i hi=>?_)
 simp at hi
 by_cases e:i < l.length
 ·exact nodeOk_app e (term_node hT e)
 ·have e2:i=l.length:=by omega
  subst e2
  have hp:parts (nth (l++[notN l]) l.length)=[(l.length:Int) - 1]:=by
   rw [nth_app_last];exact not_parts l
  refine (node_kind (fun j hj=>?_) ?_).trans ?_
  ·simp only [hp] at hj ⊢
   simp at hj
   subst hj
   simp;omega
  ·rw [nth_app_last];simp [notN]
  ·rw [hp]
   have ew:width (l++[notN l]) ((l.length:Int) - 1)=1:=by
    unfold width
    have:((l.length:Int) - 1).toNat=l.length - 1:=by omega
    rw [this,nth_app_left (by omega)];exact hw
   rw [nth_app_last]
   simp only [List.map_cons,List.map_nil,ew]
   unfold shapeOk notN
   simp
theorem free_not {l:List Nd} (hT:termOk l=true) (hw:(nth l (l.length - 1)).w=1) (hl:l.length < 80):freeL (l++[notN l])=freeL l:=by
 obtain ⟨hl1,hl2⟩:=term_len hT
 have hT2:=termOk_not hT hw hl
 have et:freeTop (l++[notN l])=freeRow (freeRows l l.length) (notN l):=by
  unfold freeTop
  have e1:((l++[notN l]).length:Int) - 1=(l.length:Int):=by simp
  have e2:(l++[notN l]).length=l.length+1:=by simp
  rw [e1,e2,row_new,nth_app_last,freeRows_app l _ _ (Nat.le_refl _)]
 have ef:∀ v,v < 8->flag (freeTop (l++[notN l])) v=flag (freeTop l) v:=by
  intro v hv
  rw [et,flag_freeRow _ _ _ hv]
  unfold freeAt
  rw [not_parts]
  have hin:inParts (freeRows l l.length) [(l.length:Int) - 1] v=flag (freeTop l) v:=by simp [inParts,freeTop]
  rw [hin]
  simp [notN]
 unfold freeL
 rw [hT,hT2]
 simp only [if_true]
 unfold freeTo
 congr 1
 apply List.filter_congr
 intro v hv
 rw [ef v (List.mem_range.1 hv)]
section
variable {t:List Nd} {q:Nd} (hT:termOk t=true) (hQ:termOk (t++[q])=true) (hp:parts q=[(t.length:Int) - 1])
include hT hQ hp
theorem quants_to:∀ k,k<=t.length->quantsTo (t++[q]) k=quantsTo t k:=by
 intro k
 induction k with
 | zero=>intro _;rfl
 | succ k ih =>
   intro hk
   show (quantsTo (t++[q]) k).bind _=(quantsTo t k).bind _
   rw [ih (by omega)]
   congr 1
   funext ws
   unfold qStep
   rw [flag_snoc hT hQ hp (by omega),nth_app_left (by omega)]
theorem uses_to:∀ k,k<=t.length->∀ i,i < t.length->wd (usesF (t++[q]) k) (i:Int)=wd (usesF t k) (i:Int):=by
 intro k
 induction k with
 | zero=>intro _ i _;show wd (List.replicate _ 0) _=wd (List.replicate _ 0) _;rw [wd_zeros,wd_zeros]
 | succ k ih =>
   intro hk i hi
   simp only [usesF]
   rw [flag_snoc hT hQ hp (by omega),nth_app_left (by omega)]
   have hd:=down_of hT k (by omega)
   cases flag (reachL t) k
   ·exact ih (by omega) i hi
   ·simp only [if_true]
    rw [addUses_wd _ _ _ (fun p h=>by rw [usesF_length];have:=hd p h;simp;omega),addUses_wd _ _ _ (fun p h=>by rw [usesF_length];have:=hd p h;omega),ih (by omega) i hi]
end
theorem times_zero {ps:List Int} {q:Nat} (h:∀ p∈ps,p.toNat≠q):times ps q=0:=by
 unfold times
 rw [List.length_eq_zero_iff,List.filter_eq_nil_iff]
 intro p hp
 simpa using h p hp
theorem uses_above {l:List Nd} (hD:Down l):∀ k,k<=l.length->∀ i,k<=i+1->wd (usesF l k) (i:Int)=0:=by
 intro k
 induction k with
 | zero=>intro _ i _;exact wd_zeros _ _
 | succ k ih =>
   intro hk i hi
   simp only [usesF]
   have hd:=hD k (by omega)
   cases flag (reachL l) k
   ·exact ih (by omega) i (by omega)
   ·simp only [if_true]
    rw [addUses_wd _ _ _ (fun p h=>by rw [usesF_length];have:=hd p h;omega),ih (by omega) i (by omega),times_zero (fun p h=>by have:=hd p h;omega)]
    rfl
theorem hold_to (t:List Nd) (q:Nd):∀ k,k<=t.length->holdTo (t++[q]) k=holdTo t k:=by
 intro k
 induction k with
 | zero=>intro _;rfl
 | succ k ih =>
   intro hk
   show holdTo (t++[q]) k++[_]=holdTo t k++[_]
   rw [ih (by omega),nth_app_left (by omega)]
theorem hold_snoc (t:List Nd) (q:Nd) {i:Nat} (hi:i < t.length):flag (holdTo (t++[q]) (t++[q]).length) i=flag (holdTo t t.length) i:=by
 have e:(t++[q]).length=t.length+1:=by simp
 rw [e]
 show flag (holdTo (t++[q]) t.length++[_]) i=_
 rw [hold_to t q _ (Nat.le_refl _)]
 unfold flag
 rw [List.getD_eq_getElem?_getD,List.getElem?_append_left (by rw [holdTo_length];exact hi),<- List.getD_eq_getElem?_getD]
theorem sent_not {t:List Nd} (hS:sentB t=true) (hl:t.length < 80):sentB (t++[notN t])=true:=by
 obtain ⟨hT,hw,hf,ws,hq,hW,hM⟩:=(sent_iff t).1 hS
 have hQ:=termOk_not hT hw hl
 have hp:=not_parts t
 have hlen:=term_len hT
 have hL:(t++[notN t]).length=t.length+1:=by simp
 have hr:flag (reachL (t++[notN t])) t.length=true:=by
  have:=reach_root (l:=t++[notN t]) (by simp)
  simpa using this
 refine (sent_iff _).2 ⟨hQ,?_,by rw [free_not hT hw hl];exact hf,ws,?_,?_,?_,?_⟩
 ·rw [hL,Nat.add_sub_cancel,nth_app_last];rfl
 ·rw [hL]
  show (quantsTo (t++[notN t]) t.length).bind _=_
  rw [quants_to hT hQ hp _ (Nat.le_refl _),hq]
  show qStep (t++[notN t]) ws t.length=_
  unfold qStep
  rw [nth_app_last]
  simp [notN,quant]
 ·intro i hi hfl ho
  rw [hL] at hi
  by_cases e:i < t.length
  ·rw [nth_app_left e] at ho ⊢
   rw [flag_snoc hT hQ hp e] at hfl
   exact hW i e hfl ho
  ·have e2:i=t.length:=by omega
   subst e2
   rw [nth_app_last] at ho
   cases ho
 ·intro i hi hfl hh
  rw [hL] at hi
  by_cases e:i < t.length
  ·rw [nth_app_left e]
   rw [flag_snoc hT hQ hp e] at hfl
   rw [hold_snoc t _ e] at hh
   exact hM.1 i e hfl hh
  ·have e2:i=t.length:=by omega
   subst e2
   rw [nth_app_last];rfl
 ·intro i hi hfl hh
  have hu:wd (usesF (t++[notN t]) (t++[notN t]).length) (i:Int)=wd (usesF (t++[notN t]) t.length) (i:Int)+(times [(t.length:Int) - 1] i:Int):=by
   rw [hL]
   simp only [usesF]
   rw [hr,if_pos rfl,nth_app_last,hp,addUses_wd _ _ _ (fun p h=>by
    rw [usesF_length]
    have:p=(t.length:Int) - 1:=by simpa using h
    simp;omega)]
  rw [hL] at hi
  rw [hu]
  by_cases e:i < t.length
  ·rw [uses_to hT hQ hp _ (Nat.le_refl _) i e]
   rw [flag_snoc hT hQ hp e] at hfl
   rw [hold_snoc t _ e] at hh
   by_cases e3:i=t.length - 1
   ·rw [uses_above (down_of hT) t.length (Nat.le_refl _) i (by omega)]
    have:times [(t.length:Int) - 1] i<=1:=List.length_filter_le _ _
    omega
   ·rw [times_zero (fun p h=>by
     have:p=(t.length:Int) - 1:=by simpa using h
     omega)]
    have:=hM.2 i e hfl hh
    omega
  ·have e2:i=t.length:=by omega
   rw [uses_above (down_of hQ) t.length (by simp) i (by omega),times_zero (fun p h=>by
    have:p=(t.length:Int) - 1:=by simpa using h
    omega)]
   simp
theorem bits_not {t:List Nd} (hS:sentB t=true) (hl:t.length < 80):bitsL (t++[notN t])=bitsL t:=by
 obtain ⟨hT,hw,_⟩:=(sent_iff t).1 hS
 unfold bitsL
 rw [sent_not hS hl,hS]
 simp only [if_true]
 rw [bits_snoc hT (termOk_not hT hw hl) (not_parts t)]
 simp [notN,quant]
theorem flip_one {x:Int} (h:x=0\/x=1):vFlip 1 x=1 - x:=by
 rcases h with rfl|rfl<;>decide
theorem value_not {t:List Nd} {e:List Int} {x:Int} (hT:termOk t=true) (hw:(nth t (t.length - 1)).w=1) (hl:t.length < 80) (h:valueL t e=some x):valueL (t++[notN t]) e=some (1 - x):=by
 have hQ:=termOk_not hT hw hl
 have hp:=not_parts t
 have hx:=value_wok h
 rw [hw] at hx
 obtain ⟨_,he,hb,hf,hv⟩:=value_parts.1 h
 have hr:=root_snoc hT hQ hp (.inl rfl)
 refine value_parts.2 ⟨hQ,he,?_,?_,?_⟩
 ·rw [bits_snoc hT hQ hp];simp [notN,quant];exact hb
 ·rw [hr]
  unfold fitT at hf ⊢
  simp only [needT]
  cases hn:needT (root t) with
  | none=>rw [hn] at hf;cases hf
  | some r =>
    rw [hn] at hf
    exact hf
 ·rw [hr]
  have hxx:x=0\/x=1:=by
   have:=wok_iff.1 hx
   have e:p2 (1:Int).toNat=2:=rfl
   rw [e] at this
   omega
  have hwid:(root t).wid=1:=by
   have:=(rt_all (down_of hT) (fun k hk=>term_node hT hk) (t.length - 1) (by have:=term_len hT;omega)).2
   rw [hw] at this
   exact this
  show (if (2:Int)=19 then _ else if (2:Int)=20 then _ else applyL 2 1 0 (root t).wid (vT (root t) e) 0 0)=_
  rw [if_neg (by decide),if_neg (by decide),hwid,hv,app_in ⟨by decide,by decide⟩ ⟨by decide,by decide⟩ (by omega) ⟨by decide,by decide⟩ ⟨by decide,by decide⟩]
  show vFlip 1 x=_
  exact flip_one hxx
def holdsL (l:List Nd):Option Int:=if sentB l then valueL l (List.replicate 8 0) else none
end Vl5
namespace Jn2
open Nd0 Pl1 Tm0 Tm1 Tm3 Tm4 Tm5 Tm6 Tm8 Tm10 Tm11 Tm12 Tm13 Tm14 Vl5 Aq0 Aq1 Aq13 Jn0 Jn1
theorem times_sh (ps:List Int) (m q:Nat) (h0:∀ p∈ps,0<=p):times (ps.map fun p=>p+(m:Int)) (m+q)=times ps q:=by
 unfold times
 rw [List.filter_map,List.length_map]
 congr 1
 refine List.filter_congr fun p hp=>?_
 have:=h0 p hp
 show ((p+(m:Int)).toNat==m+q)=(p.toNat==q)
 rw [Bool.eq_iff_iff,beq_iff_eq,beq_iff_eq]
 omega
theorem uses_succ {l:List Nd} (hD:Down l) {k:Nat} (hk:k < l.length) (q:Nat):wd (usesF l (k+1)) (q:Int)=wd (usesF l k) (q:Int)+(if flag (reachL l) k then (times (parts (nth l k)) q:Int) else 0):=by
 show wd (if flag (reachL l) k then addUses (usesF l k) (parts (nth l k)) else usesF l k) (q:Int)=_
 split
 ·rw [addUses_wd _ _ _ (fun p hp=>by rw [usesF_length];have:=hD k hk p hp;omega)]
 ·omega
theorem uses_zero (l:List Nd) (q:Nat):wd (usesF l 0) (q:Int)=0:=by
 show wd (List.replicate l.length 0) (q:Int)=0
 unfold wd
 rw [List.getD_eq_getElem?_getD,List.getElem?_replicate]
 split<;>rfl
section
variable {a b:List Nd} (hA:Down a) (hB:Down b) (hJ:Down (jnL a b)) (ha:1<=a.length) (hb:1<=b.length)
include hA hB hJ ha hb
theorem reach_a {i:Nat} (hi:i < a.length):flag (reachL (jnL a b)) i=flag (reachL a) i:=by
 rw [Bool.eq_iff_iff]
 exact jn_reach_a hA hB hJ ha hb (a.length - 1 - i) i (by omega)
omit hA in
theorem reach_b {i:Nat} (hi:i < b.length):flag (reachL (jnL a b)) (a.length+i)=flag (reachL b) i:=by
 rw [Bool.eq_iff_iff]
 exact jn_reach_b hB hJ ha hb (b.length - 1 - i) i (by omega)
theorem jn_uses_a:∀ k,k<=a.length->∀ q,q < a.length+b.length->wd (usesF (jnL a b) k) (q:Int)=if q < a.length then wd (usesF a k) (q:Int) else 0:=by
 intro k
 induction k with
 | zero=>intro _ q _;rw [uses_zero,uses_zero];split<;>rfl
 | succ k ih =>
   intro hk q hq
   rw [uses_succ hJ (by rw [jn_len];omega),ih (by omega) q hq,jn_a (by omega),reach_a hA hB hJ ha hb (by omega)]
   by_cases h:q < a.length
   ·rw [if_pos h,if_pos h,uses_succ hA (by omega)]
   ·rw [if_neg h,if_neg h]
    have:times (parts (nth a k)) q=0:=times_zero fun p hp=>by
     have:=hA k (by omega) p hp
     omega
    rw [this]
    split<;>rfl
theorem jn_uses_b:∀ k,k<=b.length->∀ q,q < a.length+b.length->wd (usesF (jnL a b) (a.length+k)) (q:Int)=if q < a.length then wd (usesF a a.length) (q:Int) else wd (usesF b k) ((q - a.length:Nat):Int):=by
 intro k
 induction k with
 | zero =>
   intro _ q hq
   rw [Nat.add_zero,jn_uses_a hA hB hJ ha hb _ (Nat.le_refl _) q hq,uses_zero]
 | succ k ih =>
   intro hk q hq
   rw [<- Nat.add_assoc,uses_succ hJ (by rw [jn_len];omega),ih (by omega) q hq,jn_b (by omega),reach_b hB hJ ha hb (by omega),sh_parts]
   by_cases h:q < a.length
   ·rw [if_pos h,if_pos h]
    have:times ((parts (nth b k)).map fun p=>p+(a.length:Int)) q=0:=times_zero fun p hp=>by
     obtain ⟨y,hy,rfl⟩:=List.mem_map.1 hp
     have:=hB k (by omega) y hy
     omega
    rw [this]
    split<;>simp
   ·rw [if_neg h,if_neg h,uses_succ hB (by omega)]
    have e:=times_sh (parts (nth b k)) a.length (q - a.length) (fun p hp=>(hB k (by omega) p hp).1)
    rw [show a.length+(q - a.length)=q by omega] at e
    rw [e]
theorem jn_uses {q:Nat} (hq:q < a.length+b.length):wd (usesF (jnL a b) (jnL a b).length) (q:Int)<=1\/wd (usesF (jnL a b) (jnL a b).length) (q:Int)=if q < a.length then wd (usesF a a.length) (q:Int) else wd (usesF b b.length) ((q - a.length:Nat):Int):=by
 rw [jn_len,uses_succ hJ (by rw [jn_len];omega),jn_root ha hb,if_pos rfl,jn_r,both_parts,jn_uses_b hA hB hJ ha hb _ (Nat.le_refl _) q hq]
 by_cases h1:q=a.length - 1
 ·left
  have e:wd (usesF a a.length) (q:Int)=0:=uses_above hA a.length (Nat.le_refl _) q (by omega)
  rw [if_pos (by omega),e]
  have et:times [(a.length:Int) - 1,(a.length:Int)+(b.length:Int) - 1] q=1:=by
   unfold times
   rw [List.filter_cons_of_pos (by simp;omega),List.filter_cons_of_neg (by simp;omega)]
   rfl
  rw [et];omega
 ·by_cases h2:q=a.length+b.length - 1
  ·left
   have e:wd (usesF b b.length) ((q - a.length:Nat):Int)=0:=uses_above hB b.length (Nat.le_refl _) (q - a.length) (by omega)
   rw [if_neg (by omega),e]
   have et:times [(a.length:Int) - 1,(a.length:Int)+(b.length:Int) - 1] q=1:=by
    unfold times
    rw [List.filter_cons_of_neg (by simp;omega),List.filter_cons_of_pos (by simp;omega)]
    rfl
   rw [et];omega
  ·right
   have et:times [(a.length:Int) - 1,(a.length:Int)+(b.length:Int) - 1] q=0:=times_zero fun p hp=>by
    simp only [List.mem_cons,List.not_mem_nil,or_false] at hp
    omega
   rw [et];simp
theorem jn_mov (h1:Mov a) (h2:Mov b):Mov (jnL a b):=by
 refine ⟨fun i hi hf hh=>?_,fun i hi hf hh=>?_⟩
 ·rw [jn_len] at hi
  by_cases h:i < a.length
  ·rw [jn_a h]
   exact h1.1 i h (by rw [<- reach_a hA hB hJ ha hb h];exact hf) (by rw [<- jn_hold_a hA hJ i h];exact hh)
  ·by_cases h9:i < a.length+b.length
   ·obtain ⟨k,rfl⟩:∃ k,i=a.length+k:=⟨i - a.length,by omega⟩
    rw [jn_b (by omega)]
    exact h2.1 k (by omega) (by rw [<- reach_b hB hJ ha hb (by omega)];exact hf) (by rw [<- jn_hold_b hB hJ k (by omega)];exact hh)
   ·have e:i=a.length+b.length:=by omega
    subst e
    rw [jn_r];rfl
 ·rw [jn_len] at hi
  by_cases h9:i < a.length+b.length
  ·rcases jn_uses hA hB hJ ha hb h9 with h|h
   ·exact h
   ·rw [h]
    by_cases hlt:i < a.length
    ·rw [if_pos hlt]
     exact h1.2 i hlt (by rw [<- reach_a hA hB hJ ha hb hlt];exact hf) (by rw [<- jn_hold_a hA hJ i hlt];exact hh)
    ·rw [if_neg hlt]
     obtain ⟨k,rfl⟩:∃ k,i=a.length+k:=⟨i - a.length,by omega⟩
     rw [show a.length+k - a.length=k by omega]
     exact h2.2 k (by omega) (by rw [<- reach_b hB hJ ha hb (by omega)];exact hf) (by rw [<- jn_hold_b hB hJ k (by omega)];exact hh)
  ·have e:i=a.length+b.length:=by omega
   rw [uses_above hJ (jnL a b).length (Nat.le_refl _) i (by rw [jn_len];omega)]
   omega
end
end Jn2
namespace Jn3
open Nd0 Pl1 Tm0 Tm1 Tm3 Tm4 Tm5 Tm6 Tm8 Tm10 Tm11 Tm12 Tm13 Tm14 Tr0 Vl1 Aq0 Aq1 Aq13 Jn0 Jn1 Jn2
theorem rt_at {l:List Nd} (hT:termOk l=true) {i:Nat} (hi:i < l.length):Rt (mkF (nth l i) (tr l)):=by
 have:=(rt_all (down_of hT) (fun k hk=>term_node hT hk) i hi).1
 rw [tr_at (down_of hT) hi] at this
 exact this
theorem quant_k {l:List Nd} (hT:termOk l=true) {i:Nat} (hi:i < l.length) (hq:quant (nth l i).op=true):0<=(nth l i).k/\(nth l i).k<=7:=by
 have hrt:=rt_at hT hi
 have h1:(nth l i).op=19\/(nth l i).op=20:=by
  unfold quant at hq
  simpa using hq
 rw [mk_one (by rcases h1 with h|h<;>omega)] at hrt
 obtain ⟨_,_,_,hop⟩:=hrt
 rcases hop with h9|h9|h9
 ·omega
 ·omega
 ·exact ⟨h9.2.2.2.1,h9.2.2.2.2.1⟩
theorem var_k {l:List Nd} (hT:termOk l=true) {i:Nat} (hi:i < l.length) (ho:(nth l i).op=1):0<=(nth l i).k/\(nth l i).k<=7:=by
 have hrt:=rt_at hT hi
 rw [mk_leaf (by omega) (by omega) (by omega)] at hrt
 obtain ⟨_,_,h⟩:=hrt
 rcases h with h|h
 ·omega
 ·exact h.2
theorem named {l:List Nd} {i:Nat} (hi:i < l.length) (hn:nmd (nth l i)=true) {v:Nat} (hv:(nth l i).k=(v:Int)):numB l v=true:=by
 unfold numB
 refine List.any_eq_true.2 ⟨l[i],List.getElem_mem hi,?_⟩
 rw [nth_get hi,hn,hv]
 simp
theorem wd_set (ws:List Int) {k:Nat} (hk:k < ws.length) (x:Int) (v:Nat):wd (ws.set k x) (v:Int)=if k=v then x else wd ws (v:Int):=by
 unfold wd
 rw [Int.toNat_natCast,List.getD_eq_getElem?_getD,List.getElem?_set,List.getD_eq_getElem?_getD]
 by_cases e:k=v
 ·subst e;simp [hk]
 ·rw [if_neg e,if_neg e]
theorem quants_zero {l:List Nd} (hT:termOk l=true):∀ k,k<=l.length->∀ ws,quantsTo l k=some ws->ws.length=8/\∀ v:Nat,v < 8->numB l v=false->wd ws (v:Int)=0:=by
 intro k
 induction k with
 | zero =>
   intro _ ws h
   have h:some (List.replicate 8 (0:Int))=some ws:=h
   have h:=Option.some.inj h
   subst h
   refine ⟨by simp,fun v hv _=>?_⟩
   unfold wd
   rw [List.getD_eq_getElem?_getD,List.getElem?_replicate]
   split<;>rfl
 | succ k ih =>
   intro hk ws h
   obtain ⟨vs,h1,h2⟩:=Option.bind_eq_some_iff.1 h
   obtain ⟨g1,g2⟩:=ih (by omega) vs h1
   unfold qStep at h2
   split at h2
   ·rename_i hc
    simp only [Bool.and_eq_true] at hc
    split at h2
    ·have h2:=Option.some.inj h2
     subst h2
     obtain ⟨k0,k7⟩:=quant_k hT (by omega) hc.2
     refine ⟨by rw [List.length_set];exact g1,fun v hv hn=>?_⟩
     rw [wd_set vs (by omega)]
     by_cases e:(nth l k).k.toNat=v
     ·have:=named (l:=l) (i:=k) (by omega) (by unfold nmd;rw [hc.2,Bool.or_true]) (v:=v) (by omega)
      rw [this] at hn;cases hn
     ·rw [if_neg e];exact g2 v hv hn
    ·cases h2
   ·have h2:=Option.some.inj h2
    subst h2
    exact ⟨g1,g2⟩
section
variable {a b:List Nd} (hTA:termOk a=true) (hTB:termOk b=true) (hTJ:termOk (jnL a b)=true)
include hTA hTB hTJ
theorem jn_quants_a:∀ k,k<=a.length->quantsTo (jnL a b) k=quantsTo a k:=by
 intro k
 induction k with
 | zero=>intro _;rfl
 | succ k ih =>
   intro hk
   show (quantsTo (jnL a b) k).bind _=(quantsTo a k).bind _
   rw [ih (by omega)]
   congr 1
   funext ws
   unfold qStep
   rw [reach_a (down_of hTA) (down_of hTB) (down_of hTJ) (term_len hTA).1 (term_len hTB).1 (by omega),jn_a (by omega)]
theorem jn_quants_b (hD:∀ v:Nat,v < 8->numB a v=true->numB b v=false) {ws:List Int} (hws:quantsTo a a.length=some ws):∀ k,k<=b.length->∀ vs,quantsTo b k=some vs ->
 ∃ us,quantsTo (jnL a b) (a.length+k)=some us/\us.length=8/\∀ v:Nat,v < 8->wd us (v:Int)=if numB b v then wd vs (v:Int) else wd ws (v:Int):=by
 obtain ⟨w1,w2⟩:=quants_zero hTA _ (Nat.le_refl _) ws hws
 intro k
 induction k with
 | zero =>
   intro _ vs h
   have h:some (List.replicate 8 (0:Int))=some vs:=h
   have h:=Option.some.inj h
   subst h
   refine ⟨ws,by rw [Nat.add_zero,jn_quants_a hTA hTB hTJ _ (Nat.le_refl _)];exact hws,w1,fun v hv=>?_⟩
   cases hn:numB b v
   ·rfl
   ·have h0:wd (List.replicate 8 0) (v:Int)=0:=by
     unfold wd
     rw [List.getD_eq_getElem?_getD,List.getElem?_replicate]
     split<;>rfl
    rw [if_pos rfl,h0]
    refine w2 v hv ?_
    cases ha:numB a v
    ·rfl
    ·rw [hD v hv ha] at hn;cases hn
 | succ k ih =>
   intro hk vs h
   obtain ⟨vs0,h1,h2⟩:=Option.bind_eq_some_iff.1 h
   obtain ⟨us,g1,g2,g3⟩:=ih (by omega) vs0 h1
   obtain ⟨v1,_⟩:=quants_zero hTB k (by omega) vs0 h1
   have hr:=reach_b (down_of hTB) (down_of hTJ) (term_len hTA).1 (term_len hTB).1 (a:=a) (i:=k) (by omega)
   have hstep:quantsTo (jnL a b) (a.length+(k+1))=qStep (jnL a b) us (a.length+k):=by
    rw [<- Nat.add_assoc]
    show (quantsTo (jnL a b) (a.length+k)).bind _=_
    rw [g1];rfl
   rw [hstep]
   unfold qStep at h2 ⊢
   rw [hr,jn_b (by omega)]
   have eo:(shN (a.length:Int) (nth b k)).op=(nth b k).op:=rfl
   have ek:(shN (a.length:Int) (nth b k)).k=(nth b k).k:=rfl
   rw [eo,ek]
   cases hc:(flag (reachL b) k&&quant (nth b k).op)
   ·rw [hc] at h2
    simp only [Bool.false_eq_true,if_false] at h2 ⊢
    have h2:=Option.some.inj h2
    subst h2
    exact ⟨us,rfl,g2,g3⟩
   ·rw [hc,if_pos rfl] at h2
    rw [if_pos rfl]
    simp only [Bool.and_eq_true] at hc
    obtain ⟨k0,k7⟩:=quant_k hTB (by omega) hc.2
    have hnm:=named (l:=b) (i:=k) (by omega) (by unfold nmd;rw [hc.2,Bool.or_true]) (v:=(nth b k).k.toNat) (by omega)
    have hg:=g3 (nth b k).k.toNat (by omega)
    rw [hnm,if_pos rfl,show (((nth b k).k.toNat:Nat):Int)=(nth b k).k by omega] at hg
    have eb:(shN (a.length:Int) (nth b k)).b=(nth b k).b:=by
     have h1:(nth b k).op=19\/(nth b k).op=20:=by
      have h:=hc.2
      unfold quant at h;simpa using h
     unfold shN
     rw [parts_one (by rcases h1 with h|h<;>omega)]
     rfl
    rw [hg,eb]
    split at h2
    ·rename_i hz
     have h2:=Option.some.inj h2
     subst h2
     rw [if_pos hz]
     refine ⟨_,rfl,by rw [List.length_set];exact g2,fun v hv=>?_⟩
     rw [wd_set us (by omega),wd_set vs0 (by omega)]
     by_cases e:(nth b k).k.toNat=v
     ·rw [if_pos e,if_pos e]
      subst e
      rw [hnm];rfl
     ·rw [if_neg e,if_neg e]
      exact g3 v hv
    ·cases h2
theorem jn_sent (hD:∀ v:Nat,v < 8->numB a v=true->numB b v=false) (hA:sentB a=true) (hB:sentB b=true):sentB (jnL a b)=true:=by
 obtain ⟨_,_,a3,ws,a4,a5,a6⟩:=(sent_iff a).1 hA
 obtain ⟨_,_,b3,vs,b4,b5,b6⟩:=(sent_iff b).1 hB
 have hda:=down_of hTA
 have hdb:=down_of hTB
 have hdj:=down_of hTJ
 have hla:=(term_len hTA).1
 have hlb:=(term_len hTB).1
 obtain ⟨us,u1,u2,u3⟩:=jn_quants_b hTA hTB hTJ hD a4 b.length (Nat.le_refl _) vs b4
 refine (sent_iff _).2 ⟨hTJ,?_,jn_closed hda hdb hdj hla hlb hTA hTB hTJ a3 b3,us,?_,?_,jn_mov hda hdb hdj hla hlb a6 b6⟩
 ·rw [jn_len,Nat.add_sub_cancel,jn_r];rfl
 ·rw [jn_len]
  show (quantsTo (jnL a b) (a.length+b.length)).bind _=_
  rw [u1]
  show qStep (jnL a b) us (a.length+b.length)=some us
  unfold qStep
  rw [jn_r,show quant (bothN a b).op=false from rfl,Bool.and_false]
  rfl
 ·intro i hi hf ho
  rw [jn_len] at hi
  by_cases h:i < a.length
  ·rw [jn_a h] at ho ⊢
   have h1:=a5 i h (by rw [<- reach_a hda hdb hdj hla hlb h];exact hf) ho
   obtain ⟨k0,k7⟩:=var_k hTA h ho
   have hn:=named (l:=a) (i:=i) h (by unfold nmd;rw [ho];rfl) (v:=(nth a i).k.toNat) (by omega)
   have h2:=u3 (nth a i).k.toNat (by omega)
   rw [hD _ (by omega) hn,show (((nth a i).k.toNat:Nat):Int)=(nth a i).k by omega] at h2
   rw [h1,h2];rfl
  ·by_cases h9:i < a.length+b.length
   ·obtain ⟨k,rfl⟩:∃ k,i=a.length+k:=⟨i - a.length,by omega⟩
    rw [jn_b (by omega)] at ho ⊢
    have ho:(nth b k).op=1:=ho
    have h1:=b5 k (by omega) (by rw [<- reach_b hdb hdj hla hlb (a:=a) (by omega)];exact hf) ho
    obtain ⟨k0,k7⟩:=var_k hTB (i:=k) (by omega) ho
    have hn:=named (l:=b) (i:=k) (by omega) (by unfold nmd;rw [ho];rfl) (v:=(nth b k).k.toNat) (by omega)
    have h2:=u3 (nth b k).k.toNat (by omega)
    rw [hn,if_pos rfl,show (((nth b k).k.toNat:Nat):Int)=(nth b k).k by omega] at h2
    show (nth b k).w=wd us (nth b k).k
    rw [h1,h2]
   ·have e:i=a.length+b.length:=by omega
    subst e
    rw [jn_r] at ho
    exact absurd ho (by show ¬ (3:Int)=1;decide)
theorem jn_bitsL (hD:∀ v:Nat,v < 8->numB a v=true->numB b v=false) (hA:sentB a=true) (hB:sentB b=true):bitsL (jnL a b)=bitsL a+bitsL b:=by
 unfold bitsL
 rw [jn_sent hTA hTB hTJ hD hA hB,hA,hB,if_pos rfl,if_pos rfl,if_pos rfl]
 exact jn_bits (down_of hTA) (down_of hTB) (down_of hTJ) (term_len hTA).1 (term_len hTB).1
end
end Jn3
namespace Qa0
open Go.RowKit
open Nd0
structure Qu where
 all:Bool
 vr:Int
 bits:Int
end Qa0
namespace Fr0
open Nd0 Qa0 Tm0 Tm1 Tm5 Tm6
end Fr0
end Go.Proofs.YtbellafdjfliiaaGreat
