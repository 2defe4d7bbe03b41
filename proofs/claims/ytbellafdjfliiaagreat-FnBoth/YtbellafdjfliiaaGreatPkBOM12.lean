import Derived.Test.YtbellafdjfliiaaGreatPkBOM7
import Derived.Test.YtbellafdjfliiaaGreatPkBOM6
import Derived.Test.YtbellafdjfliiaaGreatPkBOM9
namespace Go.Proofs.YtbellafdjfliiaaGreat
set_option maxRecDepth 100000
set_option maxHeartbeats 8000000
set_option linter.unusedVariables false
namespace Tm7
open Nd0 Pl1 Tm0 Tm1 Tm4
open Go.RowKit
theorem bits_andNot_u8_nat (a b:Nat) (ha:a < 256) (hb:b < 256):bits .andNot .u8 (a:Int) (b:Int)=((a &&& (255 - b):Nat):Int):=by
 have hx:a &&& (255 - b) < 2 ^ 8:=Nat.and_lt_two_pow _ (by omega)
 have h1:(BitVec.ofInt 8 (a:Int)).toNat=a:=by
  rw [BitVec.ofInt_natCast,BitVec.toNat_ofNat];exact Nat.mod_eq_of_lt (by omega)
 have h2:(BitVec.ofInt 8 (b:Int)).toNat=b:=by
  rw [BitVec.ofInt_natCast,BitVec.toNat_ofNat];exact Nat.mod_eq_of_lt (by omega)
 show IntKind.u8.wrap ((BitVec.ofInt 8 (a:Int) &&& ~~~ BitVec.ofInt 8 (b:Int)).toNat:Int)=_
 rw [BitVec.toNat_and,BitVec.toNat_not,h1,h2]
 simp only [IntKind.wrap,IntKind.signed,IntKind.bits]
 simp
 omega
theorem bit_not (b v:Nat) (hb:b < 256) (hv:v < 8):(255 - b).testBit v = !b.testBit v:=by
 have h:=Nat.testBit_two_pow_sub_succ (x:=b) (n:=8) (by omega) v
 have e:2 ^ 8 - (b+1)=255 - b:=by omega
 rw [e] at h
 rw [h,decide_eq_true hv,Bool.true_and]
def numsTo (s k:Nat):List Int:=((List.range k).filter fun v=>s.testBit v).map fun (i:Nat)=>(i:Int)
theorem numsTo_succ (s k:Nat):numsTo s (k+1)=if s.testBit k then numsTo s k++[(k:Int)] else numsTo s k:=by
 unfold numsTo
 rw [List.range_succ,List.filter_append,List.map_append]
 cases h:s.testBit k<;>simp [h]
theorem numsTo_length (s k:Nat):(numsTo s k).length<=k:=by
 unfold numsTo
 rw [List.length_map]
 exact Nat.le_trans (List.length_filter_le _ _) (by simp)
theorem bits_over (s k:Nat) (h:s / 2 ^ k=0) (v:Nat) (hv:k<=v):s.testBit v=false:=by
 have h2:s < 2 ^ k:=by
  rcases Nat.div_eq_zero_iff.1 h with h0|h0
  ·have:=Nat.two_pow_pos k;omega
  ·exact h0
 exact Nat.testBit_lt_two_pow (Nat.lt_of_lt_of_le h2 (Nat.pow_le_pow_right (by omega) hv))
theorem nums_end (s k:Nat) (h:s / 2 ^ k=0) (hk:k<=8):numsTo s k=numsTo s 8:=by
 have:∀ d,k+d<=8->numsTo s (k+d)=numsTo s k:=by
  intro d
  induction d with
  | zero=>intro _;rfl
  | succ d ih =>
    intro hd
    rw [<- Nat.add_assoc,numsTo_succ,bits_over s k h _ (by omega)]
    exact ih (by omega)
 have h8:=this (8 - k) (by omega)
 rw [<- h8];congr 1;omega
theorem low_bit (s k:Nat):(s / 2 ^ k) % 2=1↔s.testBit k=true:=by
 rw [Nat.testBit_eq_decide_div_mod_eq,decide_eq_true_eq]
def Has (s:Nat) (r:List Bool):Prop:=s < 256/\∀ v,v < 8->s.testBit v=flag r v
theorem bit_one (k v:Nat):(2 ^ k).testBit v=decide (k=v):=Nat.testBit_two_pow
def Some_ (s:Nat) (rows:List (List Bool)) (n:Nd) (j:Nat):Prop:=s < 256/\∀ v,v < 8->s.testBit v=((n.op==1&&n.k==(v:Int))||inParts rows ((parts n).take j) v)
theorem some_start_var {rows:List (List Bool)} {n:Nd} {kk:Nat} (h1:n.op=1) (hk:n.k=(kk:Int)) (h7:kk<=7):Some_ (2 ^ kk) rows n 0:=by
 have e:=Nat.pow_le_pow_right (n:=2) (by omega) h7
 refine ⟨by omega,fun v hv=>?_⟩
 rw [bit_one,h1,hk]
 simp only [List.take_zero,inParts,List.any_nil,Bool.or_false]
 rw [Bool.eq_iff_iff];simp
 omega
theorem some_start {rows:List (List Bool)} {n:Nd} (h1:(n.op==1)=false):Some_ 0 rows n 0:=by
 refine ⟨by omega,fun v hv=>?_⟩
 rw [h1];simp [inParts]
theorem some_next {s t:Nat} {rows:List (List Bool)} {n:Nd} {j:Nat} (h:Some_ s rows n j) (hj:j < (parts n).length) (ht:Has t (row rows (parts n)[j])):Some_ (s ||| t) rows n (j+1):=by
 refine ⟨Nat.or_lt_two_pow (n:=8) h.1 ht.1,fun v hv=>?_⟩
 rw [Nat.testBit_or,h.2 v hv,ht.2 v hv,inParts_take _ _ _ _ hj,Bool.or_assoc]
theorem flag_freeRow (rows:List (List Bool)) (n:Nd) (v:Nat) (hv:v < 8):flag (freeRow rows n) v=freeAt rows n v:=by
 simp [flag,freeRow,List.getD,hv]
theorem some_end {s:Nat} {rows:List (List Bool)} {n:Nd} {j:Nat} (h:Some_ s rows n j) (hj:(parts n).length<=j) (hq:(n.op==19||n.op==20)=false):Has s (freeRow rows n):=by
 refine ⟨h.1,fun v hv=>?_⟩
 rw [h.2 v hv,flag_freeRow _ _ _ hv,List.take_of_length_le hj]
 unfold freeAt
 rw [hq];simp
theorem some_end_quant {s:Nat} {rows:List (List Bool)} {n:Nd} {j kk:Nat} (h:Some_ s rows n j) (hj:(parts n).length<=j) (hq:(n.op==19||n.op==20)=true) (hk:n.k=(kk:Int)) (h7:kk<=7):Has (s &&& (255 - 2 ^ kk)) (freeRow rows n):=by
 have e:=Nat.pow_le_pow_right (n:=2) (by omega) h7
 refine ⟨Nat.and_lt_two_pow _ (n:=8) (Nat.lt_of_le_of_lt (Nat.sub_le _ _) (by decide)),fun v hv=>?_⟩
 rw [Nat.testBit_and,h.2 v hv,flag_freeRow _ _ _ hv,List.take_of_length_le hj,bit_not _ _ (by omega) hv,bit_one]
 unfold freeAt
 rw [hq,hk]
 by_cases ev:kk=v
 ·subst ev;simp
 ·have e1:((kk:Int)==(v:Int))=false:=by simp;omega
  rw [e1];simp [ev]
theorem row_old (l:List Nd) (k:Nat) (p:Int) (h0:0<=p) (hp:p < k):row (freeRows l (k+1)) p=row (freeRows l k) p:=by
 unfold row
 show (freeRows l k++[_]).getD p.toNat []=_
 rw [List.getD_eq_getElem?_getD,List.getElem?_append_left (by rw [freeRows_length];omega),<- List.getD_eq_getElem?_getD]
theorem row_new (l:List Nd) (k:Nat):row (freeRows l (k+1)) (k:Int)=freeRow (freeRows l k) (nth l k):=by
 unfold row
 show (freeRows l k++[_]).getD k []=_
 rw [List.getD_eq_getElem?_getD,List.getElem?_append_right (by rw [freeRows_length];exact Nat.le_refl _),freeRows_length]
 simp
theorem nums_free {l:List Nd} {s:Nat} (h:Has s (freeTop l)):numsTo s 8=freeTo l 8:=by
 unfold numsTo freeTo
 congr 1
 apply List.filter_congr
 intro v hv
 exact h.2 v (List.mem_range.1 hv)
theorem set_zero {l:List Nd} {s:Nat} (hT:termOk l=true) (h:Has s (freeTop l)):s=0↔(freeL l).length=0:=by
 have e:freeL l=numsTo s 8:=by unfold freeL;rw [hT,nums_free h];rfl
 rw [e]
 constructor
 ·intro h0;subst h0;simp [numsTo]
 ·intro h0
  apply Nat.eq_of_testBit_eq
  intro v
  rw [Nat.zero_testBit]
  by_cases hv:v < 8
  ·cases hb:s.testBit v
   ·rfl
   ·have:(v:Int)∈numsTo s 8:=by
     unfold numsTo
     exact List.mem_map.2 ⟨v,List.mem_filter.2 ⟨List.mem_range.2 hv,hb⟩,rfl⟩
    rw [List.eq_nil_of_length_eq_zero h0] at this
    cases this
  ·exact Nat.testBit_lt_two_pow (Nat.lt_of_lt_of_le h.1 (Nat.pow_le_pow_right (n:=2) (by omega) (by omega:8<=v)))
end Tm7
namespace Tm12
open Nd0 Pl1 Tm0 Tm1 Tm4 Tm7
theorem nth_app_left {l:List Nd} {n:Nd} {i:Nat} (h:i < l.length):nth (l++[n]) i=nth l i:=by
 unfold nth
 rw [List.getD_eq_getElem?_getD,List.getElem?_append_left h,<- List.getD_eq_getElem?_getD]
theorem nth_app_last (l:List Nd) (n:Nd):nth (l++[n]) l.length=n:=by
 unfold nth
 rw [List.getD_eq_getElem?_getD,List.getElem?_append_right (Nat.le_refl _)]
 simp
theorem nodeOk_app {l:List Nd} {n:Nd} {i:Nat} (hi:i < l.length) (h:nodeOk l i=true):nodeOk (l++[n]) i=true:=by
 have hp:=parts_ok h
 have e:(parts (nth (l++[n]) i)).map (width (l++[n]))=(parts (nth l i)).map (width l):=by
  rw [nth_app_left hi]
  apply List.map_congr_left
  intro p hpm
  obtain ⟨j,hj,rfl⟩:=List.getElem_of_mem hpm
  have:=hp j hj
  unfold width
  rw [nth_app_left (by omega)]
 simp only [nodeOk] at h ⊢
 rw [e,nth_app_left hi]
 exact h
theorem freeRows_app (l:List Nd) (n:Nd):∀ k,k<=l.length->freeRows (l++[n]) k=freeRows l k:=by
 intro k
 induction k with
 | zero=>intro _;rfl
 | succ k ih =>
   intro hk
   show freeRows (l++[n]) k++[_]=freeRows l k++[_]
   rw [ih (by omega),nth_app_left (by omega)]
end Tm12
namespace Tm8
open Nd0 Pl1 Tm0 Tm1 Tm2 Tm3
theorem markAll_flag (ps:List Int):∀ (bs:List Bool) (i:Nat),i < bs.length->flag (markAll bs ps) i=(flag bs i||ps.any fun p=>p.toNat==i):=by
 induction ps with
 | nil=>intro bs i _;simp [markAll]
 | cons p ps ih =>
   intro bs i hi
   show flag (markAll (bs.set p.toNat true) ps) i=_
   rw [ih _ _ (by rw [List.length_set];exact hi)]
   by_cases hp:p.toNat < bs.length
   ·rw [flag_set hp]
    by_cases e:p.toNat=i
    ·simp [e]
    ·have e':(p.toNat==i)=false:=by simpa using e
     rw [if_neg e,List.any_cons,e',Bool.false_or]
   ·have:bs.set p.toNat true=bs:=List.set_eq_of_length_le (by omega)
    rw [this]
    have e':(p.toNat==i)=false:=by simp;omega
    rw [List.any_cons,e',Bool.false_or]
def Down (l:List Nd):Prop:=∀ i,i < l.length->∀ p∈parts (nth l i),0<=p/\p < (i:Int)
theorem down_of {l:List Nd} (h:termOk l=true):Down l:=by
 intro i hi p hp
 obtain ⟨j,hj,rfl⟩:=List.getElem_of_mem hp
 exact parts_ok (term_node h hi) j hj
theorem step_flag {l:List Nd} (bs:List Bool) (k i:Nat) (hi:i < bs.length):flag (reachStep l bs k) i=(flag bs i||(flag bs k&&(parts (nth l k)).any fun p=>p.toNat==i)):=by
 unfold reachStep
 cases h:flag bs k
 ·simp
 ·rw [if_pos rfl,markAll_flag _ _ _ hi];simp
theorem down_high {l:List Nd} (hD:Down l):∀ (k:Nat) (bs:List Bool),bs.length=l.length->k<=l.length->∀ i,k<=i+1->i < l.length->flag (reachDown l k bs) i=flag bs i:=by
 intro k
 induction k with
 | zero=>intro bs _ _ i _ _;rfl
 | succ k ih =>
   intro bs hb hk i hi hl
   show flag (reachDown l k (reachStep l bs k)) i=_
   rw [ih _ (by rw [reachStep_length];exact hb) (by omega) i (by omega) hl,step_flag _ _ _ (by omega)]
   have:((parts (nth l k)).any fun p=>p.toNat==i)=false:=by
    rw [List.any_eq_false]
    intro p hp
    have:=hD k (by omega) p hp
    simp;omega
   rw [this];simp
theorem down_closed {l:List Nd} (hD:Down l):∀ (k:Nat) (bs:List Bool),bs.length=l.length->k<=l.length->(∀ i,k<=i->i < l.length->flag bs i=true->∀ p∈parts (nth l i),flag bs p.toNat=true) ->
 ∀ i,i < l.length->flag (reachDown l k bs) i=true->∀ p∈parts (nth l i),flag (reachDown l k bs) p.toNat=true:=by
 intro k
 induction k with
 | zero=>intro bs _ _ h i hi hf p hp;exact h i (by omega) hi hf p hp
 | succ k ih =>
   intro bs hb hk h
   refine ih (reachStep l bs k) (by rw [reachStep_length];exact hb) (by omega) ?_
   intro i hki hi hf p hp
   have hpd:=hD i hi p hp
   rw [step_flag _ _ _ (by omega)] at hf
   rw [step_flag _ _ _ (by omega)]
   have hna:((parts (nth l k)).any fun q=>q.toNat==i)=false:=by
    rw [List.any_eq_false]
    intro q hq
    have:=hD k (by omega) q hq
    simp;omega
   rw [hna,Bool.and_false,Bool.or_false] at hf
   by_cases e:i=k
   ·subst e
    rw [hf]
    have:((parts (nth l i)).any fun q=>q.toNat==p.toNat)=true:=List.any_eq_true.2 ⟨p,hp,by simp⟩
    rw [this];simp
   ·rw [h i (by omega) hi hf p hp];simp
theorem init_flag (n i:Nat) (h:i < n):flag (reachInit n) i=(i+1==n):=by simp [flag,reachInit,List.getD,h]
theorem reach_closed {l:List Nd} (hD:Down l) {i:Nat} (hi:i < l.length) (hf:flag (reachL l) i=true) {p:Int} (hp:p∈parts (nth l i)):flag (reachL l) p.toNat=true :=
 down_closed hD l.length _ (reachInit_length _) (Nat.le_refl _) (fun i h1 h2=>by omega) i hi hf p hp
theorem down_more {l:List Nd}:∀ (k:Nat) (bs:List Bool),bs.length=l.length->∀ i,i < l.length->flag bs i=true->flag (reachDown l k bs) i=true:=by
 intro k
 induction k with
 | zero=>intro bs _ i _ h;exact h
 | succ k ih =>
   intro bs hb i hi h
   refine ih (reachStep l bs k) (by rw [reachStep_length];exact hb) i hi ?_
   rw [step_flag _ _ _ (by omega),h];rfl
theorem reach_root {l:List Nd} (h:1<=l.length):flag (reachL l) (l.length - 1)=true :=
 down_more l.length _ (reachInit_length _) _ (by omega) (by rw [init_flag _ _ (by omega)];simp;omega)
theorem down_why {l:List Nd} (hD:Down l):∀ (k:Nat) (bs:List Bool),bs.length=l.length->k<=l.length->∀ i,i < l.length->flag (reachDown l k bs) i=true->flag bs i=true\/∃ j,i < j/\j < l.length/\flag (reachDown l k bs) j=true/\(i:Int)∈parts (nth l j):=by
 intro k
 induction k with
 | zero=>intro bs _ _ i _ h;exact .inl h
 | succ k ih =>
   intro bs hb hk i hi h
   rcases ih (reachStep l bs k) (by rw [reachStep_length];exact hb) (by omega) i hi h with h1|h1
   ·rw [step_flag _ _ _ (by omega)] at h1
    simp only [Bool.or_eq_true,Bool.and_eq_true] at h1
    rcases h1 with h1|⟨h1,h2⟩
    ·exact .inl h1
    ·obtain ⟨p,hp,hpe⟩:=List.any_eq_true.1 h2
     have hd:=hD k (by omega) p hp
     simp at hpe
     have hpi:p=(i:Int):=by omega
     subst hpi
     refine .inr ⟨k,by omega,by omega,?_,hp⟩
     exact down_more k _ (by rw [reachStep_length];exact hb) k (by omega) (by rw [step_flag _ _ _ (by omega),h1];rfl)
   ·exact .inr h1
theorem reach_why {l:List Nd} (hD:Down l) {i:Nat} (hi:i < l.length) (hf:flag (reachL l) i=true):i+1=l.length\/∃ j,i < j/\j < l.length/\flag (reachL l) j=true/\(i:Int)∈parts (nth l j):=by
 rcases down_why hD l.length _ (reachInit_length _) (Nat.le_refl _) i hi hf with h|h
 ·rw [init_flag _ _ hi] at h;exact .inl (by simpa using h)
 ·exact .inr h
theorem reach_at (l:List Nd):∀ (k j:Nat) (h:j < (reachTo l k).length),∃ x:Nat,(reachTo l k)[j]=(x:Int)/\x < k/\flag (reachL l) x=true/\(reachTo l x).length=j:=by
 intro k
 induction k with
 | zero=>intro j h;simp [reachTo] at h
 | succ k ih =>
   intro j h
   have e:=reachTo_succ l k
   cases hf:flag (reachL l) k
   ·rw [hf] at e
    simp only [Bool.false_eq_true,if_false] at e
    have h':j < (reachTo l k).length:=by rw [<- e];exact h
    obtain ⟨x,h1,h2,h3,h4⟩:=ih j h'
    exact ⟨x,by simp only [e];exact h1,by omega,h3,h4⟩
   ·rw [hf,if_pos rfl] at e
    have hlen:(reachTo l (k+1)).length=(reachTo l k).length+1:=by rw [e];simp
    by_cases hj:j < (reachTo l k).length
    ·obtain ⟨x,h1,h2,h3,h4⟩:=ih j hj
     refine ⟨x,?_,by omega,h3,h4⟩
     simp only [e]
     rw [List.getElem_append_left hj];exact h1
    ·have hje:j=(reachTo l k).length:=by omega
     refine ⟨k,?_,by omega,hf,hje.symm⟩
     simp only [e,hje]
     rw [List.getElem_append_right (Nat.le_refl _)]
     simp
theorem reachTo_mono (l:List Nd) {a b:Nat} (h:a<=b):(reachTo l a).length<=(reachTo l b).length:=by
 induction b with
 | zero=>have:a=0:=by omega
         subst this;exact Nat.le_refl _
 | succ b ih =>
   by_cases e:a=b+1
   ·subst e;exact Nat.le_refl _
   ·refine Nat.le_trans (ih (by omega)) ?_
    rw [reachTo_succ];split
    ·simp
    ·exact Nat.le_refl _
theorem reachTo_lt (l:List Nd) {a b:Nat} (h:a < b) (hf:flag (reachL l) a=true):(reachTo l a).length < (reachTo l b).length:=by
 have h1:=reachTo_mono l (a:=a+1) (b:=b) (by omega)
 rw [reachTo_succ,hf,if_pos rfl,List.length_append] at h1
 simp at h1;omega
theorem reachTo_inj (l:List Nd) {a b:Nat} (ha:flag (reachL l) a=true) (hb:flag (reachL l) b=true) (h:(reachTo l a).length=(reachTo l b).length):a=b:=by
 rcases Nat.lt_trichotomy a b with h1|h1|h1
 ·have:=reachTo_lt l h1 ha;omega
 ·exact h1
 ·have:=reachTo_lt l h1 hb;omega
theorem prune_map (l:List Nd) (k:Nat):pruneTo l k=(reachTo l k).map fun p=>remap l (nth l p.toNat):=by
 unfold pruneTo reachTo;rw [List.map_map];rfl
end Tm8
namespace Tm10
open Nd0 Pl1 Tm0 Tm1 Tm2 Tm3 Tm4 Tm5 Tm6 Tm8 Tm9 Rw1
theorem quants_skip1 (l:List Nd) (x:Nat) (h:flag (reachL l) x=false):quantsTo l (x+1)=quantsTo l x:=by
 show (quantsTo l x).bind _=_
 cases hq:quantsTo l x with
 | none=>rfl
 | some ws=>show qStep l ws x=_;unfold qStep;rw [h];rfl
theorem flag_between (l:List Nd) {x y z:Nat} (h:(reachTo l x).length=(reachTo l y).length) (h1:x<=z) (h2:z < y):flag (reachL l) z=false:=by
 cases hf:flag (reachL l) z
 ·rfl
 ·have a1:=reachTo_mono l h1
  have a2:=reachTo_lt l h2 hf
  omega
theorem quants_skip (l:List Nd) {x y:Nat} (hxy:x<=y) (h:(reachTo l x).length=(reachTo l y).length):quantsTo l y=quantsTo l x:=by
 induction y with
 | zero=>have:x=0:=by omega
         subst this;rfl
 | succ y ih =>
   by_cases e:x=y+1
   ·subst e;rfl
   ·have hf:flag (reachL l) y=false:=flag_between l h (by omega) (by omega)
    rw [quants_skip1 l y hf]
    refine ih (by omega) ?_
    have:=reachTo_succ l y
    rw [hf] at this
    rw [h,this];rfl
theorem quants_same (l:List Nd) {x y:Nat} (h:(reachTo l x).length=(reachTo l y).length):quantsTo l y=quantsTo l x:=by
 rcases Nat.le_total x y with hh|hh
 ·exact quants_skip l hh h
 ·exact (quants_skip l hh h.symm).symm
theorem quants_len {l:List Nd}:∀ {k:Nat} {ws:List Int},quantsTo l k=some ws->ws.length=8:=by
 intro k
 induction k with
 | zero=>intro ws h;cases h;rfl
 | succ k ih =>
   intro ws h
   cases hq:quantsTo l k with
   | none=>rw [quants_none hq _ (Nat.le_succ _)] at h;cases h
   | some w0 =>
     rw [quants_succ hq] at h
     unfold qStep at h
     split at h
     ·split at h
      ·cases h;rw [List.length_set];exact ih hq
      ·cases h
     ·cases h;exact ih hq
def usesF (l:List Nd):Nat->List Int
 | 0=>List.replicate l.length 0
 | k+1=>if flag (reachL l) k then addUses (usesF l k) (parts (nth l k)) else usesF l k
theorem usesF_length (l:List Nd) (k:Nat):(usesF l k).length=l.length:=by
 induction k with
 | zero=>simp [usesF]
 | succ k ih=>unfold usesF;split
              ·rw [addUses_length];exact ih
              ·exact ih
theorem uses_some {l:List Nd} {ws:List Int}:∀ {k:Nat},(∀ i,i < k->flag (reachL l) i=true->badNode l ws i=false)->usesTo l ws k=some (usesF l k):=by
 intro k
 induction k with
 | zero=>intro _;rfl
 | succ k ih =>
   intro h
   rw [uses_succ (ih (fun i hi=>h i (by omega)))]
   show uStep l ws (usesF l k) k=some (if flag (reachL l) k then addUses (usesF l k) (parts (nth l k)) else usesF l k)
   unfold uStep
   cases hf:flag (reachL l) k
   ·rfl
   ·rw [if_pos rfl,if_pos rfl,h k (by omega) hf];rfl
theorem uses_bad {l:List Nd} {ws:List Int} {i k:Nat} (hi:i < k) (hf:flag (reachL l) i=true) (hb:badNode l ws i=true):usesTo l ws k=none:=by
 have:usesTo l ws (i+1)=none:=by
  show (usesTo l ws i).bind _=none
  cases hu:usesTo l ws i with
  | none=>rfl
  | some us=>show uStep l ws us i=none;unfold uStep;rw [hf,if_pos rfl,hb];rfl
 exact uses_none this _ (by omega)
theorem usesF_skip (l:List Nd) {x y:Nat} (hxy:x<=y) (h:(reachTo l x).length=(reachTo l y).length):usesF l y=usesF l x:=by
 induction y with
 | zero=>have:x=0:=by omega
         subst this;rfl
 | succ y ih =>
   by_cases e:x=y+1
   ·subst e;rfl
   ·have hf:flag (reachL l) y=false:=flag_between l h (by omega) (by omega)
    have e1:usesF l (y+1)=usesF l y:=by show (if _ then _ else _)=_;rw [hf];rfl
    rw [e1]
    refine ih (by omega) ?_
    have:=reachTo_succ l y
    rw [hf] at this
    rw [h,this];rfl
theorem usesF_same (l:List Nd) {x y:Nat} (h:(reachTo l x).length=(reachTo l y).length):usesF l y=usesF l x:=by
 rcases Nat.le_total x y with hh|hh
 ·exact usesF_skip l hh h
 ·exact (usesF_skip l hh h.symm).symm
theorem addUses_le (ps:List Int):∀ (us:List Int) (q:Nat),wd us (q:Int)<=wd (addUses us ps) (q:Int):=by
 induction ps with
 | nil=>intro us q;exact Int.le_refl _
 | cons p ps ih =>
   intro us q
   refine Int.le_trans ?_ (ih (us.set p.toNat (wd us p+1)) q)
   by_cases hp:p.toNat < us.length
   ·rw [wd_set hp]
    split
    ·rename_i e
     have e2:=wd_toNat us p
     rw [<- e] at e2
     omega
    ·exact Int.le_refl _
   ·rw [List.set_eq_of_length_le (by omega)];exact Int.le_refl _
theorem usesF_le (l:List Nd) {x y:Nat} (h:x<=y) (q:Nat):wd (usesF l x) (q:Int)<=wd (usesF l y) (q:Int):=by
 induction y with
 | zero=>have:x=0:=by omega
         subst this;exact Int.le_refl _
 | succ y ih =>
   by_cases e:x=y+1
   ·subst e;exact Int.le_refl _
   ·refine Int.le_trans (ih (by omega)) ?_
    show _<=wd (if _ then _ else _) _
    split
    ·exact addUses_le _ _ _
    ·exact Int.le_refl _
theorem hold_prefix (l:List Nd) {k n i:Nat} (hi:i < k) (hk:k<=n):flag (holdTo l n) i=flag (holdTo l k) i:=by
 induction n with
 | zero=>omega
 | succ n ih =>
   by_cases e:k=n+1
   ·subst e;rfl
   ·rw [<- ih (by omega)]
    show flag (holdTo l n++[_]) i=_
    unfold flag
    rw [List.getD_eq_getElem?_getD,List.getElem?_append_left (by rw [holdTo_length];omega),<- List.getD_eq_getElem?_getD]
theorem hold_at {l:List Nd} (hD:Down l) {i:Nat} (hi:i < l.length):flag (holdTo l l.length) i=(quant (nth l i).op||below (holdTo l l.length) (parts (nth l i))):=by
 rw [hold_prefix l (k:=i+1) (n:=l.length) (by omega) (by omega)]
 have e1:flag (holdTo l (i+1)) i=(quant (nth l i).op||below (holdTo l i) (parts (nth l i))):=by
  show flag (holdTo l i++[_]) i=_
  unfold flag
  rw [List.getD_eq_getElem?_getD,List.getElem?_append_right (by rw [holdTo_length];exact Nat.le_refl _),holdTo_length]
  simp
 rw [e1]
 congr 1
 unfold below
 rw [Bool.eq_iff_iff,List.any_eq_true,List.any_eq_true]
 constructor
 ·rintro ⟨p,hp,hf⟩
  have hd:=hD i hi p hp
  exact ⟨p,hp,by rw [hold_prefix l (k:=i) (n:=l.length) (by omega) (by omega)];exact hf⟩
 ·rintro ⟨p,hp,hf⟩
  have hd:=hD i hi p hp
  exact ⟨p,hp,by rw [<- hold_prefix l (k:=i) (n:=l.length) (by omega) (by omega)];exact hf⟩
def Mov (l:List Nd):Prop:=(∀ i,i < l.length->flag (reachL l) i=true->flag (holdTo l l.length) i=true->outer (nth l i).op=true)/\∀ i,i < l.length->flag (reachL l) i=true->flag (holdTo l l.length) i=true->wd (usesF l l.length) (i:Int)<=1
def Wid (l:List Nd) (ws:List Int):Prop:=∀ i,i < l.length->flag (reachL l) i=true->(nth l i).op=1->(nth l i).w=wd ws (nth l i).k
theorem sent_all {l:List Nd} {ws:List Int} (h1:termOk l=true) (h2:(nth l (l.length - 1)).w=1) (h3:(freeL l).length=0) (hq:quantsTo l l.length=some ws) (hw:Wid l ws) (hm:Mov l):sentB l=true:=by
 have hu:usesTo l ws l.length=some (usesF l l.length):=uses_some (fun i hi hf=>by
  unfold badNode
  have a1:((nth l i).op==1&&wd ws (nth l i).k != (nth l i).w)=false:=by
   cases ho:((nth l i).op==1)
   ·rfl
   ·have:=hw i hi hf (by simpa using ho)
    simp [this]
  have a2:(flag (holdTo l l.length) i && !outer (nth l i).op)=false:=by
   cases hh:flag (holdTo l l.length) i
   ·rfl
   ·rw [hm.1 i hi hf hh];rfl
  rw [a1,a2];rfl)
 rw [sent_twice h1 h2 h3 hq hu]
 have:twice l (usesF l l.length) l.length=false:=by
  unfold twice
  rw [List.any_eq_false]
  intro i hi
  have hi':=List.mem_range.1 hi
  cases hf:flag (reachL l) i
  ·simp
  ·cases hh:flag (holdTo l l.length) i
   ·simp
   ·have:=hm.2 i hi' hf hh
    simp;omega
 rw [this];rfl
theorem sent_wid {l:List Nd} {ws:List Int} (hq:quantsTo l l.length=some ws) {i:Nat} (hi:i < l.length) (hf:flag (reachL l) i=true) (ho:(nth l i).op=1) (hw:(nth l i).w≠wd ws (nth l i).k):sentB l=false :=
 sent_uses (k:=l.length) (Nat.le_refl _) hq (uses_bad hi hf (by
  unfold badNode
  have:((nth l i).op==1&&wd ws (nth l i).k != (nth l i).w)=true:=by
   rw [Bool.and_eq_true];exact ⟨by simpa using ho,by simp;exact fun e=>hw e.symm⟩
  rw [this];rfl))
theorem sent_outer {l:List Nd} {i:Nat} (hi:i < l.length) (hf:flag (reachL l) i=true) (hh:flag (holdTo l l.length) i=true) (ho:outer (nth l i).op=false):sentB l=false:=by
 cases hq:quantsTo l l.length with
 | none=>exact sent_quants (Nat.le_refl _) hq
 | some ws=>exact sent_uses (k:=l.length) (Nat.le_refl _) hq (uses_bad hi hf (by unfold badNode;rw [hh,ho];simp))
theorem sent_used {l:List Nd} {i:Nat} (hi:i < l.length) (hf:flag (reachL l) i=true) (hh:flag (holdTo l l.length) i=true) (hu:1 < wd (usesF l l.length) (i:Int)):sentB l=false:=by
 cases hq:quantsTo l l.length with
 | none=>exact sent_quants (Nat.le_refl _) hq
 | some ws =>
   cases hus:usesTo l ws l.length with
   | none=>exact sent_uses (k:=l.length) (Nat.le_refl _) hq hus
   | some us =>
     have hno:∀ i,i < l.length->flag (reachL l) i=true->badNode l ws i=false:=by
      intro j hj hjf
      cases hb:badNode l ws j
      ·rfl
      ·rw [uses_bad hj hjf hb] at hus;cases hus
     have e:=uses_some (k:=l.length) hno
     rw [hus] at e
     cases e
     unfold sentB
     rw [hq];simp only
     rw [hus];simp only
     rw [twice_found hi hf hh hu];simp
end Tm10
namespace Tm13
open Nd0 Pl1 Tm0 Tm1 Tm2 Tm3 Tm4 Tm5 Tm6 Tm8 Tm9 Tm10
def pl (l:List Nd) (x:Nat):Nat:=(reachTo l x).length
theorem plc_pl (l:List Nd) (x:Nat):plc l (x:Int)=(pl l x:Int):=by simp [plc,pl]
theorem pl_succ (l:List Nd) (x:Nat):pl l (x+1)=if flag (reachL l) x then pl l x+1 else pl l x:=by
 unfold pl;rw [reachTo_succ];split
 ·simp
 ·rfl
theorem prune_ok {l:List Nd} (hT:termOk l=true):pruneL l=pruneTo l l.length:=by unfold pruneL;rw [hT];rfl
theorem prune_len {l:List Nd} (hT:termOk l=true):(pruneL l).length=pl l l.length:=by rw [prune_ok hT,pruneTo_length];rfl
theorem pruneTo_nth (l:List Nd) {x:Nat} (hf:flag (reachL l) x=true):∀ k,x < k->nth (pruneTo l k) (pl l x)=remap l (nth l x):=by
 intro k
 induction k with
 | zero=>intro h;omega
 | succ k ih =>
   intro h
   by_cases e:x=k
   ·subst e
    rw [pruneTo_succ,hf,if_pos rfl]
    unfold nth pl
    rw [List.getD_eq_getElem?_getD,List.getElem?_append_right (by rw [pruneTo_length];exact Nat.le_refl _),pruneTo_length]
    simp
   ·have h1:=ih (by omega)
    rw [pruneTo_succ]
    split
    ·rw [<- h1]
     unfold nth
     rw [List.getD_eq_getElem?_getD,List.getElem?_append_left (by rw [pruneTo_length];exact reachTo_lt l (by omega) hf),<- List.getD_eq_getElem?_getD]
    ·exact h1
theorem prune_nth {l:List Nd} (hT:termOk l=true) {x:Nat} (hx:x < l.length) (hf:flag (reachL l) x=true):nth (pruneL l) (pl l x)=remap l (nth l x):=by
 rw [prune_ok hT];exact pruneTo_nth l hf _ hx
theorem pl_lt {l:List Nd} (hT:termOk l=true) {x:Nat} (hx:x < l.length) (hf:flag (reachL l) x=true):pl l x < (pruneL l).length:=by
 rw [prune_len hT];exact reachTo_lt l hx hf
theorem pl_all {l:List Nd} (hT:termOk l=true) {j:Nat} (hj:j < (pruneL l).length):∃ x,x < l.length/\flag (reachL l) x=true/\pl l x=j:=by
 rw [prune_len hT] at hj
 obtain ⟨x,_,h2,h3,h4⟩:=reach_at l l.length j hj
 exact ⟨x,h2,h3,h4⟩
theorem parts_remap (l:List Nd) (n:Nd):parts (remap l n)=(parts n).map (plc l):=by
 rcases parts_cases n with h|h|h|h
 ·have e:remap l n=n:=by unfold remap;rw [h];rfl
  rw [e,h];rfl
 ·have h0:=h
  have e:remap l n=⟨n.op,n.w,n.k,plc l n.a,n.b,n.c⟩:=by unfold remap;rw [h];rfl
  rw [e,h]
  have:n.op=2\/n.op=17\/n.op=19\/n.op=20:=by
   unfold parts at h0
   split at h0
   ·assumption
   ·split at h0
    ·simp at h0
    ·split at h0<;>simp at h0
  exact parts_one (n:=⟨n.op,n.w,n.k,plc l n.a,n.b,n.c⟩) this
 ·have h0:=h
  have e:remap l n=⟨n.op,n.w,n.k,plc l n.a,plc l n.b,n.c⟩:=by unfold remap;rw [h];rfl
  rw [e,h]
  have:3<=n.op/\n.op<=16:=by
   unfold parts at h0
   split at h0
   ·simp at h0
   ·split at h0
    ·assumption
    ·split at h0<;>simp at h0
  exact parts_two (n:=⟨n.op,n.w,n.k,plc l n.a,plc l n.b,n.c⟩) this
 ·have h0:=h
  have e:remap l n=⟨n.op,n.w,n.k,plc l n.a,plc l n.b,plc l n.c⟩:=by unfold remap;rw [h];rfl
  rw [e,h]
  have:n.op=18:=by
   unfold parts at h0
   split at h0
   ·simp at h0
   ·split at h0
    ·simp at h0
    ·split at h0
     ·assumption
     ·simp at h0
  exact parts_three (n:=⟨n.op,n.w,n.k,plc l n.a,plc l n.b,plc l n.c⟩) this
theorem remap_op (l:List Nd) (n:Nd):(remap l n).op=n.op:=rfl
theorem remap_k (l:List Nd) (n:Nd):(remap l n).k=n.k:=rfl
theorem shape_remap (l:List Nd) (n:Nd) (ws:List Int):shapeOk (remap l n) ws=shapeOk n ws:=by
 obtain ⟨op,w,k,a,b,c⟩:=n
 by_cases h1:op=2\/op=17\/op=19\/op=20
 ·have e:remap l ⟨op,w,k,a,b,c⟩=⟨op,w,k,plc l a,b,c⟩:=by unfold remap;rw [parts_one h1];rfl
  rw [e]
  unfold shapeOk
  dsimp only
  rcases h1 with h|h|h|h<;>subst h<;>rfl
 ·by_cases h2:3<=op/\op<=16
  ·have e:remap l ⟨op,w,k,a,b,c⟩=⟨op,w,k,plc l a,plc l b,c⟩:=by unfold remap;rw [parts_two h2];rfl
   rw [e]
   unfold shapeOk
   dsimp only
   have n0:¬ op=0:=by omega
   have n1:¬ op=1:=by omega
   have n2:¬ op=2:=by omega
   have n3:¬ op=17:=by omega
   have n4:¬ op=18:=by omega
   have n5:¬ (op=19\/op=20):=by omega
   simp only [if_neg n0,if_neg n1,if_neg n2,if_neg n3,if_neg n4,if_neg n5]
  ·by_cases h3:op=18
   ·subst h3
    have e:remap l ⟨18,w,k,a,b,c⟩=⟨18,w,k,plc l a,plc l b,plc l c⟩:=by unfold remap;rw [parts_three rfl];rfl
    rw [e];rfl
   ·have e:remap l ⟨op,w,k,a,b,c⟩=⟨op,w,k,a,b,c⟩:=by unfold remap;rw [parts_none h1 h2 h3];rfl
    rw [e]
theorem part_reached {l:List Nd} (hT:termOk l=true) {x:Nat} (hx:x < l.length) (hf:flag (reachL l) x=true) {p:Int} (hp:p∈parts (nth l x)) :
 ∃ y:Nat,p=(y:Int)/\y < x/\flag (reachL l) y=true/\plc l p=(pl l y:Int):=by
 have hd:=down_of hT x hx p hp
 have hr:=reach_closed (down_of hT) hx hf hp
 refine ⟨p.toNat,by omega,by omega,hr,?_⟩
 rw [<- plc_pl];congr 1;omega
theorem prune_node {l:List Nd} (hT:termOk l=true) {x:Nat} (hx:x < l.length) (hf:flag (reachL l) x=true):nodeOk (pruneL l) (pl l x)=true:=by
 have hn:=prune_nth hT hx hf
 have hk:=term_node hT hx
 have e:(parts (nth (pruneL l) (pl l x))).map (width (pruneL l))=(parts (nth l x)).map (width l):=by
  rw [hn,parts_remap,List.map_map]
  apply List.map_congr_left
  intro p hp
  obtain ⟨y,rfl,hyx,hy,hpl⟩:=part_reached hT hx hf hp
  simp only [Function.comp,width]
  rw [hpl,Int.toNat_natCast,prune_nth hT (by omega) hy,Int.toNat_natCast]
  rfl
 simp only [nodeOk,Bool.and_eq_true,List.all_eq_true,decide_eq_true_eq] at hk ⊢
 rw [e]
 refine ⟨⟨?_,?_⟩,?_⟩
 ·intro q hq
  rw [hn,parts_remap] at hq
  obtain ⟨p,hp,rfl⟩:=List.mem_map.1 hq
  obtain ⟨y,rfl,hyx,hy,hpl⟩:=part_reached hT hx hf hp
  have:=reachTo_lt l hyx hy
  rw [hpl]
  unfold pl
  omega
 ·rw [hn];exact hk.1.2
 ·rw [hn,shape_remap];exact hk.2
theorem prune_root {l:List Nd} (hT:termOk l=true):pl l (l.length - 1)=(pruneL l).length - 1/\1<=(pruneL l).length:=by
 have hl:=term_len hT
 have hr:=reach_root (l:=l) hl.1
 have h1:=pl_succ l (l.length - 1)
 rw [hr,if_pos rfl] at h1
 have e:l.length - 1+1=l.length:=by omega
 rw [e] at h1
 rw [prune_len hT]
 omega
theorem prune_term {l:List Nd} (hT:termOk l=true):termOk (pruneL l)=true:=by
 have hl:=term_len hT
 have h1:=(prune_root hT).2
 have h2:=pruneL_le l
 refine term_good ⟨h1,by omega⟩ (fun j hj=>?_)
 obtain ⟨x,hx,hf,rfl⟩:=pl_all hT hj
 exact prune_node hT hx hf
theorem prune_reach_at {l:List Nd} (hT:termOk l=true):∀ d x,l.length=x+1+d->flag (reachL l) x=true->flag (reachL (pruneL l)) (pl l x)=true:=by
 intro d
 induction d using Nat.strongRecOn with
 | ind d ih =>
   intro x hd hf
   rcases reach_why (down_of hT) (by omega) hf with h|⟨j,h1,h2,h3,h4⟩
   ·have hr:=prune_root hT
    have e:x=l.length - 1:=by omega
    rw [e,hr.1]
    exact reach_root hr.2
   ·have hj:=ih (l.length - j - 1) (by omega) j (by omega) h3
    have hp:(pl l x:Int)∈parts (nth (pruneL l) (pl l j)):=by
     rw [prune_nth hT h2 h3,parts_remap,<- plc_pl]
     exact List.mem_map_of_mem h4
    have:=reach_closed (down_of (prune_term hT)) (pl_lt hT h2 h3) hj hp
    rw [Int.toNat_natCast] at this
    exact this
theorem prune_reach {l:List Nd} (hT:termOk l=true) {j:Nat} (hj:j < (pruneL l).length):flag (reachL (pruneL l)) j=true:=by
 obtain ⟨x,hx,hf,rfl⟩:=pl_all hT hj
 exact prune_reach_at hT (l.length - x - 1) x (by omega) hf
theorem map_nth (m:List Nd):(List.range m.length).map (nth m)=m:=by
 apply List.ext_getElem
 ·simp
 ·intro i h1 h2
  simp only [List.getElem_map,List.getElem_range]
  exact (nth_get h2).symm
end Tm13
end Go.Proofs.YtbellafdjfliiaaGreat
