import Derived.Test.YtbellafdjfliiaaGreatPkBOM13
import Derived.Test.YtbellafdjfliiaaGreatPkBOM9
import Derived.Test.YtbellafdjfliiaaGreatPkBOM12
namespace Go.Proofs.YtbellafdjfliiaaGreat
set_option maxRecDepth 100000
set_option maxHeartbeats 8000000
set_option linter.unusedVariables false
namespace Aq1
open Nd0 Pl1 Tm0 Tm1 Tm3 Tm4 Tm5 Tm7 Tm8 Tm12 Tm13 Vl1 Aq0
def shN (m:Int) (n:Nd):Nd:=⟨n.op,n.w,n.k,if 0 < (parts n).length then n.a+m else n.a,if 1 < (parts n).length then n.b+m else n.b,if 2 < (parts n).length then n.c+m else n.c⟩
def joinL (a b:List Nd):List Nd:=a++b.map (shN a.length)
theorem joinL_length (a b:List Nd):(joinL a b).length=a.length+b.length:=by simp [joinL]
def shB (a b:List Nd) (v:Nat):Bool:=numB a v&&numB b v
def lfB (a b:List Nd) (v:Nat):Bool := !(numB a v||numB b v)
def shTo (a b:List Nd) (k:Nat):List Nat:=(List.range k).filter (shB a b)
def lfL (a b:List Nd):List Nat:=(List.range 8).filter (lfB a b)
def enough (a b:List Nd):Bool:=decide ((shTo a b 8).length<=(lfL a b).length)
def nwK (a b:List Nd) (v:Nat):Nat:=if shB a b v then (lfL a b).getD (shTo a b v).length 0 else v
def nwN (a b:List Nd) (n:Nd):Nd:=if nmd n then { n with k:=(nwK a b n.k.toNat:Int) } else n
theorem shTo_succ (a b:List Nd) (k:Nat):shTo a b (k+1)=if shB a b k then shTo a b k++[k] else shTo a b k:=by
 unfold shTo
 rw [List.range_succ,List.filter_append]
 cases h:shB a b k<;>simp [h]
theorem shTo_length (a b:List Nd) (k:Nat):(shTo a b k).length<=k:=by
 unfold shTo
 exact Nat.le_trans (List.length_filter_le _ _) (by simp)
theorem shTo_mono (a b:List Nd) {j k:Nat} (h:j<=k):(shTo a b j).length<=(shTo a b k).length:=by
 induction k with
 | zero=>have:j=0:=by omega
         subst this;exact Nat.le_refl _
 | succ k ih =>
   by_cases e:j=k+1
   ·subst e;exact Nat.le_refl _
   ·rw [shTo_succ]
    split
    ·rw [List.length_append];have:=ih (by omega);omega
    ·exact ih (by omega)
theorem shTo_at (a b:List Nd):∀ (k j:Nat) (h:j < (shTo a b k).length),(shTo a b k)[j] < k/\shB a b (shTo a b k)[j]=true/\(shTo a b (shTo a b k)[j]).length=j:=by
 intro k
 induction k with
 | zero=>intro j h;simp [shTo] at h
 | succ k ih =>
   intro j h
   have e:=shTo_succ a b k
   cases hs:shB a b k
   ·rw [hs] at e
    simp only [Bool.false_eq_true,if_false] at e
    simp only [e]
    have h9:j < (shTo a b k).length:=by rw [e] at h;exact h
    have:=ih j h9
    exact ⟨by omega,this.2⟩
   ·rw [hs] at e
    simp only [if_true] at e
    simp only [e]
    rw [e,List.length_append] at h
    by_cases h9:j < (shTo a b k).length
    ·rw [List.getElem_append_left h9]
     have:=ih j h9
     exact ⟨by omega,this.2⟩
    ·have e2:j=(shTo a b k).length:=by simp at h;omega
     subst e2
     rw [List.getElem_append_right (Nat.le_refl _)]
     simp [hs]
theorem lfL_at (a b:List Nd) {j:Nat} (h:j < (lfL a b).length):(lfL a b)[j] < 8/\lfB a b (lfL a b)[j]=true:=by
 have:=List.getElem_mem h
 unfold lfL at this
 rw [List.mem_filter,List.mem_range] at this
 exact this
theorem nwK_lt (a b:List Nd) (he:enough a b=true) {v:Nat} (hv:v < 8):nwK a b v < 8:=by
 unfold nwK
 split
 ·next h =>
  have h1:(shTo a b v).length < (shTo a b (v+1)).length:=by rw [shTo_succ,h];simp
  have h2:=shTo_mono a b (j:=v+1) (k:=8) (by omega)
  have h3:(shTo a b 8).length<=(lfL a b).length:=of_decide_eq_true he
  have h4:(shTo a b v).length < (lfL a b).length:=by omega
  rw [List.getD_eq_getElem?_getD,List.getElem?_eq_getElem h4]
  exact (lfL_at a b h4).1
 ·exact hv
def bothAll (a b:List Nd):List Nd:=joinL a (b.map (nwN a b))++[⟨3,1,0,(a.length:Int) - 1,(a.length:Int)+b.length - 1,0⟩]
theorem parts_op {n m:Nd} (h:n.op=m.op) (ha:n.a=m.a) (hb:n.b=m.b) (hc:n.c=m.c):parts n=parts m:=by unfold parts;rw [h,ha,hb,hc]
theorem nth_map {l:List Nd} (g:Nd->Nd) {i:Nat} (h:i < l.length):nth (l.map g) i=g (nth l i):=by
 unfold nth
 rw [List.getD_eq_getElem?_getD,List.getElem?_map,List.getElem?_eq_getElem h,List.getD_eq_getElem?_getD,List.getElem?_eq_getElem h]
 rfl
theorem down_map {l:List Nd} (hD:Down l) (g:Nd->Nd) (hg:∀ n,parts (g n)=parts n):Down (l.map g):=by
 intro i hi p hp
 rw [List.length_map] at hi
 rw [nth_map g hi,hg] at hp
 exact hD i hi p hp
theorem nwN_parts (a b:List Nd) (n:Nd):parts (nwN a b n)=parts n:=by
 unfold nwN;split
 ·rfl
 ·rfl
end Aq1
namespace Aq13
open Nd0 Pl1 Tm0 Tm1 Tm6 Tm8 Tm11 Aq0 Aq1
def bothN (a b:List Nd):Nd:=⟨3,1,0,(a.length:Int) - 1,(a.length:Int)+(b.length:Int) - 1,0⟩
def bothB (a b:List Nd):Bool:=sentB a&&sentB b&&enough a b&&termOk (bothAll a b)
def bothR (a b:List Nd):List Nd:=if bothB a b then bothAll a b else []
theorem bothR_le (a b:List Nd):(bothR a b).length<=80:=by
 unfold bothR
 split
 ·rename_i h
  unfold bothB at h
  simp only [Bool.and_eq_true] at h
  exact (term_len h.2).2
 ·exact Nat.zero_le _
theorem both_no {a b:List Nd} (h:bothB a b=false):bothR a b=[]:=by unfold bothR;rw [h];rfl
theorem both_1 {a b:List Nd} (h:sentB a=false):bothB a b=false/\bothR a b=[]:=by
 have h1:bothB a b=false:=by unfold bothB;rw [h];rfl
 exact ⟨h1,both_no h1⟩
theorem both_2 {a b:List Nd} (h:sentB b=false):bothB a b=false/\bothR a b=[]:=by
 have h1:bothB a b=false:=by unfold bothB;rw [h,Bool.and_false];rfl
 exact ⟨h1,both_no h1⟩
theorem both_3 {a b:List Nd} (h:enough a b=false):bothB a b=false/\bothR a b=[]:=by
 have h1:bothB a b=false:=by unfold bothB;rw [h,Bool.and_false];rfl
 exact ⟨h1,both_no h1⟩
theorem both_4 {a b:List Nd} (h1:sentB a=true) (h2:sentB b=true) (h3:enough a b=true):bothB a b=termOk (bothAll a b)/\bothR a b=if termOk (bothAll a b) then bothAll a b else []:=by
 have h:bothB a b=termOk (bothAll a b):=by unfold bothB;rw [h1,h2,h3];rfl
 exact ⟨h,by unfold bothR;rw [h]⟩
end Aq13
namespace Jn0
open Nd0 Pl1 Tm0 Tm1 Tm3 Tm5 Tm8 Tm11 Tm12 Tm13 Aq0 Aq1 Aq13
def jnL (a b:List Nd):List Nd:=joinL a b++[bothN a b]
theorem jn_len (a b:List Nd):(jnL a b).length=a.length+b.length+1:=by
 unfold jnL;rw [List.length_append,joinL_length];rfl
theorem jn_a {a b:List Nd} {i:Nat} (hi:i < a.length):nth (jnL a b) i=nth a i:=by
 unfold jnL joinL nth
 rw [List.getD_eq_getElem?_getD,List.append_assoc,List.getElem?_append_left hi,<- List.getD_eq_getElem?_getD]
theorem jn_b {a b:List Nd} {j:Nat} (hj:j < b.length):nth (jnL a b) (a.length+j)=shN (a.length:Int) (nth b j):=by
 unfold jnL joinL nth
 rw [List.getD_eq_getElem?_getD,List.append_assoc,List.getElem?_append_right (by omega),show a.length+j - a.length=j by omega,List.getElem?_append_left (by rw [List.length_map];exact hj),List.getElem?_map,List.getElem?_eq_getElem hj,List.getD_eq_getElem?_getD,List.getElem?_eq_getElem hj]
 rfl
theorem jn_r (a b:List Nd):nth (jnL a b) (a.length+b.length)=bothN a b:=by
 have:=nth_app_last (joinL a b) (bothN a b)
 rw [joinL_length] at this
 exact this
theorem sh_parts (m:Int) (n:Nd):parts (shN m n)=(parts n).map (fun p=>p+m):=by
 by_cases h1:n.op=2\/n.op=17\/n.op=19\/n.op=20
 ·have hps:=parts_one h1
  rw [parts_one (n:=shN m n) h1,hps]
  unfold shN;rw [hps];rfl
 ·by_cases h2:3<=n.op/\n.op<=16
  ·have hps:=parts_two h2
   rw [parts_two (n:=shN m n) h2,hps]
   unfold shN;rw [hps];rfl
  ·by_cases h3:n.op=18
   ·have hps:=parts_three h3
    rw [parts_three (n:=shN m n) h3,hps]
    unfold shN;rw [hps];rfl
   ·rw [parts_none (n:=shN m n) h1 h2 h3,parts_none h1 h2 h3];rfl
theorem both_parts (a b:List Nd):parts (bothN a b)=[(a.length:Int) - 1,(a.length:Int)+(b.length:Int) - 1]:=parts_two (n:=bothN a b) (show 3<=(3:Int)/\(3:Int)<=16 by omega)
section
variable {a b:List Nd} (hA:Down a) (hB:Down b) (hJ:Down (jnL a b)) (ha:1<=a.length) (hb:1<=b.length)
include hA hB hJ ha hb
omit hA hB hJ in
theorem jn_root:flag (reachL (jnL a b)) (a.length+b.length)=true:=by
 have:=reach_root (l:=jnL a b) (by rw [jn_len];omega)
 rw [jn_len] at this
 exact this
theorem jn_reach_a:∀ d i,a.length=i+1+d->(flag (reachL (jnL a b)) i=true↔flag (reachL a) i=true):=by
 intro d
 induction d using Nat.strongRecOn with
 | ind d ih =>
   intro i hd
   constructor
   ·intro hf
    rcases reach_why hJ (by rw [jn_len];omega) hf with h|⟨j,h1,h2,h3,h4⟩
    ·rw [jn_len] at h;omega
    ·rw [jn_len] at h2
     by_cases hj:j < a.length
     ·rw [jn_a hj] at h4
      have h5:=reach_closed hA hj ((ih (a.length - 1 - j) (by omega) j (by omega)).1 h3) h4
      rw [Int.toNat_natCast] at h5
      exact h5
     ·by_cases hj2:j < a.length+b.length
      ·have e:nth (jnL a b) j=shN (a.length:Int) (nth b (j - a.length)):=by
        have:=jn_b (a:=a) (b:=b) (j:=j - a.length) (by omega)
        rw [show a.length+(j - a.length)=j by omega] at this
        exact this
       rw [e,sh_parts] at h4
       obtain ⟨p,hp,hpe⟩:=List.mem_map.1 h4
       have:=hB (j - a.length) (by omega) p hp
       omega
      ·have e:j=a.length+b.length:=by omega
       subst e
       rw [jn_r,both_parts] at h4
       simp only [List.mem_cons,List.not_mem_nil,or_false] at h4
       have e2:i=a.length - 1:=by omega
       rw [e2]
       exact reach_root ha
   ·intro hf
    rcases reach_why hA (by omega) hf with h|⟨j,h1,h2,h3,h4⟩
    ·have h5:=reach_closed hJ (i:=a.length+b.length) (by rw [jn_len];omega) (jn_root ha hb) (p:=(i:Int)) (by
      rw [jn_r,both_parts]
      have e:(i:Int)=(a.length:Int) - 1:=by omega
      rw [e];exact List.mem_cons_self)
     rw [Int.toNat_natCast] at h5
     exact h5
    ·have h5:=reach_closed hJ (i:=j) (by rw [jn_len];omega) ((ih (a.length - 1 - j) (by omega) j (by omega)).2 h3) (p:=(i:Int)) (by rw [jn_a h2];exact h4)
     rw [Int.toNat_natCast] at h5
     exact h5
omit hA in
theorem jn_reach_b:∀ d i,b.length=i+1+d->(flag (reachL (jnL a b)) (a.length+i)=true↔flag (reachL b) i=true):=by
 intro d
 induction d using Nat.strongRecOn with
 | ind d ih =>
   intro i hd
   constructor
   ·intro hf
    rcases reach_why hJ (by rw [jn_len];omega) hf with h|⟨j,h1,h2,h3,h4⟩
    ·rw [jn_len] at h;omega
    ·rw [jn_len] at h2
     by_cases hj2:j < a.length+b.length
     ·obtain ⟨k,rfl⟩:∃ k,j=a.length+k:=⟨j - a.length,by omega⟩
      rw [jn_b (by omega),sh_parts] at h4
      obtain ⟨p,hp,hpe⟩:=List.mem_map.1 h4
      have h5:=reach_closed hB (i:=k) (by omega) ((ih (b.length - 1 - k) (by omega) k (by omega)).1 h3) hp
      have e:p.toNat=i:=by omega
      rw [e] at h5
      exact h5
     ·have e:j=a.length+b.length:=by omega
      subst e
      rw [jn_r,both_parts] at h4
      simp only [List.mem_cons,List.not_mem_nil,or_false] at h4
      have e2:i=b.length - 1:=by omega
      rw [e2]
      exact reach_root hb
   ·intro hf
    rcases reach_why hB (by omega) hf with h|⟨j,h1,h2,h3,h4⟩
    ·have h5:=reach_closed hJ (i:=a.length+b.length) (by rw [jn_len];omega) (jn_root ha hb) (p:=((a.length+i:Nat):Int)) (by
      rw [jn_r,both_parts]
      have e:((a.length+i:Nat):Int)=(a.length:Int)+(b.length:Int) - 1:=by omega
      rw [e];simp)
     rw [Int.toNat_natCast] at h5
     exact h5
    ·have h5:=reach_closed hJ (i:=a.length+j) (by rw [jn_len];omega) ((ih (b.length - 1 - j) (by omega) j (by omega)).2 h3) (p:=((a.length+i:Nat):Int)) (by
      rw [jn_b h2,sh_parts]
      exact List.mem_map.2 ⟨(i:Int),h4,by omega⟩)
     rw [Int.toNat_natCast] at h5
     exact h5
theorem jn_bits_a:∀ k,k<=a.length->bitsTo (jnL a b) k=bitsTo a k:=by
 intro k
 induction k with
 | zero=>intro _;rfl
 | succ k ih =>
   intro hk
   simp only [bitsTo]
   rw [ih (by omega),jn_a (by omega)]
   have e:flag (reachL (jnL a b)) k=flag (reachL a) k:=by
    have:=jn_reach_a hA hB hJ ha hb (a.length - 1 - k) k (by omega)
    cases h1:flag (reachL a) k
    ·cases h2:flag (reachL (jnL a b)) k
     ·rfl
     ·rw [this.1 h2] at h1;cases h1
    ·exact this.2 h1
   rw [e]
theorem jn_bits_b:∀ k,k<=b.length->bitsTo (jnL a b) (a.length+k)=bitsTo a a.length+bitsTo b k:=by
 intro k
 induction k with
 | zero=>intro _;rw [Nat.add_zero,jn_bits_a hA hB hJ ha hb _ (Nat.le_refl _)];simp [bitsTo]
 | succ k ih =>
   intro hk
   rw [<- Nat.add_assoc]
   simp only [bitsTo]
   rw [ih (by omega),jn_b (by omega)]
   have e:flag (reachL (jnL a b)) (a.length+k)=flag (reachL b) k:=by
    have:=jn_reach_b hB hJ ha hb (b.length - 1 - k) k (by omega)
    cases h1:flag (reachL b) k
    ·cases h2:flag (reachL (jnL a b)) (a.length+k)
     ·rfl
     ·rw [this.1 h2] at h1;cases h1
    ·exact this.2 h1
   have eb:quant (shN (a.length:Int) (nth b k)).op=true->(shN (a.length:Int) (nth b k)).b=(nth b k).b:=fun h=>by
    have h1:(nth b k).op=19\/(nth b k).op=20:=by
     have h:quant (nth b k).op=true:=h
     unfold quant at h;simpa using h
    unfold shN
    rw [parts_one (by rcases h1 with h|h<;>omega)]
    rfl
   have eo:(shN (a.length:Int) (nth b k)).op=(nth b k).op:=rfl
   rw [e]
   cases hq:quant (nth b k).op
   ·rw [eo,hq,Bool.and_false];rfl
   ·rw [eb (by rw [eo];exact hq),eo,hq,Bool.and_true]
    split<;>omega
theorem jn_bits:bitsTo (jnL a b) (jnL a b).length=bitsTo a a.length+bitsTo b b.length:=by
 rw [jn_len]
 simp only [bitsTo]
 rw [jn_r,show quant (bothN a b).op=false from rfl,Bool.and_false]
 exact jn_bits_b hA hB hJ ha hb _ (Nat.le_refl _)
end
end Jn0
namespace Jn1
open Nd0 Pl1 Tm0 Tm1 Tm3 Tm4 Tm5 Tm8 Tm10 Tm11 Tm12 Tm13 Tm14 Aq0 Aq1 Aq13 Jn0
section
variable {a b:List Nd} (hA:Down a) (hB:Down b) (hJ:Down (jnL a b))
include hA hJ
theorem jn_hold_a:∀ i,i < a.length->flag (holdTo (jnL a b) (jnL a b).length) i=flag (holdTo a a.length) i:=by
 intro i
 induction i using Nat.strongRecOn with
 | ind i ih =>
   intro hi
   rw [hold_at hJ (by rw [jn_len];omega),hold_at hA hi,jn_a hi]
   congr 1
   unfold below
   rw [Bool.eq_iff_iff,List.any_eq_true,List.any_eq_true]
   constructor
   ·rintro ⟨p,hp,hf⟩
    have:=hA i hi p hp
    exact ⟨p,hp,by rw [<- ih p.toNat (by omega) (by omega)];exact hf⟩
   ·rintro ⟨p,hp,hf⟩
    have:=hA i hi p hp
    exact ⟨p,hp,by rw [ih p.toNat (by omega) (by omega)];exact hf⟩
theorem jn_free_a:∀ i,i < a.length->∀ v,v < 8->flag (row (freeRows (jnL a b) (jnL a b).length) (i:Int)) v=flag (row (freeRows a a.length) (i:Int)) v:=by
 intro i
 induction i using Nat.strongRecOn with
 | ind i ih =>
   intro hi v hv
   rw [free_at hJ (by rw [jn_len];omega) hv,free_at hA hi hv,jn_a hi]
   have e:inParts (freeRows (jnL a b) (jnL a b).length) (parts (nth a i)) v=inParts (freeRows a a.length) (parts (nth a i)) v:=by
    unfold inParts
    rw [Bool.eq_iff_iff,List.any_eq_true,List.any_eq_true]
    constructor
    ·rintro ⟨p,hp,hf⟩
     have:=hA i hi p hp
     obtain ⟨y,rfl⟩:∃ y:Nat,p=(y:Int):=⟨p.toNat,by omega⟩
     exact ⟨_,hp,by rw [<- ih y (by omega) (by omega) v hv];exact hf⟩
    ·rintro ⟨p,hp,hf⟩
     have:=hA i hi p hp
     obtain ⟨y,rfl⟩:∃ y:Nat,p=(y:Int):=⟨p.toNat,by omega⟩
     exact ⟨_,hp,by rw [ih y (by omega) (by omega) v hv];exact hf⟩
   unfold freeAt
   rw [e]
omit hA
include hB
theorem jn_hold_b:∀ i,i < b.length->flag (holdTo (jnL a b) (jnL a b).length) (a.length+i)=flag (holdTo b b.length) i:=by
 intro i
 induction i using Nat.strongRecOn with
 | ind i ih =>
   intro hi
   rw [hold_at hJ (by rw [jn_len];omega),hold_at hB hi,jn_b hi]
   show (quant (nth b i).op||_)=_
   congr 1
   rw [sh_parts]
   unfold below
   rw [Bool.eq_iff_iff,List.any_eq_true,List.any_eq_true]
   constructor
   ·rintro ⟨p,hp,hf⟩
    obtain ⟨q,hq,rfl⟩:=List.mem_map.1 hp
    have:=hB i hi q hq
    exact ⟨q,hq,by rw [<- ih q.toNat (by omega) (by omega),show a.length+q.toNat=(q+(a.length:Int)).toNat by omega];exact hf⟩
   ·rintro ⟨q,hq,hf⟩
    have:=hB i hi q hq
    exact ⟨q+(a.length:Int),List.mem_map.2 ⟨q,hq,rfl⟩,by rw [show (q+(a.length:Int)).toNat=a.length+q.toNat by omega,ih q.toNat (by omega) (by omega)];exact hf⟩
theorem jn_free_b:∀ i,i < b.length->∀ v,v < 8->flag (row (freeRows (jnL a b) (jnL a b).length) ((a.length+i:Nat):Int)) v=flag (row (freeRows b b.length) (i:Int)) v:=by
 intro i
 induction i using Nat.strongRecOn with
 | ind i ih =>
   intro hi v hv
   rw [free_at hJ (by rw [jn_len];omega) hv,free_at hB hi hv,jn_b hi]
   have e:inParts (freeRows (jnL a b) (jnL a b).length) (parts (shN (a.length:Int) (nth b i))) v=inParts (freeRows b b.length) (parts (nth b i)) v:=by
    rw [sh_parts]
    unfold inParts
    rw [Bool.eq_iff_iff,List.any_eq_true,List.any_eq_true]
    constructor
    ·rintro ⟨p,hp,hf⟩
     obtain ⟨q,hq,rfl⟩:=List.mem_map.1 hp
     have:=hB i hi q hq
     obtain ⟨y,rfl⟩:∃ y:Nat,q=(y:Int):=⟨q.toNat,by omega⟩
     exact ⟨_,hq,by rw [<- ih y (by omega) (by omega) v hv,show ((a.length+y:Nat):Int)=(y:Int)+(a.length:Int) by omega];exact hf⟩
    ·rintro ⟨q,hq,hf⟩
     have:=hB i hi q hq
     obtain ⟨y,rfl⟩:∃ y:Nat,q=(y:Int):=⟨q.toNat,by omega⟩
     exact ⟨(y:Int)+(a.length:Int),List.mem_map.2 ⟨_,hq,rfl⟩,by rw [show (y:Int)+(a.length:Int)=((a.length+y:Nat):Int) by omega,ih y (by omega) (by omega) v hv];exact hf⟩
   unfold freeAt
   rw [e]
   rfl
include hA
theorem jn_closed (ha:1<=a.length) (hb:1<=b.length) (hTA:termOk a=true) (hTB:termOk b=true) (hTJ:termOk (jnL a b)=true) (h1:(freeL a).length=0) (h2:(freeL b).length=0):(freeL (jnL a b)).length=0:=by
 have none_of:∀ {l:List Nd},termOk l=true->1<=l.length->(freeL l).length=0->∀ v,v < 8->flag (row (freeRows l l.length) ((l.length - 1:Nat):Int)) v=false:=by
  intro l hT hl h v hv
  cases hf:flag (row (freeRows l l.length) ((l.length - 1:Nat):Int)) v
  ·rfl
  ·exfalso
   have e:freeL l=freeTo l 8:=by unfold freeL;rw [hT];rfl
   rw [e] at h
   have hm:(v:Int)∈freeTo l 8:=by
    unfold freeTo freeTop
    refine List.mem_map.2 ⟨v,List.mem_filter.2 ⟨List.mem_range.2 hv,?_⟩,rfl⟩
    rw [show (l.length:Int) - 1=((l.length - 1:Nat):Int) by omega]
    exact hf
   rw [List.eq_nil_of_length_eq_zero h] at hm
   cases hm
 have e:freeL (jnL a b)=freeTo (jnL a b) 8:=by unfold freeL;rw [hTJ];rfl
 rw [e]
 unfold freeTo
 rw [List.length_map,List.length_eq_zero_iff,List.filter_eq_nil_iff]
 intro v hv
 have hv8:=List.mem_range.1 hv
 unfold freeTop
 have el:((jnL a b).length:Int) - 1=((a.length+b.length:Nat):Int):=by rw [jn_len];omega
 rw [el,free_at hJ (by rw [jn_len];omega) hv8,jn_r]
 unfold freeAt
 rw [both_parts]
 unfold inParts
 have ea:(a.length:Int) - 1=((a.length - 1:Nat):Int):=by omega
 have eb:(a.length:Int)+(b.length:Int) - 1=((a.length+(b.length - 1):Nat):Int):=by omega
 simp only [List.any_cons,List.any_nil,Bool.or_false]
 rw [ea,eb,jn_free_a hA hJ (a.length - 1) (by omega) v hv8,jn_free_b hB hJ (b.length - 1) (by omega) v hv8,none_of hTA ha h1 v hv8,none_of hTB hb h2 v hv8]
 show ¬ ((if ((3:Int)==19||(3:Int)==20)&&_ then false else ((3:Int)==1&&_)||(false||false))=true)
 simp
end
end Jn1
namespace Vl2
open Nd0 Pl1 Pl2 Tm0 Tm1 Tm3 Tm5 Tm8 Tm11 Tm13 Tm14 Tr0 Vl1
theorem in_iff {x a b:Int}:inR x a b=true↔a<=x/\x<=b:=by unfold inR;simp
theorem app_in {op W k w a b c:Int} (h1:1<=W/\W<=8) (h2:1<=w/\w<=8) (ha:0<=a/\a<=255) (hb:0<=b/\b<=255) (hc:0<=c/\c<=255):applyL op W k w a b c=opL op W k w a b c:=by
 unfold applyL
 rw [in_iff.2 h1,in_iff.2 h2,in_iff.2 ha,in_iff.2 hb,in_iff.2 hc]
 rfl
theorem wok_div {m a b:Int} (ha:wok m a=true) (hb:wok m b=true):wok m (vDiv m a b)=true:=by
 unfold vDiv
 rw [ha,hb]
 obtain ⟨h1,h2,h3,h4⟩:=wok_iff.1 ha
 have h5:=wok_iff.1 hb
 simp only [Bool.and_self,if_true]
 have hp:=p2_pos m.toNat
 split
 ·exact wok_iff.2 ⟨h1,h2,by omega,by omega⟩
 ·have:=Int.ediv_nonneg h3 h5.2.2.1
  have:=Int.ediv_le_self b h3
  exact wok_iff.2 ⟨h1,h2,by omega,by omega⟩
theorem wok_rem {m a b:Int} (ha:wok m a=true) (hb:wok m b=true):wok m (vRem m a b)=true:=by
 unfold vRem
 rw [ha,hb]
 obtain ⟨h1,h2,h3,h4⟩:=wok_iff.1 ha
 have h5:=wok_iff.1 hb
 simp only [Bool.and_self,if_true]
 split
 ·exact ha
 ·rename_i hz
  have:=Int.emod_nonneg a hz
  have:=Int.emod_lt_of_pos a (show 0 < b by omega)
  exact wok_iff.2 ⟨h1,h2,by omega,by omega⟩
theorem wok_shl {m a b:Int} (ha:wok m a=true) (hb:wok m b=true):wok m (vShl m a b)=true:=by
 unfold vShl
 rw [ha,hb]
 obtain ⟨h1,h2,h3,h4⟩:=wok_iff.1 ha
 simp only [Bool.and_self,if_true]
 split
 ·exact wok_zero h1 h2
 ·exact wok_mod _ h1 h2
theorem wok_shr {m a b:Int} (ha:wok m a=true) (hb:wok m b=true):wok m (vShr m a b)=true:=by
 unfold vShr
 rw [ha,hb]
 obtain ⟨h1,h2,h3,h4⟩:=wok_iff.1 ha
 simp only [Bool.and_self,if_true]
 split
 ·exact wok_zero h1 h2
 ·have hp:=p2_pos b.toNat
  have:=Int.ediv_nonneg h3 (show 0<=p2 b.toNat by omega)
  have:=Int.ediv_le_self (p2 b.toNat) h3
  exact wok_iff.2 ⟨h1,h2,by omega,by omega⟩
theorem wok_slice {w a k n:Int} (h1:1<=n) (h2:n<=8):wok n (vSlice w a k n)=true:=by
 unfold vSlice
 split
 ·exact wok_mod _ h1 h2
 ·exact wok_zero h1 h2
theorem wok_bit (p:Prop) [Decidable p]:wok 1 (if p then 1 else 0)=true:=by
 split<;>rfl
theorem p2_nat (w:Int):p2 w.toNat=((2 ^ w.toNat:Nat):Int):=by unfold p2;simp
theorem wok_nat {w a:Int} (h:wok w a=true):a.toNat < 2 ^ w.toNat:=by
 obtain ⟨h1,h2,h3,h4⟩:=wok_iff.1 h
 rw [p2_nat] at h4
 omega
theorem wok_of_nat {w:Int} {n:Nat} (h1:1<=w) (h2:w<=8) (h:n < 2 ^ w.toNat):wok w (n:Int)=true:=wok_iff.2 ⟨h1,h2,by omega,by rw [p2_nat];omega⟩
theorem wok_and {w a b:Int} (ha:wok w a=true) (hb:wok w b=true):wok w (nAnd a b)=true:=by
 obtain ⟨h1,h2,_,_⟩:=wok_iff.1 ha
 exact wok_of_nat h1 h2 (Nat.and_lt_two_pow _ (wok_nat hb))
theorem wok_or {w a b:Int} (ha:wok w a=true) (hb:wok w b=true):wok w (nOr a b)=true:=by
 obtain ⟨h1,h2,_,_⟩:=wok_iff.1 ha
 exact wok_of_nat h1 h2 (Nat.or_lt_two_pow (wok_nat ha) (wok_nat hb))
theorem wok_xor {w a b:Int} (ha:wok w a=true) (hb:wok w b=true):wok w (nXor a b)=true:=by
 obtain ⟨h1,h2,_,_⟩:=wok_iff.1 ha
 exact wok_of_nat h1 h2 (Nat.xor_lt_two_pow (wok_nat ha) (wok_nat hb))
theorem wok_join {W x y a b:Int} (h8:W<=8) (hw:x+y=W) (ha:wok x a=true) (hb:wok y b=true):wok W (a*p2 (W - x).toNat+b)=true:=by
 obtain ⟨a1,a2,a3,a4⟩:=wok_iff.1 ha
 obtain ⟨b1,b2,b3,b4⟩:=wok_iff.1 hb
 have e:W - x=y:=by omega
 rw [e]
 have hp:p2 W.toNat=p2 x.toNat*p2 y.toNat:=by
  unfold p2
  rw [<- Int.pow_add]
  congr 1;omega
 have hy:=p2_pos y.toNat
 refine wok_iff.2 ⟨by omega,h8,?_,?_⟩
 ·have:=Int.mul_nonneg a3 (show 0<=p2 y.toNat by omega)
  omega
 ·rw [hp]
  have h1:(a+1)*p2 y.toNat<=p2 x.toNat*p2 y.toNat:=Int.mul_le_mul_of_nonneg_right (by omega) (by omega)
  rw [Int.add_mul] at h1
  omega
def Fits (r:List Nat) (e:List Int):Prop:=∀ v,v < 8->∀ j,1<=j->j<=8->(r.getD v 0).testBit j=true->wok (j:Int) (e.getD v 0)=true
theorem fit_iff {r:List Nat} {e:List Int}:fitR r e=true↔Fits r e:=by
 unfold fitR Fits
 simp only [List.all_eq_true,List.mem_range,Bool.or_eq_true,Bool.not_eq_true']
 constructor
 ·intro h v hv j h1 h8 hb
  rcases h v hv (j - 1) (by omega) with e1|e1
  ·rw [show j - 1+1=j by omega,hb] at e1;cases e1
  ·have e2:((j - 1:Nat):Int)+1=(j:Int):=by omega
   rw [e2] at e1
   exact e1
 ·intro h v hv j hj
  cases hb:(r.getD v 0).testBit (j+1)
  ·exact .inl rfl
  ·have:=h v hv (j+1) (by omega) (by omega) hb
   refine .inr ?_
   have e2:((j+1:Nat):Int)=(j:Int)+1:=by omega
   rw [e2] at this
   exact this
theorem or_at (r s:List Nat) {v:Nat} (hv:v < 8):(orL r s).getD v 0=(r.getD v 0 ||| s.getD v 0):=by
 unfold orL
 rw [List.getD_eq_getElem?_getD,List.getElem?_map,List.getElem?_range hv]
 rfl
theorem Fits.left {r s:List Nat} {e:List Int} (h:Fits (orL r s) e):Fits r e:=fun v hv j h1 h8 hb=>h v hv j h1 h8 (by rw [or_at r s hv,Nat.testBit_or,hb];rfl)
theorem Fits.right {r s:List Nat} {e:List Int} (h:Fits (orL r s) e):Fits s e:=fun v hv j h1 h8 hb=>h v hv j h1 h8 (by rw [or_at r s hv,Nat.testBit_or,hb,Bool.or_true])
theorem need_len:∀ (x:Tr) (r:List Nat),needT x=some r->r.length=8:=by
 intro x
 induction x with
 | leaf op w k=>intro r h;simp only [needT] at h;cases h;simp
 | one op w k b x ih =>
   intro r h
   simp only [needT] at h
   obtain ⟨s,h1,h⟩:=Option.bind_eq_some_iff.1 h
   split at h
   ·split at h
    ·cases h
    ·cases h;rw [List.length_set];exact ih s h1
   ·cases h;exact ih _ h1
 | two op w x y ih1 ih2 =>
   intro r h
   simp only [needT] at h
   obtain ⟨s,h1,h⟩:=Option.bind_eq_some_iff.1 h
   obtain ⟨u,h2,h⟩:=Option.bind_eq_some_iff.1 h
   cases h
   simp [orL]
 | three op w x y z ih1 ih2 ih3 =>
   intro r h
   simp only [needT] at h
   obtain ⟨s,h1,h⟩:=Option.bind_eq_some_iff.1 h
   obtain ⟨u,h2,h⟩:=Option.bind_eq_some_iff.1 h
   obtain ⟨u',h3,h⟩:=Option.bind_eq_some_iff.1 h
   cases h
   simp [orL]
theorem Fits.below {s:List Nat} {e:List Int} {k b:Int} {i:Nat} (hs:s.length=8) (he:e.length=8) (hk:0<=k/\k<=7) (hb:1<=b/\b<=8) (hi:i < 2 ^ b.toNat) (hq:¬ (s.getD k.toNat 0≠0/\s.getD k.toNat 0≠2 ^ b.toNat)) (h:Fits (s.set k.toNat 0) e):Fits s (e.set k.toNat (i:Int)):=by
 intro v hv j h1 h8 hbt
 by_cases hvk:v=k.toNat
 ·subst hvk
  have hget:(e.set k.toNat (i:Int)).getD k.toNat 0=(i:Int):=by
   rw [List.getD_eq_getElem?_getD,List.getElem?_set_self (by omega)];rfl
  rw [hget]
  have hs2:s.getD k.toNat 0=2 ^ b.toNat:=by
   apply Classical.byContradiction
   intro hn
   refine hq ⟨fun e0=>?_,hn⟩
   rw [e0] at hbt
   simp at hbt
  rw [hs2,Nat.testBit_two_pow] at hbt
  have hj:b.toNat=j:=of_decide_eq_true hbt
  exact wok_of_nat (by omega) (by omega) (by rw [show ((j:Nat):Int).toNat=b.toNat by omega];exact hi)
 ·have hget:(e.set k.toNat (i:Int)).getD v 0=e.getD v 0:=by
   rw [List.getD_eq_getElem?_getD,List.getD_eq_getElem?_getD,List.getElem?_set_ne (fun e=>hvk e.symm)]
  rw [hget]
  refine h v hv j h1 h8 ?_
  rw [List.getD_eq_getElem?_getD,List.getElem?_set_ne (fun e=>hvk e.symm),<- List.getD_eq_getElem?_getD]
  exact hbt
theorem value_word:∀ (x:Tr) (r:List Nat) (e:List Int),Rt x->needT x=some r->e.length=8->Fits r e->wok x.wid (vT x e)=true:=by
 intro x
 induction x with
 | leaf op w k =>
   intro r e hr hn he hf
   obtain ⟨h1,h8,h⟩:=hr
   simp only [needT] at hn
   cases hn
   simp only [vT]
   show wok w _=true
   rcases h with ⟨rfl,hk⟩|⟨rfl,hk0,hk7⟩
   ·rw [if_neg (by decide),app_in ⟨h1,h8⟩ (by decide) (by decide) (by decide) (by decide)]
    exact hk
   ·rw [if_pos rfl]
    have:=hf k.toNat (by omega) w.toNat (by omega) (by omega) (by
     rw [List.getD_eq_getElem?_getD,List.getElem?_map,List.getElem?_range (by omega)]
     simp only [Option.map_some,Option.getD_some]
     rw [if_pos ⟨trivial,by omega⟩,Nat.testBit_two_pow]
     simp)
    rw [show ((w.toNat:Nat):Int)=w by omega] at this
    exact this
 | one op w k b x ih =>
   intro r e hr hn he hf
   obtain ⟨h1,h8,hx,h⟩:=hr
   have hxw:=hx.wid
   simp only [needT] at hn
   obtain ⟨s,h2,hn⟩:=Option.bind_eq_some_iff.1 hn
   simp only [vT]
   show wok w _=true
   rcases h with ⟨rfl,hw⟩|⟨rfl,hk⟩|⟨ho,hx1,rfl,hk0,hk7,hb1,hb8⟩
   ·rw [if_neg (by decide),if_neg (by decide)]
    rw [show quant 2=false from rfl] at hn
    simp only [Bool.false_eq_true,if_false] at hn
    have hsr:s=r:=Option.some.inj hn
    subst hsr
    have hv:=ih s e hx h2 he hf
    rw [app_in ⟨h1,h8⟩ hxw (wok_lt hv) (by decide) (by decide)]
    rw [hw] at hv
    exact wok_flip hv
   ·rw [if_neg (by decide),if_neg (by decide)]
    rw [show quant 17=false from rfl] at hn
    simp only [Bool.false_eq_true,if_false] at hn
    have hsr:s=r:=Option.some.inj hn
    subst hsr
    have hv:=ih s e hx h2 he hf
    rw [app_in ⟨h1,h8⟩ hxw (wok_lt hv) (by decide) (by decide)]
    exact wok_slice h1 h8
   ·rcases ho with rfl|rfl
    ·rw [if_pos rfl];exact wok_bit _
    ·rw [if_neg (by decide),if_pos rfl];exact wok_bit _
 | two op w x y ih1 ih2 =>
   intro r e hr hn he hf
   obtain ⟨h1,h8,hx,hy,h⟩:=hr
   have hxw:=hx.wid
   simp only [needT] at hn
   obtain ⟨s,h2,hn⟩:=Option.bind_eq_some_iff.1 hn
   obtain ⟨u,h3,hn⟩:=Option.bind_eq_some_iff.1 hn
   cases hn
   have hv:=ih1 s e hx h2 he hf.left
   have hu:=ih2 u e hy h3 he hf.right
   simp only [vT]
   show wok w _=true
   rw [app_in ⟨h1,h8⟩ hxw (wok_lt hv) (wok_lt hu) (by decide)]
   rcases h with ⟨ho1,ho2,hwx,hwy⟩|⟨ho1,ho2,hxy,rfl⟩|⟨rfl,hw⟩
   ·rw [hwx] at hv ⊢
    rw [hwy] at hu
    have hc:op=3\/op=4\/op=5\/op=6\/op=7\/op=8\/op=9\/op=10\/op=11\/op=12:=by omega
    rcases hc with rfl|rfl|rfl|rfl|rfl|rfl|rfl|rfl|rfl|rfl
    ·exact wok_and hv hu
    ·exact wok_or hv hu
    ·exact wok_xor hv hu
    ·exact wok_add hv hu
    ·exact wok_sub hv hu
    ·exact wok_mul hv hu
    ·exact wok_div hv hu
    ·exact wok_rem hv hu
    ·exact wok_shl hv hu
    ·exact wok_shr hv hu
   ·have hc:op=13\/op=14\/op=15:=by omega
    rcases hc with rfl|rfl|rfl
    ·exact wok_bit _
    ·exact wok_bit _
    ·exact wok_bit _
   ·have hyw:=hy.wid
    show wok w (if w < x.wid then vT y e else vT x e*p2 (w - x.wid).toNat+vT y e)=true
    rw [if_neg (by omega)]
    exact wok_join h8 hw hv hu
 | three op w x y z ih1 ih2 ih3 =>
   intro r e hr hn he hf
   obtain ⟨h1,h8,hx,hy,hz,rfl,hx1,hyw,hzw⟩:=hr
   simp only [needT] at hn
   obtain ⟨s,h2,hn⟩:=Option.bind_eq_some_iff.1 hn
   obtain ⟨u,h3,hn⟩:=Option.bind_eq_some_iff.1 hn
   obtain ⟨u',h4,hn⟩:=Option.bind_eq_some_iff.1 hn
   cases hn
   have hv:=ih1 s e hx h2 he hf.left.left
   have hu:=ih2 u e hy h3 he hf.left.right
   have ht:=ih3 u' e hz h4 he hf.right
   simp only [vT]
   show wok w _=true
   rw [app_in ⟨h1,h8⟩ hx.wid (wok_lt hv) (wok_lt hu) (wok_lt ht)]
   show wok w (if vT x e=1 then vT y e else vT z e)=true
   rw [hyw] at hu
   rw [hzw] at ht
   split
   ·exact hu
   ·exact ht
theorem value_wok {l:List Nd} {e:List Int} {x:Int} (h:valueL l e=some x):wok (nth l (l.length - 1)).w x=true:=by
 unfold valueL at h
 split at h
 ·rename_i hc
  simp only [Bool.and_eq_true,decide_eq_true_eq] at hc
  obtain ⟨⟨⟨hT,he⟩,hb⟩,hf⟩:=hc
  cases h
  have hl:=term_len hT
  have hr:=rt_all (down_of hT) (fun k hk=>term_node hT hk) (l.length - 1) (by omega)
  unfold fitT at hf
  cases hn:needT (root l) with
  | none=>rw [hn] at hf;cases hf
  | some r =>
    rw [hn] at hf
    have:=value_word (root l) r e hr.1 hn he (fit_iff.1 hf)
    unfold root at this ⊢
    rw [hr.2] at this
    exact this
 ·cases h
end Vl2
namespace Tx4
open Nd0 Pl1 Tm0 Tm1 Tm3 Tm8 Tx0 Tx1 Tx2 Tx3 Tr0
end Tx4
end Go.Proofs.YtbellafdjfliiaaGreat
