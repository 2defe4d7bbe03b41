import Derived.Test.YtfhdbcfhhbdiiaaTa3
namespace Go.Proofs.Ytfhdbcfhhbdiiaa
set_option maxRecDepth 100000
set_option maxHeartbeats 8000000
set_option linter.unusedVariables false
namespace De0
open Go.RowKit
open Ta1 Ta3
/-- The verdict. -/
def dc:List Bool->(Nat->Bool)->Bool
 | [],F=>F 0
 | q :: r,F=>if q=true then dc r (hb r.length 0 F)&&dc r (hb r.length 1 F) else dc r (hb r.length 0 F)||dc r (hb r.length 1 F)
theorem half_lt {n b p:Nat} (hb:b<=1) (hp:p < 2 ^ n):b*2 ^ n+p < 2 ^ (n+1):=by
 rw [p1]
 have:b*2 ^ n<=1*2 ^ n:=Nat.mul_le_mul_right _ hb
 omega
theorem dc_ext (r:List Bool):∀ {F G:Nat->Bool},(∀ p,p < 2 ^ r.length->F p=G p)->dc r F=dc r G:=by
 induction r with
 | nil=>exact fun h=>h 0 (by simp)
 | cons q r ih =>
   intro F G h
   have e:∀ b,b<=1->dc r (hb r.length b F)=dc r (hb r.length b G):=fun b hb1=>ih fun p hp=>h _ (half_lt hb1 hp)
   rw [dc,dc,e 0 (by omega),e 1 (by omega)]
/-- With every flag and every place turned the verdict is the other one. -/
theorem dc_not (r:List Bool):∀ F:Nat->Bool,dc (r.map not) (fun p => !F p) = !dc r F:=by
 induction r with
 | nil=>exact fun F=>rfl
 | cons q r ih =>
   intro F
   have e:∀ b,dc (r.map not) (hb (r.map not).length b (fun p => !F p)) = !dc r (hb r.length b F):=fun b=>by
    rw [List.length_map]
    exact ih (hb r.length b F)
   rw [List.map_cons,dc,dc,e 0,e 1]
   cases q<;>cases dc r (hb r.length 0 F)<;>cases dc r (hb r.length 1 F)<;>rfl
/-- More places never lower it. -/
theorem dc_mono (r:List Bool):∀ {F G:Nat->Bool},(∀ p,p < 2 ^ r.length->F p=true->G p=true)->dc r F=true->dc r G=true:=by
 induction r with
 | nil=>exact fun h=>h 0 (by simp)
 | cons q r ih =>
   intro F G h
   have e:∀ b,b<=1->dc r (hb r.length b F)=true->dc r (hb r.length b G)=true:=fun b hb1=>ih fun p hp=>h _ (half_lt hb1 hp)
   have e0:=e 0 (by omega)
   have e1:=e 1 (by omega)
   rw [dc,dc]
   revert e0 e1
   cases q<;>cases dc r (hb r.length 0 F)<;>cases dc r (hb r.length 1 F)<;>cases dc r (hb r.length 0 G)<;>cases dc r (hb r.length 1 G)<;>simp
/-- Place p with a bit put in, s bits behind it. -/
def put1 (s c p:Nat):Nat:=p / 2 ^ s*2 ^ (s+1)+c*2 ^ s+p % 2 ^ s
/-- A bit taken out. -/
def mg (s:Nat) (q:Bool) (F:Nat->Bool) (p:Nat):Bool:=if q=true then F (put1 s 0 p)&&F (put1 s 1 p) else F (put1 s 0 p)||F (put1 s 1 p)
theorem put_half (s k b c p:Nat):put1 s c (b*2 ^ (k+s)+p)=b*2 ^ (k+s+1)+put1 s c p:=by
 unfold put1
 have hs:=Nat.two_pow_pos s
 have e:b*2 ^ (k+s)+p=p+2 ^ s*(b*2 ^ k):=by rw [Nat.pow_add,Nat.add_comm];congr 1;rw [<- Nat.mul_assoc,Nat.mul_comm]
 rw [e,Nat.add_mul_div_left _ _ hs,Nat.add_mul_mod_self_left,Nat.add_mul]
 have e2:b*2 ^ k*2 ^ (s+1)=b*2 ^ (k+s+1):=by rw [Nat.mul_assoc,<- Nat.pow_add];rfl
 rw [e2]
 omega
theorem mg_half (s k b:Nat) (q:Bool) (F:Nat->Bool) (p:Nat):hb (k+s) b (mg s q F) p=mg s q (hb (k+s+1) b F) p:=by
 show mg s q F (b*2 ^ (k+s)+p)=_
 unfold mg hb
 rw [put_half,put_half]
theorem put_0 {s p:Nat} (c:Nat) (h:p < 2 ^ s):put1 s c p=c*2 ^ s+p:=by
 unfold put1
 rw [Nat.div_eq_of_lt h,Nat.mod_eq_of_lt h,Nat.zero_mul,Nat.zero_add]
theorem put_lt {s k c p:Nat} (hc:c<=1) (h:p < 2 ^ (k+s)):put1 s c p < 2 ^ (k+s+1):=by
 have hs:=Nat.two_pow_pos s
 have h1:p / 2 ^ s < 2 ^ k:=by
  rw [Nat.div_lt_iff_lt_mul hs,<- Nat.pow_add]
  exact h
 have h2:=Nat.mod_lt p hs
 have h3:c*2 ^ s<=1*2 ^ s:=Nat.mul_le_mul_right _ hc
 have h4:p / 2 ^ s*2 ^ (s+1)<=(2 ^ k - 1)*2 ^ (s+1):=Nat.mul_le_mul_right _ (by omega)
 have e:2 ^ (k+s+1)=2 ^ k*2 ^ (s+1):=by rw [Nat.add_assoc,Nat.pow_add]
 have e2:=p1 s
 have e3:(2 ^ k - 1)*2 ^ (s+1)=2 ^ k*2 ^ (s+1) - 2 ^ (s+1):=by rw [Nat.sub_mul,Nat.one_mul]
 have e4:2 ^ (s+1)<=2 ^ k*2 ^ (s+1):=Nat.le_mul_of_pos_left _ (Nat.two_pow_pos k)
 unfold put1
 omega
/-- The last bit may be taken out. -/
theorem dc_last (r:List Bool) (q:Bool):∀ F:Nat->Bool,dc (r++[q]) F=dc r (mg 0 q F):=by
 induction r with
 | nil =>
   intro F
   show dc [q] F=mg 0 q F 0
   unfold mg
   rw [put_0 0 (by simp),put_0 1 (by simp)]
   rfl
 | cons x r ih =>
   intro F
   have e:∀ b,dc (r++[q]) (hb (r++[q]).length b F)=dc r (hb r.length b (mg 0 q F)):=fun b=>by
    rw [ih,List.length_append]
    refine dc_ext r fun p hp=>?_
    exact (mg_half 0 r.length b q F p).symm
   rw [List.cons_append,dc,dc,e 0,e 1]
/-- .. and one that the table doesn't depend on. -/
theorem dc_idle (r r2:List Bool) (q:Bool):∀ F:Nat->Bool,(∀ p,p < 2 ^ (r.length+r2.length)->F (put1 r2.length 0 p)=F (put1 r2.length 1 p))->dc (r++q :: r2) F=dc (r++r2) (mg r2.length q F):=by
 induction r with
 | nil =>
   intro F h
   have h0:∀ p,p < 2 ^ r2.length->hb r2.length 0 F p=hb r2.length 1 F p:=fun p hp=>by
    have:=h p (by simpa using hp)
    rw [put_0 0 hp,put_0 1 hp] at this
    exact this
   have e1:dc r2 (hb r2.length 1 F)=dc r2 (hb r2.length 0 F):=dc_ext r2 fun p hp=>(h0 p hp).symm
   have e2:dc r2 (mg r2.length q F)=dc r2 (hb r2.length 0 F):=dc_ext r2 fun p hp=>by
    have:=h0 p hp
    unfold hb at this
    unfold mg hb
    rw [put_0 0 hp,put_0 1 hp,<- this]
    cases q<;>cases F (0*2 ^ r2.length+p)<;>rfl
   rw [List.nil_append,List.nil_append,dc,e1,e2]
   cases q<;>cases dc r2 (hb r2.length 0 F)<;>rfl
 | cons x r ih =>
   intro F h
   have e:∀ b,b<=1->dc (r++q :: r2) (hb (r++q :: r2).length b F)=dc (r++r2) (hb (r++r2).length b (mg r2.length q F)):=fun b hb1=>by
    have el:(r++q :: r2).length=r.length+r2.length+1:=by rw [List.length_append,List.length_cons];omega
    have el2:(r++r2).length=r.length+r2.length:=List.length_append
    rw [el,el2,ih]
    ·refine dc_ext _ fun p hp=>?_
     exact (mg_half r2.length r.length b q F p).symm
    ·intro p hp
     have:=h (b*2 ^ (r.length+r2.length)+p) (by
      have:=half_lt hb1 hp
      rw [List.length_cons,show r.length+1+r2.length=r.length+r2.length+1 by omega]
      exact this)
     rw [put_half,put_half] at this
     exact this
   rw [List.cons_append,List.cons_append,dc,dc,e 0 (by omega),e 1 (by omega)]
/-- The choice that is told keeps the verdict. -/
theorem dc_choose (q:Bool) (r:List Bool) (F:Nat->Bool) (h:dc r (hb r.length 0 F)≠dc (q :: r) F):dc r (hb r.length 1 F)=dc (q :: r) F:=by
 rw [dc] at h ⊢
 revert h
 cases q<;>cases dc r (hb r.length 0 F)<;>cases dc r (hb r.length 1 F)<;>simp
end De0
namespace De1
open Go.RowKit
open Ta1 Ta2 Ta3 De0
/-- The bits that a table doesn't need, of the first k. -/
def idTo (n:Nat) (F:Nat->Bool) (k:Nat):List Int:=((List.range k).filter fun b => !ndB n F b).map fun (b:Nat)=>(b:Int)
theorem idTo_yes {n k:Nat} {F:Nat->Bool} (h:ndB n F k=false):idTo n F (k+1)=idTo n F k++[(k:Int)]:=by
 unfold idTo;rw [List.range_succ,List.filter_append];simp [h]
theorem idTo_no {n k:Nat} {F:Nat->Bool} (h:ndB n F k=true):idTo n F (k+1)=idTo n F k:=by
 unfold idTo;rw [List.range_succ,List.filter_append];simp [h]
theorem id_nd (n k:Nat) (F:Nat->Bool):(idTo n F k).length+(ndTo n F k).length=k:=by
 induction k with
 | zero=>rfl
 | succ k ih =>
   cases h:ndB n F k
   ·rw [idTo_yes h,ndTo_no h,List.length_append,List.length_singleton];omega
   ·rw [idTo_no h,ndTo_yes h,List.length_append,List.length_singleton];omega
theorem put_low (s p:Nat):put1 s 0 p / 2 ^ s % 2=0:=by
 have hs:=Nat.two_pow_pos s
 unfold put1
 have e:p / 2 ^ s*2 ^ (s+1)+0*2 ^ s+p % 2 ^ s=p % 2 ^ s+2 ^ s*(p / 2 ^ s*2):=by rw [Nat.pow_succ,Nat.zero_mul,Nat.add_zero,Nat.add_comm];congr 1;rw [<- Nat.mul_assoc,<- Nat.mul_assoc,Nat.mul_comm (p / 2 ^ s)]
 rw [e,Nat.add_mul_div_left _ _ hs,Nat.div_eq_of_lt (Nat.mod_lt p hs)]
 omega
theorem put_high (s p:Nat):put1 s 1 p=put1 s 0 p+2 ^ s:=by
 unfold put1
 omega
/-- A bit that isn't needed changes nothing. -/
theorem idle_put {n k p:Nat} {F:Nat->Bool} (hk:k < n) (h:ndB n F k=false) (hp:p < 2 ^ (n - 1)):F (put1 (n - 1 - k) 0 p)=F (put1 (n - 1 - k) 1 p):=by
 apply Classical.byContradiction
 intro e
 rw [put_high] at e
 have hl:put1 (n - 1 - k) 0 p < 2 ^ n:=by
  have:=put_lt (s:=n - 1 - k) (k:=k) (c:=0) (p:=p) (by omega) (by rw [show k+(n - 1 - k)=n - 1 by omega];exact hp)
  rwa [show k+(n - 1 - k)+1=n by omega] at this
 have:=nd_yes hl (put_low _ _) e
 rw [h] at this
 cases this
/-- How many places below i have the bit at 0. -/
def rank (s i:Nat):Nat:=i / 2 ^ (s+1)*2 ^ s+min (i % 2 ^ (s+1)) (2 ^ s)
/-- A place as its parts. -/
theorem parts (s i:Nat):∃ a b c,i=a*2 ^ (s+1)+b*2 ^ s+c/\b<=1/\c < 2 ^ s/\i / 2 ^ s % 2=b/\i / 2 ^ (s+1)=a/\i % 2 ^ (s+1)=b*2 ^ s+c:=by
 have hs:=Nat.two_pow_pos s
 have h1:=Nat.div_add_mod i (2 ^ s)
 have h2:=Nat.div_add_mod (i / 2 ^ s) 2
 have e1:i / 2 ^ (s+1)=i / 2 ^ s / 2:=by rw [Nat.pow_succ,Nat.div_div_eq_div_mul]
 have e2:i=i / 2 ^ s / 2*2 ^ (s+1)+i / 2 ^ s % 2*2 ^ s+i % 2 ^ s:=by
  have:i / 2 ^ s / 2*2 ^ (s+1)+i / 2 ^ s % 2*2 ^ s=2 ^ s*(i / 2 ^ s):=by
   rw [Nat.pow_succ,Nat.mul_comm (2 ^ s) 2,<- Nat.mul_assoc,<- Nat.add_mul,Nat.mul_comm (i / 2 ^ s / 2) 2,h2,Nat.mul_comm]
  omega
 refine ⟨i / 2 ^ s / 2,i / 2 ^ s % 2,i % 2 ^ s,e2,by omega,Nat.mod_lt _ hs,rfl,e1,?_⟩
 have h3:=Nat.div_add_mod i (2 ^ (s+1))
 rw [e1,Nat.mul_comm] at h3
 omega
theorem rank_of {s a b c:Nat} (hb:b<=1) (hc:c < 2 ^ s):rank s (a*2 ^ (s+1)+b*2 ^ s+c)=a*2 ^ s+min (b*2 ^ s+c) (2 ^ s):=by
 have hp:=Nat.two_pow_pos (s+1)
 have e2:=p1 s
 have hl:b*2 ^ s+c < 2 ^ (s+1):=half_lt hb hc
 unfold rank
 have e:a*2 ^ (s+1)+b*2 ^ s+c=(b*2 ^ s+c)+2 ^ (s+1)*a:=by rw [Nat.mul_comm a];omega
 rw [e,Nat.add_mul_div_left _ _ hp,Nat.add_mul_mod_self_left,Nat.div_eq_of_lt hl,Nat.mod_eq_of_lt hl,Nat.zero_add]
theorem rank_put {s i:Nat} (h:i / 2 ^ s % 2=0):put1 s 0 (rank s i)=i:=by
 have hs:=Nat.two_pow_pos s
 obtain ⟨a,b,c,e,hb,hc,h1,h2,h3⟩:=parts s i
 have hb0:b=0:=by omega
 subst hb0
 have hr:rank s i=a*2 ^ s+c:=by
  rw [e,rank_of hb hc,Nat.zero_mul,Nat.zero_add,Nat.min_eq_left (by omega)]
 unfold put1
 have e3:a*2 ^ s+c=c+2 ^ s*a:=by rw [Nat.mul_comm];omega
 rw [hr,e3,Nat.add_mul_div_left _ _ hs,Nat.add_mul_mod_self_left,Nat.div_eq_of_lt hc,Nat.mod_eq_of_lt hc,Nat.zero_add]
 omega
theorem rank_next (s i:Nat):rank s (i+1)=rank s i+if i / 2 ^ s % 2=0 then 1 else 0:=by
 have hs:=Nat.two_pow_pos s
 have e2:=p1 s
 obtain ⟨a,b,c,e,hb,hc,h1,h2,h3⟩:=parts s i
 rw [h1]
 have hr:rank s i=a*2 ^ s+min (b*2 ^ s+c) (2 ^ s):=by conv=>lhs;rw [e]
                                                      exact rank_of hb hc
 by_cases hc1:c+1 < 2 ^ s
 ·have e4:i+1=a*2 ^ (s+1)+b*2 ^ s+(c+1):=by omega
  rw [hr,e4,rank_of hb hc1]
  rcases (by omega:b=0\/b=1) with rfl|rfl
  ·rw [if_pos rfl,Nat.zero_mul,Nat.zero_add,Nat.zero_add,Nat.min_eq_left (by omega),Nat.min_eq_left (by omega)];omega
  ·rw [if_neg (by omega),Nat.one_mul,Nat.min_eq_right (by omega),Nat.min_eq_right (by omega)];rfl
 ·rcases (by omega:b=0\/b=1) with rfl|rfl
  ·have e4:i+1=a*2 ^ (s+1)+1*2 ^ s+0:=by omega
   rw [hr,e4,rank_of (by omega) hs,if_pos rfl,Nat.one_mul,Nat.zero_mul,Nat.zero_add,Nat.min_eq_right (by omega),Nat.min_eq_left (by omega)];omega
  ·have e4:i+1=(a+1)*2 ^ (s+1)+0*2 ^ s+0:=by rw [Nat.add_mul];omega
   rw [hr,e4,rank_of (by omega) hs,if_neg (by omega),Nat.one_mul,Nat.zero_mul,Nat.zero_add,Nat.min_eq_left (by omega),Nat.min_eq_right (by omega),Nat.add_mul];omega
theorem rank_0 (s:Nat):rank s 0=0:=by
 unfold rank
 rw [Nat.zero_div,Nat.zero_mod,Nat.zero_mul,Nat.zero_add]
 exact Nat.zero_min _
/-- All places of n + 1 bits: as many as n bits have. -/
theorem rank_all (n s:Nat) (hs:s<=n):rank s (2 ^ (n+1))=2 ^ n:=by
 unfold rank
 have e:2 ^ (n+1)=2 ^ (s+1)*2 ^ (n - s):=by rw [<- Nat.pow_add];congr 1;omega
 rw [e,Nat.mul_div_cancel_left _ (Nat.two_pow_pos _),Nat.mul_mod_right,Nat.zero_min,Nat.add_zero,<- Nat.pow_add]
 congr 1
 omega
end De1
end Go.Proofs.Ytfhdbcfhhbdiiaa
