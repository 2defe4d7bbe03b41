import Derived.Test.YtladjpombohpaaaGreatDoorPkJE7
import Derived.Test.YtladjpombohpaaaGreatDoorPkJE10
namespace Go.Proofs.YtladjpombohpaaaGreatDoor
set_option maxRecDepth 100000
set_option maxHeartbeats 8000000
set_option linter.unusedVariables false
namespace Ta3
open Go.RowKit
open Ta0 Ta1 Ta2 Td1
open Ss0 (bs bs_size bs_app)
/-- A half's bits. -/
def hb (n b:Nat) (F:Nat->Bool) (p:Nat):Bool:=F (b*2 ^ n+p)
theorem hb0 (n:Nat) (F:Nat->Bool) (p:Nat):hb n 0 F p=F p:=by unfold hb;rw [Nat.zero_mul,Nat.zero_add]
theorem hb1 (n:Nat) (F:Nat->Bool) (p:Nat):hb n 1 F p=F (2 ^ n+p):=by unfold hb;rw [Nat.one_mul]
theorem p1 (n:Nat):2 ^ (n+1)=2 ^ n+2 ^ n:=by rw [Nat.pow_succ];omega
theorem half_count (n:Nat) (F:Nat->Bool):cnt (hb n 0 F) (2 ^ n)+cnt (hb n 1 F) (2 ^ n)=cnt F (2 ^ (n+1)):=by
 rw [p1,cnt_add,cnt_congr (2 ^ n) (fun j _=>hb0 n F j),cnt_congr (2 ^ n) (fun j _=>hb1 n F j)]
theorem half_join (n:Nat) (F:Nat->Bool):bs (tab n (hb n 0 F))++bs (tab n (hb n 1 F))=bs (tab (n+1) F):=by
 rw [bs_app]
 congr 1
 refine list_tab (by rw [List.length_append,tab_length,tab_length,p1]) fun i hi=>?_
 rw [List.length_append,tab_length,tab_length] at hi
 by_cases h:i < 2 ^ n
 ·rw [List.getElem_append_left (by rw [tab_length];exact h),tab_get,hb0]
 ·rw [List.getElem_append_right (by rw [tab_length];omega),tab_get,hb1,tab_length,show 2 ^ n+(i - 2 ^ n)=i by omega]
/-- All values are one. -/
def Con (n:Nat) (F:Nat->Bool):Prop:=∀ j,j < 2 ^ n->F j=F 0
theorem knw_con {n:Nat} {F:Nat->Bool} (h:Con n F):knw n F=((F 0).toNat:Int):=knw_same h
theorem knw_not {n:Nat} {F:Nat->Bool} (h:¬ Con n F):knw n F = -1:=by
 obtain ⟨j,hj⟩:=Classical.not_forall.1 h
 obtain ⟨h1,h2⟩:=Classical.not_imp.1 hj
 exact knw_diff h1 h2
theorem con_halves (n:Nat) (F:Nat->Bool):Con (n+1) F↔Con n (hb n 0 F)/\Con n (hb n 1 F)/\hb n 0 F 0=hb n 1 F 0:=by
 have hp:=Nat.two_pow_pos n
 constructor
 ·intro h
  refine ⟨fun j hj=>?_,fun j hj=>?_,?_⟩
  ·rw [hb0,hb0];exact h j (by rw [p1];omega)
  ·rw [hb1,hb1,h _ (by rw [p1];omega),h (2 ^ n+0) (by rw [p1];omega)]
  ·rw [hb0,hb1,h (2 ^ n+0) (by rw [p1];omega)]
 ·rintro ⟨h1,h2,h3⟩ j hj
  rw [p1] at hj
  by_cases h:j < 2 ^ n
  ·have:=h1 j h
   rwa [hb0,hb0] at this
  ·have:=h2 (j - 2 ^ n) (by omega)
   rw [<- h3,hb0,hb1,show 2 ^ n+(j - 2 ^ n)=j by omega] at this
   exact this
/-- Known just when both halves are, and alike. -/
theorem knw_halves (n:Nat) (F:Nat->Bool):(0<=knw (n+1) F↔0<=knw n (hb n 0 F)/\knw n (hb n 0 F)=knw n (hb n 1 F))/\(0<=knw (n+1) F->knw (n+1) F=knw n (hb n 0 F)):=by
 by_cases h:Con (n+1) F
 ·obtain ⟨h1,h2,h3⟩:=(con_halves n F).1 h
  rw [knw_con h,knw_con h1,knw_con h2,<- h3,hb0]
  exact ⟨⟨fun _=>⟨by omega,rfl⟩,fun _=>by omega⟩,fun _=>rfl⟩
 ·rw [knw_not h]
  refine ⟨⟨fun h0=>by omega,fun ⟨h0,h1⟩=>?_⟩,fun h0=>by omega⟩
  exfalso
  by_cases c0:Con n (hb n 0 F)
  ·by_cases c1:Con n (hb n 1 F)
   ·rw [knw_con c0,knw_con c1] at h1
    refine h ((con_halves n F).2 ⟨c0,c1,?_⟩)
    cases e0:hb n 0 F 0<;>cases e1:hb n 1 F 0<;>first|rfl|(rw [e0,e1] at h1;simp at h1)
   ·rw [knw_con c0,knw_not c1] at h1;omega
  ·rw [knw_not c0] at h0;omega
theorem knw_range (n:Nat) (F:Nat->Bool) : -1<=knw n F/\knw n F<=1:=by
 by_cases h:Con n F
 ·rw [knw_con h];have:=(F 0).toNat_le;omega
 ·rw [knw_not h];omega
/-- The first bit is needed just when the halves differ. -/
theorem nd_first (n:Nat) (F:Nat->Bool):ndB (n+1) F 0=true↔tab n (hb n 0 F)≠tab n (hb n 1 F):=by
 have hp:=Nat.two_pow_pos n
 constructor
 ·intro h e
  have h2:=tab_inj e
  have h3:ndB (n+1) F 0=false:=nd_no (by omega) fun i hi h0=>by
   rw [show n+1 - 1 - 0=n by omega] at h0 ⊢
   by_cases hin:i < 2 ^ n
   ·have:=h2 i hin
    rw [hb0,hb1,Nat.add_comm] at this
    exact this
   ·rw [p1] at hi
    have:i / 2 ^ n=1:=by
     rw [show i=(i - 2 ^ n)+2 ^ n by omega,Nat.add_div_right _ hp,Nat.div_eq_of_lt (by omega)]
    rw [this] at h0;omega
  rw [h] at h3;cases h3
 ·intro h
  cases hN:ndB (n+1) F 0
  ·exfalso
   refine h (tab_ext fun i hi=>?_)
   rw [hb0,hb1]
   by_cases e:F i=F (2 ^ n+i)
   ·exact e
   ·have:=nd_yes (n:=n+1) (b:=0) (i:=i) (F:=F) (by rw [p1];omega) (by rw [show n+1 - 1 - 0=n by omega,Nat.div_eq_of_lt hi]) (by rw [show n+1 - 1 - 0=n by omega,Nat.add_comm];exact e)
    rw [hN] at this;cases this
  ·rfl
/-- It needs none just when it is known. -/
theorem nd_none (n:Nat) (F:Nat->Bool):(∀ b,b < n->ndB n F b=false)↔0<=knw n F:=by
 have hp:=Nat.two_pow_pos n
 constructor
 ·intro h
  have hc:Con n F:=by
   intro j
   induction j using Nat.strongRecOn with
   | ind j ih =>
     intro hj
     by_cases h0:j=0
     ·rw [h0]
     ·have hs1:2 ^ j.log2<=j:=Nat.log2_self_le h0
      have hs2:j < 2 ^ (j.log2+1):=Nat.lt_log2_self
      have hsn:j.log2 < n:=by
       rcases Nat.lt_or_ge j.log2 n with h1|h1
       ·exact h1
       ·have:=Nat.pow_le_pow_right (n:=2) (by omega) h1;omega
      have hd:j / 2 ^ j.log2 % 2=1:=by
       have:j / 2 ^ j.log2=1:=by
        have h9:=Nat.add_div_right (j - 2 ^ j.log2) (Nat.two_pow_pos j.log2)
        rw [show j - 2 ^ j.log2+2 ^ j.log2=j by omega,Nat.div_eq_of_lt (a:=j - 2 ^ j.log2) (by rw [p1] at hs2;omega)] at h9
        exact h9
       rw [this]
      obtain ⟨_,_,h3⟩:=xor_sub hd
      have hb:=h (n - 1 - j.log2) (by omega)
      unfold ndB at hb
      rw [List.any_eq_false] at hb
      have hj2:=hb j (List.mem_range.2 hj)
      rw [show n - 1 - (n - 1 - j.log2)=j.log2 by omega,h3] at hj2
      have e:F j=F (j - 2 ^ j.log2):=by simpa using hj2
      rw [e]
      exact ih _ (by have:=Nat.two_pow_pos j.log2;omega) (by omega)
  rw [knw_con hc];omega
 ·intro h b hb
  have hc:Con n F:=by
   by_cases c:Con n F
   ·exact c
   ·rw [knw_not c] at h;omega
  refine nd_no hb fun i hi h0=>?_
  rw [hc i hi,hc _ (nd_in hb hi h0)]
/-- The list of needs: empty, or its head. -/
theorem nd_head (n:Nat) (F:Nat->Bool):ndTo (n+1) F (n+1)=[]\/∃ x l,ndTo (n+1) F (n+1)=x :: l/\0<=x/\(x=0↔ndB (n+1) F 0=true):=by
 unfold ndTo
 rw [List.range_succ_eq_map,List.filter_cons]
 cases h:ndB (n+1) F 0
 ·simp only [Bool.false_eq_true,if_false]
  cases h2:(List.map Nat.succ (List.range n)).filter (ndB (n+1) F) with
  | nil=>exact .inl rfl
  | cons x l =>
    refine .inr ⟨(x:Int),_,rfl,by omega,?_⟩
    have hm:x∈(List.map Nat.succ (List.range n)).filter (ndB (n+1) F):=by rw [h2];exact List.mem_cons_self
    obtain ⟨y,_,hy⟩:=List.mem_map.1 (List.mem_filter.1 hm).1
    constructor
    ·intro e;omega
    ·intro e;cases e
 ·simp only [if_true]
  exact .inr ⟨0,_,rfl,by omega,by simp⟩
theorem nd_empty (n:Nat) (F:Nat->Bool):ndTo n F n=[]↔0<=knw n F:=by
 rw [<- nd_none]
 unfold ndTo
 rw [List.map_eq_nil_iff,List.filter_eq_nil_iff]
 constructor
 ·intro h b hb
  have:=h b (List.mem_range.2 hb)
  simpa using this
 ·intro h b hb
  rw [h b (List.mem_range.1 hb)];simp
end Ta3
namespace De0
open Go.RowKit
open Ta1 Ta3
/-- The verdict. -/
def dc:List Bool->(Nat->Bool)->Bool
 | [],F=>F 0
 | q :: r,F=>if q=true then dc r (hb r.length 0 F)&&dc r (hb r.length 1 F) else dc r (hb r.length 0 F)||dc r (hb r.length 1 F)
theorem half_lt {n b p:Nat} (hb:b<=1) (hp:p < 2 ^ n):b*2 ^ n+p < 2 ^ (n+1):=by
 rw [p1]
 have:b*2 ^ n<=1*2 ^ n:=Nat.mul_le_mul_right _ hb
 omega
theorem dc_ext (r:List Bool):∀ {F G:Nat->Bool},(∀ p,p < 2 ^ r.length->F p=G p)->dc r F=dc r G:=by
 induction r with
 | nil=>exact fun h=>h 0 (by simp)
 | cons q r ih =>
   intro F G h
   have e:∀ b,b<=1->dc r (hb r.length b F)=dc r (hb r.length b G):=fun b hb1=>ih fun p hp=>h _ (half_lt hb1 hp)
   rw [dc,dc,e 0 (by omega),e 1 (by omega)]
/-- With every flag and every place turned the verdict is the other one. -/
theorem dc_not (r:List Bool):∀ F:Nat->Bool,dc (r.map not) (fun p => !F p) = !dc r F:=by
 induction r with
 | nil=>exact fun F=>rfl
 | cons q r ih =>
   intro F
   have e:∀ b,dc (r.map not) (hb (r.map not).length b (fun p => !F p)) = !dc r (hb r.length b F):=fun b=>by
    rw [List.length_map]
    exact ih (hb r.length b F)
   rw [List.map_cons,dc,dc,e 0,e 1]
   cases q<;>cases dc r (hb r.length 0 F)<;>cases dc r (hb r.length 1 F)<;>rfl
/-- More places never lower it. -/
theorem dc_mono (r:List Bool):∀ {F G:Nat->Bool},(∀ p,p < 2 ^ r.length->F p=true->G p=true)->dc r F=true->dc r G=true:=by
 induction r with
 | nil=>exact fun h=>h 0 (by simp)
 | cons q r ih =>
   intro F G h
   have e:∀ b,b<=1->dc r (hb r.length b F)=true->dc r (hb r.length b G)=true:=fun b hb1=>ih fun p hp=>h _ (half_lt hb1 hp)
   have e0:=e 0 (by omega)
   have e1:=e 1 (by omega)
   rw [dc,dc]
   revert e0 e1
   cases q<;>cases dc r (hb r.length 0 F)<;>cases dc r (hb r.length 1 F)<;>cases dc r (hb r.length 0 G)<;>cases dc r (hb r.length 1 G)<;>simp
/-- Place p with a bit put in, s bits behind it. -/
def put1 (s c p:Nat):Nat:=p / 2 ^ s*2 ^ (s+1)+c*2 ^ s+p % 2 ^ s
/-- A bit taken out. -/
def mg (s:Nat) (q:Bool) (F:Nat->Bool) (p:Nat):Bool:=if q=true then F (put1 s 0 p)&&F (put1 s 1 p) else F (put1 s 0 p)||F (put1 s 1 p)
theorem put_half (s k b c p:Nat):put1 s c (b*2 ^ (k+s)+p)=b*2 ^ (k+s+1)+put1 s c p:=by
 unfold put1
 have hs:=Nat.two_pow_pos s
 have e:b*2 ^ (k+s)+p=p+2 ^ s*(b*2 ^ k):=by rw [Nat.pow_add,Nat.add_comm];congr 1;rw [<- Nat.mul_assoc,Nat.mul_comm]
 rw [e,Nat.add_mul_div_left _ _ hs,Nat.add_mul_mod_self_left,Nat.add_mul]
 have e2:b*2 ^ k*2 ^ (s+1)=b*2 ^ (k+s+1):=by rw [Nat.mul_assoc,<- Nat.pow_add];rfl
 rw [e2]
 omega
theorem mg_half (s k b:Nat) (q:Bool) (F:Nat->Bool) (p:Nat):hb (k+s) b (mg s q F) p=mg s q (hb (k+s+1) b F) p:=by
 show mg s q F (b*2 ^ (k+s)+p)=_
 unfold mg hb
 rw [put_half,put_half]
theorem put_0 {s p:Nat} (c:Nat) (h:p < 2 ^ s):put1 s c p=c*2 ^ s+p:=by
 unfold put1
 rw [Nat.div_eq_of_lt h,Nat.mod_eq_of_lt h,Nat.zero_mul,Nat.zero_add]
theorem put_lt {s k c p:Nat} (hc:c<=1) (h:p < 2 ^ (k+s)):put1 s c p < 2 ^ (k+s+1):=by
 have hs:=Nat.two_pow_pos s
 have h1:p / 2 ^ s < 2 ^ k:=by
  rw [Nat.div_lt_iff_lt_mul hs,<- Nat.pow_add]
  exact h
 have h2:=Nat.mod_lt p hs
 have h3:c*2 ^ s<=1*2 ^ s:=Nat.mul_le_mul_right _ hc
 have h4:p / 2 ^ s*2 ^ (s+1)<=(2 ^ k - 1)*2 ^ (s+1):=Nat.mul_le_mul_right _ (by omega)
 have e:2 ^ (k+s+1)=2 ^ k*2 ^ (s+1):=by rw [Nat.add_assoc,Nat.pow_add]
 have e2:=p1 s
 have e3:(2 ^ k - 1)*2 ^ (s+1)=2 ^ k*2 ^ (s+1) - 2 ^ (s+1):=by rw [Nat.sub_mul,Nat.one_mul]
 have e4:2 ^ (s+1)<=2 ^ k*2 ^ (s+1):=Nat.le_mul_of_pos_left _ (Nat.two_pow_pos k)
 unfold put1
 omega
/-- The last bit may be taken out. -/
theorem dc_last (r:List Bool) (q:Bool):∀ F:Nat->Bool,dc (r++[q]) F=dc r (mg 0 q F):=by
 induction r with
 | nil =>
   intro F
   show dc [q] F=mg 0 q F 0
   unfold mg
   rw [put_0 0 (by simp),put_0 1 (by simp)]
   rfl
 | cons x r ih =>
   intro F
   have e:∀ b,dc (r++[q]) (hb (r++[q]).length b F)=dc r (hb r.length b (mg 0 q F)):=fun b=>by
    rw [ih,List.length_append]
    refine dc_ext r fun p hp=>?_
    exact (mg_half 0 r.length b q F p).symm
   rw [List.cons_append,dc,dc,e 0,e 1]
/-- .. and one that the table doesn't depend on. -/
theorem dc_idle (r r2:List Bool) (q:Bool):∀ F:Nat->Bool,(∀ p,p < 2 ^ (r.length+r2.length)->F (put1 r2.length 0 p)=F (put1 r2.length 1 p))->dc (r++q :: r2) F=dc (r++r2) (mg r2.length q F):=by
 induction r with
 | nil =>
   intro F h
   have h0:∀ p,p < 2 ^ r2.length->hb r2.length 0 F p=hb r2.length 1 F p:=fun p hp=>by
    have:=h p (by simpa using hp)
    rw [put_0 0 hp,put_0 1 hp] at this
    exact this
   have e1:dc r2 (hb r2.length 1 F)=dc r2 (hb r2.length 0 F):=dc_ext r2 fun p hp=>(h0 p hp).symm
   have e2:dc r2 (mg r2.length q F)=dc r2 (hb r2.length 0 F):=dc_ext r2 fun p hp=>by
    have:=h0 p hp
    unfold hb at this
    unfold mg hb
    rw [put_0 0 hp,put_0 1 hp,<- this]
    cases q<;>cases F (0*2 ^ r2.length+p)<;>rfl
   rw [List.nil_append,List.nil_append,dc,e1,e2]
   cases q<;>cases dc r2 (hb r2.length 0 F)<;>rfl
 | cons x r ih =>
   intro F h
   have e:∀ b,b<=1->dc (r++q :: r2) (hb (r++q :: r2).length b F)=dc (r++r2) (hb (r++r2).length b (mg r2.length q F)):=fun b hb1=>by
    have el:(r++q :: r2).length=r.length+r2.length+1:=by rw [List.length_append,List.length_cons];omega
    have el2:(r++r2).length=r.length+r2.length:=List.length_append
    rw [el,el2,ih]
    ·refine dc_ext _ fun p hp=>?_
     exact (mg_half r2.length r.length b q F p).symm
    ·intro p hp
     have:=h (b*2 ^ (r.length+r2.length)+p) (by
      have:=half_lt hb1 hp
      rw [List.length_cons,show r.length+1+r2.length=r.length+r2.length+1 by omega]
      exact this)
     rw [put_half,put_half] at this
     exact this
   rw [List.cons_append,List.cons_append,dc,dc,e 0 (by omega),e 1 (by omega)]
/-- The choice that is told keeps the verdict. -/
theorem dc_choose (q:Bool) (r:List Bool) (F:Nat->Bool) (h:dc r (hb r.length 0 F)≠dc (q :: r) F):dc r (hb r.length 1 F)=dc (q :: r) F:=by
 rw [dc] at h ⊢
 revert h
 cases q<;>cases dc r (hb r.length 0 F)<;>cases dc r (hb r.length 1 F)<;>simp
end De0
namespace De1
open Go.RowKit
open Ta1 Ta2 Ta3 De0
/-- The bits that a table doesn't need, of the first k. -/
def idTo (n:Nat) (F:Nat->Bool) (k:Nat):List Int:=((List.range k).filter fun b => !ndB n F b).map fun (b:Nat)=>(b:Int)
theorem idTo_yes {n k:Nat} {F:Nat->Bool} (h:ndB n F k=false):idTo n F (k+1)=idTo n F k++[(k:Int)]:=by
 unfold idTo;rw [List.range_succ,List.filter_append];simp [h]
theorem idTo_no {n k:Nat} {F:Nat->Bool} (h:ndB n F k=true):idTo n F (k+1)=idTo n F k:=by
 unfold idTo;rw [List.range_succ,List.filter_append];simp [h]
theorem id_nd (n k:Nat) (F:Nat->Bool):(idTo n F k).length+(ndTo n F k).length=k:=by
 induction k with
 | zero=>rfl
 | succ k ih =>
   cases h:ndB n F k
   ·rw [idTo_yes h,ndTo_no h,List.length_append,List.length_singleton];omega
   ·rw [idTo_no h,ndTo_yes h,List.length_append,List.length_singleton];omega
theorem put_low (s p:Nat):put1 s 0 p / 2 ^ s % 2=0:=by
 have hs:=Nat.two_pow_pos s
 unfold put1
 have e:p / 2 ^ s*2 ^ (s+1)+0*2 ^ s+p % 2 ^ s=p % 2 ^ s+2 ^ s*(p / 2 ^ s*2):=by rw [Nat.pow_succ,Nat.zero_mul,Nat.add_zero,Nat.add_comm];congr 1;rw [<- Nat.mul_assoc,<- Nat.mul_assoc,Nat.mul_comm (p / 2 ^ s)]
 rw [e,Nat.add_mul_div_left _ _ hs,Nat.div_eq_of_lt (Nat.mod_lt p hs)]
 omega
theorem put_high (s p:Nat):put1 s 1 p=put1 s 0 p+2 ^ s:=by
 unfold put1
 omega
/-- A bit that isn't needed changes nothing. -/
theorem idle_put {n k p:Nat} {F:Nat->Bool} (hk:k < n) (h:ndB n F k=false) (hp:p < 2 ^ (n - 1)):F (put1 (n - 1 - k) 0 p)=F (put1 (n - 1 - k) 1 p):=by
 apply Classical.byContradiction
 intro e
 rw [put_high] at e
 have hl:put1 (n - 1 - k) 0 p < 2 ^ n:=by
  have:=put_lt (s:=n - 1 - k) (k:=k) (c:=0) (p:=p) (by omega) (by rw [show k+(n - 1 - k)=n - 1 by omega];exact hp)
  rwa [show k+(n - 1 - k)+1=n by omega] at this
 have:=nd_yes hl (put_low _ _) e
 rw [h] at this
 cases this
/-- How many places below i have the bit at 0. -/
def rank (s i:Nat):Nat:=i / 2 ^ (s+1)*2 ^ s+min (i % 2 ^ (s+1)) (2 ^ s)
/-- A place as its parts. -/
theorem parts (s i:Nat):∃ a b c,i=a*2 ^ (s+1)+b*2 ^ s+c/\b<=1/\c < 2 ^ s/\i / 2 ^ s % 2=b/\i / 2 ^ (s+1)=a/\i % 2 ^ (s+1)=b*2 ^ s+c:=by
 have hs:=Nat.two_pow_pos s
 have h1:=Nat.div_add_mod i (2 ^ s)
 have h2:=Nat.div_add_mod (i / 2 ^ s) 2
 have e1:i / 2 ^ (s+1)=i / 2 ^ s / 2:=by rw [Nat.pow_succ,Nat.div_div_eq_div_mul]
 have e2:i=i / 2 ^ s / 2*2 ^ (s+1)+i / 2 ^ s % 2*2 ^ s+i % 2 ^ s:=by
  have:i / 2 ^ s / 2*2 ^ (s+1)+i / 2 ^ s % 2*2 ^ s=2 ^ s*(i / 2 ^ s):=by
   rw [Nat.pow_succ,Nat.mul_comm (2 ^ s) 2,<- Nat.mul_assoc,<- Nat.add_mul,Nat.mul_comm (i / 2 ^ s / 2) 2,h2,Nat.mul_comm]
  omega
 refine ⟨i / 2 ^ s / 2,i / 2 ^ s % 2,i % 2 ^ s,e2,by omega,Nat.mod_lt _ hs,rfl,e1,?_⟩
 have h3:=Nat.div_add_mod i (2 ^ (s+1))
 rw [e1,Nat.mul_comm] at h3
 omega
theorem rank_of {s a b c:Nat} (hb:b<=1) (hc:c < 2 ^ s):rank s (a*2 ^ (s+1)+b*2 ^ s+c)=a*2 ^ s+min (b*2 ^ s+c) (2 ^ s):=by
 have hp:=Nat.two_pow_pos (s+1)
 have e2:=p1 s
 have hl:b*2 ^ s+c < 2 ^ (s+1):=half_lt hb hc
 unfold rank
 have e:a*2 ^ (s+1)+b*2 ^ s+c=(b*2 ^ s+c)+2 ^ (s+1)*a:=by rw [Nat.mul_comm a];omega
 rw [e,Nat.add_mul_div_left _ _ hp,Nat.add_mul_mod_self_left,Nat.div_eq_of_lt hl,Nat.mod_eq_of_lt hl,Nat.zero_add]
theorem rank_put {s i:Nat} (h:i / 2 ^ s % 2=0):put1 s 0 (rank s i)=i:=by
 have hs:=Nat.two_pow_pos s
 obtain ⟨a,b,c,e,hb,hc,h1,h2,h3⟩:=parts s i
 have hb0:b=0:=by omega
 subst hb0
 have hr:rank s i=a*2 ^ s+c:=by
  rw [e,rank_of hb hc,Nat.zero_mul,Nat.zero_add,Nat.min_eq_left (by omega)]
 unfold put1
 have e3:a*2 ^ s+c=c+2 ^ s*a:=by rw [Nat.mul_comm];omega
 rw [hr,e3,Nat.add_mul_div_left _ _ hs,Nat.add_mul_mod_self_left,Nat.div_eq_of_lt hc,Nat.mod_eq_of_lt hc,Nat.zero_add]
 omega
theorem rank_next (s i:Nat):rank s (i+1)=rank s i+if i / 2 ^ s % 2=0 then 1 else 0:=by
 have hs:=Nat.two_pow_pos s
 have e2:=p1 s
 obtain ⟨a,b,c,e,hb,hc,h1,h2,h3⟩:=parts s i
 rw [h1]
 have hr:rank s i=a*2 ^ s+min (b*2 ^ s+c) (2 ^ s):=by conv=>lhs;rw [e]
                                                      exact rank_of hb hc
 by_cases hc1:c+1 < 2 ^ s
 ·have e4:i+1=a*2 ^ (s+1)+b*2 ^ s+(c+1):=by omega
  rw [hr,e4,rank_of hb hc1]
  rcases (by omega:b=0\/b=1) with rfl|rfl
  ·rw [if_pos rfl,Nat.zero_mul,Nat.zero_add,Nat.zero_add,Nat.min_eq_left (by omega),Nat.min_eq_left (by omega)];omega
  ·rw [if_neg (by omega),Nat.one_mul,Nat.min_eq_right (by omega),Nat.min_eq_right (by omega)];rfl
 ·rcases (by omega:b=0\/b=1) with rfl|rfl
  ·have e4:i+1=a*2 ^ (s+1)+1*2 ^ s+0:=by omega
   rw [hr,e4,rank_of (by omega) hs,if_pos rfl,Nat.one_mul,Nat.zero_mul,Nat.zero_add,Nat.min_eq_right (by omega),Nat.min_eq_left (by omega)];omega
  ·have e4:i+1=(a+1)*2 ^ (s+1)+0*2 ^ s+0:=by rw [Nat.add_mul];omega
   rw [hr,e4,rank_of (by omega) hs,if_neg (by omega),Nat.one_mul,Nat.zero_mul,Nat.zero_add,Nat.min_eq_left (by omega),Nat.min_eq_right (by omega),Nat.add_mul];omega
theorem rank_0 (s:Nat):rank s 0=0:=by
 unfold rank
 rw [Nat.zero_div,Nat.zero_mod,Nat.zero_mul,Nat.zero_add]
 exact Nat.zero_min _
/-- All places of n + 1 bits: as many as n bits have. -/
theorem rank_all (n s:Nat) (hs:s<=n):rank s (2 ^ (n+1))=2 ^ n:=by
 unfold rank
 have e:2 ^ (n+1)=2 ^ (s+1)*2 ^ (n - s):=by rw [<- Nat.pow_add];congr 1;omega
 rw [e,Nat.mul_div_cancel_left _ (Nat.two_pow_pos _),Nat.mul_mod_right,Nat.zero_min,Nat.add_zero,<- Nat.pow_add]
 congr 1
 omega
end De1
namespace Dv0
open Go.RowKit
open Ta1 Ta3 De0
/-- The verdict where the first k bits have the values that p tells. -/
def dcAt (row:List Bool) (F:Nat->Bool) (k p:Nat):Bool:=dc (row.drop k) fun q=>F (p*2 ^ (row.length - k)+q)
theorem dcAt_0 (row:List Bool) (F:Nat->Bool):dcAt row F 0 0=dc row F:=by
 unfold dcAt
 rw [List.drop_zero]
 refine dc_ext row fun q _=>?_
 rw [Nat.zero_mul,Nat.zero_add]
theorem dcAt_end (row:List Bool) (F:Nat->Bool) (p:Nat):dcAt row F row.length p=F p:=by
 unfold dcAt
 rw [List.drop_length,Nat.sub_self]
 show F (p*2 ^ 0+0)=F p
 rw [Nat.pow_zero,Nat.mul_one,Nat.add_zero]
theorem dcAt_half {row:List Bool} {k:Nat} (h:k < row.length) (F:Nat->Bool) (p b:Nat) :
 dc (row.drop (k+1)) (hb (row.drop (k+1)).length b fun q=>F (p*2 ^ (row.length - k)+q))=dcAt row F (k+1) (2*p+b):=by
 unfold dcAt
 refine dc_ext _ fun q _=>?_
 show F (p*2 ^ (row.length - k)+(b*2 ^ (row.drop (k+1)).length+q))=F ((2*p+b)*2 ^ (row.length - (k+1))+q)
 have e:row.length - k=(row.length - (k+1))+1:=by omega
 rw [List.length_drop,e,Nat.pow_succ,Nat.add_mul,Nat.mul_comm 2 p,Nat.mul_assoc p 2,Nat.mul_comm 2,Nat.add_assoc]
theorem dcAt_step {row:List Bool} {k:Nat} (h:k < row.length) (F:Nat->Bool) (p:Nat) :
 dcAt row F k p=if row[k]=true then dcAt row F (k+1) (2*p)&&dcAt row F (k+1) (2*p+1) else dcAt row F (k+1) (2*p)||dcAt row F (k+1) (2*p+1):=by
 have h0:_=dcAt row F (k+1) (2*p):=dcAt_half h F p 0
 have h1:=dcAt_half h F p 1
 rw [<- h0,<- h1]
 conv=>lhs;unfold dcAt
 rw [List.drop_eq_getElem_cons h]
 rfl
theorem dcAt_ext (row:List Bool) {F G:Nat->Bool} (h:∀ p,p < 2 ^ row.length->F p=G p) {k p:Nat} (hk:k<=row.length) (hp:p < 2 ^ k):dcAt row F k p=dcAt row G k p:=by
 unfold dcAt
 refine dc_ext _ fun q hq=>h _ ?_
 rw [List.length_drop] at hq
 have e:2 ^ row.length=2 ^ k*2 ^ (row.length - k):=by rw [<- Nat.pow_add];congr 1;omega
 rw [e]
 have h1:p*2 ^ (row.length - k)<=(2 ^ k - 1)*2 ^ (row.length - k):=Nat.mul_le_mul_right _ (by omega)
 have h2:(2 ^ k - 1)*2 ^ (row.length - k)=2 ^ k*2 ^ (row.length - k) - 2 ^ (row.length - k):=by rw [Nat.sub_mul,Nat.one_mul]
 have h3:2 ^ (row.length - k)<=2 ^ k*2 ^ (row.length - k):=Nat.le_mul_of_pos_left _ (Nat.two_pow_pos k)
 omega
theorem or_bit (p b:Nat) (hb:b<=1):2*p ||| b=2*p+b:=by
 have:=Nat.two_pow_add_eq_or_of_lt (b:=b) (i:=1) (by omega) p
 rw [Nat.pow_one] at this
 exact this.symm
/-- The least value of a bit whose half is worth v. -/
def fst (x y:Bool) (v:Int):Int:=if (x.toNat:Int)=v then 0 else if (y.toNat:Int)=v then 1 else -1
end Dv0
end Go.Proofs.YtladjpombohpaaaGreatDoor
