import Derived.Test.YtfhdbcfhhbdiiaaTd1
namespace Go.Proofs.Ytfhdbcfhhbdiiaa
set_option maxRecDepth 100000
set_option maxHeartbeats 8000000
set_option linter.unusedVariables false
namespace Ta3
open Go.RowKit
open Ta0 Ta1 Ta2 Td1
open Ss0 (bs bs_size bs_app)
/-- A half's bits. -/
def hb (n b:Nat) (F:Nat->Bool) (p:Nat):Bool:=F (b*2 ^ n+p)
theorem hb0 (n:Nat) (F:Nat->Bool) (p:Nat):hb n 0 F p=F p:=by unfold hb;rw [Nat.zero_mul,Nat.zero_add]
theorem hb1 (n:Nat) (F:Nat->Bool) (p:Nat):hb n 1 F p=F (2 ^ n+p):=by unfold hb;rw [Nat.one_mul]
theorem p1 (n:Nat):2 ^ (n+1)=2 ^ n+2 ^ n:=by rw [Nat.pow_succ];omega
theorem half_count (n:Nat) (F:Nat->Bool):cnt (hb n 0 F) (2 ^ n)+cnt (hb n 1 F) (2 ^ n)=cnt F (2 ^ (n+1)):=by
 rw [p1,cnt_add,cnt_congr (2 ^ n) (fun j _=>hb0 n F j),cnt_congr (2 ^ n) (fun j _=>hb1 n F j)]
theorem half_join (n:Nat) (F:Nat->Bool):bs (tab n (hb n 0 F))++bs (tab n (hb n 1 F))=bs (tab (n+1) F):=by
 rw [bs_app]
 congr 1
 refine list_tab (by rw [List.length_append,tab_length,tab_length,p1]) fun i hi=>?_
 rw [List.length_append,tab_length,tab_length] at hi
 by_cases h:i < 2 ^ n
 ·rw [List.getElem_append_left (by rw [tab_length];exact h),tab_get,hb0]
 ·rw [List.getElem_append_right (by rw [tab_length];omega),tab_get,hb1,tab_length,show 2 ^ n+(i - 2 ^ n)=i by omega]
/-- All values are one. -/
def Con (n:Nat) (F:Nat->Bool):Prop:=∀ j,j < 2 ^ n->F j=F 0
theorem knw_con {n:Nat} {F:Nat->Bool} (h:Con n F):knw n F=((F 0).toNat:Int):=knw_same h
theorem knw_not {n:Nat} {F:Nat->Bool} (h:¬ Con n F):knw n F = -1:=by
 obtain ⟨j,hj⟩:=Classical.not_forall.1 h
 obtain ⟨h1,h2⟩:=Classical.not_imp.1 hj
 exact knw_diff h1 h2
theorem con_halves (n:Nat) (F:Nat->Bool):Con (n+1) F↔Con n (hb n 0 F)/\Con n (hb n 1 F)/\hb n 0 F 0=hb n 1 F 0:=by
 have hp:=Nat.two_pow_pos n
 constructor
 ·intro h
  refine ⟨fun j hj=>?_,fun j hj=>?_,?_⟩
  ·rw [hb0,hb0];exact h j (by rw [p1];omega)
  ·rw [hb1,hb1,h _ (by rw [p1];omega),h (2 ^ n+0) (by rw [p1];omega)]
  ·rw [hb0,hb1,h (2 ^ n+0) (by rw [p1];omega)]
 ·rintro ⟨h1,h2,h3⟩ j hj
  rw [p1] at hj
  by_cases h:j < 2 ^ n
  ·have:=h1 j h
   rwa [hb0,hb0] at this
  ·have:=h2 (j - 2 ^ n) (by omega)
   rw [<- h3,hb0,hb1,show 2 ^ n+(j - 2 ^ n)=j by omega] at this
   exact this
/-- Known just when both halves are, and alike. -/
theorem knw_halves (n:Nat) (F:Nat->Bool):(0<=knw (n+1) F↔0<=knw n (hb n 0 F)/\knw n (hb n 0 F)=knw n (hb n 1 F))/\(0<=knw (n+1) F->knw (n+1) F=knw n (hb n 0 F)):=by
 by_cases h:Con (n+1) F
 ·obtain ⟨h1,h2,h3⟩:=(con_halves n F).1 h
  rw [knw_con h,knw_con h1,knw_con h2,<- h3,hb0]
  exact ⟨⟨fun _=>⟨by omega,rfl⟩,fun _=>by omega⟩,fun _=>rfl⟩
 ·rw [knw_not h]
  refine ⟨⟨fun h0=>by omega,fun ⟨h0,h1⟩=>?_⟩,fun h0=>by omega⟩
  exfalso
  by_cases c0:Con n (hb n 0 F)
  ·by_cases c1:Con n (hb n 1 F)
   ·rw [knw_con c0,knw_con c1] at h1
    refine h ((con_halves n F).2 ⟨c0,c1,?_⟩)
    cases e0:hb n 0 F 0<;>cases e1:hb n 1 F 0<;>first|rfl|(rw [e0,e1] at h1;simp at h1)
   ·rw [knw_con c0,knw_not c1] at h1;omega
  ·rw [knw_not c0] at h0;omega
theorem knw_range (n:Nat) (F:Nat->Bool) : -1<=knw n F/\knw n F<=1:=by
 by_cases h:Con n F
 ·rw [knw_con h];have:=(F 0).toNat_le;omega
 ·rw [knw_not h];omega
/-- The first bit is needed just when the halves differ. -/
theorem nd_first (n:Nat) (F:Nat->Bool):ndB (n+1) F 0=true↔tab n (hb n 0 F)≠tab n (hb n 1 F):=by
 have hp:=Nat.two_pow_pos n
 constructor
 ·intro h e
  have h2:=tab_inj e
  have h3:ndB (n+1) F 0=false:=nd_no (by omega) fun i hi h0=>by
   rw [show n+1 - 1 - 0=n by omega] at h0 ⊢
   by_cases hin:i < 2 ^ n
   ·have:=h2 i hin
    rw [hb0,hb1,Nat.add_comm] at this
    exact this
   ·rw [p1] at hi
    have:i / 2 ^ n=1:=by
     rw [show i=(i - 2 ^ n)+2 ^ n by omega,Nat.add_div_right _ hp,Nat.div_eq_of_lt (by omega)]
    rw [this] at h0;omega
  rw [h] at h3;cases h3
 ·intro h
  cases hN:ndB (n+1) F 0
  ·exfalso
   refine h (tab_ext fun i hi=>?_)
   rw [hb0,hb1]
   by_cases e:F i=F (2 ^ n+i)
   ·exact e
   ·have:=nd_yes (n:=n+1) (b:=0) (i:=i) (F:=F) (by rw [p1];omega) (by rw [show n+1 - 1 - 0=n by omega,Nat.div_eq_of_lt hi]) (by rw [show n+1 - 1 - 0=n by omega,Nat.add_comm];exact e)
    rw [hN] at this;cases this
  ·rfl
/-- It needs none just when it is known. -/
theorem nd_none (n:Nat) (F:Nat->Bool):(∀ b,b < n->ndB n F b=false)↔0<=knw n F:=by
 have hp:=Nat.two_pow_pos n
 constructor
 ·intro h
  have hc:Con n F:=by
   intro j
   induction j using Nat.strongRecOn with
   | ind j ih =>
     intro hj
     by_cases h0:j=0
     ·rw [h0]
     ·have hs1:2 ^ j.log2<=j:=Nat.log2_self_le h0
      have hs2:j < 2 ^ (j.log2+1):=Nat.lt_log2_self
      have hsn:j.log2 < n:=by
       rcases Nat.lt_or_ge j.log2 n with h1|h1
       ·exact h1
       ·have:=Nat.pow_le_pow_right (n:=2) (by omega) h1;omega
      have hd:j / 2 ^ j.log2 % 2=1:=by
       have:j / 2 ^ j.log2=1:=by
        have h9:=Nat.add_div_right (j - 2 ^ j.log2) (Nat.two_pow_pos j.log2)
        rw [show j - 2 ^ j.log2+2 ^ j.log2=j by omega,Nat.div_eq_of_lt (a:=j - 2 ^ j.log2) (by rw [p1] at hs2;omega)] at h9
        exact h9
       rw [this]
      obtain ⟨_,_,h3⟩:=xor_sub hd
      have hb:=h (n - 1 - j.log2) (by omega)
      unfold ndB at hb
      rw [List.any_eq_false] at hb
      have hj2:=hb j (List.mem_range.2 hj)
      rw [show n - 1 - (n - 1 - j.log2)=j.log2 by omega,h3] at hj2
      have e:F j=F (j - 2 ^ j.log2):=by simpa using hj2
      rw [e]
      exact ih _ (by have:=Nat.two_pow_pos j.log2;omega) (by omega)
  rw [knw_con hc];omega
 ·intro h b hb
  have hc:Con n F:=by
   by_cases c:Con n F
   ·exact c
   ·rw [knw_not c] at h;omega
  refine nd_no hb fun i hi h0=>?_
  rw [hc i hi,hc _ (nd_in hb hi h0)]
/-- The list of needs: empty, or its head. -/
theorem nd_head (n:Nat) (F:Nat->Bool):ndTo (n+1) F (n+1)=[]\/∃ x l,ndTo (n+1) F (n+1)=x :: l/\0<=x/\(x=0↔ndB (n+1) F 0=true):=by
 unfold ndTo
 rw [List.range_succ_eq_map,List.filter_cons]
 cases h:ndB (n+1) F 0
 ·simp only [Bool.false_eq_true,if_false]
  cases h2:(List.map Nat.succ (List.range n)).filter (ndB (n+1) F) with
  | nil=>exact .inl rfl
  | cons x l =>
    refine .inr ⟨(x:Int),_,rfl,by omega,?_⟩
    have hm:x∈(List.map Nat.succ (List.range n)).filter (ndB (n+1) F):=by rw [h2];exact List.mem_cons_self
    obtain ⟨y,_,hy⟩:=List.mem_map.1 (List.mem_filter.1 hm).1
    constructor
    ·intro e;omega
    ·intro e;cases e
 ·simp only [if_true]
  exact .inr ⟨0,_,rfl,by omega,by simp⟩
theorem nd_empty (n:Nat) (F:Nat->Bool):ndTo n F n=[]↔0<=knw n F:=by
 rw [<- nd_none]
 unfold ndTo
 rw [List.map_eq_nil_iff,List.filter_eq_nil_iff]
 constructor
 ·intro h b hb
  have:=h b (List.mem_range.2 hb)
  simpa using this
 ·intro h b hb
  rw [h b (List.mem_range.1 hb)];simp
end Ta3
end Go.Proofs.Ytfhdbcfhhbdiiaa
