import Derived.Test.YtebejleeadofcaaGreatPkFR16
import Derived.Test.YtebejleeadofcaaGreatPkFR15
import Derived.Test.YtebejleeadofcaaGreatPkFR0
namespace Go.Proofs.YtebejleeadofcaaGreat
set_option maxRecDepth 100000
set_option maxHeartbeats 8000000
set_option linter.unusedVariables false
namespace Vl2
open Nd0 Pl1 Pl2 Tm0 Tm1 Tm3 Tm5 Tm8 Tm11 Tm13 Tm14 Tr0 Vl1
theorem in_iff {x a b:Int}:inR x a b=true↔a<=x/\x<=b:=by unfold inR;simp
theorem app_in {op W k w a b c:Int} (h1:1<=W/\W<=8) (h2:1<=w/\w<=8) (ha:0<=a/\a<=255) (hb:0<=b/\b<=255) (hc:0<=c/\c<=255):applyL op W k w a b c=opL op W k w a b c:=by
 unfold applyL
 rw [in_iff.2 h1,in_iff.2 h2,in_iff.2 ha,in_iff.2 hb,in_iff.2 hc]
 rfl
theorem wok_div {m a b:Int} (ha:wok m a=true) (hb:wok m b=true):wok m (vDiv m a b)=true:=by
 unfold vDiv
 rw [ha,hb]
 obtain ⟨h1,h2,h3,h4⟩:=wok_iff.1 ha
 have h5:=wok_iff.1 hb
 simp only [Bool.and_self,if_true]
 have hp:=p2_pos m.toNat
 split
 ·exact wok_iff.2 ⟨h1,h2,by omega,by omega⟩
 ·have:=Int.ediv_nonneg h3 h5.2.2.1
  have:=Int.ediv_le_self b h3
  exact wok_iff.2 ⟨h1,h2,by omega,by omega⟩
theorem wok_rem {m a b:Int} (ha:wok m a=true) (hb:wok m b=true):wok m (vRem m a b)=true:=by
 unfold vRem
 rw [ha,hb]
 obtain ⟨h1,h2,h3,h4⟩:=wok_iff.1 ha
 have h5:=wok_iff.1 hb
 simp only [Bool.and_self,if_true]
 split
 ·exact ha
 ·rename_i hz
  have:=Int.emod_nonneg a hz
  have:=Int.emod_lt_of_pos a (show 0 < b by omega)
  exact wok_iff.2 ⟨h1,h2,by omega,by omega⟩
theorem wok_shl {m a b:Int} (ha:wok m a=true) (hb:wok m b=true):wok m (vShl m a b)=true:=by
 unfold vShl
 rw [ha,hb]
 obtain ⟨h1,h2,h3,h4⟩:=wok_iff.1 ha
 simp only [Bool.and_self,if_true]
 split
 ·exact wok_zero h1 h2
 ·exact wok_mod _ h1 h2
theorem wok_shr {m a b:Int} (ha:wok m a=true) (hb:wok m b=true):wok m (vShr m a b)=true:=by
 unfold vShr
 rw [ha,hb]
 obtain ⟨h1,h2,h3,h4⟩:=wok_iff.1 ha
 simp only [Bool.and_self,if_true]
 split
 ·exact wok_zero h1 h2
 ·have hp:=p2_pos b.toNat
  have:=Int.ediv_nonneg h3 (show 0<=p2 b.toNat by omega)
  have:=Int.ediv_le_self (p2 b.toNat) h3
  exact wok_iff.2 ⟨h1,h2,by omega,by omega⟩
theorem wok_slice {w a k n:Int} (h1:1<=n) (h2:n<=8):wok n (vSlice w a k n)=true:=by
 unfold vSlice
 split
 ·exact wok_mod _ h1 h2
 ·exact wok_zero h1 h2
theorem wok_bit (p:Prop) [Decidable p]:wok 1 (if p then 1 else 0)=true:=by
 split<;>rfl
theorem p2_nat (w:Int):p2 w.toNat=((2 ^ w.toNat:Nat):Int):=by unfold p2;simp
theorem wok_nat {w a:Int} (h:wok w a=true):a.toNat < 2 ^ w.toNat:=by
 obtain ⟨h1,h2,h3,h4⟩:=wok_iff.1 h
 rw [p2_nat] at h4
 omega
theorem wok_of_nat {w:Int} {n:Nat} (h1:1<=w) (h2:w<=8) (h:n < 2 ^ w.toNat):wok w (n:Int)=true:=wok_iff.2 ⟨h1,h2,by omega,by rw [p2_nat];omega⟩
theorem wok_and {w a b:Int} (ha:wok w a=true) (hb:wok w b=true):wok w (nAnd a b)=true:=by
 obtain ⟨h1,h2,_,_⟩:=wok_iff.1 ha
 exact wok_of_nat h1 h2 (Nat.and_lt_two_pow _ (wok_nat hb))
theorem wok_or {w a b:Int} (ha:wok w a=true) (hb:wok w b=true):wok w (nOr a b)=true:=by
 obtain ⟨h1,h2,_,_⟩:=wok_iff.1 ha
 exact wok_of_nat h1 h2 (Nat.or_lt_two_pow (wok_nat ha) (wok_nat hb))
theorem wok_xor {w a b:Int} (ha:wok w a=true) (hb:wok w b=true):wok w (nXor a b)=true:=by
 obtain ⟨h1,h2,_,_⟩:=wok_iff.1 ha
 exact wok_of_nat h1 h2 (Nat.xor_lt_two_pow (wok_nat ha) (wok_nat hb))
theorem wok_join {W x y a b:Int} (h8:W<=8) (hw:x+y=W) (ha:wok x a=true) (hb:wok y b=true):wok W (a*p2 (W - x).toNat+b)=true:=by
 obtain ⟨a1,a2,a3,a4⟩:=wok_iff.1 ha
 obtain ⟨b1,b2,b3,b4⟩:=wok_iff.1 hb
 have e:W - x=y:=by omega
 rw [e]
 have hp:p2 W.toNat=p2 x.toNat*p2 y.toNat:=by
  unfold p2
  rw [<- Int.pow_add]
  congr 1;omega
 have hy:=p2_pos y.toNat
 refine wok_iff.2 ⟨by omega,h8,?_,?_⟩
 ·have:=Int.mul_nonneg a3 (show 0<=p2 y.toNat by omega)
  omega
 ·rw [hp]
  have h1:(a+1)*p2 y.toNat<=p2 x.toNat*p2 y.toNat:=Int.mul_le_mul_of_nonneg_right (by omega) (by omega)
  rw [Int.add_mul] at h1
  omega
def Fits (r:List Nat) (e:List Int):Prop:=∀ v,v < 8->∀ j,1<=j->j<=8->(r.getD v 0).testBit j=true->wok (j:Int) (e.getD v 0)=true
theorem fit_iff {r:List Nat} {e:List Int}:fitR r e=true↔Fits r e:=by
 unfold fitR Fits
 simp only [List.all_eq_true,List.mem_range,Bool.or_eq_true,Bool.not_eq_true']
 constructor
 ·intro h v hv j h1 h8 hb
  rcases h v hv (j - 1) (by omega) with e1|e1
  ·rw [show j - 1+1=j by omega,hb] at e1;cases e1
  ·have e2:((j - 1:Nat):Int)+1=(j:Int):=by omega
   rw [e2] at e1
   exact e1
 ·intro h v hv j hj
  cases hb:(r.getD v 0).testBit (j+1)
  ·exact .inl rfl
  ·have:=h v hv (j+1) (by omega) (by omega) hb
   refine .inr ?_
   have e2:((j+1:Nat):Int)=(j:Int)+1:=by omega
   rw [e2] at this
   exact this
theorem or_at (r s:List Nat) {v:Nat} (hv:v < 8):(orL r s).getD v 0=(r.getD v 0 ||| s.getD v 0):=by
 unfold orL
 rw [List.getD_eq_getElem?_getD,List.getElem?_map,List.getElem?_range hv]
 rfl
theorem Fits.left {r s:List Nat} {e:List Int} (h:Fits (orL r s) e):Fits r e:=fun v hv j h1 h8 hb=>h v hv j h1 h8 (by rw [or_at r s hv,Nat.testBit_or,hb];rfl)
theorem Fits.right {r s:List Nat} {e:List Int} (h:Fits (orL r s) e):Fits s e:=fun v hv j h1 h8 hb=>h v hv j h1 h8 (by rw [or_at r s hv,Nat.testBit_or,hb,Bool.or_true])
theorem need_len:∀ (x:Tr) (r:List Nat),needT x=some r->r.length=8:=by
 intro x
 induction x with
 | leaf op w k=>intro r h;simp only [needT] at h;cases h;simp
 | one op w k b x ih =>
   intro r h
   simp only [needT] at h
   obtain ⟨s,h1,h⟩:=Option.bind_eq_some_iff.1 h
   split at h
   ·split at h
    ·cases h
    ·cases h;rw [List.length_set];exact ih s h1
   ·cases h;exact ih _ h1
 | two op w x y ih1 ih2 =>
   intro r h
   simp only [needT] at h
   obtain ⟨s,h1,h⟩:=Option.bind_eq_some_iff.1 h
   obtain ⟨u,h2,h⟩:=Option.bind_eq_some_iff.1 h
   cases h
   simp [orL]
 | three op w x y z ih1 ih2 ih3 =>
   intro r h
   simp only [needT] at h
   obtain ⟨s,h1,h⟩:=Option.bind_eq_some_iff.1 h
   obtain ⟨u,h2,h⟩:=Option.bind_eq_some_iff.1 h
   obtain ⟨u',h3,h⟩:=Option.bind_eq_some_iff.1 h
   cases h
   simp [orL]
theorem Fits.below {s:List Nat} {e:List Int} {k b:Int} {i:Nat} (hs:s.length=8) (he:e.length=8) (hk:0<=k/\k<=7) (hb:1<=b/\b<=8) (hi:i < 2 ^ b.toNat) (hq:¬ (s.getD k.toNat 0≠0/\s.getD k.toNat 0≠2 ^ b.toNat)) (h:Fits (s.set k.toNat 0) e):Fits s (e.set k.toNat (i:Int)):=by
 intro v hv j h1 h8 hbt
 by_cases hvk:v=k.toNat
 ·subst hvk
  have hget:(e.set k.toNat (i:Int)).getD k.toNat 0=(i:Int):=by
   rw [List.getD_eq_getElem?_getD,List.getElem?_set_self (by omega)];rfl
  rw [hget]
  have hs2:s.getD k.toNat 0=2 ^ b.toNat:=by
   apply Classical.byContradiction
   intro hn
   refine hq ⟨fun e0=>?_,hn⟩
   rw [e0] at hbt
   simp at hbt
  rw [hs2,Nat.testBit_two_pow] at hbt
  have hj:b.toNat=j:=of_decide_eq_true hbt
  exact wok_of_nat (by omega) (by omega) (by rw [show ((j:Nat):Int).toNat=b.toNat by omega];exact hi)
 ·have hget:(e.set k.toNat (i:Int)).getD v 0=e.getD v 0:=by
   rw [List.getD_eq_getElem?_getD,List.getD_eq_getElem?_getD,List.getElem?_set_ne (fun e=>hvk e.symm)]
  rw [hget]
  refine h v hv j h1 h8 ?_
  rw [List.getD_eq_getElem?_getD,List.getElem?_set_ne (fun e=>hvk e.symm),<- List.getD_eq_getElem?_getD]
  exact hbt
theorem value_word:∀ (x:Tr) (r:List Nat) (e:List Int),Rt x->needT x=some r->e.length=8->Fits r e->wok x.wid (vT x e)=true:=by
 intro x
 induction x with
 | leaf op w k =>
   intro r e hr hn he hf
   obtain ⟨h1,h8,h⟩:=hr
   simp only [needT] at hn
   cases hn
   simp only [vT]
   show wok w _=true
   rcases h with ⟨rfl,hk⟩|⟨rfl,hk0,hk7⟩
   ·rw [if_neg (by decide),app_in ⟨h1,h8⟩ (by decide) (by decide) (by decide) (by decide)]
    exact hk
   ·rw [if_pos rfl]
    have:=hf k.toNat (by omega) w.toNat (by omega) (by omega) (by
     rw [List.getD_eq_getElem?_getD,List.getElem?_map,List.getElem?_range (by omega)]
     simp only [Option.map_some,Option.getD_some]
     rw [if_pos ⟨trivial,by omega⟩,Nat.testBit_two_pow]
     simp)
    rw [show ((w.toNat:Nat):Int)=w by omega] at this
    exact this
 | one op w k b x ih =>
   intro r e hr hn he hf
   obtain ⟨h1,h8,hx,h⟩:=hr
   have hxw:=hx.wid
   simp only [needT] at hn
   obtain ⟨s,h2,hn⟩:=Option.bind_eq_some_iff.1 hn
   simp only [vT]
   show wok w _=true
   rcases h with ⟨rfl,hw⟩|⟨rfl,hk⟩|⟨ho,hx1,rfl,hk0,hk7,hb1,hb8⟩
   ·rw [if_neg (by decide),if_neg (by decide)]
    rw [show quant 2=false from rfl] at hn
    simp only [Bool.false_eq_true,if_false] at hn
    have hsr:s=r:=Option.some.inj hn
    subst hsr
    have hv:=ih s e hx h2 he hf
    rw [app_in ⟨h1,h8⟩ hxw (wok_lt hv) (by decide) (by decide)]
    rw [hw] at hv
    exact wok_flip hv
   ·rw [if_neg (by decide),if_neg (by decide)]
    rw [show quant 17=false from rfl] at hn
    simp only [Bool.false_eq_true,if_false] at hn
    have hsr:s=r:=Option.some.inj hn
    subst hsr
    have hv:=ih s e hx h2 he hf
    rw [app_in ⟨h1,h8⟩ hxw (wok_lt hv) (by decide) (by decide)]
    exact wok_slice h1 h8
   ·rcases ho with rfl|rfl
    ·rw [if_pos rfl];exact wok_bit _
    ·rw [if_neg (by decide),if_pos rfl];exact wok_bit _
 | two op w x y ih1 ih2 =>
   intro r e hr hn he hf
   obtain ⟨h1,h8,hx,hy,h⟩:=hr
   have hxw:=hx.wid
   simp only [needT] at hn
   obtain ⟨s,h2,hn⟩:=Option.bind_eq_some_iff.1 hn
   obtain ⟨u,h3,hn⟩:=Option.bind_eq_some_iff.1 hn
   cases hn
   have hv:=ih1 s e hx h2 he hf.left
   have hu:=ih2 u e hy h3 he hf.right
   simp only [vT]
   show wok w _=true
   rw [app_in ⟨h1,h8⟩ hxw (wok_lt hv) (wok_lt hu) (by decide)]
   rcases h with ⟨ho1,ho2,hwx,hwy⟩|⟨ho1,ho2,hxy,rfl⟩|⟨rfl,hw⟩
   ·rw [hwx] at hv ⊢
    rw [hwy] at hu
    have hc:op=3\/op=4\/op=5\/op=6\/op=7\/op=8\/op=9\/op=10\/op=11\/op=12:=by omega
    rcases hc with rfl|rfl|rfl|rfl|rfl|rfl|rfl|rfl|rfl|rfl
    ·exact wok_and hv hu
    ·exact wok_or hv hu
    ·exact wok_xor hv hu
    ·exact wok_add hv hu
    ·exact wok_sub hv hu
    ·exact wok_mul hv hu
    ·exact wok_div hv hu
    ·exact wok_rem hv hu
    ·exact wok_shl hv hu
    ·exact wok_shr hv hu
   ·have hc:op=13\/op=14\/op=15:=by omega
    rcases hc with rfl|rfl|rfl
    ·exact wok_bit _
    ·exact wok_bit _
    ·exact wok_bit _
   ·have hyw:=hy.wid
    show wok w (if w < x.wid then vT y e else vT x e*p2 (w - x.wid).toNat+vT y e)=true
    rw [if_neg (by omega)]
    exact wok_join h8 hw hv hu
 | three op w x y z ih1 ih2 ih3 =>
   intro r e hr hn he hf
   obtain ⟨h1,h8,hx,hy,hz,rfl,hx1,hyw,hzw⟩:=hr
   simp only [needT] at hn
   obtain ⟨s,h2,hn⟩:=Option.bind_eq_some_iff.1 hn
   obtain ⟨u,h3,hn⟩:=Option.bind_eq_some_iff.1 hn
   obtain ⟨u',h4,hn⟩:=Option.bind_eq_some_iff.1 hn
   cases hn
   have hv:=ih1 s e hx h2 he hf.left.left
   have hu:=ih2 u e hy h3 he hf.left.right
   have ht:=ih3 u' e hz h4 he hf.right
   simp only [vT]
   show wok w _=true
   rw [app_in ⟨h1,h8⟩ hx.wid (wok_lt hv) (wok_lt hu) (wok_lt ht)]
   show wok w (if vT x e=1 then vT y e else vT z e)=true
   rw [hyw] at hu
   rw [hzw] at ht
   split
   ·exact hu
   ·exact ht
end Vl2
namespace Tx4
open Nd0 Pl1 Tm0 Tm1 Tm3 Tm8 Tx0 Tx1 Tx2 Tx3 Tr0
end Tx4
namespace Vl3
open Nd0 Pl1 Pl2 Tm0 Tm1 Tm3 Tm5 Tm8 Tm11 Tm13 Tm14 Tx0 Tx2 Tx3 Tx4 Tr0 Vl1 Vl2
theorem value_parts {l:List Nd} {e:List Int} {x:Int}:valueL l e=some x↔termOk l=true/\e.length=8/\bitsTo l l.length<=12/\fitT (root l) e=true/\vT (root l) e=x:=by
 unfold valueL
 split
 ·rename_i hc
  simp only [Bool.and_eq_true,decide_eq_true_eq] at hc
  constructor
  ·intro h;cases h;exact ⟨hc.1.1.1,hc.1.1.2,hc.1.2,hc.2,rfl⟩
  ·intro h;rw [h.2.2.2.2]
 ·rename_i hc
  simp only [Bool.and_eq_true,decide_eq_true_eq] at hc
  constructor
  ·intro h;cases h
  ·intro h;exact absurd ⟨⟨⟨h.1,h.2.1⟩,h.2.2.1⟩,h.2.2.2.1⟩ hc
end Vl3
namespace Vl4
open Nd0 Pl1 Pl2 Tm0 Tm1 Tm3 Tm5 Tm8 Tm11 Tm12 Tm13 Tm14 Tx2 Tr0 Vl1 Vl2 Vl3
section
variable {t:List Nd} {q:Nd} (hT:termOk t=true) (hQ:termOk (t++[q])=true) (hp:parts q=[(t.length:Int) - 1])
include hT hQ hp
theorem flag_more:∀ d i,t.length=i+1+d->flag (reachL t) i=true->flag (reachL (t++[q])) i=true:=by
 intro d
 induction d using Nat.strongRecOn with
 | ind d ih =>
   intro i hi hf
   have hl:=term_len hT
   have hDq:=down_of hQ
   rcases reach_why (down_of hT) (i:=i) (by omega) hf with e|⟨j,h1,h2,h3,h4⟩
   ·have hr:flag (reachL (t++[q])) t.length=true:=by
     have:=reach_root (l:=t++[q]) (by simp)
     simpa using this
    have:=reach_closed hDq (i:=t.length) (by simp) hr (p:=(t.length:Int) - 1) (by rw [nth_app_last,hp];simp)
    rw [show ((t.length:Int) - 1).toNat=i by omega] at this
    exact this
   ·have:=reach_closed hDq (i:=j) (by simp;omega) (ih (t.length - (j+1)) (by omega) j (by omega) h3) (p:=(i:Int)) (by rw [nth_app_left h2];exact h4)
    rw [Int.toNat_natCast] at this
    exact this
theorem flag_less:∀ d i,t.length=i+1+d->flag (reachL (t++[q])) i=true->flag (reachL t) i=true:=by
 intro d
 induction d using Nat.strongRecOn with
 | ind d ih =>
   intro i hi hf
   have hl:=term_len hT
   rcases reach_why (down_of hQ) (i:=i) (by simp;omega) hf with e|⟨j,h1,h2,h3,h4⟩
   ·simp at e;omega
   ·simp only [List.length_append,List.length_cons,List.length_nil] at h2
    by_cases hj:j < t.length
    ·rw [nth_app_left hj] at h4
     have:=reach_closed (down_of hT) (i:=j) hj (ih (t.length - (j+1)) (by omega) j (by omega) h3) (p:=(i:Int)) h4
     rw [Int.toNat_natCast] at this
     exact this
    ·have e:j=t.length:=by omega
     subst e
     rw [nth_app_last,hp] at h4
     have e2:(i:Int)=(t.length:Int) - 1:=by simpa using h4
     have e3:i=t.length - 1:=by omega
     rw [e3]
     exact reach_root (by omega)
theorem flag_snoc {i:Nat} (hi:i < t.length):flag (reachL (t++[q])) i=flag (reachL t) i:=by
 cases h:flag (reachL t) i
 ·cases h2:flag (reachL (t++[q])) i
  ·rfl
  ·rw [flag_less hT hQ hp (t.length - (i+1)) i (by omega) h2] at h;cases h
 ·exact flag_more hT hQ hp (t.length - (i+1)) i (by omega) h
theorem root_snoc (h1:q.op=2\/q.op=17\/q.op=19\/q.op=20):root (t++[q])=.one q.op q.w q.k q.b (root t):=by
 have hl:=term_len hT
 have ha:q.a=(t.length:Int) - 1:=by
  rw [parts_one h1] at hp
  simpa using hp
 unfold root
 have e:(t++[q]).length - 1=t.length:=by simp
 rw [e,tr_at (down_of hQ) (by simp),nth_app_last,mk_one h1,ha,show ((t.length:Int) - 1).toNat=t.length - 1 by omega,tr_app t [q] (by omega)]
end
end Vl4
namespace Vl5
open Nd0 Pl1 Pl2 Tm0 Tm1 Tm2 Tm3 Tm4 Tm5 Tm6 Tm7 Tm8 Tm9 Tm10 Tm11 Tm12 Tm13 Tm14 Tr0 Vl1 Vl2 Vl3 Vl4
section
variable {t:List Nd} {q:Nd} (hT:termOk t=true) (hQ:termOk (t++[q])=true) (hp:parts q=[(t.length:Int) - 1])
include hT hQ hp
theorem quants_to:∀ k,k<=t.length->quantsTo (t++[q]) k=quantsTo t k:=by
 intro k
 induction k with
 | zero=>intro _;rfl
 | succ k ih =>
   intro hk
   show (quantsTo (t++[q]) k).bind _=(quantsTo t k).bind _
   rw [ih (by omega)]
   congr 1
   funext ws
   unfold qStep
   rw [flag_snoc hT hQ hp (by omega),nth_app_left (by omega)]
theorem uses_to:∀ k,k<=t.length->∀ i,i < t.length->wd (usesF (t++[q]) k) (i:Int)=wd (usesF t k) (i:Int):=by
 intro k
 induction k with
 | zero=>intro _ i _;show wd (List.replicate _ 0) _=wd (List.replicate _ 0) _;rw [wd_zeros,wd_zeros]
 | succ k ih =>
   intro hk i hi
   simp only [usesF]
   rw [flag_snoc hT hQ hp (by omega),nth_app_left (by omega)]
   have hd:=down_of hT k (by omega)
   cases flag (reachL t) k
   ·exact ih (by omega) i hi
   ·simp only [if_true]
    rw [addUses_wd _ _ _ (fun p h=>by rw [usesF_length];have:=hd p h;simp;omega),addUses_wd _ _ _ (fun p h=>by rw [usesF_length];have:=hd p h;omega),ih (by omega) i hi]
end
theorem times_zero {ps:List Int} {q:Nat} (h:∀ p∈ps,p.toNat≠q):times ps q=0:=by
 unfold times
 rw [List.length_eq_zero_iff,List.filter_eq_nil_iff]
 intro p hp
 simpa using h p hp
theorem uses_above {l:List Nd} (hD:Down l):∀ k,k<=l.length->∀ i,k<=i+1->wd (usesF l k) (i:Int)=0:=by
 intro k
 induction k with
 | zero=>intro _ i _;exact wd_zeros _ _
 | succ k ih =>
   intro hk i hi
   simp only [usesF]
   have hd:=hD k (by omega)
   cases flag (reachL l) k
   ·exact ih (by omega) i (by omega)
   ·simp only [if_true]
    rw [addUses_wd _ _ _ (fun p h=>by rw [usesF_length];have:=hd p h;omega),ih (by omega) i (by omega),times_zero (fun p h=>by have:=hd p h;omega)]
    rfl
theorem hold_to (t:List Nd) (q:Nd):∀ k,k<=t.length->holdTo (t++[q]) k=holdTo t k:=by
 intro k
 induction k with
 | zero=>intro _;rfl
 | succ k ih =>
   intro hk
   show holdTo (t++[q]) k++[_]=holdTo t k++[_]
   rw [ih (by omega),nth_app_left (by omega)]
theorem hold_snoc (t:List Nd) (q:Nd) {i:Nat} (hi:i < t.length):flag (holdTo (t++[q]) (t++[q]).length) i=flag (holdTo t t.length) i:=by
 have e:(t++[q]).length=t.length+1:=by simp
 rw [e]
 show flag (holdTo (t++[q]) t.length++[_]) i=_
 rw [hold_to t q _ (Nat.le_refl _)]
 unfold flag
 rw [List.getD_eq_getElem?_getD,List.getElem?_append_left (by rw [holdTo_length];exact hi),<- List.getD_eq_getElem?_getD]
def holdsL (l:List Nd):Option Int:=if sentB l then valueL l (List.replicate 8 0) else none
end Vl5
namespace Qa0
open Go.RowKit
open Nd0
structure Qu where
 all:Bool
 vr:Int
 bits:Int
def Qu.zero:Qu:=⟨false,0,0⟩
def Qu.cells (x:Qu):List Value:=[.bool x.all,.int .i64 x.vr,.int .i64 x.bits]
structure QuAt (w:World) (b p:Nat) (n:Qu):Prop where
 c0:w.cell? ⟨b,p,none⟩=some (.bool n.all)
 c1:w.cell? ⟨b,p+1,none⟩=some (.int .i64 n.vr)
 c2:w.cell? ⟨b,p+2,none⟩=some (.int .i64 n.bits)
def Qus (w:World) (a:Option Addr) (l:List Qu):Prop :=
 l.length<=maxLen/\(l.length=0\/∃ b o,a=some ⟨b,o,none⟩/\∀ i (h:i < l.length),QuAt w b (o+i*3) l[i])
theorem QuAt.lt {w:World} {b p:Nat} {n:Qu} (h:QuAt w b p n):b < w.heap.size:=lt_of_cell (p:=⟨b,p,none⟩) h.c0
theorem QuAt.below {w w':World} {b p:Nat} {n:Qu} (h:QuAt w b p n) {B:Nat} (k:Below B w w') (hb:b < B):QuAt w' b p n :=
 ⟨by rw [k.cell hb];exact h.c0,by rw [k.cell hb];exact h.c1,by rw [k.cell hb];exact h.c2⟩
theorem Qus.below {w w':World} {a:Option Addr} {l:List Qu} (h:Qus w a l) (k:Below w.heap.size w w'):Qus w' a l:=by
 refine ⟨h.1,?_⟩
 rcases h.2 with h0|⟨b,o,rfl,hc⟩
 ·exact .inl h0
 ·exact .inr ⟨b,o,rfl,fun i hi=>(hc i hi).below k (hc i hi).lt⟩
def WQus (w:World) (B:Nat) (a:Option Addr) (l:List Qu):Prop :=
 l.length<=maxLen/\(l.length=0\/∃ b o,a=some ⟨b,o,none⟩/\B<=b/\(∀ i (h:i < l.length),QuAt w b (o+i*3) l[i])/\∀ j,j < l.length*3->w.frozen? ⟨b,o+j,none⟩=false)
theorem WQus.plain {w:World} {B:Nat} {a:Option Addr} {l:List Qu} (h:WQus w B a l):Qus w a l:=by
 refine ⟨h.1,?_⟩
 rcases h.2 with h0|⟨b,o,ha,_,hc,_⟩
 ·exact .inl h0
 ·exact .inr ⟨b,o,ha,hc⟩
def QusIn (w:World) (B U:Nat) (a:Option Addr) (l:List Qu):Prop :=
 l.length<=maxLen/\(l.length=0\/∃ b o,a=some ⟨b,o,none⟩/\B<=b/\b < U/\(∀ i (h:i < l.length),QuAt w b (o+i*3) l[i])/\∀ j,j < l.length*3->w.frozen? ⟨b,o+j,none⟩=false)
theorem WQus.within {w:World} {B:Nat} {a:Option Addr} {l:List Qu} (h:WQus w B a l):QusIn w B w.heap.size a l:=by
 refine ⟨h.1,?_⟩
 by_cases e:l.length=0
 ·exact .inl e
 ·rcases h.2 with h0|⟨b,o,ha,hB,hc,hf⟩
  ·exact .inl h0
  ·exact .inr ⟨b,o,ha,hB,(hc 0 (by omega)).lt,hc,hf⟩
theorem QusIn.wr {w:World} {B U:Nat} {a:Option Addr} {l:List Qu} (h:QusIn w B U a l):WQus w B a l:=by
 refine ⟨h.1,?_⟩
 rcases h.2 with h0|⟨b,o,ha,hB,_,hc,hf⟩
 ·exact .inl h0
 ·exact .inr ⟨b,o,ha,hB,hc,hf⟩
theorem QusIn.kept {w w':World} {B U:Nat} {a:Option Addr} {l:List Qu} (h:QusIn w B U a l) {S:Nat->Prop} (k:Kept S w w') (hs:∀ b,B<=b->b < U->¬ S b):QusIn w' B U a l:=by
 refine ⟨h.1,?_⟩
 by_cases e:l.length=0
 ·exact .inl e
 rcases h.2 with h0|⟨b,o,rfl,hB,hU,hc,hf⟩
 ·exact .inl h0
 ·have hb:b < w.heap.size:=(hc 0 (by omega)).lt
  have hn:¬ S b:=hs b hB hU
  refine .inr ⟨b,o,rfl,hB,hU,fun i hi=>?_,fun j hj=>by rw [k.frozen (p:=⟨b,o+j,none⟩) hb hn];exact hf j hj⟩
  obtain ⟨c0,c1,c2⟩:=hc i hi
  exact ⟨by rw [k.cell hb hn];exact c0,by rw [k.cell hb hn];exact c1,by rw [k.cell hb hn];exact c2⟩
theorem QusIn.below {w w':World} {B U:Nat} {a:Option Addr} {l:List Qu} (h:QusIn w B U a l) (k:Below w.heap.size w w'):QusIn w' B U a l :=
 h.kept (S:=fun _=>False) (Kept.ofBelow k) (fun _ _ _ h=>h)
theorem QusIn.plain {w:World} {B U:Nat} {a:Option Addr} {l:List Qu} (h:QusIn w B U a l):Qus w a l:=h.wr.plain
end Qa0
end Go.Proofs.YtebejleeadofcaaGreat
