import Derived.Test.YthanhcobfehmnaaGreatPkQU216
import Derived.Test.YthanhcobfehmnaaGreatPkQU213
namespace Go.Proofs.YthanhcobfehmnaaGreat
set_option maxRecDepth 100000
set_option maxHeartbeats 8000000
set_option linter.unusedVariables false
namespace Vl2
open Nd0 Pl1 Pl2 Tm0 Tm1 Tm3 Tm5 Tm8 Tm11 Tm13 Tm14 Tr0 Vl1
theorem in_iff {x a b:Int}:inR x a b=true↔a<=x/\x<=b:=by unfold inR;simp
theorem app_in {op W k w a b c:Int} (h1:1<=W/\W<=8) (h2:1<=w/\w<=8) (ha:0<=a/\a<=255) (hb:0<=b/\b<=255) (hc:0<=c/\c<=255):applyL op W k w a b c=opL op W k w a b c:=by
 unfold applyL
 rw [in_iff.2 h1,in_iff.2 h2,in_iff.2 ha,in_iff.2 hb,in_iff.2 hc]
 rfl
theorem wok_div {m a b:Int} (ha:wok m a=true) (hb:wok m b=true):wok m (vDiv m a b)=true:=by
 unfold vDiv
 rw [ha,hb]
 obtain ⟨h1,h2,h3,h4⟩:=wok_iff.1 ha
 have h5:=wok_iff.1 hb
 simp only [Bool.and_self,if_true]
 have hp:=p2_pos m.toNat
 split
 ·exact wok_iff.2 ⟨h1,h2,by omega,by omega⟩
 ·have:=Int.ediv_nonneg h3 h5.2.2.1
  have:=Int.ediv_le_self b h3
  exact wok_iff.2 ⟨h1,h2,by omega,by omega⟩
theorem wok_rem {m a b:Int} (ha:wok m a=true) (hb:wok m b=true):wok m (vRem m a b)=true:=by
 unfold vRem
 rw [ha,hb]
 obtain ⟨h1,h2,h3,h4⟩:=wok_iff.1 ha
 have h5:=wok_iff.1 hb
 simp only [Bool.and_self,if_true]
 split
 ·exact ha
 ·rename_i hz
  have:=Int.emod_nonneg a hz
  have:=Int.emod_lt_of_pos a (show 0 < b by omega)
  exact wok_iff.2 ⟨h1,h2,by omega,by omega⟩
theorem wok_shl {m a b:Int} (ha:wok m a=true) (hb:wok m b=true):wok m (vShl m a b)=true:=by
 unfold vShl
 rw [ha,hb]
 obtain ⟨h1,h2,h3,h4⟩:=wok_iff.1 ha
 simp only [Bool.and_self,if_true]
 split
 ·exact wok_zero h1 h2
 ·exact wok_mod _ h1 h2
theorem wok_shr {m a b:Int} (ha:wok m a=true) (hb:wok m b=true):wok m (vShr m a b)=true:=by
 unfold vShr
 rw [ha,hb]
 obtain ⟨h1,h2,h3,h4⟩:=wok_iff.1 ha
 simp only [Bool.and_self,if_true]
 split
 ·exact wok_zero h1 h2
 ·have hp:=p2_pos b.toNat
  have:=Int.ediv_nonneg h3 (show 0<=p2 b.toNat by omega)
  have:=Int.ediv_le_self (p2 b.toNat) h3
  exact wok_iff.2 ⟨h1,h2,by omega,by omega⟩
theorem wok_slice {w a k n:Int} (h1:1<=n) (h2:n<=8):wok n (vSlice w a k n)=true:=by
 unfold vSlice
 split
 ·exact wok_mod _ h1 h2
 ·exact wok_zero h1 h2
theorem wok_bit (p:Prop) [Decidable p]:wok 1 (if p then 1 else 0)=true:=by
 split<;>rfl
theorem p2_nat (w:Int):p2 w.toNat=((2 ^ w.toNat:Nat):Int):=by unfold p2;simp
theorem wok_nat {w a:Int} (h:wok w a=true):a.toNat < 2 ^ w.toNat:=by
 obtain ⟨h1,h2,h3,h4⟩:=wok_iff.1 h
 rw [p2_nat] at h4
 omega
theorem wok_of_nat {w:Int} {n:Nat} (h1:1<=w) (h2:w<=8) (h:n < 2 ^ w.toNat):wok w (n:Int)=true:=wok_iff.2 ⟨h1,h2,by omega,by rw [p2_nat];omega⟩
theorem wok_and {w a b:Int} (ha:wok w a=true) (hb:wok w b=true):wok w (nAnd a b)=true:=by
 obtain ⟨h1,h2,_,_⟩:=wok_iff.1 ha
 exact wok_of_nat h1 h2 (Nat.and_lt_two_pow _ (wok_nat hb))
theorem wok_or {w a b:Int} (ha:wok w a=true) (hb:wok w b=true):wok w (nOr a b)=true:=by
 obtain ⟨h1,h2,_,_⟩:=wok_iff.1 ha
 exact wok_of_nat h1 h2 (Nat.or_lt_two_pow (wok_nat ha) (wok_nat hb))
theorem wok_xor {w a b:Int} (ha:wok w a=true) (hb:wok w b=true):wok w (nXor a b)=true:=by
 obtain ⟨h1,h2,_,_⟩:=wok_iff.1 ha
 exact wok_of_nat h1 h2 (Nat.xor_lt_two_pow (wok_nat ha) (wok_nat hb))
theorem wok_join {W x y a b:Int} (h8:W<=8) (hw:x+y=W) (ha:wok x a=true) (hb:wok y b=true):wok W (a*p2 (W - x).toNat+b)=true:=by
 obtain ⟨a1,a2,a3,a4⟩:=wok_iff.1 ha
 obtain ⟨b1,b2,b3,b4⟩:=wok_iff.1 hb
 have e:W - x=y:=by omega
 rw [e]
 have hp:p2 W.toNat=p2 x.toNat*p2 y.toNat:=by
  unfold p2
  rw [<- Int.pow_add]
  congr 1;omega
 have hy:=p2_pos y.toNat
 refine wok_iff.2 ⟨by omega,h8,?_,?_⟩
 ·have:=Int.mul_nonneg a3 (show 0<=p2 y.toNat by omega)
  omega
 ·rw [hp]
  have h1:(a+1)*p2 y.toNat<=p2 x.toNat*p2 y.toNat:=Int.mul_le_mul_of_nonneg_right (by omega) (by omega)
  rw [Int.add_mul] at h1
  omega
def Fits (r:List Nat) (e:List Int):Prop:=∀ v,v < 8->∀ j,1<=j->j<=8->(r.getD v 0).testBit j=true->wok (j:Int) (e.getD v 0)=true
theorem fit_iff {r:List Nat} {e:List Int}:fitR r e=true↔Fits r e:=by
 unfold fitR Fits
 simp only [List.all_eq_true,List.mem_range,Bool.or_eq_true,Bool.not_eq_true']
 constructor
 ·intro h v hv j h1 h8 hb
  rcases h v hv (j - 1) (by omega) with e1|e1
  ·rw [show j - 1+1=j by omega,hb] at e1;cases e1
  ·have e2:((j - 1:Nat):Int)+1=(j:Int):=by omega
   rw [e2] at e1
   exact e1
 ·intro h v hv j hj
  cases hb:(r.getD v 0).testBit (j+1)
  ·exact .inl rfl
  ·have:=h v hv (j+1) (by omega) (by omega) hb
   refine .inr ?_
   have e2:((j+1:Nat):Int)=(j:Int)+1:=by omega
   rw [e2] at this
   exact this
theorem or_at (r s:List Nat) {v:Nat} (hv:v < 8):(orL r s).getD v 0=(r.getD v 0 ||| s.getD v 0):=by
 unfold orL
 rw [List.getD_eq_getElem?_getD,List.getElem?_map,List.getElem?_range hv]
 rfl
theorem Fits.left {r s:List Nat} {e:List Int} (h:Fits (orL r s) e):Fits r e:=fun v hv j h1 h8 hb=>h v hv j h1 h8 (by rw [or_at r s hv,Nat.testBit_or,hb];rfl)
theorem Fits.right {r s:List Nat} {e:List Int} (h:Fits (orL r s) e):Fits s e:=fun v hv j h1 h8 hb=>h v hv j h1 h8 (by rw [or_at r s hv,Nat.testBit_or,hb,Bool.or_true])
theorem need_len:∀ (x:Tr) (r:List Nat),needT x=some r->r.length=8:=by
 intro x
 induction x with
 | leaf op w k=>intro r h;simp only [needT] at h;cases h;simp
 | one op w k b x ih =>
   intro r h
   simp only [needT] at h
   obtain ⟨s,h1,h⟩:=Option.bind_eq_some_iff.1 h
   split at h
   ·split at h
    ·cases h
    ·cases h;rw [List.length_set];exact ih s h1
   ·cases h;exact ih _ h1
 | two op w x y ih1 ih2 =>
   intro r h
   simp only [needT] at h
   obtain ⟨s,h1,h⟩:=Option.bind_eq_some_iff.1 h
   obtain ⟨u,h2,h⟩:=Option.bind_eq_some_iff.1 h
   cases h
   simp [orL]
 | three op w x y z ih1 ih2 ih3 =>
   intro r h
   simp only [needT] at h
   obtain ⟨s,h1,h⟩:=Option.bind_eq_some_iff.1 h
   obtain ⟨u,h2,h⟩:=Option.bind_eq_some_iff.1 h
   obtain ⟨u',h3,h⟩:=Option.bind_eq_some_iff.1 h
   cases h
   simp [orL]
theorem Fits.below {s:List Nat} {e:List Int} {k b:Int} {i:Nat} (hs:s.length=8) (he:e.length=8) (hk:0<=k/\k<=7) (hb:1<=b/\b<=8) (hi:i < 2 ^ b.toNat) (hq:¬ (s.getD k.toNat 0≠0/\s.getD k.toNat 0≠2 ^ b.toNat)) (h:Fits (s.set k.toNat 0) e):Fits s (e.set k.toNat (i:Int)):=by
 intro v hv j h1 h8 hbt
 by_cases hvk:v=k.toNat
 ·subst hvk
  have hget:(e.set k.toNat (i:Int)).getD k.toNat 0=(i:Int):=by
   rw [List.getD_eq_getElem?_getD,List.getElem?_set_self (by omega)];rfl
  rw [hget]
  have hs2:s.getD k.toNat 0=2 ^ b.toNat:=by
   apply Classical.byContradiction
   intro hn
   refine hq ⟨fun e0=>?_,hn⟩
   rw [e0] at hbt
   simp at hbt
  rw [hs2,Nat.testBit_two_pow] at hbt
  have hj:b.toNat=j:=of_decide_eq_true hbt
  exact wok_of_nat (by omega) (by omega) (by rw [show ((j:Nat):Int).toNat=b.toNat by omega];exact hi)
 ·have hget:(e.set k.toNat (i:Int)).getD v 0=e.getD v 0:=by
   rw [List.getD_eq_getElem?_getD,List.getD_eq_getElem?_getD,List.getElem?_set_ne (fun e=>hvk e.symm)]
  rw [hget]
  refine h v hv j h1 h8 ?_
  rw [List.getD_eq_getElem?_getD,List.getElem?_set_ne (fun e=>hvk e.symm),<- List.getD_eq_getElem?_getD]
  exact hbt
theorem value_word:∀ (x:Tr) (r:List Nat) (e:List Int),Rt x->needT x=some r->e.length=8->Fits r e->wok x.wid (vT x e)=true:=by
 intro x
 induction x with
 | leaf op w k =>
   intro r e hr hn he hf
   obtain ⟨h1,h8,h⟩:=hr
   simp only [needT] at hn
   cases hn
   simp only [vT]
   show wok w _=true
   rcases h with ⟨rfl,hk⟩|⟨rfl,hk0,hk7⟩
   ·rw [if_neg (by decide),app_in ⟨h1,h8⟩ (by decide) (by decide) (by decide) (by decide)]
    exact hk
   ·rw [if_pos rfl]
    have:=hf k.toNat (by omega) w.toNat (by omega) (by omega) (by
     rw [List.getD_eq_getElem?_getD,List.getElem?_map,List.getElem?_range (by omega)]
     simp only [Option.map_some,Option.getD_some]
     rw [if_pos ⟨trivial,by omega⟩,Nat.testBit_two_pow]
     simp)
    rw [show ((w.toNat:Nat):Int)=w by omega] at this
    exact this
 | one op w k b x ih =>
   intro r e hr hn he hf
   obtain ⟨h1,h8,hx,h⟩:=hr
   have hxw:=hx.wid
   simp only [needT] at hn
   obtain ⟨s,h2,hn⟩:=Option.bind_eq_some_iff.1 hn
   simp only [vT]
   show wok w _=true
   rcases h with ⟨rfl,hw⟩|⟨rfl,hk⟩|⟨ho,hx1,rfl,hk0,hk7,hb1,hb8⟩
   ·rw [if_neg (by decide),if_neg (by decide)]
    rw [show quant 2=false from rfl] at hn
    simp only [Bool.false_eq_true,if_false] at hn
    have hsr:s=r:=Option.some.inj hn
    subst hsr
    have hv:=ih s e hx h2 he hf
    rw [app_in ⟨h1,h8⟩ hxw (wok_lt hv) (by decide) (by decide)]
    rw [hw] at hv
    exact wok_flip hv
   ·rw [if_neg (by decide),if_neg (by decide)]
    rw [show quant 17=false from rfl] at hn
    simp only [Bool.false_eq_true,if_false] at hn
    have hsr:s=r:=Option.some.inj hn
    subst hsr
    have hv:=ih s e hx h2 he hf
    rw [app_in ⟨h1,h8⟩ hxw (wok_lt hv) (by decide) (by decide)]
    exact wok_slice h1 h8
   ·rcases ho with rfl|rfl
    ·rw [if_pos rfl];exact wok_bit _
    ·rw [if_neg (by decide),if_pos rfl];exact wok_bit _
 | two op w x y ih1 ih2 =>
   intro r e hr hn he hf
   obtain ⟨h1,h8,hx,hy,h⟩:=hr
   have hxw:=hx.wid
   simp only [needT] at hn
   obtain ⟨s,h2,hn⟩:=Option.bind_eq_some_iff.1 hn
   obtain ⟨u,h3,hn⟩:=Option.bind_eq_some_iff.1 hn
   cases hn
   have hv:=ih1 s e hx h2 he hf.left
   have hu:=ih2 u e hy h3 he hf.right
   simp only [vT]
   show wok w _=true
   rw [app_in ⟨h1,h8⟩ hxw (wok_lt hv) (wok_lt hu) (by decide)]
   rcases h with ⟨ho1,ho2,hwx,hwy⟩|⟨ho1,ho2,hxy,rfl⟩|⟨rfl,hw⟩
   ·rw [hwx] at hv ⊢
    rw [hwy] at hu
    have hc:op=3\/op=4\/op=5\/op=6\/op=7\/op=8\/op=9\/op=10\/op=11\/op=12:=by omega
    rcases hc with rfl|rfl|rfl|rfl|rfl|rfl|rfl|rfl|rfl|rfl
    ·exact wok_and hv hu
    ·exact wok_or hv hu
    ·exact wok_xor hv hu
    ·exact wok_add hv hu
    ·exact wok_sub hv hu
    ·exact wok_mul hv hu
    ·exact wok_div hv hu
    ·exact wok_rem hv hu
    ·exact wok_shl hv hu
    ·exact wok_shr hv hu
   ·have hc:op=13\/op=14\/op=15:=by omega
    rcases hc with rfl|rfl|rfl
    ·exact wok_bit _
    ·exact wok_bit _
    ·exact wok_bit _
   ·have hyw:=hy.wid
    show wok w (if w < x.wid then vT y e else vT x e*p2 (w - x.wid).toNat+vT y e)=true
    rw [if_neg (by omega)]
    exact wok_join h8 hw hv hu
 | three op w x y z ih1 ih2 ih3 =>
   intro r e hr hn he hf
   obtain ⟨h1,h8,hx,hy,hz,rfl,hx1,hyw,hzw⟩:=hr
   simp only [needT] at hn
   obtain ⟨s,h2,hn⟩:=Option.bind_eq_some_iff.1 hn
   obtain ⟨u,h3,hn⟩:=Option.bind_eq_some_iff.1 hn
   obtain ⟨u',h4,hn⟩:=Option.bind_eq_some_iff.1 hn
   cases hn
   have hv:=ih1 s e hx h2 he hf.left.left
   have hu:=ih2 u e hy h3 he hf.left.right
   have ht:=ih3 u' e hz h4 he hf.right
   simp only [vT]
   show wok w _=true
   rw [app_in ⟨h1,h8⟩ hx.wid (wok_lt hv) (wok_lt hu) (wok_lt ht)]
   show wok w (if vT x e=1 then vT y e else vT z e)=true
   rw [hyw] at hu
   rw [hzw] at ht
   split
   ·exact hu
   ·exact ht
theorem value_wok {l:List Nd} {e:List Int} {x:Int} (h:valueL l e=some x):wok (nth l (l.length - 1)).w x=true:=by
 unfold valueL at h
 split at h
 ·rename_i hc
  simp only [Bool.and_eq_true,decide_eq_true_eq] at hc
  obtain ⟨⟨⟨hT,he⟩,hb⟩,hf⟩:=hc
  cases h
  have hl:=term_len hT
  have hr:=rt_all (down_of hT) (fun k hk=>term_node hT hk) (l.length - 1) (by omega)
  unfold fitT at hf
  cases hn:needT (root l) with
  | none=>rw [hn] at hf;cases hf
  | some r =>
    rw [hn] at hf
    have:=value_word (root l) r e hr.1 hn he (fit_iff.1 hf)
    unfold root at this ⊢
    rw [hr.2] at this
    exact this
 ·cases h
end Vl2
namespace Tx4
open Nd0 Pl1 Tm0 Tm1 Tm3 Tm8 Tx0 Tx1 Tx2 Tx3 Tr0
theorem with_maps {ts us:List (List UInt8)}:∀ (ps qs:List Int) (h:List UInt8),ps.map (txt ts)=qs.map (txt us)->withParts ts h ps=withParts us h qs:=by
 intro ps
 induction ps with
 | nil=>intro qs h e
        cases qs with
        | nil=>rfl
        | cons q qs=>cases e
 | cons p ps ih =>
   intro qs h e
   cases qs with
   | nil=>cases e
   | cons q qs =>
     simp only [List.map_cons,List.cons.injEq] at e
     simp only [withParts]
     rw [e.1,ih qs _ e.2]
theorem parts_reparts {n:Nd} {is:List Nat} (hl:is.length=(parts n).length):parts (reparts n is)=is.map fun (i:Nat)=>(i:Int):=by
 obtain ⟨op,w,k,a,b,c⟩:=n
 by_cases h1:op=2\/op=17\/op=19\/op=20
 ·rw [parts_one h1] at hl
  match is,hl with
  | [i],_=>exact parts_one (n:=⟨op,w,k,(i:Int),b,c⟩) h1
 ·by_cases h2:3<=op/\op<=16
  ·rw [parts_two h2] at hl
   match is,hl with
   | [i,j],_=>exact parts_two (n:=⟨op,w,k,(i:Int),(j:Int),c⟩) h2
  ·by_cases h3:op=18
   ·rw [parts_three h3] at hl
    match is,hl with
    | [i,j,m],_=>exact parts_three (n:=⟨op,w,k,(i:Int),(j:Int),(m:Int)⟩) h3
   ·rw [parts_none h1 h2 h3] at hl
    have his:is=[]:=List.eq_nil_of_length_eq_zero hl
    subst his
    exact parts_none (n:=⟨op,w,k,a,b,c⟩) h1 h2 h3
theorem head_reparts {n:Nd} {is:List Nat} (hl:is.length=(parts n).length):headL (reparts n is)=headL n:=by
 obtain ⟨op,w,k,a,b,c⟩:=n
 by_cases hq:op=19\/op=20
 ·rw [parts_one (by simp only;omega)] at hl
  match is,hl with
  | [i],_=>rcases hq with h|h<;>subst h<;>rfl
 ·have h1:¬ op=19:=by omega
  have h2:¬ op=20:=by omega
  unfold headL reparts
  simp only [if_neg h1,if_neg h2]
theorem shape_reparts {n:Nd} {is:List Nat} (ws:List Int) (hl:is.length=(parts n).length):shapeOk (reparts n is) ws=shapeOk n ws:=by
 obtain ⟨op,w,k,a,b,c⟩:=n
 by_cases h1:op=2\/op=17\/op=19\/op=20
 ·rw [parts_one h1] at hl
  match is,hl with
  | [i],_ =>
    show shapeOk ⟨op,w,k,(i:Int),b,c⟩ ws=_
    unfold shapeOk
    dsimp only
    rcases h1 with h|h|h|h<;>subst h<;>rfl
 ·by_cases h2:3<=op/\op<=16
  ·rw [parts_two h2] at hl
   match is,hl with
   | [i,j],_ =>
     show shapeOk ⟨op,w,k,(i:Int),(j:Int),c⟩ ws=_
     unfold shapeOk
     dsimp only
     have n0:¬ op=0:=by omega
     have n1:¬ op=1:=by omega
     have n2:¬ op=2:=by omega
     have n3:¬ op=17:=by omega
     have n4:¬ op=18:=by omega
     have n5:¬ (op=19\/op=20):=by omega
     simp only [if_neg n0,if_neg n1,if_neg n2,if_neg n3,if_neg n4,if_neg n5]
  ·by_cases h3:op=18
   ·rw [parts_three h3] at hl
    match is,hl with
    | [i,j,m],_=>subst h3;rfl
   ·rw [parts_none h1 h2 h3] at hl
    have his:is=[]:=List.eq_nil_of_length_eq_zero hl
    subst his
    rfl
theorem X_same {l T:List Nd} (hD:Down l) (hT:Down T) {i j:Nat} (hi:i < l.length) (hj:j < T.length) {is:List Nat} (hl:is.length=(parts (nth l i)).length)
 (hn:nth T j=reparts (nth l i) is) (hx:is.map (fun (k:Nat)=>X T k)=(parts (nth l i)).map (fun p=>X l p.toNat)):X T j=X l i:=by
 rw [X_at hD hi,X_at hT hj,hn]
 have hd:=hD i hi
 generalize nth l i=n at hl hx hd
 unfold showN
 have e1:(reparts n is).op=n.op:=rfl
 have e2:(reparts n is).w=n.w:=rfl
 have e3:(reparts n is).k=n.k:=rfl
 rw [e1,e2,e3,head_reparts hl,parts_reparts hl]
 have e4:withParts (showTo T T.length) (headL n) (is.map fun (i:Nat)=>(i:Int))=withParts (showTo l l.length) (headL n) (parts n):=by
  apply with_maps
  rw [List.map_map]
  refine Eq.trans (b:=is.map fun (k:Nat)=>X T k) rfl (hx.trans ?_)
  apply List.map_congr_left
  intro p hp
  have:=hd p hp
  unfold X
  congr 1;omega
 rw [e4]
theorem node_app {t m:List Nd} {k:Nat} (hk:k < t.length):nodeOk (t++m) k=true↔nodeOk t k=true:=by
 have key:(∀ p∈parts (nth t k),0<=p/\p < (k:Int))->(parts (nth t k)).map (width (t++m))=(parts (nth t k)).map (width t):=by
  intro h
  apply List.map_congr_left
  intro p hp
  have:=h p hp
  unfold width
  rw [nth_app (by omega)]
 simp only [nodeOk,Bool.and_eq_true,List.all_eq_true,decide_eq_true_eq]
 rw [nth_app hk]
 constructor
 ·rintro ⟨⟨h1,h2⟩,h3⟩
  rw [key h1] at h3;exact ⟨⟨h1,h2⟩,h3⟩
 ·rintro ⟨⟨h1,h2⟩,h3⟩
  rw [<- key h1] at h3;exact ⟨⟨h1,h2⟩,h3⟩
theorem neat_nil:Neat []:=⟨fun k h=>by simp at h,fun j k h=>by simp at h⟩
theorem neat_snoc {t:List Nd} {n:Nd} (hG:Neat t) (hn:nodeOk (t++[n]) t.length=true) (hp:placeOf t n=none):Neat (t++[n]):=by
 refine ⟨fun k hk=>?_,fun j k hj hk e=>?_⟩
 ·by_cases h:k < t.length
  ·exact (node_app h).2 (hG.ok k h)
  ·have:k=t.length:=by simp at hk;omega
   subst this;exact hn
 ·simp at hj hk
  by_cases h1:j < t.length
  ·by_cases h2:k < t.length
   ·rw [nth_app h1,nth_app h2] at e;exact hG.one j k h1 h2 e
   ·have:k=t.length:=by omega
    subst this
    rw [nth_app h1,nth_end] at e
    exact absurd e (place_none hp h1)
  ·have hj':j=t.length:=by omega
   by_cases h2:k < t.length
   ·subst hj'
    rw [nth_app h2,nth_end] at e
    exact absurd e.symm (place_none hp h2)
   ·omega
def Emb (l t:List Nd):Prop:=∀ j,j < t.length->X t j≠[]/\∃ i,i < l.length/\X t j=X l i/\tr t j=tr l i
theorem length_le_of_inj {α:Type} [DecidableEq α]:∀ (a b:List α),a.Nodup->(∀ x∈a,x∈b)->a.length<=b.length:=by
 intro a
 induction a with
 | nil=>intro b _ _;exact Nat.zero_le _
 | cons x a ih =>
   intro b hn hs
   have hx:x∈b:=hs x (by simp)
   have hn':=List.nodup_cons.1 hn
   have:=ih (b.erase x) hn'.2 (fun y hy=>by
    have hne:y≠x:=by intro e;subst e;exact hn'.1 hy
    exact (List.mem_erase_of_ne hne).2 (hs y (by simp [hy])))
   rw [List.length_erase_of_mem hx] at this
   have:0 < b.length:=List.length_pos_of_mem hx
   simp only [List.length_cons];omega
theorem emb_short {l t:List Nd} (hG:Neat t) (hE:Emb l t) {i:Nat} (hi:i < l.length) (hn:∀ j,j < t.length->X t j≠X l i):t.length+1<=l.length:=by
 have h:=length_le_of_inj (X l i :: (List.range t.length).map (X t)) ((List.range l.length).map (X l)) (by
  rw [List.nodup_cons]
  refine ⟨?_,?_⟩
  ·intro hm
   obtain ⟨j,hj,e⟩:=List.mem_map.1 hm
   exact hn j (List.mem_range.1 hj) e
  ·rw [List.nodup_iff_pairwise_ne,List.pairwise_map]
   refine List.Pairwise.imp_of_mem ?_ (List.nodup_range (n:=t.length))
   intro a b ha hb hab e
   exact hab (text_inj hG (List.mem_range.1 ha) (List.mem_range.1 hb) (hE a (List.mem_range.1 ha)).1 e)) (by
  intro x hx
  rcases List.mem_cons.1 hx with e|e
  ·subst e;exact List.mem_map.2 ⟨i,List.mem_range.2 hi,rfl⟩
  ·obtain ⟨j,hj,rfl⟩:=List.mem_map.1 e
   obtain ⟨i',hi',e',_⟩:=(hE j (List.mem_range.1 hj)).2
   exact List.mem_map.2 ⟨i',List.mem_range.2 hi',e'.symm⟩)
 simpa using h
def Reads (l:List Nd) (i:Nat):Prop:=∀ t,Neat t->Emb l t->t.length<=80->∃ t' j m,t'=t++m/\Neat t'/\Emb l t'/\t'.length<=80/\j < t'.length/\X t' j=X l i/\tr t' j=tr l i/\(nth t' j).w=(nth l i).w /\
 ∀ g p q,(X l i).length < g->(Bd q\/opens (X l i)=true)->rdL g ⟨p,X l i++q,t⟩=.ok (⟨p+(X l i).length,q,t'⟩,j)
theorem parts_reads {l:List Nd} (ps:List Int) (B:Nat) (h:∀ p∈ps,0<=p/\Reads l p.toNat/\txt (showTo l l.length) p=X l p.toNat/\(X l p.toNat).length < B) :
 ∀ t,Neat t->Emb l t->t.length<=80->∃ (t':List Nd) (is:List Nat) (m:List Nd),t'=t++m/\Neat t'/\Emb l t'/\t'.length<=80/\is.length=ps.length/\(∀ i∈is,i < t'.length) /\
  is.map (fun (k:Nat)=>X t' k)=ps.map (fun p=>X l p.toNat)/\is.map (tr t')=ps.map (fun p=>tr l p.toNat)/\is.map (fun (i:Nat)=>width t' (i:Int))=ps.map (width l) /\
  ∀ g p0 p q,B<=g->Bd q->partsL (rdL g) p0 ps.length ⟨p,tails (showTo l l.length) ps++q,t⟩=.ok (⟨p+(tails (showTo l l.length) ps).length,q,t'⟩,is):=by
 induction ps with
 | nil =>
   intro t hG hE h80
   exact ⟨t,[],[],by simp,hG,hE,h80,rfl,fun i hi=>(by cases hi),rfl,rfl,rfl,fun g p0 p q _ _=>rfl⟩
 | cons a ps ih =>
   intro t hG hE h80
   obtain ⟨ha0,har,hat,haB⟩:=h a (by simp)
   obtain ⟨t1,j,m1,e1,hG1,hE1,h1,hj,hX,hTr,hw,hr⟩:=har t hG hE h80
   obtain ⟨t2,is,m2,e2,hG2,hE2,h2,hl,hlt,hXs,hTs,hws,hrs⟩:=ih (fun p hp=>h p (by simp [hp])) t1 hG1 hE1 h1
   have hj2:j < t2.length:=by rw [e2];simp;omega
   refine ⟨t2,j :: is,m1++m2,by rw [e2,e1];simp,hG2,hE2,h2,by simp [hl],?_,?_,?_,?_,?_⟩
   ·intro i hi
    rcases List.mem_cons.1 hi with e|e
    ·subst e;exact hj2
    ·exact hlt i e
   ·simp only [List.map_cons]
    rw [hXs,e2,X_app t1 m2 hj,hX]
   ·simp only [List.map_cons]
    rw [hTs,e2,tr_app t1 m2 hj,hTr]
   ·simp only [List.map_cons]
    rw [hws]
    congr 1
    unfold width
    rw [Int.toNat_natCast,e2,nth_app hj,hw]
   ·intro g p0 p q hg hq
    have k1:=hr g (p+1) (tails (showTo l l.length) ps++q) (by omega) (.inl (bd_tails _ _ hq))
    have k2:=hrs g p0 (p+1+(X l a.toNat).length) q hg hq
    have e3:tails (showTo l l.length) (a :: ps)++q=32 :: (X l a.toNat++(tails (showTo l l.length) ps++q)):=by simp [tails,hat]
    rw [e3,List.length_cons]
    simp only [partsL]
    rw [blank_mk]
    simp only
    rw [k1]
    simp only
    rw [k2]
    simp only
    congr 3
    simp [tails,hat];omega
theorem reads_all {l:List Nd} (hN:∀ k,k < l.length->nodeOk l k=true) (hD:Down l) (hl80:l.length<=80):∀ i,i < l.length->X l i≠[]->Reads l i:=by
 intro i
 induction i using Nat.strongRecOn with
 | ind i ih =>
   intro hi hX t hG hE h80
   have hpp:∀ p∈parts (nth l i),0<=p/\Reads l p.toNat/\txt (showTo l l.length) p=X l p.toNat/\(X l p.toNat).length < (X l i).length:=by
    intro p hp
    have hd:=hD i hi p hp
    obtain ⟨c1,c2,c3,c4⟩:=part_text hD hi hX hp
    exact ⟨hd.1,ih p.toNat (by omega) (by omega) c2,c1,by omega⟩
   obtain ⟨t2,is,m2,e2,hG2,hE2,h2,hl,hlt,hXs,hTs,hws,hrs⟩:=parts_reads (parts (nth l i)) (X l i).length hpp t hG hE h80
   have hD2:=hG2.down
   have key:∀ g p q,(X l i).length<=g->(Bd q\/opens (X l i)=true)->rdL (g+1) ⟨p,X l i++q,t⟩=match putL t2 (reparts (nth l i) is) p with
    | .error e=>.error e
    | .ok (t3,j)=>.ok (⟨p+(X l i).length,q,t3⟩,j):=fun g p q hg hq =>
    node_read hN hD hi hX hl hws (fun p0 p q hq=>hrs g p0 p q hg hq) p q hq
   have key2:∀ g p q,(X l i).length<=g->(Bd q\/opens (X l i)=true)->rdL (g+1) ⟨p,X l i++q,t2⟩=match putL t2 (reparts (nth l i) is) p with
    | .error e=>.error e
    | .ok (t3,j)=>.ok (⟨p+(X l i).length,q,t3⟩,j):=by
    intro g p q hg hq
    refine node_read hN hD hi hX hl hws (fun p0=>?_) p q hq
    refine parts_seq (showTo l l.length) p0 (parts (nth l i)) is hl ?_
    intro x hx p q hq
    obtain ⟨k,hk,rfl⟩:=List.getElem_of_mem hx
    have hk1:k < (parts (nth l i)).length:=by rw [List.length_zip] at hk;omega
    have hk2:k < is.length:=by omega
    rw [List.getElem_zip]
    simp only
    have hm:=List.getElem_mem hk1
    obtain ⟨c0,c1,c2,c3⟩:=hpp _ hm
    obtain ⟨_,d2,_,_⟩:=part_text hD hi hX hm
    have hxe:X t2 is[k]=X l ((parts (nth l i))[k]).toNat:=by
     have:=congrArg (fun z=>z[k]?) hXs
     simp only [List.getElem?_map,List.getElem?_eq_getElem hk1,List.getElem?_eq_getElem hk2,Option.map_some] at this
     exact Option.some.inj this
    rw [c2,<- hxe]
    exact reread hG2 is[k] (hlt _ (List.getElem_mem hk2)) (by rw [hxe];exact d2) g p q (by rw [hxe];omega) (.inl hq)
   cases hpl:placeOf t2 (reparts (nth l i) is) with
   | some j =>
     obtain ⟨hj,hn⟩:=place_some hpl
     refine ⟨t2,j,m2,e2,hG2,hE2,h2,hj,X_same hD hD2 hi hj hl hn hXs,tr_same hD hD2 hi hj hl hn hTs,by rw [hn];rfl,?_⟩
     intro g p q hg hq
     cases g with
     | zero=>omega
     | succ g =>
       rw [key g p q (by omega) hq]
       unfold putL
       rw [hpl]
   | none =>
     have hno:∀ j,j < t2.length->X t2 j≠X l i:=by
      intro j hj e
      have r1:=reread hG2 j hj (by rw [e];exact hX) ((X l i).length+1) 0 [] (by rw [e];omega) (.inl bd_nil)
      rw [e,key2 (X l i).length 0 [] (Nat.le_refl _) (.inl bd_nil)] at r1
      unfold putL at r1
      rw [hpl] at r1
      simp only at r1
      split at r1
      ·cases r1
      ·rename_i t3 j3 he
       split at he
       ·split at he
        ·cases he
        ·cases he
         injection r1 with r1
         injection r1 with r1 r2
         injection r1 with _ _ r1
         have:=congrArg List.length r1
         simp at this
       ·cases he
     have hshort:=emb_short hG2 hE2 hi hno
     have hok:=hN i hi
     have hnode:nodeOk (t2++[reparts (nth l i) is]) t2.length=true:=by
      have hwd:=node_width hok
      have hsh:shapeOk (nth l i) ((parts (nth l i)).map (width l))=true:=by
       simp only [nodeOk,Bool.and_eq_true] at hok;exact hok.2
      have ew:(is.map fun (i:Nat)=>(i:Int)).map (width (t2++[reparts (nth l i) is]))=(parts (nth l i)).map (width l):=by
       rw [<- hws,List.map_map]
       apply List.map_congr_left
       intro k hk
       have:=hlt k hk
       simp only [Function.comp,width]
       rw [Int.toNat_natCast,nth_app this]
      simp only [nodeOk,Bool.and_eq_true,List.all_eq_true,decide_eq_true_eq]
      rw [nth_end,parts_reparts hl,ew,shape_reparts _ hl]
      refine ⟨⟨?_,hwd⟩,hsh⟩
      intro p hp
      obtain ⟨k,hk,rfl⟩:=List.mem_map.1 hp
      have:=hlt k hk
      omega
     have hG3:=neat_snoc hG2 hnode hpl
     have hjl:t2.length < (t2++[reparts (nth l i) is]).length:=by simp
     have hXn:X (t2++[reparts (nth l i) is]) t2.length=X l i:=by
      refine X_same hD hG3.down hi hjl hl (nth_end _ _) ?_
      rw [<- hXs]
      apply List.map_congr_left
      intro k hk
      exact X_app _ _ (hlt k hk)
     have hTn:tr (t2++[reparts (nth l i) is]) t2.length=tr l i:=by
      refine tr_same hD hG3.down hi hjl hl (nth_end _ _) ?_
      rw [<- hTs]
      apply List.map_congr_left
      intro k hk
      exact tr_app _ _ (hlt k hk)
     refine ⟨t2++[reparts (nth l i) is],t2.length,m2++[reparts (nth l i) is],by rw [e2];simp,hG3,?_,by simp;omega,hjl,hXn,hTn,by rw [nth_end];rfl,?_⟩
     ·intro j hj
      simp at hj
      by_cases h:j < t2.length
      ·rw [X_app _ _ h,tr_app _ _ h];exact hE2 j h
      ·have:j=t2.length:=by omega
       subst this
       rw [hXn,hTn]
       exact ⟨hX,i,hi,rfl,rfl⟩
     ·intro g p q hg hq
      cases g with
      | zero=>omega
      | succ g =>
        rw [key g p q (by omega) hq]
        unfold putL
        rw [hpl]
        simp only
        rw [if_pos hnode,if_neg (by omega)]
theorem term_all {l:List Nd} (hT:termOk l=true):∀ k,k < l.length->nodeOk l k=true:=fun _ hk=>term_node hT hk
theorem show_X {l:List Nd} (hT:termOk l=true):showL l=X l (l.length - 1):=by
 have:=term_len hT
 unfold showL X
 rw [if_pos hT]
 congr 1;omega
theorem show_read {l:List Nd} (hT:termOk l=true) (hS:showL l≠[]) :
 ∃ (t:List Nd) (j:Nat),Neat t/\t.length<=80/\j < t.length/\X t j=showL l/\Emb l t/\tr t j=tr l (l.length - 1)/\∀ g q,(showL l).length < g->(Bd q\/opens (showL l)=true)->rdL g ⟨0,showL l++q,[]⟩=.ok (⟨(showL l).length,q,t⟩,j):=by
 have hl:=term_len hT
 rw [show_X hT] at hS ⊢
 obtain ⟨t',j,m,e,hG,hE,h80,hj,hX,hTr,_,hr⟩:=reads_all (term_all hT) (down_of hT) hl.2 (l.length - 1) (by omega) hS [] neat_nil (fun j h=>by simp at h) (by simp)
 refine ⟨t',j,hG,h80,hj,hX,hE,hTr,fun g q hg hq=>?_⟩
 have:=hr g 0 q hg hq
 rw [Nat.zero_add] at this
 exact this
theorem show_len {l:List Nd} (hT:termOk l=true):(showL l).length<=4000:=by
 have hl:=term_len hT
 rw [show_X hT]
 exact X_len (term_all hT) (down_of hT) (by omega)
end Tx4
namespace Vl3
open Nd0 Pl1 Pl2 Tm0 Tm1 Tm3 Tm5 Tm8 Tm11 Tm13 Tm14 Tx0 Tx2 Tx3 Tx4 Tr0 Vl1 Vl2
theorem value_parts {l:List Nd} {e:List Int} {x:Int}:valueL l e=some x↔termOk l=true/\e.length=8/\bitsTo l l.length<=12/\fitT (root l) e=true/\vT (root l) e=x:=by
 unfold valueL
 split
 ·rename_i hc
  simp only [Bool.and_eq_true,decide_eq_true_eq] at hc
  constructor
  ·intro h;cases h;exact ⟨hc.1.1.1,hc.1.1.2,hc.1.2,hc.2,rfl⟩
  ·intro h;rw [h.2.2.2.2]
 ·rename_i hc
  simp only [Bool.and_eq_true,decide_eq_true_eq] at hc
  constructor
  ·intro h;cases h
  ·intro h;exact absurd ⟨⟨⟨h.1,h.2.1⟩,h.2.2.1⟩,h.2.2.2.1⟩ hc
end Vl3
namespace Vl4
open Nd0 Pl1 Pl2 Tm0 Tm1 Tm3 Tm5 Tm8 Tm11 Tm12 Tm13 Tm14 Tx2 Tr0 Vl1 Vl2 Vl3
section
variable {t:List Nd} {q:Nd} (hT:termOk t=true) (hQ:termOk (t++[q])=true) (hp:parts q=[(t.length:Int) - 1])
include hT hQ hp
theorem flag_more:∀ d i,t.length=i+1+d->flag (reachL t) i=true->flag (reachL (t++[q])) i=true:=by
 intro d
 induction d using Nat.strongRecOn with
 | ind d ih =>
   intro i hi hf
   have hl:=term_len hT
   have hDq:=down_of hQ
   rcases reach_why (down_of hT) (i:=i) (by omega) hf with e|⟨j,h1,h2,h3,h4⟩
   ·have hr:flag (reachL (t++[q])) t.length=true:=by
     have:=reach_root (l:=t++[q]) (by simp)
     simpa using this
    have:=reach_closed hDq (i:=t.length) (by simp) hr (p:=(t.length:Int) - 1) (by rw [nth_app_last,hp];simp)
    rw [show ((t.length:Int) - 1).toNat=i by omega] at this
    exact this
   ·have:=reach_closed hDq (i:=j) (by simp;omega) (ih (t.length - (j+1)) (by omega) j (by omega) h3) (p:=(i:Int)) (by rw [nth_app_left h2];exact h4)
    rw [Int.toNat_natCast] at this
    exact this
theorem flag_less:∀ d i,t.length=i+1+d->flag (reachL (t++[q])) i=true->flag (reachL t) i=true:=by
 intro d
 induction d using Nat.strongRecOn with
 | ind d ih =>
   intro i hi hf
   have hl:=term_len hT
   rcases reach_why (down_of hQ) (i:=i) (by simp;omega) hf with e|⟨j,h1,h2,h3,h4⟩
   ·simp at e;omega
   ·simp only [List.length_append,List.length_cons,List.length_nil] at h2
    by_cases hj:j < t.length
    ·rw [nth_app_left hj] at h4
     have:=reach_closed (down_of hT) (i:=j) hj (ih (t.length - (j+1)) (by omega) j (by omega) h3) (p:=(i:Int)) h4
     rw [Int.toNat_natCast] at this
     exact this
    ·have e:j=t.length:=by omega
     subst e
     rw [nth_app_last,hp] at h4
     have e2:(i:Int)=(t.length:Int) - 1:=by simpa using h4
     have e3:i=t.length - 1:=by omega
     rw [e3]
     exact reach_root (by omega)
theorem flag_snoc {i:Nat} (hi:i < t.length):flag (reachL (t++[q])) i=flag (reachL t) i:=by
 cases h:flag (reachL t) i
 ·cases h2:flag (reachL (t++[q])) i
  ·rfl
  ·rw [flag_less hT hQ hp (t.length - (i+1)) i (by omega) h2] at h;cases h
 ·exact flag_more hT hQ hp (t.length - (i+1)) i (by omega) h
theorem bits_to:∀ k,k<=t.length->bitsTo (t++[q]) k=bitsTo t k:=by
 intro k
 induction k with
 | zero=>intro _;rfl
 | succ k ih =>
   intro hk
   simp only [bitsTo]
   rw [ih (by omega),flag_snoc hT hQ hp (by omega),nth_app_left (by omega)]
theorem bits_snoc:bitsTo (t++[q]) (t++[q]).length=bitsTo t t.length+(if quant q.op then q.b else 0):=by
 have hr:flag (reachL (t++[q])) t.length=true:=by
  have:=reach_root (l:=t++[q]) (by simp)
  simpa using this
 rw [List.length_append]
 show bitsTo (t++[q]) (t.length+1)=_
 simp only [bitsTo]
 rw [hr,nth_app_last,bits_to hT hQ hp t.length (Nat.le_refl _)]
 simp only [Bool.true_and]
 split<;>omega
theorem root_snoc (h1:q.op=2\/q.op=17\/q.op=19\/q.op=20):root (t++[q])=.one q.op q.w q.k q.b (root t):=by
 have hl:=term_len hT
 have ha:q.a=(t.length:Int) - 1:=by
  rw [parts_one h1] at hp
  simpa using hp
 unfold root
 have e:(t++[q]).length - 1=t.length:=by simp
 rw [e,tr_at (down_of hQ) (by simp),nth_app_last,mk_one h1,ha,show ((t.length:Int) - 1).toNat=t.length - 1 by omega,tr_app t [q] (by omega)]
end
theorem fit_one {op w k b:Int} {x:Tr} {e:List Int} (hq:quant op=true):fitT (.one op w k b x) e=true↔∃ r,needT x=some r/\¬ (r.getD k.toNat 0≠0/\r.getD k.toNat 0≠2 ^ b.toNat)/\Fits (r.set k.toNat 0) e:=by
 unfold fitT
 simp only [needT]
 cases hn:needT x with
 | none=>simp
 | some r =>
   simp only [Option.bind_some,hq,if_true]
   by_cases hc:r.getD k.toNat 0≠0/\r.getD k.toNat 0≠2 ^ b.toNat
   ·rw [if_pos hc]
    constructor
    ·intro h;cases h
    ·rintro ⟨r',h1,h2,_⟩;cases h1;exact absurd hc h2
   ·rw [if_neg hc]
    constructor
    ·intro h;exact ⟨r,rfl,hc,fit_iff.1 h⟩
    ·rintro ⟨r',h1,_,h3⟩;cases h1;exact fit_iff.2 h3
theorem value_quant {t:List Nd} {e:List Int} {op v w x:Int} (hT:termOk t=true) (hw:(nth t (t.length - 1)).w=1) (hl:t.length < 80) (hop:op=19\/op=20) (hv:0<=v/\v<=7) (hb:1<=w/\w<=8)
 (h:valueL (t++[⟨op,1,v,(t.length:Int) - 1,w,0⟩]) e=some x) :
 (∀ k:Nat,k < 2 ^ w.toNat->valueL t (e.set v.toNat (k:Int))=some (vT (root t) (e.set v.toNat (k:Int))))/\vT (.one op 1 v w (root t)) e=x:=by
 have hQ:=termOk_quant hT hw hl hop hv hb
 have hp:parts (⟨op,1,v,(t.length:Int) - 1,w,0⟩:Nd)=[(t.length:Int) - 1]:=parts_one (by rcases hop with e|e<;>simp [e])
 have hq:quant op=true:=by rcases hop with rfl|rfl<;>rfl
 obtain ⟨_,he,hbt,hf,hx⟩:=value_parts.1 h
 rw [root_snoc hT hQ hp (by rcases hop with e|e<;>simp [e])] at hf hx
 rw [bits_snoc hT hQ hp] at hbt
 simp only [hq,if_true] at hbt
 obtain ⟨r,hr,hc,hF⟩:=(fit_one hq).1 hf
 refine ⟨fun k hk=>value_parts.2 ⟨hT,by rw [List.length_set];exact he,by omega,?_,rfl⟩,hx⟩
 unfold fitT
 rw [hr]
 exact fit_iff.2 (Fits.below (need_len _ _ hr) he hv hb hk hc hF)
def badR (v k:Int) (n:Nd):Bool:=(quant n.op&&n.k==v)||(n.op==1&&n.k==v && !wok n.w k)
def replN (v k:Int) (n:Nd):Nd:=if n.op=1/\n.k=v then ⟨0,n.w,k,n.a,n.b,n.c⟩ else n
def replL (t:List Nd) (v k:Int):Option (List Nd):=if termOk t && !t.any (badR v k) then some (t.map (replN v k)) else none
end Vl4
namespace Vl5
open Nd0 Pl1 Pl2 Tm0 Tm1 Tm2 Tm3 Tm4 Tm5 Tm6 Tm7 Tm8 Tm9 Tm10 Tm11 Tm12 Tm13 Tm14 Tr0 Vl1 Vl2 Vl3 Vl4
section
variable {t:List Nd} {q:Nd} (hT:termOk t=true) (hQ:termOk (t++[q])=true) (hp:parts q=[(t.length:Int) - 1])
include hT hQ hp
end
def holdsL (l:List Nd):Option Int:=if sentB l then valueL l (List.replicate 8 0) else none
end Vl5
namespace Ic4
open Go.RowKit
open Nd0 Nd3 Tm0 Vl1 Vl4 Vl5
def replO (l:List Nd) (v k:Int):List Nd:=(replL l v k).getD []
def IApply:Prop:=∀ (n:Nd) (W a b c:Int) (w:World),(Lit.int .i64 n.k).wf=true ->
 Calls Tryz.prog 92 #[.agg #[.int .i64 n.op,.int .i64 n.w,.int .i64 n.k,.int .i64 n.a,.int .i64 n.b,.int .i64 n.c],.int .i64 W,.int .i64 a,.int .i64 b,.int .i64 c] w fun e w'=>e=.returned (.int .i64 (applyL n.op n.w n.k W a b c))/\Below w.heap.size w w'
def IValue:Prop:=∀ (w:World) (a ae:Option Addr) (l:List Nd) (e:List Int) (c ce:Nat),Nodes w a l->l.length<=c->l.length<=1048576->Ints w ae e->e.length<=ce ->
 Calls Tryz.prog 9 #[.slice a l.length c,.slice ae e.length ce] w fun x w'=>x=.returned (.tuple #[.int .i64 ((valueL l e).getD 0),.bool (valueL l e).isSome])/\Below w.heap.size w w'
def IHolds:Prop:=∀ (w:World) (a:Option Addr) (l:List Nd) (c:Nat),Nodes w a l->l.length<=c->l.length<=1048576 ->
 Calls Tryz.prog 40 #[.slice a l.length c] w fun x w'=>x=.returned (.tuple #[.int .i64 ((holdsL l).getD 0),.bool (holdsL l).isSome])/\Below w.heap.size w w'
end Ic4
namespace Rp0
open Go.RowKit
open Nd0 Nd3 Pl1 Tm0 Tm5 Ap2 Vl1 Vl4 Ic4
theorem repl_none {l:List Nd} {v k:Int} {i:Nat} (hi:i < l.length) (h:badR v k (nth l i)=true):replL l v k=none:=by
 unfold replL
 have:l.any (badR v k)=true:=List.any_eq_true.2 ⟨_,List.getElem_mem hi,by rw [nth_get hi];exact h⟩
 rw [this];simp
theorem repl_some {l:List Nd} {v k:Int} (hT:termOk l=true) (h:∀ i,i < l.length->badR v k (nth l i)=false):replL l v k=some (l.map (replN v k)):=by
 unfold replL
 have:l.any (badR v k)=false:=by
  rw [List.any_eq_false]
  intro n hn
  obtain ⟨i,hi,rfl⟩:=List.getElem_of_mem hn
  rw [nth_get hi,h i hi];simp
 rw [this,hT];rfl
theorem repl_term {l:List Nd} {v k:Int} (hT:termOk l=false):replL l v k=none:=by unfold replL;rw [hT];rfl
theorem take_step {l:List Nd} {v k:Int} {i:Nat} (hi:i < l.length):(l.take (i+1)).map (replN v k)=(l.take i).map (replN v k)++[replN v k (nth l i)]:=by
 rw [List.take_succ_eq_append_getElem hi,List.map_append,nth_get hi];rfl
theorem own_nil (W:World) (B g:Nat) (hg:g=W.heap.size) (hB:B<=g):Ap2.Own (W.alloc (.cells #[] 44)) B (.slice (some ⟨g,0,none⟩) 0 0) []:=by
 subst hg;exact Own.lit W B hB
end Rp0
namespace Sv2
open Go.RowKit
open Nd0 Nd3 Pl1 Tm0 Tm5 Ap2 Vl1 Vl4 Ic4 Rp0
open Sp10 (sQuant)
open Wd1 (sWordOk)
open Sp4 (sTermOk)
theorem sReplace (w:World) (a:Option Addr) (l:List Nd) (c:Nat) (v k:Int) (hN:Nodes w a l) :
 Calls Tryz.prog 24 #[.slice a l.length c,.int .i64 v,.int .i64 k] w fun e w'=>(∃ x,e=.returned (.tuple #[x,.bool (replL l v k).isSome])/\Ap2.Own w' w.heap.size x (replO l v k))/\Below w.heap.size w w':=by
 have HN:Hid (Nodes w a l):=hN
 clear hN
 have HB0:Hid (Below w.heap.size w (w.alloc (.cells #[] 44))):=(Below.refl _ _).alloc (Nat.le_refl _) _
 have HLIT:Hid (Ap2.Own (w.alloc (.cells #[] 44)) w.heap.size (.slice (some ⟨w.heap.size,0,none⟩) 0 0) []):=Own.lit w _ (Nat.le_refl _)
 go_enter Tryz.func24,Tryz.ntmps24
 go_wp2_with fail
 refine (sTermOk _ a l c (HN.out.below HB0.out)).mono ?_
 rintro e w1 ⟨rfl,hb1⟩
 have HB1:Hid (Below w.heap.size w w1):=HB0.out.trans (hb1.mono HB0.out.size)
 have HO1:Hid (Ap2.Own w1 w.heap.size (.slice (some ⟨w.heap.size,0,none⟩) 0 0) []):=HLIT.out.kept (S:=fun _=>False) (Kept.ofBelow hb1) (fun _ _ h=>h)
 clear hb1
 cases hT:termOk l
 ·have HE:Hid (replL l v k=none):=repl_term hT
  have HE2:Hid (replO l v k=[]):=by
   show _=_
   unfold replO;rw [HE.out];rfl
  go_wp2
  go_ret2
  rw [HE2.out,HE.out]
  exact ⟨⟨_,rfl,HO1.out⟩,HB1.out⟩
 ·have HT:Hid (termOk l=true):=hT
  obtain ⟨hl1,hl2⟩:=term_len hT
  clear hT
  go_wp2_with fail
  go_loopw [8,9] (fun vo q wr=>∃ i:Nat,i<=l.length/\q=.int .i64 i/\Ap2.Own wr w.heap.size vo ((l.take i).map (replN v k))/\(∀ j,j < i->badR v k (nth l j)=false)/\Below w.heap.size w wr) (fun _ q _=>l.length - (intOf q).toNat)
  case atStart=>exact ⟨0,Nat.zero_le _,rfl,HO1.out,fun j h=>by omega,HB1.out⟩
  case round =>
   clear HO1 HB1
   obtain ⟨i,hi,rfl,ho,hbad,hb⟩:=hrel
   have HB:Hid (Below w.heap.size w wr):=hb
   have hBs:w.heap.size<=wr.heap.size:=hb.size
   have HBAD:Hid (∀ j,j < i->badR v k (nth l j)=false):=hbad
   clear hb hbad
   by_cases hlt:i < l.length
   ·have hlz:(i:Int) < (l.length:Int):=by omega
    obtain ⟨ao,co,rfl⟩:=ho.len
    have HLJ:Hid (((l.take i).map (replN v k)).length=i):=by
     show _=_
     rw [List.length_map,List.length_take];omega
    have HTK:Hid ((l.take (i+1)).map (replN v k)=(l.take i).map (replN v k)++[replN v k (nth l i)]):=take_step hlt
    have HNO:Hid (badR v k (nth l i)=true->replL l v k=none):=fun h=>repl_none hlt h
    have HO:Hid (Ap2.Own wr w.heap.size (.slice ao ((l.take i).map (replN v k)).length co) ((l.take i).map (replN v k))):=ho
    clear ho
    rcases (HN.out.below HB.out).2 with h0|⟨xb,xo,rfl,hc⟩
    ·omega
    obtain ⟨p0,p1,p2,p3,p4,p5⟩:=hc i hlt
    rw [nth_get hlt] at p0 p1 p2 p3 p4 p5
    clear hc
    have HNEXT:Hid (badR v k (nth l i)=false->∀ j,j < i+1->badR v k (nth l j)=false):=by
     show _->_
     intro h j hj
     by_cases e:j=i
     ·rw [e];exact h
     ·exact HBAD.out j (by omega)
    generalize hL:(l.take i).map (replN v k)=L at HO HLJ HTK
    clear hL
    have hLl:L.length<=1048576:=by have:=HLJ.out;omega
    generalize nth l i=n at p0 p1 p2 p3 p4 p5 HTK HNO HNEXT
    cases hq:quant n.op
    ·cases h1:(n.op==1)
     ·skip
      have HBF:Hid (∀ j,j < i+1->badR v k (nth l j)=false):=HNEXT.out (by simp only [badR];simp_all)
      have HRP:Hid (replN v k n=n):=by
       show _=_
       simp only [replN];simp_all
      clear HNO HNEXT
      have HWA:Hid (Ap2.Own (wr.alloc (.cells #[.int .i64 n.op,.int .i64 n.w,.int .i64 n.k,.int .i64 n.a,.int .i64 n.b,.int .i64 n.c] 44)) w.heap.size (.slice ao L.length co) L):=HO.out.kept (S:=fun b=>b=wr.heap.size) ((Kept.refl (fun b=>b=wr.heap.size) _).alloc _) (fun b hb e=>by have:=(HO.out.lt b hb).2;omega)
      have HBA:Hid (Below w.heap.size w (wr.alloc (.cells #[.int .i64 n.op,.int .i64 n.w,.int .i64 n.k,.int .i64 n.a,.int .i64 n.b,.int .i64 n.c] 44))):=HB.out.trans (Kept.below (S:=fun b=>b=wr.heap.size) ((Kept.refl (fun b=>b=wr.heap.size) _).alloc _) (fun b (e:b=wr.heap.size)=>by omega) hBs)
      have hBs2:w.heap.size<=(wr.alloc (.cells #[.int .i64 n.op,.int .i64 n.w,.int .i64 n.k,.int .i64 n.a,.int .i64 n.b,.int .i64 n.c] 44)).heap.size:=HBA.out.size
      go_wp2_with (first|(go_at_call 28;refine (sQuant _ _).mono ?_;rintro e w' ⟨rfl,rfl⟩;rw [hq])|(go_at_call 50;refine (sWordOk _ _ _).mono ?_;rintro e w' ⟨rfl,rfl⟩;skip)|(at_builtin;go_must (refine app_node _ rfl _ _ rfl w.heap.size (.slice ao L.length co) L n rfl _ rfl (by simp) HWA.out hBs2 hLl ?_;intro g5 cp5 w5 ho5 hk5 hg5;have HO5:Hid (Ap2.Own w5 w.heap.size (.slice (some ⟨g5,0,none⟩) (L.length+1) cp5) (L++[n])):=ho5;have HB5:Hid (Below w.heap.size w w5):=HBA.out.trans (hk5.below (fun b hb=>(HWA.out.lt b hb).1) hBs2);clear ho5 hk5 hg5)))
      go_roundw
      case rel=>exact ⟨i+1,by omega,by go_num,by rw [HTK.out,HRP.out];exact HO5.out,HBF.out,HB5.out⟩
      case measure=>simp [intOf];omega
     ·cases hv:(n.k==v)
      ·skip
       have HBF:Hid (∀ j,j < i+1->badR v k (nth l j)=false):=HNEXT.out (by simp only [badR];simp_all)
       have HRP:Hid (replN v k n=n):=by
        show _=_
        simp only [replN];simp_all
       clear HNO HNEXT
       have HWA:Hid (Ap2.Own (wr.alloc (.cells #[.int .i64 n.op,.int .i64 n.w,.int .i64 n.k,.int .i64 n.a,.int .i64 n.b,.int .i64 n.c] 44)) w.heap.size (.slice ao L.length co) L):=HO.out.kept (S:=fun b=>b=wr.heap.size) ((Kept.refl (fun b=>b=wr.heap.size) _).alloc _) (fun b hb e=>by have:=(HO.out.lt b hb).2;omega)
       have HBA:Hid (Below w.heap.size w (wr.alloc (.cells #[.int .i64 n.op,.int .i64 n.w,.int .i64 n.k,.int .i64 n.a,.int .i64 n.b,.int .i64 n.c] 44))):=HB.out.trans (Kept.below (S:=fun b=>b=wr.heap.size) ((Kept.refl (fun b=>b=wr.heap.size) _).alloc _) (fun b (e:b=wr.heap.size)=>by omega) hBs)
       have hBs2:w.heap.size<=(wr.alloc (.cells #[.int .i64 n.op,.int .i64 n.w,.int .i64 n.k,.int .i64 n.a,.int .i64 n.b,.int .i64 n.c] 44)).heap.size:=HBA.out.size
       go_wp2_with (first|(go_at_call 28;refine (sQuant _ _).mono ?_;rintro e w' ⟨rfl,rfl⟩;rw [hq])|(go_at_call 50;refine (sWordOk _ _ _).mono ?_;rintro e w' ⟨rfl,rfl⟩;skip)|(at_builtin;go_must (refine app_node _ rfl _ _ rfl w.heap.size (.slice ao L.length co) L n rfl _ rfl (by simp) HWA.out hBs2 hLl ?_;intro g5 cp5 w5 ho5 hk5 hg5;have HO5:Hid (Ap2.Own w5 w.heap.size (.slice (some ⟨g5,0,none⟩) (L.length+1) cp5) (L++[n])):=ho5;have HB5:Hid (Below w.heap.size w w5):=HBA.out.trans (hk5.below (fun b hb=>(HWA.out.lt b hb).1) hBs2);clear ho5 hk5 hg5)))
       go_roundw
       case rel=>exact ⟨i+1,by omega,by go_num,by rw [HTK.out,HRP.out];exact HO5.out,HBF.out,HB5.out⟩
       case measure=>simp [intOf];omega
      ·cases hwk:wok n.w k
       ·skip
        have HE:Hid (replL l v k=none):=HNO.out (by simp only [badR];simp_all)
        have HE2:Hid (replO l v k=[]):=by
         show _=_
         unfold replO;rw [HE.out];rfl
        clear HNEXT HNO HTK
        go_wp2_with (first|(go_at_call 28;refine (sQuant _ _).mono ?_;rintro e w' ⟨rfl,rfl⟩;rw [hq])|(go_at_call 50;refine (sWordOk _ _ _).mono ?_;rintro e w' ⟨rfl,rfl⟩;rw [hwk]))
        go_ret2
        rw [HE2.out,HE.out]
        exact ⟨⟨_,rfl,(own_nil _ _ _ (by simp) (by omega))⟩,((HB.out.alloc hBs _).alloc (by simp;omega) _)⟩
       ·skip
        have HBF:Hid (∀ j,j < i+1->badR v k (nth l j)=false):=HNEXT.out (by simp only [badR];simp_all)
        have HRP:Hid (replN v k n=⟨0,n.w,k,n.a,n.b,n.c⟩):=by
         show _=_
         simp only [replN];simp_all
        clear HNO HNEXT
        have HWA:Hid (Ap2.Own (wr.alloc (.cells #[.int .i64 0,.int .i64 n.w,.int .i64 k,.int .i64 n.a,.int .i64 n.b,.int .i64 n.c] 44)) w.heap.size (.slice ao L.length co) L):=HO.out.kept (S:=fun b=>b=wr.heap.size) ((Kept.refl (fun b=>b=wr.heap.size) _).alloc _) (fun b hb e=>by have:=(HO.out.lt b hb).2;omega)
        have HBA:Hid (Below w.heap.size w (wr.alloc (.cells #[.int .i64 0,.int .i64 n.w,.int .i64 k,.int .i64 n.a,.int .i64 n.b,.int .i64 n.c] 44))):=HB.out.trans (Kept.below (S:=fun b=>b=wr.heap.size) ((Kept.refl (fun b=>b=wr.heap.size) _).alloc _) (fun b (e:b=wr.heap.size)=>by omega) hBs)
        have hBs2:w.heap.size<=(wr.alloc (.cells #[.int .i64 0,.int .i64 n.w,.int .i64 k,.int .i64 n.a,.int .i64 n.b,.int .i64 n.c] 44)).heap.size:=HBA.out.size
        go_wp2_with (first|(go_at_call 28;refine (sQuant _ _).mono ?_;rintro e w' ⟨rfl,rfl⟩;rw [hq])|(go_at_call 50;refine (sWordOk _ _ _).mono ?_;rintro e w' ⟨rfl,rfl⟩;rw [hwk])|(at_builtin;go_must (refine app_node _ rfl _ _ rfl w.heap.size (.slice ao L.length co) L (⟨0,n.w,k,n.a,n.b,n.c⟩:Nd) rfl _ rfl (by simp) HWA.out hBs2 hLl ?_;intro g5 cp5 w5 ho5 hk5 hg5;have HO5:Hid (Ap2.Own w5 w.heap.size (.slice (some ⟨g5,0,none⟩) (L.length+1) cp5) (L++[(⟨0,n.w,k,n.a,n.b,n.c⟩:Nd)])):=ho5;have HB5:Hid (Below w.heap.size w w5):=HBA.out.trans (hk5.below (fun b hb=>(HWA.out.lt b hb).1) hBs2);clear ho5 hk5 hg5)))
        go_roundw
        case rel=>exact ⟨i+1,by omega,by go_num,by rw [HTK.out,HRP.out];exact HO5.out,HBF.out,HB5.out⟩
        case measure=>simp [intOf];omega
    ·have h1:(n.op==1)=false:=by
      have:n.op=19\/n.op=20:=by simpa [quant] using hq
      simp;omega
     cases hv:(n.k==v)
     ·skip
      have HBF:Hid (∀ j,j < i+1->badR v k (nth l j)=false):=HNEXT.out (by simp only [badR];simp_all)
      have HRP:Hid (replN v k n=n):=by
       show _=_
       simp only [replN];simp_all
      clear HNO HNEXT
      have HWA:Hid (Ap2.Own (wr.alloc (.cells #[.int .i64 n.op,.int .i64 n.w,.int .i64 n.k,.int .i64 n.a,.int .i64 n.b,.int .i64 n.c] 44)) w.heap.size (.slice ao L.length co) L):=HO.out.kept (S:=fun b=>b=wr.heap.size) ((Kept.refl (fun b=>b=wr.heap.size) _).alloc _) (fun b hb e=>by have:=(HO.out.lt b hb).2;omega)
      have HBA:Hid (Below w.heap.size w (wr.alloc (.cells #[.int .i64 n.op,.int .i64 n.w,.int .i64 n.k,.int .i64 n.a,.int .i64 n.b,.int .i64 n.c] 44))):=HB.out.trans (Kept.below (S:=fun b=>b=wr.heap.size) ((Kept.refl (fun b=>b=wr.heap.size) _).alloc _) (fun b (e:b=wr.heap.size)=>by omega) hBs)
      have hBs2:w.heap.size<=(wr.alloc (.cells #[.int .i64 n.op,.int .i64 n.w,.int .i64 n.k,.int .i64 n.a,.int .i64 n.b,.int .i64 n.c] 44)).heap.size:=HBA.out.size
      go_wp2_with (first|(go_at_call 28;refine (sQuant _ _).mono ?_;rintro e w' ⟨rfl,rfl⟩;rw [hq])|(go_at_call 50;refine (sWordOk _ _ _).mono ?_;rintro e w' ⟨rfl,rfl⟩;skip)|(at_builtin;go_must (refine app_node _ rfl _ _ rfl w.heap.size (.slice ao L.length co) L n rfl _ rfl (by simp) HWA.out hBs2 hLl ?_;intro g5 cp5 w5 ho5 hk5 hg5;have HO5:Hid (Ap2.Own w5 w.heap.size (.slice (some ⟨g5,0,none⟩) (L.length+1) cp5) (L++[n])):=ho5;have HB5:Hid (Below w.heap.size w w5):=HBA.out.trans (hk5.below (fun b hb=>(HWA.out.lt b hb).1) hBs2);clear ho5 hk5 hg5)))
      go_roundw
      case rel=>exact ⟨i+1,by omega,by go_num,by rw [HTK.out,HRP.out];exact HO5.out,HBF.out,HB5.out⟩
      case measure=>simp [intOf];omega
     ·skip
      have HE:Hid (replL l v k=none):=HNO.out (by simp only [badR];simp_all)
      have HE2:Hid (replO l v k=[]):=by
       show _=_
       unfold replO;rw [HE.out];rfl
      clear HNEXT HNO HTK
      go_wp2_with (first|(go_at_call 28;refine (sQuant _ _).mono ?_;rintro e w' ⟨rfl,rfl⟩;rw [hq])|(go_at_call 50;refine (sWordOk _ _ _).mono ?_;rintro e w' ⟨rfl,rfl⟩;skip))
      go_ret2
      rw [HE2.out,HE.out]
      exact ⟨⟨_,rfl,(own_nil _ _ _ (by simp) (by omega))⟩,((HB.out.alloc hBs _).alloc (by simp;omega) _)⟩
   ·have hlz:¬ (i:Int) < (l.length:Int):=by omega
    have e2:i=l.length:=by omega
    have HE:Hid (replL l v k=some (l.map (replN v k))):=repl_some HT.out (fun j hj=>HBAD.out j (by omega))
    have HE2:Hid (replO l v k=(l.take i).map (replN v k)):=by
     show _=_
     unfold replO;rw [HE.out,List.take_of_length_le (by omega)];rfl
    have HO:Hid (Ap2.Own wr w.heap.size u8 ((l.take i).map (replN v k))):=ho
    obtain ⟨ao,co,rfl⟩:=ho.len
    clear ho e2
    generalize (l.take i).map (replN v k)=L at HO HE2 ⊢
    go_wp2
    go_ret2
    rw [HE2.out,HE.out]
    exact ⟨⟨_,rfl,HO.out⟩,HB.out⟩
end Sv2
end Go.Proofs.YthanhcobfehmnaaGreat
