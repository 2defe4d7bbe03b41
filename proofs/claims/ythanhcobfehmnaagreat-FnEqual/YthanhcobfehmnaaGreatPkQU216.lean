import Derived.Test.YthanhcobfehmnaaGreatPkQU215
namespace Go.Proofs.YthanhcobfehmnaaGreat
set_option maxRecDepth 100000
set_option maxHeartbeats 8000000
set_option linter.unusedVariables false
namespace Tr0
open Nd0 Pl1 Tm0 Tm1 Tm3 Tm8 Tx0 Tx1 Tx2 Tx3
inductive Tr where
 | leaf (op w k:Int)
 | one (op w k b:Int) (x:Tr)
 | two (op w:Int) (x y:Tr)
 | three (op w:Int) (x y z:Tr)
def Tr.nil:Tr:=.leaf 0 0 0
def Tr.op:Tr->Int
 | .leaf o _ _=>o
 | .one o _ _ _ _=>o
 | .two o _ _ _=>o
 | .three o _ _ _ _=>o
def Tr.wid:Tr->Int
 | .leaf _ w _=>w
 | .one _ w _ _ _=>w
 | .two _ w _ _=>w
 | .three _ w _ _ _=>w
def mkF (n:Nd) (f:Nat->Tr):Tr :=
 if n.op=2\/n.op=17\/n.op=19\/n.op=20 then .one n.op n.w n.k n.b (f n.a.toNat)
 else if 3<=n.op/\n.op<=16 then .two n.op n.w (f n.a.toNat) (f n.b.toNat)
 else if n.op=18 then .three n.op n.w (f n.a.toNat) (f n.b.toNat) (f n.c.toNat)
 else .leaf n.op n.w n.k
def trTo (l:List Nd):Nat->List Tr
 | 0=>[]
 | k+1=>trTo l k++[mkF (nth l k) fun i=>(trTo l k).getD i Tr.nil]
def tr (l:List Nd) (i:Nat):Tr:=(trTo l l.length).getD i Tr.nil
theorem mk_one {n:Nd} (h:n.op=2\/n.op=17\/n.op=19\/n.op=20) (f:Nat->Tr):mkF n f=.one n.op n.w n.k n.b (f n.a.toNat):=if_pos h
theorem mk_two {n:Nd} (h:3<=n.op/\n.op<=16) (f:Nat->Tr):mkF n f=.two n.op n.w (f n.a.toNat) (f n.b.toNat):=by unfold mkF;rw [if_neg (by omega),if_pos h]
theorem mk_three {n:Nd} (h:n.op=18) (f:Nat->Tr):mkF n f=.three n.op n.w (f n.a.toNat) (f n.b.toNat) (f n.c.toNat):=by unfold mkF;rw [if_neg (by omega),if_neg (by omega),if_pos h]
theorem mk_leaf {n:Nd} (h:¬ (n.op=2\/n.op=17\/n.op=19\/n.op=20)) (h2:¬ (3<=n.op/\n.op<=16)) (h3:¬ n.op=18) (f:Nat->Tr):mkF n f=.leaf n.op n.w n.k:=by unfold mkF;rw [if_neg h,if_neg h2,if_neg h3]
theorem mk_wid (n:Nd) (f:Nat->Tr):(mkF n f).wid=n.w:=by
 unfold mkF
 split
 ·rfl
 ·split
  ·rfl
  ·split<;>rfl
theorem mk_congr {n:Nd} {f g:Nat->Tr} (h:∀ p∈parts n,f p.toNat=g p.toNat):mkF n f=mkF n g:=by
 by_cases h1:n.op=2\/n.op=17\/n.op=19\/n.op=20
 ·rw [parts_one h1] at h
  rw [mk_one h1,mk_one h1,h n.a (by simp)]
 ·by_cases h2:3<=n.op/\n.op<=16
  ·rw [parts_two h2] at h
   rw [mk_two h2,mk_two h2,h n.a (by simp),h n.b (by simp)]
  ·by_cases h3:n.op=18
   ·rw [parts_three h3] at h
    rw [mk_three h3,mk_three h3,h n.a (by simp),h n.b (by simp),h n.c (by simp)]
   ·rw [mk_leaf h1 h2 h3,mk_leaf h1 h2 h3]
theorem mk_parts {n:Nd} {is:List Nat} {f g:Nat->Tr} (hl:is.length=(parts n).length) (h:is.map f=(parts n).map (fun p=>g p.toNat)):mkF (reparts n is) f=mkF n g:=by
 obtain ⟨op,w,k,a,b,c⟩:=n
 by_cases h1:op=2\/op=17\/op=19\/op=20
 ·rw [parts_one h1] at hl h
  match is,hl,h with
  | [i],_,h =>
    simp only [List.map_cons,List.map_nil,List.cons.injEq,and_true] at h
    rw [mk_one (n:=reparts ⟨op,w,k,a,b,c⟩ [i]) (by exact h1),mk_one (by exact h1),<- h]
    rfl
 ·by_cases h2:3<=op/\op<=16
  ·rw [parts_two h2] at hl h
   match is,hl,h with
   | [i,j],_,h =>
     simp only [List.map_cons,List.map_nil,List.cons.injEq,and_true] at h
     rw [mk_two (n:=reparts ⟨op,w,k,a,b,c⟩ [i,j]) (by exact h2),mk_two (by exact h2),<- h.1,<- h.2]
     rfl
  ·by_cases h3:op=18
   ·rw [parts_three h3] at hl h
    match is,hl,h with
    | [i,j,m],_,h =>
      simp only [List.map_cons,List.map_nil,List.cons.injEq,and_true] at h
      rw [mk_three (n:=reparts ⟨op,w,k,a,b,c⟩ [i,j,m]) (by exact h3),mk_three (by exact h3),<- h.1,<- h.2.1,<- h.2.2]
      rfl
   ·rw [mk_leaf (n:=reparts ⟨op,w,k,a,b,c⟩ is) (by exact h1) (by exact h2) (by exact h3),mk_leaf (by exact h1) (by exact h2) (by exact h3)]
    rfl
theorem trTo_length (l:List Nd) (k:Nat):(trTo l k).length=k:=by
 induction k with
 | zero=>rfl
 | succ k ih=>show (trTo l k++[_]).length=_;rw [List.length_append,ih];rfl
theorem tr_prefix (l:List Nd) {i k:Nat} (hi:i < k):∀ n,k<=n->(trTo l n).getD i Tr.nil=(trTo l k).getD i Tr.nil:=by
 intro n hn
 obtain ⟨d,rfl⟩:∃ d,n=k+d:=⟨n - k,by omega⟩
 clear hn
 induction d with
 | zero=>rfl
 | succ d ih =>
   rw [<- ih]
   show (trTo l (k+d)++[_]).getD i Tr.nil=_
   rw [List.getD_eq_getElem?_getD,List.getElem?_append_left (by rw [trTo_length];omega),<- List.getD_eq_getElem?_getD]
theorem tr_at {l:List Nd} (hD:Down l) {i:Nat} (hi:i < l.length):tr l i=mkF (nth l i) (tr l):=by
 unfold tr
 rw [tr_prefix l (k:=i+1) (by omega) l.length (by omega)]
 show (trTo l i++[mkF (nth l i) fun j=>(trTo l i).getD j Tr.nil]).getD i Tr.nil=_
 rw [List.getD_eq_getElem?_getD,List.getElem?_append_right (by rw [trTo_length];exact Nat.le_refl _),trTo_length,Nat.sub_self]
 show mkF (nth l i) (fun j=>(trTo l i).getD j Tr.nil)=_
 refine mk_congr (fun p hp=>?_)
 have:=hD i hi p hp
 exact (tr_prefix l (i:=p.toNat) (k:=i) (by omega) l.length (by omega)).symm
theorem trTo_app (t m:List Nd):∀ k,k<=t.length->trTo (t++m) k=trTo t k:=by
 intro k
 induction k with
 | zero=>intro _;rfl
 | succ k ih =>
   intro hk
   show trTo (t++m) k++[_]=trTo t k++[_]
   rw [ih (by omega),nth_app (by omega)]
theorem tr_app (t m:List Nd) {j:Nat} (h:j < t.length):tr (t++m) j=tr t j:=by
 unfold tr
 rw [tr_prefix (t++m) (k:=t.length) h (t++m).length (by simp),trTo_app t m _ (Nat.le_refl _)]
theorem tr_same {l T:List Nd} (hD:Down l) (hT:Down T) {i j:Nat} (hi:i < l.length) (hj:j < T.length) {is:List Nat} (hl:is.length=(parts (nth l i)).length)
 (hn:nth T j=reparts (nth l i) is) (hx:is.map (tr T)=(parts (nth l i)).map (fun p=>tr l p.toNat)):tr T j=tr l i:=by
 rw [tr_at hD hi,tr_at hT hj,hn]
 exact mk_parts hl hx
end Tr0
namespace Pl2
open Go.RowKit
open Pl1
theorem wok_mod {m:Int} (x:Int) (h1:1<=m) (h2:m<=8):wok m (x % p2 m.toNat)=true :=
 wok_iff.2 ⟨h1,h2,emod_le _⟩
theorem add_eq {m a b:Int} (ha:wok m a=true) (hb:wok m b=true):vAdd m a b=(a+b) % p2 m.toNat:=by simp [vAdd,ha,hb]
theorem sub_eq {m a b:Int} (ha:wok m a=true) (hb:wok m b=true):vSub m a b=(a - b) % p2 m.toNat:=by simp [vSub,ha,hb]
theorem mul_eq {m a b:Int} (ha:wok m a=true) (hb:wok m b=true):vMul m a b=a*b % p2 m.toNat:=by simp [vMul,ha,hb]
theorem flip_eq {m a:Int} (ha:wok m a=true):vFlip m a=p2 m.toNat - 1 - a:=by simp [vFlip,ha]
theorem wok_add {m a b:Int} (ha:wok m a=true) (hb:wok m b=true):wok m (vAdd m a b)=true:=by
 obtain ⟨h1,h2,_⟩:=wok_iff.1 ha
 rw [add_eq ha hb];exact wok_mod _ h1 h2
theorem wok_sub {m a b:Int} (ha:wok m a=true) (hb:wok m b=true):wok m (vSub m a b)=true:=by
 obtain ⟨h1,h2,_⟩:=wok_iff.1 ha
 rw [sub_eq ha hb];exact wok_mod _ h1 h2
theorem wok_mul {m a b:Int} (ha:wok m a=true) (hb:wok m b=true):wok m (vMul m a b)=true:=by
 obtain ⟨h1,h2,_⟩:=wok_iff.1 ha
 rw [mul_eq ha hb];exact wok_mod _ h1 h2
theorem wok_flip {m a:Int} (ha:wok m a=true):wok m (vFlip m a)=true:=by
 obtain ⟨h1,h2,h3,h4⟩:=wok_iff.1 ha
 rw [flip_eq ha];exact wok_iff.2 ⟨h1,h2,by omega,by omega⟩
theorem wok_zero {m:Int} (h1:1<=m) (h2:m<=8):wok m 0=true:=wok_iff.2 ⟨h1,h2,by omega,by have:=p2_pos m.toNat;omega⟩
end Pl2
namespace Tm13
open Nd0 Pl1 Tm0 Tm1 Tm2 Tm3 Tm4 Tm5 Tm6 Tm8 Tm9 Tm10
def pl (l:List Nd) (x:Nat):Nat:=(reachTo l x).length
theorem plc_pl (l:List Nd) (x:Nat):plc l (x:Int)=(pl l x:Int):=by simp [plc,pl]
theorem pl_succ (l:List Nd) (x:Nat):pl l (x+1)=if flag (reachL l) x then pl l x+1 else pl l x:=by
 unfold pl;rw [reachTo_succ];split
 ·simp
 ·rfl
theorem prune_ok {l:List Nd} (hT:termOk l=true):pruneL l=pruneTo l l.length:=by unfold pruneL;rw [hT];rfl
theorem prune_len {l:List Nd} (hT:termOk l=true):(pruneL l).length=pl l l.length:=by rw [prune_ok hT,pruneTo_length];rfl
theorem pruneTo_nth (l:List Nd) {x:Nat} (hf:flag (reachL l) x=true):∀ k,x < k->nth (pruneTo l k) (pl l x)=remap l (nth l x):=by
 intro k
 induction k with
 | zero=>intro h;omega
 | succ k ih =>
   intro h
   by_cases e:x=k
   ·subst e
    rw [pruneTo_succ,hf,if_pos rfl]
    unfold nth pl
    rw [List.getD_eq_getElem?_getD,List.getElem?_append_right (by rw [pruneTo_length];exact Nat.le_refl _),pruneTo_length]
    simp
   ·have h1:=ih (by omega)
    rw [pruneTo_succ]
    split
    ·rw [<- h1]
     unfold nth
     rw [List.getD_eq_getElem?_getD,List.getElem?_append_left (by rw [pruneTo_length];exact reachTo_lt l (by omega) hf),<- List.getD_eq_getElem?_getD]
    ·exact h1
theorem prune_nth {l:List Nd} (hT:termOk l=true) {x:Nat} (hx:x < l.length) (hf:flag (reachL l) x=true):nth (pruneL l) (pl l x)=remap l (nth l x):=by
 rw [prune_ok hT];exact pruneTo_nth l hf _ hx
theorem pl_lt {l:List Nd} (hT:termOk l=true) {x:Nat} (hx:x < l.length) (hf:flag (reachL l) x=true):pl l x < (pruneL l).length:=by
 rw [prune_len hT];exact reachTo_lt l hx hf
theorem pl_all {l:List Nd} (hT:termOk l=true) {j:Nat} (hj:j < (pruneL l).length):∃ x,x < l.length/\flag (reachL l) x=true/\pl l x=j:=by
 rw [prune_len hT] at hj
 obtain ⟨x,_,h2,h3,h4⟩:=reach_at l l.length j hj
 exact ⟨x,h2,h3,h4⟩
theorem parts_remap (l:List Nd) (n:Nd):parts (remap l n)=(parts n).map (plc l):=by
 rcases parts_cases n with h|h|h|h
 ·have e:remap l n=n:=by unfold remap;rw [h];rfl
  rw [e,h];rfl
 ·have h0:=h
  have e:remap l n=⟨n.op,n.w,n.k,plc l n.a,n.b,n.c⟩:=by unfold remap;rw [h];rfl
  rw [e,h]
  have:n.op=2\/n.op=17\/n.op=19\/n.op=20:=by
   unfold parts at h0
   split at h0
   ·assumption
   ·split at h0
    ·simp at h0
    ·split at h0<;>simp at h0
  exact parts_one (n:=⟨n.op,n.w,n.k,plc l n.a,n.b,n.c⟩) this
 ·have h0:=h
  have e:remap l n=⟨n.op,n.w,n.k,plc l n.a,plc l n.b,n.c⟩:=by unfold remap;rw [h];rfl
  rw [e,h]
  have:3<=n.op/\n.op<=16:=by
   unfold parts at h0
   split at h0
   ·simp at h0
   ·split at h0
    ·assumption
    ·split at h0<;>simp at h0
  exact parts_two (n:=⟨n.op,n.w,n.k,plc l n.a,plc l n.b,n.c⟩) this
 ·have h0:=h
  have e:remap l n=⟨n.op,n.w,n.k,plc l n.a,plc l n.b,plc l n.c⟩:=by unfold remap;rw [h];rfl
  rw [e,h]
  have:n.op=18:=by
   unfold parts at h0
   split at h0
   ·simp at h0
   ·split at h0
    ·simp at h0
    ·split at h0
     ·assumption
     ·simp at h0
  exact parts_three (n:=⟨n.op,n.w,n.k,plc l n.a,plc l n.b,plc l n.c⟩) this
theorem remap_op (l:List Nd) (n:Nd):(remap l n).op=n.op:=rfl
theorem remap_k (l:List Nd) (n:Nd):(remap l n).k=n.k:=rfl
theorem shape_remap (l:List Nd) (n:Nd) (ws:List Int):shapeOk (remap l n) ws=shapeOk n ws:=by
 obtain ⟨op,w,k,a,b,c⟩:=n
 by_cases h1:op=2\/op=17\/op=19\/op=20
 ·have e:remap l ⟨op,w,k,a,b,c⟩=⟨op,w,k,plc l a,b,c⟩:=by unfold remap;rw [parts_one h1];rfl
  rw [e]
  unfold shapeOk
  dsimp only
  rcases h1 with h|h|h|h<;>subst h<;>rfl
 ·by_cases h2:3<=op/\op<=16
  ·have e:remap l ⟨op,w,k,a,b,c⟩=⟨op,w,k,plc l a,plc l b,c⟩:=by unfold remap;rw [parts_two h2];rfl
   rw [e]
   unfold shapeOk
   dsimp only
   have n0:¬ op=0:=by omega
   have n1:¬ op=1:=by omega
   have n2:¬ op=2:=by omega
   have n3:¬ op=17:=by omega
   have n4:¬ op=18:=by omega
   have n5:¬ (op=19\/op=20):=by omega
   simp only [if_neg n0,if_neg n1,if_neg n2,if_neg n3,if_neg n4,if_neg n5]
  ·by_cases h3:op=18
   ·subst h3
    have e:remap l ⟨18,w,k,a,b,c⟩=⟨18,w,k,plc l a,plc l b,plc l c⟩:=by unfold remap;rw [parts_three rfl];rfl
    rw [e];rfl
   ·have e:remap l ⟨op,w,k,a,b,c⟩=⟨op,w,k,a,b,c⟩:=by unfold remap;rw [parts_none h1 h2 h3];rfl
    rw [e]
theorem part_reached {l:List Nd} (hT:termOk l=true) {x:Nat} (hx:x < l.length) (hf:flag (reachL l) x=true) {p:Int} (hp:p∈parts (nth l x)) :
 ∃ y:Nat,p=(y:Int)/\y < x/\flag (reachL l) y=true/\plc l p=(pl l y:Int):=by
 have hd:=down_of hT x hx p hp
 have hr:=reach_closed (down_of hT) hx hf hp
 refine ⟨p.toNat,by omega,by omega,hr,?_⟩
 rw [<- plc_pl];congr 1;omega
theorem prune_node {l:List Nd} (hT:termOk l=true) {x:Nat} (hx:x < l.length) (hf:flag (reachL l) x=true):nodeOk (pruneL l) (pl l x)=true:=by
 have hn:=prune_nth hT hx hf
 have hk:=term_node hT hx
 have e:(parts (nth (pruneL l) (pl l x))).map (width (pruneL l))=(parts (nth l x)).map (width l):=by
  rw [hn,parts_remap,List.map_map]
  apply List.map_congr_left
  intro p hp
  obtain ⟨y,rfl,hyx,hy,hpl⟩:=part_reached hT hx hf hp
  simp only [Function.comp,width]
  rw [hpl,Int.toNat_natCast,prune_nth hT (by omega) hy,Int.toNat_natCast]
  rfl
 simp only [nodeOk,Bool.and_eq_true,List.all_eq_true,decide_eq_true_eq] at hk ⊢
 rw [e]
 refine ⟨⟨?_,?_⟩,?_⟩
 ·intro q hq
  rw [hn,parts_remap] at hq
  obtain ⟨p,hp,rfl⟩:=List.mem_map.1 hq
  obtain ⟨y,rfl,hyx,hy,hpl⟩:=part_reached hT hx hf hp
  have:=reachTo_lt l hyx hy
  rw [hpl]
  unfold pl
  omega
 ·rw [hn];exact hk.1.2
 ·rw [hn,shape_remap];exact hk.2
theorem prune_root {l:List Nd} (hT:termOk l=true):pl l (l.length - 1)=(pruneL l).length - 1/\1<=(pruneL l).length:=by
 have hl:=term_len hT
 have hr:=reach_root (l:=l) hl.1
 have h1:=pl_succ l (l.length - 1)
 rw [hr,if_pos rfl] at h1
 have e:l.length - 1+1=l.length:=by omega
 rw [e] at h1
 rw [prune_len hT]
 omega
theorem prune_term {l:List Nd} (hT:termOk l=true):termOk (pruneL l)=true:=by
 have hl:=term_len hT
 have h1:=(prune_root hT).2
 have h2:=pruneL_le l
 refine term_good ⟨h1,by omega⟩ (fun j hj=>?_)
 obtain ⟨x,hx,hf,rfl⟩:=pl_all hT hj
 exact prune_node hT hx hf
theorem prune_reach_at {l:List Nd} (hT:termOk l=true):∀ d x,l.length=x+1+d->flag (reachL l) x=true->flag (reachL (pruneL l)) (pl l x)=true:=by
 intro d
 induction d using Nat.strongRecOn with
 | ind d ih =>
   intro x hd hf
   rcases reach_why (down_of hT) (by omega) hf with h|⟨j,h1,h2,h3,h4⟩
   ·have hr:=prune_root hT
    have e:x=l.length - 1:=by omega
    rw [e,hr.1]
    exact reach_root hr.2
   ·have hj:=ih (l.length - j - 1) (by omega) j (by omega) h3
    have hp:(pl l x:Int)∈parts (nth (pruneL l) (pl l j)):=by
     rw [prune_nth hT h2 h3,parts_remap,<- plc_pl]
     exact List.mem_map_of_mem h4
    have:=reach_closed (down_of (prune_term hT)) (pl_lt hT h2 h3) hj hp
    rw [Int.toNat_natCast] at this
    exact this
theorem prune_reach {l:List Nd} (hT:termOk l=true) {j:Nat} (hj:j < (pruneL l).length):flag (reachL (pruneL l)) j=true:=by
 obtain ⟨x,hx,hf,rfl⟩:=pl_all hT hj
 exact prune_reach_at hT (l.length - x - 1) x (by omega) hf
theorem map_nth (m:List Nd):(List.range m.length).map (nth m)=m:=by
 apply List.ext_getElem
 ·simp
 ·intro i h1 h2
  simp only [List.getElem_map,List.getElem_range]
  exact (nth_get h2).symm
end Tm13
namespace Tm14
open Nd0 Pl1 Tm0 Tm1 Tm2 Tm3 Tm4 Tm5 Tm6 Tm8 Tm9 Tm10 Tm11 Tm13 Rw1
open Tm7 (row_old row_new flag_freeRow)
theorem row_prefix (l:List Nd) {k n i:Nat} (hi:i < k) (hk:k<=n):row (freeRows l n) (i:Int)=row (freeRows l k) (i:Int):=by
 induction n with
 | zero=>omega
 | succ n ih =>
   by_cases e:k=n+1
   ·subst e;rfl
   ·rw [<- ih (by omega)]
    exact row_old l n _ (by omega) (by omega)
theorem free_at {l:List Nd} (hD:Down l) {i:Nat} (hi:i < l.length) {v:Nat} (hv:v < 8):flag (row (freeRows l l.length) (i:Int)) v=freeAt (freeRows l l.length) (nth l i) v:=by
 rw [row_prefix l (k:=i+1) (n:=l.length) (by omega) (by omega),row_new,flag_freeRow _ _ _ hv]
 unfold freeAt
 have:inParts (freeRows l i) (parts (nth l i)) v=inParts (freeRows l l.length) (parts (nth l i)) v:=by
  unfold inParts
  rw [Bool.eq_iff_iff,List.any_eq_true,List.any_eq_true]
  constructor
  ·rintro ⟨p,hp,hf⟩
   have hd:=hD i hi p hp
   obtain ⟨y,rfl⟩:∃ y:Nat,p=(y:Int):=⟨p.toNat,by omega⟩
   exact ⟨_,hp,by rw [row_prefix l (k:=i) (n:=l.length) (by omega) (by omega)];exact hf⟩
  ·rintro ⟨p,hp,hf⟩
   have hd:=hD i hi p hp
   obtain ⟨y,rfl⟩:∃ y:Nat,p=(y:Int):=⟨p.toNat,by omega⟩
   exact ⟨_,hp,by rw [<- row_prefix l (k:=i) (n:=l.length) (by omega) (by omega)];exact hf⟩
 rw [this]
theorem remap_b_quant (l:List Nd) (n:Nd) (h:quant n.op=true):(remap l n).b=n.b:=by
 have h2:n.op=19\/n.op=20:=by simpa [quant] using h
 unfold remap
 rw [parts_one (by omega)];rfl
theorem quants_pl {l:List Nd} (hT:termOk l=true):∀ x,x<=l.length->quantsTo (pruneL l) (pl l x)=quantsTo l x:=by
 intro x
 induction x with
 | zero=>intro _;rfl
 | succ x ih =>
   intro hx
   rw [pl_succ]
   cases hf:flag (reachL l) x
   ·rw [quants_skip1 l x hf];exact ih (by omega)
   ·rw [if_pos rfl]
    show (quantsTo (pruneL l) (pl l x)).bind _=(quantsTo l x).bind _
    rw [ih (by omega)]
    congr 1
    funext ws
    unfold qStep
    rw [prune_reach hT (pl_lt hT (by omega) hf),hf,prune_nth hT (by omega) hf,remap_op,remap_k]
    cases hq:quant (nth l x).op
    ·rfl
    ·rw [remap_b_quant l _ hq]
theorem bits_pl {l:List Nd} (hT:termOk l=true):∀ x,x<=l.length->bitsTo (pruneL l) (pl l x)=bitsTo l x:=by
 intro x
 induction x with
 | zero=>intro _;rfl
 | succ x ih =>
   intro hx
   rw [pl_succ]
   have e:bitsTo l (x+1)=if flag (reachL l) x&&quant (nth l x).op then bitsTo l x+(nth l x).b else bitsTo l x:=rfl
   cases hf:flag (reachL l) x
   ·rw [e,hf];exact ih (by omega)
   ·rw [if_pos rfl,e]
    show (if flag (reachL (pruneL l)) (pl l x)&&quant (nth (pruneL l) (pl l x)).op then bitsTo (pruneL l) (pl l x)+(nth (pruneL l) (pl l x)).b else bitsTo (pruneL l) (pl l x))=_
    rw [prune_reach hT (pl_lt hT (by omega) hf),hf,prune_nth hT (by omega) hf,remap_op,ih (by omega)]
    cases hq:quant (nth l x).op
    ·rfl
    ·rw [remap_b_quant l _ hq]
end Tm14
namespace Vl1
open Nd0 Pl1 Pl2 Tm0 Tm1 Tm3 Tm5 Tm8 Tm11 Tm13 Tm14 Tr0
def nAnd (a b:Int):Int:=((a.toNat &&& b.toNat:Nat):Int)
def nOr (a b:Int):Int:=((a.toNat ||| b.toNat:Nat):Int)
def nXor (a b:Int):Int:=((a.toNat ^^^ b.toNat:Nat):Int)
def opL (op W k w a b c:Int):Int :=
 if op=0 then k
 else if op=2 then vFlip W a
 else if op=3 then nAnd a b
 else if op=4 then nOr a b
 else if op=5 then nXor a b
 else if op=6 then vAdd W a b
 else if op=7 then vSub W a b
 else if op=8 then vMul W a b
 else if op=9 then vDiv W a b
 else if op=10 then vRem W a b
 else if op=11 then vShl W a b
 else if op=12 then vShr W a b
 else if op=13 then (if a=b then 1 else 0)
 else if op=14 then vLess w a b
 else if op=15 then vLessSigned w a b
 else if op=16 then (if W < w then b else a*p2 (W - w).toNat+b)
 else if op=17 then vSlice w a k W
 else if op=18 then (if a=1 then b else c)
 else 0
def inR (x a b:Int):Bool:=decide (a<=x/\x<=b)
def applyL (op W k w a b c:Int):Int :=
 if inR W 1 8&&inR w 1 8&&inR a 0 255&&inR b 0 255&&inR c 0 255 then opL op W k w a b c else 0
def vT:Tr->List Int->Int
 | .leaf op w k,e=>if op=1 then e.getD k.toNat 0 else applyL op w k 1 0 0 0
 | .one op w k b x,e =>
   if op=19 then (if (List.range (2 ^ b.toNat)).all (fun i=>vT x (e.set k.toNat (i:Int))==1) then 1 else 0)
   else if op=20 then (if (List.range (2 ^ b.toNat)).any (fun i=>vT x (e.set k.toNat (i:Int))==1) then 1 else 0)
   else applyL op w k x.wid (vT x e) 0 0
 | .two op w x y,e=>applyL op w 0 x.wid (vT x e) (vT y e) 0
 | .three op w x y z,e=>applyL op w 0 x.wid (vT x e) (vT y e) (vT z e)
def orL (r s:List Nat):List Nat:=(List.range 8).map fun v=>r.getD v 0 ||| s.getD v 0
def needT:Tr->Option (List Nat)
 | .leaf op w k=>some ((List.range 8).map fun (v:Nat)=>if op=1/\k=(v:Int) then 2 ^ w.toNat else 0)
 | .one op w k b x=>(needT x).bind fun r =>
   if quant op then (if r.getD k.toNat 0≠0/\r.getD k.toNat 0≠2 ^ b.toNat then none else some (r.set k.toNat 0)) else some r
 | .two _ _ x y=>(needT x).bind fun r=>(needT y).bind fun s=>some (orL r s)
 | .three _ _ x y z=>(needT x).bind fun r=>(needT y).bind fun s=>(needT z).bind fun u=>some (orL (orL r s) u)
def fitR (r:List Nat) (e:List Int):Bool:=(List.range 8).all fun (v:Nat)=>(List.range 8).all fun (j:Nat) => !(r.getD v 0).testBit (j+1)||wok ((j:Int)+1) (e.getD v 0)
def fitT (x:Tr) (e:List Int):Bool:=match needT x with
 | none=>false
 | some r=>fitR r e
def Rt:Tr->Prop
 | .leaf op w k=>1<=w/\w<=8/\((op=0/\wok w k=true)\/(op=1/\0<=k/\k<=7))
 | .one op w k b x=>1<=w/\w<=8/\Rt x/\((op=2/\x.wid=w)\/(op=17/\0<=k/\k<=x.wid - w)\/((op=19\/op=20)/\x.wid=1/\w=1/\0<=k/\k<=7/\1<=b/\b<=8))
 | .two op w x y=>1<=w/\w<=8/\Rt x/\Rt y/\((3<=op/\op<=12/\x.wid=w/\y.wid=w)\/(13<=op/\op<=15/\x.wid=y.wid/\w=1)\/(op=16/\x.wid+y.wid=w))
 | .three op w x y z=>1<=w/\w<=8/\Rt x/\Rt y/\Rt z/\op=18/\x.wid=1/\y.wid=w/\z.wid=w
theorem Rt.wid {x:Tr} (h:Rt x):1<=x.wid/\x.wid<=8:=by
 cases x<;>exact ⟨h.1,h.2.1⟩
theorem rt_all {l:List Nd} (hD:Down l) (hN:∀ k,k < l.length->nodeOk l k=true):∀ i,i < l.length->Rt (tr l i)/\(tr l i).wid=(nth l i).w:=by
 intro i
 induction i using Nat.strongRecOn with
 | ind i ih =>
   intro hi
   rw [tr_at hD hi,mk_wid]
   refine ⟨?_,rfl⟩
   have hok:=hN i hi
   have hw:=node_width hok
   have hd:=hD i hi
   have hp:∀ p∈parts (nth l i),Rt (tr l p.toNat)/\(tr l p.toNat).wid=width l p:=fun p hp=>by
    have:=hd p hp
    exact ih p.toNat (by omega) (by omega)
   simp only [nodeOk,Bool.and_eq_true] at hok
   have hs:=hok.2
   generalize nth l i=n at hw hp hs
   by_cases h1:n.op=2\/n.op=17\/n.op=19\/n.op=20
   ·rw [parts_one h1] at hp hs
    rw [mk_one h1]
    obtain ⟨r1,r2⟩:=hp n.a (by simp)
    refine ⟨hw.1,hw.2,r1,?_⟩
    rw [r2]
    unfold shapeOk at hs
    simp only [List.map_cons,List.map_nil,List.getD_cons_zero] at hs
    rcases h1 with h|h|h|h
    ·rw [if_neg (by omega),if_neg (by omega),if_pos h] at hs
     have:=of_decide_eq_true hs
     exact .inl ⟨h,this.1⟩
    ·rw [if_neg (by omega),if_neg (by omega),if_neg (by omega),if_neg (by omega),if_neg (by omega),if_neg (by omega),if_pos h] at hs
     have:=of_decide_eq_true hs
     exact .inr (.inl ⟨h,this.1,this.2.1⟩)
    ·rw [if_neg (by omega),if_neg (by omega),if_neg (by omega),if_neg (by omega),if_neg (by omega),if_neg (by omega),if_neg (by omega),if_neg (by omega),if_pos (.inl h)] at hs
     have:=of_decide_eq_true hs
     exact .inr (.inr ⟨.inl h,this.2.2.2.2.1,this.2.2.2.2.2.1,this.1,this.2.1,this.2.2.1,this.2.2.2.1⟩)
    ·rw [if_neg (by omega),if_neg (by omega),if_neg (by omega),if_neg (by omega),if_neg (by omega),if_neg (by omega),if_neg (by omega),if_neg (by omega),if_pos (.inr h)] at hs
     have:=of_decide_eq_true hs
     exact .inr (.inr ⟨.inr h,this.2.2.2.2.1,this.2.2.2.2.2.1,this.1,this.2.1,this.2.2.1,this.2.2.2.1⟩)
   ·by_cases h2:3<=n.op/\n.op<=16
    ·rw [parts_two h2] at hp hs
     rw [mk_two h2]
     obtain ⟨r1,r2⟩:=hp n.a (by simp)
     obtain ⟨s1,s2⟩:=hp n.b (by simp)
     refine ⟨hw.1,hw.2,r1,s1,?_⟩
     rw [r2,s2]
     unfold shapeOk at hs
     simp only [List.map_cons,List.map_nil,List.getD_cons_zero,List.getD_cons_succ] at hs
     rw [if_neg (by omega),if_neg (by omega),if_neg (by omega)] at hs
     by_cases h12:n.op<=12
     ·rw [if_pos (by omega)] at hs
      have:=of_decide_eq_true hs
      exact .inl ⟨h2.1,h12,this.1,this.2.1⟩
     ·rw [if_neg (by omega)] at hs
      by_cases h15:n.op<=15
      ·rw [if_pos (by omega)] at hs
       have:=of_decide_eq_true hs
       exact .inr (.inl ⟨by omega,h15,this.1,this.2.1⟩)
      ·rw [if_neg (by omega),if_pos (by omega)] at hs
       have:=of_decide_eq_true hs
       exact .inr (.inr ⟨by omega,this.1⟩)
    ·by_cases h3:n.op=18
     ·rw [parts_three h3] at hp hs
      rw [mk_three h3]
      obtain ⟨r1,r2⟩:=hp n.a (by simp)
      obtain ⟨s1,s2⟩:=hp n.b (by simp)
      obtain ⟨u1,u2⟩:=hp n.c (by simp)
      refine ⟨hw.1,hw.2,r1,s1,u1,h3,?_⟩
      rw [r2,s2,u2]
      unfold shapeOk at hs
      simp only [List.map_cons,List.map_nil,List.getD_cons_zero,List.getD_cons_succ] at hs
      rw [if_neg (by omega),if_neg (by omega),if_neg (by omega),if_neg (by omega),if_neg (by omega),if_neg (by omega),if_neg (by omega),if_pos h3] at hs
      have:=of_decide_eq_true hs
      exact ⟨this.1,this.2.1,this.2.2.1⟩
     ·rw [parts_none h1 h2 h3] at hs
      rw [mk_leaf h1 h2 h3]
      refine ⟨hw.1,hw.2,?_⟩
      unfold shapeOk at hs
      by_cases h0:n.op=0
      ·rw [if_pos h0] at hs
       simp only [Bool.and_eq_true] at hs
       exact .inl ⟨h0,hs.1⟩
      ·rw [if_neg h0] at hs
       by_cases hv:n.op=1
       ·rw [if_pos hv] at hs
        have:=of_decide_eq_true hs
        exact .inr ⟨hv,this.1,this.2.1⟩
       ·rw [if_neg hv,if_neg (by omega),if_neg (by omega),if_neg (by omega),if_neg (by omega),if_neg (by omega),if_neg (by omega),if_neg (by omega)] at hs
        cases hs
def root (l:List Nd):Tr:=tr l (l.length - 1)
def valueL (l:List Nd) (e:List Int):Option Int :=
 if termOk l&&decide (e.length=8)&&decide (bitsTo l l.length<=12)&&fitT (root l) e then some (vT (root l) e) else none
theorem tr_prune {l:List Nd} (hT:termOk l=true):∀ x,x < l.length->flag (reachL l) x=true->tr (pruneL l) (pl l x)=tr l x:=by
 intro x
 induction x using Nat.strongRecOn with
 | ind x ih =>
   intro hx hf
   have hD:=down_of hT
   have hDp:=down_of (prune_term hT)
   rw [tr_at hDp (pl_lt hT hx hf),tr_at hD hx,prune_nth hT hx hf]
   have hp:∀ p∈parts (nth l x),tr (pruneL l) (plc l p).toNat=tr l p.toNat:=fun p hp=>by
    have h1:=hD x hx p hp
    have h2:=reach_closed hD hx hf hp
    have h3:=ih p.toNat (by omega) (by omega) h2
    have h4:=plc_pl l p.toNat
    rw [Int.toNat_of_nonneg h1.1] at h4
    rw [h4,Int.toNat_natCast]
    exact h3
   generalize nth l x=n at hp
   by_cases h1:n.op=2\/n.op=17\/n.op=19\/n.op=20
   ·rw [mk_one (n:=remap l n) (by exact h1),mk_one h1]
    have hl:=parts_one h1
    rw [hl] at hp
    have e1:(remap l n).a=plc l n.a:=by unfold remap;simp [hl]
    have e2:(remap l n).b=n.b:=by unfold remap;simp [hl]
    rw [e1,e2,hp n.a (by simp)]
    rfl
   ·by_cases h2:3<=n.op/\n.op<=16
    ·rw [mk_two (n:=remap l n) (by exact h2),mk_two h2]
     have hl:=parts_two h2
     rw [hl] at hp
     have e1:(remap l n).a=plc l n.a:=by unfold remap;simp [hl]
     have e2:(remap l n).b=plc l n.b:=by unfold remap;simp [hl]
     rw [e1,e2,hp n.a (by simp),hp n.b (by simp)]
     rfl
    ·by_cases h3:n.op=18
     ·rw [mk_three (n:=remap l n) (by exact h3),mk_three h3]
      have hl:=parts_three h3
      rw [hl] at hp
      have e1:(remap l n).a=plc l n.a:=by unfold remap;simp [hl]
      have e2:(remap l n).b=plc l n.b:=by unfold remap;simp [hl]
      have e3:(remap l n).c=plc l n.c:=by unfold remap;simp [hl]
      rw [e1,e2,e3,hp n.a (by simp),hp n.b (by simp),hp n.c (by simp)]
      rfl
     ·rw [mk_leaf (n:=remap l n) (by exact h1) (by exact h2) (by exact h3),mk_leaf h1 h2 h3]
      rfl
theorem root_prune {l:List Nd} (hT:termOk l=true):root (pruneL l)=root l:=by
 unfold root
 rw [<- (prune_root hT).1]
 exact tr_prune hT _ (by have:=term_len hT;omega) (reach_root (by have:=term_len hT;omega))
theorem value_prune {l:List Nd} (hT:termOk l=true) (e:List Int):valueL (pruneL l) e=valueL l e:=by
 unfold valueL
 have hb:bitsTo (pruneL l) (pruneL l).length=bitsTo l l.length:=by
  rw [prune_len hT];exact bits_pl hT l.length (Nat.le_refl _)
 rw [prune_term hT,hT,hb,root_prune hT]
end Vl1
end Go.Proofs.YthanhcobfehmnaaGreat
