import Derived.Test.YtbellafdjfliiaaGreatPkBOM9
import Derived.Test.YtbellafdjfliiaaGreatPkBOM12
import Derived.Test.YtbellafdjfliiaaGreatPkBOM6
import Derived.Test.YtbellafdjfliiaaGreatPkBOM1
namespace Go.Proofs.YtbellafdjfliiaaGreat
set_option maxRecDepth 100000
set_option maxHeartbeats 8000000
set_option linter.unusedVariables false
namespace Aq0
open Nd0 Pl1 Tm0 Tm1 Tm3 Tm4 Tm5 Tm7 Tm8 Tm12 Tm13
def wk {α:Type} (d:α) (f:Nat->Nd->List α->α) (l:List Nd):Nat->List α
 | 0=>[]
 | k+1=>wk d f l k++[f k (nth l k) ((parts (nth l k)).map fun p=>(wk d f l k).getD p.toNat d)]
theorem wk_length {α:Type} (d:α) (f:Nat->Nd->List α->α) (l:List Nd) (k:Nat):(wk d f l k).length=k:=by
 induction k with
 | zero=>rfl
 | succ k ih=>show (wk d f l k++[_]).length=_;rw [List.length_append,ih];rfl
theorem wk_old {α:Type} (d:α) (f:Nat->Nd->List α->α) (l:List Nd) {i k n:Nat} (h:i < k) (hn:k<=n):(wk d f l n).getD i d=(wk d f l k).getD i d:=by
 induction n with
 | zero=>have:k=0:=by omega
         subst this;rfl
 | succ n ih =>
   by_cases e:k=n+1
   ·subst e;rfl
   ·rw [<- ih (by omega)]
    show (wk d f l n++[_]).getD i d=_
    rw [List.getD_eq_getElem?_getD,List.getElem?_append_left (by rw [wk_length];omega),<- List.getD_eq_getElem?_getD]
theorem wk_new {α:Type} (d:α) (f:Nat->Nd->List α->α) (l:List Nd) (k:Nat):(wk d f l (k+1)).getD k d=f k (nth l k) ((parts (nth l k)).map fun p=>(wk d f l k).getD p.toNat d):=by
 show (wk d f l k++[_]).getD k d=_
 rw [List.getD_eq_getElem?_getD,List.getElem?_append_right (by rw [wk_length];exact Nat.le_refl _),wk_length]
 simp
theorem wk_set {α:Type} (d:α) (f:Nat->Nd->List α->α) (l:List Nd) (k i:Nat):(wk d f l (k+1)).getD i d=if i=k then f k (nth l k) ((parts (nth l k)).map fun p=>(wk d f l k).getD p.toNat d) else (wk d f l k).getD i d:=by
 by_cases e:i=k
 ·rw [if_pos e,e,wk_new]
 ·rw [if_neg e]
  by_cases h:i < k
  ·exact wk_old d f l h (by omega)
  ·rw [List.getD_eq_getElem?_getD,List.getD_eq_getElem?_getD,List.getElem?_eq_none (by rw [wk_length];omega),List.getElem?_eq_none (by rw [wk_length];omega)]
def said {α:Type} (d:α) (f:Nat->Nd->List α->α) (l:List Nd) (i:Nat):List α:=(parts (nth l i)).map fun p=>(wk d f l i).getD p.toNat d
theorem said_len {α:Type} (d:α) (f:Nat->Nd->List α->α) (l:List Nd) (i:Nat):(said d f l i).length=(parts (nth l i)).length:=by simp [said]
theorem wk_flat {α:Type} (d:α) (g:Nat->Nd->α) (l:List Nd) (k:Nat):wk d (fun i n _=>g i n) l k=(List.range k).map fun i=>g i (nth l i):=by
 induction k with
 | zero=>rfl
 | succ k ih=>show wk d _ l k++[_]=_;rw [ih,List.range_succ,List.map_append];rfl
theorem wk_map {α:Type} (d:α) (g:Nd->α) (l:List Nd):wk d (fun _ n _=>g n) l l.length=l.map g:=by
 rw [wk_flat d (fun _ n=>g n)]
 conv=>rhs;rw [<- map_nth l]
 rw [List.map_map];rfl
def nmd (n:Nd):Bool:=n.op==1||quant n.op
def numB (l:List Nd) (v:Nat):Bool:=l.any fun n=>nmd n&&n.k==(v:Int)
def numTo (l:List Nd) (k v:Nat):Bool:=numB (l.take k) v
theorem numTo_succ {l:List Nd} {k:Nat} (h:k < l.length) (v:Nat):numTo l (k+1) v=(numTo l k v||(nmd (nth l k)&&(nth l k).k==(v:Int))):=by
 unfold numTo numB
 rw [List.take_succ_eq_append_getElem h,List.any_append,nth_get h]
 simp
theorem numTo_all (l:List Nd) (v:Nat):numTo l l.length v=numB l v:=by unfold numTo;rw [List.take_length]
def numRow (l:List Nd):List Bool:=(List.range 8).map (numB l)
theorem numRow_flag (l:List Nd) {v:Nat} (hv:v < 8):flag (numRow l) v=numB l v:=by simp [flag,numRow,List.getD,hv]
def varsTo (l:List Nd) (k:Nat):List Int:=((List.range k).filter (numB l)).map fun (i:Nat)=>(i:Int)
def varsL (l:List Nd):List Int:=varsTo (pruneL l) 8
def HasN (s:Nat) (l:List Nd):Prop:=s < 256/\∀ v,v < 8->s.testBit v=numB l v
theorem nums_has {s:Nat} {l:List Nd} (h:HasN s l):numsTo s 8=varsTo l 8:=by
 unfold numsTo varsTo
 congr 1
 apply List.filter_congr
 intro v hv
 exact h.2 v (List.mem_range.1 hv)
def renN (v u:Int) (n:Nd):Nd:=if nmd n&&n.k==v then { n with k:=u } else n
def renL (l:List Nd) (v u:Int):List Nd:=l.map (renN v u)
def behB (l:List Nd) (n:Nd):Bool:=termOk l&&termOk (l++[n])
def behL (l:List Nd) (n:Nd):List Nd:=if behB l n then l++[n] else []
theorem behL_le (l:List Nd) (n:Nd):(behL l n).length<=l.length+1:=by
 unfold behL
 split
 ·simp
 ·exact Nat.zero_le _
def denN (l:List Nd):Nd:=⟨2,(nth l (l.length - 1)).w,0,(l.length:Int) - 1,0,0⟩
theorem nodeOk_less {l m:List Nd} {i:Nat} (hi:i < l.length) (h:nodeOk (l++m) i=true):nodeOk l i=true:=by
 have e0:∀ j,j < l.length->nth (l++m) j=nth l j:=by
  intro j hj
  unfold nth
  rw [List.getD_eq_getElem?_getD,List.getElem?_append_left hj,<- List.getD_eq_getElem?_getD]
 have hp:=parts_ok h
 rw [e0 i hi] at hp
 have e:(parts (nth (l++m) i)).map (width (l++m))=(parts (nth l i)).map (width l):=by
  rw [e0 i hi]
  apply List.map_congr_left
  intro p hpm
  obtain ⟨j,hj,rfl⟩:=List.getElem_of_mem hpm
  have:=hp j hj
  unfold width
  rw [e0 _ (by omega)]
 simp only [nodeOk] at h ⊢
 rw [e,e0 i hi] at h
 exact h
theorem term_less {l m:List Nd} (h:termOk (l++m)=true) (h1:1<=l.length):termOk l=true:=by
 have hl:=term_len h
 rw [List.length_append] at hl
 exact term_good (by omega) fun k hk=>nodeOk_less hk (term_node h (by rw [List.length_append];omega))
end Aq0
namespace Tx0
open Nd0 Pl1 Tm0 Tm1
end Tx0
namespace Tx1
open Nd0 Pl1 Tm0 Tm1 Tx0
end Tx1
namespace Tx2
open Nd0 Pl1 Tm0 Tm1 Tm3 Tm8 Tx0 Tx1
theorem nth_app {t m:List Nd} {j:Nat} (h:j < t.length):nth (t++m) j=nth t j:=by
 unfold nth
 rw [List.getD_eq_getElem?_getD,List.getElem?_append_left h,<- List.getD_eq_getElem?_getD]
end Tx2
namespace Tx3
open Nd0 Pl1 Tm0 Tm1 Tm3 Tm8 Tx0 Tx1 Tx2
end Tx3
namespace Tr0
open Nd0 Pl1 Tm0 Tm1 Tm3 Tm8 Tx0 Tx1 Tx2 Tx3
inductive Tr where
 | leaf (op w k:Int)
 | one (op w k b:Int) (x:Tr)
 | two (op w:Int) (x y:Tr)
 | three (op w:Int) (x y z:Tr)
def Tr.nil:Tr:=.leaf 0 0 0
def Tr.op:Tr->Int
 | .leaf o _ _=>o
 | .one o _ _ _ _=>o
 | .two o _ _ _=>o
 | .three o _ _ _ _=>o
def Tr.wid:Tr->Int
 | .leaf _ w _=>w
 | .one _ w _ _ _=>w
 | .two _ w _ _=>w
 | .three _ w _ _ _=>w
def mkF (n:Nd) (f:Nat->Tr):Tr :=
 if n.op=2\/n.op=17\/n.op=19\/n.op=20 then .one n.op n.w n.k n.b (f n.a.toNat)
 else if 3<=n.op/\n.op<=16 then .two n.op n.w (f n.a.toNat) (f n.b.toNat)
 else if n.op=18 then .three n.op n.w (f n.a.toNat) (f n.b.toNat) (f n.c.toNat)
 else .leaf n.op n.w n.k
def trTo (l:List Nd):Nat->List Tr
 | 0=>[]
 | k+1=>trTo l k++[mkF (nth l k) fun i=>(trTo l k).getD i Tr.nil]
def tr (l:List Nd) (i:Nat):Tr:=(trTo l l.length).getD i Tr.nil
theorem mk_one {n:Nd} (h:n.op=2\/n.op=17\/n.op=19\/n.op=20) (f:Nat->Tr):mkF n f=.one n.op n.w n.k n.b (f n.a.toNat):=if_pos h
theorem mk_two {n:Nd} (h:3<=n.op/\n.op<=16) (f:Nat->Tr):mkF n f=.two n.op n.w (f n.a.toNat) (f n.b.toNat):=by unfold mkF;rw [if_neg (by omega),if_pos h]
theorem mk_three {n:Nd} (h:n.op=18) (f:Nat->Tr):mkF n f=.three n.op n.w (f n.a.toNat) (f n.b.toNat) (f n.c.toNat):=by unfold mkF;rw [if_neg (by omega),if_neg (by omega),if_pos h]
theorem mk_leaf {n:Nd} (h:¬ (n.op=2\/n.op=17\/n.op=19\/n.op=20)) (h2:¬ (3<=n.op/\n.op<=16)) (h3:¬ n.op=18) (f:Nat->Tr):mkF n f=.leaf n.op n.w n.k:=by unfold mkF;rw [if_neg h,if_neg h2,if_neg h3]
theorem mk_wid (n:Nd) (f:Nat->Tr):(mkF n f).wid=n.w:=by
 unfold mkF
 split
 ·rfl
 ·split
  ·rfl
  ·split<;>rfl
theorem mk_congr {n:Nd} {f g:Nat->Tr} (h:∀ p∈parts n,f p.toNat=g p.toNat):mkF n f=mkF n g:=by
 by_cases h1:n.op=2\/n.op=17\/n.op=19\/n.op=20
 ·rw [parts_one h1] at h
  rw [mk_one h1,mk_one h1,h n.a (by simp)]
 ·by_cases h2:3<=n.op/\n.op<=16
  ·rw [parts_two h2] at h
   rw [mk_two h2,mk_two h2,h n.a (by simp),h n.b (by simp)]
  ·by_cases h3:n.op=18
   ·rw [parts_three h3] at h
    rw [mk_three h3,mk_three h3,h n.a (by simp),h n.b (by simp),h n.c (by simp)]
   ·rw [mk_leaf h1 h2 h3,mk_leaf h1 h2 h3]
theorem trTo_length (l:List Nd) (k:Nat):(trTo l k).length=k:=by
 induction k with
 | zero=>rfl
 | succ k ih=>show (trTo l k++[_]).length=_;rw [List.length_append,ih];rfl
theorem tr_prefix (l:List Nd) {i k:Nat} (hi:i < k):∀ n,k<=n->(trTo l n).getD i Tr.nil=(trTo l k).getD i Tr.nil:=by
 intro n hn
 obtain ⟨d,rfl⟩:∃ d,n=k+d:=⟨n - k,by omega⟩
 clear hn
 induction d with
 | zero=>rfl
 | succ d ih =>
   rw [<- ih]
   show (trTo l (k+d)++[_]).getD i Tr.nil=_
   rw [List.getD_eq_getElem?_getD,List.getElem?_append_left (by rw [trTo_length];omega),<- List.getD_eq_getElem?_getD]
theorem tr_at {l:List Nd} (hD:Down l) {i:Nat} (hi:i < l.length):tr l i=mkF (nth l i) (tr l):=by
 unfold tr
 rw [tr_prefix l (k:=i+1) (by omega) l.length (by omega)]
 show (trTo l i++[mkF (nth l i) fun j=>(trTo l i).getD j Tr.nil]).getD i Tr.nil=_
 rw [List.getD_eq_getElem?_getD,List.getElem?_append_right (by rw [trTo_length];exact Nat.le_refl _),trTo_length,Nat.sub_self]
 show mkF (nth l i) (fun j=>(trTo l i).getD j Tr.nil)=_
 refine mk_congr (fun p hp=>?_)
 have:=hD i hi p hp
 exact (tr_prefix l (i:=p.toNat) (k:=i) (by omega) l.length (by omega)).symm
theorem trTo_app (t m:List Nd):∀ k,k<=t.length->trTo (t++m) k=trTo t k:=by
 intro k
 induction k with
 | zero=>intro _;rfl
 | succ k ih =>
   intro hk
   show trTo (t++m) k++[_]=trTo t k++[_]
   rw [ih (by omega),nth_app (by omega)]
theorem tr_app (t m:List Nd) {j:Nat} (h:j < t.length):tr (t++m) j=tr t j:=by
 unfold tr
 rw [tr_prefix (t++m) (k:=t.length) h (t++m).length (by simp),trTo_app t m _ (Nat.le_refl _)]
end Tr0
namespace Pl2
open Go.RowKit
open Pl1
theorem wok_mod {m:Int} (x:Int) (h1:1<=m) (h2:m<=8):wok m (x % p2 m.toNat)=true :=
 wok_iff.2 ⟨h1,h2,emod_le _⟩
theorem add_eq {m a b:Int} (ha:wok m a=true) (hb:wok m b=true):vAdd m a b=(a+b) % p2 m.toNat:=by simp [vAdd,ha,hb]
theorem sub_eq {m a b:Int} (ha:wok m a=true) (hb:wok m b=true):vSub m a b=(a - b) % p2 m.toNat:=by simp [vSub,ha,hb]
theorem mul_eq {m a b:Int} (ha:wok m a=true) (hb:wok m b=true):vMul m a b=a*b % p2 m.toNat:=by simp [vMul,ha,hb]
theorem flip_eq {m a:Int} (ha:wok m a=true):vFlip m a=p2 m.toNat - 1 - a:=by simp [vFlip,ha]
theorem wok_add {m a b:Int} (ha:wok m a=true) (hb:wok m b=true):wok m (vAdd m a b)=true:=by
 obtain ⟨h1,h2,_⟩:=wok_iff.1 ha
 rw [add_eq ha hb];exact wok_mod _ h1 h2
theorem wok_sub {m a b:Int} (ha:wok m a=true) (hb:wok m b=true):wok m (vSub m a b)=true:=by
 obtain ⟨h1,h2,_⟩:=wok_iff.1 ha
 rw [sub_eq ha hb];exact wok_mod _ h1 h2
theorem wok_mul {m a b:Int} (ha:wok m a=true) (hb:wok m b=true):wok m (vMul m a b)=true:=by
 obtain ⟨h1,h2,_⟩:=wok_iff.1 ha
 rw [mul_eq ha hb];exact wok_mod _ h1 h2
theorem wok_flip {m a:Int} (ha:wok m a=true):wok m (vFlip m a)=true:=by
 obtain ⟨h1,h2,h3,h4⟩:=wok_iff.1 ha
 rw [flip_eq ha];exact wok_iff.2 ⟨h1,h2,by omega,by omega⟩
theorem wok_zero {m:Int} (h1:1<=m) (h2:m<=8):wok m 0=true:=wok_iff.2 ⟨h1,h2,by omega,by have:=p2_pos m.toNat;omega⟩
end Pl2
namespace Tm11
open Nd0 Pl1 Tm0 Tm1 Tm2 Tm4 Tm5 Tm6 Tm8 Tm9 Tm10
def bitsTo (l:List Nd):Nat->Int
 | 0=>0
 | k+1=>if flag (reachL l) k&&quant (nth l k).op then bitsTo l k+(nth l k).b else bitsTo l k
def bitsL (l:List Nd):Int:=if sentB l then bitsTo l l.length else 0
theorem quant_b {l:List Nd} {k:Nat} (h:nodeOk l k=true) (hq:quant (nth l k).op=true):1<=(nth l k).b/\(nth l k).b<=8:=by
 simp only [nodeOk,Bool.and_eq_true] at h
 have hs:=h.2
 unfold shapeOk at hs
 have h2:(nth l k).op=19\/(nth l k).op=20:=by simpa [quant] using hq
 rw [if_neg (by omega),if_neg (by omega),if_neg (by omega),if_neg (by omega),if_neg (by omega),if_neg (by omega),if_neg (by omega),if_neg (by omega),if_pos h2] at hs
 simp at hs;omega
theorem bits_bound {l:List Nd} (hT:termOk l=true):∀ k,k<=l.length->0<=bitsTo l k/\bitsTo l k<=8*(k:Int):=by
 intro k
 induction k with
 | zero=>intro _;exact ⟨Int.le_refl _,Int.le_refl _⟩
 | succ k ih =>
   intro hk
   have:=ih (by omega)
   have e:bitsTo l (k+1)=if flag (reachL l) k&&quant (nth l k).op then bitsTo l k+(nth l k).b else bitsTo l k:=rfl
   rw [e]
   split
   ·rename_i h
    simp only [Bool.and_eq_true] at h
    have:=quant_b (term_node hT (by omega:k < l.length)) h.2
    omega
   ·omega
theorem bits_skip (l:List Nd) {x y:Nat} (hxy:x<=y) (h:(reachTo l x).length=(reachTo l y).length):bitsTo l y=bitsTo l x:=by
 induction y with
 | zero=>have:x=0:=by omega
         subst this;rfl
 | succ y ih =>
   by_cases e:x=y+1
   ·subst e;rfl
   ·have hf:flag (reachL l) y=false:=flag_between l h (by omega) (by omega)
    have e1:bitsTo l (y+1)=bitsTo l y:=by show (if _ then _ else _)=_;rw [hf];rfl
    rw [e1]
    refine ih (by omega) ?_
    have:=reachTo_succ l y
    rw [hf] at this
    rw [h,this];rfl
theorem bits_same (l:List Nd) {x y:Nat} (h:(reachTo l x).length=(reachTo l y).length):bitsTo l y=bitsTo l x:=by
 rcases Nat.le_total x y with hh|hh
 ·exact bits_skip l hh h
 ·exact (bits_skip l hh h.symm).symm
theorem sent_ok {l:List Nd} (h:sentB l=true):termOk l=true:=by
 cases ht:termOk l
 ·rw [sent_term ht] at h;cases h
 ·rfl
end Tm11
namespace Tm14
open Nd0 Pl1 Tm0 Tm1 Tm2 Tm3 Tm4 Tm5 Tm6 Tm8 Tm9 Tm10 Tm11 Tm13 Rw1
open Tm7 (row_old row_new flag_freeRow)
theorem row_prefix (l:List Nd) {k n i:Nat} (hi:i < k) (hk:k<=n):row (freeRows l n) (i:Int)=row (freeRows l k) (i:Int):=by
 induction n with
 | zero=>omega
 | succ n ih =>
   by_cases e:k=n+1
   ·subst e;rfl
   ·rw [<- ih (by omega)]
    exact row_old l n _ (by omega) (by omega)
theorem free_at {l:List Nd} (hD:Down l) {i:Nat} (hi:i < l.length) {v:Nat} (hv:v < 8):flag (row (freeRows l l.length) (i:Int)) v=freeAt (freeRows l l.length) (nth l i) v:=by
 rw [row_prefix l (k:=i+1) (n:=l.length) (by omega) (by omega),row_new,flag_freeRow _ _ _ hv]
 unfold freeAt
 have:inParts (freeRows l i) (parts (nth l i)) v=inParts (freeRows l l.length) (parts (nth l i)) v:=by
  unfold inParts
  rw [Bool.eq_iff_iff,List.any_eq_true,List.any_eq_true]
  constructor
  ·rintro ⟨p,hp,hf⟩
   have hd:=hD i hi p hp
   obtain ⟨y,rfl⟩:∃ y:Nat,p=(y:Int):=⟨p.toNat,by omega⟩
   exact ⟨_,hp,by rw [row_prefix l (k:=i) (n:=l.length) (by omega) (by omega)];exact hf⟩
  ·rintro ⟨p,hp,hf⟩
   have hd:=hD i hi p hp
   obtain ⟨y,rfl⟩:∃ y:Nat,p=(y:Int):=⟨p.toNat,by omega⟩
   exact ⟨_,hp,by rw [<- row_prefix l (k:=i) (n:=l.length) (by omega) (by omega)];exact hf⟩
 rw [this]
theorem remap_b_quant (l:List Nd) (n:Nd) (h:quant n.op=true):(remap l n).b=n.b:=by
 have h2:n.op=19\/n.op=20:=by simpa [quant] using h
 unfold remap
 rw [parts_one (by omega)];rfl
theorem quants_pl {l:List Nd} (hT:termOk l=true):∀ x,x<=l.length->quantsTo (pruneL l) (pl l x)=quantsTo l x:=by
 intro x
 induction x with
 | zero=>intro _;rfl
 | succ x ih =>
   intro hx
   rw [pl_succ]
   cases hf:flag (reachL l) x
   ·rw [quants_skip1 l x hf];exact ih (by omega)
   ·rw [if_pos rfl]
    show (quantsTo (pruneL l) (pl l x)).bind _=(quantsTo l x).bind _
    rw [ih (by omega)]
    congr 1
    funext ws
    unfold qStep
    rw [prune_reach hT (pl_lt hT (by omega) hf),hf,prune_nth hT (by omega) hf,remap_op,remap_k]
    cases hq:quant (nth l x).op
    ·rfl
    ·rw [remap_b_quant l _ hq]
theorem bits_pl {l:List Nd} (hT:termOk l=true):∀ x,x<=l.length->bitsTo (pruneL l) (pl l x)=bitsTo l x:=by
 intro x
 induction x with
 | zero=>intro _;rfl
 | succ x ih =>
   intro hx
   rw [pl_succ]
   have e:bitsTo l (x+1)=if flag (reachL l) x&&quant (nth l x).op then bitsTo l x+(nth l x).b else bitsTo l x:=rfl
   cases hf:flag (reachL l) x
   ·rw [e,hf];exact ih (by omega)
   ·rw [if_pos rfl,e]
    show (if flag (reachL (pruneL l)) (pl l x)&&quant (nth (pruneL l) (pl l x)).op then bitsTo (pruneL l) (pl l x)+(nth (pruneL l) (pl l x)).b else bitsTo (pruneL l) (pl l x))=_
    rw [prune_reach hT (pl_lt hT (by omega) hf),hf,prune_nth hT (by omega) hf,remap_op,ih (by omega)]
    cases hq:quant (nth l x).op
    ·rfl
    ·rw [remap_b_quant l _ hq]
def times (ps:List Int) (q:Nat):Nat:=(ps.filter fun p=>p.toNat==q).length
theorem addUses_wd (ps:List Int):∀ (us:List Int) (q:Nat),(∀ p∈ps,p.toNat < us.length)->wd (addUses us ps) (q:Int)=wd us (q:Int)+(times ps q:Int):=by
 induction ps with
 | nil=>intro us q _;simp [addUses,times]
 | cons p ps ih =>
   intro us q h
   have hp:=h p (by simp)
   show wd (addUses (us.set p.toNat (wd us p+1)) ps) (q:Int)=_
   rw [ih _ _ (fun r hr=>by rw [List.length_set];exact h r (by simp [hr])),wd_set hp]
   unfold times
   by_cases e:p.toNat=q
   ·have e2:=wd_toNat us p
    rw [e] at e2
    have e3:(p.toNat==q)=true:=by simpa using e
    rw [if_pos e.symm,List.filter_cons,e3,if_pos rfl,e2,List.length_cons]
    omega
   ·have e3:(p.toNat==q)=false:=by simpa using e
    rw [if_neg (fun x=>e x.symm),List.filter_cons,e3]
    rfl
theorem wd_zeros (n:Nat) (p:Int):wd (List.replicate n 0) p=0:=by have:=upto_zero n p;omega
theorem sent_iff (l:List Nd):sentB l=true↔termOk l=true/\(nth l (l.length - 1)).w=1/\(freeL l).length=0/\∃ ws,quantsTo l l.length=some ws/\Wid l ws/\Mov l:=by
 constructor
 ·intro h
  refine ⟨sent_ok h,?_,?_,?_⟩
  ·apply Classical.byContradiction;intro e;rw [sent_root e] at h;cases h
  ·apply Classical.byContradiction;intro e;rw [sent_free e] at h;cases h
  ·cases hq:quantsTo l l.length with
   | none=>rw [sent_quants (Nat.le_refl _) hq] at h;cases h
   | some ws =>
     refine ⟨ws,rfl,?_,?_,?_⟩
     ·intro i hi hf ho
      apply Classical.byContradiction;intro e;rw [sent_wid hq hi hf ho e] at h;cases h
     ·intro i hi hf hh
      cases ho:outer (nth l i).op
      ·rw [sent_outer hi hf hh ho] at h;cases h
      ·rfl
     ·intro i hi hf hh
      apply Classical.byContradiction;intro e;rw [sent_used hi hf hh (by omega)] at h;cases h
 ·rintro ⟨h1,h2,h3,ws,hq,hw,hm⟩
  exact sent_all h1 h2 h3 hq hw hm
end Tm14
namespace Vl1
open Nd0 Pl1 Pl2 Tm0 Tm1 Tm3 Tm5 Tm8 Tm11 Tm13 Tm14 Tr0
def nAnd (a b:Int):Int:=((a.toNat &&& b.toNat:Nat):Int)
def nOr (a b:Int):Int:=((a.toNat ||| b.toNat:Nat):Int)
def nXor (a b:Int):Int:=((a.toNat ^^^ b.toNat:Nat):Int)
def opL (op W k w a b c:Int):Int :=
 if op=0 then k
 else if op=2 then vFlip W a
 else if op=3 then nAnd a b
 else if op=4 then nOr a b
 else if op=5 then nXor a b
 else if op=6 then vAdd W a b
 else if op=7 then vSub W a b
 else if op=8 then vMul W a b
 else if op=9 then vDiv W a b
 else if op=10 then vRem W a b
 else if op=11 then vShl W a b
 else if op=12 then vShr W a b
 else if op=13 then (if a=b then 1 else 0)
 else if op=14 then vLess w a b
 else if op=15 then vLessSigned w a b
 else if op=16 then (if W < w then b else a*p2 (W - w).toNat+b)
 else if op=17 then vSlice w a k W
 else if op=18 then (if a=1 then b else c)
 else 0
def inR (x a b:Int):Bool:=decide (a<=x/\x<=b)
def applyL (op W k w a b c:Int):Int :=
 if inR W 1 8&&inR w 1 8&&inR a 0 255&&inR b 0 255&&inR c 0 255 then opL op W k w a b c else 0
def vT:Tr->List Int->Int
 | .leaf op w k,e=>if op=1 then e.getD k.toNat 0 else applyL op w k 1 0 0 0
 | .one op w k b x,e =>
   if op=19 then (if (List.range (2 ^ b.toNat)).all (fun i=>vT x (e.set k.toNat (i:Int))==1) then 1 else 0)
   else if op=20 then (if (List.range (2 ^ b.toNat)).any (fun i=>vT x (e.set k.toNat (i:Int))==1) then 1 else 0)
   else applyL op w k x.wid (vT x e) 0 0
 | .two op w x y,e=>applyL op w 0 x.wid (vT x e) (vT y e) 0
 | .three op w x y z,e=>applyL op w 0 x.wid (vT x e) (vT y e) (vT z e)
def orL (r s:List Nat):List Nat:=(List.range 8).map fun v=>r.getD v 0 ||| s.getD v 0
def needT:Tr->Option (List Nat)
 | .leaf op w k=>some ((List.range 8).map fun (v:Nat)=>if op=1/\k=(v:Int) then 2 ^ w.toNat else 0)
 | .one op w k b x=>(needT x).bind fun r =>
   if quant op then (if r.getD k.toNat 0≠0/\r.getD k.toNat 0≠2 ^ b.toNat then none else some (r.set k.toNat 0)) else some r
 | .two _ _ x y=>(needT x).bind fun r=>(needT y).bind fun s=>some (orL r s)
 | .three _ _ x y z=>(needT x).bind fun r=>(needT y).bind fun s=>(needT z).bind fun u=>some (orL (orL r s) u)
def fitR (r:List Nat) (e:List Int):Bool:=(List.range 8).all fun (v:Nat)=>(List.range 8).all fun (j:Nat) => !(r.getD v 0).testBit (j+1)||wok ((j:Int)+1) (e.getD v 0)
def fitT (x:Tr) (e:List Int):Bool:=match needT x with
 | none=>false
 | some r=>fitR r e
def Rt:Tr->Prop
 | .leaf op w k=>1<=w/\w<=8/\((op=0/\wok w k=true)\/(op=1/\0<=k/\k<=7))
 | .one op w k b x=>1<=w/\w<=8/\Rt x/\((op=2/\x.wid=w)\/(op=17/\0<=k/\k<=x.wid - w)\/((op=19\/op=20)/\x.wid=1/\w=1/\0<=k/\k<=7/\1<=b/\b<=8))
 | .two op w x y=>1<=w/\w<=8/\Rt x/\Rt y/\((3<=op/\op<=12/\x.wid=w/\y.wid=w)\/(13<=op/\op<=15/\x.wid=y.wid/\w=1)\/(op=16/\x.wid+y.wid=w))
 | .three op w x y z=>1<=w/\w<=8/\Rt x/\Rt y/\Rt z/\op=18/\x.wid=1/\y.wid=w/\z.wid=w
theorem Rt.wid {x:Tr} (h:Rt x):1<=x.wid/\x.wid<=8:=by
 cases x<;>exact ⟨h.1,h.2.1⟩
theorem rt_all {l:List Nd} (hD:Down l) (hN:∀ k,k < l.length->nodeOk l k=true):∀ i,i < l.length->Rt (tr l i)/\(tr l i).wid=(nth l i).w:=by
 intro i
 induction i using Nat.strongRecOn with
 | ind i ih =>
   intro hi
   rw [tr_at hD hi,mk_wid]
   refine ⟨?_,rfl⟩
   have hok:=hN i hi
   have hw:=node_width hok
   have hd:=hD i hi
   have hp:∀ p∈parts (nth l i),Rt (tr l p.toNat)/\(tr l p.toNat).wid=width l p:=fun p hp=>by
    have:=hd p hp
    exact ih p.toNat (by omega) (by omega)
   simp only [nodeOk,Bool.and_eq_true] at hok
   have hs:=hok.2
   generalize nth l i=n at hw hp hs
   by_cases h1:n.op=2\/n.op=17\/n.op=19\/n.op=20
   ·rw [parts_one h1] at hp hs
    rw [mk_one h1]
    obtain ⟨r1,r2⟩:=hp n.a (by simp)
    refine ⟨hw.1,hw.2,r1,?_⟩
    rw [r2]
    unfold shapeOk at hs
    simp only [List.map_cons,List.map_nil,List.getD_cons_zero] at hs
    rcases h1 with h|h|h|h
    ·rw [if_neg (by omega),if_neg (by omega),if_pos h] at hs
     have:=of_decide_eq_true hs
     exact .inl ⟨h,this.1⟩
    ·rw [if_neg (by omega),if_neg (by omega),if_neg (by omega),if_neg (by omega),if_neg (by omega),if_neg (by omega),if_pos h] at hs
     have:=of_decide_eq_true hs
     exact .inr (.inl ⟨h,this.1,this.2.1⟩)
    ·rw [if_neg (by omega),if_neg (by omega),if_neg (by omega),if_neg (by omega),if_neg (by omega),if_neg (by omega),if_neg (by omega),if_neg (by omega),if_pos (.inl h)] at hs
     have:=of_decide_eq_true hs
     exact .inr (.inr ⟨.inl h,this.2.2.2.2.1,this.2.2.2.2.2.1,this.1,this.2.1,this.2.2.1,this.2.2.2.1⟩)
    ·rw [if_neg (by omega),if_neg (by omega),if_neg (by omega),if_neg (by omega),if_neg (by omega),if_neg (by omega),if_neg (by omega),if_neg (by omega),if_pos (.inr h)] at hs
     have:=of_decide_eq_true hs
     exact .inr (.inr ⟨.inr h,this.2.2.2.2.1,this.2.2.2.2.2.1,this.1,this.2.1,this.2.2.1,this.2.2.2.1⟩)
   ·by_cases h2:3<=n.op/\n.op<=16
    ·rw [parts_two h2] at hp hs
     rw [mk_two h2]
     obtain ⟨r1,r2⟩:=hp n.a (by simp)
     obtain ⟨s1,s2⟩:=hp n.b (by simp)
     refine ⟨hw.1,hw.2,r1,s1,?_⟩
     rw [r2,s2]
     unfold shapeOk at hs
     simp only [List.map_cons,List.map_nil,List.getD_cons_zero,List.getD_cons_succ] at hs
     rw [if_neg (by omega),if_neg (by omega),if_neg (by omega)] at hs
     by_cases h12:n.op<=12
     ·rw [if_pos (by omega)] at hs
      have:=of_decide_eq_true hs
      exact .inl ⟨h2.1,h12,this.1,this.2.1⟩
     ·rw [if_neg (by omega)] at hs
      by_cases h15:n.op<=15
      ·rw [if_pos (by omega)] at hs
       have:=of_decide_eq_true hs
       exact .inr (.inl ⟨by omega,h15,this.1,this.2.1⟩)
      ·rw [if_neg (by omega),if_pos (by omega)] at hs
       have:=of_decide_eq_true hs
       exact .inr (.inr ⟨by omega,this.1⟩)
    ·by_cases h3:n.op=18
     ·rw [parts_three h3] at hp hs
      rw [mk_three h3]
      obtain ⟨r1,r2⟩:=hp n.a (by simp)
      obtain ⟨s1,s2⟩:=hp n.b (by simp)
      obtain ⟨u1,u2⟩:=hp n.c (by simp)
      refine ⟨hw.1,hw.2,r1,s1,u1,h3,?_⟩
      rw [r2,s2,u2]
      unfold shapeOk at hs
      simp only [List.map_cons,List.map_nil,List.getD_cons_zero,List.getD_cons_succ] at hs
      rw [if_neg (by omega),if_neg (by omega),if_neg (by omega),if_neg (by omega),if_neg (by omega),if_neg (by omega),if_neg (by omega),if_pos h3] at hs
      have:=of_decide_eq_true hs
      exact ⟨this.1,this.2.1,this.2.2.1⟩
     ·rw [parts_none h1 h2 h3] at hs
      rw [mk_leaf h1 h2 h3]
      refine ⟨hw.1,hw.2,?_⟩
      unfold shapeOk at hs
      by_cases h0:n.op=0
      ·rw [if_pos h0] at hs
       simp only [Bool.and_eq_true] at hs
       exact .inl ⟨h0,hs.1⟩
      ·rw [if_neg h0] at hs
       by_cases hv:n.op=1
       ·rw [if_pos hv] at hs
        have:=of_decide_eq_true hs
        exact .inr ⟨hv,this.1,this.2.1⟩
       ·rw [if_neg hv,if_neg (by omega),if_neg (by omega),if_neg (by omega),if_neg (by omega),if_neg (by omega),if_neg (by omega),if_neg (by omega)] at hs
        cases hs
def root (l:List Nd):Tr:=tr l (l.length - 1)
def valueL (l:List Nd) (e:List Int):Option Int :=
 if termOk l&&decide (e.length=8)&&decide (bitsTo l l.length<=12)&&fitT (root l) e then some (vT (root l) e) else none
theorem tr_prune {l:List Nd} (hT:termOk l=true):∀ x,x < l.length->flag (reachL l) x=true->tr (pruneL l) (pl l x)=tr l x:=by
 intro x
 induction x using Nat.strongRecOn with
 | ind x ih =>
   intro hx hf
   have hD:=down_of hT
   have hDp:=down_of (prune_term hT)
   rw [tr_at hDp (pl_lt hT hx hf),tr_at hD hx,prune_nth hT hx hf]
   have hp:∀ p∈parts (nth l x),tr (pruneL l) (plc l p).toNat=tr l p.toNat:=fun p hp=>by
    have h1:=hD x hx p hp
    have h2:=reach_closed hD hx hf hp
    have h3:=ih p.toNat (by omega) (by omega) h2
    have h4:=plc_pl l p.toNat
    rw [Int.toNat_of_nonneg h1.1] at h4
    rw [h4,Int.toNat_natCast]
    exact h3
   generalize nth l x=n at hp
   by_cases h1:n.op=2\/n.op=17\/n.op=19\/n.op=20
   ·rw [mk_one (n:=remap l n) (by exact h1),mk_one h1]
    have hl:=parts_one h1
    rw [hl] at hp
    have e1:(remap l n).a=plc l n.a:=by unfold remap;simp [hl]
    have e2:(remap l n).b=n.b:=by unfold remap;simp [hl]
    rw [e1,e2,hp n.a (by simp)]
    rfl
   ·by_cases h2:3<=n.op/\n.op<=16
    ·rw [mk_two (n:=remap l n) (by exact h2),mk_two h2]
     have hl:=parts_two h2
     rw [hl] at hp
     have e1:(remap l n).a=plc l n.a:=by unfold remap;simp [hl]
     have e2:(remap l n).b=plc l n.b:=by unfold remap;simp [hl]
     rw [e1,e2,hp n.a (by simp),hp n.b (by simp)]
     rfl
    ·by_cases h3:n.op=18
     ·rw [mk_three (n:=remap l n) (by exact h3),mk_three h3]
      have hl:=parts_three h3
      rw [hl] at hp
      have e1:(remap l n).a=plc l n.a:=by unfold remap;simp [hl]
      have e2:(remap l n).b=plc l n.b:=by unfold remap;simp [hl]
      have e3:(remap l n).c=plc l n.c:=by unfold remap;simp [hl]
      rw [e1,e2,e3,hp n.a (by simp),hp n.b (by simp),hp n.c (by simp)]
      rfl
     ·rw [mk_leaf (n:=remap l n) (by exact h1) (by exact h2) (by exact h3),mk_leaf h1 h2 h3]
      rfl
theorem root_prune {l:List Nd} (hT:termOk l=true):root (pruneL l)=root l:=by
 unfold root
 rw [<- (prune_root hT).1]
 exact tr_prune hT _ (by have:=term_len hT;omega) (reach_root (by have:=term_len hT;omega))
theorem value_prune {l:List Nd} (hT:termOk l=true) (e:List Int):valueL (pruneL l) e=valueL l e:=by
 unfold valueL
 have hb:bitsTo (pruneL l) (pruneL l).length=bitsTo l l.length:=by
  rw [prune_len hT];exact bits_pl hT l.length (Nat.le_refl _)
 rw [prune_term hT,hT,hb,root_prune hT]
end Vl1
end Go.Proofs.YtbellafdjfliiaaGreat
