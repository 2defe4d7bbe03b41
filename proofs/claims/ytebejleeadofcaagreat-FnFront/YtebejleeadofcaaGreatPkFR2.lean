import Derived.Test.YtebejleeadofcaaGreatRows
import Derived.Deep.AppendLies
import Derived.OwnWalk
import Derived.Test.YtebejleeadofcaaGreatPkFR1
import Derived.Test.YtebejleeadofcaaGreatPkFR0
namespace Go.Proofs.YtebejleeadofcaaGreat
set_option maxRecDepth 100000
set_option maxHeartbeats 8000000
set_option linter.unusedVariables false
namespace Tm1
open Nd0 Pl1 Tm0
def markAll (bs:List Bool) (ps:List Int):List Bool:=ps.foldl (fun b p=>b.set p.toNat true) bs
theorem markAll_length (ps:List Int):∀ bs:List Bool,(markAll bs ps).length=bs.length:=by
 induction ps with
 | nil=>intro bs;rfl
 | cons p ps ih=>intro bs;show (markAll (bs.set p.toNat true) ps).length=_;rw [ih,List.length_set]
def flag (bs:List Bool) (i:Nat):Bool:=bs.getD i false
theorem flag_get {bs:List Bool} {i:Nat} (h:i < bs.length):bs[i]=flag bs i:=by simp [flag,List.getD,h]
theorem flag_set {bs:List Bool} {i j:Nat} (h:i < bs.length) (x:Bool):flag (bs.set i x) j=if i=j then x else flag bs j:=by
 by_cases e:i=j
 ·subst e;simp [flag,List.getD,h]
 ·simp [flag,List.getD,e]
def reachStep (l:List Nd) (bs:List Bool) (i:Nat):List Bool:=if flag bs i then markAll bs (parts (nth l i)) else bs
def reachDown (l:List Nd):Nat->List Bool->List Bool
 | 0,bs=>bs
 | k+1,bs=>reachDown l k (reachStep l bs k)
def reachInit (n:Nat):List Bool:=(List.range n).map fun i=>i+1==n
def reachL (l:List Nd):List Bool:=reachDown l l.length (reachInit l.length)
theorem reachStep_length (l:List Nd) (bs:List Bool) (i:Nat):(reachStep l bs i).length=bs.length:=by
 unfold reachStep;split
 ·exact markAll_length _ _
 ·rfl
theorem reachDown_length (l:List Nd):∀ (k:Nat) (bs:List Bool),(reachDown l k bs).length=bs.length:=by
 intro k
 induction k with
 | zero=>intro bs;rfl
 | succ k ih=>intro bs;show (reachDown l k (reachStep l bs k)).length=_;rw [ih,reachStep_length]
theorem reachInit_length (n:Nat):(reachInit n).length=n:=by simp [reachInit]
theorem reachL_length (l:List Nd):(reachL l).length=l.length:=by unfold reachL;rw [reachDown_length,reachInit_length]
theorem parts_ok {l:List Nd} {i:Nat} (h:nodeOk l i=true):∀ k (hk:k < (parts (nth l i)).length),0<=(parts (nth l i))[k]/\(parts (nth l i))[k] < i:=by
 simp only [nodeOk,Bool.and_eq_true,List.all_eq_true,decide_eq_true_eq] at h
 intro k hk
 exact h.1.1 _ (List.getElem_mem hk)
end Tm1
namespace Tm2
open Nd0 Pl1 Tm0 Tm1
def reachTo (l:List Nd) (k:Nat):List Int:=((List.range k).filter (flag (reachL l))).map fun (i:Nat)=>(i:Int)
def reachedL (l:List Nd):List Int:=if termOk l then reachTo l l.length else []
theorem reachTo_succ (l:List Nd) (k:Nat):reachTo l (k+1)=if flag (reachL l) k then reachTo l k++[(k:Int)] else reachTo l k:=by
 unfold reachTo
 rw [List.range_succ,List.filter_append,List.map_append]
 cases h:flag (reachL l) k<;>simp [h]
theorem reachTo_length (l:List Nd) (k:Nat):(reachTo l k).length<=k:=by
 unfold reachTo
 rw [List.length_map]
 exact Nat.le_trans (List.length_filter_le _ _) (by simp)
theorem reachedL_le (l:List Nd):(reachedL l).length<=l.length:=by
 unfold reachedL;split
 ·exact reachTo_length l _
 ·exact Nat.zero_le _
end Tm2
namespace Tm3
open Nd0 Pl1 Tm0 Tm1 Tm2
def plc (l:List Nd) (p:Int):Int:=((reachTo l p.toNat).length:Int)
def places (l:List Nd) (k:Nat):List Int:=(List.range k).map fun i=>((reachTo l i).length:Int)
theorem places_length (l:List Nd) (k:Nat):(places l k).length=k:=by simp [places]
theorem places_get (l:List Nd) (k i:Nat) (h:i < (places l k).length):(places l k)[i]=plc l (i:Int):=by simp [places,plc]
theorem places_succ (l:List Nd) (k:Nat):places l (k+1)=places l k++[((reachTo l k).length:Int)]:=by
 unfold places;rw [List.range_succ,List.map_append];rfl
def remap (l:List Nd) (n:Nd):Nd :=
 ⟨n.op,n.w,n.k,if 0 < (parts n).length then plc l n.a else n.a,if 1 < (parts n).length then plc l n.b else n.b,if 2 < (parts n).length then plc l n.c else n.c⟩
def pruneTo (l:List Nd) (k:Nat):List Nd:=((List.range k).filter (flag (reachL l))).map fun i=>remap l (nth l i)
def pruneL (l:List Nd):List Nd:=if termOk l then pruneTo l l.length else []
theorem pruneTo_succ (l:List Nd) (k:Nat):pruneTo l (k+1)=if flag (reachL l) k then pruneTo l k++[remap l (nth l k)] else pruneTo l k:=by
 unfold pruneTo
 rw [List.range_succ,List.filter_append,List.map_append]
 cases h:flag (reachL l) k<;>simp [h]
theorem pruneTo_length (l:List Nd) (k:Nat):(pruneTo l k).length=(reachTo l k).length:=by simp [pruneTo,reachTo]
theorem pruneL_le (l:List Nd):(pruneL l).length<=l.length:=by
 unfold pruneL;split
 ·rw [pruneTo_length];exact reachTo_length l _
 ·exact Nat.zero_le _
theorem parts_cases (n:Nd):parts n=[]\/parts n=[n.a]\/parts n=[n.a,n.b]\/parts n=[n.a,n.b,n.c]:=by
 unfold parts
 split
 ·exact .inr (.inl rfl)
 ·split
  ·exact .inr (.inr (.inl rfl))
  ·split
   ·exact .inr (.inr (.inr rfl))
   ·exact .inl rfl
end Tm3
namespace Tm8
open Nd0 Pl1 Tm0 Tm1 Tm2 Tm3
theorem markAll_flag (ps:List Int):∀ (bs:List Bool) (i:Nat),i < bs.length->flag (markAll bs ps) i=(flag bs i||ps.any fun p=>p.toNat==i):=by
 induction ps with
 | nil=>intro bs i _;simp [markAll]
 | cons p ps ih =>
   intro bs i hi
   show flag (markAll (bs.set p.toNat true) ps) i=_
   rw [ih _ _ (by rw [List.length_set];exact hi)]
   by_cases hp:p.toNat < bs.length
   ·rw [flag_set hp]
    by_cases e:p.toNat=i
    ·simp [e]
    ·have e':(p.toNat==i)=false:=by simpa using e
     rw [if_neg e,List.any_cons,e',Bool.false_or]
   ·have:bs.set p.toNat true=bs:=List.set_eq_of_length_le (by omega)
    rw [this]
    have e':(p.toNat==i)=false:=by simp;omega
    rw [List.any_cons,e',Bool.false_or]
def Down (l:List Nd):Prop:=∀ i,i < l.length->∀ p∈parts (nth l i),0<=p/\p < (i:Int)
theorem down_of {l:List Nd} (h:termOk l=true):Down l:=by
 intro i hi p hp
 obtain ⟨j,hj,rfl⟩:=List.getElem_of_mem hp
 exact parts_ok (term_node h hi) j hj
theorem step_flag {l:List Nd} (bs:List Bool) (k i:Nat) (hi:i < bs.length):flag (reachStep l bs k) i=(flag bs i||(flag bs k&&(parts (nth l k)).any fun p=>p.toNat==i)):=by
 unfold reachStep
 cases h:flag bs k
 ·simp
 ·rw [if_pos rfl,markAll_flag _ _ _ hi];simp
theorem down_high {l:List Nd} (hD:Down l):∀ (k:Nat) (bs:List Bool),bs.length=l.length->k<=l.length->∀ i,k<=i+1->i < l.length->flag (reachDown l k bs) i=flag bs i:=by
 intro k
 induction k with
 | zero=>intro bs _ _ i _ _;rfl
 | succ k ih =>
   intro bs hb hk i hi hl
   show flag (reachDown l k (reachStep l bs k)) i=_
   rw [ih _ (by rw [reachStep_length];exact hb) (by omega) i (by omega) hl,step_flag _ _ _ (by omega)]
   have:((parts (nth l k)).any fun p=>p.toNat==i)=false:=by
    rw [List.any_eq_false]
    intro p hp
    have:=hD k (by omega) p hp
    simp;omega
   rw [this];simp
theorem down_closed {l:List Nd} (hD:Down l):∀ (k:Nat) (bs:List Bool),bs.length=l.length->k<=l.length->(∀ i,k<=i->i < l.length->flag bs i=true->∀ p∈parts (nth l i),flag bs p.toNat=true) ->
 ∀ i,i < l.length->flag (reachDown l k bs) i=true->∀ p∈parts (nth l i),flag (reachDown l k bs) p.toNat=true:=by
 intro k
 induction k with
 | zero=>intro bs _ _ h i hi hf p hp;exact h i (by omega) hi hf p hp
 | succ k ih =>
   intro bs hb hk h
   refine ih (reachStep l bs k) (by rw [reachStep_length];exact hb) (by omega) ?_
   intro i hki hi hf p hp
   have hpd:=hD i hi p hp
   rw [step_flag _ _ _ (by omega)] at hf
   rw [step_flag _ _ _ (by omega)]
   have hna:((parts (nth l k)).any fun q=>q.toNat==i)=false:=by
    rw [List.any_eq_false]
    intro q hq
    have:=hD k (by omega) q hq
    simp;omega
   rw [hna,Bool.and_false,Bool.or_false] at hf
   by_cases e:i=k
   ·subst e
    rw [hf]
    have:((parts (nth l i)).any fun q=>q.toNat==p.toNat)=true:=List.any_eq_true.2 ⟨p,hp,by simp⟩
    rw [this];simp
   ·rw [h i (by omega) hi hf p hp];simp
theorem init_flag (n i:Nat) (h:i < n):flag (reachInit n) i=(i+1==n):=by simp [flag,reachInit,List.getD,h]
theorem reach_closed {l:List Nd} (hD:Down l) {i:Nat} (hi:i < l.length) (hf:flag (reachL l) i=true) {p:Int} (hp:p∈parts (nth l i)):flag (reachL l) p.toNat=true :=
 down_closed hD l.length _ (reachInit_length _) (Nat.le_refl _) (fun i h1 h2=>by omega) i hi hf p hp
theorem down_more {l:List Nd}:∀ (k:Nat) (bs:List Bool),bs.length=l.length->∀ i,i < l.length->flag bs i=true->flag (reachDown l k bs) i=true:=by
 intro k
 induction k with
 | zero=>intro bs _ i _ h;exact h
 | succ k ih =>
   intro bs hb i hi h
   refine ih (reachStep l bs k) (by rw [reachStep_length];exact hb) i hi ?_
   rw [step_flag _ _ _ (by omega),h];rfl
theorem reach_root {l:List Nd} (h:1<=l.length):flag (reachL l) (l.length - 1)=true :=
 down_more l.length _ (reachInit_length _) _ (by omega) (by rw [init_flag _ _ (by omega)];simp;omega)
theorem down_why {l:List Nd} (hD:Down l):∀ (k:Nat) (bs:List Bool),bs.length=l.length->k<=l.length->∀ i,i < l.length->flag (reachDown l k bs) i=true->flag bs i=true\/∃ j,i < j/\j < l.length/\flag (reachDown l k bs) j=true/\(i:Int)∈parts (nth l j):=by
 intro k
 induction k with
 | zero=>intro bs _ _ i _ h;exact .inl h
 | succ k ih =>
   intro bs hb hk i hi h
   rcases ih (reachStep l bs k) (by rw [reachStep_length];exact hb) (by omega) i hi h with h1|h1
   ·rw [step_flag _ _ _ (by omega)] at h1
    simp only [Bool.or_eq_true,Bool.and_eq_true] at h1
    rcases h1 with h1|⟨h1,h2⟩
    ·exact .inl h1
    ·obtain ⟨p,hp,hpe⟩:=List.any_eq_true.1 h2
     have hd:=hD k (by omega) p hp
     simp at hpe
     have hpi:p=(i:Int):=by omega
     subst hpi
     refine .inr ⟨k,by omega,by omega,?_,hp⟩
     exact down_more k _ (by rw [reachStep_length];exact hb) k (by omega) (by rw [step_flag _ _ _ (by omega),h1];rfl)
   ·exact .inr h1
theorem reach_why {l:List Nd} (hD:Down l) {i:Nat} (hi:i < l.length) (hf:flag (reachL l) i=true):i+1=l.length\/∃ j,i < j/\j < l.length/\flag (reachL l) j=true/\(i:Int)∈parts (nth l j):=by
 rcases down_why hD l.length _ (reachInit_length _) (Nat.le_refl _) i hi hf with h|h
 ·rw [init_flag _ _ hi] at h;exact .inl (by simpa using h)
 ·exact .inr h
theorem reach_at (l:List Nd):∀ (k j:Nat) (h:j < (reachTo l k).length),∃ x:Nat,(reachTo l k)[j]=(x:Int)/\x < k/\flag (reachL l) x=true/\(reachTo l x).length=j:=by
 intro k
 induction k with
 | zero=>intro j h;simp [reachTo] at h
 | succ k ih =>
   intro j h
   have e:=reachTo_succ l k
   cases hf:flag (reachL l) k
   ·rw [hf] at e
    simp only [Bool.false_eq_true,if_false] at e
    have h':j < (reachTo l k).length:=by rw [<- e];exact h
    obtain ⟨x,h1,h2,h3,h4⟩:=ih j h'
    exact ⟨x,by simp only [e];exact h1,by omega,h3,h4⟩
   ·rw [hf,if_pos rfl] at e
    have hlen:(reachTo l (k+1)).length=(reachTo l k).length+1:=by rw [e];simp
    by_cases hj:j < (reachTo l k).length
    ·obtain ⟨x,h1,h2,h3,h4⟩:=ih j hj
     refine ⟨x,?_,by omega,h3,h4⟩
     simp only [e]
     rw [List.getElem_append_left hj];exact h1
    ·have hje:j=(reachTo l k).length:=by omega
     refine ⟨k,?_,by omega,hf,hje.symm⟩
     simp only [e,hje]
     rw [List.getElem_append_right (Nat.le_refl _)]
     simp
theorem reachTo_mono (l:List Nd) {a b:Nat} (h:a<=b):(reachTo l a).length<=(reachTo l b).length:=by
 induction b with
 | zero=>have:a=0:=by omega
         subst this;exact Nat.le_refl _
 | succ b ih =>
   by_cases e:a=b+1
   ·subst e;exact Nat.le_refl _
   ·refine Nat.le_trans (ih (by omega)) ?_
    rw [reachTo_succ];split
    ·simp
    ·exact Nat.le_refl _
theorem reachTo_lt (l:List Nd) {a b:Nat} (h:a < b) (hf:flag (reachL l) a=true):(reachTo l a).length < (reachTo l b).length:=by
 have h1:=reachTo_mono l (a:=a+1) (b:=b) (by omega)
 rw [reachTo_succ,hf,if_pos rfl,List.length_append] at h1
 simp at h1;omega
theorem reachTo_inj (l:List Nd) {a b:Nat} (ha:flag (reachL l) a=true) (hb:flag (reachL l) b=true) (h:(reachTo l a).length=(reachTo l b).length):a=b:=by
 rcases Nat.lt_trichotomy a b with h1|h1|h1
 ·have:=reachTo_lt l h1 ha;omega
 ·exact h1
 ·have:=reachTo_lt l h1 hb;omega
theorem prune_map (l:List Nd) (k:Nat):pruneTo l k=(reachTo l k).map fun p=>remap l (nth l p.toNat):=by
 unfold pruneTo reachTo;rw [List.map_map];rfl
end Tm8
namespace Tm4
open Nd0 Pl1 Tm0 Tm1
def row (rows:List (List Bool)) (p:Int):List Bool:=rows.getD p.toNat []
def inParts (rows:List (List Bool)) (ps:List Int) (v:Nat):Bool:=ps.any fun p=>flag (row rows p) v
def freeAt (rows:List (List Bool)) (n:Nd) (v:Nat):Bool :=
 if (n.op==19||n.op==20)&&n.k==(v:Int) then false else (n.op==1&&n.k==(v:Int))||inParts rows (parts n) v
def freeRow (rows:List (List Bool)) (n:Nd):List Bool:=(List.range 8).map (freeAt rows n)
def freeRows (l:List Nd):Nat->List (List Bool)
 | 0=>[]
 | k+1=>freeRows l k++[freeRow (freeRows l k) (nth l k)]
theorem freeRows_length (l:List Nd) (k:Nat):(freeRows l k).length=k:=by
 induction k with
 | zero=>rfl
 | succ k ih=>show (freeRows l k++[_]).length=_;rw [List.length_append,ih];rfl
theorem freeRow_length (rows:List (List Bool)) (n:Nd):(freeRow rows n).length=8:=by simp [freeRow]
theorem freeRow_take (rows:List (List Bool)) (n:Nd) (v:Nat) (h:v < 8):(freeRow rows n).take (v+1)=(freeRow rows n).take v++[freeAt rows n v]:=by
 rw [List.take_succ_eq_append_getElem (by rw [freeRow_length];exact h)]
 simp [freeRow]
def freeTop (l:List Nd):List Bool:=row (freeRows l l.length) ((l.length:Int) - 1)
def freeTo (l:List Nd) (k:Nat):List Int:=((List.range k).filter (flag (freeTop l))).map fun (i:Nat)=>(i:Int)
def freeL (l:List Nd):List Int:=if termOk l then freeTo l 8 else []
theorem freeTo_succ (l:List Nd) (k:Nat):freeTo l (k+1)=if flag (freeTop l) k then freeTo l k++[(k:Int)] else freeTo l k:=by
 unfold freeTo
 rw [List.range_succ,List.filter_append,List.map_append]
 cases h:flag (freeTop l) k<;>simp [h]
theorem freeTo_length (l:List Nd) (k:Nat):(freeTo l k).length<=k:=by
 unfold freeTo
 rw [List.length_map]
 exact Nat.le_trans (List.length_filter_le _ _) (by simp)
theorem inParts_take (rows:List (List Bool)) (ps:List Int) (v k:Nat) (h:k < ps.length):inParts rows (ps.take (k+1)) v=(inParts rows (ps.take k) v||flag (row rows ps[k]) v):=by
 unfold inParts
 rw [List.take_succ_eq_append_getElem h,List.any_append]
 simp
end Tm4
namespace Tm5
open Nd0 Pl1 Tm0 Tm1
def quant (op:Int):Bool:=op==19||op==20
def outer (op:Int):Bool:=op==2||op==3||op==4||quant op
def below (bs:List Bool) (ps:List Int):Bool:=ps.any fun p=>flag bs p.toNat
def holdTo (l:List Nd):Nat->List Bool
 | 0=>[]
 | k+1=>holdTo l k++[quant (nth l k).op||below (holdTo l k) (parts (nth l k))]
theorem holdTo_length (l:List Nd) (k:Nat):(holdTo l k).length=k:=by
 induction k with
 | zero=>rfl
 | succ k ih=>show (holdTo l k++[_]).length=_;rw [List.length_append,ih];rfl
theorem below_take (bs:List Bool) (ps:List Int) (k:Nat) (h:k < ps.length):below bs (ps.take (k+1))=(below bs (ps.take k)||flag bs (ps[k]).toNat):=by
 unfold below
 rw [List.take_succ_eq_append_getElem h,List.any_append]
 simp
end Tm5
namespace Tm6
open Nd0 Pl1 Tm0 Tm1 Tm4 Tm5
def wd (ws:List Int) (p:Int):Int:=ws.getD p.toNat 0
theorem wd_get {ws:List Int} {i:Nat} (h:i < ws.length):ws[i]=wd ws (i:Int):=by simp [wd,List.getD,h]
def qStep (l:List Nd) (ws:List Int) (k:Nat):Option (List Int) :=
 if flag (reachL l) k&&quant (nth l k).op then (if wd ws (nth l k).k=0 then some (ws.set (nth l k).k.toNat (nth l k).b) else none) else some ws
def quantsTo (l:List Nd):Nat->Option (List Int)
 | 0=>some (List.replicate 8 0)
 | k+1=>(quantsTo l k).bind fun ws=>qStep l ws k
def badNode (l:List Nd) (ws:List Int) (k:Nat):Bool :=
 ((nth l k).op==1&&wd ws (nth l k).k != (nth l k).w)||(flag (holdTo l l.length) k && !outer (nth l k).op)
def addUses (us:List Int) (ps:List Int):List Int:=ps.foldl (fun u p=>u.set p.toNat (wd u p+1)) us
def uStep (l:List Nd) (ws us:List Int) (k:Nat):Option (List Int) :=
 if flag (reachL l) k then (if badNode l ws k then none else some (addUses us (parts (nth l k)))) else some us
def usesTo (l:List Nd) (ws:List Int):Nat->Option (List Int)
 | 0=>some (List.replicate l.length 0)
 | k+1=>(usesTo l ws k).bind fun us=>uStep l ws us k
def twice (l:List Nd) (us:List Int) (k:Nat):Bool:=(List.range k).any fun i=>flag (reachL l) i&&flag (holdTo l l.length) i&&decide (1 < wd us (i:Int))
def sentB (l:List Nd):Bool :=
 termOk l&&decide ((nth l (l.length - 1)).w=1)&&decide ((freeL l).length=0) &&
  match quantsTo l l.length with
  | none=>false
  | some ws=>match usesTo l ws l.length with
    | none=>false
    | some us => !twice l us l.length
theorem quants_none {l:List Nd} {k:Nat} (h:quantsTo l k=none):∀ j,k<=j->quantsTo l j=none:=by
 intro j hj
 induction j with
 | zero=>have:k=0:=by omega
         subst this;exact h
 | succ j ih =>
   by_cases e:k=j+1
   ·subst e;exact h
   ·show (quantsTo l j).bind _=none
    rw [ih (by omega)];rfl
theorem uses_none {l:List Nd} {ws:List Int} {k:Nat} (h:usesTo l ws k=none):∀ j,k<=j->usesTo l ws j=none:=by
 intro j hj
 induction j with
 | zero=>have:k=0:=by omega
         subst this;exact h
 | succ j ih =>
   by_cases e:k=j+1
   ·subst e;exact h
   ·show (usesTo l ws j).bind _=none
    rw [ih (by omega)];rfl
theorem quants_succ {l:List Nd} {k:Nat} {ws:List Int} (h:quantsTo l k=some ws):quantsTo l (k+1)=qStep l ws k:=by
 show (quantsTo l k).bind _=_;rw [h];rfl
theorem uses_succ {l:List Nd} {k:Nat} {ws us:List Int} (h:usesTo l ws k=some us):usesTo l ws (k+1)=uStep l ws us k:=by
 show (usesTo l ws k).bind _=_;rw [h];rfl
theorem sent_term {l:List Nd} (h:termOk l=false):sentB l=false:=by unfold sentB;rw [h];rfl
theorem sent_root {l:List Nd} (h:¬ (nth l (l.length - 1)).w=1):sentB l=false:=by unfold sentB;rw [decide_eq_false h];simp
theorem sent_free {l:List Nd} (h:¬ (freeL l).length=0):sentB l=false:=by unfold sentB;rw [decide_eq_false h];simp
theorem sent_quants {l:List Nd} {k:Nat} (hk:k<=l.length) (h:quantsTo l k=none):sentB l=false:=by
 unfold sentB;rw [quants_none h _ hk];simp
theorem sent_uses {l:List Nd} {k:Nat} {ws:List Int} (hk:k<=l.length) (hw:quantsTo l l.length=some ws) (h:usesTo l ws k=none):sentB l=false:=by
 unfold sentB;rw [hw];simp only;rw [uses_none h _ hk];simp
theorem sent_twice {l:List Nd} {ws us:List Int} (h1:termOk l=true) (h2:(nth l (l.length - 1)).w=1) (h3:(freeL l).length=0) (hw:quantsTo l l.length=some ws) (hu:usesTo l ws l.length=some us):sentB l = !twice l us l.length:=by
 unfold sentB;rw [h1,decide_eq_true h2,decide_eq_true h3,hw];simp only;rw [hu];simp
theorem shape_var {l:List Nd} {k:Nat} (h:nodeOk l k=true):((nth l k).op=1\/quant (nth l k).op=true)->0<=(nth l k).k/\(nth l k).k<=7:=by
 intro hop
 simp only [nodeOk,Bool.and_eq_true] at h
 have hs:=h.2
 unfold shapeOk at hs
 rcases hop with h1|h1
 ·rw [if_neg (by omega),if_pos h1] at hs
  simp at hs;omega
 ·have h2:(nth l k).op=19\/(nth l k).op=20:=by simpa [quant] using h1
  rw [if_neg (by omega),if_neg (by omega),if_neg (by omega),if_neg (by omega),if_neg (by omega),if_neg (by omega),if_neg (by omega),if_neg (by omega),if_pos h2] at hs
  simp at hs;omega
end Tm6
namespace Rw0
open Go.RowKit
open Nd0
def Row (w:World) (g n:Nat) (f:Nat->Value):Prop:=∀ i,i < n->w.cell? ⟨g,i,none⟩=some (f i)/\w.frozen? ⟨g,i,none⟩=false
theorem Row.set {w:World} {g n:Nat} {f:Nat->Value} (h:Row w g n f) {p:Nat} (hp:p < n) (v:Value):Row (w.setCell ⟨g,p,none⟩ v) g n (fun i=>if i=p then v else f i):=by
 intro i hi
 by_cases e:i=p
 ·subst e
  dsimp only
  rw [if_pos rfl]
  exact ⟨set_same (h i hi).1,by simp only [World.frozen?_setCell];exact (h i hi).2⟩
 ·dsimp only
  rw [if_neg e]
  exact ⟨by rw [set_other (by intro x;cases x;exact e rfl)];exact (h i hi).1,by simp only [World.frozen?_setCell];exact (h i hi).2⟩
theorem Row.kept {w w':World} {g n:Nat} {f:Nat->Value} (h:Row w g n f) {S:Nat->Prop} (k:Kept S w w') (hs:¬ S g):Row w' g n f:=fun i hi =>
 ⟨by rw [k.cell (p:=⟨g,i,none⟩) (lt_of_cell (h i hi).1) hs];exact (h i hi).1,by rw [k.frozen (p:=⟨g,i,none⟩) (lt_of_cell (h i hi).1) hs];exact (h i hi).2⟩
theorem Row.below {w w':World} {g n:Nat} {f:Nat->Value} (h:Row w g n f) (k:Below w.heap.size w w'):Row w' g n f:=h.kept (S:=fun _=>False) (Kept.ofBelow k) (fun h=>h)
theorem Row.congr {w:World} {g n:Nat} {f f':Nat->Value} (h:Row w g n f) (e:∀ i,i < n->f i=f' i):Row w g n f':=fun i hi=>by rw [<- e i hi];exact h i hi
theorem Row.new (w:World) (cs:Array Value) (T n:Nat) (f:Nat->Value) (h:∀ i,i < n->cs[i]? = some (f i)):Row (w.alloc (.cells cs T)) w.heap.size n f:=by
 intro i hi
 refine ⟨?_,by simp⟩
 rw [World.cell?_alloc_new]
 exact h i hi
theorem Row.drew {w:World} {g n:Nat} {f:Nat->Value} (h:Row w g n f):Row w.drew g n f:=fun i hi=>h i hi
theorem Row.lt {w:World} {g n:Nat} {f:Nat->Value} (h:Row w g n f) (hn:0 < n):g < w.heap.size:=lt_of_cell (p:=⟨g,0,none⟩) (h 0 hn).1
end Rw0
namespace Ap0
open Go.RowKit
open Nd0
theorem infoInt:(Tryz.prog.info? 3).map (fun i=>(i.zero,i.size,i.bytes))=some (some (.int .i64 0),1,8):=by kernel_rfl
def Ows (w:World) (B:Nat) (v:Value) (l:List Int):Prop:=w.ownsRow B 3 1 v l.length (l.map fun x=>.int .i64 x)
theorem Ows.form {w:World} {B:Nat} {v:Value} {l:List Int} (h:Ows w B v l):∃ a c,v=.slice a l.length c/\WInts w B a l:=by
 obtain ⟨h1,h2⟩:=h
 rcases h2 with ⟨rfl,h0⟩|⟨g,cap,cur,rfl,hb,hg,hn,hm,hs,ht⟩
 ·have:l=[]:=List.eq_nil_of_length_eq_zero h0
  subst this
  exact ⟨none,0,rfl,Nat.zero_le _,.inl rfl⟩
 ·refine ⟨_,_,rfl,by omega,.inr ⟨g,0,rfl,hb,fun i hi=>⟨?_,?_⟩⟩⟩
  ·rw [Nat.zero_add,cell_of_row w g i cur _ _ hg]
   have e:(cur.toList.take (l.length*1))[i]? = some (.int .i64 l[i]):=by rw [ht];simp [hi]
   rw [List.getElem?_take_of_lt (by omega)] at e
   simpa using e
  ·rw [Nat.zero_add]
   simp [World.frozen?,hg]
theorem Ows.lit (w:World) (B:Nat) (hB:B<=w.heap.size):Ows (w.alloc (.cells #[] 3)) B (.slice (some ⟨w.heap.size,0,none⟩) 0 0) [] :=
 World.ownsRow_lit w #[] 0 hB (Nat.zero_le _) rfl
theorem Ows.lt {w:World} {B:Nat} {v:Value} {l:List Int} (h:Ows w B v l):∀ k,v.ownBlock=some k->B<=k/\k < w.heap.size:=World.ownsRow.lt h
theorem Ows.kept {w w':World} {B:Nat} {v:Value} {l:List Int} (h:Ows w B v l) {S:Nat->Prop} (k:Kept S w w') (hs:∀ i,v.ownBlock=some i->¬ S i):Ows w' B v l:=by
 refine ⟨h.1,?_⟩
 rcases h.2 with hn|⟨g,cap,cur,rfl,hb,hgg,rest⟩
 ·exact .inl hn
 ·refine .inr ⟨g,cap,cur,rfl,hb,?_,rest⟩
  rw [k.block g (Array.getElem?_eq_some_iff.1 hgg).1 (hs g rfl)]
  exact hgg
theorem app_int {ops:Array Oper} {rest:List Oper} {o:Oper} {a:Act} {Q:Exit->Act->World->Prop} (W:World) (hgd:o.guard=none) (s x:Operand)
 (ho:o.op=.call { callee:=.builtin .append,args := #[s,x],argTypes := #[39,39] })
 (B:Nat) (v:Value) (l:List Int) (y:Int) (hs:a.eval s=v) (hx:a.eval x=.slice (some ⟨W.heap.size,0,none⟩) 1 1)
 (hown:Ows W B v l) (hB:B<=W.heap.size) (hlen:l.length<=1048576)
 (h:∀ g cap w',Ows w' B (.slice (some ⟨g,0,none⟩) (l.length+1) cap) (l++[y])->Kept (fun k=>v.ownBlock=some k) W w'->(v.ownBlock=some g\/W.heap.size<=g)->wpList Tryz.prog ops Q rest (a.put o.dst (.slice (some ⟨g,0,none⟩) (l.length+1) cap)) w') :
 wpList Tryz.prog ops Q (o :: rest) a (W.alloc (.cells #[.int .i64 y] 3)):=by
 obtain ⟨i,hi,hzz⟩:=Option.map_eq_some_iff.1 infoInt
 simp only [Prod.mk.injEq] at hzz
 obtain ⟨hz,hsz,hb⟩:=hzz
 refine wpList_append_lies (W.alloc (.cells #[.int .i64 y] 3)) hgd s x 39 ho B 3 i (.int .i64 0) 1 8 Tryz.underlying39 hi hz hsz hb rfl (by omega) v l.length (l.map fun x=>.int .i64 x) hs (World.ownsRow.alloc hown _)
  ⟨W.heap.size,0,none⟩ 1 1 [.int .i64 y] hx rfl ?_ ?_ (by omega) (by unfold maxLen;omega) (by omega) (by simp;omega) _ rfl ?_
 ·intro j u hu
  exact World.news_of_block (heap_alloc_new W _) j u hu
 ·intro u hu
  simp at hu
  subst hu
  rfl
 ·intro g cap w' h1 h2 h3 h4
  refine h g cap w' ?_ ?_ ?_
  ·unfold Ows
   simpa using h1
  ·have k1:Kept (fun k=>v.ownBlock=some k) W (W.alloc (.cells #[.int .i64 y] 3)):=(Kept.refl _ W).alloc _
   exact k1.trans ⟨h2.os,h2.tape,h2.output,h2.size,fun k hk hn=>h2.block k hk (fun e=>hn e.symm)⟩
  ·rcases h3 with h3|h3
   ·exact .inl h3
   ·exact .inr (by rw [h3];simp)
end Ap0
end Go.Proofs.YtebejleeadofcaaGreat
