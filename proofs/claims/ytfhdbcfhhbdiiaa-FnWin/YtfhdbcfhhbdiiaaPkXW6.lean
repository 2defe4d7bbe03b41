import Derived.Test.YtfhdbcfhhbdiiaaNd0
import Derived.Test.YtfhdbcfhhbdiiaaPl1
namespace Go.Proofs.Ytfhdbcfhhbdiiaa
set_option maxRecDepth 100000
set_option maxHeartbeats 8000000
set_option linter.unusedVariables false
namespace Tm0
open Nd0 Pl1
/-- The places of a node's parts. -/
def parts (n:Nd):List Int :=
 if n.op=2\/n.op=17\/n.op=19\/n.op=20 then [n.a]
 else if 3<=n.op/\n.op<=16 then [n.a,n.b]
 else if n.op=18 then [n.a,n.b,n.c]
 else []
theorem parts_one {n:Nd} (h:n.op=2\/n.op=17\/n.op=19\/n.op=20):parts n=[n.a]:=if_pos h
theorem parts_two {n:Nd} (h:3<=n.op/\n.op<=16):parts n=[n.a,n.b]:=by
 unfold parts;rw [if_neg (by omega),if_pos h]
theorem parts_three {n:Nd} (h:n.op=18):parts n=[n.a,n.b,n.c]:=by
 unfold parts;rw [if_neg (by omega),if_neg (by omega),if_pos h]
theorem parts_none {n:Nd} (h:¬ (n.op=2\/n.op=17\/n.op=19\/n.op=20)) (h2:¬ (3<=n.op/\n.op<=16)) (h3:¬ n.op=18):parts n=[]:=by
 unfold parts;rw [if_neg h,if_neg h2,if_neg h3]
theorem parts_le (n:Nd):(parts n).length<=3:=by
 unfold parts;split
 ·simp
 ·split
  ·simp
  ·split<;>simp
/-- Whether a node is right whose parts have the widths ws. -/
def shapeOk (n:Nd) (ws:List Int):Bool :=
 if n.op=0 then wok n.w n.k&&decide (n.a=0/\n.b=0/\n.c=0)
 else if n.op=1 then decide (0<=n.k/\n.k<=7/\n.a=0/\n.b=0/\n.c=0)
 else if n.op=2 then decide (ws.getD 0 0=n.w/\n.k=0/\n.b=0/\n.c=0)
 else if 3<=n.op/\n.op<=12 then decide (ws.getD 0 0=n.w/\ws.getD 1 0=n.w/\n.k=0/\n.c=0)
 else if 13<=n.op/\n.op<=15 then decide (ws.getD 0 0=ws.getD 1 0/\n.w=1/\n.k=0/\n.c=0)
 else if n.op=16 then decide (ws.getD 0 0+ws.getD 1 0=n.w/\n.k=0/\n.c=0)
 else if n.op=17 then decide (0<=n.k/\n.k<=ws.getD 0 0 - n.w/\n.b=0/\n.c=0)
 else if n.op=18 then decide (ws.getD 0 0=1/\ws.getD 1 0=n.w/\ws.getD 2 0=n.w/\n.k=0)
 else if n.op=19\/n.op=20 then decide (0<=n.k/\n.k<=7/\1<=n.b/\n.b<=8/\ws.getD 0 0=1/\n.w=1/\n.c=0)
 else false
def width (l:List Nd) (p:Int):Int:=(nth l p.toNat).w
/-- Whether node i of a list is right, when those ahead are. -/
def nodeOk (l:List Nd) (i:Nat):Bool :=
 let n:=nth l i
 (parts n).all (fun p=>decide (0<=p/\p < i))&&decide (1<=n.w/\n.w<=8)&&shapeOk n ((parts n).map (width l))
theorem node_bad_part {l:List Nd} {i:Nat} (k:Nat) (hk:k < (parts (nth l i)).length) (h:¬ (0<=(parts (nth l i))[k]/\(parts (nth l i))[k] < i)):nodeOk l i=false:=by
 have:(parts (nth l i)).all (fun p=>decide (0<=p/\p < i))=false:=by
  rw [List.all_eq_false]
  exact ⟨_,List.getElem_mem hk,by simpa using h⟩
 simp only [nodeOk]
 rw [this]
 simp
theorem node_bad_width {l:List Nd} {i:Nat} (h:¬ (1<=(nth l i).w/\(nth l i).w<=8)):nodeOk l i=false:=by
 simp only [nodeOk]
 rw [decide_eq_false h]
 simp
theorem node_kind {l:List Nd} {i:Nat} (h:∀ k (hk:k < (parts (nth l i)).length),0<=(parts (nth l i))[k]/\(parts (nth l i))[k] < i) (hw:1<=(nth l i).w/\(nth l i).w<=8) :
 nodeOk l i=shapeOk (nth l i) ((parts (nth l i)).map (width l)):=by
 have:(parts (nth l i)).all (fun p=>decide (0<=p/\p < i))=true:=by
  rw [List.all_eq_true]
  intro p hp
  obtain ⟨k,hk,rfl⟩:=List.getElem_of_mem hp
  simpa using h k hk
 simp only [nodeOk]
 rw [this,decide_eq_true hw]
 simp
theorem node_width {l:List Nd} {i:Nat} (h:nodeOk l i=true):1<=(nth l i).w/\(nth l i).w<=8:=by
 simp only [nodeOk,Bool.and_eq_true,decide_eq_true_eq] at h
 exact h.1.2
/-- Whether a list of nodes is a term. -/
def termOk (l:List Nd):Bool:=decide (1<=l.length/\l.length<=80)&&(List.range l.length).all (nodeOk l)
theorem term_long {l:List Nd} (h:¬ (1<=l.length/\l.length<=80)):termOk l=false:=by
 unfold termOk;rw [decide_eq_false h];rfl
theorem term_bad {l:List Nd} (k:Nat) (hk:k < l.length) (h:nodeOk l k=false):termOk l=false:=by
 have:(List.range l.length).all (nodeOk l)=false:=by
  rw [List.all_eq_false];exact ⟨k,List.mem_range.2 hk,by simp [h]⟩
 unfold termOk;rw [this,Bool.and_false]
theorem term_good {l:List Nd} (h:1<=l.length/\l.length<=80) (ha:∀ k,k < l.length->nodeOk l k=true):termOk l=true:=by
 have:(List.range l.length).all (nodeOk l)=true:=by
  rw [List.all_eq_true];intro x hx;exact ha x (List.mem_range.1 hx)
 unfold termOk;rw [this,decide_eq_true h];rfl
theorem term_len {l:List Nd} (h:termOk l=true):1<=l.length/\l.length<=80:=by
 simp only [termOk,Bool.and_eq_true,decide_eq_true_eq] at h;exact h.1
theorem term_node {l:List Nd} (h:termOk l=true) {k:Nat} (hk:k < l.length):nodeOk l k=true:=by
 simp only [termOk,Bool.and_eq_true,List.all_eq_true] at h;exact h.2 k (List.mem_range.2 hk)
end Tm0
namespace Tm1
open Nd0 Pl1 Tm0
def markAll (bs:List Bool) (ps:List Int):List Bool:=ps.foldl (fun b p=>b.set p.toNat true) bs
theorem markAll_length (ps:List Int):∀ bs:List Bool,(markAll bs ps).length=bs.length:=by
 induction ps with
 | nil=>intro bs;rfl
 | cons p ps ih=>intro bs;show (markAll (bs.set p.toNat true) ps).length=_;rw [ih,List.length_set]
def flag (bs:List Bool) (i:Nat):Bool:=bs.getD i false
theorem flag_get {bs:List Bool} {i:Nat} (h:i < bs.length):bs[i]=flag bs i:=by simp [flag,List.getD,h]
theorem flag_set {bs:List Bool} {i j:Nat} (h:i < bs.length) (x:Bool):flag (bs.set i x) j=if i=j then x else flag bs j:=by
 by_cases e:i=j
 ·subst e;simp [flag,List.getD,h]
 ·simp [flag,List.getD,e]
def reachStep (l:List Nd) (bs:List Bool) (i:Nat):List Bool:=if flag bs i then markAll bs (parts (nth l i)) else bs
def reachDown (l:List Nd):Nat->List Bool->List Bool
 | 0,bs=>bs
 | k+1,bs=>reachDown l k (reachStep l bs k)
def reachInit (n:Nat):List Bool:=(List.range n).map fun i=>i+1==n
/-- For each node whether the root reaches it. -/
def reachL (l:List Nd):List Bool:=reachDown l l.length (reachInit l.length)
theorem reachStep_length (l:List Nd) (bs:List Bool) (i:Nat):(reachStep l bs i).length=bs.length:=by
 unfold reachStep;split
 ·exact markAll_length _ _
 ·rfl
theorem reachDown_length (l:List Nd):∀ (k:Nat) (bs:List Bool),(reachDown l k bs).length=bs.length:=by
 intro k
 induction k with
 | zero=>intro bs;rfl
 | succ k ih=>intro bs;show (reachDown l k (reachStep l bs k)).length=_;rw [ih,reachStep_length]
theorem reachInit_length (n:Nat):(reachInit n).length=n:=by simp [reachInit]
theorem reachL_length (l:List Nd):(reachL l).length=l.length:=by unfold reachL;rw [reachDown_length,reachInit_length]
theorem parts_ok {l:List Nd} {i:Nat} (h:nodeOk l i=true):∀ k (hk:k < (parts (nth l i)).length),0<=(parts (nth l i))[k]/\(parts (nth l i))[k] < i:=by
 simp only [nodeOk,Bool.and_eq_true,List.all_eq_true,decide_eq_true_eq] at h
 intro k hk
 exact h.1.1 _ (List.getElem_mem hk)
end Tm1
namespace Tm2
open Nd0 Pl1 Tm0 Tm1
def reachTo (l:List Nd) (k:Nat):List Int:=((List.range k).filter (flag (reachL l))).map fun (i:Nat)=>(i:Int)
/-- The places that the root reaches, ascending. -/
def reachedL (l:List Nd):List Int:=if termOk l then reachTo l l.length else []
theorem reachTo_succ (l:List Nd) (k:Nat):reachTo l (k+1)=if flag (reachL l) k then reachTo l k++[(k:Int)] else reachTo l k:=by
 unfold reachTo
 rw [List.range_succ,List.filter_append,List.map_append]
 cases h:flag (reachL l) k<;>simp [h]
theorem reachTo_length (l:List Nd) (k:Nat):(reachTo l k).length<=k:=by
 unfold reachTo
 rw [List.length_map]
 exact Nat.le_trans (List.length_filter_le _ _) (by simp)
theorem reachedL_le (l:List Nd):(reachedL l).length<=l.length:=by
 unfold reachedL;split
 ·exact reachTo_length l _
 ·exact Nat.zero_le _
end Tm2
namespace Tm3
open Nd0 Pl1 Tm0 Tm1 Tm2
/-- The new place of a node. -/
def plc (l:List Nd) (p:Int):Int:=((reachTo l p.toNat).length:Int)
def places (l:List Nd) (k:Nat):List Int:=(List.range k).map fun i=>((reachTo l i).length:Int)
theorem places_length (l:List Nd) (k:Nat):(places l k).length=k:=by simp [places]
theorem places_get (l:List Nd) (k i:Nat) (h:i < (places l k).length):(places l k)[i]=plc l (i:Int):=by simp [places,plc]
theorem places_succ (l:List Nd) (k:Nat):places l (k+1)=places l k++[((reachTo l k).length:Int)]:=by
 unfold places;rw [List.range_succ,List.map_append];rfl
/-- A node with its parts told by their new places. -/
def remap (l:List Nd) (n:Nd):Nd :=
 ⟨n.op,n.w,n.k,if 0 < (parts n).length then plc l n.a else n.a,if 1 < (parts n).length then plc l n.b else n.b,if 2 < (parts n).length then plc l n.c else n.c⟩
def pruneTo (l:List Nd) (k:Nat):List Nd:=((List.range k).filter (flag (reachL l))).map fun i=>remap l (nth l i)
def pruneL (l:List Nd):List Nd:=if termOk l then pruneTo l l.length else []
theorem pruneTo_succ (l:List Nd) (k:Nat):pruneTo l (k+1)=if flag (reachL l) k then pruneTo l k++[remap l (nth l k)] else pruneTo l k:=by
 unfold pruneTo
 rw [List.range_succ,List.filter_append,List.map_append]
 cases h:flag (reachL l) k<;>simp [h]
theorem pruneTo_length (l:List Nd) (k:Nat):(pruneTo l k).length=(reachTo l k).length:=by simp [pruneTo,reachTo]
theorem pruneL_le (l:List Nd):(pruneL l).length<=l.length:=by
 unfold pruneL;split
 ·rw [pruneTo_length];exact reachTo_length l _
 ·exact Nat.zero_le _
theorem parts_cases (n:Nd):parts n=[]\/parts n=[n.a]\/parts n=[n.a,n.b]\/parts n=[n.a,n.b,n.c]:=by
 unfold parts
 split
 ·exact .inr (.inl rfl)
 ·split
  ·exact .inr (.inr (.inl rfl))
  ·split
   ·exact .inr (.inr (.inr rfl))
   ·exact .inl rfl
end Tm3
end Go.Proofs.Ytfhdbcfhhbdiiaa
