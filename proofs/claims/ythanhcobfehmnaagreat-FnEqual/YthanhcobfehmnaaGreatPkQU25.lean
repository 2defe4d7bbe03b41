import Derived.Test.YthanhcobfehmnaaGreatPkQU21
namespace Go.Proofs.YthanhcobfehmnaaGreat
set_option maxRecDepth 100000
set_option maxHeartbeats 8000000
set_option linter.unusedVariables false
namespace Tm0
open Nd0 Pl1
def parts (n:Nd):List Int :=
 if n.op=2\/n.op=17\/n.op=19\/n.op=20 then [n.a]
 else if 3<=n.op/\n.op<=16 then [n.a,n.b]
 else if n.op=18 then [n.a,n.b,n.c]
 else []
theorem parts_one {n:Nd} (h:n.op=2\/n.op=17\/n.op=19\/n.op=20):parts n=[n.a]:=if_pos h
theorem parts_two {n:Nd} (h:3<=n.op/\n.op<=16):parts n=[n.a,n.b]:=by
 unfold parts;rw [if_neg (by omega),if_pos h]
theorem parts_three {n:Nd} (h:n.op=18):parts n=[n.a,n.b,n.c]:=by
 unfold parts;rw [if_neg (by omega),if_neg (by omega),if_pos h]
theorem parts_none {n:Nd} (h:¬ (n.op=2\/n.op=17\/n.op=19\/n.op=20)) (h2:¬ (3<=n.op/\n.op<=16)) (h3:¬ n.op=18):parts n=[]:=by
 unfold parts;rw [if_neg h,if_neg h2,if_neg h3]
theorem parts_le (n:Nd):(parts n).length<=3:=by
 unfold parts;split
 ·simp
 ·split
  ·simp
  ·split<;>simp
def shapeOk (n:Nd) (ws:List Int):Bool :=
 if n.op=0 then wok n.w n.k&&decide (n.a=0/\n.b=0/\n.c=0)
 else if n.op=1 then decide (0<=n.k/\n.k<=7/\n.a=0/\n.b=0/\n.c=0)
 else if n.op=2 then decide (ws.getD 0 0=n.w/\n.k=0/\n.b=0/\n.c=0)
 else if 3<=n.op/\n.op<=12 then decide (ws.getD 0 0=n.w/\ws.getD 1 0=n.w/\n.k=0/\n.c=0)
 else if 13<=n.op/\n.op<=15 then decide (ws.getD 0 0=ws.getD 1 0/\n.w=1/\n.k=0/\n.c=0)
 else if n.op=16 then decide (ws.getD 0 0+ws.getD 1 0=n.w/\n.k=0/\n.c=0)
 else if n.op=17 then decide (0<=n.k/\n.k<=ws.getD 0 0 - n.w/\n.b=0/\n.c=0)
 else if n.op=18 then decide (ws.getD 0 0=1/\ws.getD 1 0=n.w/\ws.getD 2 0=n.w/\n.k=0)
 else if n.op=19\/n.op=20 then decide (0<=n.k/\n.k<=7/\1<=n.b/\n.b<=8/\ws.getD 0 0=1/\n.w=1/\n.c=0)
 else false
def width (l:List Nd) (p:Int):Int:=(nth l p.toNat).w
def nodeOk (l:List Nd) (i:Nat):Bool :=
 let n:=nth l i
 (parts n).all (fun p=>decide (0<=p/\p < i))&&decide (1<=n.w/\n.w<=8)&&shapeOk n ((parts n).map (width l))
theorem node_bad_part {l:List Nd} {i:Nat} (k:Nat) (hk:k < (parts (nth l i)).length) (h:¬ (0<=(parts (nth l i))[k]/\(parts (nth l i))[k] < i)):nodeOk l i=false:=by
 have:(parts (nth l i)).all (fun p=>decide (0<=p/\p < i))=false:=by
  rw [List.all_eq_false]
  exact ⟨_,List.getElem_mem hk,by simpa using h⟩
 simp only [nodeOk]
 rw [this]
 simp
theorem node_bad_width {l:List Nd} {i:Nat} (h:¬ (1<=(nth l i).w/\(nth l i).w<=8)):nodeOk l i=false:=by
 simp only [nodeOk]
 rw [decide_eq_false h]
 simp
theorem node_kind {l:List Nd} {i:Nat} (h:∀ k (hk:k < (parts (nth l i)).length),0<=(parts (nth l i))[k]/\(parts (nth l i))[k] < i) (hw:1<=(nth l i).w/\(nth l i).w<=8) :
 nodeOk l i=shapeOk (nth l i) ((parts (nth l i)).map (width l)):=by
 have:(parts (nth l i)).all (fun p=>decide (0<=p/\p < i))=true:=by
  rw [List.all_eq_true]
  intro p hp
  obtain ⟨k,hk,rfl⟩:=List.getElem_of_mem hp
  simpa using h k hk
 simp only [nodeOk]
 rw [this,decide_eq_true hw]
 simp
theorem node_width {l:List Nd} {i:Nat} (h:nodeOk l i=true):1<=(nth l i).w/\(nth l i).w<=8:=by
 simp only [nodeOk,Bool.and_eq_true,decide_eq_true_eq] at h
 exact h.1.2
def termOk (l:List Nd):Bool:=decide (1<=l.length/\l.length<=80)&&(List.range l.length).all (nodeOk l)
theorem term_long {l:List Nd} (h:¬ (1<=l.length/\l.length<=80)):termOk l=false:=by
 unfold termOk;rw [decide_eq_false h];rfl
theorem term_bad {l:List Nd} (k:Nat) (hk:k < l.length) (h:nodeOk l k=false):termOk l=false:=by
 have:(List.range l.length).all (nodeOk l)=false:=by
  rw [List.all_eq_false];exact ⟨k,List.mem_range.2 hk,by simp [h]⟩
 unfold termOk;rw [this,Bool.and_false]
theorem term_good {l:List Nd} (h:1<=l.length/\l.length<=80) (ha:∀ k,k < l.length->nodeOk l k=true):termOk l=true:=by
 have:(List.range l.length).all (nodeOk l)=true:=by
  rw [List.all_eq_true];intro x hx;exact ha x (List.mem_range.1 hx)
 unfold termOk;rw [this,decide_eq_true h];rfl
theorem term_len {l:List Nd} (h:termOk l=true):1<=l.length/\l.length<=80:=by
 simp only [termOk,Bool.and_eq_true,decide_eq_true_eq] at h;exact h.1
theorem term_node {l:List Nd} (h:termOk l=true) {k:Nat} (hk:k < l.length):nodeOk l k=true:=by
 simp only [termOk,Bool.and_eq_true,List.all_eq_true] at h;exact h.2 k (List.mem_range.2 hk)
end Tm0
namespace Sp2
open Go.RowKit
open Nd0 Nd1 Tm0
theorem sIn (x a b:Int) (w:World) :
 Calls Tryz.prog 41 #[.int .i64 x,.int .i64 a,.int .i64 b] w fun e w'=>e=.returned (.bool (decide (a<=x/\x<=b)))/\w'=w:=by
 by_cases h1:a<=x<;>by_cases h2:x<=b
 all_goals
  go_enter Tryz.func41,Tryz.ntmps41
  go_wp2
  go_ret
  exact ⟨ret_bool (by simp<;>omega),rfl⟩
theorem sParts (n:Nd) (w:World) :
 Calls Tryz.prog 27 #[.agg #[.int .i64 n.op,.int .i64 n.w,.int .i64 n.k,.int .i64 n.a,.int .i64 n.b,.int .i64 n.c]] w fun e w'=>(∃ a c,e=.returned (.slice a (parts n).length c)/\WInts w' w.heap.size a (parts n))/\Below w.heap.size w w':=by
 by_cases h1:n.op=2\/n.op=17\/n.op=19\/n.op=20
 ·have HP:Hid (parts n=[n.a]):=parts_one h1
  rcases h1 with h|h|h|h
  all_goals
   go_enter Tryz.func27,Tryz.ntmps27
   go_wp2_with (go_at_call 41;refine (sIn _ _ _ _).mono ?_;rintro e w' ⟨rfl,rfl⟩)
   go_ret
   rw [HP.out]
   exact ⟨⟨_,_,rfl,wints_lit _ _ _ [n.a] _ (by simp) (by simp) (by simp [maxLen])⟩,((Below.refl _ _).alloc (Nat.le_refl _) _).alloc (by simp) _⟩
 by_cases h2:3<=n.op/\n.op<=16
 ·have HP:Hid (parts n=[n.a,n.b]):=parts_two h2
  have hd:decide (3<=n.op/\n.op<=16)=true:=by simpa using h2
  have t1:(n.op==2)=false:=by simp;omega
  have t2:(n.op==17)=false:=by simp;omega
  have t3:(n.op==19)=false:=by simp;omega
  have t4:(n.op==20)=false:=by simp;omega
  clear h1 h2
  all_goals
   go_enter Tryz.func27,Tryz.ntmps27
   go_wp2_with (go_at_call 41;refine (sIn _ _ _ _).mono ?_;rintro e w' ⟨rfl,rfl⟩)
   go_ret
   rw [HP.out]
   exact ⟨⟨_,_,rfl,wints_lit _ _ _ [n.a,n.b] _ (by simp) (by simp) (by simp [maxLen])⟩,((Below.refl _ _).alloc (Nat.le_refl _) _).alloc (by simp) _⟩
 have hd:decide (3<=n.op/\n.op<=16)=false:=by simpa using h2
 by_cases h3:n.op=18
 ·have HP:Hid (parts n=[n.a,n.b,n.c]):=parts_three h3
  all_goals
   go_enter Tryz.func27,Tryz.ntmps27
   go_wp2_with (go_at_call 41;refine (sIn _ _ _ _).mono ?_;rintro e w' ⟨rfl,rfl⟩)
   go_ret
   rw [HP.out]
   exact ⟨⟨_,_,rfl,wints_lit _ _ _ [n.a,n.b,n.c] _ (by simp) (by simp) (by simp [maxLen])⟩,((Below.refl _ _).alloc (Nat.le_refl _) _).alloc (by simp) _⟩
 ·have HP:Hid (parts n=[]):=parts_none h1 h2 h3
  have t1:(n.op==2)=false:=by simp;omega
  have t2:(n.op==17)=false:=by simp;omega
  have t3:(n.op==19)=false:=by simp;omega
  have t4:(n.op==20)=false:=by simp;omega
  have t5:(n.op==18)=false:=by simp;omega
  clear h1 h2 h3
  all_goals
   go_enter Tryz.func27,Tryz.ntmps27
   go_wp2_with (go_at_call 41;refine (sIn _ _ _ _).mono ?_;rintro e w' ⟨rfl,rfl⟩)
   go_ret
   rw [HP.out]
   exact ⟨⟨_,_,rfl,wints_lit _ _ _ [] _ (by simp) (by simp) (by simp [maxLen])⟩,((Below.refl _ _).alloc (Nat.le_refl _) _).alloc (by simp) _⟩
end Sp2
end Go.Proofs.YthanhcobfehmnaaGreat
