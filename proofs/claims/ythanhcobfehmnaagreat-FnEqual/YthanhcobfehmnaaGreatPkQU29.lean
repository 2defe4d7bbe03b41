import Derived.Test.YthanhcobfehmnaaGreatPkQU27
namespace Go.Proofs.YthanhcobfehmnaaGreat
set_option maxRecDepth 100000
set_option maxHeartbeats 8000000
set_option linter.unusedVariables false
namespace Tm4
open Nd0 Pl1 Tm0 Tm1
def row (rows:List (List Bool)) (p:Int):List Bool:=rows.getD p.toNat []
def inParts (rows:List (List Bool)) (ps:List Int) (v:Nat):Bool:=ps.any fun p=>flag (row rows p) v
def freeAt (rows:List (List Bool)) (n:Nd) (v:Nat):Bool :=
 if (n.op==19||n.op==20)&&n.k==(v:Int) then false else (n.op==1&&n.k==(v:Int))||inParts rows (parts n) v
def freeRow (rows:List (List Bool)) (n:Nd):List Bool:=(List.range 8).map (freeAt rows n)
def freeRows (l:List Nd):Nat->List (List Bool)
 | 0=>[]
 | k+1=>freeRows l k++[freeRow (freeRows l k) (nth l k)]
theorem freeRows_length (l:List Nd) (k:Nat):(freeRows l k).length=k:=by
 induction k with
 | zero=>rfl
 | succ k ih=>show (freeRows l k++[_]).length=_;rw [List.length_append,ih];rfl
theorem freeRow_length (rows:List (List Bool)) (n:Nd):(freeRow rows n).length=8:=by simp [freeRow]
theorem freeRow_take (rows:List (List Bool)) (n:Nd) (v:Nat) (h:v < 8):(freeRow rows n).take (v+1)=(freeRow rows n).take v++[freeAt rows n v]:=by
 rw [List.take_succ_eq_append_getElem (by rw [freeRow_length];exact h)]
 simp [freeRow]
def freeTop (l:List Nd):List Bool:=row (freeRows l l.length) ((l.length:Int) - 1)
def freeTo (l:List Nd) (k:Nat):List Int:=((List.range k).filter (flag (freeTop l))).map fun (i:Nat)=>(i:Int)
def freeL (l:List Nd):List Int:=if termOk l then freeTo l 8 else []
theorem freeTo_succ (l:List Nd) (k:Nat):freeTo l (k+1)=if flag (freeTop l) k then freeTo l k++[(k:Int)] else freeTo l k:=by
 unfold freeTo
 rw [List.range_succ,List.filter_append,List.map_append]
 cases h:flag (freeTop l) k<;>simp [h]
theorem freeTo_length (l:List Nd) (k:Nat):(freeTo l k).length<=k:=by
 unfold freeTo
 rw [List.length_map]
 exact Nat.le_trans (List.length_filter_le _ _) (by simp)
theorem inParts_take (rows:List (List Bool)) (ps:List Int) (v k:Nat) (h:k < ps.length):inParts rows (ps.take (k+1)) v=(inParts rows (ps.take k) v||flag (row rows ps[k]) v):=by
 unfold inParts
 rw [List.take_succ_eq_append_getElem h,List.any_append]
 simp
end Tm4
namespace Ap3
open Go.RowKit
open Nd0 Tm1 Tm4
theorem infoRow:(Tryz.prog.info? 89).map (fun i=>(i.zero,i.size,i.bytes))=some (some (.slice none 0 0),1,24):=by kernel_rfl
def Owv (w:World) (B:Nat) (v:Value) (xs:List Value):Prop:=w.ownsRow B 89 1 v xs.length xs
theorem Owv.lit (w:World) (B:Nat) (hB:B<=w.heap.size):Owv (w.alloc (.cells #[] 89)) B (.slice (some ⟨w.heap.size,0,none⟩) 0 0) [] :=
 World.ownsRow_lit w #[] 0 hB (Nat.zero_le _) rfl
theorem Owv.lt {w:World} {B:Nat} {v:Value} {l:List Value} (h:Owv w B v l):∀ k,v.ownBlock=some k->B<=k/\k < w.heap.size:=World.ownsRow.lt h
theorem Owv.kept {w w':World} {B:Nat} {v:Value} {l:List Value} (h:Owv w B v l) {S:Nat->Prop} (k:Kept S w w') (hs:∀ i,v.ownBlock=some i->¬ S i):Owv w' B v l:=by
 refine ⟨h.1,?_⟩
 rcases h.2 with hn|⟨g,cap,cur,rfl,hb,hgg,rest⟩
 ·exact .inl hn
 ·refine .inr ⟨g,cap,cur,rfl,hb,?_,rest⟩
  rw [k.block g (Array.getElem?_eq_some_iff.1 hgg).1 (hs g rfl)]
  exact hgg
theorem Owv.at {w:World} {B:Nat} {v:Value} {l:List Value} (h:Owv w B v l) (hl:1<=l.length):∃ g c,v=.slice (some ⟨g,0,none⟩) l.length c/\(∀ i,i < l.length->w.cell? ⟨g,i,none⟩=l[i]?):=by
 rcases h.2 with ⟨rfl,h0⟩|⟨g,cap,cur,rfl,hb,hg,hn,hm,hs,ht⟩
 ·omega
 ·refine ⟨g,cap,rfl,fun i hi=>?_⟩
  rw [cell_of_row w g i cur _ _ hg]
  have e:(cur.toList.take (l.length*1))[i]? = l[i]? := by rw [ht]
  rw [List.getElem?_take_of_lt (by omega)] at e
  simpa using e
theorem app_row {ops:Array Oper} {rest:List Oper} {o:Oper} {a:Act} {Q:Exit->Act->World->Prop} (W:World) (hgd:o.guard=none) (s x:Operand)
 (ho:o.op=.call { callee:=.builtin .append,args := #[s,x],argTypes := #[147,147] })
 (B:Nat) (v:Value) (l:List Value) (ya:Option Addr) (yn yc:Nat) (hs:a.eval s=v) (hx:a.eval x=.slice (some ⟨W.heap.size,0,none⟩) 1 1)
 (hown:Owv W B v l) (hB:B<=W.heap.size) (hlen:l.length<=1048576)
 (h:∀ g cap w',Owv w' B (.slice (some ⟨g,0,none⟩) (l.length+1) cap) (l++[.slice ya yn yc])->Kept (fun k=>v.ownBlock=some k) W w'->(v.ownBlock=some g\/W.heap.size<=g)->wpList Tryz.prog ops Q rest (a.put o.dst (.slice (some ⟨g,0,none⟩) (l.length+1) cap)) w') :
 wpList Tryz.prog ops Q (o :: rest) a (W.alloc (.cells #[.slice ya yn yc] 89)):=by
 obtain ⟨i,hi,hzz⟩:=Option.map_eq_some_iff.1 infoRow
 simp only [Prod.mk.injEq] at hzz
 obtain ⟨hz,hsz,hb⟩:=hzz
 refine wpList_append_lies (W.alloc (.cells #[.slice ya yn yc] 89)) hgd s x 147 ho B 89 i (.slice none 0 0) 1 24 Tryz.underlying147 hi hz hsz hb rfl (by omega) v l.length l hs (World.ownsRow.alloc hown _)
  ⟨W.heap.size,0,none⟩ 1 1 [.slice ya yn yc] hx rfl ?_ ?_ (by omega) (by unfold maxLen;omega) (by omega) (by simp;omega) _ rfl ?_
 ·intro j u hu
  exact World.news_of_block (heap_alloc_new W _) j u hu
 ·intro u hu
  simp at hu
  subst hu
  rfl
 ·intro g cap w' h1 h2 h3 h4
  refine h g cap w' ?_ ?_ ?_
  ·unfold Owv
   simpa using h1
  ·have k1:Kept (fun k=>v.ownBlock=some k) W (W.alloc (.cells #[.slice ya yn yc] 89)):=(Kept.refl _ W).alloc _
   exact k1.trans ⟨h2.os,h2.tape,h2.output,h2.size,fun k hk hn=>h2.block k hk (fun e=>hn e.symm)⟩
  ·rcases h3 with h3|h3
   ·exact .inl h3
   ·exact .inr (by rw [h3];simp)
def Rws (w:World) (v:Value) (vs:List Value) (rows:List (List Bool)):Prop :=
 vs.length=rows.length/\∀ j,j < rows.length->∃ g c,vs[j]? = some (.slice (some ⟨g,0,none⟩) 8 c)/\g < w.heap.size/\v.ownBlock≠some g/\∀ x,x < 8->w.cell? ⟨g,x,none⟩=some (.bool (flag (rows.getD j []) x))
theorem Rws.kept {w w':World} {v:Value} {vs:List Value} {rows:List (List Bool)} (h:Rws w v vs rows) (k:Kept (fun b=>v.ownBlock=some b) w w'):Rws w' v vs rows:=by
 refine ⟨h.1,fun j hj=>?_⟩
 obtain ⟨g,c,h1,h2,h3,h4⟩:=h.2 j hj
 exact ⟨g,c,h1,Nat.lt_of_lt_of_le h2 k.size,h3,fun x hx=>by rw [k.cell (p:=⟨g,x,none⟩) h2 h3];exact h4 x hx⟩
theorem Rws.below {w w':World} {v:Value} {vs:List Value} {rows:List (List Bool)} (h:Rws w v vs rows) (k:Below w.heap.size w w'):Rws w' v vs rows:=h.kept (Kept.ofBelow k)
end Ap3
end Go.Proofs.YthanhcobfehmnaaGreat
