import Derived.Test.YthanhcobfehmnaaGreatPkQU211
namespace Go.Proofs.YthanhcobfehmnaaGreat
set_option maxRecDepth 100000
set_option maxHeartbeats 8000000
set_option linter.unusedVariables false
namespace Ap6
open Go.RowKit
open Nd0 Tm1 Tm6
theorem infoRow:(Tryz.prog.info? 29).map (fun i=>(i.zero,i.size,i.bytes))=some (some (.slice none 0 0),1,24):=by kernel_rfl
def Owv (w:World) (B:Nat) (v:Value) (xs:List Value):Prop:=w.ownsRow B 29 1 v xs.length xs
theorem Owv.lit (w:World) (B:Nat) (hB:B<=w.heap.size):Owv (w.alloc (.cells #[] 29)) B (.slice (some ⟨w.heap.size,0,none⟩) 0 0) [] :=
 World.ownsRow_lit w #[] 0 hB (Nat.zero_le _) rfl
theorem Owv.lt {w:World} {B:Nat} {v:Value} {l:List Value} (h:Owv w B v l):∀ k,v.ownBlock=some k->B<=k/\k < w.heap.size:=World.ownsRow.lt h
theorem Owv.kept {w w':World} {B:Nat} {v:Value} {l:List Value} (h:Owv w B v l) {S:Nat->Prop} (k:Kept S w w') (hs:∀ i,v.ownBlock=some i->¬ S i):Owv w' B v l:=by
 refine ⟨h.1,?_⟩
 rcases h.2 with hn|⟨g,cap,cur,rfl,hb,hgg,rest⟩
 ·exact .inl hn
 ·refine .inr ⟨g,cap,cur,rfl,hb,?_,rest⟩
  rw [k.block g (Array.getElem?_eq_some_iff.1 hgg).1 (hs g rfl)]
  exact hgg
theorem Owv.at {w:World} {B:Nat} {v:Value} {l:List Value} (h:Owv w B v l) (hl:1<=l.length):∃ g c,v=.slice (some ⟨g,0,none⟩) l.length c/\(∀ i,i < l.length->w.cell? ⟨g,i,none⟩=l[i]?):=by
 rcases h.2 with ⟨rfl,h0⟩|⟨g,cap,cur,rfl,hb,hg,hn,hm,hs,ht⟩
 ·omega
 ·refine ⟨g,cap,rfl,fun i hi=>?_⟩
  rw [cell_of_row w g i cur _ _ hg]
  have e:(cur.toList.take (l.length*1))[i]? = l[i]? := by rw [ht]
  rw [List.getElem?_take_of_lt (by omega)] at e
  simpa using e
theorem app_row {ops:Array Oper} {rest:List Oper} {o:Oper} {a:Act} {Q:Exit->Act->World->Prop} (W:World) (hgd:o.guard=none) (s x:Operand)
 (ho:o.op=.call { callee:=.builtin .append,args := #[s,x],argTypes := #[148,148] })
 (B:Nat) (v:Value) (l:List Value) (ya:Option Addr) (yn yc:Nat) (hs:a.eval s=v) (hx:a.eval x=.slice (some ⟨W.heap.size,0,none⟩) 1 1)
 (hown:Owv W B v l) (hB:B<=W.heap.size) (hlen:l.length<=1048576)
 (h:∀ g cap w',Owv w' B (.slice (some ⟨g,0,none⟩) (l.length+1) cap) (l++[.slice ya yn yc])->Kept (fun k=>v.ownBlock=some k) W w'->(v.ownBlock=some g\/W.heap.size<=g)->wpList Tryz.prog ops Q rest (a.put o.dst (.slice (some ⟨g,0,none⟩) (l.length+1) cap)) w') :
 wpList Tryz.prog ops Q (o :: rest) a (W.alloc (.cells #[.slice ya yn yc] 29)):=by
 obtain ⟨i,hi,hzz⟩:=Option.map_eq_some_iff.1 infoRow
 simp only [Prod.mk.injEq] at hzz
 obtain ⟨hz,hsz,hb⟩:=hzz
 refine wpList_append_lies (W.alloc (.cells #[.slice ya yn yc] 29)) hgd s x 148 ho B 29 i (.slice none 0 0) 1 24 Tryz.underlying148 hi hz hsz hb rfl (by omega) v l.length l hs (World.ownsRow.alloc hown _)
  ⟨W.heap.size,0,none⟩ 1 1 [.slice ya yn yc] hx rfl ?_ ?_ (by omega) (by unfold maxLen;omega) (by omega) (by simp;omega) _ rfl ?_
 ·intro j u hu
  exact World.news_of_block (heap_alloc_new W _) j u hu
 ·intro u hu
  simp at hu
  subst hu
  rfl
 ·intro g cap w' h1 h2 h3 h4
  refine h g cap w' ?_ ?_ ?_
  ·unfold Owv
   simpa using h1
  ·have k1:Kept (fun k=>v.ownBlock=some k) W (W.alloc (.cells #[.slice ya yn yc] 29)):=(Kept.refl _ W).alloc _
   exact k1.trans ⟨h2.os,h2.tape,h2.output,h2.size,fun k hk hn=>h2.block k hk (fun e=>hn e.symm)⟩
  ·rcases h3 with h3|h3
   ·exact .inl h3
   ·exact .inr (by rw [h3];simp)
def Rws (w:World) (v:Value) (vs:List Value) (rows:List (List Int)):Prop :=
 vs.length=rows.length/\∀ j,j < rows.length->∃ g c,vs[j]? = some (.slice (some ⟨g,0,none⟩) 8 c)/\g < w.heap.size/\v.ownBlock≠some g/\∀ x,x < 8->w.cell? ⟨g,x,none⟩=some (.int .i64 (wd (rows.getD j []) (x:Int)))
theorem Rws.kept {w w':World} {v:Value} {vs:List Value} {rows:List (List Int)} (h:Rws w v vs rows) (k:Kept (fun b=>v.ownBlock=some b) w w'):Rws w' v vs rows:=by
 refine ⟨h.1,fun j hj=>?_⟩
 obtain ⟨g,c,h1,h2,h3,h4⟩:=h.2 j hj
 exact ⟨g,c,h1,Nat.lt_of_lt_of_le h2 k.size,h3,fun x hx=>by rw [k.cell (p:=⟨g,x,none⟩) h2 h3];exact h4 x hx⟩
theorem Rws.below {w w':World} {v:Value} {vs:List Value} {rows:List (List Int)} (h:Rws w v vs rows) (k:Below w.heap.size w w'):Rws w' v vs rows:=h.kept (Kept.ofBelow k)
end Ap6
end Go.Proofs.YthanhcobfehmnaaGreat
