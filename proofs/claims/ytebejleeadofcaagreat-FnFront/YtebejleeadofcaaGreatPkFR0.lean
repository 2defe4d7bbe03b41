import Derived.WalkKit
import Derived.Deep.QuietTactic
import Derived.BigQuiet
import Derived.Test.YtebejleeadofcaaGreatRows
import Derived.WalkSpells
import Derived.WalkLawsBesides
import Derived.Deep.AppendLies
import Derived.OwnWalk
import Derived.Deep.RegionHeld
import Derived.Deep.CutRange
namespace Go.Proofs.YtebejleeadofcaaGreat
set_option maxRecDepth 100000
set_option maxHeartbeats 8000000
set_option linter.unusedVariables false
namespace Nd0
open Go.RowKit
structure Nd where
 op:Int
 w:Int
 k:Int
 a:Int
 b:Int
 c:Int
def Nd.zero:Nd:=⟨0,0,0,0,0,0⟩
def Nd.cells (n:Nd):List Value:=[.int .i64 n.op,.int .i64 n.w,.int .i64 n.k,.int .i64 n.a,.int .i64 n.b,.int .i64 n.c]
def nth (l:List Nd) (i:Nat):Nd:=l.getD i Nd.zero
theorem nth_get {l:List Nd} {i:Nat} (h:i < l.length):l[i]=nth l i:=by simp [nth,List.getD,h]
structure NodeAt (w:World) (b p:Nat) (n:Nd):Prop where
 c0:w.cell? ⟨b,p,none⟩=some (.int .i64 n.op)
 c1:w.cell? ⟨b,p+1,none⟩=some (.int .i64 n.w)
 c2:w.cell? ⟨b,p+2,none⟩=some (.int .i64 n.k)
 c3:w.cell? ⟨b,p+3,none⟩=some (.int .i64 n.a)
 c4:w.cell? ⟨b,p+4,none⟩=some (.int .i64 n.b)
 c5:w.cell? ⟨b,p+5,none⟩=some (.int .i64 n.c)
def Nodes (w:World) (a:Option Addr) (l:List Nd):Prop :=
 l.length<=maxLen/\(l.length=0\/∃ b o,a=some ⟨b,o,none⟩/\∀ i (h:i < l.length),NodeAt w b (o+i*6) l[i])
def Ints (w:World) (a:Option Addr) (l:List Int):Prop :=
 l.length<=maxLen/\(l.length=0\/∃ b o,a=some ⟨b,o,none⟩/\∀ i (h:i < l.length),w.cell? ⟨b,o+i,none⟩=some (.int .i64 l[i]))
theorem lt_of_cell {w:World} {p:Addr} {v:Value} (h:w.cell? p=some v):p.block < w.heap.size:=World.block_lt_of_cell? _ _ h
theorem NodeAt.below {w w':World} {b p:Nat} {n:Nd} (h:NodeAt w b p n) {B:Nat} (k:Below B w w') (hb:b < B):NodeAt w' b p n :=
 ⟨by rw [k.cell hb];exact h.c0,by rw [k.cell hb];exact h.c1,by rw [k.cell hb];exact h.c2,by rw [k.cell hb];exact h.c3,by rw [k.cell hb];exact h.c4,by rw [k.cell hb];exact h.c5⟩
theorem NodeAt.lt {w:World} {b p:Nat} {n:Nd} (h:NodeAt w b p n):b < w.heap.size:=lt_of_cell (p:=⟨b,p,none⟩) h.c0
theorem Nodes.below {w w':World} {a:Option Addr} {l:List Nd} (h:Nodes w a l) (k:Below w.heap.size w w'):Nodes w' a l:=by
 refine ⟨h.1,?_⟩
 rcases h.2 with h0|⟨b,o,rfl,hc⟩
 ·exact .inl h0
 ·exact .inr ⟨b,o,rfl,fun i hi=>(hc i hi).below k (hc i hi).lt⟩
theorem Ints.below {w w':World} {a:Option Addr} {l:List Int} (h:Ints w a l) (k:Below w.heap.size w w'):Ints w' a l:=by
 refine ⟨h.1,?_⟩
 rcases h.2 with h0|⟨b,o,rfl,hc⟩
 ·exact .inl h0
 ·exact .inr ⟨b,o,rfl,fun i hi=>by rw [k.cell (lt_of_cell (hc i hi))];exact hc i hi⟩
structure Kept (S:Nat->Prop) (w w':World):Prop where
 os:w'.os=w.os
 tape:w'.tape=w.tape
 output:w'.output=w.output
 size:w.heap.size<=w'.heap.size
 block:∀ k,k < w.heap.size->¬ S k->w'.heap[k]? = w.heap[k]?
theorem Kept.refl (S:Nat->Prop) (w:World):Kept S w w:=⟨rfl,rfl,rfl,Nat.le_refl _,fun _ _ _=>rfl⟩
theorem Kept.trans {S:Nat->Prop} {u v w:World} (h:Kept S u v) (k:Kept S v w):Kept S u w :=
 ⟨k.os.trans h.os,k.tape.trans h.tape,k.output.trans h.output,Nat.le_trans h.size k.size,fun i hi hb=>(k.block i (Nat.lt_of_lt_of_le hi h.size) hb).trans (h.block i hi hb)⟩
theorem Kept.mono {S T:Nat->Prop} {w w':World} (h:Kept S w w') (k:∀ i,S i->T i):Kept T w w' :=
 ⟨h.os,h.tape,h.output,h.size,fun i hi hb=>h.block i hi fun x=>hb (k i x)⟩
theorem Kept.drew {S:Nat->Prop} {u w:World} (h:Kept S u w):Kept S u w.drew:=⟨h.os,h.tape,h.output,h.size,h.block⟩
theorem Kept.drewN {S:Nat->Prop} {u w:World} (h:Kept S u w) (n:Nat):Kept S u (w.drewN n):=⟨h.os,h.tape,h.output,h.size,h.block⟩
theorem Kept.alloc {S:Nat->Prop} {u w:World} (h:Kept S u w) (o:Obj):Kept S u (w.alloc o) :=
 h.trans ⟨rfl,rfl,rfl,by simp,fun k hk _=>Below.heap_alloc _ _ _ hk⟩
theorem Kept.setCell {S:Nat->Prop} {u w:World} (h:Kept S u w) {p:Addr} (hp:S p.block) (x:Value):Kept S u (w.setCell p x) :=
 h.trans ⟨rfl,rfl,rfl,by simp [World.setCell],fun k _ hk=>Below.heap_setCell _ _ _ _ (fun e=>hk (e ▸ hp))⟩
theorem Kept.cell {S:Nat->Prop} {w w':World} (h:Kept S w w') {p:Addr} (hp:p.block < w.heap.size) (hb:¬ S p.block):w'.cell? p=w.cell? p :=
 World.cell?_of_block (w:=w) (h.block p.block hp hb)
theorem Kept.frozen {S:Nat->Prop} {w w':World} (h:Kept S w w') {p:Addr} (hp:p.block < w.heap.size) (hb:¬ S p.block):w'.frozen? p=w.frozen? p :=
 World.frozen?_of_block (w:=w) (h.block p.block hp hb)
theorem Kept.below {S:Nat->Prop} {B:Nat} {w w':World} (h:Kept S w w') (hB:∀ k,S k->B<=k) (hs:B<=w.heap.size):Below B w w' :=
 ⟨h.os,h.tape,h.output,h.size,fun k hk=>h.block k (by omega) (fun x=>by have:=hB k x;omega)⟩
theorem Kept.ofBelow {S:Nat->Prop} {w w':World} (h:Below w.heap.size w w'):Kept S w w' :=
 ⟨h.os,h.tape,h.output,h.size,fun k hk _=>h.block k hk⟩
def WInts (w:World) (B:Nat) (a:Option Addr) (l:List Int):Prop :=
 l.length<=maxLen/\(l.length=0\/∃ b o,a=some ⟨b,o,none⟩/\B<=b/\∀ i (h:i < l.length),w.cell? ⟨b,o+i,none⟩=some (.int .i64 l[i])/\w.frozen? ⟨b,o+i,none⟩=false)
theorem WInts.ints {w:World} {B:Nat} {a:Option Addr} {l:List Int} (h:WInts w B a l):Ints w a l:=by
 refine ⟨h.1,?_⟩
 rcases h.2 with h0|⟨b,o,ha,_,hc⟩
 ·exact .inl h0
 ·exact .inr ⟨b,o,ha,fun i hi=>(hc i hi).1⟩
theorem WInts.kept {w w':World} {B:Nat} {a:Option Addr} {l:List Int} (h:WInts w B a l) {S:Nat->Prop} (k:Kept S w w') (hs:∀ x,a=some x->¬ S x.block):WInts w' B a l:=by
 refine ⟨h.1,?_⟩
 rcases h.2 with h0|⟨b,o,rfl,hB,hc⟩
 ·exact .inl h0
 ·exact .inr ⟨b,o,rfl,hB,fun i hi=>⟨by rw [k.cell (lt_of_cell (hc i hi).1) (hs ⟨b,o,none⟩ rfl)];exact (hc i hi).1,by rw [k.frozen (p:=⟨b,o+i,none⟩) (lt_of_cell (hc i hi).1) (hs ⟨b,o,none⟩ rfl)];exact (hc i hi).2⟩⟩
theorem Nodes.kept {w w':World} {a:Option Addr} {l:List Nd} (h:Nodes w a l) {S:Nat->Prop} (k:Kept S w w') (hs:∀ x,a=some x->¬ S x.block):Nodes w' a l:=by
 refine ⟨h.1,?_⟩
 rcases h.2 with h0|⟨b,o,rfl,hc⟩
 ·exact .inl h0
 ·refine .inr ⟨b,o,rfl,fun i hi=>?_⟩
  have hb:=(hc i hi).lt
  have hn:¬ S b:=hs ⟨b,o,none⟩ rfl
  obtain ⟨c0,c1,c2,c3,c4,c5⟩:=hc i hi
  exact ⟨by rw [k.cell hb hn];exact c0,by rw [k.cell hb hn];exact c1,by rw [k.cell hb hn];exact c2,by rw [k.cell hb hn];exact c3,by rw [k.cell hb hn];exact c4,by rw [k.cell hb hn];exact c5⟩
theorem set_other {w:World} {p q:Addr} {v:Value} (h:p≠q):(w.setCell p v).cell? q=w.cell? q:=by apply World.cell?_setCell_other;exact h
theorem set_same {w:World} {p:Addr} {u v:Value} (h:w.cell? p=some u):(w.setCell p v).cell? p=some v:=by apply World.cell?_setCell_same;exact h
def IntsIn (w:World) (B U:Nat) (a:Option Addr) (l:List Int):Prop :=
 l.length<=maxLen/\(l.length=0\/∃ b o,a=some ⟨b,o,none⟩/\B<=b/\b < U/\∀ i (h:i < l.length),w.cell? ⟨b,o+i,none⟩=some (.int .i64 l[i])/\w.frozen? ⟨b,o+i,none⟩=false)
theorem WInts.within {w:World} {B:Nat} {a:Option Addr} {l:List Int} (h:WInts w B a l):IntsIn w B w.heap.size a l:=by
 refine ⟨h.1,?_⟩
 by_cases e:l.length=0
 ·exact .inl e
 ·rcases h.2 with h0|⟨b,o,ha,hB,hc⟩
  ·exact .inl h0
  ·exact .inr ⟨b,o,ha,hB,lt_of_cell (p:=⟨b,o+0,none⟩) (hc 0 (by omega)).1,hc⟩
theorem IntsIn.kept {w w':World} {B U:Nat} {a:Option Addr} {l:List Int} (h:IntsIn w B U a l) {S:Nat->Prop} (k:Kept S w w') (hs:∀ b,B<=b->b < U->¬ S b):IntsIn w' B U a l:=by
 refine ⟨h.1,?_⟩
 rcases h.2 with h0|⟨b,o,rfl,hB,hU,hc⟩
 ·exact .inl h0
 ·exact .inr ⟨b,o,rfl,hB,hU,fun i hi=>⟨by rw [k.cell (lt_of_cell (hc i hi).1) (hs b hB hU)];exact (hc i hi).1,by rw [k.frozen (p:=⟨b,o+i,none⟩) (lt_of_cell (hc i hi).1) (hs b hB hU)];exact (hc i hi).2⟩⟩
def setNode (w:World) (b p:Nat) (n:Nd):World :=
 (((((w.setCell ⟨b,p,none⟩ (.int .i64 n.op)).setCell ⟨b,p+1,none⟩ (.int .i64 n.w)).setCell ⟨b,p+2,none⟩ (.int .i64 n.k)).setCell ⟨b,p+3,none⟩ (.int .i64 n.a)).setCell ⟨b,p+4,none⟩ (.int .i64 n.b)).setCell ⟨b,p+5,none⟩ (.int .i64 n.c)
theorem setNode_same {w:World} {b p:Nat} {v n:Nd} (h:NodeAt w b p v):NodeAt (setNode w b p n) b p n:=by
 obtain ⟨c0,c1,c2,c3,c4,c5⟩:=h
 unfold setNode
 refine ⟨?_,?_,?_,?_,?_,?_⟩
 ·rw [set_other (by simp),set_other (by simp),set_other (by simp),set_other (by simp),set_other (by simp)];exact set_same c0
 ·rw [set_other (by simp),set_other (by simp),set_other (by simp),set_other (by simp)];exact set_same (by rw [set_other (by simp)];exact c1)
 ·rw [set_other (by simp),set_other (by simp),set_other (by simp)];exact set_same (by rw [set_other (by simp),set_other (by simp)];exact c2)
 ·rw [set_other (by simp),set_other (by simp)];exact set_same (by rw [set_other (by simp),set_other (by simp),set_other (by simp)];exact c3)
 ·rw [set_other (by simp)];exact set_same (by rw [set_other (by simp),set_other (by simp),set_other (by simp),set_other (by simp)];exact c4)
 ·exact set_same (by rw [set_other (by simp),set_other (by simp),set_other (by simp),set_other (by simp),set_other (by simp)];exact c5)
theorem setNode_cell {w:World} {b p:Nat} {n:Nd} {q:Nat} (h:q < p\/p+6<=q):(setNode w b p n).cell? ⟨b,q,none⟩=w.cell? ⟨b,q,none⟩:=by
 unfold setNode
 rw [set_other (by simp<;>omega),set_other (by simp<;>omega),set_other (by simp<;>omega),set_other (by simp<;>omega),set_other (by simp<;>omega),set_other (by simp<;>omega)]
theorem setNode_frozen {w:World} {b p:Nat} {n:Nd} {q:Addr}:(setNode w b p n).frozen? q=w.frozen? q:=by
 unfold setNode;simp only [World.frozen?_setCell]
theorem setNode_other {w:World} {b p q:Nat} {v n:Nd} (h:NodeAt w b q v) (hq:q+6<=p\/p+6<=q):NodeAt (setNode w b p n) b q v:=by
 obtain ⟨c0,c1,c2,c3,c4,c5⟩:=h
 exact ⟨by rw [setNode_cell (by omega)];exact c0,by rw [setNode_cell (by omega)];exact c1,by rw [setNode_cell (by omega)];exact c2,by rw [setNode_cell (by omega)];exact c3,by rw [setNode_cell (by omega)];exact c4,by rw [setNode_cell (by omega)];exact c5⟩
theorem setNode_keptS {S:Nat->Prop} {b p:Nat} {u w:World} {n:Nd} (hS:S b) (h:Kept S u w):Kept S u (setNode w b p n) :=
 (((((h.setCell (p:=⟨b,p,none⟩) hS _).setCell (p:=⟨b,p+1,none⟩) hS _).setCell (p:=⟨b,p+2,none⟩) hS _).setCell (p:=⟨b,p+3,none⟩) hS _).setCell (p:=⟨b,p+4,none⟩) hS _).setCell (p:=⟨b,p+5,none⟩) hS _
theorem wints_lit (W:World) (B g:Nat) (l:List Int) (T:Nat) (hg:g=W.heap.size) (hB:B<=g) (hl:l.length<=maxLen):WInts (W.alloc (.cells (l.map fun x=>.int .i64 x).toArray T)) B (some ⟨g,0,none⟩) l:=by
 subst hg
 refine ⟨hl,.inr ⟨W.heap.size,0,rfl,hB,fun i hi=>⟨?_,by simp⟩⟩⟩
 rw [World.cell?_alloc_new]
 simp [hi]
end Nd0
namespace Nd1
open Go.RowKit
theorem ret_bool {a b:Bool} (h:a=b):Ending.returned (.bool a)=.returned (.bool b):=by rw [h]
end Nd1
namespace Nd3
open Go.RowKit
open Nd0 Nd1
def WNodes (w:World) (B:Nat) (a:Option Addr) (l:List Nd):Prop :=
 l.length<=maxLen/\(l.length=0\/∃ b o,a=some ⟨b,o,none⟩/\B<=b/\(∀ i (h:i < l.length),NodeAt w b (o+i*6) l[i])/\∀ j,j < l.length*6->w.frozen? ⟨b,o+j,none⟩=false)
theorem WNodes.nodes {w:World} {B:Nat} {a:Option Addr} {l:List Nd} (h:WNodes w B a l):Nodes w a l:=by
 refine ⟨h.1,?_⟩
 rcases h.2 with h0|⟨b,o,ha,_,hc,_⟩
 ·exact .inl h0
 ·exact .inr ⟨b,o,ha,hc⟩
end Nd3
namespace Ap2
open Go.RowKit
open Nd0 Nd3
theorem infoNode:(Tryz.prog.info? 58).map (fun i=>(i.zero,i.size,i.bytes))=some (some (.agg #[.int .i64 0,.int .i64 0,.int .i64 0,.int .i64 0,.int .i64 0,.int .i64 0]),6,48):=by kernel_rfl
def flat (l:List Nd):List Value:=l.flatMap Nd.cells
theorem cells_length (n:Nd):n.cells.length=6:=rfl
theorem flat_length (l:List Nd):(flat l).length=l.length*6:=by
 induction l with
 | nil=>rfl
 | cons n l ih=>show (n.cells++flat l).length=_;rw [List.length_append,ih,cells_length,List.length_cons];omega
theorem flat_get (l:List Nd):∀ (i:Nat) (h:i < l.length) (j:Nat),j < 6->(flat l)[i*6+j]? = (l[i].cells)[j]? := by
 induction l with
 | nil=>intro i h;exact absurd h (Nat.not_lt_zero _)
 | cons n l ih =>
   intro i h j hj
   show (n.cells++flat l)[i*6+j]? = _
   cases i with
   | zero=>rw [Nat.zero_mul,Nat.zero_add,List.getElem?_append_left (by rw [cells_length];exact hj)];rfl
   | succ i =>
     rw [List.getElem?_append_right (by rw [cells_length];omega),cells_length,show (i+1)*6+j - 6=i*6+j by omega]
     exact ih i (by simpa using h) j hj
theorem flat_snoc (l:List Nd) (n:Nd):flat (l++[n])=flat l++n.cells:=by simp [flat]
def Own (w:World) (B:Nat) (v:Value) (l:List Nd):Prop:=w.ownsRow B 58 6 v l.length (flat l)
theorem Own.form {w:World} {B:Nat} {v:Value} {l:List Nd} (h:Own w B v l):∃ a c,v=.slice a l.length c/\WNodes w B a l:=by
 obtain ⟨h1,h2⟩:=h
 rcases h2 with ⟨rfl,h0⟩|⟨g,cap,cur,rfl,hb,hg,hn,hm,hs,ht⟩
 ·have:l=[]:=List.eq_nil_of_length_eq_zero h0
  subst this
  exact ⟨none,0,rfl,Nat.zero_le _,.inl rfl⟩
 ·have hcell:∀ j,j < l.length*6->w.cell? ⟨g,j,none⟩=(flat l)[j]? := by
   intro j hj
   rw [cell_of_row w g j cur _ _ hg,<- ht,List.getElem?_take_of_lt hj]
   simp
  refine ⟨_,_,rfl,by omega,.inr ⟨g,0,rfl,hb,fun i hi=>?_,fun j hj=>?_⟩⟩
  ·have hf:=flat_get l i hi
   rw [Nat.zero_add]
   refine ⟨?_,?_,?_,?_,?_,?_⟩
   ·rw [hcell _ (by omega)];exact hf 0 (by omega)
   ·rw [hcell _ (by omega)];exact hf 1 (by omega)
   ·rw [hcell _ (by omega)];exact hf 2 (by omega)
   ·rw [hcell _ (by omega)];exact hf 3 (by omega)
   ·rw [hcell _ (by omega)];exact hf 4 (by omega)
   ·rw [hcell _ (by omega)];exact hf 5 (by omega)
  ·rw [Nat.zero_add]
   simp [World.frozen?,hg]
theorem Own.lit (w:World) (B:Nat) (hB:B<=w.heap.size):Own (w.alloc (.cells #[] 58)) B (.slice (some ⟨w.heap.size,0,none⟩) 0 0) [] :=
 World.ownsRow_lit w #[] 0 hB (Nat.zero_le _) rfl
theorem Own.lt {w:World} {B:Nat} {v:Value} {l:List Nd} (h:Own w B v l):∀ k,v.ownBlock=some k->B<=k/\k < w.heap.size:=World.ownsRow.lt h
theorem Own.kept {w w':World} {B:Nat} {v:Value} {l:List Nd} (h:Own w B v l) {S:Nat->Prop} (k:Kept S w w') (hs:∀ i,v.ownBlock=some i->¬ S i):Own w' B v l:=by
 refine ⟨h.1,?_⟩
 rcases h.2 with hn|⟨g,cap,cur,rfl,hb,hgg,rest⟩
 ·exact .inl hn
 ·refine .inr ⟨g,cap,cur,rfl,hb,?_,rest⟩
  rw [k.block g (Array.getElem?_eq_some_iff.1 hgg).1 (hs g rfl)]
  exact hgg
theorem Own.len {w:World} {B:Nat} {v:Value} {l:List Nd} (h:Own w B v l):∃ a c,v=.slice a l.length c:=by
 obtain ⟨a,c,hv,_⟩:=h.form;exact ⟨a,c,hv⟩
theorem app_node {ops:Array Oper} {rest:List Oper} {o:Oper} {a:Act} {Q:Exit->Act->World->Prop} (W:World) (hgd:o.guard=none) (s x:Operand)
 (ho:o.op=.call { callee:=.builtin .append,args := #[s,x],argTypes := #[24,24] })
 (B:Nat) (v:Value) (l:List Nd) (y:Nd) (hs:a.eval s=v) (G:Nat) (hx:a.eval x=.slice (some ⟨G,0,none⟩) 1 1) (hG:G=W.heap.size)
 (hown:Own W B v l) (hB:B<=W.heap.size) (hlen:l.length<=1048576)
 (h:∀ g cap w',Own w' B (.slice (some ⟨g,0,none⟩) (l.length+1) cap) (l++[y])->Kept (fun k=>v.ownBlock=some k) W w'->(v.ownBlock=some g\/W.heap.size<=g)->wpList Tryz.prog ops Q rest (a.put o.dst (.slice (some ⟨g,0,none⟩) (l.length+1) cap)) w') :
 wpList Tryz.prog ops Q (o :: rest) a (W.alloc (.cells #[.int .i64 y.op,.int .i64 y.w,.int .i64 y.k,.int .i64 y.a,.int .i64 y.b,.int .i64 y.c] 58)):=by
 subst hG
 obtain ⟨i,hi,hzz⟩:=Option.map_eq_some_iff.1 infoNode
 simp only [Prod.mk.injEq] at hzz
 obtain ⟨hz,hsz,hb⟩:=hzz
 refine wpList_append_lies (W.alloc (.cells #[.int .i64 y.op,.int .i64 y.w,.int .i64 y.k,.int .i64 y.a,.int .i64 y.b,.int .i64 y.c] 58)) hgd s x 24 ho B 58 i _ 6 48 Tryz.underlying24 hi hz hsz hb rfl (by omega) v l.length (flat l) hs (World.ownsRow.alloc hown _)
  ⟨W.heap.size,0,none⟩ 1 1 y.cells hx rfl ?_ ?_ (by omega) (by unfold maxLen;omega) (by omega) (by simp;omega) _ rfl ?_
 ·intro j u hu
  exact World.news_of_block (heap_alloc_new W _) j u hu
 ·intro u hu
  simp [Nd.cells] at hu
  rcases hu with rfl|rfl|rfl|rfl|rfl|rfl<;>rfl
 ·intro g cap w' h1 h2 h3 h4
  refine h g cap w' ?_ ?_ ?_
  ·unfold Own
   rw [flat_snoc,List.length_append]
   exact h1
  ·have k1:Kept (fun k=>v.ownBlock=some k) W (W.alloc (.cells #[.int .i64 y.op,.int .i64 y.w,.int .i64 y.k,.int .i64 y.a,.int .i64 y.b,.int .i64 y.c] 58)):=(Kept.refl _ W).alloc _
   exact k1.trans ⟨h2.os,h2.tape,h2.output,h2.size,fun k hk hn=>h2.block k hk (fun e=>hn e.symm)⟩
  ·rcases h3 with h3|h3
   ·exact .inl h3
   ·exact .inr (by rw [h3];simp)
end Ap2
namespace Dw3
open Go.RowKit
open Nd0 Nd3 Ap2
theorem flat_app (l ys:List Nd):flat (l++ys)=flat l++flat ys:=by simp [flat]
theorem nodes_cells {W:World} {gx ox:Nat} {ys:List Nd} (hy:∀ i (h:i < ys.length),NodeAt W gx (ox+i*6) ys[i]) (j:Nat) (u:Value) (hu:(flat ys)[j]? = some u):W.cell? ((⟨gx,ox,none⟩:Addr).add j)=some u:=by
 have hadd:(⟨gx,ox,none⟩:Addr).add j=⟨gx,ox+j,none⟩:=by unfold Addr.add;split<;>simp_all
 rw [hadd]
 have hj:j < (flat ys).length:=(List.getElem?_eq_some_iff.1 hu).1
 rw [flat_length] at hj
 have hi:j / 6 < ys.length:=by omega
 have hf:=flat_get ys (j / 6) hi (j % 6) (Nat.mod_lt _ (by omega))
 have e:j / 6*6+j % 6=j:=by omega
 rw [e,hu] at hf
 obtain ⟨c0,c1,c2,c3,c4,c5⟩:=hy (j / 6) hi
 have h6:j % 6=0\/j % 6=1\/j % 6=2\/j % 6=3\/j % 6=4\/j % 6=5:=by omega
 rcases h6 with r|r|r|r|r|r
 ·rw [r] at hf;have e2:ox+j=ox+j / 6*6:=by omega
  rw [e2,c0];exact hf.symm
 ·rw [r] at hf;have e2:ox+j=ox+j / 6*6+1:=by omega
  rw [e2,c1];exact hf.symm
 ·rw [r] at hf;have e2:ox+j=ox+j / 6*6+2:=by omega
  rw [e2,c2];exact hf.symm
 ·rw [r] at hf;have e2:ox+j=ox+j / 6*6+3:=by omega
  rw [e2,c3];exact hf.symm
 ·rw [r] at hf;have e2:ox+j=ox+j / 6*6+4:=by omega
  rw [e2,c4];exact hf.symm
 ·rw [r] at hf;have e2:ox+j=ox+j / 6*6+5:=by omega
  rw [e2,c5];exact hf.symm
/-- Some nodes more, at a step of a region that draws its order. -/
theorem step_app_nodes {ops:Array Oper} {o:Oper} {a:Act} {K:Act->World->Prop} {Q:Exit->Act->World->Prop} {E:Prop} (W:World) (hgd:o.guard=none) (s x:Operand)
 (ho:o.op=.call { callee:=.builtin .append,args := #[s,x],argTypes := #[24,24] })
 (B:Nat) (v:Value) (l ys:List Nd) (gx ox c:Nat) (hs:a.eval s=v) (hx:a.eval x=.slice (some ⟨gx,ox,none⟩) ys.length c)
 (hy:∀ i (h:i < ys.length),NodeAt W gx (ox+i*6) ys[i]) (hp:0 < ys.length)
 (hown:Ap2.Own W B v l) (hB:B<=W.heap.size) (hlen:l.length+ys.length<=1048577)
 (h:∀ g cap w',Ap2.Own w' B (.slice (some ⟨g,0,none⟩) (l.length+ys.length) cap) (l++ys)->Kept (fun k=>v.ownBlock=some k) W w'->(v.ownBlock=some g\/W.heap.size<=g)->K (a.put o.dst (.slice (some ⟨g,0,none⟩) (l.length+ys.length) cap)) w') :
 if Region.wanted o (yielded ops a.tmps)=true then Oper.wp Tryz.prog o a W K Q else E:=by
 obtain ⟨i,hi,hzz⟩:=Option.map_eq_some_iff.1 infoNode
 simp only [Prod.mk.injEq] at hzz
 obtain ⟨hz,hsz,hb⟩:=hzz
 refine step_append_lies W hgd s x 24 ho B 58 i _ 6 48 Tryz.underlying24 hi hz hsz hb rfl (by omega) v l.length (flat l) hs hown
  ⟨gx,ox,none⟩ ys.length c (flat ys) hx (flat_length ys) (fun j u hu=>nodes_cells hy j u hu) ?_ hp (by unfold maxLen;omega) (by omega) hB _ rfl ?_
 ·intro u hu
  obtain ⟨n,_,hn⟩:=List.mem_flatMap.1 hu
  simp [Nd.cells] at hn
  rcases hn with rfl|rfl|rfl|rfl|rfl|rfl<;>rfl
 ·intro g cap w' h1 h2 h3 h4
  refine h g cap w' ?_ ?_ ?_
  ·unfold Ap2.Own
   rw [flat_app,List.length_append]
   exact h1
  ·exact ⟨h2.os,h2.tape,h2.output,h2.size,fun k hk hn=>h2.block k hk (fun e=>hn e.symm)⟩
  ·rcases h3 with h3|h3
   ·exact .inl h3
   ·exact .inr (by rw [h3];exact Nat.le_refl _)
end Dw3
namespace Dw4
open Go.RowKit
open Nd0 Nd3 Ap2
theorem own_lit (W:World) (B g:Nat) (hg:g=W.heap.size) (hB:B<=g):Ap2.Own (W.alloc (.cells #[] 58)) B (.slice (some ⟨g,0,none⟩) 0 0) []:=by
 subst hg;exact Own.lit W B hB
theorem node_new (W:World) (n:Nd) (T g:Nat) (hg:g=W.heap.size):∀ i (h:i < [n].length),NodeAt (W.alloc (.cells #[.int .i64 n.op,.int .i64 n.w,.int .i64 n.k,.int .i64 n.a,.int .i64 n.b,.int .i64 n.c] T)) g (0+i*6) [n][i]:=by
 subst hg
 intro i hi
 have h0:i=0:=by simp at hi;exact hi
 subst h0
 refine ⟨?_,?_,?_,?_,?_,?_⟩<;>(rw [World.cell?_alloc_new];try rfl)
theorem node_kept {W W':World} {S:Nat->Prop} {n:Nd} {g:Nat} (k:Kept S W W') (hg:g < W.heap.size) (hs:¬ S g) (h:∀ i (h:i < [n].length),NodeAt W g (0+i*6) [n][i]):∀ i (h:i < [n].length),NodeAt W' g (0+i*6) [n][i]:=by
 intro i hi
 obtain ⟨c0,c1,c2,c3,c4,c5⟩:=h i hi
 exact ⟨by rw [k.cell (p:=⟨g,_,none⟩) hg hs];exact c0,by rw [k.cell (p:=⟨g,_,none⟩) hg hs];exact c1,by rw [k.cell (p:=⟨g,_,none⟩) hg hs];exact c2,by rw [k.cell (p:=⟨g,_,none⟩) hg hs];exact c3,by rw [k.cell (p:=⟨g,_,none⟩) hg hs];exact c4,by rw [k.cell (p:=⟨g,_,none⟩) hg hs];exact c5⟩
theorem own_ne {g h n c:Nat} (hne:g≠h):¬ (Value.slice (some ⟨g,0,none⟩) n c).ownBlock=some h:=by
 intro e
 have:some g=some h:=e
 exact hne (Option.some.inj this)
theorem sz2 (W:World) (o o':Obj):(((W.alloc o).alloc o').drew).heap.size=W.heap.size+1+1:=by
 show ((W.alloc o).alloc o').heap.size=_
 simp
theorem node_drew {W:World} {n:Nd} {g:Nat} (h:∀ i (h:i < [n].length),NodeAt W g (0+i*6) [n][i]):∀ i (h:i < [n].length),NodeAt W.drew g (0+i*6) [n][i]:=fun i hi=>⟨(h i hi).c0,(h i hi).c1,(h i hi).c2,(h i hi).c3,(h i hi).c4,(h i hi).c5⟩
end Dw4
namespace Ap7
open Go.RowKit
open Nd0 Nd3 Ap2 Dw3 Dw4
theorem app_nodes {ops:Array Oper} {rest:List Oper} {o:Oper} {a:Act} {Q:Exit->Act->World->Prop} (W:World) (hgd:o.guard=none) (s x:Operand)
 (ho:o.op=.call { callee:=.builtin .append,args := #[s,x],argTypes := #[24,24] })
 (B:Nat) (v:Value) (l ys:List Nd) (gx ox c:Nat) (hs:a.eval s=v) (hx:a.eval x=.slice (some ⟨gx,ox,none⟩) ys.length c)
 (hy:∀ i (h:i < ys.length),NodeAt W gx (ox+i*6) ys[i]) (hp:0 < ys.length)
 (hown:Ap2.Own W B v l) (hB:B<=W.heap.size) (hlen:l.length+ys.length<=1048577)
 (h:∀ g cap w',Ap2.Own w' B (.slice (some ⟨g,0,none⟩) (l.length+ys.length) cap) (l++ys)->Kept (fun k=>v.ownBlock=some k) W w'->(v.ownBlock=some g\/W.heap.size<=g)->wpList Tryz.prog ops Q rest (a.put o.dst (.slice (some ⟨g,0,none⟩) (l.length+ys.length) cap)) w') :
 wpList Tryz.prog ops Q (o :: rest) a W:=by
 obtain ⟨i,hi,hzz⟩:=Option.map_eq_some_iff.1 infoNode
 simp only [Prod.mk.injEq] at hzz
 obtain ⟨hz,hsz,hb⟩:=hzz
 refine wpList_append_lies W hgd s x 24 ho B 58 i _ 6 48 Tryz.underlying24 hi hz hsz hb rfl (by omega) v l.length (flat l) hs hown
  ⟨gx,ox,none⟩ ys.length c (flat ys) hx (flat_length ys) (fun j u hu=>nodes_cells hy j u hu) ?_ hp (by unfold maxLen;omega) (by omega) hB _ rfl ?_
 ·intro u hu
  obtain ⟨n,_,hn⟩:=List.mem_flatMap.1 hu
  simp [Nd.cells] at hn
  rcases hn with rfl|rfl|rfl|rfl|rfl|rfl<;>rfl
 ·intro g cap w' h1 h2 h3 h4
  refine h g cap w' ?_ ?_ ?_
  ·unfold Ap2.Own
   rw [flat_app,List.length_append]
   exact h1
  ·exact ⟨h2.os,h2.tape,h2.output,h2.size,fun k hk hn=>h2.block k hk (fun e=>hn e.symm)⟩
  ·rcases h3 with h3|h3
   ·exact .inl h3
   ·exact .inr (by rw [h3];exact Nat.le_refl _)
theorem own_cap {w:World} {B:Nat} {a:Option Addr} {n c:Nat} {l:List Nd} (h:Ap2.Own w B (.slice a n c) l):n=l.length/\l.length<=c:=by
 obtain ⟨h1,h2⟩:=h
 rcases h2 with ⟨e,h0⟩|⟨g,cap,cur,e,hb,hg,hn,hm,hs,ht⟩
 ·cases e;exact ⟨h0.symm,by omega⟩
 ·cases e;exact ⟨rfl,hn⟩
end Ap7
end Go.Proofs.YtebejleeadofcaaGreat
