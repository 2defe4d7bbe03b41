import Derived.WalkKit
import Derived.Deep.QuietTactic
import Derived.BigQuiet
import Derived.Test.YtladjpombohpaaaGreatDoorRows
import Derived.WalkSpells
import Derived.WalkLawsBesides
import Derived.Deep.RegionWith
namespace Go.Proofs.YtladjpombohpaaaGreatDoor
set_option maxRecDepth 100000
set_option maxHeartbeats 8000000
set_option linter.unusedVariables false
namespace Nd0
open Go.RowKit
/-- A node: six whole numbers. -/
structure Nd where
 op:Int
 w:Int
 k:Int
 a:Int
 b:Int
 c:Int
theorem Nd.ext' {m n:Nd} (h:m.op=n.op/\m.w=n.w/\m.k=n.k/\m.a=n.a/\m.b=n.b/\m.c=n.c):m=n:=by
 cases m;cases n;simp_all
def Nd.zero:Nd:=⟨0,0,0,0,0,0⟩
def Nd.cells (n:Nd):List Value:=[.int .i64 n.op,.int .i64 n.w,.int .i64 n.k,.int .i64 n.a,.int .i64 n.b,.int .i64 n.c]
/-- Node i of a list, or one of noughts. -/
def nth (l:List Nd) (i:Nat):Nd:=l.getD i Nd.zero
theorem nth_get {l:List Nd} {i:Nat} (h:i < l.length):l[i]=nth l i:=by simp [nth,List.getD,h]
/-- The node n lies in block b from cell p on. -/
structure NodeAt (w:World) (b p:Nat) (n:Nd):Prop where
 c0:w.cell? ⟨b,p,none⟩=some (.int .i64 n.op)
 c1:w.cell? ⟨b,p+1,none⟩=some (.int .i64 n.w)
 c2:w.cell? ⟨b,p+2,none⟩=some (.int .i64 n.k)
 c3:w.cell? ⟨b,p+3,none⟩=some (.int .i64 n.a)
 c4:w.cell? ⟨b,p+4,none⟩=some (.int .i64 n.b)
 c5:w.cell? ⟨b,p+5,none⟩=some (.int .i64 n.c)
/-- A slice of the nodes l can be read at address a. -/
def Nodes (w:World) (a:Option Addr) (l:List Nd):Prop :=
 l.length<=maxLen/\(l.length=0\/∃ b o,a=some ⟨b,o,none⟩/\∀ i (h:i < l.length),NodeAt w b (o+i*6) l[i])
/-- A slice of the whole numbers l can be read at address a. -/
def Ints (w:World) (a:Option Addr) (l:List Int):Prop :=
 l.length<=maxLen/\(l.length=0\/∃ b o,a=some ⟨b,o,none⟩/\∀ i (h:i < l.length),w.cell? ⟨b,o+i,none⟩=some (.int .i64 l[i]))
theorem lt_of_cell {w:World} {p:Addr} {v:Value} (h:w.cell? p=some v):p.block < w.heap.size:=World.block_lt_of_cell? _ _ h
theorem NodeAt.below {w w':World} {b p:Nat} {n:Nd} (h:NodeAt w b p n) {B:Nat} (k:Below B w w') (hb:b < B):NodeAt w' b p n :=
 ⟨by rw [k.cell hb];exact h.c0,by rw [k.cell hb];exact h.c1,by rw [k.cell hb];exact h.c2,by rw [k.cell hb];exact h.c3,by rw [k.cell hb];exact h.c4,by rw [k.cell hb];exact h.c5⟩
theorem NodeAt.lt {w:World} {b p:Nat} {n:Nd} (h:NodeAt w b p n):b < w.heap.size:=lt_of_cell (p:=⟨b,p,none⟩) h.c0
theorem Nodes.below {w w':World} {a:Option Addr} {l:List Nd} (h:Nodes w a l) (k:Below w.heap.size w w'):Nodes w' a l:=by
 refine ⟨h.1,?_⟩
 rcases h.2 with h0|⟨b,o,rfl,hc⟩
 ·exact .inl h0
 ·exact .inr ⟨b,o,rfl,fun i hi=>(hc i hi).below k (hc i hi).lt⟩
theorem Ints.below {w w':World} {a:Option Addr} {l:List Int} (h:Ints w a l) (k:Below w.heap.size w w'):Ints w' a l:=by
 refine ⟨h.1,?_⟩
 rcases h.2 with h0|⟨b,o,rfl,hc⟩
 ·exact .inl h0
 ·exact .inr ⟨b,o,rfl,fun i hi=>by rw [k.cell (lt_of_cell (hc i hi))];exact hc i hi⟩
/-- From w to w' no block that was there has turned but those in S. -/
structure Kept (S:Nat->Prop) (w w':World):Prop where
 os:w'.os=w.os
 tape:w'.tape=w.tape
 output:w'.output=w.output
 size:w.heap.size<=w'.heap.size
 block:∀ k,k < w.heap.size->¬ S k->w'.heap[k]? = w.heap[k]?
theorem Kept.refl (S:Nat->Prop) (w:World):Kept S w w:=⟨rfl,rfl,rfl,Nat.le_refl _,fun _ _ _=>rfl⟩
theorem Kept.trans {S:Nat->Prop} {u v w:World} (h:Kept S u v) (k:Kept S v w):Kept S u w :=
 ⟨k.os.trans h.os,k.tape.trans h.tape,k.output.trans h.output,Nat.le_trans h.size k.size,fun i hi hb=>(k.block i (Nat.lt_of_lt_of_le hi h.size) hb).trans (h.block i hi hb)⟩
theorem Kept.mono {S T:Nat->Prop} {w w':World} (h:Kept S w w') (k:∀ i,S i->T i):Kept T w w' :=
 ⟨h.os,h.tape,h.output,h.size,fun i hi hb=>h.block i hi fun x=>hb (k i x)⟩
theorem Kept.drew {S:Nat->Prop} {u w:World} (h:Kept S u w):Kept S u w.drew:=⟨h.os,h.tape,h.output,h.size,h.block⟩
theorem Kept.drewN {S:Nat->Prop} {u w:World} (h:Kept S u w) (n:Nat):Kept S u (w.drewN n):=⟨h.os,h.tape,h.output,h.size,h.block⟩
theorem Kept.alloc {S:Nat->Prop} {u w:World} (h:Kept S u w) (o:Obj):Kept S u (w.alloc o) :=
 h.trans ⟨rfl,rfl,rfl,by simp,fun k hk _=>Below.heap_alloc _ _ _ hk⟩
theorem Kept.setCell {S:Nat->Prop} {u w:World} (h:Kept S u w) {p:Addr} (hp:S p.block) (x:Value):Kept S u (w.setCell p x) :=
 h.trans ⟨rfl,rfl,rfl,by simp [World.setCell],fun k _ hk=>Below.heap_setCell _ _ _ _ (fun e=>hk (e ▸ hp))⟩
theorem Kept.cell {S:Nat->Prop} {w w':World} (h:Kept S w w') {p:Addr} (hp:p.block < w.heap.size) (hb:¬ S p.block):w'.cell? p=w.cell? p :=
 World.cell?_of_block (w:=w) (h.block p.block hp hb)
theorem Kept.frozen {S:Nat->Prop} {w w':World} (h:Kept S w w') {p:Addr} (hp:p.block < w.heap.size) (hb:¬ S p.block):w'.frozen? p=w.frozen? p :=
 World.frozen?_of_block (w:=w) (h.block p.block hp hb)
theorem Kept.below {S:Nat->Prop} {B:Nat} {w w':World} (h:Kept S w w') (hB:∀ k,S k->B<=k) (hs:B<=w.heap.size):Below B w w' :=
 ⟨h.os,h.tape,h.output,h.size,fun k hk=>h.block k (by omega) (fun x=>by have:=hB k x;omega)⟩
theorem Kept.ofBelow {S:Nat->Prop} {w w':World} (h:Below w.heap.size w w'):Kept S w w' :=
 ⟨h.os,h.tape,h.output,h.size,fun k hk _=>h.block k hk⟩
/-- The block that an address names. -/
def At (a:Option Addr) (k:Nat):Prop:=∃ x,a=some x/\k=x.block
theorem Kept.setAt {b o:Nat} {u w:World} (h:Kept (At (some ⟨b,o,none⟩)) u w) (p:Nat) (x:Value):Kept (At (some ⟨b,o,none⟩)) u (w.setCell ⟨b,p,none⟩ x):=h.setCell (p:=⟨b,p,none⟩) ⟨⟨b,o,none⟩,rfl,rfl⟩ x
/-- .. where something is there. -/
def Ats (n:Nat) (a:Option Addr) (k:Nat):Prop:=0 < n/\At a k
/-- A slice of the whole numbers l, in a block from B on, that may be written. -/
def WInts (w:World) (B:Nat) (a:Option Addr) (l:List Int):Prop :=
 l.length<=maxLen/\(l.length=0\/∃ b o,a=some ⟨b,o,none⟩/\B<=b/\∀ i (h:i < l.length),w.cell? ⟨b,o+i,none⟩=some (.int .i64 l[i])/\w.frozen? ⟨b,o+i,none⟩=false)
theorem WInts.ints {w:World} {B:Nat} {a:Option Addr} {l:List Int} (h:WInts w B a l):Ints w a l:=by
 refine ⟨h.1,?_⟩
 rcases h.2 with h0|⟨b,o,ha,_,hc⟩
 ·exact .inl h0
 ·exact .inr ⟨b,o,ha,fun i hi=>(hc i hi).1⟩
theorem WInts.kept {w w':World} {B:Nat} {a:Option Addr} {l:List Int} (h:WInts w B a l) {S:Nat->Prop} (k:Kept S w w') (hs:∀ x,a=some x->¬ S x.block):WInts w' B a l:=by
 refine ⟨h.1,?_⟩
 rcases h.2 with h0|⟨b,o,rfl,hB,hc⟩
 ·exact .inl h0
 ·exact .inr ⟨b,o,rfl,hB,fun i hi=>⟨by rw [k.cell (lt_of_cell (hc i hi).1) (hs ⟨b,o,none⟩ rfl)];exact (hc i hi).1,by rw [k.frozen (p:=⟨b,o+i,none⟩) (lt_of_cell (hc i hi).1) (hs ⟨b,o,none⟩ rfl)];exact (hc i hi).2⟩⟩
theorem Nodes.kept {w w':World} {a:Option Addr} {l:List Nd} (h:Nodes w a l) {S:Nat->Prop} (k:Kept S w w') (hs:∀ x,a=some x->¬ S x.block):Nodes w' a l:=by
 refine ⟨h.1,?_⟩
 rcases h.2 with h0|⟨b,o,rfl,hc⟩
 ·exact .inl h0
 ·refine .inr ⟨b,o,rfl,fun i hi=>?_⟩
  have hb:=(hc i hi).lt
  have hn:¬ S b:=hs ⟨b,o,none⟩ rfl
  obtain ⟨c0,c1,c2,c3,c4,c5⟩:=hc i hi
  exact ⟨by rw [k.cell hb hn];exact c0,by rw [k.cell hb hn];exact c1,by rw [k.cell hb hn];exact c2,by rw [k.cell hb hn];exact c3,by rw [k.cell hb hn];exact c4,by rw [k.cell hb hn];exact c5⟩
theorem set_other {w:World} {p q:Addr} {v:Value} (h:p≠q):(w.setCell p v).cell? q=w.cell? q:=by apply World.cell?_setCell_other;exact h
theorem set_same {w:World} {p:Addr} {u v:Value} (h:w.cell? p=some u):(w.setCell p v).cell? p=some v:=by apply World.cell?_setCell_same;exact h
/-- A slice of the whole numbers l, in a block from B on and below U, that may be written. -/
def IntsIn (w:World) (B U:Nat) (a:Option Addr) (l:List Int):Prop :=
 l.length<=maxLen/\(l.length=0\/∃ b o,a=some ⟨b,o,none⟩/\B<=b/\b < U/\∀ i (h:i < l.length),w.cell? ⟨b,o+i,none⟩=some (.int .i64 l[i])/\w.frozen? ⟨b,o+i,none⟩=false)
theorem WInts.within {w:World} {B:Nat} {a:Option Addr} {l:List Int} (h:WInts w B a l):IntsIn w B w.heap.size a l:=by
 refine ⟨h.1,?_⟩
 by_cases e:l.length=0
 ·exact .inl e
 ·rcases h.2 with h0|⟨b,o,ha,hB,hc⟩
  ·exact .inl h0
  ·exact .inr ⟨b,o,ha,hB,lt_of_cell (p:=⟨b,o+0,none⟩) (hc 0 (by omega)).1,hc⟩
theorem IntsIn.wints {w:World} {B U:Nat} {a:Option Addr} {l:List Int} (h:IntsIn w B U a l):WInts w B a l:=by
 refine ⟨h.1,?_⟩
 rcases h.2 with h0|⟨b,o,ha,hB,_,hc⟩
 ·exact .inl h0
 ·exact .inr ⟨b,o,ha,hB,hc⟩
theorem IntsIn.kept {w w':World} {B U:Nat} {a:Option Addr} {l:List Int} (h:IntsIn w B U a l) {S:Nat->Prop} (k:Kept S w w') (hs:∀ b,B<=b->b < U->¬ S b):IntsIn w' B U a l:=by
 refine ⟨h.1,?_⟩
 rcases h.2 with h0|⟨b,o,rfl,hB,hU,hc⟩
 ·exact .inl h0
 ·exact .inr ⟨b,o,rfl,hB,hU,fun i hi=>⟨by rw [k.cell (lt_of_cell (hc i hi).1) (hs b hB hU)];exact (hc i hi).1,by rw [k.frozen (p:=⟨b,o+i,none⟩) (lt_of_cell (hc i hi).1) (hs b hB hU)];exact (hc i hi).2⟩⟩
theorem IntsIn.again {w w':World} {B U:Nat} {a:Option Addr} {l l':List Int} (h:IntsIn w B U a l) (h':WInts w' B a l') (e:l'.length=l.length):IntsIn w' B U a l':=by
 refine ⟨h'.1,?_⟩
 rcases h.2 with h0|⟨b,o,rfl,hB,hU,hc⟩
 ·exact .inl (by omega)
 ·rcases h'.2 with h0|⟨b',o',ha,hB',hc'⟩
  ·exact .inl h0
  ·cases ha
   exact .inr ⟨b,o,rfl,hB,hU,hc'⟩
theorem IntsIn.ats {w:World} {B U:Nat} {a:Option Addr} {l:List Int} (h:IntsIn w B U a l) {k:Nat} (hk:Ats l.length a k):B<=k/\k < U:=by
 obtain ⟨hp,x,hx,rfl⟩:=hk
 rcases h.2 with h0|⟨b,o,rfl,hB,hU,_⟩
 ·omega
 ·cases hx;exact ⟨hB,hU⟩
/-- Node n written over six cells of block b from p on. -/
def setNode (w:World) (b p:Nat) (n:Nd):World :=
 (((((w.setCell ⟨b,p,none⟩ (.int .i64 n.op)).setCell ⟨b,p+1,none⟩ (.int .i64 n.w)).setCell ⟨b,p+2,none⟩ (.int .i64 n.k)).setCell ⟨b,p+3,none⟩ (.int .i64 n.a)).setCell ⟨b,p+4,none⟩ (.int .i64 n.b)).setCell ⟨b,p+5,none⟩ (.int .i64 n.c)
theorem setNode_same {w:World} {b p:Nat} {v n:Nd} (h:NodeAt w b p v):NodeAt (setNode w b p n) b p n:=by
 obtain ⟨c0,c1,c2,c3,c4,c5⟩:=h
 unfold setNode
 refine ⟨?_,?_,?_,?_,?_,?_⟩
 ·rw [set_other (by simp),set_other (by simp),set_other (by simp),set_other (by simp),set_other (by simp)];exact set_same c0
 ·rw [set_other (by simp),set_other (by simp),set_other (by simp),set_other (by simp)];exact set_same (by rw [set_other (by simp)];exact c1)
 ·rw [set_other (by simp),set_other (by simp),set_other (by simp)];exact set_same (by rw [set_other (by simp),set_other (by simp)];exact c2)
 ·rw [set_other (by simp),set_other (by simp)];exact set_same (by rw [set_other (by simp),set_other (by simp),set_other (by simp)];exact c3)
 ·rw [set_other (by simp)];exact set_same (by rw [set_other (by simp),set_other (by simp),set_other (by simp),set_other (by simp)];exact c4)
 ·exact set_same (by rw [set_other (by simp),set_other (by simp),set_other (by simp),set_other (by simp),set_other (by simp)];exact c5)
theorem setNode_cell {w:World} {b p:Nat} {n:Nd} {q:Nat} (h:q < p\/p+6<=q):(setNode w b p n).cell? ⟨b,q,none⟩=w.cell? ⟨b,q,none⟩:=by
 unfold setNode
 rw [set_other (by simp<;>omega),set_other (by simp<;>omega),set_other (by simp<;>omega),set_other (by simp<;>omega),set_other (by simp<;>omega),set_other (by simp<;>omega)]
theorem setNode_frozen {w:World} {b p:Nat} {n:Nd} {q:Addr}:(setNode w b p n).frozen? q=w.frozen? q:=by
 unfold setNode;simp only [World.frozen?_setCell]
theorem setNode_size {w:World} {b p:Nat} {n:Nd}:(setNode w b p n).heap.size=w.heap.size:=by
 simp [setNode,World.setCell]
theorem setNode_other {w:World} {b p q:Nat} {v n:Nd} (h:NodeAt w b q v) (hq:q+6<=p\/p+6<=q):NodeAt (setNode w b p n) b q v:=by
 obtain ⟨c0,c1,c2,c3,c4,c5⟩:=h
 exact ⟨by rw [setNode_cell (by omega)];exact c0,by rw [setNode_cell (by omega)];exact c1,by rw [setNode_cell (by omega)];exact c2,by rw [setNode_cell (by omega)];exact c3,by rw [setNode_cell (by omega)];exact c4,by rw [setNode_cell (by omega)];exact c5⟩
theorem setNode_keptS {S:Nat->Prop} {b p:Nat} {u w:World} {n:Nd} (hS:S b) (h:Kept S u w):Kept S u (setNode w b p n) :=
 (((((h.setCell (p:=⟨b,p,none⟩) hS _).setCell (p:=⟨b,p+1,none⟩) hS _).setCell (p:=⟨b,p+2,none⟩) hS _).setCell (p:=⟨b,p+3,none⟩) hS _).setCell (p:=⟨b,p+4,none⟩) hS _).setCell (p:=⟨b,p+5,none⟩) hS _
theorem setNode_kept {b o p:Nat} {u w:World} {n:Nd} (h:Kept (At (some ⟨b,o,none⟩)) u w):Kept (At (some ⟨b,o,none⟩)) u (setNode w b p n) :=
 (((((h.setAt _ _).setAt _ _).setAt _ _).setAt _ _).setAt _ _).setAt _ _
theorem wints_lit (W:World) (B g:Nat) (l:List Int) (T:Nat) (hg:g=W.heap.size) (hB:B<=g) (hl:l.length<=maxLen):WInts (W.alloc (.cells (l.map fun x=>.int .i64 x).toArray T)) B (some ⟨g,0,none⟩) l:=by
 subst hg
 refine ⟨hl,.inr ⟨W.heap.size,0,rfl,hB,fun i hi=>⟨?_,by simp⟩⟩⟩
 rw [World.cell?_alloc_new]
 simp [hi]
/-- The numbers from k0 on. -/
def marks (n:Nat) (k0:Int):List Int:=(List.range n).map fun (i:Nat)=>k0+(i:Int)
theorem marks_length (n:Nat) (k0:Int):(marks n k0).length=n:=by simp [marks]
theorem marks_get (n:Nat) (k0:Int) (i:Nat) (h:i < (marks n k0).length):(marks n k0)[i]=k0+i:=by simp [marks]
end Nd0
namespace Qc0
open Go.RowKit
open Nd0
structure Sn where
 k:ByteArray
 r:Int
def Sn.zero:Sn:=⟨ByteArray.empty,0⟩
def Sn.cells (x:Sn):List Value:=[.string x.k,.int .i64 x.r]
structure SnAt (w:World) (b p:Nat) (n:Sn):Prop where
 c0:w.cell? ⟨b,p,none⟩=some (.string n.k)
 c1:w.cell? ⟨b,p+1,none⟩=some (.int .i64 n.r)
/-- A slice of l can be read at address a. -/
def Sns (w:World) (a:Option Addr) (l:List Sn):Prop :=
 l.length<=maxLen/\(l.length=0\/∃ b o,a=some ⟨b,o,none⟩/\∀ i (h:i < l.length),SnAt w b (o+i*2) l[i])
theorem SnAt.lt {w:World} {b p:Nat} {n:Sn} (h:SnAt w b p n):b < w.heap.size:=lt_of_cell (p:=⟨b,p,none⟩) h.c0
theorem SnAt.below {w w':World} {b p:Nat} {n:Sn} (h:SnAt w b p n) {B:Nat} (k:Below B w w') (hb:b < B):SnAt w' b p n :=
 ⟨by rw [k.cell hb];exact h.c0,by rw [k.cell hb];exact h.c1⟩
theorem Sns.below {w w':World} {a:Option Addr} {l:List Sn} (h:Sns w a l) (k:Below w.heap.size w w'):Sns w' a l:=by
 refine ⟨h.1,?_⟩
 rcases h.2 with h0|⟨b,o,rfl,hc⟩
 ·exact .inl h0
 ·exact .inr ⟨b,o,rfl,fun i hi=>(hc i hi).below k (hc i hi).lt⟩
theorem Sns.kept {w w':World} {a:Option Addr} {l:List Sn} (h:Sns w a l) {S:Nat->Prop} (k:Kept S w w') (hs:∀ x,a=some x->¬ S x.block):Sns w' a l:=by
 refine ⟨h.1,?_⟩
 rcases h.2 with h0|⟨b,o,rfl,hc⟩
 ·exact .inl h0
 ·refine .inr ⟨b,o,rfl,fun i hi=>?_⟩
  have hb:=(hc i hi).lt
  have hn:¬ S b:=hs ⟨b,o,none⟩ rfl
  obtain ⟨c0,c1⟩:=hc i hi
  exact ⟨by rw [k.cell hb hn];exact c0,by rw [k.cell hb hn];exact c1⟩
/-- A slice of l, in a block from B on, that may be written. -/
def WSns (w:World) (B:Nat) (a:Option Addr) (l:List Sn):Prop :=
 l.length<=maxLen/\(l.length=0\/∃ b o,a=some ⟨b,o,none⟩/\B<=b/\(∀ i (h:i < l.length),SnAt w b (o+i*2) l[i])/\∀ j,j < l.length*2->w.frozen? ⟨b,o+j,none⟩=false)
theorem WSns.plain {w:World} {B:Nat} {a:Option Addr} {l:List Sn} (h:WSns w B a l):Sns w a l:=by
 refine ⟨h.1,?_⟩
 rcases h.2 with h0|⟨b,o,ha,_,hc,_⟩
 ·exact .inl h0
 ·exact .inr ⟨b,o,ha,hc⟩
def setSn (w:World) (b p:Nat) (n:Sn):World :=
 (w.setCell ⟨b,p,none⟩ (.string n.k)).setCell ⟨b,p+1,none⟩ (.int .i64 n.r)
theorem setSn_same {w:World} {b p:Nat} {v n:Sn} (h:SnAt w b p v):SnAt (setSn w b p n) b p n:=by
 obtain ⟨c0,c1⟩:=h
 unfold setSn
 refine ⟨?_,?_⟩
 ·rw [set_other (by simp)];exact set_same (c0)
 ·exact set_same (by rw [set_other (by simp)];exact c1)
theorem setSn_cell {w:World} {b p:Nat} {n:Sn} {q:Nat} (h:q < p\/p+2<=q):(setSn w b p n).cell? ⟨b,q,none⟩=w.cell? ⟨b,q,none⟩:=by
 unfold setSn
 rw [set_other (by simp<;>omega),set_other (by simp<;>omega)]
theorem setSn_frozen {w:World} {b p:Nat} {n:Sn} {q:Addr}:(setSn w b p n).frozen? q=w.frozen? q:=by
 unfold setSn;simp only [World.frozen?_setCell]
theorem setSn_size {w:World} {b p:Nat} {n:Sn}:(setSn w b p n).heap.size=w.heap.size:=by
 simp [setSn,World.setCell]
theorem setSn_other {w:World} {b p q:Nat} {v n:Sn} (h:SnAt w b q v) (hq:q+2<=p\/p+2<=q):SnAt (setSn w b p n) b q v:=by
 obtain ⟨c0,c1⟩:=h
 exact ⟨by rw [setSn_cell (by omega)];exact c0,by rw [setSn_cell (by omega)];exact c1⟩
theorem setSn_keptS {S:Nat->Prop} {b p:Nat} {u w:World} {n:Sn} (hS:S b) (h:Kept S u w):Kept S u (setSn w b p n) :=
 (h.setCell (p:=⟨b,p,none⟩) hS _).setCell (p:=⟨b,p+1,none⟩) hS _
theorem setSn_kept {b o p:Nat} {u w:World} {n:Sn} (h:Kept (At (some ⟨b,o,none⟩)) u w):Kept (At (some ⟨b,o,none⟩)) u (setSn w b p n) :=
 setSn_keptS ⟨⟨b,o,none⟩,rfl,rfl⟩ h
/-- A slice of l, in a block from B on and below U, that may be written. -/
def SnsIn (w:World) (B U:Nat) (a:Option Addr) (l:List Sn):Prop :=
 l.length<=maxLen/\(l.length=0\/∃ b o,a=some ⟨b,o,none⟩/\B<=b/\b < U/\(∀ i (h:i < l.length),SnAt w b (o+i*2) l[i])/\∀ j,j < l.length*2->w.frozen? ⟨b,o+j,none⟩=false)
theorem WSns.within {w:World} {B:Nat} {a:Option Addr} {l:List Sn} (h:WSns w B a l):SnsIn w B w.heap.size a l:=by
 refine ⟨h.1,?_⟩
 by_cases e:l.length=0
 ·exact .inl e
 ·rcases h.2 with h0|⟨b,o,ha,hB,hc,hf⟩
  ·exact .inl h0
  ·exact .inr ⟨b,o,ha,hB,(hc 0 (by omega)).lt,hc,hf⟩
theorem SnsIn.wr {w:World} {B U:Nat} {a:Option Addr} {l:List Sn} (h:SnsIn w B U a l):WSns w B a l:=by
 refine ⟨h.1,?_⟩
 rcases h.2 with h0|⟨b,o,ha,hB,_,hc,hf⟩
 ·exact .inl h0
 ·exact .inr ⟨b,o,ha,hB,hc,hf⟩
theorem SnsIn.kept {w w':World} {B U:Nat} {a:Option Addr} {l:List Sn} (h:SnsIn w B U a l) {S:Nat->Prop} (k:Kept S w w') (hs:∀ b,B<=b->b < U->¬ S b):SnsIn w' B U a l:=by
 refine ⟨h.1,?_⟩
 by_cases e:l.length=0
 ·exact .inl e
 rcases h.2 with h0|⟨b,o,rfl,hB,hU,hc,hf⟩
 ·exact .inl h0
 ·have hb:b < w.heap.size:=(hc 0 (by omega)).lt
  have hn:¬ S b:=hs b hB hU
  refine .inr ⟨b,o,rfl,hB,hU,fun i hi=>?_,fun j hj=>by rw [k.frozen (p:=⟨b,o+j,none⟩) hb hn];exact hf j hj⟩
  obtain ⟨c0,c1⟩:=hc i hi
  exact ⟨by rw [k.cell hb hn];exact c0,by rw [k.cell hb hn];exact c1⟩
theorem SnsIn.again {w w':World} {B U:Nat} {a:Option Addr} {l l':List Sn} (h:SnsIn w B U a l) (h':WSns w' B a l') (e:l'.length=l.length):SnsIn w' B U a l':=by
 refine ⟨h'.1,?_⟩
 rcases h.2 with h0|⟨b,o,rfl,hB,hU,hc,hf⟩
 ·exact .inl (by omega)
 ·rcases h'.2 with h0|⟨b',o',ha,hB',hc',hf'⟩
  ·exact .inl h0
  ·cases ha
   exact .inr ⟨b,o,rfl,hB,hU,hc',hf'⟩
theorem SnsIn.ats {w:World} {B U:Nat} {a:Option Addr} {l:List Sn} (h:SnsIn w B U a l) {k:Nat} (hk:Ats l.length a k):B<=k/\k < U:=by
 obtain ⟨hp,x,hx,rfl⟩:=hk
 rcases h.2 with h0|⟨b,o,rfl,hB,hU,_⟩
 ·omega
 ·cases hx;exact ⟨hB,hU⟩
theorem SnsIn.below {w w':World} {B U:Nat} {a:Option Addr} {l:List Sn} (h:SnsIn w B U a l) (k:Below w.heap.size w w'):SnsIn w' B U a l :=
 h.kept (S:=fun _=>False) (Kept.ofBelow k) (fun _ _ _ h=>h)
theorem SnsIn.plain {w:World} {B U:Nat} {a:Option Addr} {l:List Sn} (h:SnsIn w B U a l):Sns w a l:=h.wr.plain
end Qc0
namespace Nd1
open Go.RowKit
theorem ret_bool {a b:Bool} (h:a=b):Ending.returned (.bool a)=.returned (.bool b):=by rw [h]
end Nd1
namespace Nd2
open Go.RowKit
open Nd0 Nd1
theorem eqIntS (w:World) (a a':Option Addr) (l:List Int) (c c':Nat) (h:Ints w a l) (h':Ints w a' l) :
 Calls Tryz.prog 40 #[.slice a l.length c,.slice a' l.length c'] w fun e w'=>e=.returned (.bool true)/\∃ m,w'=w.drewN m:=by
 have H:Hid (Ints w a l):=h
 have H':Hid (Ints w a' l):=h'
 have hm:=h.1
 unfold maxLen at hm
 clear h h'
 go_enter Tryz.func40,Tryz.ntmps40
 go_wp2
 go_loopw [5] (fun i wr=>∃ k:Nat,k<=l.length/\i=.int .i64 k/\∃ m,wr=w.drewN m) (fun i _=>l.length - (intOf i).toNat)
 case atStart=>exact ⟨0,Nat.zero_le _,rfl,0,rfl⟩
 case round =>
  obtain ⟨k,hk,rfl,m,rfl⟩:=hrel
  by_cases hlt:k < l.length
  ·have hlz:(k:Int) < (l.length:Int):=by omega
   rcases H.out.2 with h0|⟨xb,xo,rfl,hc⟩
   ·omega
   rcases H'.out.2 with h0|⟨yb,yo,rfl,hc'⟩
   ·omega
   have p0:=hc k hlt
   have q0:=hc' k hlt
   clear hc hc'
   generalize l[k]=x at p0 q0
   go_wp2
   go_quiet (fail)
   go_wp2
   go_roundw
   case rel=>exact ⟨k+1,by omega,by go_num,_,rfl⟩
   case measure=>simp [intOf];omega
  ·go_wp2
   go_ret
   exact ⟨rfl,_,rfl⟩
end Nd2
namespace Nd3
open Go.RowKit
open Nd0 Nd1
theorem markIntS (w:World) (B:Nat) (a:Option Addr) (l:List Int) (c:Nat) (h:WInts w B a l) (k0:Int) (h0:0<=k0) (h1:k0<=100) (hl:l.length<=1048576) :
 Calls Tryz.prog 43 #[.slice a l.length c,.int .i64 k0] w fun e w'=>e=.returned (.int .i64 (k0+l.length))/\WInts w' B a (marks l.length k0)/\Kept (Ats l.length a) w w':=by
 have H:Hid (WInts w B a l):=h
 clear h
 generalize hn:l.length=n at hl ⊢
 go_enter Tryz.func43,Tryz.ntmps43
 go_wp2
 go_loopw [1,5] (fun q i wr=>∃ k:Nat,k<=n/\i=.int .i64 k/\q=.int .i64 (k0+k)/\Kept (Ats n a) w wr/\(n=0\/∃ b o,a=some ⟨b,o,none⟩/\B<=b/\∀ j,j < n->∃ v:Int,wr.cell? ⟨b,o+j,none⟩=some (.int .i64 v)/\wr.frozen? ⟨b,o+j,none⟩=false/\(j < k->v=k0+j))) (fun _ i _=>n - (intOf i).toNat)
 case atStart =>
  refine ⟨0,Nat.zero_le _,rfl,by simp,Kept.refl _ _,?_⟩
  rcases H.out.2 with e|⟨b,o,ha,hB,hc⟩
  ·exact .inl (by omega)
  ·exact .inr ⟨b,o,ha,hB,fun j hj=>⟨l[j]'(by omega),(hc j (by omega)).1,(hc j (by omega)).2,fun x=>by omega⟩⟩
 case round =>
  obtain ⟨k,hk,rfl,rfl,hb,hx⟩:=hrel
  by_cases hlt:k < n
  ·have HK:Hid (Kept (Ats n a) w wr):=hb
   clear hb
   rcases hx with e|⟨b,o,rfl,hB,hc⟩
   ·omega
   have HC:Hid (∀ j,j < n->∃ v:Int,wr.cell? ⟨b,o+j,none⟩=some (.int .i64 v)/\wr.frozen? ⟨b,o+j,none⟩=false/\(j < k->v=k0+j)):=hc
   obtain ⟨v,p0,p1,_⟩:=hc k hlt
   clear hc
   have hlz:(k:Int) < (n:Int):=by omega
   go_wp2
   go_roundw
   case rel =>
    refine ⟨k+1,by omega,by go_num,by go_num,HK.out.setCell (p:=⟨b,o+k,none⟩) ⟨by omega,_,rfl,rfl⟩ _,.inr ⟨b,o,rfl,hB,fun j hj=>?_⟩⟩
    obtain ⟨u,q0,q1,q2⟩:=HC.out j hj
    by_cases e:j=k
    ·subst e
     exact ⟨_,set_same p0,by rw [World.frozen?_setCell];exact p1,fun _=>rfl⟩
    ·exact ⟨u,by rw [set_other (by simp<;>omega)];exact q0,by rw [World.frozen?_setCell];exact q1,fun x=>q2 (by omega)⟩
   case measure=>simp [intOf];omega
  ·go_wp2
   go_ret
   have e:k=n:=by omega
   subst e
   refine ⟨rfl,⟨by rw [marks_length];have:=H.out.1;omega,?_⟩,hb⟩
   rcases hx with e|⟨b,o,ha,hB,hc⟩
   ·exact .inl (by rw [marks_length];exact e)
   ·refine .inr ⟨b,o,ha,hB,fun i hi=>?_⟩
    rw [marks_length] at hi
    obtain ⟨v,q0,q1,q2⟩:=hc i hi
    rw [marks_get,<- q2 hi]
    exact ⟨q0,q1⟩
theorem heldIntS (w:World) (a:Option Addr) (n:Nat) (c:Nat) (k0:Int) (h:Ints w a (marks n k0)) (h0:0<=k0) (h1:k0<=100) (hl:n<=1048576) :
 Calls Tryz.prog 46 #[.slice a n c,.int .i64 k0] w fun e w'=>e=.returned (.int .i64 (k0+n))/\w'=w:=by
 have H:Hid (Ints w a (marks n k0)):=h
 clear h
 go_enter Tryz.func46,Tryz.ntmps46
 go_wp2
 go_loop [1,5] (fun q i=>∃ k:Nat,k<=n/\i=.int .i64 k/\q=.int .i64 (k0+k)) (fun _ i=>n - (intOf i).toNat)
 case atStart=>exact ⟨0,Nat.zero_le _,rfl,by simp⟩
 case round =>
  obtain ⟨k,hk,rfl,rfl⟩:=hrel
  by_cases hlt:k < n
  ·rcases H.out.2 with e|⟨b,o,rfl,hc⟩
   ·rw [marks_length] at e;omega
   have p0:=hc k (by rw [marks_length];exact hlt)
   rw [marks_get] at p0
   clear hc
   have hlz:(k:Int) < (n:Int):=by omega
   go_wp2
   go_round
   case rel=>exact ⟨k+1,by omega,by go_num,by go_num⟩
   case measure=>simp [intOf];omega
  ·go_wp2
   go_ret
   have e:k=n:=by omega
   subst e
   exact ⟨rfl,rfl⟩
/-- Six marks from z on. -/
def mkN (z:Int):Nd:=⟨z,z+1,z+1+1,z+1+1+1,z+1+1+1+1,z+1+1+1+1+1⟩
/-- The nodes of marks from k0 on. -/
def markN (n:Nat) (k0:Int):List Nd:=(List.range n).map fun (i:Nat)=>(mkN (k0+6*(i:Int)))
theorem markN_length (n:Nat) (k0:Int):(markN n k0).length=n:=by simp [markN]
theorem markN_get (n:Nat) (k0:Int) (i:Nat) (h:i < (markN n k0).length):(markN n k0)[i]=(mkN (k0+6*(i:Int))):=by simp [markN]
/-- A slice of the nodes l, in a block from B on, that may be written. -/
def WNodes (w:World) (B:Nat) (a:Option Addr) (l:List Nd):Prop :=
 l.length<=maxLen/\(l.length=0\/∃ b o,a=some ⟨b,o,none⟩/\B<=b/\(∀ i (h:i < l.length),NodeAt w b (o+i*6) l[i])/\∀ j,j < l.length*6->w.frozen? ⟨b,o+j,none⟩=false)
theorem WNodes.nodes {w:World} {B:Nat} {a:Option Addr} {l:List Nd} (h:WNodes w B a l):Nodes w a l:=by
 refine ⟨h.1,?_⟩
 rcases h.2 with h0|⟨b,o,ha,_,hc,_⟩
 ·exact .inl h0
 ·exact .inr ⟨b,o,ha,hc⟩
end Nd3
end Go.Proofs.YtladjpombohpaaaGreatDoor
