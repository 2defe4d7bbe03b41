import Derived.Laws.MakeOwn
import Derived.Test.YtjajkmdoggbicaaGreatDoorRows
import Derived.Deep.AppendLies
import Derived.OwnWalk
import Derived.Maps.AppendAt
import Derived.Lib.SliceRun
import Derived.Test.YtjajkmdoggbicaaGreatDoorPkST0
namespace Go.Proofs.YtjajkmdoggbicaaGreatDoor
set_option maxRecDepth 100000
set_option maxHeartbeats 8000000
set_option linter.unusedVariables false
namespace Nd6
open Go.RowKit
open Nd0 Nd1 Nd2 Nd3 Ap1
/-- A slice of the flags l can be read at address a. -/
def Bools (w:World) (a:Option Addr) (l:List Bool):Prop :=
 l.length<=maxLen/\(l.length=0\/∃ b o,a=some ⟨b,o,none⟩/\∀ i (h:i < l.length),w.cell? ⟨b,o+i,none⟩=some (.bool l[i]))
theorem Bools.below {w w':World} {a:Option Addr} {l:List Bool} (h:Bools w a l) (k:Below w.heap.size w w'):Bools w' a l:=by
 refine ⟨h.1,?_⟩
 rcases h.2 with h0|⟨b,o,rfl,hc⟩
 ·exact .inl h0
 ·exact .inr ⟨b,o,rfl,fun i hi=>by rw [k.cell (lt_of_cell (hc i hi))];exact hc i hi⟩
def BoolsIn (w:World) (B U:Nat) (a:Option Addr) (l:List Bool):Prop :=
 l.length<=maxLen/\(l.length=0\/∃ b o,a=some ⟨b,o,none⟩/\B<=b/\b < U/\∀ i (h:i < l.length),w.cell? ⟨b,o+i,none⟩=some (.bool l[i])/\w.frozen? ⟨b,o+i,none⟩=false)
theorem WBools.within {w:World} {B:Nat} {a:Option Addr} {l:List Bool} (h:WBools w B a l):BoolsIn w B w.heap.size a l:=by
 refine ⟨h.1,?_⟩
 by_cases e:l.length=0
 ·exact .inl e
 ·rcases h.2 with h0|⟨b,o,ha,hB,hc⟩
  ·exact .inl h0
  ·exact .inr ⟨b,o,ha,hB,lt_of_cell (p:=⟨b,o+0,none⟩) (hc 0 (by omega)).1,hc⟩
theorem BoolsIn.wr {w:World} {B U:Nat} {a:Option Addr} {l:List Bool} (h:BoolsIn w B U a l):WBools w B a l:=by
 refine ⟨h.1,?_⟩
 rcases h.2 with h0|⟨b,o,ha,hB,_,hc⟩
 ·exact .inl h0
 ·exact .inr ⟨b,o,ha,hB,hc⟩
theorem WBools.plain {w:World} {B:Nat} {a:Option Addr} {l:List Bool} (h:WBools w B a l):Bools w a l:=by
 refine ⟨h.1,?_⟩
 rcases h.2 with h0|⟨b,o,ha,_,hc⟩
 ·exact .inl h0
 ·exact .inr ⟨b,o,ha,fun i hi=>(hc i hi).1⟩
theorem BoolsIn.plain {w:World} {B U:Nat} {a:Option Addr} {l:List Bool} (h:BoolsIn w B U a l):Bools w a l:=WBools.plain h.wr
theorem BoolsIn.kept {w w':World} {B U:Nat} {a:Option Addr} {l:List Bool} (h:BoolsIn w B U a l) {S:Nat->Prop} (k:Kept S w w') (hs:∀ b,B<=b->b < U->¬ S b):BoolsIn w' B U a l:=by
 refine ⟨h.1,?_⟩
 rcases h.2 with h0|⟨b,o,rfl,hB,hU,hc⟩
 ·exact .inl h0
 ·exact .inr ⟨b,o,rfl,hB,hU,fun i hi=>⟨by rw [k.cell (lt_of_cell (hc i hi).1) (hs b hB hU)];exact (hc i hi).1,by rw [k.frozen (p:=⟨b,o+i,none⟩) (lt_of_cell (hc i hi).1) (hs b hB hU)];exact (hc i hi).2⟩⟩
theorem BoolsIn.below {w w':World} {B U:Nat} {a:Option Addr} {l:List Bool} (h:BoolsIn w B U a l) (k:Below w.heap.size w w'):BoolsIn w' B U a l :=
 h.kept (S:=fun _=>False) (Kept.ofBelow k) (fun _ _ _ h=>h)
theorem _root_.Go.Proofs.YtjajkmdoggbicaaGreatDoor.Nd0.IntsIn.below {w w':World} {B U:Nat} {a:Option Addr} {l:List Int} (h:IntsIn w B U a l) (k:Below w.heap.size w w'):IntsIn w' B U a l :=
 h.kept (S:=fun _=>False) (Kept.ofBelow k) (fun _ _ _ h=>h)
theorem _root_.Go.Proofs.YtjajkmdoggbicaaGreatDoor.Nd0.IntsIn.ints {w:World} {B U:Nat} {a:Option Addr} {l:List Int} (h:IntsIn w B U a l):Ints w a l:=h.wints.ints
theorem BoolsIn.again {w w':World} {B U:Nat} {a:Option Addr} {l l':List Bool} (h:BoolsIn w B U a l) (h':WBools w' B a l') (e:l'.length=l.length):BoolsIn w' B U a l':=by
 refine ⟨h'.1,?_⟩
 rcases h.2 with h0|⟨b,o,rfl,hB,hU,hc⟩
 ·exact .inl (by omega)
 ·rcases h'.2 with h0|⟨b',o',ha,hB',hc'⟩
  ·exact .inl h0
  ·cases ha
   exact .inr ⟨b,o,rfl,hB,hU,hc'⟩
theorem BoolsIn.ats {w:World} {B U:Nat} {a:Option Addr} {l:List Bool} (h:BoolsIn w B U a l) {k:Nat} (hk:Ats l.length a k):B<=k/\k < U:=by
 obtain ⟨hp,x,hx,rfl⟩:=hk
 rcases h.2 with h0|⟨b,o,rfl,hB,hU,_⟩
 ·omega
 ·cases hx;exact ⟨hB,hU⟩
def markB (n:Nat) (k0:Int):List Bool:=(List.range n).map fun (i:Nat)=>((k0+(i:Int)) % 3==0)
theorem markB_length (n:Nat) (k0:Int):(markB n k0).length=n:=by simp [markB]
theorem markB_get (n:Nat) (k0:Int) (i:Nat) (h:i < (markB n k0).length):(markB n k0)[i]=((k0+(i:Int)) % 3==0):=by simp [markB]
theorem infoInt6:(Tryz.prog.info? 3).map (fun i=>(i.zero,i.size,i.bytes))=some (some (.int .i64 0),1,8):=by kernel_rfl
def noughts6 (n:Nat):Array Value:=madeCells #[.int .i64 0] (n*1)
theorem noughts6_get (n j:Nat) (h:j < n):(noughts6 n)[j]? = some (.int .i64 0):=by
 simp only [noughts6,madeCells,Array.getElem?_map,Array.getElem?_range]
 rw [if_pos (by omega)]
 simp only [Option.map_some]
 have e:j % 1=0:=Nat.mod_one j
 exact congrArg (fun m=>some ((#[.int .i64 0]:Array Value)[m]!)) e
theorem makeInts6 (n:Nat) (hn:n<=1048576) (w:World) :
 (Instr.makeSlice 27 (.int .i64 (n:Int)) (.int .i64 (n:Int))).run Tryz.prog w=.ok (.slice (some ⟨w.heap.size,0,none⟩) n n) (w.alloc (.cells (noughts6 n) 3)):=by
 obtain ⟨i,hi,hzz⟩:=Option.map_eq_some_iff.1 infoInt6
 simp only [Prod.mk.injEq] at hzz
 obtain ⟨hz,hs,hb⟩:=hzz
 have h:=run_make (P:=Tryz.prog) w 27 3 i _ Tryz.underlying27 hi hz .i64 .i64 n n (by omega) (Int.le_refl _) (by rw [hb];omega) (by omega)
 rw [hs] at h
 simpa [noughts6,Value.cells] using h
end Nd6
namespace Qc0
open Go.RowKit
open Nd0
structure Sn where
 k:ByteArray
 r:Int
def Sn.zero:Sn:=⟨ByteArray.empty,0⟩
def Sn.cells (x:Sn):List Value:=[.string x.k,.int .i64 x.r]
structure SnAt (w:World) (b p:Nat) (n:Sn):Prop where
 c0:w.cell? ⟨b,p,none⟩=some (.string n.k)
 c1:w.cell? ⟨b,p+1,none⟩=some (.int .i64 n.r)
/-- A slice of l can be read at address a. -/
def Sns (w:World) (a:Option Addr) (l:List Sn):Prop :=
 l.length<=maxLen/\(l.length=0\/∃ b o,a=some ⟨b,o,none⟩/\∀ i (h:i < l.length),SnAt w b (o+i*2) l[i])
theorem SnAt.lt {w:World} {b p:Nat} {n:Sn} (h:SnAt w b p n):b < w.heap.size:=lt_of_cell (p:=⟨b,p,none⟩) h.c0
theorem SnAt.below {w w':World} {b p:Nat} {n:Sn} (h:SnAt w b p n) {B:Nat} (k:Below B w w') (hb:b < B):SnAt w' b p n :=
 ⟨by rw [k.cell hb];exact h.c0,by rw [k.cell hb];exact h.c1⟩
theorem Sns.below {w w':World} {a:Option Addr} {l:List Sn} (h:Sns w a l) (k:Below w.heap.size w w'):Sns w' a l:=by
 refine ⟨h.1,?_⟩
 rcases h.2 with h0|⟨b,o,rfl,hc⟩
 ·exact .inl h0
 ·exact .inr ⟨b,o,rfl,fun i hi=>(hc i hi).below k (hc i hi).lt⟩
theorem Sns.kept {w w':World} {a:Option Addr} {l:List Sn} (h:Sns w a l) {S:Nat->Prop} (k:Kept S w w') (hs:∀ x,a=some x->¬ S x.block):Sns w' a l:=by
 refine ⟨h.1,?_⟩
 rcases h.2 with h0|⟨b,o,rfl,hc⟩
 ·exact .inl h0
 ·refine .inr ⟨b,o,rfl,fun i hi=>?_⟩
  have hb:=(hc i hi).lt
  have hn:¬ S b:=hs ⟨b,o,none⟩ rfl
  obtain ⟨c0,c1⟩:=hc i hi
  exact ⟨by rw [k.cell hb hn];exact c0,by rw [k.cell hb hn];exact c1⟩
/-- A slice of l, in a block from B on, that may be written. -/
def WSns (w:World) (B:Nat) (a:Option Addr) (l:List Sn):Prop :=
 l.length<=maxLen/\(l.length=0\/∃ b o,a=some ⟨b,o,none⟩/\B<=b/\(∀ i (h:i < l.length),SnAt w b (o+i*2) l[i])/\∀ j,j < l.length*2->w.frozen? ⟨b,o+j,none⟩=false)
theorem WSns.plain {w:World} {B:Nat} {a:Option Addr} {l:List Sn} (h:WSns w B a l):Sns w a l:=by
 refine ⟨h.1,?_⟩
 rcases h.2 with h0|⟨b,o,ha,_,hc,_⟩
 ·exact .inl h0
 ·exact .inr ⟨b,o,ha,hc⟩
def setSn (w:World) (b p:Nat) (n:Sn):World :=
 (w.setCell ⟨b,p,none⟩ (.string n.k)).setCell ⟨b,p+1,none⟩ (.int .i64 n.r)
theorem setSn_same {w:World} {b p:Nat} {v n:Sn} (h:SnAt w b p v):SnAt (setSn w b p n) b p n:=by
 obtain ⟨c0,c1⟩:=h
 unfold setSn
 refine ⟨?_,?_⟩
 ·rw [set_other (by simp)];exact set_same (c0)
 ·exact set_same (by rw [set_other (by simp)];exact c1)
theorem setSn_cell {w:World} {b p:Nat} {n:Sn} {q:Nat} (h:q < p\/p+2<=q):(setSn w b p n).cell? ⟨b,q,none⟩=w.cell? ⟨b,q,none⟩:=by
 unfold setSn
 rw [set_other (by simp<;>omega),set_other (by simp<;>omega)]
theorem setSn_frozen {w:World} {b p:Nat} {n:Sn} {q:Addr}:(setSn w b p n).frozen? q=w.frozen? q:=by
 unfold setSn;simp only [World.frozen?_setCell]
theorem setSn_size {w:World} {b p:Nat} {n:Sn}:(setSn w b p n).heap.size=w.heap.size:=by
 simp [setSn,World.setCell]
theorem setSn_other {w:World} {b p q:Nat} {v n:Sn} (h:SnAt w b q v) (hq:q+2<=p\/p+2<=q):SnAt (setSn w b p n) b q v:=by
 obtain ⟨c0,c1⟩:=h
 exact ⟨by rw [setSn_cell (by omega)];exact c0,by rw [setSn_cell (by omega)];exact c1⟩
theorem setSn_keptS {S:Nat->Prop} {b p:Nat} {u w:World} {n:Sn} (hS:S b) (h:Kept S u w):Kept S u (setSn w b p n) :=
 (h.setCell (p:=⟨b,p,none⟩) hS _).setCell (p:=⟨b,p+1,none⟩) hS _
theorem setSn_kept {b o p:Nat} {u w:World} {n:Sn} (h:Kept (At (some ⟨b,o,none⟩)) u w):Kept (At (some ⟨b,o,none⟩)) u (setSn w b p n) :=
 setSn_keptS ⟨⟨b,o,none⟩,rfl,rfl⟩ h
/-- A slice of l, in a block from B on and below U, that may be written. -/
def SnsIn (w:World) (B U:Nat) (a:Option Addr) (l:List Sn):Prop :=
 l.length<=maxLen/\(l.length=0\/∃ b o,a=some ⟨b,o,none⟩/\B<=b/\b < U/\(∀ i (h:i < l.length),SnAt w b (o+i*2) l[i])/\∀ j,j < l.length*2->w.frozen? ⟨b,o+j,none⟩=false)
theorem WSns.within {w:World} {B:Nat} {a:Option Addr} {l:List Sn} (h:WSns w B a l):SnsIn w B w.heap.size a l:=by
 refine ⟨h.1,?_⟩
 by_cases e:l.length=0
 ·exact .inl e
 ·rcases h.2 with h0|⟨b,o,ha,hB,hc,hf⟩
  ·exact .inl h0
  ·exact .inr ⟨b,o,ha,hB,(hc 0 (by omega)).lt,hc,hf⟩
theorem SnsIn.wr {w:World} {B U:Nat} {a:Option Addr} {l:List Sn} (h:SnsIn w B U a l):WSns w B a l:=by
 refine ⟨h.1,?_⟩
 rcases h.2 with h0|⟨b,o,ha,hB,_,hc,hf⟩
 ·exact .inl h0
 ·exact .inr ⟨b,o,ha,hB,hc,hf⟩
theorem SnsIn.kept {w w':World} {B U:Nat} {a:Option Addr} {l:List Sn} (h:SnsIn w B U a l) {S:Nat->Prop} (k:Kept S w w') (hs:∀ b,B<=b->b < U->¬ S b):SnsIn w' B U a l:=by
 refine ⟨h.1,?_⟩
 by_cases e:l.length=0
 ·exact .inl e
 rcases h.2 with h0|⟨b,o,rfl,hB,hU,hc,hf⟩
 ·exact .inl h0
 ·have hb:b < w.heap.size:=(hc 0 (by omega)).lt
  have hn:¬ S b:=hs b hB hU
  refine .inr ⟨b,o,rfl,hB,hU,fun i hi=>?_,fun j hj=>by rw [k.frozen (p:=⟨b,o+j,none⟩) hb hn];exact hf j hj⟩
  obtain ⟨c0,c1⟩:=hc i hi
  exact ⟨by rw [k.cell hb hn];exact c0,by rw [k.cell hb hn];exact c1⟩
theorem SnsIn.again {w w':World} {B U:Nat} {a:Option Addr} {l l':List Sn} (h:SnsIn w B U a l) (h':WSns w' B a l') (e:l'.length=l.length):SnsIn w' B U a l':=by
 refine ⟨h'.1,?_⟩
 rcases h.2 with h0|⟨b,o,rfl,hB,hU,hc,hf⟩
 ·exact .inl (by omega)
 ·rcases h'.2 with h0|⟨b',o',ha,hB',hc',hf'⟩
  ·exact .inl h0
  ·cases ha
   exact .inr ⟨b,o,rfl,hB,hU,hc',hf'⟩
theorem SnsIn.ats {w:World} {B U:Nat} {a:Option Addr} {l:List Sn} (h:SnsIn w B U a l) {k:Nat} (hk:Ats l.length a k):B<=k/\k < U:=by
 obtain ⟨hp,x,hx,rfl⟩:=hk
 rcases h.2 with h0|⟨b,o,rfl,hB,hU,_⟩
 ·omega
 ·cases hx;exact ⟨hB,hU⟩
theorem SnsIn.below {w w':World} {B U:Nat} {a:Option Addr} {l:List Sn} (h:SnsIn w B U a l) (k:Below w.heap.size w w'):SnsIn w' B U a l :=
 h.kept (S:=fun _=>False) (Kept.ofBelow k) (fun _ _ _ h=>h)
theorem SnsIn.plain {w:World} {B U:Nat} {a:Option Addr} {l:List Sn} (h:SnsIn w B U a l):Sns w a l:=h.wr.plain
end Qc0
namespace Qc2
open Go.RowKit
open Nd0 Qc0
theorem infoASn:(Tryz.prog.info? 40).map (fun i=>(i.zero,i.size,i.bytes))=some (some (.agg #[.string ByteArray.empty,.int .i64 0]),2,24):=by kernel_rfl
def flatSn (l:List Sn):List Value:=l.flatMap Sn.cells
theorem cellsSn_length (n:Sn):n.cells.length=2:=rfl
theorem flatSn_get (l:List Sn):∀ (i:Nat) (h:i < l.length) (j:Nat),j < 2->(flatSn l)[i*2+j]? = (l[i].cells)[j]? := by
 induction l with
 | nil=>intro i h;exact absurd h (Nat.not_lt_zero _)
 | cons n l ih =>
   intro i h j hj
   show (n.cells++flatSn l)[i*2+j]? = _
   cases i with
   | zero=>rw [Nat.zero_mul,Nat.zero_add,List.getElem?_append_left (by rw [cellsSn_length];exact hj)];rfl
   | succ i =>
     rw [List.getElem?_append_right (by rw [cellsSn_length];omega),cellsSn_length,show (i+1)*2+j - 2=i*2+j by omega]
     exact ih i (by simpa using h) j hj
theorem flatSn_snoc (l:List Sn) (n:Sn):flatSn (l++[n])=flatSn l++n.cells:=by simp [flatSn]
def OwSn (w:World) (B:Nat) (v:Value) (l:List Sn):Prop:=w.ownsRow B 40 2 v l.length (flatSn l)
theorem OwSn.form {w:World} {B:Nat} {v:Value} {l:List Sn} (h:OwSn w B v l):∃ a c,v=.slice a l.length c/\WSns w B a l/\l.length<=c:=by
 obtain ⟨h1,h2⟩:=h
 rcases h2 with ⟨rfl,h0⟩|⟨g,cap,cur,rfl,hb,hg,hn,hm,hs,ht⟩
 ·have:l=[]:=List.eq_nil_of_length_eq_zero h0
  subst this
  exact ⟨none,0,rfl,⟨Nat.zero_le _,.inl rfl⟩,Nat.zero_le _⟩
 ·have hcell:∀ j,j < l.length*2->w.cell? ⟨g,j,none⟩=(flatSn l)[j]? := by
   intro j hj
   rw [cell_of_row w g j cur _ _ hg,<- ht,List.getElem?_take_of_lt hj]
   simp
  refine ⟨_,_,rfl,⟨by omega,.inr ⟨g,0,rfl,hb,fun i hi=>?_,fun j hj=>?_⟩⟩,by omega⟩
  ·have hf:=flatSn_get l i hi
   rw [Nat.zero_add]
   exact ⟨by rw [hcell _ (by omega)];exact hf 0 (by omega),by rw [hcell _ (by omega)];exact hf 1 (by omega)⟩
  ·rw [Nat.zero_add]
   simp [World.frozen?,hg]
theorem OwSn.lit (w:World) (B:Nat) (hB:B<=w.heap.size):OwSn (w.alloc (.cells #[] 40)) B (.slice (some ⟨w.heap.size,0,none⟩) 0 0) [] :=
 World.ownsRow_lit w #[] 0 hB (Nat.zero_le _) rfl
theorem OwSn.lt {w:World} {B:Nat} {v:Value} {l:List Sn} (h:OwSn w B v l):∀ k,v.ownBlock=some k->B<=k/\k < w.heap.size:=World.ownsRow.lt h
theorem OwSn.kept {w w':World} {B:Nat} {v:Value} {l:List Sn} (h:OwSn w B v l) {S:Nat->Prop} (k:Kept S w w') (hs:∀ i,v.ownBlock=some i->¬ S i):OwSn w' B v l:=by
 refine ⟨h.1,?_⟩
 rcases h.2 with hn|⟨g,cap,cur,rfl,hb,hgg,rest⟩
 ·exact .inl hn
 ·refine .inr ⟨g,cap,cur,rfl,hb,?_,rest⟩
  rw [k.block g (Array.getElem?_eq_some_iff.1 hgg).1 (hs g rfl)]
  exact hgg
/-- One more. -/
theorem appSn {ops:Array Oper} {rest:List Oper} {o:Oper} {a:Act} {Q:Exit->Act->World->Prop} (W:World) (hgd:o.guard=none) (s x:Operand)
 (ho:o.op=.call { callee:=.builtin .append,args := #[s,x],argTypes := #[28,28] })
 (B:Nat) (v:Value) (l:List Sn) (y:Sn) (hs:a.eval s=v) (G:Nat) (hx:a.eval x=.slice (some ⟨G,0,none⟩) 1 1) (hG:G=W.heap.size)
 (hown:OwSn W B v l) (hB:B<=W.heap.size) (hlen:l.length<=1048576)
 (h:∀ g cap w',OwSn w' B (.slice (some ⟨g,0,none⟩) (l.length+1) cap) (l++[y])->Kept (fun k=>v.ownBlock=some k) W w'->(v.ownBlock=some g\/W.heap.size<=g)->wpList Tryz.prog ops Q rest (a.put o.dst (.slice (some ⟨g,0,none⟩) (l.length+1) cap)) w') :
 wpList Tryz.prog ops Q (o :: rest) a (W.alloc (.cells #[.string y.k,.int .i64 y.r] 40)):=by
 subst hG
 obtain ⟨i,hi,hzz⟩:=Option.map_eq_some_iff.1 infoASn
 simp only [Prod.mk.injEq] at hzz
 obtain ⟨hz,hsz,hb⟩:=hzz
 refine wpList_append_lies (W.alloc (.cells #[.string y.k,.int .i64 y.r] 40)) hgd s x 28 ho B 40 i _ 2 24 Tryz.underlying28 hi hz hsz hb rfl (by omega) v l.length (flatSn l) hs (World.ownsRow.alloc hown _)
  ⟨W.heap.size,0,none⟩ 1 1 y.cells hx rfl ?_ ?_ (by omega) (by unfold maxLen;omega) (by omega) (by simp;omega) _ rfl ?_
 ·intro j u hu
  exact World.news_of_block (heap_alloc_new W _) j u hu
 ·intro u hu
  simp [Sn.cells] at hu
  rcases hu with rfl|rfl<;>rfl
 ·intro g cap w' h1 h2 h3 h4
  refine h g cap w' ?_ ?_ ?_
  ·unfold OwSn
   rw [flatSn_snoc,List.length_append]
   exact h1
  ·have k1:Kept (fun k=>v.ownBlock=some k) W (W.alloc (.cells #[.string y.k,.int .i64 y.r] 40)):=(Kept.refl _ W).alloc _
   exact k1.trans ⟨h2.os,h2.tape,h2.output,h2.size,fun k hk hn=>h2.block k hk (fun e=>hn e.symm)⟩
  ·rcases h3 with h3|h3
   ·exact .inl h3
   ·exact .inr (by rw [h3];simp)
end Qc2
namespace Cl0
open Go.RowKit
open Nd0 (Kept Ints lt_of_cell)
open Nd6 (Bools)
open Ap0 Ap1 Qc0 Qc2
theorem add_at (g o j:Nat):(⟨g,o,none⟩:Addr).add j=⟨g,o+j,none⟩:=by unfold Addr.add;split<;>simp_all
theorem iCloneBs (w:World) (a:Option Addr) (l:List Bool) (c:Nat) (h:Bools w a l) (hl:l.length<=1048576) :
 Calls Tryz.prog 56 #[.slice a l.length c] w fun e w'=>∃ v,e=.returned v/\Owb w' w.heap.size v l/\Below w.heap.size w w':=by
 have H:Hid (Bools w a l):=h
 clear h
 cases a with
 | none =>
   have hl0:l.length=0:=by
    rcases H.out.2 with e|⟨b,o,hb,_⟩
    ·exact e
    ·cases hb
   have HE:Hid (l=[]):=List.eq_nil_of_length_eq_zero hl0
   rw [hl0]
   clear hl0
   have heq:=fun w n c=>Go.Lib.run_eql_slice_nil (P:=Tryz.prog) w 24 4 none n c 0 0 Tryz.underlying24
   go_enter Tryz.func56,Tryz.ntmps56
   go_wp2
   go_ret
   exact ⟨_,rfl,by rw [HE.out];exact ⟨rfl,.inl ⟨rfl,rfl⟩⟩,Below.refl _ _⟩
 | some x =>
   obtain ⟨g,o,hx,hc⟩:∃ g o,(l.length=0\/x=⟨g,o,none⟩)/\(∀ j (hj:j < l.length),w.cell? ⟨g,o+j,none⟩=some (.bool l[j])):=by
    rcases H.out.2 with e|⟨b,o,hb,hc⟩
    ·exact ⟨0,0,.inl e,fun j hj=>by omega⟩
    ·cases hb;exact ⟨b,o,.inr rfl,hc⟩
   have HX:Hid (l.length=0\/x=⟨g,o,none⟩):=hx
   have HC:Hid (∀ j (hj:j < l.length),w.cell? ⟨g,o+j,none⟩=some (.bool l[j])):=hc
   have HB0:Hid (Below w.heap.size w (w.alloc (.cells #[] 4))):=(Below.refl _ _).alloc (Nat.le_refl _) _
   clear hx hc
   obtain ⟨i,hi,hzz⟩:=Option.map_eq_some_iff.1 infoBool
   simp only [Prod.mk.injEq] at hzz
   obtain ⟨hz,hsz,hb⟩:=hzz
   have HI:Hid (Tryz.prog.info? 4=some i):=hi
   have HZ:Hid _:=hz
   have HSZ:Hid _:=hsz
   have HBY:Hid _:=hb
   clear hi hz hsz hb
   have HNW:Hid (∀ j u,(l.map fun x=>Value.bool x)[j]? = some u->(w.alloc (.cells #[] 4)).cell? (x.add j)=some u):=by
    rcases HX.out with e|e
    ·intro j u hu
     have:l=[]:=List.eq_nil_of_length_eq_zero e
     subst this
     cases hu
    ·subst e
     have hc:∀ j (hj:j < l.length),(w.alloc (.cells #[] 4)).cell? ⟨g,o+j,none⟩=some (.bool l[j]):=fun j hj=>by rw [HB0.out.cell (lt_of_cell (HC.out j hj))];exact HC.out j hj
     exact (fun j u hu=>by
    have hj:j < l.length:=by have:=(List.getElem?_eq_some_iff.1 hu).1;simpa using this
    rw [add_at,hc j hj,<- hu]
    simp [hj])
   have HON:Hid (∀ u∈(l.map fun x=>Value.bool x),u.oneCell'=true):=(fun u hu=>by
    obtain ⟨n,_,rfl⟩:=List.mem_map.1 hu
    rfl)
   have HLN:Hid ((l.map fun x=>Value.bool x).length=l.length*1):=(by show _=_;simp)
   have heq:=fun w n c=>Go.Lib.run_eql_slice_nil (P:=Tryz.prog) w 24 4 (some x) n c 0 0 Tryz.underlying24
   go_enter Tryz.func56,Tryz.ntmps56
   go_wp2_with (at_builtin;go_must (refine wpList_append_own_at (P:=Tryz.prog) (w.alloc (.cells #[] 4)) rfl _ _ 24 rfl w.heap.size 4 i _ 1 1 Tryz.underlying24 HI.out HZ.out HSZ.out HBY.out rfl (by omega) (.slice (some ⟨w.heap.size,0,none⟩) 0 0) 0 [] rfl (Owb.lit w w.heap.size (Nat.le_refl _)) x l.length c (l.map fun x=>Value.bool x) rfl HLN.out HNW.out HON.out (by unfold maxLen;omega) (by omega) (by simp) ?_;intro v' w' h1 h2 h3 h4;have HO:Hid (Owb w' w.heap.size v' l):=(by rw [Nat.zero_add,List.nil_append] at h1;exact h1);have HB:Hid (Below w.heap.size w w'):=HB0.out.trans ⟨h2.os,h2.tape,h2.output,(by have:=h2.size;have:=HB0.out.size;omega),fun k hk=>h2.block k (Nat.lt_of_lt_of_le hk HB0.out.size) (fun e=>by simp [Value.ownBlock] at e;omega)⟩;clear h1 h2 h3 h4))
   go_ret
   exact ⟨_,rfl,HO.out,HB.out⟩
theorem iCloneIs (w:World) (a:Option Addr) (l:List Int) (c:Nat) (h:Ints w a l) (hl:l.length<=1048576) :
 Calls Tryz.prog 57 #[.slice a l.length c] w fun e w'=>∃ v,e=.returned v/\Ows w' w.heap.size v l/\Below w.heap.size w w':=by
 have H:Hid (Ints w a l):=h
 clear h
 cases a with
 | none =>
   have hl0:l.length=0:=by
    rcases H.out.2 with e|⟨b,o,hb,_⟩
    ·exact e
    ·cases hb
   have HE:Hid (l=[]):=List.eq_nil_of_length_eq_zero hl0
   rw [hl0]
   clear hl0
   have heq:=fun w n c=>Go.Lib.run_eql_slice_nil (P:=Tryz.prog) w 27 3 none n c 0 0 Tryz.underlying27
   go_enter Tryz.func57,Tryz.ntmps57
   go_wp2
   go_ret
   exact ⟨_,rfl,by rw [HE.out];exact ⟨rfl,.inl ⟨rfl,rfl⟩⟩,Below.refl _ _⟩
 | some x =>
   obtain ⟨g,o,hx,hc⟩:∃ g o,(l.length=0\/x=⟨g,o,none⟩)/\(∀ j (hj:j < l.length),w.cell? ⟨g,o+j,none⟩=some (.int .i64 l[j])):=by
    rcases H.out.2 with e|⟨b,o,hb,hc⟩
    ·exact ⟨0,0,.inl e,fun j hj=>by omega⟩
    ·cases hb;exact ⟨b,o,.inr rfl,hc⟩
   have HX:Hid (l.length=0\/x=⟨g,o,none⟩):=hx
   have HC:Hid (∀ j (hj:j < l.length),w.cell? ⟨g,o+j,none⟩=some (.int .i64 l[j])):=hc
   have HB0:Hid (Below w.heap.size w (w.alloc (.cells #[] 3))):=(Below.refl _ _).alloc (Nat.le_refl _) _
   clear hx hc
   obtain ⟨i,hi,hzz⟩:=Option.map_eq_some_iff.1 infoInt
   simp only [Prod.mk.injEq] at hzz
   obtain ⟨hz,hsz,hb⟩:=hzz
   have HI:Hid (Tryz.prog.info? 3=some i):=hi
   have HZ:Hid _:=hz
   have HSZ:Hid _:=hsz
   have HBY:Hid _:=hb
   clear hi hz hsz hb
   have HNW:Hid (∀ j u,(l.map fun x=>Value.int .i64 x)[j]? = some u->(w.alloc (.cells #[] 3)).cell? (x.add j)=some u):=by
    rcases HX.out with e|e
    ·intro j u hu
     have:l=[]:=List.eq_nil_of_length_eq_zero e
     subst this
     cases hu
    ·subst e
     have hc:∀ j (hj:j < l.length),(w.alloc (.cells #[] 3)).cell? ⟨g,o+j,none⟩=some (.int .i64 l[j]):=fun j hj=>by rw [HB0.out.cell (lt_of_cell (HC.out j hj))];exact HC.out j hj
     exact (fun j u hu=>by
    have hj:j < l.length:=by have:=(List.getElem?_eq_some_iff.1 hu).1;simpa using this
    rw [add_at,hc j hj,<- hu]
    simp [hj])
   have HON:Hid (∀ u∈(l.map fun x=>Value.int .i64 x),u.oneCell'=true):=(fun u hu=>by
    obtain ⟨n,_,rfl⟩:=List.mem_map.1 hu
    rfl)
   have HLN:Hid ((l.map fun x=>Value.int .i64 x).length=l.length*1):=(by show _=_;simp)
   have heq:=fun w n c=>Go.Lib.run_eql_slice_nil (P:=Tryz.prog) w 27 3 (some x) n c 0 0 Tryz.underlying27
   go_enter Tryz.func57,Tryz.ntmps57
   go_wp2_with (at_builtin;go_must (refine wpList_append_own_at (P:=Tryz.prog) (w.alloc (.cells #[] 3)) rfl _ _ 27 rfl w.heap.size 3 i _ 1 8 Tryz.underlying27 HI.out HZ.out HSZ.out HBY.out rfl (by omega) (.slice (some ⟨w.heap.size,0,none⟩) 0 0) 0 [] rfl (Ows.lit w w.heap.size (Nat.le_refl _)) x l.length c (l.map fun x=>Value.int .i64 x) rfl HLN.out HNW.out HON.out (by unfold maxLen;omega) (by omega) (by simp) ?_;intro v' w' h1 h2 h3 h4;have HO:Hid (Ows w' w.heap.size v' l):=(by rw [Nat.zero_add,List.nil_append] at h1;exact h1);have HB:Hid (Below w.heap.size w w'):=HB0.out.trans ⟨h2.os,h2.tape,h2.output,(by have:=h2.size;have:=HB0.out.size;omega),fun k hk=>h2.block k (Nat.lt_of_lt_of_le hk HB0.out.size) (fun e=>by simp [Value.ownBlock] at e;omega)⟩;clear h1 h2 h3 h4))
   go_ret
   exact ⟨_,rfl,HO.out,HB.out⟩
theorem flat_len (l:List Sn):(flatSn l).length=l.length*2:=by
 induction l with
 | nil=>rfl
 | cons x l ih=>show (x.cells++flatSn l).length=_;rw [List.length_append,ih,cellsSn_length,List.length_cons];omega
theorem iCloneSs (w:World) (a:Option Addr) (l:List Sn) (c:Nat) (h:Sns w a l) (hl:l.length<=1048576) :
 Calls Tryz.prog 58 #[.slice a l.length c] w fun e w'=>∃ v,e=.returned v/\OwSn w' w.heap.size v l/\Below w.heap.size w w':=by
 have H:Hid (Sns w a l):=h
 clear h
 cases a with
 | none =>
   have hl0:l.length=0:=by
    rcases H.out.2 with e|⟨b,o,hb,_⟩
    ·exact e
    ·cases hb
   have HE:Hid (l=[]):=List.eq_nil_of_length_eq_zero hl0
   rw [hl0]
   clear hl0
   have heq:=fun w n c=>Go.Lib.run_eql_slice_nil (P:=Tryz.prog) w 28 40 none n c 0 0 Tryz.underlying28
   go_enter Tryz.func58,Tryz.ntmps58
   go_wp2
   go_ret
   exact ⟨_,rfl,by rw [HE.out];exact ⟨rfl,.inl ⟨rfl,rfl⟩⟩,Below.refl _ _⟩
 | some x =>
   obtain ⟨g,o,hx,hc⟩:∃ g o,(l.length=0\/x=⟨g,o,none⟩)/\(∀ j (hj:j < l.length),SnAt w g (o+j*2) l[j]):=by
    rcases H.out.2 with e|⟨b,o,hb,hc⟩
    ·exact ⟨0,0,.inl e,fun j hj=>by omega⟩
    ·cases hb;exact ⟨b,o,.inr rfl,hc⟩
   have HX:Hid (l.length=0\/x=⟨g,o,none⟩):=hx
   have HC:Hid (∀ j (hj:j < l.length),SnAt w g (o+j*2) l[j]):=hc
   have HB0:Hid (Below w.heap.size w (w.alloc (.cells #[] 40))):=(Below.refl _ _).alloc (Nat.le_refl _) _
   clear hx hc
   obtain ⟨i,hi,hzz⟩:=Option.map_eq_some_iff.1 infoASn
   simp only [Prod.mk.injEq] at hzz
   obtain ⟨hz,hsz,hb⟩:=hzz
   have HI:Hid (Tryz.prog.info? 40=some i):=hi
   have HZ:Hid _:=hz
   have HSZ:Hid _:=hsz
   have HBY:Hid _:=hb
   clear hi hz hsz hb
   have HNW:Hid (∀ j u,(flatSn l)[j]? = some u->(w.alloc (.cells #[] 40)).cell? (x.add j)=some u):=by
    rcases HX.out with e|e
    ·intro j u hu
     have:l=[]:=List.eq_nil_of_length_eq_zero e
     subst this
     cases hu
    ·subst e
     have hc:∀ j (hj:j < l.length),SnAt (w.alloc (.cells #[] 40)) g (o+j*2) l[j]:=fun j hj=>(HC.out j hj).below HB0.out (HC.out j hj).lt
     exact (fun j u hu=>by
    have hj2:j < (flatSn l).length:=(List.getElem?_eq_some_iff.1 hu).1
    rw [flat_len] at hj2
    have hj:j / 2 < l.length:=by omega
    have hg:=flatSn_get l (j / 2) hj (j % 2) (by omega)
    rw [show j / 2*2+j % 2=j by omega,hu] at hg
    obtain ⟨c0,c1⟩:=hc (j / 2) hj
    rw [add_at,hg]
    rcases (show j % 2=0\/j % 2=1 by omega) with e|e
    ·rw [e,show o+j=o+j / 2*2 by omega,c0];rfl
    ·rw [e,show o+j=o+j / 2*2+1 by omega,c1];rfl)
   have HON:Hid (∀ u∈(flatSn l),u.oneCell'=true):=(fun u hu=>by
    obtain ⟨n,_,hn⟩:=List.mem_flatMap.1 hu
    simp [Sn.cells] at hn
    rcases hn with rfl|rfl<;>rfl)
   have HLN:Hid ((flatSn l).length=l.length*2):=(by show _=_;rw [flat_len])
   have heq:=fun w n c=>Go.Lib.run_eql_slice_nil (P:=Tryz.prog) w 28 40 (some x) n c 0 0 Tryz.underlying28
   go_enter Tryz.func58,Tryz.ntmps58
   go_wp2_with (at_builtin;go_must (refine wpList_append_own_at (P:=Tryz.prog) (w.alloc (.cells #[] 40)) rfl _ _ 28 rfl w.heap.size 40 i _ 2 24 Tryz.underlying28 HI.out HZ.out HSZ.out HBY.out rfl (by omega) (.slice (some ⟨w.heap.size,0,none⟩) 0 0) 0 [] rfl (OwSn.lit w w.heap.size (Nat.le_refl _)) x l.length c (flatSn l) rfl HLN.out HNW.out HON.out (by unfold maxLen;omega) (by omega) (by simp) ?_;intro v' w' h1 h2 h3 h4;have HO:Hid (OwSn w' w.heap.size v' l):=(by rw [Nat.zero_add,List.nil_append] at h1;exact h1);have HB:Hid (Below w.heap.size w w'):=HB0.out.trans ⟨h2.os,h2.tape,h2.output,(by have:=h2.size;have:=HB0.out.size;omega),fun k hk=>h2.block k (Nat.lt_of_lt_of_le hk HB0.out.size) (fun e=>by simp [Value.ownBlock] at e;omega)⟩;clear h1 h2 h3 h4))
   go_ret
   exact ⟨_,rfl,HO.out,HB.out⟩
end Cl0
end Go.Proofs.YtjajkmdoggbicaaGreatDoor
