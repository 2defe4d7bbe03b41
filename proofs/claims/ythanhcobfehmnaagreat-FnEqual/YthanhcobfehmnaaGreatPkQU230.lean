import Derived.Laws.MakeOwn
import Derived.Test.YthanhcobfehmnaaGreatPkQU229
namespace Go.Proofs.YthanhcobfehmnaaGreat
set_option maxRecDepth 100000
set_option maxHeartbeats 8000000
set_option linter.unusedVariables false
namespace Ar0
open Go.RowKit
open Nd0
abbrev Ar:=Nat->Int
def Ar.nil:Ar:=fun _=>0
def Ar.cells (n:Ar):List Value:=[.int .i64 (n 0),.int .i64 (n 1),.int .i64 (n 2),.int .i64 (n 3),.int .i64 (n 4),.int .i64 (n 5),.int .i64 (n 6),.int .i64 (n 7)]
abbrev av (n:Ar):Value:=.agg #[.int .i64 (n 0),.int .i64 (n 1),.int .i64 (n 2),.int .i64 (n 3),.int .i64 (n 4),.int .i64 (n 5),.int .i64 (n 6),.int .i64 (n 7)]
structure ArAt (w:World) (b p:Nat) (n:Ar):Prop where
 c0:w.cell? ⟨b,p,none⟩=some (.int .i64 (n 0))
 c1:w.cell? ⟨b,p+1,none⟩=some (.int .i64 (n 1))
 c2:w.cell? ⟨b,p+2,none⟩=some (.int .i64 (n 2))
 c3:w.cell? ⟨b,p+3,none⟩=some (.int .i64 (n 3))
 c4:w.cell? ⟨b,p+4,none⟩=some (.int .i64 (n 4))
 c5:w.cell? ⟨b,p+5,none⟩=some (.int .i64 (n 5))
 c6:w.cell? ⟨b,p+6,none⟩=some (.int .i64 (n 6))
 c7:w.cell? ⟨b,p+7,none⟩=some (.int .i64 (n 7))
theorem ArAt.at {w:World} {b p:Nat} {n:Ar} (h:ArAt w b p n) {v:Nat} (hv:v < 8):w.cell? ⟨b,p+v,none⟩=some (.int .i64 (n v)):=by
 obtain ⟨c0,c1,c2,c3,c4,c5,c6,c7⟩:=h
 rcases (show v=0\/v=1\/v=2\/v=3\/v=4\/v=5\/v=6\/v=7 by omega) with rfl|rfl|rfl|rfl|rfl|rfl|rfl|rfl
 ·exact c0
 ·exact c1
 ·exact c2
 ·exact c3
 ·exact c4
 ·exact c5
 ·exact c6
 ·exact c7
theorem ArAt.of {w:World} {b p:Nat} {n:Ar} (h:∀ v,v < 8->w.cell? ⟨b,p+v,none⟩=some (.int .i64 (n v))):ArAt w b p n :=
 ⟨h 0 (by omega),h 1 (by omega),h 2 (by omega),h 3 (by omega),h 4 (by omega),h 5 (by omega),h 6 (by omega),h 7 (by omega)⟩
theorem ArAt.lt {w:World} {b p:Nat} {n:Ar} (h:ArAt w b p n):b < w.heap.size:=lt_of_cell (p:=⟨b,p,none⟩) h.c0
theorem ArAt.kept {w w':World} {b p:Nat} {n:Ar} (h:ArAt w b p n) {S:Nat->Prop} (k:Kept S w w') (hs:¬ S b):ArAt w' b p n :=
 ArAt.of fun v hv=>by rw [k.cell (p:=⟨b,p+v,none⟩) h.lt hs];exact h.at hv
theorem ArAt.below {w w':World} {b p:Nat} {n:Ar} (h:ArAt w b p n) {B:Nat} (k:Below B w w') (hb:b < B):ArAt w' b p n :=
 ArAt.of fun v hv=>by rw [k.cell (p:=⟨b,p+v,none⟩) hb];exact h.at hv
def Ars (w:World) (a:Option Addr) (l:List Ar):Prop :=
 l.length<=maxLen/\(l.length=0\/∃ b o,a=some ⟨b,o,none⟩/\∀ i (h:i < l.length),ArAt w b (o+i*8) l[i])
def WArs (w:World) (B:Nat) (a:Option Addr) (l:List Ar):Prop :=
 l.length<=maxLen/\(l.length=0\/∃ b o,a=some ⟨b,o,none⟩/\B<=b/\(∀ i (h:i < l.length),ArAt w b (o+i*8) l[i])/\∀ j,j < l.length*8->w.frozen? ⟨b,o+j,none⟩=false)
theorem WArs.plain {w:World} {B:Nat} {a:Option Addr} {l:List Ar} (h:WArs w B a l):Ars w a l:=by
 refine ⟨h.1,?_⟩
 rcases h.2 with h0|⟨b,o,ha,_,hc,_⟩
 ·exact .inl h0
 ·exact .inr ⟨b,o,ha,hc⟩
def setAr (w:World) (b p:Nat) (n:Ar):World :=
 (((((((w.setCell ⟨b,p,none⟩ (.int .i64 (n 0))).setCell ⟨b,p+1,none⟩ (.int .i64 (n 1))).setCell ⟨b,p+2,none⟩ (.int .i64 (n 2))).setCell ⟨b,p+3,none⟩ (.int .i64 (n 3))).setCell ⟨b,p+4,none⟩ (.int .i64 (n 4))).setCell ⟨b,p+5,none⟩ (.int .i64 (n 5))).setCell ⟨b,p+6,none⟩ (.int .i64 (n 6))).setCell ⟨b,p+7,none⟩ (.int .i64 (n 7))
theorem setAr_same {w:World} {b p:Nat} {v n:Ar} (h:ArAt w b p v):ArAt (setAr w b p n) b p n:=by
 obtain ⟨c0,c1,c2,c3,c4,c5,c6,c7⟩:=h
 unfold setAr
 refine ⟨?_,?_,?_,?_,?_,?_,?_,?_⟩
 ·rw [set_other (by simp),set_other (by simp),set_other (by simp),set_other (by simp),set_other (by simp),set_other (by simp),set_other (by simp)];exact set_same (c0)
 ·rw [set_other (by simp),set_other (by simp),set_other (by simp),set_other (by simp),set_other (by simp),set_other (by simp)];exact set_same (by rw [set_other (by simp)];exact c1)
 ·rw [set_other (by simp),set_other (by simp),set_other (by simp),set_other (by simp),set_other (by simp)];exact set_same (by rw [set_other (by simp),set_other (by simp)];exact c2)
 ·rw [set_other (by simp),set_other (by simp),set_other (by simp),set_other (by simp)];exact set_same (by rw [set_other (by simp),set_other (by simp),set_other (by simp)];exact c3)
 ·rw [set_other (by simp),set_other (by simp),set_other (by simp)];exact set_same (by rw [set_other (by simp),set_other (by simp),set_other (by simp),set_other (by simp)];exact c4)
 ·rw [set_other (by simp),set_other (by simp)];exact set_same (by rw [set_other (by simp),set_other (by simp),set_other (by simp),set_other (by simp),set_other (by simp)];exact c5)
 ·rw [set_other (by simp)];exact set_same (by rw [set_other (by simp),set_other (by simp),set_other (by simp),set_other (by simp),set_other (by simp),set_other (by simp)];exact c6)
 ·exact set_same (by rw [set_other (by simp),set_other (by simp),set_other (by simp),set_other (by simp),set_other (by simp),set_other (by simp),set_other (by simp)];exact c7)
theorem setAr_cell {w:World} {b p:Nat} {n:Ar} {q:Nat} (h:q < p\/p+8<=q):(setAr w b p n).cell? ⟨b,q,none⟩=w.cell? ⟨b,q,none⟩:=by
 unfold setAr
 rw [set_other (by simp<;>omega),set_other (by simp<;>omega),set_other (by simp<;>omega),set_other (by simp<;>omega),set_other (by simp<;>omega),set_other (by simp<;>omega),set_other (by simp<;>omega),set_other (by simp<;>omega)]
theorem setAr_frozen {w:World} {b p:Nat} {n:Ar} {q:Addr}:(setAr w b p n).frozen? q=w.frozen? q:=by
 unfold setAr;simp only [World.frozen?_setCell]
theorem setAr_other {w:World} {b p q:Nat} {v n:Ar} (h:ArAt w b q v) (hq:q+8<=p\/p+8<=q):ArAt (setAr w b p n) b q v :=
 ArAt.of fun j hj=>by rw [setAr_cell (by omega)];exact h.at hj
theorem setAr_keptS {S:Nat->Prop} {b p:Nat} {u w:World} {n:Ar} (hS:S b) (h:Kept S u w):Kept S u (setAr w b p n) :=
 (((((((h.setCell (p:=⟨b,p,none⟩) hS _).setCell (p:=⟨b,p+1,none⟩) hS _).setCell (p:=⟨b,p+2,none⟩) hS _).setCell (p:=⟨b,p+3,none⟩) hS _).setCell (p:=⟨b,p+4,none⟩) hS _).setCell (p:=⟨b,p+5,none⟩) hS _).setCell (p:=⟨b,p+6,none⟩) hS _).setCell (p:=⟨b,p+7,none⟩) hS _
theorem infoAr:(Tryz.prog.info? 47).map (fun i=>(i.zero,i.size,i.bytes))=some (some (.agg #[.int .i64 0,.int .i64 0,.int .i64 0,.int .i64 0,.int .i64 0,.int .i64 0,.int .i64 0,.int .i64 0]),8,64):=by kernel_rfl
def flatA (l:List Ar):List Value:=l.flatMap Ar.cells
theorem flatA_get (l:List Ar):∀ (i:Nat) (h:i < l.length) (j:Nat),j < 8->(flatA l)[i*8+j]? = (l[i].cells)[j]? := by
 induction l with
 | nil=>intro i h;exact absurd h (Nat.not_lt_zero _)
 | cons n l ih =>
   intro i h j hj
   show (n.cells++flatA l)[i*8+j]? = _
   have hl:n.cells.length=8:=rfl
   cases i with
   | zero=>rw [Nat.zero_mul,Nat.zero_add,List.getElem?_append_left (by omega)];rfl
   | succ i =>
     rw [List.getElem?_append_right (by omega),hl,show (i+1)*8+j - 8=i*8+j by omega]
     exact ih i (by simpa using h) j hj
theorem flatA_snoc (l:List Ar) (n:Ar):flatA (l++[n])=flatA l++n.cells:=by simp [flatA]
def OwA (w:World) (B:Nat) (v:Value) (l:List Ar):Prop:=w.ownsRow B 47 8 v l.length (flatA l)
theorem cellA (n:Ar) {j:Nat} (hj:j < 8):n.cells[j]? = some (.int .i64 (n j)):=by
 rcases (show j=0\/j=1\/j=2\/j=3\/j=4\/j=5\/j=6\/j=7 by omega) with rfl|rfl|rfl|rfl|rfl|rfl|rfl|rfl<;>rfl
theorem OwA.form {w:World} {B:Nat} {v:Value} {l:List Ar} (h:OwA w B v l):∃ a c,v=.slice a l.length c/\WArs w B a l/\l.length<=c:=by
 obtain ⟨h1,h2⟩:=h
 rcases h2 with ⟨rfl,h0⟩|⟨g,cap,cur,rfl,hb,hg,hn,hm,hs,ht⟩
 ·have:l=[]:=List.eq_nil_of_length_eq_zero h0
  subst this
  exact ⟨none,0,rfl,⟨Nat.zero_le _,.inl rfl⟩,Nat.zero_le _⟩
 ·have hcell:∀ j,j < l.length*8->w.cell? ⟨g,j,none⟩=(flatA l)[j]? := by
   intro j hj
   rw [cell_of_row w g j cur _ _ hg,<- ht,List.getElem?_take_of_lt hj]
   simp
  refine ⟨_,_,rfl,⟨by omega,.inr ⟨g,0,rfl,hb,fun i hi=>ArAt.of fun v hv=>?_,fun j hj=>?_⟩⟩,by omega⟩
  ·rw [Nat.zero_add,hcell _ (by omega),flatA_get l i hi v hv]
   exact cellA _ hv
  ·rw [Nat.zero_add]
   simp [World.frozen?,hg]
theorem OwA.lit (w:World) (B:Nat) (hB:B<=w.heap.size):OwA (w.alloc (.cells #[] 47)) B (.slice (some ⟨w.heap.size,0,none⟩) 0 0) [] :=
 World.ownsRow_lit w #[] 0 hB (Nat.zero_le _) rfl
theorem OwA.lt {w:World} {B:Nat} {v:Value} {l:List Ar} (h:OwA w B v l):∀ k,v.ownBlock=some k->B<=k/\k < w.heap.size:=World.ownsRow.lt h
theorem OwA.kept {w w':World} {B:Nat} {v:Value} {l:List Ar} (h:OwA w B v l) {S:Nat->Prop} (k:Kept S w w') (hs:∀ i,v.ownBlock=some i->¬ S i):OwA w' B v l:=by
 refine ⟨h.1,?_⟩
 rcases h.2 with hn|⟨g,cap,cur,rfl,hb,hgg,rest⟩
 ·exact .inl hn
 ·refine .inr ⟨g,cap,cur,rfl,hb,?_,rest⟩
  rw [k.block g (Array.getElem?_eq_some_iff.1 hgg).1 (hs g rfl)]
  exact hgg
theorem app_a {ops:Array Oper} {rest:List Oper} {o:Oper} {a:Act} {Q:Exit->Act->World->Prop} (W:World) (hgd:o.guard=none) (s x:Operand)
 (ho:o.op=.call { callee:=.builtin .append,args := #[s,x],argTypes := #[123,123] })
 (B:Nat) (v:Value) (l:List Ar) (n:Ar) (hs:a.eval s=v) (G:Nat) (hx:a.eval x=.slice (some ⟨G,0,none⟩) 1 1) (hG:G=W.heap.size)
 (hown:OwA W B v l) (hB:B<=W.heap.size) (hlen:l.length<=1048576)
 (h:∀ g cap w',OwA w' B (.slice (some ⟨g,0,none⟩) (l.length+1) cap) (l++[n])->Kept (fun k=>v.ownBlock=some k) W w'->(v.ownBlock=some g\/W.heap.size<=g)->wpList Tryz.prog ops Q rest (a.put o.dst (.slice (some ⟨g,0,none⟩) (l.length+1) cap)) w') :
 wpList Tryz.prog ops Q (o :: rest) a (W.alloc (.cells #[.int .i64 (n 0),.int .i64 (n 1),.int .i64 (n 2),.int .i64 (n 3),.int .i64 (n 4),.int .i64 (n 5),.int .i64 (n 6),.int .i64 (n 7)] 47)):=by
 subst hG
 obtain ⟨i,hi,hzz⟩:=Option.map_eq_some_iff.1 infoAr
 simp only [Prod.mk.injEq] at hzz
 obtain ⟨hz,hsz,hb⟩:=hzz
 refine wpList_append_lies (W.alloc (.cells #[.int .i64 (n 0),.int .i64 (n 1),.int .i64 (n 2),.int .i64 (n 3),.int .i64 (n 4),.int .i64 (n 5),.int .i64 (n 6),.int .i64 (n 7)] 47)) hgd s x 123 ho B 47 i _ 8 64 Tryz.underlying123 hi hz hsz hb rfl (by omega) v l.length (flatA l) hs (World.ownsRow.alloc hown _)
  ⟨W.heap.size,0,none⟩ 1 1 n.cells hx rfl ?_ ?_ (by omega) (by unfold maxLen;omega) (by omega) (by simp;omega) _ rfl ?_
 ·intro j u hu
  exact World.news_of_block (heap_alloc_new W _) j u hu
 ·intro u hu
  simp [Ar.cells] at hu
  rcases hu with rfl|rfl|rfl|rfl|rfl|rfl|rfl|rfl<;>rfl
 ·intro g cap w' h1 h2 h3 h4
  refine h g cap w' ?_ ?_ ?_
  ·unfold OwA
   rw [flatA_snoc,List.length_append]
   exact h1
  ·have k1:Kept (fun k=>v.ownBlock=some k) W (W.alloc (.cells #[.int .i64 (n 0),.int .i64 (n 1),.int .i64 (n 2),.int .i64 (n 3),.int .i64 (n 4),.int .i64 (n 5),.int .i64 (n 6),.int .i64 (n 7)] 47)):=(Kept.refl _ W).alloc _
   exact k1.trans ⟨h2.os,h2.tape,h2.output,h2.size,fun k hk hn=>h2.block k hk (fun e=>hn e.symm)⟩
  ·rcases h3 with h3|h3
   ·exact .inl h3
   ·exact .inr (by rw [h3];simp)
def zerosA (n:Nat):Array Value:=madeCells #[.int .i64 0,.int .i64 0,.int .i64 0,.int .i64 0,.int .i64 0,.int .i64 0,.int .i64 0,.int .i64 0] (n*8)
theorem makeAs (n:Nat) (hn:n<=1048576) (w:World) :
 (Instr.makeSlice 123 (.int .i64 (n:Int)) (.int .i64 (n:Int))).run Tryz.prog w=.ok (.slice (some ⟨w.heap.size,0,none⟩) n n) (w.alloc (.cells (zerosA n) 47)):=by
 obtain ⟨i,hi,hzz⟩:=Option.map_eq_some_iff.1 infoAr
 simp only [Prod.mk.injEq] at hzz
 obtain ⟨hz,hs,hb⟩:=hzz
 have h:=run_make (P:=Tryz.prog) w 123 47 i _ Tryz.underlying123 hi hz .i64 .i64 n n (by omega) (Int.le_refl _) (by rw [hb];omega) (by omega)
 rw [hs] at h
 simpa [zerosA,Value.cells] using h
theorem zerosA_get (n j:Nat) (h:j < n*8):(zerosA n)[j]? = some (.int .i64 0):=by
 have hz:∀ m,m < 8->(#[.int .i64 0,.int .i64 0,.int .i64 0,.int .i64 0,.int .i64 0,.int .i64 0,.int .i64 0,.int .i64 0]:Array Value)[m]! = .int .i64 0:=by
  intro m hm
  rcases (show m=0\/m=1\/m=2\/m=3\/m=4\/m=5\/m=6\/m=7 by omega) with rfl|rfl|rfl|rfl|rfl|rfl|rfl|rfl<;>rfl
 simp only [zerosA,madeCells,Array.getElem?_map,Array.getElem?_range]
 rw [if_pos h]
 simp only [Option.map_some]
 exact congrArg some (hz _ (Nat.mod_lt _ (by simp)))
theorem zerosA_at (w:World) (n:Nat) (T:Nat) (j:Nat) (hj:j < n):ArAt (w.alloc (.cells (zerosA n) T)) w.heap.size (j*8) Ar.nil :=
 ArAt.of fun v hv=>by rw [World.cell?_alloc_new];exact zerosA_get n _ (by omega)
def RowA (w:World) (g n:Nat) (f:Nat->Ar):Prop:=∀ i,i < n->ArAt w g (i*8) (f i)/\∀ j,j < 8->w.frozen? ⟨g,i*8+j,none⟩=false
theorem RowA.kept {w w':World} {g n:Nat} {f:Nat->Ar} (h:RowA w g n f) {S:Nat->Prop} (k:Kept S w w') (hs:¬ S g):RowA w' g n f:=fun i hi=>by
 obtain ⟨h1,hf⟩:=h i hi
 exact ⟨h1.kept k hs,fun j hj=>by rw [k.frozen (p:=⟨g,i*8+j,none⟩) h1.lt hs];exact hf j hj⟩
theorem RowA.below {w w':World} {g n:Nat} {f:Nat->Ar} (h:RowA w g n f) (k:Below w.heap.size w w'):RowA w' g n f:=h.kept (S:=fun _=>False) (Kept.ofBelow k) (fun h=>h)
theorem RowA.congr {w:World} {g n:Nat} {f f':Nat->Ar} (h:RowA w g n f) (e:∀ i,i < n->f i=f' i):RowA w g n f':=fun i hi=>by rw [<- e i hi];exact h i hi
theorem RowA.lt {w:World} {g n:Nat} {f:Nat->Ar} (h:RowA w g n f) (hn:0 < n):g < w.heap.size:=(h 0 hn).1.lt
theorem RowA.set {w:World} {g n:Nat} {f:Nat->Ar} (h:RowA w g n f) {p:Nat} (hp:p < n) (v:Ar):RowA (setAr w g (p*8) v) g n (fun i=>if i=p then v else f i):=by
 intro i hi
 refine ⟨?_,fun j hj=>by rw [setAr_frozen];exact (h i hi).2 j hj⟩
 by_cases e:i=p
 ·subst e
  dsimp only
  rw [if_pos rfl]
  exact setAr_same (h i hi).1
 ·dsimp only
  rw [if_neg e]
  exact setAr_other (h i hi).1 (by omega)
theorem RowA.new (w:World) (n T:Nat):RowA (w.alloc (.cells (zerosA n) T)) w.heap.size n (fun _=>Ar.nil):=fun i hi=>⟨zerosA_at w n T i hi,fun j hj=>by simp⟩
end Ar0
namespace Pg10
open Go.RowKit
open Nd0 Nd3 Tm0 Tm1 Tm2 Tm3 Tm8 Ap2 Pg1 Pg2 Rw0
open Lx1 (ITermOk)
open Lx2 (IReached)
open Ws1 (ret_int ret_bool)
def mv (P:Nat->Int) (n:Nd):Nd :=
 ⟨n.op,n.w,n.k,if 0 < cnt n.op then P n.a.toNat else n.a,if 1 < cnt n.op then P n.b.toNat else n.b,if 2 < cnt n.op then P n.c.toNat else n.c⟩
end Pg10
namespace Pg11
open Go.RowKit
open Nd0 Nd3 Tm0 Tm1 Tm2 Tm3 Tm8 Ap2 Pg1 Pg2 Rw0 Pg10
open Lx1 (ITermOk)
open Lx2 (IReached)
theorem infoInt:(Tryz.prog.info? 3).map (fun i=>(i.zero,i.size,i.bytes))=some (some (.int .i64 0),1,8):=by kernel_rfl
def noughts (n:Nat):Array Value:=madeCells #[.int .i64 0] (n*1)
theorem noughts_get (n j:Nat) (h:j < n):(noughts n)[j]? = some (.int .i64 0):=by
 simp only [noughts,madeCells,Array.getElem?_map,Array.getElem?_range]
 rw [if_pos (by omega)]
 simp only [Option.map_some,List.size_toArray,List.length_cons,List.length_nil,Nat.zero_add,Nat.mod_one]
 rfl
theorem makeInts (n:Nat) (hn:n<=1048576) (w:World) :
 (Instr.makeSlice 29 (.int .i64 (n:Int)) (.int .i64 (n:Int))).run Tryz.prog w=.ok (.slice (some ⟨w.heap.size,0,none⟩) n n) (w.alloc (.cells (noughts n) 3)):=by
 obtain ⟨i,hi,hzz⟩:=Option.map_eq_some_iff.1 infoInt
 simp only [Prod.mk.injEq] at hzz
 obtain ⟨hz,hs,hb⟩:=hzz
 have h:=run_make (P:=Tryz.prog) w 29 3 i _ Tryz.underlying29 hi hz .i64 .i64 n n (by omega) (Int.le_refl _) (by rw [hb];omega) (by omega)
 rw [hs] at h
 simpa [noughts,Value.cells] using h
end Pg11
namespace Aw1
open Go.RowKit
open Nd0 Pl1 Tm0 Tm1 Tm8 Ap0 Pg1 Pg2 Rw0 Aq0
open Pg11 (makeInts noughts noughts_get)
abbrev nv (n:Nd):Value:=.agg #[.int .i64 n.op,.int .i64 n.w,.int .i64 n.k,.int .i64 n.a,.int .i64 n.b,.int .i64 n.c]
def TellI (w0:World) (k:Nat) (cap:Array Value) (l:List Nd) (F:Nat->Nd->List Int->Int):Prop :=
 ∀ (W:World) (i:Nat) (a:Option Addr) (c:Nat),i < l.length->Below w0.heap.size w0 W->Ints W a (said 0 F l i) ->
  Calls Tryz.prog k (#[.int .i64 (i:Int),nv (nth l i),.slice a (said 0 F l i).length c]++cap) W fun e w'=>e=.returned (.int .i64 (F i (nth l i) (said 0 F l i)))/\Below W.heap.size W w'
theorem wInt (k:Nat) (cap:Array Value) (F:Nat->Nd->List Int->Int) (w:World) (a:Option Addr) (l:List Nd) (c:Nat) (hN:Nodes w a l) (hD:Down l) (hl:l.length<=1048576)
 (hk:∀ args w,(callFunc k args).run Tryz.prog w=.ok (.enter k args) w) (hT:TellI w k cap l F) :
 Calls Tryz.prog 34 #[.slice a l.length c,.func (.func k) #[] cap] w fun e w'=>(∃ a',e=.returned (.slice a' l.length l.length)/\WInts w' w.heap.size a' (wk 0 F l l.length))/\Below w.heap.size w w':=by
 have HN:Hid (Nodes w a l):=hN
 have HD:Hid (Down l):=hD
 have HT:Hid (TellI w k cap l F):=hT
 clear hN hD hT
 have hmk:=makeInts l.length hl w
 obtain ⟨g,hg⟩:∃ g:Nat,g=w.heap.size:=⟨_,rfl⟩
 have HG:Hid (g=w.heap.size):=hg
 have HR0:Hid (Row (w.alloc (.cells (noughts l.length) 3)) g l.length (fun i=>.int .i64 ((wk 0 F l 0).getD i 0))):=by
  rw [hg]
  exact Row.new _ _ _ _ _ (fun i hi=>noughts_get _ _ hi)
 have HB0:Hid (Below w.heap.size w (w.alloc (.cells (noughts l.length) 3))):=(Below.refl _ _).alloc (Nat.le_refl _) _
 go_enter Tryz.func34,Tryz.ntmps34
 go_wp2_with fail
 clear hmk
 rw [<- hg]
 clear hg
 generalize w.alloc (.cells (noughts l.length) 3)=wa at HR0 HB0 ⊢
 go_loopw [16] (fun q wr=>∃ j:Nat,j<=l.length/\q=.int .i64 j/\Row wr g l.length (fun i=>.int .i64 ((wk 0 F l j).getD i 0))/\Below w.heap.size w wr) (fun q _=>l.length - (intOf q).toNat)
 case atStart=>exact ⟨0,Nat.zero_le _,rfl,HR0.out,HB0.out⟩
 case round =>
  clear HR0 HB0
  obtain ⟨j,hj,rfl,hr,hb⟩:=hrel
  obtain ⟨wb,rfl⟩:∃ wb:World,wb=wr:=⟨_,rfl⟩
  have HR:Hid (Row wb g l.length (fun i=>.int .i64 ((wk 0 F l j).getD i 0))):=hr
  have HB:Hid (Below w.heap.size w wb):=hb
  have hBs:w.heap.size<=wb.heap.size:=hb.size
  clear hr hb
  by_cases hlt:j < l.length
  ·have hlz:(j:Int) < (l.length:Int):=by omega
   rcases (HN.out.below HB.out).2 with h0|⟨xb,xo,rfl,hc⟩
   ·omega
   obtain ⟨p0,p1,p2,p3,p4,p5⟩:=hc j hlt
   rw [nth_get hlt] at p0 p1 p2 p3 p4 p5
   clear hc
   have HDJ:Hid (∀ p∈parts (nth l j),0<=p/\p < (j:Int)):=HD.out j hlt
   have HSA:Hid (said 0 F l j=(parts (nth l j)).map fun p=>(wk 0 F l j).getD p.toNat 0):=rfl
   have HTJ:Hid (∀ (W:World) (a:Option Addr) (c:Nat),Below w.heap.size w W->Ints W a (said 0 F l j) ->
    Calls Tryz.prog k (#[.int .i64 (j:Int),nv (nth l j),.slice a (said 0 F l j).length c]++cap) W fun e w'=>e=.returned (.int .i64 (F j (nth l j) (said 0 F l j)))/\Below W.heap.size W w'):=fun W a c h1 h2=>HT.out W j a c hlt h1 h2
   have HWK:Hid (∀ i,(wk 0 F l (j+1)).getD i 0=if i=j then F j (nth l j) (said 0 F l j) else (wk 0 F l j).getD i 0):=fun i=>wk_set 0 F l j i
   generalize hn:nth l j=n at p0 p1 p2 p3 p4 p5 HDJ HSA HTJ HWK
   clear hn
   generalize F j n (said 0 F l j)=y at HTJ HWK
   generalize said 0 F l j=sd at HSA HTJ
   have hX:∃ X:Nat->Int,X=fun i=>(wk 0 F l j).getD i 0:=⟨_,rfl⟩
   obtain ⟨X,hX⟩:=hX
   have HRX:Hid (Row wb g l.length (fun i=>.int .i64 (X i))):=by rw [hX];exact HR.out
   have HSX:Hid (sd=(parts n).map fun p=>X p.toNat):=by show _=_;rw [hX];exact HSA.out
   have HWX:Hid (∀ i,(wk 0 F l (j+1)).getD i 0=if i=j then y else X i):=by rw [hX];exact HWK.out
   clear hX HSA HWK HR
   have hgl:g < wb.heap.size:=HRX.out.lt (by omega)
   obtain ⟨W1,hW1⟩:∃ W1:World,W1=wb.alloc (.cells #[.int .i64 n.op,.int .i64 n.w,.int .i64 n.k,.int .i64 n.a,.int .i64 n.b,.int .i64 n.c] 44):=⟨_,rfl⟩
   have hs1:W1.heap.size=wb.heap.size+1:=by rw [hW1];simp
   have HB1:Hid (Below wb.heap.size wb W1):=by rw [hW1];exact (Below.refl _ _).alloc (Nat.le_refl _) _
   have HNB:Hid (NodeAt W1 wb.heap.size 0 n):=by rw [hW1];exact ⟨by simp,by simp,by simp,by simp,by simp,by simp⟩
   obtain ⟨W2,hW2⟩:∃ W2:World,W2=W1.alloc (.cells #[] 3):=⟨_,rfl⟩
   have hs2:W2.heap.size=wb.heap.size+2:=by rw [hW2];simp [hs1]
   have HB2:Hid (Below W1.heap.size W1 W2):=by rw [hW2];exact (Below.refl _ _).alloc (Nat.le_refl _) _
   have HO2:Hid (Ows W2 W1.heap.size (.slice (some ⟨wb.heap.size+1,0,none⟩) 0 0) []):=by rw [<- hs1,hW2];exact Ows.lit W1 _ (Nat.le_refl _)
   go_wp2_with fail
   rw [<- hW1,<- hW2]
   refine (iParts n W2).mono ?_
   rintro e W3 ⟨⟨pa,pc,rfl,hpi⟩,hb3⟩
   have hs3:=hb3.size
   have HP3:Hid (IntsIn W3 W2.heap.size W3.heap.size pa (parts n)):=hpi.within
   have HO3:Hid (Ows W3 W1.heap.size (.slice (some ⟨wb.heap.size+1,0,none⟩) 0 0) []):=HO2.out.kept (S:=fun _=>False) (Kept.ofBelow hb3) (fun _ _ h=>h)
   have HB3:Hid (Below W1.heap.size W1 W3):=HB2.out.trans (hb3.mono (by omega))
   have hpl:=parts_le n
   clear hpi hb3 HB2 HO2 hW1 hW2 p0 p1 p2 p3 p4 p5
   go_wp2_with fail
   go_loopw [8,25] (fun v q wq=>∃ m:Nat,m<=(parts n).length/\q=.int .i64 m/\Ows wq W1.heap.size v (((parts n).take m).map fun p=>X p.toNat)/\Below W1.heap.size W1 wq/\IntsIn wq W2.heap.size W3.heap.size pa (parts n)/\W3.heap.size<=wq.heap.size/\∀ x,v.ownBlock=some x->x < W2.heap.size\/W3.heap.size<=x) (fun _ q _=>(parts n).length - (intOf q).toNat)
   case atStart=>exact ⟨0,Nat.zero_le _,rfl,HO3.out,HB3.out,HP3.out,Nat.le_refl _,fun x hx=>by cases hx;exact .inl (by simp;omega)⟩
   case round =>
    clear HO3 HB3 HP3
    obtain ⟨m,hm,rfl,ho,hb,hi,hsz,hne⟩:=hrel
    have HBQ:Hid (Below W1.heap.size W1 wr):=hb
    have HIQ:Hid (IntsIn wr W2.heap.size W3.heap.size pa (parts n)):=hi
    have HRQ:Hid (Row wr g l.length (fun i=>.int .i64 (X i))):=(HRX.out.below HB1.out).below hb
    have HBW:Hid (Below w.heap.size w wr):=(HB.out.trans (HB1.out.mono hBs)).trans (hb.mono (by omega))
    have hB1:W1.heap.size<=wr.heap.size:=hb.size
    clear hb hi
    obtain ⟨ao,co,rfl,hwn⟩:=ho.form
    have HO:Hid (Ows wr W1.heap.size (.slice ao (((parts n).take m).map fun p=>X p.toNat).length co) (((parts n).take m).map fun p=>X p.toNat)):=ho
    have HNE:Hid (∀ x,(Value.slice ao (((parts n).take m).map fun p=>X p.toNat).length co).ownBlock=some x->x < W2.heap.size\/W3.heap.size<=x):=hne
    have HLJ:Hid ((((parts n).take m).map fun p=>X p.toNat).length=m):=by
     show _=_
     rw [List.length_map,List.length_take];omega
    clear ho hne
    by_cases hlt2:m < (parts n).length
    ·have hmz:(m:Int) < ((parts n).length:Int):=by omega
     clear hwn
     rcases HIQ.out.2 with h0|⟨pb,po,rfl,hpB,hpU,hpc⟩
     ·omega
     have q0:=(hpc m hlt2).1
     have HPM:=HDJ.out _ (List.getElem_mem hlt2)
     have HTK:Hid (((parts n).take (m+1)).map (fun p=>X p.toNat)=(((parts n).take m).map fun p=>X p.toNat)++[X (parts n)[m].toNat]):=by
      show _=_
      rw [List.take_succ_eq_append_getElem hlt2,List.map_append];rfl
     obtain ⟨hy0,hy1⟩:=HPM
     generalize (parts n)[m]=yp at q0 hy0 hy1 HTK
     generalize (((parts n).take m).map fun p=>X p.toNat)=L at HO HNE HLJ HTK ⊢
     clear hpc
     obtain ⟨jy,rfl⟩:=Int.eq_ofNat_of_zero_le hy0
     rw [Int.toNat_natCast] at HTK
     have c1:wr.cell? ⟨g,jy,none⟩=some (.int .i64 (X jy)):=(HRQ.out jy (by omega)).1
     have hyl:(jy:Int) < (l.length:Int):=by omega
     have hLl:L.length<=1048576:=by have:=HLJ.out;omega
     generalize X jy=z at c1 HTK
     go_wp2_with (at_builtin;go_must (refine app_int _ rfl _ _ rfl W1.heap.size (.slice ao L.length co) L z rfl rfl HO.out hB1 hLl ?_;intro g5 cp5 w5 ho5 hk5 hg5))
     have HO5:Hid (Ows w5 W1.heap.size (.slice (some ⟨g5,0,none⟩) (L.length+1) cp5) (L++[z])):=ho5
     have HK5:Hid (Kept (fun k=>(Value.slice ao L.length co).ownBlock=some k) wr w5):=hk5
     have HG5:Hid ((Value.slice ao L.length co).ownBlock=some g5\/wr.heap.size<=g5):=hg5
     clear ho5 hk5 hg5
     go_wp2
     go_roundw
     case rel =>
      refine ⟨m+1,by omega,by go_num,by rw [HTK.out];exact HO5.out,HBQ.out.trans (HK5.out.below (fun b hb=>(HO.out.lt b hb).1) hB1),HIQ.out.kept HK5.out (fun b h1 h2 e=>by have:=HNE.out b e;omega),by have:=HK5.out.size;omega,fun b hb=>?_⟩
      cases hb
      rcases HG5.out with e|e
      ·exact HNE.out _ e
      ·exact .inr (by show _<=g5;omega)
     case measure=>simp [intOf];omega
    ·have hmz:¬ (m:Int) < ((parts n).length:Int):=by omega
     have hme:m=(parts n).length:=by omega
     have HLS:Hid ((((parts n).take m).map fun p=>X p.toNat)=sd):=by show _=_;rw [HSX.out,List.take_of_length_le (by omega)]
     clear HO HNE HLJ hme
     rw [HLS.out] at hwn ⊢
     have HWN:Hid (WInts wr W1.heap.size ao sd):=hwn
     obtain ⟨b0,b1,b2,b3,b4,b5⟩:=HNB.out.below HBQ.out (by omega)
     clear hwn
     go_wp2_with fail
     refine (HTJ.out wr ao co HBW.out HWN.out.ints).mono ?_
     rintro e w6 ⟨rfl,hb6⟩
     have HB6:Hid (Below w.heap.size w w6):=HBW.out.trans (hb6.mono (by omega))
     have HR6:Hid (Row w6 g l.length (fun i=>.int .i64 (X i))):=HRQ.out.below hb6
     obtain ⟨c1,c2⟩:=HR6.out j hlt
     clear hb6 b0 b1 b2 b3 b4 b5
     go_wp2_with fail
     go_roundw
     case rel =>
      refine ⟨j+1,by omega,by go_num,?_,HB6.out.trans (((Kept.refl (fun b=>b=g) w6).setCell (p:=⟨g,j,none⟩) rfl _).below (fun b (hb:b=g)=>by have:=HG.out;omega) HB6.out.size)⟩
      refine (HR6.out.set hlt _).congr (fun i hi=>?_)
      rw [HWX.out]
      by_cases e:i=j
      ·rw [if_pos e,if_pos e]
      ·rw [if_neg e,if_neg e]
     case measure=>simp [intOf];omega
  ·have e2:j=l.length:=by omega
   subst e2
   go_wp2
   go_ret
   refine ⟨⟨_,rfl,⟨by rw [wk_length];unfold maxLen;omega,.inr ⟨g,0,rfl,by have:=HG.out;omega,fun i hi=>?_⟩⟩⟩,HB.out⟩
   have h9:=HR.out i (by rw [wk_length] at hi;exact hi)
   rw [Nat.zero_add,h9.1,h9.2]
   exact ⟨by dsimp only;rw [List.getD_eq_getElem?_getD,List.getElem?_eq_getElem hi];rfl,rfl⟩
end Aw1
end Go.Proofs.YthanhcobfehmnaaGreat
