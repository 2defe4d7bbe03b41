import Derived.ProofKit
import Derived.Deep.Slices
import Derived.ChangeSlices
import Derived.Deep.Grids
import Derived.Test.YtladjpombohpaaaGreatDoorPkJE38
import Derived.Test.YtladjpombohpaaaGreatDoorMu9
namespace Go.Proofs.YtladjpombohpaaaGreatDoor
set_option maxRecDepth 100000
set_option maxHeartbeats 8000000
set_option linter.unusedVariables false
namespace Mw21
open Go.RowKit
open Nd0 (Kept Ints Ats At lt_of_cell)
open Ap0 Ap1 Qc0 Mm0 Mx0 Mx1 Mu2 Mu6 Mu8 Mu9 Mw19 Mw20 Mk3 Tk0
open Mm2 (mokB)
open Ta1
open Ss0 (bs bs_size)
open Ss1 (tl bs_tl)
/-- A machine's lists that may be written, in the blocks from B on and below U. -/
structure Rg (W:World) (B U:Nat) (m:Mc) (ra va ma:Option Addr):Prop where
 wm:Wm W B m.row m.vals m.memo ra va ma
 lt:∀ b,anyAt m.row.length m.vals.length m.memo.length ra va ma b->b < U
 ax:Ax m.row.length m.vals.length m.memo.length ra va ma
theorem Rg.kept {W W':World} {B U:Nat} {m:Mc} {ra va ma:Option Addr} (h:Rg W B U m ra va ma) {S:Nat->Prop} (k:Kept S W W') (hs:∀ b,B<=b->b < U->¬ S b):Rg W' B U m ra va ma :=
 ⟨h.wm.kept k (fun b hb=>hs b (h.wm.ge (.inl hb)).1 (h.lt b (.inl hb))) (fun b hb=>hs b (h.wm.ge (.inr (.inl hb))).1 (h.lt b (.inr (.inl hb)))) (fun b hb=>hs b (h.wm.ge (.inr (.inr hb))).1 (h.lt b (.inr (.inr hb)))),h.lt,h.ax⟩
theorem Rg.below {W W':World} {B U:Nat} {m:Mc} {ra va ma:Option Addr} (h:Rg W B U m ra va ma) (k:Below W.heap.size W W'):Rg W' B U m ra va ma:=h.kept (S:=fun _=>False) (Kept.ofBelow k) (fun _ _ _ h=>h)
theorem Rg.of_po {W:World} {B:Nat} {m:Mc} {ra va ma:Option Addr} {rc vc mc:Nat} (h:PO W B m ra va ma rc vc mc):Rg W B W.heap.size m ra va ma:=by
 obtain ⟨a1,c1,e1,f1⟩:=h.row.form
 obtain ⟨a2,c2,e2,f2⟩:=h.vals.form
 obtain ⟨a3,c3,e3,f3,_⟩:=h.memo.form
 cases e1
 cases e2
 cases e3
 have wm:Wm W B m.row m.vals m.memo ra va ma:=⟨f1,f2,f3⟩
 exact ⟨wm,fun b hb=>(wm.ge hb).2,fun k h1 h2=>h.rv k h1.2 h2.2,fun k h1 h2=>h.rm k h1.2 h2.2,fun k h1 h2=>h.vm k h1.2 h2.2⟩
theorem Rg.of_to {W:World} {B U1 U2:Nat} {m:Mc} {ra va ma:Option Addr} (h0:B<=U1) (h1:U1<=U2) (h2:U2<=W.heap.size) (hr:Nd6.BoolsIn W B U1 ra m.row) (hv:Nd0.IntsIn W U1 U2 va m.vals) (hm:SnsIn W U2 W.heap.size ma m.memo):Rg W B W.heap.size m ra va ma:=by
 have wm:Wm W B m.row m.vals m.memo ra va ma:=⟨hr.wr,(wi_mono hv h0 (Nat.le_refl _)).wints,(ws_mono hm (by omega) (Nat.le_refl _)).wr⟩
 exact ⟨wm,fun b hb=>(wm.ge hb).2,fun k a b=>by have:=hr.ats a;have:=hv.ats b;omega,fun k a b=>by have:=hr.ats a;have:=hm.ats b;omega,fun k a b=>by have:=hv.ats a;have:=hm.ats b;omega⟩
/-- What both come to. -/
def Out (W:World) (M:Mc) (e:Ending) (w':World):Prop:=∃ ra va ma rc vc mc,e=.returned (mval M ra va ma rc vc mc)/\Rg w' W.heap.size w'.heap.size M ra va ma/\Below W.heap.size W w'
theorem out_run {W:World} {M:Mc} {e:Ending} {w':World} (h:RunOut W M e w'):Out W M e w':=by
 obtain ⟨ra,va,ma,rc,vc,mc,h1,h2,h3⟩:=h
 exact ⟨ra,va,ma,rc,vc,mc,h1,Rg.of_po h2,h3⟩
theorem out_mo {W:World} {M:Mc} {e:Ending} {w':World} (h:∃ ra va ma rc vc mc,e=.returned (mval M ra va ma rc vc mc)/\MO w' W.heap.size M ra va ma rc vc mc/\Below W.heap.size W w'):Out W M e w':=by
 obtain ⟨ra,va,ma,rc,vc,mc,h1,h2,h3⟩:=h
 exact ⟨ra,va,ma,rc,vc,mc,h1,Rg.of_po (PO.of h2),h3⟩
def Short (M:Mc):Prop:=M.row.length<=1048576/\M.vals.length<=1048576/\M.memo.length<=1048576
theorem Rm.short {n:Nat} {F:Nat->Bool} {m:Mc} (hn:n<=12) (h:Rm n F m):Short m:=by
 have h1:=h.ok.row
 have h2:=h.ok.vals
 have h3:=h.ok.memo
 have h4:=h.ok.room
 have h5:=h.hN
 exact ⟨by omega,by omega,by omega⟩
theorem Rm.go {n:Nat} {F:Nat->Bool} {m:Mc} (h:Rm n F m) (hl:m.looks < 1000000000) (hh:m.hits < 1000000000):Rm n F (stepM n F m):=by
 obtain ⟨k1,k2,k3,_,_⟩:=step_ok (F:=F) h.ok h.hN hl hh
 exact ⟨k2.trans h.hN,k3.trans h.hS,k1⟩
theorem Rm.run {n:Nat} {F:Nat->Bool} (k:Nat):∀ {m:Mc},Rm n F m->Rm n F (runM n F k m):=by
 induction k with
 | zero=>exact fun h=>h
 | succ k ih =>
   intro m h
   by_cases e:m.over=true\/1000000000<=m.looks\/1000000000<=m.hits
   ·rw [runM_stop e];exact h
   ·rw [runM_next e]
    exact ih (Rm.go h (by apply Classical.byContradiction;intro c;exact e (.inr (.inl (by omega)))) (by apply Classical.byContradiction;intro c;exact e (.inr (.inr (by omega)))))
theorem rm_of {m:Mc} (h:mokB m=true):∃ (n:Nat) (F:Nat->Bool),n<=12/\Rm n F m:=by
 have ok:=(mok_iff m).1 h
 obtain ⟨n,F,hn,hN,hS⟩:=tok_tab ok.tab
 exact ⟨n,F,hn,hN,by rw [<- hS,bs_tl],ok⟩
theorem bRun (m:Mc) (N:Int) (hr:m.row.length<=1048576) (hS:m.S.size<=1048576) (hv:m.vals.length<=1048576) (hm:m.memo.length<=1048576) (hk:∀ x∈m.memo,x.k.size<=maxLen) :
 ∃ M,Short M/\(∀ (W:World) ra va ma rc vc mc,Mr W m ra va ma->Calls Tryz.prog 27 #[mval m ra va ma rc vc mc,.int .i64 N] W (Out W M)) /\
  (∀ (W:World) ra va ma rc vc mc,TabK W->Mr W m ra va ma->Calls Tryz.prog 115 #[mval m ra va ma rc vc mc,.int .i64 N] W (Out W M)):=by
 by_cases h:mokB m=true/\0<=N/\N<=100000
 ·obtain ⟨n,F,hn,ok⟩:=rm_of h.1
  obtain ⟨k,rfl⟩:∃ k:Nat,N=(k:Int):=⟨N.toNat,by omega⟩
  have hk1:k<=100000:=by omega
  refine ⟨runM n F k m,Rm.short hn (Rm.run k ok),fun W ra va ma rc vc mc hR=>?_,fun W ra va ma rc vc mc hT hR=>?_⟩
  ·exact (sRun n F m ra va ma rc vc mc k W hn ok.hN ok.hS ok.ok hk1 hR).mono fun e w' h=>out_mo h
  ·exact (iRun n F m ra va ma rc vc mc k W hn ok hk1 hR hk hT).mono fun e w' h=>out_run h
 ·refine ⟨m,⟨hr,hv,hm⟩,fun W ra va ma rc vc mc hR=>?_,fun W ra va ma rc vc mc hT hR=>?_⟩
  ·exact (sRun0 m ra va ma rc vc mc N W hr hS hv hm hR h).mono fun e w' h=>out_mo h
  ·exact (iRunBad W N m ra va ma rc vc mc hS hR hr hv hm hk h).mono fun e w' h=>out_run h
end Mw21
namespace Qc3
open Go.RowKit Go.ChangeShapes Go.WideShapes
open Nd0 Qc0
theorem cellsInt:Tryz.prog.cellsOf 3=1:=by kernel_rfl
theorem cellsStr:Tryz.prog.cellsOf 9=1:=by kernel_rfl
theorem cellsOfSn:Tryz.prog.cellsOf 81=2:=by kernel_rfl
theorem exactly {α:Type} (l:List α) (h:l.length=2):∃ z0 z1,l=[z0,z1]:=by
 match l,h with
 | [z0,z1],_=>exact ⟨z0,z1,rfl⟩
section
variable {H:Type} {enc:TypeId × Value->H} {w:World} {base:Nat} {spare:Nat->Bool} {held:Bool}
theorem openSn {fuel:Nat} {cs:List Value} {x:DataW H × List MemPlace} (h:DataW.trod enc Tryz.prog w base spare held fuel 81 cs=some x) :
 ∃ n:Sn,cs=n.cells/\n.k.size<=maxLen:=by
 obtain ⟨xs,m,_,rfl,hl,hlen,hf⟩:=DataW.trod_struct Tryz.underlying81 h
 rw [cellsOfSn] at hl
 obtain ⟨c0,c1,rfl⟩:=exactly cs hl
 obtain ⟨y0,y1,rfl⟩:=exactly xs (by simpa using hlen)
 have g0:=hf 0 _ rfl
 have g1:=hf 1 _ rfl
 simp [cellsInt,cellsStr] at g0 g1
 obtain ⟨n0,e0,_,hS⟩:=DataW.trod_string Tryz.underlying9 g0
 obtain ⟨n1,e1,_,_⟩:=DataW.trod_int Tryz.underlying3 g1
 simp at e0 e1
 subst e0 e1
 exact ⟨⟨n0,n1⟩,rfl,hS⟩
theorem cellsSn {a:Addr} {cs:List Value} (h:w.cells? base a 2=some cs):cs.length=2/\∀ i,i < 2->w.cell? (a.add i)=cs[i]? := by
 unfold World.cells? at h
 split at h
 ·have hl:cs.length=2:=by simpa using mapM_some_length h
  refine ⟨hl,fun i hi=>?_⟩
  have:=mapM_some_get h i i (by simp [hi])
  exact this
 ·cases h
theorem opensSn {fuel:Nat} {a:Option Addr} {len cap:Nat} {x:DataW H × List MemPlace} (h:DataW.trod enc Tryz.prog w base spare held fuel 26 [.slice a len cap]=some x) :
 len<=maxLen/\∃ l:List Sn,l.length=len/\Sns w a l/\∀ x∈l,x.k.size<=maxLen:=by
 rcases Deep.open_slice Tryz.underlying26 h with ⟨hcs,_⟩|⟨b,len',cap',m,n,D,Pl,hcs,_,hl,hm,hmm,_,hc⟩
 ·simp at hcs
  obtain ⟨rfl,rfl,rfl⟩:=hcs
  exact ⟨Nat.zero_le _,[],rfl,⟨Nat.zero_le _,.inl rfl⟩,fun x hx=>by cases hx⟩
 ·simp at hcs
  obtain ⟨rfl,rfl,rfl⟩:=hcs
  have hlm:len<=m:=by rw [hmm];split<;>omega
  have hall:∀ i,i < len->∃ nd:Sn,(∀ j,j < 2->w.cell? ((b.add (i*2)).add j)=nd.cells[j]?)/\nd.k.size<=maxLen:=by
   intro i hi
   obtain ⟨cs',h1,h2⟩:=hc i (by omega)
   rw [cellsOfSn] at h1
   obtain ⟨nd,rfl,hS⟩:=openSn h2
   exact ⟨nd,(cellsSn h1).2,hS⟩
  refine ⟨by omega,?_⟩
  obtain ⟨f,hf⟩:∃ f:Nat->Sn,∀ i,i < len->(∀ j,j < 2->w.cell? ((b.add (i*2)).add j)=(f i).cells[j]?)/\(f i).k.size<=maxLen:=by
   classical
   refine ⟨fun i=>if hi:i < len then Classical.choose (hall i hi) else Sn.zero,fun i hi=>?_⟩
   simp only [dif_pos hi]
   exact Classical.choose_spec (hall i hi)
  refine ⟨(List.range len).map f,by simp,⟨by simp;omega,?_⟩,fun x hx=>by
   obtain ⟨i,hi,rfl⟩:=List.mem_map.1 hx
   exact (hf i (List.mem_range.1 hi)).2⟩
  by_cases h0:len=0
  ·exact .inl (by simp [h0])
  ·obtain ⟨xb,xo,spot⟩:=b
   have hs:spot=none:=by
    have:=(hf 0 (by omega)).1 0 (by omega)
    simp [Addr.add,Sn.cells] at this
    simpa using World.cell?_spot this
   subst hs
   refine .inr ⟨xb,xo,rfl,fun i hi=>?_⟩
   have hi':i < len:=by simpa using hi
   have hg:=(hf i hi').1
   simp only [Addr.add_lit] at hg
   have e:((List.range len).map f)[i]=f i:=by simp
   rw [e]
   exact ⟨hg 0 (by omega),hg 1 (by omega)⟩
end
end Qc3
namespace Op2
open Go.RowKit Go.ChangeShapes Go.WideShapes
open Nd0
theorem cellsInt:Tryz.prog.cellsOf 3=1:=by kernel_rfl
theorem cellsStr:Tryz.prog.cellsOf 9=1:=by kernel_rfl
theorem cellsTable:Tryz.prog.cellsOf 24=2:=by kernel_rfl
theorem pair {α:Type} (l:List α) (h:l.length=2):∃ a b,l=[a,b]:=by
 match l,h with
 | [a,b],_=>exact ⟨a,b,rfl⟩
theorem table_open {H:Type} {enc:TypeId × Value->H} {w:World} {base:Nat} {spare:Nat->Bool} {held:Bool} {fuel:Nat} {cs:List Value} {x:DataW H × List MemPlace} (h:DataW.trod enc Tryz.prog w base spare held fuel 24 cs=some x) :
 ∃ (N:Int) (S:ByteArray),cs=[.int .i64 N,.string S]/\S.size<=maxLen:=by
 obtain ⟨xs,m,_,rfl,hl,hlen,hf⟩:=DataW.trod_struct Tryz.underlying24 h
 rw [cellsTable] at hl
 obtain ⟨c0,c1,rfl⟩:=pair cs hl
 obtain ⟨y0,y1,rfl⟩:=pair xs (by simpa using hlen)
 have g0:=hf 0 _ rfl
 have g1:=hf 1 _ rfl
 simp [cellsInt,cellsStr] at g0 g1
 obtain ⟨n0,e0,_,_⟩:=DataW.trod_int Tryz.underlying3 g0
 obtain ⟨S,e1,_,hS⟩:=DataW.trod_string Tryz.underlying9 g1
 simp at e0 e1
 subst e0 e1
 exact ⟨n0,S,rfl,hS⟩
theorem ints_open {H:Type} {enc:TypeId × Value->H} {w:World} {base:Nat} {spare:Nat->Bool} {held:Bool} {fuel:Nat} {a:Option Addr} {len cap:Nat} {x:DataW H × List MemPlace} (h:DataW.trod enc Tryz.prog w base spare held fuel 25 [.slice a len cap]=some x) :
 len<=maxLen/\∃ l:List Int,l.length=len/\Ints w a l:=by
 rcases open_ints Tryz.underlying25 Tryz.underlying3 cellsInt h with ⟨hcs,_⟩|⟨b,len',cap',zs,hcs,_,hl,hm,hz,_,hc,hw⟩
 ·simp at hcs
  obtain ⟨rfl,rfl,rfl⟩:=hcs
  exact ⟨Nat.zero_le _,[],rfl,Nat.zero_le _,.inl rfl⟩
 ·simp at hcs
  obtain ⟨rfl,rfl,rfl⟩:=hcs
  have hlz:len<=zs.length:=by rw [hz];split<;>omega
  refine ⟨by omega,zs.take len,by simp;omega,by simp;omega,?_⟩
  by_cases h0:len=0
  ·exact .inl (by simp [h0])
  ·obtain ⟨xb,xo,spot⟩:=b
   have hs:spot=none:=by
    have:=hc 0 (by omega)
    simp [Addr.add] at this
    simpa using World.cell?_spot this
   subst hs
   refine .inr ⟨xb,xo,rfl,fun i hi=>?_⟩
   have hi':i < zs.length:=by simp at hi;omega
   have hg:=hc i hi'
   simp only [Addr.add_lit] at hg
   rw [hg]
   simp [List.getD,hi']
end Op2
namespace Op4
open Go.RowKit Go.ChangeShapes Go.WideShapes Go.Deep
open Nd0 Nd6
theorem cellsBool:Tryz.prog.cellsOf 4=1:=by kernel_rfl
theorem bools_open {H:Type} {enc:TypeId × Value->H} {w:World} {base:Nat} {spare:Nat->Bool} {held:Bool} {fuel:Nat} {a:Option Addr} {len cap:Nat} {x:DataW H × List MemPlace} (h:DataW.trod enc Tryz.prog w base spare held fuel 22 [.slice a len cap]=some x) :
 len<=maxLen/\∃ l:List Bool,l.length=len/\Bools w a l:=by
 rcases open_slice1 Tryz.underlying22 cellsBool h with ⟨hcs,_⟩|⟨b,len',cap',m,n,V,D,Pl,hcs,_,hl,hm,hmm,_,hx⟩
 ·simp at hcs
  obtain ⟨rfl,rfl,rfl⟩:=hcs
  exact ⟨Nat.zero_le _,[],rfl,Nat.zero_le _,.inl rfl⟩
 ·simp at hcs
  obtain ⟨rfl,rfl,rfl⟩:=hcs
  have hlm:len<=m:=by rw [hmm];split<;>omega
  obtain ⟨B,hB⟩:=choose_lt (n:=len) (α:=Bool) (p:=fun i b=>V i=.bool b) (fun i hi=>by
   obtain ⟨y,h1,h2⟩:=DataW.trod_bool Tryz.underlying4 (hx i (by omega)).2
   exact ⟨y,by simpa using h1⟩)
  refine ⟨by omega,(List.range len).map B,by simp,by simp;omega,?_⟩
  by_cases h0:len=0
  ·exact .inl (by simp [h0])
  ·obtain ⟨xb,xo,spot⟩:=b
   have hs:spot=none:=by
    have:=(hx 0 (by omega)).1
    simp [Addr.add] at this
    simpa using World.cell?_spot this
   subst hs
   refine .inr ⟨xb,xo,rfl,fun i hi=>?_⟩
   have hi':i < len:=by simpa using hi
   have hg:=(hx i (by omega)).1
   simp only [Addr.add_lit] at hg
   rw [hg,hB i hi']
   simp
end Op4
namespace Op5
open Go.RowKit Go.ChangeShapes Go.WideShapes
open Nd0 (Ints)
open Nd6 (Bools)
open Qc0 (Sn Sns)
open Mm0 (Mc Mr)
theorem cellsInt:Tryz.prog.cellsOf 3=1:=by kernel_rfl
theorem cellsBool:Tryz.prog.cellsOf 4=1:=by kernel_rfl
theorem cellsTable:Tryz.prog.cellsOf 24=2:=by kernel_rfl
theorem cellsBs:Tryz.prog.cellsOf 22=1:=by kernel_rfl
theorem cellsIs:Tryz.prog.cellsOf 25=1:=by kernel_rfl
theorem cellsSs:Tryz.prog.cellsOf 26=1:=by kernel_rfl
theorem cellsMachine:Tryz.prog.cellsOf 28=11:=by kernel_rfl
theorem range_of {x:Int} (h:(Lit.int .i64 x).wf=true) : -9223372036854775808<=x/\x<=9223372036854775807:=by
 have e1:IntKind.i64.min = -9223372036854775808:=by decide
 have e2:IntKind.i64.max=9223372036854775807:=by decide
 simp [Lit.wf,e1,e2] at h;omega
theorem eleven {α:Type} (l:List α) (h:l.length=11):∃ z0 z1 z2 z3 z4 z5 z6 z7 z8 z9 z10,l=[z0,z1,z2,z3,z4,z5,z6,z7,z8,z9,z10]:=by
 match l,h with
 | [z0,z1,z2,z3,z4,z5,z6,z7,z8,z9,z10],_=>exact ⟨z0,z1,z2,z3,z4,z5,z6,z7,z8,z9,z10,rfl⟩
theorem ten {α:Type} (l:List α) (h:l.length=10):∃ z0 z1 z2 z3 z4 z5 z6 z7 z8 z9,l=[z0,z1,z2,z3,z4,z5,z6,z7,z8,z9]:=by
 match l,h with
 | [z0,z1,z2,z3,z4,z5,z6,z7,z8,z9],_=>exact ⟨z0,z1,z2,z3,z4,z5,z6,z7,z8,z9,rfl⟩
section
variable {H:Type} {enc:TypeId × Value->H} {w:World} {base:Nat} {spare:Nat->Bool} {held:Bool}
/-- A list that can be read, with its cell. -/
theorem bools_cell {fuel:Nat} {c:Value} {x:DataW H × List MemPlace} (h:DataW.trod enc Tryz.prog w base spare held fuel 22 [c]=some x):∃ (a:Option Addr) (l:List Bool) (k:Nat),c=.slice a l.length k/\Bools w a l:=by
 rcases Deep.open_slice Tryz.underlying22 h with ⟨hcs,_⟩|⟨b,len',cap',m,n,D,Pl,hcs,_⟩
 ·simp at hcs
  subst hcs
  exact ⟨none,[],0,rfl,Nat.zero_le _,.inl rfl⟩
 ·simp at hcs
  subst hcs
  obtain ⟨_,l,hl,hA⟩:=Op4.bools_open h
  subst hl
  exact ⟨_,l,_,rfl,hA⟩
theorem ints_cell {fuel:Nat} {c:Value} {x:DataW H × List MemPlace} (h:DataW.trod enc Tryz.prog w base spare held fuel 25 [c]=some x):∃ (a:Option Addr) (l:List Int) (k:Nat),c=.slice a l.length k/\Ints w a l:=by
 rcases Deep.open_slice Tryz.underlying25 h with ⟨hcs,_⟩|⟨b,len',cap',m,n,D,Pl,hcs,_⟩
 ·simp at hcs
  subst hcs
  exact ⟨none,[],0,rfl,Nat.zero_le _,.inl rfl⟩
 ·simp at hcs
  subst hcs
  obtain ⟨_,l,hl,hA⟩:=Op2.ints_open h
  subst hl
  exact ⟨_,l,_,rfl,hA⟩
theorem sns_cell {fuel:Nat} {c:Value} {x:DataW H × List MemPlace} (h:DataW.trod enc Tryz.prog w base spare held fuel 26 [c]=some x):∃ (a:Option Addr) (l:List Sn) (k:Nat),c=.slice a l.length k/\Sns w a l/\∀ x∈l,x.k.size<=maxLen:=by
 rcases Deep.open_slice Tryz.underlying26 h with ⟨hcs,_⟩|⟨b,len',cap',m,n,D,Pl,hcs,_⟩
 ·simp at hcs
  subst hcs
  exact ⟨none,[],0,rfl,⟨Nat.zero_le _,.inl rfl⟩,fun x hx=>by cases hx⟩
 ·simp at hcs
  subst hcs
  obtain ⟨_,l,hl,hA,hS⟩:=Qc3.opensSn h
  subst hl
  exact ⟨_,l,_,rfl,hA,hS⟩
theorem machine_open {fuel:Nat} {cs:List Value} {x:DataW H × List MemPlace} (h:DataW.trod enc Tryz.prog w base spare held fuel 28 cs=some x) :
 ∃ (m:Mc) (ra va ma:Option Addr) (rc vc mc:Nat),cs=[.slice ra m.row.length rc,.int .i64 m.N,.string m.S,.int .i64 m.room,.slice va m.vals.length vc,.int .i64 m.ret,.bool m.over,.int .i64 m.steps,.int .i64 m.looks,.int .i64 m.hits,.slice ma m.memo.length mc]/\Mr w m ra va ma/\m.S.size<=maxLen/\∀ x∈m.memo,x.k.size<=maxLen:=by
 obtain ⟨xs,mm,_,rfl,hl,hlen,hf⟩:=DataW.trod_struct Tryz.underlying28 h
 rw [cellsMachine] at hl
 obtain ⟨c0,c1,c2,c3,c4,c5,c6,c7,c8,c9,c10,rfl⟩:=eleven cs hl
 obtain ⟨y0,y1,y2,y3,y4,y5,y6,y7,y8,y9,rfl⟩:=ten xs (by simpa using hlen)
 have g0:=hf 0 _ rfl
 have g1:=hf 1 _ rfl
 have g2:=hf 2 _ rfl
 have g3:=hf 3 _ rfl
 have g4:=hf 4 _ rfl
 have g5:=hf 5 _ rfl
 have g6:=hf 6 _ rfl
 have g7:=hf 7 _ rfl
 have g8:=hf 8 _ rfl
 have g9:=hf 9 _ rfl
 simp [cellsInt,cellsBool,cellsTable,cellsBs,cellsIs,cellsSs] at g0 g1 g2 g3 g4 g5 g6 g7 g8 g9
 obtain ⟨ra,row,rc,rfl,hrow⟩:=bools_cell g0
 obtain ⟨N,S,e1,hS⟩:=Op2.table_open g1
 simp at e1
 obtain ⟨rfl,rfl⟩:=e1
 obtain ⟨n2,e2,_,_⟩:=DataW.trod_int Tryz.underlying3 g2
 obtain ⟨va,vals,vc,rfl,hvals⟩:=ints_cell g3
 obtain ⟨n4,e4,_,_⟩:=DataW.trod_int Tryz.underlying3 g4
 obtain ⟨b5,e5,_⟩:=DataW.trod_bool Tryz.underlying4 g5
 obtain ⟨n6,e6,_,_⟩:=DataW.trod_int Tryz.underlying3 g6
 obtain ⟨n7,e7,_,_⟩:=DataW.trod_int Tryz.underlying3 g7
 obtain ⟨n8,e8,_,_⟩:=DataW.trod_int Tryz.underlying3 g8
 obtain ⟨ma,memo,mc,rfl,hmemo,hk⟩:=sns_cell g9
 simp at e2 e4 e5 e6 e7 e8
 subst e2 e4 e5 e6 e7 e8
 exact ⟨⟨row,N,S,n2,vals,n4,b5,n6,n7,n8,memo⟩,ra,va,ma,rc,vc,mc,rfl,⟨hrow,hvals,hmemo⟩,hS,hk⟩
end
end Op5
namespace Op7
open Go.RowKit Go.ChangeShapes Go.WideShapes
open Mm0 (Mc Mr)
theorem cellsString:Tryz.prog.cellsOf 9=1:=by kernel_rfl
theorem cellsJob:Tryz.prog.cellsOf 30=14:=by kernel_rfl
theorem fourteen {α:Type} (l:List α) (h:l.length=14):∃ z0 z1 z2 z3 z4 z5 z6 z7 z8 z9 z10 z11 z12 z13,l=[z0,z1,z2,z3,z4,z5,z6,z7,z8,z9,z10,z11,z12,z13]:=by
 match l,h with
 | [z0,z1,z2,z3,z4,z5,z6,z7,z8,z9,z10,z11,z12,z13],_=>exact ⟨z0,z1,z2,z3,z4,z5,z6,z7,z8,z9,z10,z11,z12,z13,rfl⟩
theorem four {α:Type} (l:List α) (h:l.length=4):∃ z0 z1 z2 z3,l=[z0,z1,z2,z3]:=by
 match l,h with
 | [z0,z1,z2,z3],_=>exact ⟨z0,z1,z2,z3,rfl⟩
section
variable {H:Type} {enc:TypeId × Value->H} {w:World} {base:Nat} {spare:Nat->Bool} {held:Bool}
theorem job_open {fuel:Nat} {cs:List Value} {x:DataW H × List MemPlace} (h:DataW.trod enc Tryz.prog w base spare held fuel 30 cs=some x) :
 ∃ (st:Int) (m:Mc) (jr:ByteArray) (sy:Int) (ra va ma:Option Addr) (rc vc mc:Nat),cs=[.int .i64 st,.slice ra m.row.length rc,.int .i64 m.N,.string m.S,.int .i64 m.room,.slice va m.vals.length vc,.int .i64 m.ret,.bool m.over,.int .i64 m.steps,.int .i64 m.looks,.int .i64 m.hits,.slice ma m.memo.length mc,.string jr,.int .i64 sy]/\Mr w m ra va ma/\m.S.size<=maxLen/\(∀ x∈m.memo,x.k.size<=maxLen)/\jr.size<=maxLen:=by
 obtain ⟨xs,mm,_,rfl,hl,hlen,hf⟩:=DataW.trod_struct Tryz.underlying30 h
 rw [cellsJob] at hl
 obtain ⟨c0,c1,c2,c3,c4,c5,c6,c7,c8,c9,c10,c11,c12,c13,rfl⟩:=fourteen cs hl
 obtain ⟨y0,y1,y2,y3,rfl⟩:=four xs (by simpa using hlen)
 have g0:=hf 0 _ rfl
 have g1:=hf 1 _ rfl
 have g2:=hf 2 _ rfl
 have g3:=hf 3 _ rfl
 simp [Op5.cellsInt,Op5.cellsMachine,cellsString] at g0 g1 g2 g3
 obtain ⟨n0,e0,_,_⟩:=DataW.trod_int Tryz.underlying3 g0
 obtain ⟨m,ra,va,ma,rc,vc,mc,e1,hR,hS,hk⟩:=Op5.machine_open g1
 obtain ⟨s2,e2,_,hs2⟩:=DataW.trod_string Tryz.underlying9 g2
 obtain ⟨n3,e3,_,_⟩:=DataW.trod_int Tryz.underlying3 g3
 simp at e0 e1 e2 e3
 obtain ⟨rfl,rfl,rfl,rfl,rfl,rfl,rfl,rfl,rfl,rfl,rfl⟩:=e1
 subst e0 e2 e3
 exact ⟨n0,m,s2,n3,ra,va,ma,rc,vc,mc,rfl,hR,hS,hk,hs2⟩
end
end Op7
end Go.Proofs.YtladjpombohpaaaGreatDoor
