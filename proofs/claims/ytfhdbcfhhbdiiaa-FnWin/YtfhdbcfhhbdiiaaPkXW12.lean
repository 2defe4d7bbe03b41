import Derived.ProofKit
import Derived.Deep.Slices
import Derived.ChangeSlices
import Derived.Test.YtfhdbcfhhbdiiaaPkXW11
namespace Go.Proofs.Ytfhdbcfhhbdiiaa
set_option maxRecDepth 100000
set_option maxHeartbeats 8000000
set_option linter.unusedVariables false
namespace Op2
open Go.RowKit Go.ChangeShapes Go.WideShapes
open Nd0
theorem cellsInt:Try.prog.cellsOf 3=1:=by kernel_rfl
theorem cellsStr:Try.prog.cellsOf 9=1:=by kernel_rfl
theorem cellsTable:Try.prog.cellsOf 40=2:=by kernel_rfl
theorem pair {α:Type} (l:List α) (h:l.length=2):∃ a b,l=[a,b]:=by
 match l,h with
 | [a,b],_=>exact ⟨a,b,rfl⟩
theorem table_open {H:Type} {enc:TypeId × Value->H} {w:World} {base:Nat} {spare:Nat->Bool} {held:Bool} {fuel:Nat} {cs:List Value} {x:DataW H × List MemPlace} (h:DataW.trod enc Try.prog w base spare held fuel 40 cs=some x) :
 ∃ (N:Int) (S:ByteArray),cs=[.int .i64 N,.string S]/\S.size<=maxLen:=by
 obtain ⟨xs,m,_,rfl,hl,hlen,hf⟩:=DataW.trod_struct Try.underlying40 h
 rw [cellsTable] at hl
 obtain ⟨c0,c1,rfl⟩:=pair cs hl
 obtain ⟨y0,y1,rfl⟩:=pair xs (by simpa using hlen)
 have g0:=hf 0 _ rfl
 have g1:=hf 1 _ rfl
 simp [cellsInt,cellsStr] at g0 g1
 obtain ⟨n0,e0,_,_⟩:=DataW.trod_int Try.underlying3 g0
 obtain ⟨S,e1,_,hS⟩:=DataW.trod_string Try.underlying9 g1
 simp at e0 e1
 subst e0 e1
 exact ⟨n0,S,rfl,hS⟩
theorem ints_open {H:Type} {enc:TypeId × Value->H} {w:World} {base:Nat} {spare:Nat->Bool} {held:Bool} {fuel:Nat} {a:Option Addr} {len cap:Nat} {x:DataW H × List MemPlace} (h:DataW.trod enc Try.prog w base spare held fuel 35 [.slice a len cap]=some x) :
 len<=maxLen/\∃ l:List Int,l.length=len/\Ints w a l:=by
 rcases open_ints Try.underlying35 Try.underlying3 cellsInt h with ⟨hcs,_⟩|⟨b,len',cap',zs,hcs,_,hl,hm,hz,_,hc,hw⟩
 ·simp at hcs
  obtain ⟨rfl,rfl,rfl⟩:=hcs
  exact ⟨Nat.zero_le _,[],rfl,Nat.zero_le _,.inl rfl⟩
 ·simp at hcs
  obtain ⟨rfl,rfl,rfl⟩:=hcs
  have hlz:len<=zs.length:=by rw [hz];split<;>omega
  refine ⟨by omega,zs.take len,by simp;omega,by simp;omega,?_⟩
  by_cases h0:len=0
  ·exact .inl (by simp [h0])
  ·obtain ⟨xb,xo,spot⟩:=b
   have hs:spot=none:=by
    have:=hc 0 (by omega)
    simp [Addr.add] at this
    simpa using World.cell?_spot this
   subst hs
   refine .inr ⟨xb,xo,rfl,fun i hi=>?_⟩
   have hi':i < zs.length:=by simp at hi;omega
   have hg:=hc i hi'
   simp only [Addr.add_lit] at hg
   rw [hg]
   simp [List.getD,hi']
end Op2
namespace Op6
open Go.RowKit Go.ChangeShapes Go.WideShapes
open Nd0
/-- A pick as plain data. -/
structure Pk where
 l:List Int
 v:Int
/-- It can be read at place p of block b. -/
def PkAt (w:World) (b p:Nat) (k:Pk):Prop:=∃ a c,w.cell? ⟨b,p,none⟩=some (.slice a k.l.length c)/\w.cell? ⟨b,p+1,none⟩=some (.int .i64 k.v)/\Ints w a k.l
/-- A slice of picks can be read at address a. -/
def Pks (w:World) (a:Option Addr) (ps:List Pk):Prop :=
 ps.length<=maxLen/\(ps.length=0\/∃ b o,a=some ⟨b,o,none⟩/\∀ i (h:i < ps.length),PkAt w b (o+i*2) ps[i])
theorem cellsInt:Try.prog.cellsOf 3=1:=by kernel_rfl
theorem cellsSl:Try.prog.cellsOf 35=1:=by kernel_rfl
theorem exactly {α:Type} (l:List α) (h:l.length=2):∃ z0 z1,l=[z0,z1]:=by
 match l,h with
 | [z0,z1],_=>exact ⟨z0,z1,rfl⟩
section
variable {H:Type} {enc:TypeId × Value->H} {w:World} {base:Nat} {spare:Nat->Bool} {held:Bool}
theorem cellsPk {a:Addr} {cs:List Value} (h:w.cells? base a 2=some cs):cs.length=2/\∀ i,i < 2->w.cell? (a.add i)=cs[i]? := by
 unfold World.cells? at h
 split at h
 ·have hl:cs.length=2:=by simpa using mapM_some_length h
  refine ⟨hl,fun i hi=>?_⟩
  have:=mapM_some_get h i i (by simp [hi])
  exact this
 ·cases h
end
end Op6
namespace Wp7
open Go.RowKit
open Nd0 (Kept Ints WInts IntsIn lt_of_cell set_same set_other)
open Op6 (Pk PkAt Pks)
open Wp0
theorem pkat_kept {w w':World} {b p:Nat} {k:Pk} (h:PkAt w b p k) {S:Nat->Prop} (kk:Kept S w w') (hb:¬ S b) (hv:∀ a c,w.cell? ⟨b,p,none⟩=some (.slice a k.l.length c)->Ints w a k.l->Ints w' a k.l):PkAt w' b p k:=by
 obtain ⟨a,c,h1,h2,h3⟩:=h
 have hlt:=lt_of_cell h1
 exact ⟨a,c,by rw [kk.cell (p:=⟨b,p,none⟩) hlt hb];exact h1,by rw [kk.cell (p:=⟨b,p+1,none⟩) hlt hb];exact h2,hv a c h1 h3⟩
theorem pkat_below {w w':World} {b p:Nat} {k:Pk} (h:PkAt w b p k) (kk:Below w.heap.size w w'):PkAt w' b p k:=pkat_kept h (S:=fun _=>False) (Kept.ofBelow kk) (fun h=>h) (fun _ _ _ h=>h.below kk)
theorem pks_below {w w':World} {a:Option Addr} {ps:List Pk} (h:Pks w a ps) (kk:Below w.heap.size w w'):Pks w' a ps:=by
 refine ⟨h.1,?_⟩
 rcases h.2 with e|⟨b,o,e,hc⟩
 ·exact .inl e
 ·exact .inr ⟨b,o,e,fun i hi=>pkat_below (hc i hi) kk⟩
theorem eqPickS (w:World) (a a':Option Addr) (ps:List Pk) (c c':Nat) (h:Pks w a ps) (h':Pks w a' ps) :
 Calls Try.prog 18 #[.slice a ps.length c,.slice a' ps.length c'] w fun e w'=>e=.returned (.bool true)/\Below w.heap.size w w':=by
 have H:Hid (Pks w a ps):=h
 have H':Hid (Pks w a' ps):=h'
 have hm:=h.1
 unfold maxLen at hm
 clear h h'
 go_enter Try.func18,Try.ntmps18
 go_wp2
 go_loopw [5] (fun i wr=>∃ k:Nat,k<=ps.length/\i=.int .i64 k/\Below w.heap.size w wr) (fun i _=>ps.length - (intOf i).toNat)
 case atStart=>exact ⟨0,Nat.zero_le _,rfl,Below.refl _ _⟩
 case round =>
  obtain ⟨k,hk,rfl,hb⟩:=hrel
  have HB:Hid (Below w.heap.size w wr):=hb
  clear hb
  by_cases hlt:k < ps.length
  ·have hlz:(k:Int) < (ps.length:Int):=by omega
   obtain ⟨b,o,ha,hc⟩:∃ b o,a=some ⟨b,o,none⟩/\PkAt wr b (o+k*2) ps[k]:=by
    rcases (pks_below H.out HB.out).2 with e|⟨b,o,e,hc⟩
    ·omega
    ·exact ⟨b,o,e,hc k hlt⟩
   obtain ⟨b',o',ha',hc'⟩:∃ b o,a'=some ⟨b,o,none⟩/\PkAt wr b (o+k*2) ps[k]:=by
    rcases (pks_below H'.out HB.out).2 with e|⟨b,o,e,hc⟩
    ·omega
    ·exact ⟨b,o,e,hc k hlt⟩
   subst ha ha'
   obtain ⟨a5,c5,p0,p1,p2⟩:=hc
   obtain ⟨a6,c6,q0,q1,q2⟩:=hc'
   have hbl:=lt_of_cell p0
   have hbl':=lt_of_cell q0
   have P2:Hid (Ints wr a5 ps[k].l):=p2
   have Q2:Hid (Ints wr a6 ps[k].l):=q2
   clear p2 q2
   generalize ps[k].l=l5 at *
   generalize ps[k].v=v5 at *
   go_wp2
   go_region_with (go_at_call 47;(with_reducible refine (eqPick _ a5 a6 l5 c5 c6 v5 (P2.out.below (Below.refl _ _).drew) (Q2.out.below (Below.refl _ _).drew)).mono ?_);rintro e w1 ⟨rfl,hbe⟩)
   all_goals
    have HB2:Hid (Below w.heap.size w w1):=HB.out.drew.trans (hbe.mono (by have:=HB.out.size;simpa using this))
    clear hbe
    go_wp2
    go_roundw
    case rel=>exact ⟨k+1,by omega,by go_num,HB2.out⟩
    case measure=>simp [intOf];omega
  ·go_wp2
   go_ret
   exact ⟨rfl,HB.out⟩
end Wp7
namespace Ap0
open Go.RowKit
open Nd0
theorem infoInt:(Try.prog.info? 3).map (fun i=>(i.zero,i.size,i.bytes))=some (some (.int .i64 0),1,8):=by kernel_rfl
/-- The slice v, in a block from B on, is the numbers l and may be appended to. -/
def Ows (w:World) (B:Nat) (v:Value) (l:List Int):Prop:=w.ownsRow B 3 1 v l.length (l.map fun x=>.int .i64 x)
theorem Ows.form {w:World} {B:Nat} {v:Value} {l:List Int} (h:Ows w B v l):∃ a c,v=.slice a l.length c/\WInts w B a l:=by
 obtain ⟨h1,h2⟩:=h
 rcases h2 with ⟨rfl,h0⟩|⟨g,cap,cur,rfl,hb,hg,hn,hm,hs,ht⟩
 ·have:l=[]:=List.eq_nil_of_length_eq_zero h0
  subst this
  exact ⟨none,0,rfl,Nat.zero_le _,.inl rfl⟩
 ·refine ⟨_,_,rfl,by omega,.inr ⟨g,0,rfl,hb,fun i hi=>⟨?_,?_⟩⟩⟩
  ·rw [Nat.zero_add,cell_of_row w g i cur _ _ hg]
   have e:(cur.toList.take (l.length*1))[i]? = some (.int .i64 l[i]):=by rw [ht];simp [hi]
   rw [List.getElem?_take_of_lt (by omega)] at e
   simpa using e
  ·rw [Nat.zero_add]
   simp [World.frozen?,hg]
theorem Ows.lit (w:World) (B:Nat) (hB:B<=w.heap.size):Ows (w.alloc (.cells #[] 3)) B (.slice (some ⟨w.heap.size,0,none⟩) 0 0) [] :=
 World.ownsRow_lit w #[] 0 hB (Nat.zero_le _) rfl
theorem Ows.lt {w:World} {B:Nat} {v:Value} {l:List Int} (h:Ows w B v l):∀ k,v.ownBlock=some k->B<=k/\k < w.heap.size:=World.ownsRow.lt h
theorem Ows.kept {w w':World} {B:Nat} {v:Value} {l:List Int} (h:Ows w B v l) {S:Nat->Prop} (k:Kept S w w') (hs:∀ i,v.ownBlock=some i->¬ S i):Ows w' B v l:=by
 refine ⟨h.1,?_⟩
 rcases h.2 with hn|⟨g,cap,cur,rfl,hb,hgg,rest⟩
 ·exact .inl hn
 ·refine .inr ⟨g,cap,cur,rfl,hb,?_,rest⟩
  rw [k.block g (Array.getElem?_eq_some_iff.1 hgg).1 (hs g rfl)]
  exact hgg
/-- One number more. -/
theorem app_int {ops:Array Oper} {rest:List Oper} {o:Oper} {a:Act} {Q:Exit->Act->World->Prop} (W:World) (hgd:o.guard=none) (s x:Operand)
 (ho:o.op=.call { callee:=.builtin .append,args := #[s,x],argTypes := #[35,35] })
 (B:Nat) (v:Value) (l:List Int) (y:Int) (hs:a.eval s=v) (hx:a.eval x=.slice (some ⟨W.heap.size,0,none⟩) 1 1)
 (hown:Ows W B v l) (hB:B<=W.heap.size) (hlen:l.length<=1048576)
 (h:∀ g cap w',Ows w' B (.slice (some ⟨g,0,none⟩) (l.length+1) cap) (l++[y])->Kept (fun k=>v.ownBlock=some k) W w'->(v.ownBlock=some g\/W.heap.size<=g)->wpList Try.prog ops Q rest (a.put o.dst (.slice (some ⟨g,0,none⟩) (l.length+1) cap)) w') :
 wpList Try.prog ops Q (o :: rest) a (W.alloc (.cells #[.int .i64 y] 3)):=by
 obtain ⟨i,hi,hzz⟩:=Option.map_eq_some_iff.1 infoInt
 simp only [Prod.mk.injEq] at hzz
 obtain ⟨hz,hsz,hb⟩:=hzz
 refine wpList_append_lies (W.alloc (.cells #[.int .i64 y] 3)) hgd s x 35 ho B 3 i (.int .i64 0) 1 8 Try.underlying35 hi hz hsz hb rfl (by omega) v l.length (l.map fun x=>.int .i64 x) hs (World.ownsRow.alloc hown _)
  ⟨W.heap.size,0,none⟩ 1 1 [.int .i64 y] hx rfl ?_ ?_ (by omega) (by unfold maxLen;omega) (by omega) (by simp;omega) _ rfl ?_
 ·intro j u hu
  exact World.news_of_block (heap_alloc_new W _) j u hu
 ·intro u hu
  simp at hu
  subst hu
  rfl
 ·intro g cap w' h1 h2 h3 h4
  refine h g cap w' ?_ ?_ ?_
  ·unfold Ows
   simpa using h1
  ·have k1:Kept (fun k=>v.ownBlock=some k) W (W.alloc (.cells #[.int .i64 y] 3)):=(Kept.refl _ W).alloc _
   exact k1.trans ⟨h2.os,h2.tape,h2.output,h2.size,fun k hk hn=>h2.block k hk (fun e=>hn e.symm)⟩
  ·rcases h3 with h3|h3
   ·exact .inl h3
   ·exact .inr (by rw [h3];simp)
end Ap0
end Go.Proofs.Ytfhdbcfhhbdiiaa
