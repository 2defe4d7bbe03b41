import Derived.Shelf.Vars
import Derived.LaidEql
import Derived.Deep.RegionWith
import Derived.Test.YtjajkmdoggbicaaGreatDoorRows
import Derived.Deep.AppendLies
import Derived.OwnWalk
import Derived.Deep.RegionHeld
import Derived.Test.YtjajkmdoggbicaaGreatDoorPkST22
import Derived.Test.YtjajkmdoggbicaaGreatDoorTk0
import Derived.Test.YtjajkmdoggbicaaGreatDoorShelf2
import Derived.Test.YtjajkmdoggbicaaGreatDoorPkST4
import Derived.Test.YtjajkmdoggbicaaGreatDoorPkST23
import Derived.Test.YtjajkmdoggbicaaGreatDoorPkST10
namespace Go.Proofs.YtjajkmdoggbicaaGreatDoor
set_option maxRecDepth 100000
set_option maxHeartbeats 8000000
set_option linter.unusedVariables false
namespace Zt0
open Go.RowKit
open Nd0 (lt_of_cell)
open Ss0 (bs bs_size)
open Ss1 (tl tl_bs bs_tl tl_length)
open Tk0 (TabK laid_at tabk_of_laid)
open Zk0
structure TabZ (w:World):Prop where
 pow:TabK w
 err:∃ te pe,w.cell? ⟨2,0,none⟩=some (.iface te pe)
 rng:∃ te pe,w.cell? ⟨3,0,none⟩=some (.iface te pe)
 max:∃ m,w.cell? ⟨1,0,none⟩=some (.int .i64 m)
theorem TabZ.below {w w':World} (h:TabZ w) (k:Below w.heap.size w w'):TabZ w':=by
 obtain ⟨te,pe,hc⟩:=h.err
 obtain ⟨t2,p2,hd⟩:=h.rng
 obtain ⟨m,hm⟩:=h.max
 exact ⟨h.pow.below k,⟨te,pe,by rw [k.cell (p:=⟨_,0,none⟩) (lt_of_cell hc)];exact hc⟩,⟨t2,p2,by rw [k.cell (p:=⟨_,0,none⟩) (lt_of_cell hd)];exact hd⟩,⟨m,by rw [k.cell (p:=⟨_,0,none⟩) (lt_of_cell hm)];exact hm⟩⟩
theorem iface_of_trod {P:Program} {W:World} {fuel:Nat} {t:TypeId} {cs:List Value} {nm:String} {d:DataW Unit} {p:List MemPlace} {ms:Array (String × TypeId)} (hu:P.underlying t=some (.interface ms))
 (h:DataW.trod (fun _=>()) P W 0 (fun _=>true) false fuel t cs=some (.iface nm d,p)):∃ te pe,cs=[.iface te pe]:=by
 cases fuel with
 | zero=>simp [DataW.trod] at h
 | succ f =>
   unfold DataW.trod at h
   rw [hu] at h
   match cs,h with
   | [],h=>simp at h
   | [x],h =>
     cases x with
     | iface te pe=>exact ⟨te,pe,rfl⟩
     | _=>simp at h
   | x :: y :: r,h=>simp at h
theorem gErr:Tryz.prog.globalNamed "strconv.ErrSyntax" = some 2:=by kernel_rfl
theorem gtErr:(Tryz.prog.globals[2]?).map (·.type)=some 63:=by kernel_rfl
theorem gRng:Tryz.prog.globalNamed "strconv.ErrRange" = some 3:=by kernel_rfl
theorem gtRng:(Tryz.prog.globals[3]?).map (·.type)=some 63:=by kernel_rfl
theorem max_of_shaped {w:World} (h:w.ShapedOpen Tryz.prog):∃ m,w.cell? ⟨1,0,none⟩=some (.int .i64 m) :=
 cell_of_shapedOpen_int (t:=3) (zero := #[.int .i64 0]) h (of_decide_eq_true (by kernel_rfl)) (by kernel_rfl) rfl (by kernel_rfl) (by kernel_rfl) Tryz.underlying3
theorem tabz_of_laid {W:World} {laid:List (String × DataW Unit)} (h:laidMet Tryz.prog laid W)
 (h1:("internal/strconv.uint64pow10",Rows.laid_internal_strconv_uint64pow10)∈laid) (h2:("strconv.ErrSyntax",Rows.laid_strconv_ErrSyntax)∈laid) (h3:("strconv.ErrRange",Rows.laid_strconv_ErrRange)∈laid) (h4:W.ShapedOpen Tryz.prog):TabZ W:=by
 refine ⟨tabk_of_laid h h1,?_,?_,max_of_shaped h4⟩
 ·obtain ⟨ps,hL,_⟩:=h
  obtain ⟨g,t,cs,fuel,p,e1,e2,e3,e4⟩:=laid_at hL h2
  obtain rfl:=Option.some.inj (gErr.symm.trans e1)
  obtain rfl:=Option.some.inj (gtErr.symm.trans e2)
  rw [World.var?_cell e1 e3 0]
  obtain ⟨te,pe,hc⟩:=iface_of_trod Tryz.underlying63 e4
  refine ⟨te,pe,?_⟩
  rw [<- Array.getElem?_toList,hc];rfl
 ·obtain ⟨ps,hL,_⟩:=h
  obtain ⟨g,t,cs,fuel,p,e1,e2,e3,e4⟩:=laid_at hL h3
  obtain rfl:=Option.some.inj (gRng.symm.trans e1)
  obtain rfl:=Option.some.inj (gtRng.symm.trans e2)
  rw [World.var?_cell e1 e3 0]
  obtain ⟨te,pe,hc⟩:=iface_of_trod Tryz.underlying63 e4
  refine ⟨te,pe,?_⟩
  rw [<- Array.getElem?_toList,hc];rfl
/-- strings.Cut at one byte. -/
theorem iCut (c:UInt8) (S:ByteArray) (w:World) (hT:TabZ w) (hs:S.size<=1048576) :
 Calls Tryz.prog 44 #[.string S,.string ⟨#[c]⟩] w fun e w'=>(∃ b:Bool,e=.returned (.tuple #[.string (bs (cutF c (tl S))),.string (bs (cutS c (tl S))),.bool b]))/\Below w.heap.size w w':=by
 obtain ⟨m,hm⟩:=hT.max
 refine (Tryz.strings_Cut S ⟨#[c]⟩ m w (by omega) hm).mono ?_
 rintro e w' ⟨rfl,n,rfl⟩
 refine ⟨⟨(Lib.cut (tl S) [c]).2.2,?_⟩,Tc2.below_drewN (Below.refl w.heap.size w) n⟩
 rw [<- cut_one,<- cut_two]
 rfl
/-- strconv.Atoi of any text. -/
theorem iAtoi (S:ByteArray) (w:World) (hT:TabZ w) (hs:S.size<=1048576) :
 Calls Tryz.prog 81 #[.string S] w fun e w'=>(∃ ev,e=.returned (.tuple #[.int .i64 (rnP (tl S)).1,ev])/\((rnP (tl S)).2=true->ev=.nilIface)/\((rnP (tl S)).2=false->∃ N,ev=.iface 182 (.pointer (some ⟨N,0,none⟩))))/\Below w.heap.size w w':=by
 unfold rnP
 cases h:Lib.atoiAll (tl S) with
 | ok v =>
   refine (Tryz.strconv_Atoi_ok S (by omega) v h w).mono ?_
   rintro e w' ⟨rfl,hh⟩
   refine ⟨⟨_,rfl,fun _=>rfl,fun e=>by cases e⟩,?_⟩
   rcases hh with rfl|⟨t,rfl⟩
   ·exact Below.refl _ _
   ·exact Go.Joins.below_bytesWorld _ _ _ _ (Nat.le_refl _)
 | «syntax» =>
   obtain ⟨te,pe,hc⟩:=hT.err
   refine (Tryz.strconv_Atoi_syntax S (by omega) h _ w hc (.inr ⟨te,pe,rfl⟩)).mono ?_
   rintro e w' ⟨N,rfl,_,_,hb⟩
   exact ⟨⟨_,rfl,fun e=>(by cases e),fun _=>⟨N,rfl⟩⟩,hb⟩
 | range =>
   obtain ⟨te,pe,hc⟩:=hT.rng
   refine (Tryz.strconv_Atoi_range S (by omega) h _ w hc (.inr ⟨te,pe,rfl⟩)).mono ?_
   rintro e w' ⟨N,rfl,_,_,hb⟩
   exact ⟨⟨_,rfl,fun e=>(by cases e),fun _=>⟨N,rfl⟩⟩,hb⟩
theorem iReadNumber (S:ByteArray) (w:World) (hT:TabZ w) (hs:S.size<=1048576) :
 Calls Tryz.prog 45 #[.string S] w fun e w'=>e=.returned (.tuple #[.int .i64 (rnP (tl S)).1,.bool (rnP (tl S)).2])/\Below w.heap.size w w':=by
 have HA:Hid _:=iAtoi S w hT hs
 clear hT hs
 generalize hx:(rnP (tl S)).1=x at *
 clear hx
 cases hy:(rnP (tl S)).2
 ·rw [hy] at HA
  clear hy
  go_enter Tryz.func45,Tryz.ntmps45
  go_wp2_with fail
  refine Calls.mono HA.out ?_
  rintro e w1 ⟨⟨ev,rfl,_,hev⟩,hb⟩
  obtain ⟨N,rfl⟩:=hev (by trivial)
  have HB:Hid (Below w.heap.size w w1):=hb
  clear hb hev
  go_wp2_with fail
  go_quiet (fail)
  go_wp2
  go_ret2
  exact ⟨rfl,Tc2.below_drewN HB.out _⟩
 ·rw [hy] at HA
  clear hy
  go_enter Tryz.func45,Tryz.ntmps45
  go_wp2_with fail
  refine Calls.mono HA.out ?_
  rintro e w1 ⟨⟨ev,rfl,hev,_⟩,hb⟩
  obtain rfl:=hev (by trivial)
  have HB:Hid (Below w.heap.size w w1):=hb
  clear hb hev
  go_wp2_with fail
  go_quiet (fail)
  go_wp2
  go_ret2
  exact ⟨rfl,Tc2.below_drewN HB.out _⟩
end Zt0
namespace Ss2
open Go.RowKit
open Nd0 Tx0 Ss0 Ss1
open Ws1 (ret_int)
/-- A slice of the texts ts can be read at address a. -/
def Strs (w:World) (a:Option Addr) (ts:List (List UInt8)):Prop :=
 ts.length<=maxLen/\(ts.length=0\/∃ b o,a=some ⟨b,o,none⟩/\∀ i (h:i < ts.length),w.cell? ⟨b,o+i,none⟩=some (.string (bs ts[i])))
theorem Strs.below {w w':World} {a:Option Addr} {l:List (List UInt8)} (h:Strs w a l) (k:Below w.heap.size w w'):Strs w' a l:=by
 refine ⟨h.1,?_⟩
 rcases h.2 with h0|⟨b,o,rfl,hc⟩
 ·exact .inl h0
 ·exact .inr ⟨b,o,rfl,fun i hi=>by rw [k.cell (lt_of_cell (hc i hi))];exact hc i hi⟩
theorem strs_lit (W:World) (g:Nat) (l:List (List UInt8)) (T:Nat) (hg:g=W.heap.size) (hl:l.length<=maxLen):Strs (W.alloc (.cells (l.map fun x=>.string (bs x)).toArray T)) (some ⟨g,0,none⟩) l:=by
 subst hg
 refine ⟨hl,.inr ⟨W.heap.size,0,rfl,fun i hi=>?_⟩⟩
 rw [World.cell?_alloc_new]
 simp [hi]
theorem find_range {p:Nat->Bool}:∀ n k,k < n->p k=true->(∀ j,j < k->p j=false)->(List.range n).find? p=some k:=by
 intro n
 induction n with
 | zero=>intro k h;omega
 | succ n ih =>
   intro k hk hp hb
   rw [List.range_succ,List.find?_append]
   by_cases e:k < n
   ·rw [ih k e hp hb];rfl
   ·have ek:k=n:=by omega
    subst ek
    have:(List.range k).find? p=none:=by
     rw [List.find?_eq_none]
     intro x hx
     rw [hb x (List.mem_range.1 hx)];simp
    rw [this]
    simp [hp]
/-- An operator and how many parts it takes, or -1 and 0. -/
def opA (s:List UInt8):Int:=match opOf s with
 | some (o,_)=>o
 | none => -1
def opC (s:List UInt8):Int:=match opOf s with
 | some (_,c)=>(c:Int)
 | none=>0
theorem op_found {s:List UInt8} {k:Nat} (hk:k < 14) (hb:∀ j,j < k->wordsL.getD j []≠s) (he:wordsL.getD k []=s):opA s=3+(k:Int)/\opC s=2:=by
 have:opOf s=some (3+(k:Int),2):=by
  unfold opOf
  rw [find_range 14 k hk (decide_eq_true he) (fun j hj=>decide_eq_false (hb j hj))]
 unfold opA opC
 rw [this];exact ⟨rfl,rfl⟩
theorem op_rest {s:List UInt8} (hb:∀ j,j < 14->wordsL.getD j []≠s):opOf s=if s=wNot then some (2,1) else if s=wSlice then some (17,1) else if s=wIf then some (18,3) else if s=wAll then some (19,1) else if s=wSome then some (20,1) else none:=by
 unfold opOf
 have:(List.range 14).find? (fun i=>decide (wordsL.getD i []=s))=none:=by
  rw [List.find?_eq_none]
  intro x hx
  simpa using hb x (List.mem_range.1 hx)
 rw [this]
end Ss2
namespace Ap4
open Go.RowKit
open Nd0 Ss0 Ss2
theorem infoStr:(Tryz.prog.info? 9).map (fun i=>(i.zero,i.size,i.bytes))=some (some (.string ⟨#[]⟩),1,16):=by kernel_rfl
/-- The slice v, in a block from B on, is the texts l and may be appended to. -/
def Ost (w:World) (B:Nat) (v:Value) (l:List (List UInt8)):Prop:=w.ownsRow B 9 1 v l.length (l.map fun x=>.string (bs x))
theorem Ost.form {w:World} {B:Nat} {v:Value} {l:List (List UInt8)} (h:Ost w B v l):∃ a c,v=.slice a l.length c/\Strs w a l:=by
 obtain ⟨h1,h2⟩:=h
 rcases h2 with ⟨rfl,h0⟩|⟨g,cap,cur,rfl,hb,hg,hn,hm,hs,ht⟩
 ·have:l=[]:=List.eq_nil_of_length_eq_zero h0
  subst this
  exact ⟨none,0,rfl,Nat.zero_le _,.inl rfl⟩
 ·refine ⟨_,_,rfl,by omega,.inr ⟨g,0,rfl,fun i hi=>?_⟩⟩
  ·rw [Nat.zero_add,cell_of_row w g i cur _ _ hg]
   have e:(cur.toList.take (l.length*1))[i]? = some (.string (bs l[i])):=by rw [ht];simp [hi]
   rw [List.getElem?_take_of_lt (by omega)] at e
   simpa using e
theorem Ost.lit (w:World) (B:Nat) (hB:B<=w.heap.size):Ost (w.alloc (.cells #[] 9)) B (.slice (some ⟨w.heap.size,0,none⟩) 0 0) [] :=
 World.ownsRow_lit w #[] 0 hB (Nat.zero_le _) rfl
theorem Ost.lt {w:World} {B:Nat} {v:Value} {l:List (List UInt8)} (h:Ost w B v l):∀ k,v.ownBlock=some k->B<=k/\k < w.heap.size:=World.ownsRow.lt h
theorem Ost.kept {w w':World} {B:Nat} {v:Value} {l:List (List UInt8)} (h:Ost w B v l) {S:Nat->Prop} (k:Kept S w w') (hs:∀ i,v.ownBlock=some i->¬ S i):Ost w' B v l:=by
 refine ⟨h.1,?_⟩
 rcases h.2 with hn|⟨g,cap,cur,rfl,hb,hgg,rest⟩
 ·exact .inl hn
 ·refine .inr ⟨g,cap,cur,rfl,hb,?_,rest⟩
  rw [k.block g (Array.getElem?_eq_some_iff.1 hgg).1 (hs g rfl)]
  exact hgg
/-- One text more. -/
theorem app_str {ops:Array Oper} {rest:List Oper} {o:Oper} {a:Act} {Q:Exit->Act->World->Prop} (W:World) (hgd:o.guard=none) (s x:Operand)
 (ho:o.op=.call { callee:=.builtin .append,args := #[s,x],argTypes := #[108,108] })
 (B:Nat) (v:Value) (l:List (List UInt8)) (y:List UInt8) (hs:a.eval s=v) (hx:a.eval x=.slice (some ⟨W.heap.size,0,none⟩) 1 1)
 (hown:Ost W B v l) (hB:B<=W.heap.size) (hlen:l.length<=1048576)
 (h:∀ g cap w',Ost w' B (.slice (some ⟨g,0,none⟩) (l.length+1) cap) (l++[y])->Kept (fun k=>v.ownBlock=some k) W w'->(v.ownBlock=some g\/W.heap.size<=g)->wpList Tryz.prog ops Q rest (a.put o.dst (.slice (some ⟨g,0,none⟩) (l.length+1) cap)) w') :
 wpList Tryz.prog ops Q (o :: rest) a (W.alloc (.cells #[.string (bs y)] 9)):=by
 obtain ⟨i,hi,hzz⟩:=Option.map_eq_some_iff.1 infoStr
 simp only [Prod.mk.injEq] at hzz
 obtain ⟨hz,hsz,hb⟩:=hzz
 refine wpList_append_lies (W.alloc (.cells #[.string (bs y)] 9)) hgd s x 108 ho B 9 i (.string ⟨#[]⟩) 1 16 Tryz.underlying108 hi hz hsz hb rfl (by omega) v l.length (l.map fun x=>.string (bs x)) hs (World.ownsRow.alloc hown _)
  ⟨W.heap.size,0,none⟩ 1 1 [.string (bs y)] hx rfl ?_ ?_ (by omega) (by unfold maxLen;omega) (by omega) (by simp;omega) _ rfl ?_
 ·intro j u hu
  exact World.news_of_block (heap_alloc_new W _) j u hu
 ·intro u hu
  simp at hu
  subst hu
  rfl
 ·intro g cap w' h1 h2 h3 h4
  refine h g cap w' ?_ ?_ ?_
  ·unfold Ost
   simpa using h1
  ·have k1:Kept (fun k=>v.ownBlock=some k) W (W.alloc (.cells #[.string (bs y)] 9)):=(Kept.refl _ W).alloc _
   exact k1.trans ⟨h2.os,h2.tape,h2.output,h2.size,fun k hk hn=>h2.block k hk (fun e=>hn e.symm)⟩
  ·rcases h3 with h3|h3
   ·exact .inl h3
   ·exact .inr (by rw [h3];simp)
end Ap4
namespace Ap5
open Go.RowKit
open Nd0 Ss0 Ss2 Ap4
theorem Ost.one (w:World) (B g:Nat) (x:List UInt8) (hg:g=w.heap.size) (hB:B<=w.heap.size):Ost (w.alloc (.cells #[.string (bs x)] 9)) B (.slice (some ⟨g,0,none⟩) 1 1) [x]:=by
 subst hg
 exact World.ownsRow_lit w #[.string (bs x)] 1 hB (by unfold maxLen;omega) rfl
theorem Ost.below {w w':World} {B:Nat} {v:Value} {l:List (List UInt8)} (h:Ost w B v l) (k:Below w.heap.size w w'):Ost w' B v l:=h.kept (S:=fun _=>False) (Kept.ofBelow k) (fun _ _ e=>e)
/-- What can be appended to has room for what it holds. -/
theorem Ost.cap {w:World} {B:Nat} {a:Option Addr} {n c:Nat} {l:List (List UInt8)} (h:Ost w B (.slice a n c) l):n=l.length/\l.length<=c:=by
 obtain ⟨h1,h2⟩:=h
 rcases h2 with ⟨e,h0⟩|⟨g,cap,cur,e,hb,hg,hn,hm,hs,ht⟩
 ·cases e;exact ⟨h0.symm,by omega⟩
 ·cases e;exact ⟨rfl,hn⟩
theorem Ost.cells {w:World} {B g n c:Nat} {l:List (List UInt8)} (h:Ost w B (.slice (some ⟨g,0,none⟩) n c) l):∀ i (hi:i < l.length),w.cell? ⟨g,i,none⟩=some (.string (bs l[i])):=by
 obtain ⟨a,c',hv,hs⟩:=h.form
 cases hv
 intro i hi
 rcases hs.2 with h0|⟨b,o,he,hc⟩
 ·omega
 ·cases he
  have:=hc i hi
  rwa [Nat.zero_add] at this
/-- Some texts more, at a step of a region that draws its order. -/
theorem step_app_strs {ops:Array Oper} {o:Oper} {a:Act} {K:Act->World->Prop} {Q:Exit->Act->World->Prop} {E:Prop} (W:World) (hgd:o.guard=none) (s x:Operand)
 (ho:o.op=.call { callee:=.builtin .append,args := #[s,x],argTypes := #[108,108] })
 (B:Nat) (v:Value) (l ys:List (List UInt8)) (gx c:Nat) (hs:a.eval s=v) (hx:a.eval x=.slice (some ⟨gx,0,none⟩) ys.length c)
 (hy:∀ i (h:i < ys.length),W.cell? ⟨gx,i,none⟩=some (.string (bs ys[i]))) (hp:0 < ys.length)
 (hown:Ost W B v l) (hB:B<=W.heap.size) (hlen:l.length+ys.length<=1048577)
 (h:∀ g cap w',Ost w' B (.slice (some ⟨g,0,none⟩) (l.length+ys.length) cap) (l++ys)->Kept (fun k=>v.ownBlock=some k) W w'->(v.ownBlock=some g\/W.heap.size<=g)->K (a.put o.dst (.slice (some ⟨g,0,none⟩) (l.length+ys.length) cap)) w') :
 if Region.wanted o (yielded ops a.tmps)=true then Oper.wp Tryz.prog o a W K Q else E:=by
 obtain ⟨i,hi,hzz⟩:=Option.map_eq_some_iff.1 infoStr
 simp only [Prod.mk.injEq] at hzz
 obtain ⟨hz,hsz,hb⟩:=hzz
 refine step_append_lies W hgd s x 108 ho B 9 i _ 1 16 Tryz.underlying108 hi hz hsz hb rfl (by omega) v l.length (l.map fun x=>.string (bs x)) hs hown
  ⟨gx,0,none⟩ ys.length c (ys.map fun x=>.string (bs x)) hx (by simp) (fun j u hu=>?_) ?_ hp (by unfold maxLen;omega) (by omega) hB _ rfl ?_
 ·have hj:j < ys.length:=by have:=(List.getElem?_eq_some_iff.1 hu).1;simpa using this
  have hadd:(⟨gx,0,none⟩:Addr).add j=⟨gx,j,none⟩:=by unfold Addr.add;split<;>simp_all
  rw [hadd,hy j hj,<- hu]
  simp [hj]
 ·intro u hu
  obtain ⟨n,_,rfl⟩:=List.mem_map.1 hu
  rfl
 ·intro g cap w' h1 h2 h3 h4
  refine h g cap w' ?_ ?_ ?_
  ·unfold Ost
   rw [List.map_append,List.length_append]
   exact h1
  ·exact ⟨h2.os,h2.tape,h2.output,h2.size,fun k hk hn=>h2.block k hk (fun e=>hn e.symm)⟩
  ·rcases h3 with h3|h3
   ·exact .inl h3
   ·exact .inr (by rw [h3];exact Nat.le_refl _)
end Ap5
namespace Zs1
open Go.RowKit
open Nd0 (Kept Ints lt_of_cell)
open Tx0 Ap4 Ap5 Zs0
open Ss0 (bs bs_size ret_str)
open Ss1 (tl tl_length tl_take tl_get tl_bs)
open Tc2 (ret_bool sInT sInF)
open Tk0 (TabK)
theorem pl_no {s:List UInt8} {c:UInt8} (hc:c∈s) (h1:isDig c=false) (h2:c≠58):plB s=false:=by
 unfold plB
 refine decide_eq_false ?_
 rintro ⟨_,h⟩
 rcases h c hc with e|e
 ·rw [h1] at e;cases e
 ·exact h2 e
theorem pl_end {s:List UInt8} (h:∀ c∈s,isDig c=true\/c=58):plB s=decide (s≠[]):=by
 unfold plB
 by_cases e:s=[]
 ·subst e;simp
 ·rw [decide_eq_true ⟨e,h⟩,decide_eq_true e]
theorem iDigit (c:UInt8) (w:World):Calls Tryz.prog 98 #[.int .u8 (c.toNat:Int)] w fun e w'=>e=.returned (.bool (isDig c))/\w'=w:=by
 by_cases h1:(48:Int)<=(c.toNat:Int)
 ·by_cases h2:(c.toNat:Int)<=57
  ·have HD:Hid (isDig c=true):=decide_eq_true (by omega)
   go_enter Tryz.func98,Tryz.ntmps98
   go_wp2
   go_ret
   exact ⟨ret_bool HD.out.symm,rfl⟩
  ·have HD:Hid (isDig c=false):=decide_eq_false (by omega)
   go_enter Tryz.func98,Tryz.ntmps98
   go_wp2
   go_ret
   exact ⟨ret_bool HD.out.symm,rfl⟩
 ·have HD:Hid (isDig c=false):=decide_eq_false (by omega)
  go_enter Tryz.func98,Tryz.ntmps98
  go_wp2
  go_ret
  exact ⟨ret_bool HD.out.symm,rfl⟩
theorem iKeyOk (S:ByteArray) (w:World) (hS:S.size<=1048576) :
 Calls Tryz.prog 72 #[.string S] w fun e w'=>e=.returned (.bool (plB (tl S)))/\w'=w:=by
 have HLEN:Hid ((tl S).length=S.size):=tl_length S
 go_enter Tryz.func72,Tryz.ntmps72
 go_wp2
 go_loop [6] (fun i=>∃ k:Nat,k<=S.size/\i=.int .i64 k/\∀ c∈(tl S).take k,isDig c=true\/c=58) (fun i=>S.size - (intOf i).toNat)
 case atStart=>exact ⟨0,Nat.zero_le _,rfl,fun c hc=>by simp at hc⟩
 case round =>
  obtain ⟨k,hk,rfl,hg⟩:=hrel
  have HG:Hid (∀ c∈(tl S).take k,isDig c=true\/c=58):=hg
  clear hg
  by_cases hlt:k < S.size
  ·have hlz:(k:Int) < (S.size:Int):=by omega
   have HX:Hid ((tl S).take (k+1)=(tl S).take k++[S[k]]):=tl_take S k hlt
   have HM:Hid (S[k]∈tl S):=by
    show _∈_
    rw [tl_get S k hlt];exact List.getElem_mem _
   have HDI:Hid (∀ W,Calls Tryz.prog 98 #[.int .u8 (S[k].toNat:Int)] W fun e w'=>e=.returned (.bool (isDig S[k]))/\w'=W):=fun W=>iDigit S[k] W
   cases hd:isDig S[k]
   ·rw [hd] at HDI
    by_cases h8:S[k]=58
    ·have b8:((S[k].toNat:Int) != 58)=false:=by rw [h8];rfl
     have H8:Hid (isDig S[k]=true\/S[k]=58):=.inr h8
     clear h8 hd
     go_wp2_with (go_at_call 98;refine (HDI.out _).mono ?_;rintro e w2 ⟨rfl,hw2⟩;have hw2':=hw2.symm;clear hw2;subst hw2')
     go_round
     case rel=>exact ⟨k+1,by omega,by go_num,fun c hc=>by
      rw [HX.out] at hc
      rcases List.mem_append.1 hc with h|h
      ·exact HG.out c h
      ·rw [List.mem_singleton.1 h];exact H8.out⟩
     case measure=>simp [intOf];omega
    ·have b8:((S[k].toNat:Int) != 58)=true:=bne_iff_ne.2 fun e=>h8 (UInt8.toNat_inj.1 (by have:(58:UInt8).toNat=58:=rfl;omega))
     have HF:Hid (plB (tl S)=false):=pl_no HM.out hd h8
     clear h8 hd
     go_wp2_with (go_at_call 98;refine (HDI.out _).mono ?_;rintro e w2 ⟨rfl,hw2⟩;have hw2':=hw2.symm;clear hw2;subst hw2')
     go_ret
     exact ⟨ret_bool HF.out.symm,rfl⟩
   ·rw [hd] at HDI
    have H8:Hid (isDig S[k]=true\/S[k]=58):=.inl hd
    clear hd
    go_wp2_with (go_at_call 98;refine (HDI.out _).mono ?_;rintro e w2 ⟨rfl,hw2⟩;have hw2':=hw2.symm;clear hw2;subst hw2')
    go_round
    case rel=>exact ⟨k+1,by omega,by go_num,fun c hc=>by
     rw [HX.out] at hc
     rcases List.mem_append.1 hc with h|h
     ·exact HG.out c h
     ·rw [List.mem_singleton.1 h];exact H8.out⟩
    case measure=>simp [intOf];omega
  ·have hlz:¬ (k:Int) < (S.size:Int):=by omega
   have HE:Hid (plB (tl S)=decide (tl S≠[])):=by
    have hg:=HG.out
    rw [List.take_of_length_le (by have:=HLEN.out;omega)] at hg
    exact pl_end hg
   by_cases h0:tl S=[]
   ·have hz:(S.toList==[])=true:=Ss1.eql_true h0
    have HF:Hid (plB (tl S)=false):=by show _=_;rw [HE.out];simp [h0]
    clear h0
    go_wp2
    go_ret
    exact ⟨ret_bool HF.out.symm,rfl⟩
   ·have hz:(S.toList==[])=false:=Ss1.eql_false h0
    have HF:Hid (plB (tl S)=true):=by show _=_;rw [HE.out];simp [h0]
    clear h0
    go_wp2
    go_ret
    exact ⟨ret_bool HF.out.symm,rfl⟩
theorem iItoa (n:Int) (h0 : -1<=n) (h1:n<=1000000000) (w:World) (hT:TabK w) :
 Calls Tryz.prog 82 #[.int .i64 n] w fun e w'=>e=.returned (.string (bs (Lib.itoa n)))/\Below w.heap.size w w':=by
 refine (Tryz.strconv_Itoa n (by omega) (by omega) w hT.pow).mono ?_
 rintro e w' ⟨rfl,k,os,rfl⟩
 exact ⟨rfl,Lib.below_grow _ _ (Nat.le_refl _) k os⟩
theorem iJoin (L:List (List UInt8)) (sp:List UInt8) (g c N B:Nat) (w:World) (hO:Ost w B (.slice (some ⟨g,0,none⟩) N c) L) (hN:N<=1048577) (hl:(Lib.join L sp).length<=140737488355328) :
 Calls Tryz.prog 75 #[.slice (some ⟨g,0,none⟩) N c,.string (bs sp)] w fun e w'=>e=.returned (.string (bs (Lib.join L sp)))/\Below w.heap.size w w':=by
 have hc:=Ost.cap hO
 have hlen:(L.map bs).length=N:=by rw [List.length_map];exact hc.1.symm
 have hmb:(L.map bs).map (·.data.toList)=L:=by
  rw [List.map_map]
  exact (List.map_congr_left (fun x _=>rfl)).trans (List.map_id _)
 have h9:=Tryz.strings_Join g 0 c (L.map bs) (bs sp) w (fun i x hx=>by
  rw [List.getElem?_map] at hx
  obtain ⟨y,hy,rfl⟩:=Option.map_eq_some_iff.1 hx
  have hi:=(List.getElem?_eq_some_iff.1 hy).1
  rw [Nat.zero_add,Ost.cells hO i hi]
  rw [List.getElem?_eq_getElem hi] at hy
  cases hy;rfl) (hO.lt g rfl).2 (by rw [hlen];omega) (by rw [List.length_map];exact hc.2) (by rw [hmb];exact hl)
 rw [hlen,hmb] at h9
 refine h9.mono ?_
 rintro e w' ⟨rfl,hb⟩
 exact ⟨rfl,hb⟩
theorem nums_len:∀ (l:List Int),(∀ n∈l, -1<=n/\n<=1000000000)->(Lib.join (l.map Lib.itoa) [32]).length<=11*l.length:=by
 intro l
 cases l with
 | nil=>intro _;simp [Lib.join_nil]
 | cons x r =>
   intro h
   rw [List.map_cons,Lib.join_cons,List.length_append,List.length_cons]
   have hx:=itoa_len (h x (by simp)).1 (h x (by simp)).2
   have hr:∀ (r:List Int),(∀ n∈r, -1<=n/\n<=1000000000)->(Lib.joinTail [32] (r.map Lib.itoa)).length<=11*r.length:=by
    intro r
    induction r with
    | nil=>intro _;simp [Lib.joinTail]
    | cons y r ih =>
      intro h
      have hy:=itoa_len (h y (by simp)).1 (h y (by simp)).2
      have:=ih (fun n hn=>h n (by simp [hn]))
      simp only [Lib.joinTail,List.map_cons,List.flatten_cons,List.length_append,List.length_cons,List.length_nil] at this ⊢
      omega
   have:=hr r (fun n hn=>h n (by simp [hn]))
   omega
theorem iNumbers (w:World) (a:Option Addr) (l:List Int) (c:Nat) (h:Ints w a l) (hl:l.length<=100) (hb:∀ n∈l, -1<=n/\n<=1000000000) (hT:TabK w) :
 Calls Tryz.prog 132 #[.slice a l.length c] w fun e w'=>e=.returned (.string (bs (Lib.join (l.map Lib.itoa) [32])))/\Below w.heap.size w w':=by
 have H:Hid (Ints w a l):=h
 have HBT:Hid (∀ n∈l, -1<=n/\n<=1000000000):=hb
 have HT:Hid (TabK w):=hT
 clear h hb hT
 obtain ⟨n,hn⟩:∃ n,n=l.length:=⟨_,rfl⟩
 rw [<- hn]
 have hn2:n<=100:=by omega
 have HN:Hid (n=l.length):=hn
 obtain ⟨TK,hTK⟩:∃ TK:Nat->List (List UInt8),TK=fun k=>(l.take k).map Lib.itoa:=⟨_,rfl⟩
 have HTK:Hid (TK=fun k=>(l.take k).map Lib.itoa):=hTK
 have HTL:Hid (∀ k,k<=n->(TK k).length=k):=by intro k hk;rw [hTK];simp;omega
 have HT0:Hid (TK 0=[]):=by show _=_;rw [hTK];rfl
 clear hn hl hTK
 go_enter Tryz.func132,Tryz.ntmps132
 go_wp2
 go_loopw [3,9] (fun v i wr=>∃ k:Nat,k<=n/\i=.int .i64 k/\(∃ g cp,v=.slice (some ⟨g,0,none⟩) k cp)/\Ost wr w.heap.size v (TK k)/\Below w.heap.size w wr) (fun _ i _=>n - (intOf i).toNat)
 case atStart=>exact ⟨0,Nat.zero_le _,rfl,⟨_,_,rfl⟩,by rw [HT0.out];exact Ost.lit _ _ (Nat.le_refl _),(Below.refl _ _).alloc (Nat.le_refl _) _⟩
 case round =>
  obtain ⟨k,hk,rfl,⟨g3,cp3,rfl⟩,ho,hbr⟩:=hrel
  have HO:Hid (Ost wr w.heap.size (.slice (some ⟨g3,0,none⟩) k cp3) (TK k)):=ho
  have HB:Hid (Below w.heap.size w wr):=hbr
  clear ho hbr
  by_cases hlt:k < n
  ·have hlz:(k:Int) < (n:Int):=by omega
   have hkl:k < l.length:=by have:=HN.out;omega
   obtain ⟨b,o,ha,hc⟩:∃ b o,a=some ⟨b,o,none⟩/\wr.cell? ⟨b,o+k,none⟩=some (.int .i64 l[k]):=by
    rcases (H.out.below HB.out).2 with e|⟨b,o,e,hc⟩
    ·omega
    ·exact ⟨b,o,e,hc k hkl⟩
   subst ha
   have hbl:=lt_of_cell hc
   have HBK:Hid (-1<=l[k]/\l[k]<=1000000000):=HBT.out _ (List.getElem_mem hkl)
   have HNX:Hid (TK (k+1)=TK k++[Lib.itoa l[k]]):=by
    show _=_
    rw [HTK.out]
    show (l.take (k+1)).map Lib.itoa=(l.take k).map Lib.itoa++[Lib.itoa l[k]]
    rw [List.take_succ_eq_append_getElem hkl,List.map_append]
    rfl
   have HLK:Hid ((TK k).length=k):=HTL.out k hk
   generalize l[k]=x at *
   have HIT:Hid (∀ W,TabK W->Calls Tryz.prog 82 #[.int .i64 x] W fun e w'=>e=.returned (.string (bs (Lib.itoa x)))/\Below W.heap.size W w'):=fun W h=>iItoa x HBK.out.1 HBK.out.2 W h
   generalize Lib.itoa x=xs at *
   go_wp2_with (first|(go_at_call 82;refine (HIT.out _ (HT.out.below HB.out)).mono ?_;rintro e w4 ⟨rfl,hb4⟩;have HO4:Hid (Ost w4 w.heap.size (.slice (some ⟨g3,0,none⟩) k cp3) (TK k)):=Ost.below HO.out hb4;have HB4:Hid (Below w.heap.size w w4):=HB.out.trans (hb4.mono HB.out.size);clear hb4)|(at_builtin;go_must (refine app_str _ rfl _ _ rfl w.heap.size (.slice (some ⟨g3,0,none⟩) k cp3) (TK k) xs rfl rfl HO4.out HB4.out.size (by rw [HLK.out];omega) ?_;rw [HLK.out];intro g5 cp5 w5 ho5 hk5 hg5;have HO5:Hid (Ost w5 w.heap.size (.slice (some ⟨g5,0,none⟩) (k+1) cp5) (TK k++[xs])):=ho5;have HK5:Hid (Kept (fun i=>(Value.slice (some ⟨g3,0,none⟩) k cp3).ownBlock=some i) w4 w5):=hk5;clear ho5 hk5 hg5)))
   go_roundw
   case rel=>exact ⟨k+1,by omega,by go_num,⟨_,_,rfl⟩,by rw [HNX.out];exact HO5.out,HB4.out.trans (HK5.out.below (fun i hi=>(HO4.out.lt i hi).1) HB4.out.size)⟩
   case measure=>simp [intOf];omega
  ·have hlz:¬ (k:Int) < (n:Int):=by omega
   have e:k=n:=by omega
   have HJ:Hid (Calls Tryz.prog 75 #[.slice (some ⟨g3,0,none⟩) k cp3,.string ⟨#[32]⟩] wr fun e w'=>e=.returned (.string (bs (Lib.join (l.map Lib.itoa) [32])))/\Below wr.heap.size wr w'):=by
    have hT:TK k=l.map Lib.itoa:=by
     rw [HTK.out]
     show (l.take k).map Lib.itoa=_
     rw [List.take_of_length_le (by have:=HN.out;omega)]
    have hh:=HO.out
    rw [hT] at hh
    exact iJoin (l.map Lib.itoa) [32] g3 cp3 k _ wr hh (by omega) (by have:=nums_len l HBT.out;have:=HN.out;omega)
   clear e
   obtain ⟨R,hR⟩:∃ R,R=bs (Lib.join (l.map Lib.itoa) [32]):=⟨_,rfl⟩
   have HRR:Hid (R=bs (Lib.join (l.map Lib.itoa) [32])):=hR
   rw [<- hR] at HJ
   clear hR
   go_wp2_with fail
   refine Calls.mono HJ.out ?_
   rintro e w6 ⟨rfl,hb6⟩
   have HB6:Hid (Below w.heap.size w w6):=HB.out.trans (hb6.mono HB.out.size)
   clear hb6
   go_wp2
   go_ret
   exact ⟨ret_str HRR.out,HB6.out⟩
end Zs1
end Go.Proofs.YtjajkmdoggbicaaGreatDoor
