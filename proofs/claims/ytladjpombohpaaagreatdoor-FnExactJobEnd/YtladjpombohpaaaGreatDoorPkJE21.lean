import Derived.Maps.AppendAt
import Derived.Lib.SliceRun
import Derived.Deep.Upon
import Derived.Test.YtladjpombohpaaaGreatDoorPkJE20
namespace Go.Proofs.YtladjpombohpaaaGreatDoor
set_option maxRecDepth 100000
set_option maxHeartbeats 8000000
set_option linter.unusedVariables false
namespace Qc2
open Go.RowKit
open Nd0 Qc0
theorem infoASn:(Tryz.prog.info? 102).map (fun i=>(i.zero,i.size,i.bytes))=some (some (.agg #[.string ByteArray.empty,.int .i64 0]),2,24):=by kernel_rfl
def flatSn (l:List Sn):List Value:=l.flatMap Sn.cells
theorem cellsSn_length (n:Sn):n.cells.length=2:=rfl
theorem flatSn_get (l:List Sn):∀ (i:Nat) (h:i < l.length) (j:Nat),j < 2->(flatSn l)[i*2+j]? = (l[i].cells)[j]? := by
 induction l with
 | nil=>intro i h;exact absurd h (Nat.not_lt_zero _)
 | cons n l ih =>
   intro i h j hj
   show (n.cells++flatSn l)[i*2+j]? = _
   cases i with
   | zero=>rw [Nat.zero_mul,Nat.zero_add,List.getElem?_append_left (by rw [cellsSn_length];exact hj)];rfl
   | succ i =>
     rw [List.getElem?_append_right (by rw [cellsSn_length];omega),cellsSn_length,show (i+1)*2+j - 2=i*2+j by omega]
     exact ih i (by simpa using h) j hj
theorem flatSn_snoc (l:List Sn) (n:Sn):flatSn (l++[n])=flatSn l++n.cells:=by simp [flatSn]
def OwSn (w:World) (B:Nat) (v:Value) (l:List Sn):Prop:=w.ownsRow B 102 2 v l.length (flatSn l)
theorem OwSn.form {w:World} {B:Nat} {v:Value} {l:List Sn} (h:OwSn w B v l):∃ a c,v=.slice a l.length c/\WSns w B a l/\l.length<=c:=by
 obtain ⟨h1,h2⟩:=h
 rcases h2 with ⟨rfl,h0⟩|⟨g,cap,cur,rfl,hb,hg,hn,hm,hs,ht⟩
 ·have:l=[]:=List.eq_nil_of_length_eq_zero h0
  subst this
  exact ⟨none,0,rfl,⟨Nat.zero_le _,.inl rfl⟩,Nat.zero_le _⟩
 ·have hcell:∀ j,j < l.length*2->w.cell? ⟨g,j,none⟩=(flatSn l)[j]? := by
   intro j hj
   rw [cell_of_row w g j cur _ _ hg,<- ht,List.getElem?_take_of_lt hj]
   simp
  refine ⟨_,_,rfl,⟨by omega,.inr ⟨g,0,rfl,hb,fun i hi=>?_,fun j hj=>?_⟩⟩,by omega⟩
  ·have hf:=flatSn_get l i hi
   rw [Nat.zero_add]
   exact ⟨by rw [hcell _ (by omega)];exact hf 0 (by omega),by rw [hcell _ (by omega)];exact hf 1 (by omega)⟩
  ·rw [Nat.zero_add]
   simp [World.frozen?,hg]
theorem OwSn.lit (w:World) (B:Nat) (hB:B<=w.heap.size):OwSn (w.alloc (.cells #[] 102)) B (.slice (some ⟨w.heap.size,0,none⟩) 0 0) [] :=
 World.ownsRow_lit w #[] 0 hB (Nat.zero_le _) rfl
theorem OwSn.lt {w:World} {B:Nat} {v:Value} {l:List Sn} (h:OwSn w B v l):∀ k,v.ownBlock=some k->B<=k/\k < w.heap.size:=World.ownsRow.lt h
theorem OwSn.kept {w w':World} {B:Nat} {v:Value} {l:List Sn} (h:OwSn w B v l) {S:Nat->Prop} (k:Kept S w w') (hs:∀ i,v.ownBlock=some i->¬ S i):OwSn w' B v l:=by
 refine ⟨h.1,?_⟩
 rcases h.2 with hn|⟨g,cap,cur,rfl,hb,hgg,rest⟩
 ·exact .inl hn
 ·refine .inr ⟨g,cap,cur,rfl,hb,?_,rest⟩
  rw [k.block g (Array.getElem?_eq_some_iff.1 hgg).1 (hs g rfl)]
  exact hgg
/-- One more. -/
theorem appSn {ops:Array Oper} {rest:List Oper} {o:Oper} {a:Act} {Q:Exit->Act->World->Prop} (W:World) (hgd:o.guard=none) (s x:Operand)
 (ho:o.op=.call { callee:=.builtin .append,args := #[s,x],argTypes := #[33,33] })
 (B:Nat) (v:Value) (l:List Sn) (y:Sn) (hs:a.eval s=v) (G:Nat) (hx:a.eval x=.slice (some ⟨G,0,none⟩) 1 1) (hG:G=W.heap.size)
 (hown:OwSn W B v l) (hB:B<=W.heap.size) (hlen:l.length<=1048576)
 (h:∀ g cap w',OwSn w' B (.slice (some ⟨g,0,none⟩) (l.length+1) cap) (l++[y])->Kept (fun k=>v.ownBlock=some k) W w'->(v.ownBlock=some g\/W.heap.size<=g)->wpList Tryz.prog ops Q rest (a.put o.dst (.slice (some ⟨g,0,none⟩) (l.length+1) cap)) w') :
 wpList Tryz.prog ops Q (o :: rest) a (W.alloc (.cells #[.string y.k,.int .i64 y.r] 102)):=by
 subst hG
 obtain ⟨i,hi,hzz⟩:=Option.map_eq_some_iff.1 infoASn
 simp only [Prod.mk.injEq] at hzz
 obtain ⟨hz,hsz,hb⟩:=hzz
 refine wpList_append_lies (W.alloc (.cells #[.string y.k,.int .i64 y.r] 102)) hgd s x 33 ho B 102 i _ 2 24 Tryz.underlying33 hi hz hsz hb rfl (by omega) v l.length (flatSn l) hs (World.ownsRow.alloc hown _)
  ⟨W.heap.size,0,none⟩ 1 1 y.cells hx rfl ?_ ?_ (by omega) (by unfold maxLen;omega) (by omega) (by simp;omega) _ rfl ?_
 ·intro j u hu
  exact World.news_of_block (heap_alloc_new W _) j u hu
 ·intro u hu
  simp [Sn.cells] at hu
  rcases hu with rfl|rfl<;>rfl
 ·intro g cap w' h1 h2 h3 h4
  refine h g cap w' ?_ ?_ ?_
  ·unfold OwSn
   rw [flatSn_snoc,List.length_append]
   exact h1
  ·have k1:Kept (fun k=>v.ownBlock=some k) W (W.alloc (.cells #[.string y.k,.int .i64 y.r] 102)):=(Kept.refl _ W).alloc _
   exact k1.trans ⟨h2.os,h2.tape,h2.output,h2.size,fun k hk hn=>h2.block k hk (fun e=>hn e.symm)⟩
  ·rcases h3 with h3|h3
   ·exact .inl h3
   ·exact .inr (by rw [h3];simp)
end Qc2
namespace Cl0
open Go.RowKit
open Nd0 (Kept Ints lt_of_cell)
open Nd6 (Bools)
open Ap0 Ap1 Qc0 Qc2
theorem add_at (g o j:Nat):(⟨g,o,none⟩:Addr).add j=⟨g,o+j,none⟩:=by unfold Addr.add;split<;>simp_all
theorem iCloneBs (w:World) (a:Option Addr) (l:List Bool) (c:Nat) (h:Bools w a l) (hl:l.length<=1048576) :
 Calls Tryz.prog 138 #[.slice a l.length c] w fun e w'=>∃ v,e=.returned v/\Owb w' w.heap.size v l/\Below w.heap.size w w':=by
 have H:Hid (Bools w a l):=h
 clear h
 cases a with
 | none =>
   have hl0:l.length=0:=by
    rcases H.out.2 with e|⟨b,o,hb,_⟩
    ·exact e
    ·cases hb
   have HE:Hid (l=[]):=List.eq_nil_of_length_eq_zero hl0
   rw [hl0]
   clear hl0
   have heq:=fun w n c=>Go.Lib.run_eql_slice_nil (P:=Tryz.prog) w 22 4 none n c 0 0 Tryz.underlying22
   go_enter Tryz.func138,Tryz.ntmps138
   go_wp2
   go_ret
   exact ⟨_,rfl,by rw [HE.out];exact ⟨rfl,.inl ⟨rfl,rfl⟩⟩,Below.refl _ _⟩
 | some x =>
   obtain ⟨g,o,hx,hc⟩:∃ g o,(l.length=0\/x=⟨g,o,none⟩)/\(∀ j (hj:j < l.length),w.cell? ⟨g,o+j,none⟩=some (.bool l[j])):=by
    rcases H.out.2 with e|⟨b,o,hb,hc⟩
    ·exact ⟨0,0,.inl e,fun j hj=>by omega⟩
    ·cases hb;exact ⟨b,o,.inr rfl,hc⟩
   have HX:Hid (l.length=0\/x=⟨g,o,none⟩):=hx
   have HC:Hid (∀ j (hj:j < l.length),w.cell? ⟨g,o+j,none⟩=some (.bool l[j])):=hc
   have HB0:Hid (Below w.heap.size w (w.alloc (.cells #[] 4))):=(Below.refl _ _).alloc (Nat.le_refl _) _
   clear hx hc
   obtain ⟨i,hi,hzz⟩:=Option.map_eq_some_iff.1 infoBool
   simp only [Prod.mk.injEq] at hzz
   obtain ⟨hz,hsz,hb⟩:=hzz
   have HI:Hid (Tryz.prog.info? 4=some i):=hi
   have HZ:Hid _:=hz
   have HSZ:Hid _:=hsz
   have HBY:Hid _:=hb
   clear hi hz hsz hb
   have HNW:Hid (∀ j u,(l.map fun x=>Value.bool x)[j]? = some u->(w.alloc (.cells #[] 4)).cell? (x.add j)=some u):=by
    rcases HX.out with e|e
    ·intro j u hu
     have:l=[]:=List.eq_nil_of_length_eq_zero e
     subst this
     cases hu
    ·subst e
     have hc:∀ j (hj:j < l.length),(w.alloc (.cells #[] 4)).cell? ⟨g,o+j,none⟩=some (.bool l[j]):=fun j hj=>by rw [HB0.out.cell (lt_of_cell (HC.out j hj))];exact HC.out j hj
     exact (fun j u hu=>by
    have hj:j < l.length:=by have:=(List.getElem?_eq_some_iff.1 hu).1;simpa using this
    rw [add_at,hc j hj,<- hu]
    simp [hj])
   have HON:Hid (∀ u∈(l.map fun x=>Value.bool x),u.oneCell'=true):=(fun u hu=>by
    obtain ⟨n,_,rfl⟩:=List.mem_map.1 hu
    rfl)
   have HLN:Hid ((l.map fun x=>Value.bool x).length=l.length*1):=(by show _=_;simp)
   have heq:=fun w n c=>Go.Lib.run_eql_slice_nil (P:=Tryz.prog) w 22 4 (some x) n c 0 0 Tryz.underlying22
   go_enter Tryz.func138,Tryz.ntmps138
   go_wp2_with (at_builtin;go_must (refine wpList_append_own_at (P:=Tryz.prog) (w.alloc (.cells #[] 4)) rfl _ _ 22 rfl w.heap.size 4 i _ 1 1 Tryz.underlying22 HI.out HZ.out HSZ.out HBY.out rfl (by omega) (.slice (some ⟨w.heap.size,0,none⟩) 0 0) 0 [] rfl (Owb.lit w w.heap.size (Nat.le_refl _)) x l.length c (l.map fun x=>Value.bool x) rfl HLN.out HNW.out HON.out (by unfold maxLen;omega) (by omega) (by simp) ?_;intro v' w' h1 h2 h3 h4;have HO:Hid (Owb w' w.heap.size v' l):=(by rw [Nat.zero_add,List.nil_append] at h1;exact h1);have HB:Hid (Below w.heap.size w w'):=HB0.out.trans ⟨h2.os,h2.tape,h2.output,(by have:=h2.size;have:=HB0.out.size;omega),fun k hk=>h2.block k (Nat.lt_of_lt_of_le hk HB0.out.size) (fun e=>by simp [Value.ownBlock] at e;omega)⟩;clear h1 h2 h3 h4))
   go_ret
   exact ⟨_,rfl,HO.out,HB.out⟩
theorem iCloneIs (w:World) (a:Option Addr) (l:List Int) (c:Nat) (h:Ints w a l) (hl:l.length<=1048576) :
 Calls Tryz.prog 139 #[.slice a l.length c] w fun e w'=>∃ v,e=.returned v/\Ows w' w.heap.size v l/\Below w.heap.size w w':=by
 have H:Hid (Ints w a l):=h
 clear h
 cases a with
 | none =>
   have hl0:l.length=0:=by
    rcases H.out.2 with e|⟨b,o,hb,_⟩
    ·exact e
    ·cases hb
   have HE:Hid (l=[]):=List.eq_nil_of_length_eq_zero hl0
   rw [hl0]
   clear hl0
   have heq:=fun w n c=>Go.Lib.run_eql_slice_nil (P:=Tryz.prog) w 25 3 none n c 0 0 Tryz.underlying25
   go_enter Tryz.func139,Tryz.ntmps139
   go_wp2
   go_ret
   exact ⟨_,rfl,by rw [HE.out];exact ⟨rfl,.inl ⟨rfl,rfl⟩⟩,Below.refl _ _⟩
 | some x =>
   obtain ⟨g,o,hx,hc⟩:∃ g o,(l.length=0\/x=⟨g,o,none⟩)/\(∀ j (hj:j < l.length),w.cell? ⟨g,o+j,none⟩=some (.int .i64 l[j])):=by
    rcases H.out.2 with e|⟨b,o,hb,hc⟩
    ·exact ⟨0,0,.inl e,fun j hj=>by omega⟩
    ·cases hb;exact ⟨b,o,.inr rfl,hc⟩
   have HX:Hid (l.length=0\/x=⟨g,o,none⟩):=hx
   have HC:Hid (∀ j (hj:j < l.length),w.cell? ⟨g,o+j,none⟩=some (.int .i64 l[j])):=hc
   have HB0:Hid (Below w.heap.size w (w.alloc (.cells #[] 3))):=(Below.refl _ _).alloc (Nat.le_refl _) _
   clear hx hc
   obtain ⟨i,hi,hzz⟩:=Option.map_eq_some_iff.1 infoInt
   simp only [Prod.mk.injEq] at hzz
   obtain ⟨hz,hsz,hb⟩:=hzz
   have HI:Hid (Tryz.prog.info? 3=some i):=hi
   have HZ:Hid _:=hz
   have HSZ:Hid _:=hsz
   have HBY:Hid _:=hb
   clear hi hz hsz hb
   have HNW:Hid (∀ j u,(l.map fun x=>Value.int .i64 x)[j]? = some u->(w.alloc (.cells #[] 3)).cell? (x.add j)=some u):=by
    rcases HX.out with e|e
    ·intro j u hu
     have:l=[]:=List.eq_nil_of_length_eq_zero e
     subst this
     cases hu
    ·subst e
     have hc:∀ j (hj:j < l.length),(w.alloc (.cells #[] 3)).cell? ⟨g,o+j,none⟩=some (.int .i64 l[j]):=fun j hj=>by rw [HB0.out.cell (lt_of_cell (HC.out j hj))];exact HC.out j hj
     exact (fun j u hu=>by
    have hj:j < l.length:=by have:=(List.getElem?_eq_some_iff.1 hu).1;simpa using this
    rw [add_at,hc j hj,<- hu]
    simp [hj])
   have HON:Hid (∀ u∈(l.map fun x=>Value.int .i64 x),u.oneCell'=true):=(fun u hu=>by
    obtain ⟨n,_,rfl⟩:=List.mem_map.1 hu
    rfl)
   have HLN:Hid ((l.map fun x=>Value.int .i64 x).length=l.length*1):=(by show _=_;simp)
   have heq:=fun w n c=>Go.Lib.run_eql_slice_nil (P:=Tryz.prog) w 25 3 (some x) n c 0 0 Tryz.underlying25
   go_enter Tryz.func139,Tryz.ntmps139
   go_wp2_with (at_builtin;go_must (refine wpList_append_own_at (P:=Tryz.prog) (w.alloc (.cells #[] 3)) rfl _ _ 25 rfl w.heap.size 3 i _ 1 8 Tryz.underlying25 HI.out HZ.out HSZ.out HBY.out rfl (by omega) (.slice (some ⟨w.heap.size,0,none⟩) 0 0) 0 [] rfl (Ows.lit w w.heap.size (Nat.le_refl _)) x l.length c (l.map fun x=>Value.int .i64 x) rfl HLN.out HNW.out HON.out (by unfold maxLen;omega) (by omega) (by simp) ?_;intro v' w' h1 h2 h3 h4;have HO:Hid (Ows w' w.heap.size v' l):=(by rw [Nat.zero_add,List.nil_append] at h1;exact h1);have HB:Hid (Below w.heap.size w w'):=HB0.out.trans ⟨h2.os,h2.tape,h2.output,(by have:=h2.size;have:=HB0.out.size;omega),fun k hk=>h2.block k (Nat.lt_of_lt_of_le hk HB0.out.size) (fun e=>by simp [Value.ownBlock] at e;omega)⟩;clear h1 h2 h3 h4))
   go_ret
   exact ⟨_,rfl,HO.out,HB.out⟩
theorem flat_len (l:List Sn):(flatSn l).length=l.length*2:=by
 induction l with
 | nil=>rfl
 | cons x l ih=>show (x.cells++flatSn l).length=_;rw [List.length_append,ih,cellsSn_length,List.length_cons];omega
theorem iCloneSs (w:World) (a:Option Addr) (l:List Sn) (c:Nat) (h:Sns w a l) (hl:l.length<=1048576) :
 Calls Tryz.prog 140 #[.slice a l.length c] w fun e w'=>∃ v,e=.returned v/\OwSn w' w.heap.size v l/\Below w.heap.size w w':=by
 have H:Hid (Sns w a l):=h
 clear h
 cases a with
 | none =>
   have hl0:l.length=0:=by
    rcases H.out.2 with e|⟨b,o,hb,_⟩
    ·exact e
    ·cases hb
   have HE:Hid (l=[]):=List.eq_nil_of_length_eq_zero hl0
   rw [hl0]
   clear hl0
   have heq:=fun w n c=>Go.Lib.run_eql_slice_nil (P:=Tryz.prog) w 33 102 none n c 0 0 Tryz.underlying33
   go_enter Tryz.func140,Tryz.ntmps140
   go_wp2
   go_ret
   exact ⟨_,rfl,by rw [HE.out];exact ⟨rfl,.inl ⟨rfl,rfl⟩⟩,Below.refl _ _⟩
 | some x =>
   obtain ⟨g,o,hx,hc⟩:∃ g o,(l.length=0\/x=⟨g,o,none⟩)/\(∀ j (hj:j < l.length),SnAt w g (o+j*2) l[j]):=by
    rcases H.out.2 with e|⟨b,o,hb,hc⟩
    ·exact ⟨0,0,.inl e,fun j hj=>by omega⟩
    ·cases hb;exact ⟨b,o,.inr rfl,hc⟩
   have HX:Hid (l.length=0\/x=⟨g,o,none⟩):=hx
   have HC:Hid (∀ j (hj:j < l.length),SnAt w g (o+j*2) l[j]):=hc
   have HB0:Hid (Below w.heap.size w (w.alloc (.cells #[] 102))):=(Below.refl _ _).alloc (Nat.le_refl _) _
   clear hx hc
   obtain ⟨i,hi,hzz⟩:=Option.map_eq_some_iff.1 infoASn
   simp only [Prod.mk.injEq] at hzz
   obtain ⟨hz,hsz,hb⟩:=hzz
   have HI:Hid (Tryz.prog.info? 102=some i):=hi
   have HZ:Hid _:=hz
   have HSZ:Hid _:=hsz
   have HBY:Hid _:=hb
   clear hi hz hsz hb
   have HNW:Hid (∀ j u,(flatSn l)[j]? = some u->(w.alloc (.cells #[] 102)).cell? (x.add j)=some u):=by
    rcases HX.out with e|e
    ·intro j u hu
     have:l=[]:=List.eq_nil_of_length_eq_zero e
     subst this
     cases hu
    ·subst e
     have hc:∀ j (hj:j < l.length),SnAt (w.alloc (.cells #[] 102)) g (o+j*2) l[j]:=fun j hj=>(HC.out j hj).below HB0.out (HC.out j hj).lt
     exact (fun j u hu=>by
    have hj2:j < (flatSn l).length:=(List.getElem?_eq_some_iff.1 hu).1
    rw [flat_len] at hj2
    have hj:j / 2 < l.length:=by omega
    have hg:=flatSn_get l (j / 2) hj (j % 2) (by omega)
    rw [show j / 2*2+j % 2=j by omega,hu] at hg
    obtain ⟨c0,c1⟩:=hc (j / 2) hj
    rw [add_at,hg]
    rcases (show j % 2=0\/j % 2=1 by omega) with e|e
    ·rw [e,show o+j=o+j / 2*2 by omega,c0];rfl
    ·rw [e,show o+j=o+j / 2*2+1 by omega,c1];rfl)
   have HON:Hid (∀ u∈(flatSn l),u.oneCell'=true):=(fun u hu=>by
    obtain ⟨n,_,hn⟩:=List.mem_flatMap.1 hu
    simp [Sn.cells] at hn
    rcases hn with rfl|rfl<;>rfl)
   have HLN:Hid ((flatSn l).length=l.length*2):=(by show _=_;rw [flat_len])
   have heq:=fun w n c=>Go.Lib.run_eql_slice_nil (P:=Tryz.prog) w 33 102 (some x) n c 0 0 Tryz.underlying33
   go_enter Tryz.func140,Tryz.ntmps140
   go_wp2_with (at_builtin;go_must (refine wpList_append_own_at (P:=Tryz.prog) (w.alloc (.cells #[] 102)) rfl _ _ 33 rfl w.heap.size 102 i _ 2 24 Tryz.underlying33 HI.out HZ.out HSZ.out HBY.out rfl (by omega) (.slice (some ⟨w.heap.size,0,none⟩) 0 0) 0 [] rfl (OwSn.lit w w.heap.size (Nat.le_refl _)) x l.length c (flatSn l) rfl HLN.out HNW.out HON.out (by unfold maxLen;omega) (by omega) (by simp) ?_;intro v' w' h1 h2 h3 h4;have HO:Hid (OwSn w' w.heap.size v' l):=(by rw [Nat.zero_add,List.nil_append] at h1;exact h1);have HB:Hid (Below w.heap.size w w'):=HB0.out.trans ⟨h2.os,h2.tape,h2.output,(by have:=h2.size;have:=HB0.out.size;omega),fun k hk=>h2.block k (Nat.lt_of_lt_of_le hk HB0.out.size) (fun e=>by simp [Value.ownBlock] at e;omega)⟩;clear h1 h2 h3 h4))
   go_ret
   exact ⟨_,rfl,HO.out,HB.out⟩
end Cl0
namespace Mu1
open Go.RowKit
open Nd0 (Kept Ints lt_of_cell)
open Nd6 (Bools)
open Ap0 Ap1 Qc0 Qc2 Cl0
theorem allBs {ops:Array Oper} {rest:List Oper} {o:Oper} {a:Act} {Q:Exit->Act->World->Prop} (W:World) (hgd:o.guard=none) (s x:Operand)
 (ho:o.op=.call { callee:=.builtin .append,args := #[s,x],argTypes := #[22,22] })
 (l:List Bool) (y:Option Addr) (c G:Nat) (hs:a.eval s=.slice (some ⟨G,0,none⟩) 0 0) (hG:G=W.heap.size) (hx:a.eval x=.slice y l.length c) (hP:Bools W y l) (hl:l.length<=1048576)
 (h:∀ v w',Owb w' W.heap.size v l->Below W.heap.size W w'->wpList Tryz.prog ops Q rest (a.put o.dst v) w') :
 wpList Tryz.prog ops Q (o :: rest) a (W.alloc (.cells #[] 4)):=by
 subst hG
 obtain ⟨i,hi,hzz⟩:=Option.map_eq_some_iff.1 infoBool
 simp only [Prod.mk.injEq] at hzz
 obtain ⟨hz,hsz,hb⟩:=hzz
 have hB:Below W.heap.size W (W.alloc (.cells #[] 4)):=(Below.refl _ _).alloc (Nat.le_refl _) _
 cases y with
 | none =>
   have hl0:l.length=0:=by
    rcases hP.2 with e|⟨b,o,hb,_⟩
    ·exact e
    ·cases hb
   have hE:l=[]:=List.eq_nil_of_length_eq_zero hl0
   refine wpList_plain hgd fun K hK=>?_
   have hr:=run_append_nothing (P:=Tryz.prog) (W.alloc (.cells #[] 4)) 22 22 o.type 4 i Tryz.underlying22 hi (some ⟨W.heap.size,0,none⟩) 0 0 (Nat.le_refl _) (.slice none l.length c) (by rw [hl0];exact Src.ofNil _ Tryz.underlying22 c)
   unfold Oper.wp execOp
   simp only [ho,resolve,invoke,builtin,Sem.run_bind,Sem.run_pure,Result.andThen_ok,List.map_toArray,List.map_cons,List.map_nil,hs,hx,hr]
   exact hK _ _ (h _ _ (by rw [hE];exact Owb.lit W W.heap.size (Nat.le_refl _)) hB)
 | some ad =>
   refine wpList_append_own_at (P:=Tryz.prog) (W.alloc (.cells #[] 4)) hgd s x 22 ho W.heap.size 4 i _ 1 1 Tryz.underlying22 hi hz hsz hb rfl (by omega) (.slice (some ⟨W.heap.size,0,none⟩) 0 0) 0 [] hs (Owb.lit W W.heap.size (Nat.le_refl _)) ad l.length c (l.map fun x=>Value.bool x) hx (by simp) ?_ (fun u hu=>by
    obtain ⟨n,_,rfl⟩:=List.mem_map.1 hu
    rfl) (by unfold maxLen;omega) (by omega) (by simp) ?_
   ·rcases hP.2 with e|⟨b,o,hb,hc⟩
    ·intro j u hu
     have:l=[]:=List.eq_nil_of_length_eq_zero e
     subst this
     cases hu
    ·cases hb
     exact (fun j u hu=>by
     have hj:j < l.length:=by have:=(List.getElem?_eq_some_iff.1 hu).1;simpa using this
     rw [add_at,hB.cell (lt_of_cell (hc j hj)),hc j hj,<- hu]
     simp [hj])
   ·intro v' w' h1 h2 h3 h4
    rw [Nat.zero_add,List.nil_append] at h1
    exact h v' w' h1 (hB.trans ⟨h2.os,h2.tape,h2.output,by have:=h2.size;have:=hB.size;omega,fun k hk=>h2.block k (Nat.lt_of_lt_of_le hk hB.size) (fun e=>by simp [Value.ownBlock] at e;omega)⟩)
theorem allIs {ops:Array Oper} {rest:List Oper} {o:Oper} {a:Act} {Q:Exit->Act->World->Prop} (W:World) (hgd:o.guard=none) (s x:Operand)
 (ho:o.op=.call { callee:=.builtin .append,args := #[s,x],argTypes := #[25,25] })
 (l:List Int) (y:Option Addr) (c G:Nat) (hs:a.eval s=.slice (some ⟨G,0,none⟩) 0 0) (hG:G=W.heap.size) (hx:a.eval x=.slice y l.length c) (hP:Ints W y l) (hl:l.length<=1048576)
 (h:∀ v w',Ows w' W.heap.size v l->Below W.heap.size W w'->wpList Tryz.prog ops Q rest (a.put o.dst v) w') :
 wpList Tryz.prog ops Q (o :: rest) a (W.alloc (.cells #[] 3)):=by
 subst hG
 obtain ⟨i,hi,hzz⟩:=Option.map_eq_some_iff.1 infoInt
 simp only [Prod.mk.injEq] at hzz
 obtain ⟨hz,hsz,hb⟩:=hzz
 have hB:Below W.heap.size W (W.alloc (.cells #[] 3)):=(Below.refl _ _).alloc (Nat.le_refl _) _
 cases y with
 | none =>
   have hl0:l.length=0:=by
    rcases hP.2 with e|⟨b,o,hb,_⟩
    ·exact e
    ·cases hb
   have hE:l=[]:=List.eq_nil_of_length_eq_zero hl0
   refine wpList_plain hgd fun K hK=>?_
   have hr:=run_append_nothing (P:=Tryz.prog) (W.alloc (.cells #[] 3)) 25 25 o.type 3 i Tryz.underlying25 hi (some ⟨W.heap.size,0,none⟩) 0 0 (Nat.le_refl _) (.slice none l.length c) (by rw [hl0];exact Src.ofNil _ Tryz.underlying25 c)
   unfold Oper.wp execOp
   simp only [ho,resolve,invoke,builtin,Sem.run_bind,Sem.run_pure,Result.andThen_ok,List.map_toArray,List.map_cons,List.map_nil,hs,hx,hr]
   exact hK _ _ (h _ _ (by rw [hE];exact Ows.lit W W.heap.size (Nat.le_refl _)) hB)
 | some ad =>
   refine wpList_append_own_at (P:=Tryz.prog) (W.alloc (.cells #[] 3)) hgd s x 25 ho W.heap.size 3 i _ 1 8 Tryz.underlying25 hi hz hsz hb rfl (by omega) (.slice (some ⟨W.heap.size,0,none⟩) 0 0) 0 [] hs (Ows.lit W W.heap.size (Nat.le_refl _)) ad l.length c (l.map fun x=>Value.int .i64 x) hx (by simp) ?_ (fun u hu=>by
    obtain ⟨n,_,rfl⟩:=List.mem_map.1 hu
    rfl) (by unfold maxLen;omega) (by omega) (by simp) ?_
   ·rcases hP.2 with e|⟨b,o,hb,hc⟩
    ·intro j u hu
     have:l=[]:=List.eq_nil_of_length_eq_zero e
     subst this
     cases hu
    ·cases hb
     exact (fun j u hu=>by
     have hj:j < l.length:=by have:=(List.getElem?_eq_some_iff.1 hu).1;simpa using this
     rw [add_at,hB.cell (lt_of_cell (hc j hj)),hc j hj,<- hu]
     simp [hj])
   ·intro v' w' h1 h2 h3 h4
    rw [Nat.zero_add,List.nil_append] at h1
    exact h v' w' h1 (hB.trans ⟨h2.os,h2.tape,h2.output,by have:=h2.size;have:=hB.size;omega,fun k hk=>h2.block k (Nat.lt_of_lt_of_le hk hB.size) (fun e=>by simp [Value.ownBlock] at e;omega)⟩)
theorem allSs {ops:Array Oper} {rest:List Oper} {o:Oper} {a:Act} {Q:Exit->Act->World->Prop} (W:World) (hgd:o.guard=none) (s x:Operand)
 (ho:o.op=.call { callee:=.builtin .append,args := #[s,x],argTypes := #[33,33] })
 (l:List Sn) (y:Option Addr) (c G:Nat) (hs:a.eval s=.slice (some ⟨G,0,none⟩) 0 0) (hG:G=W.heap.size) (hx:a.eval x=.slice y l.length c) (hP:Sns W y l) (hl:l.length<=1048576)
 (h:∀ v w',OwSn w' W.heap.size v l->Below W.heap.size W w'->wpList Tryz.prog ops Q rest (a.put o.dst v) w') :
 wpList Tryz.prog ops Q (o :: rest) a (W.alloc (.cells #[] 102)):=by
 subst hG
 obtain ⟨i,hi,hzz⟩:=Option.map_eq_some_iff.1 infoASn
 simp only [Prod.mk.injEq] at hzz
 obtain ⟨hz,hsz,hb⟩:=hzz
 have hB:Below W.heap.size W (W.alloc (.cells #[] 102)):=(Below.refl _ _).alloc (Nat.le_refl _) _
 cases y with
 | none =>
   have hl0:l.length=0:=by
    rcases hP.2 with e|⟨b,o,hb,_⟩
    ·exact e
    ·cases hb
   have hE:l=[]:=List.eq_nil_of_length_eq_zero hl0
   refine wpList_plain hgd fun K hK=>?_
   have hr:=run_append_nothing (P:=Tryz.prog) (W.alloc (.cells #[] 102)) 33 33 o.type 102 i Tryz.underlying33 hi (some ⟨W.heap.size,0,none⟩) 0 0 (Nat.le_refl _) (.slice none l.length c) (by rw [hl0];exact Src.ofNil _ Tryz.underlying33 c)
   unfold Oper.wp execOp
   simp only [ho,resolve,invoke,builtin,Sem.run_bind,Sem.run_pure,Result.andThen_ok,List.map_toArray,List.map_cons,List.map_nil,hs,hx,hr]
   exact hK _ _ (h _ _ (by rw [hE];exact OwSn.lit W W.heap.size (Nat.le_refl _)) hB)
 | some ad =>
   refine wpList_append_own_at (P:=Tryz.prog) (W.alloc (.cells #[] 102)) hgd s x 33 ho W.heap.size 102 i _ 2 24 Tryz.underlying33 hi hz hsz hb rfl (by omega) (.slice (some ⟨W.heap.size,0,none⟩) 0 0) 0 [] hs (OwSn.lit W W.heap.size (Nat.le_refl _)) ad l.length c (flatSn l) hx (by rw [flat_len]) ?_ (fun u hu=>by
    obtain ⟨n,_,hn⟩:=List.mem_flatMap.1 hu
    simp [Sn.cells] at hn
    rcases hn with rfl|rfl<;>rfl) (by unfold maxLen;omega) (by omega) (by simp) ?_
   ·rcases hP.2 with e|⟨b,o,hb,hc⟩
    ·intro j u hu
     have:l=[]:=List.eq_nil_of_length_eq_zero e
     subst this
     cases hu
    ·cases hb
     exact (fun j u hu=>by
     have hj2:j < (flatSn l).length:=(List.getElem?_eq_some_iff.1 hu).1
     rw [flat_len] at hj2
     have hj:j / 2 < l.length:=by omega
     have hg:=flatSn_get l (j / 2) hj (j % 2) (by omega)
     rw [show j / 2*2+j % 2=j by omega,hu] at hg
     obtain ⟨c0,c1⟩:=(hc (j / 2) hj).below hB (hc (j / 2) hj).lt
     rw [add_at,hg]
     rcases (show j % 2=0\/j % 2=1 by omega) with e|e
     ·rw [e,show o+j=o+j / 2*2 by omega,c0];rfl
     ·rw [e,show o+j=o+j / 2*2+1 by omega,c1];rfl)
   ·intro v' w' h1 h2 h3 h4
    rw [Nat.zero_add,List.nil_append] at h1
    exact h v' w' h1 (hB.trans ⟨h2.os,h2.tape,h2.output,by have:=h2.size;have:=hB.size;omega,fun k hk=>h2.block k (Nat.lt_of_lt_of_le hk hB.size) (fun e=>by simp [Value.ownBlock] at e;omega)⟩)
/-- What a memo says of a key: its verdict, or -1. -/
def fnd:List Sn->ByteArray->Int
 | [],_ => -1
 | x :: r,k=>if x.k=k then x.r else fnd r k
theorem fnd_drop {l:List Sn} {j:Nat} (h:j < l.length) (k:ByteArray):fnd (l.drop j) k=if l[j].k=k then l[j].r else fnd (l.drop (j+1)) k:=by
 rw [List.drop_eq_getElem_cons h]
 rfl
theorem sFind (w:World) (a:Option Addr) (l:List Sn) (c:Nat) (k:ByteArray) (h:Sns w a l) :
 Calls Tryz.prog 135 #[.slice a l.length c,.string k] w fun e w'=>e=.returned (.int .i64 (fnd l k))/\w'=w:=by
 have H:Hid (Sns w a l):=h
 have hm:=h.1
 unfold maxLen at hm
 clear h
 go_enter Tryz.func135,Tryz.ntmps135
 go_wp2
 go_loop [5] (fun i=>∃ j:Nat,j<=l.length/\i=.int .i64 j/\fnd l k=fnd (l.drop j) k) (fun i=>l.length - (intOf i).toNat)
 case atStart=>exact ⟨0,Nat.zero_le _,rfl,rfl⟩
 case round =>
  obtain ⟨j,hj,rfl,hf⟩:=hrel
  have HF:Hid (fnd l k=fnd (l.drop j) k):=hf
  clear hf
  by_cases hlt:j < l.length
  ·have hjz:(j:Int) < (l.length:Int):=by omega
   rcases H.out.2 with h0|⟨xb,xo,rfl,hc⟩
   ·omega
   obtain ⟨p0,p1⟩:=hc j hlt
   clear hc
   have HD:=fnd_drop hlt k
   have HD2:Hid (fnd (l.drop j) k=if l[j].k=k then l[j].r else fnd (l.drop (j+1)) k):=HD
   clear HD
   generalize l[j]=x at *
   by_cases hx:x.k=k
   ·have hq:(x.k.toList==k.toList)=true:=Ss1.eqb_true (by rw [hx])
    have HR:Hid (fnd l k=x.r):=by show _=_;rw [HF.out,HD2.out,if_pos hx]
    clear hx
    go_wp2
    go_ret
    exact ⟨congrArg (fun z=>Ending.returned (.int .i64 z)) HR.out.symm,rfl⟩
   ·have hq:(x.k.toList==k.toList)=false:=Ss1.eqb_false fun e=>hx (Ss1.tl_inj e)
    have HR:Hid (fnd l k=fnd (l.drop (j+1)) k):=by show _=_;rw [HF.out,HD2.out,if_neg hx]
    clear hx
    go_wp2
    go_round
    case rel=>exact ⟨j+1,by omega,by go_num,HR.out⟩
    case measure=>simp [intOf];omega
  ·have hjz:¬ (j:Int) < (l.length:Int):=by omega
   have HR:Hid (fnd l k = -1):=by
    show _=_
    rw [HF.out,List.drop_eq_nil_of_le (by omega)]
    rfl
   go_wp2
   go_ret
   exact ⟨congrArg (fun z=>Ending.returned (.int .i64 z)) HR.out.symm,rfl⟩
end Mu1
end Go.Proofs.YtladjpombohpaaaGreatDoor
