import Derived.Deep.Upon
import Derived.Test.YtjajkmdoggbicaaGreatDoorPkSV2
import Derived.Test.YtjajkmdoggbicaaGreatDoorPkSV4
import Derived.Test.YtjajkmdoggbicaaGreatDoorPkSV0
import Derived.Test.YtjajkmdoggbicaaGreatDoorPkSV1
namespace Go.Proofs.YtjajkmdoggbicaaGreatDoor
set_option maxRecDepth 100000
set_option maxHeartbeats 8000000
set_option linter.unusedVariables false
namespace Ta2
open Go.RowKit
open Ta0 Ta1
open Ss0 (bs bs_size ret_str bs_ext)
theorem half_cut (n b:Nat) (F:Nat->Bool) (hb:b<=1):((tab (n+1) F).take (b*2 ^ n+2 ^ n)).drop (b*2 ^ n)=tab n fun p=>F (b*2 ^ n+p):=by
 have hp:2 ^ (n+1)=2*2 ^ n:=by rw [Nat.pow_succ];omega
 have hle:b*2 ^ n+2 ^ n<=2 ^ (n+1):=by rcases (by omega:b=0\/b=1) with rfl|rfl<;>omega
 refine list_tab ?_ fun i hi=>?_
 ·rw [List.length_drop,List.length_take,tab_length];omega
 ·rw [List.getElem_drop,List.getElem_take,tab_get]
theorem half_text (n b:Nat) (F:Nat->Bool) (hb:b<=1):(bs (tab (n+1) F)).extract (b*2 ^ n) (b*2 ^ n+2 ^ n)=bs (tab n fun p=>F (b*2 ^ n+p)):=by
 rw [bs_ext,half_cut n b F hb]
theorem xor_add {i s:Nat} (h:i / 2 ^ s % 2=0):i ^^^ 2 ^ s=i+2 ^ s:=by
 obtain ⟨q,r,hi,hr⟩:∃ q r,i=2 ^ (s+1)*q+r/\r < 2 ^ s:=by
  refine ⟨i / 2 ^ s / 2,i % 2 ^ s,?_,Nat.mod_lt _ (Nat.two_pow_pos _)⟩
  have h1:=Nat.div_add_mod i (2 ^ s)
  have h2:2 ^ (s+1)*(i / 2 ^ s / 2)=2 ^ s*(i / 2 ^ s):=by
   rw [Nat.pow_succ,Nat.mul_assoc];congr 1;omega
  omega
 have hp:2 ^ (s+1)=2*2 ^ s:=by rw [Nat.pow_succ];omega
 have hr1:r < 2 ^ (s+1):=by omega
 have hr2:2 ^ s+r < 2 ^ (s+1):=by omega
 refine Nat.eq_of_testBit_eq fun j=>?_
 rw [Nat.testBit_xor,Nat.testBit_two_pow,hi,Nat.add_assoc,Nat.add_comm r,Nat.testBit_two_pow_mul_add q hr1,Nat.testBit_two_pow_mul_add q hr2]
 by_cases hj:j < s+1
 ·rw [if_pos hj,if_pos hj]
  by_cases e:s=j
  ·subst e
   rw [Nat.testBit_two_pow_add_eq];simp
  ·rw [Nat.testBit_two_pow_add_gt (by omega)];simp [e]
 ·rw [if_neg hj,if_neg hj]
  have:¬ s=j:=by omega
  simp [this]
theorem xor_sub {i s:Nat} (h:i / 2 ^ s % 2=1):2 ^ s<=i/\(i - 2 ^ s) / 2 ^ s % 2=0/\i ^^^ 2 ^ s=i - 2 ^ s:=by
 have hp:=Nat.two_pow_pos s
 have h1:2 ^ s<=i:=by
  rcases Nat.lt_or_ge i (2 ^ s) with h2|h2
  ·rw [Nat.div_eq_of_lt h2] at h;omega
  ·exact h2
 have h2:(i - 2 ^ s) / 2 ^ s=i / 2 ^ s - 1:=by
  have:i=(i - 2 ^ s)+2 ^ s:=by omega
  have h3:=Nat.add_div_right (i - 2 ^ s) hp
  rw [<- this] at h3
  rw [h3];simp
 have h3:(i - 2 ^ s) / 2 ^ s % 2=0:=by rw [h2];omega
 refine ⟨h1,h3,?_⟩
 have h4:=xor_add h3
 rw [show i - 2 ^ s+2 ^ s=i by omega] at h4
 rw [<- h4,Nat.xor_assoc,Nat.xor_self,Nat.xor_zero,h4]
/-- Does the table need its bit b? -/
def ndB (n:Nat) (F:Nat->Bool) (b:Nat):Bool:=(List.range (2 ^ n)).any fun p=>F p != F (p ^^^ 2 ^ (n - 1 - b))
theorem nd_yes {n b i:Nat} {F:Nat->Bool} (hi:i < 2 ^ n) (h0:i / 2 ^ (n - 1 - b) % 2=0) (h:F i≠F (i+2 ^ (n - 1 - b))):ndB n F b=true:=by
 unfold ndB
 rw [List.any_eq_true]
 refine ⟨i,List.mem_range.2 hi,?_⟩
 rw [xor_add h0]
 simpa using h
theorem nd_no {n b:Nat} {F:Nat->Bool} (hb:b < n) (h:∀ i,i < 2 ^ n->i / 2 ^ (n - 1 - b) % 2=0->F i=F (i+2 ^ (n - 1 - b))):ndB n F b=false:=by
 unfold ndB
 rw [List.any_eq_false]
 intro p hp
 have hp:=List.mem_range.1 hp
 rcases Nat.mod_two_eq_zero_or_one (p / 2 ^ (n - 1 - b)) with h0|h1
 ·rw [xor_add h0,<- h p hp h0];simp
 ·obtain ⟨h2,h3,h4⟩:=xor_sub h1
  rw [h4,h (p - 2 ^ (n - 1 - b)) (Nat.lt_of_le_of_lt (Nat.sub_le _ _) hp) h3,show p - 2 ^ (n - 1 - b)+2 ^ (n - 1 - b)=p by omega];simp
theorem nd_in {n b i:Nat} (hb:b < n) (hi:i < 2 ^ n) (h0:i / 2 ^ (n - 1 - b) % 2=0):i+2 ^ (n - 1 - b) < 2 ^ n:=by
 rw [<- xor_add h0]
 exact Nat.xor_lt_two_pow hi (Nat.pow_lt_pow_right (by omega) (by omega))
/-- The bits that it needs, of the first k. -/
def ndTo (n:Nat) (F:Nat->Bool) (k:Nat):List Int:=((List.range k).filter (ndB n F)).map fun (b:Nat)=>(b:Int)
theorem ndTo_yes {n k:Nat} {F:Nat->Bool} (h:ndB n F k=true):ndTo n F (k+1)=ndTo n F k++[(k:Int)]:=by
 unfold ndTo;rw [List.range_succ,List.filter_append];simp [h]
theorem ndTo_no {n k:Nat} {F:Nat->Bool} (h:ndB n F k=false):ndTo n F (k+1)=ndTo n F k:=by
 unfold ndTo;rw [List.range_succ,List.filter_append];simp [h]
theorem ndTo_le (n k:Nat) (F:Nat->Bool):(ndTo n F k).length<=k:=by
 unfold ndTo;rw [List.length_map];exact Nat.le_trans (List.length_filter_le _ _) (by simp)
/-- Values of bits. -/
def bitB (x:Int):Bool:=decide (x=0\/x=1)
/-- The place that the first k of them name. -/
def plc (l:List Int):Nat->Nat
 | 0=>0
 | k+1=>2*plc l k+(l.getD k 0).toNat
theorem plc_lt {l:List Int} {k:Nat} (h:∀ i,i < k->bitB (l.getD i 0)=true):plc l k < 2 ^ k:=by
 induction k with
 | zero=>exact Nat.one_pos
 | succ k ih =>
   have h1:=ih fun i hi=>h i (by omega)
   have h2:=of_decide_eq_true (h k (by omega))
   show 2*plc l k+_ < _
   rw [Nat.pow_succ]
   rcases h2 with h2|h2<;>rw [h2]<;>simp<;>omega
/-- What TableAt tells. -/
def atB (n:Nat) (F:Nat->Bool) (l:List Int):Int:=if l.length=n/\∀ i,i < l.length->bitB (l.getD i 0)=true then ((F (plc l l.length)).toNat:Int) else -1
theorem at_len {n:Nat} {F:Nat->Bool} {l:List Int} (h:l.length≠n):atB n F l = -1:=by unfold atB;rw [if_neg fun k=>h k.1]
theorem at_bad {n:Nat} {F:Nat->Bool} {l:List Int} {i:Nat} (hi:i < l.length) (h:bitB (l.getD i 0)=false):atB n F l = -1:=by
 unfold atB;rw [if_neg fun k=>by have:=k.2 i hi;rw [h] at this;cases this]
theorem at_good {n:Nat} {F:Nat->Bool} {l:List Int} (h:l.length=n) (h2:∀ i,i < l.length->bitB (l.getD i 0)=true):atB n F l=((F (plc l l.length)).toNat:Int):=by
 unfold atB;rw [if_pos ⟨h,h2⟩]
end Ta2
namespace Dqa
open Go.RowKit
open Nd0 Nd1 Nd2 Nd3 Ap1 Nd6
open Ta2 (bitB)
theorem infoBool0:(Tryz.prog.info? 4).map (fun i=>(i.zero,i.size,i.bytes))=some (some (.bool false),1,1):=by kernel_rfl
def noughtsB (n:Nat):Array Value:=madeCells #[.bool false] (n*1)
theorem noughtsB_get (n j:Nat) (h:j < n):(noughtsB n)[j]? = some (.bool false):=by
 simp only [noughtsB,madeCells,Array.getElem?_map,Array.getElem?_range]
 rw [if_pos (by omega)]
 simp only [Option.map_some]
 have e:j % 1=0:=Nat.mod_one j
 exact congrArg (fun m=>some ((#[.bool false]:Array Value)[m]!)) e
theorem makeBools0 (n:Nat) (hn:n<=1048576) (w:World) :
 (Instr.makeSlice 24 (.int .i64 (n:Int)) (.int .i64 (n:Int))).run Tryz.prog w=.ok (.slice (some ⟨w.heap.size,0,none⟩) n n) (w.alloc (.cells (noughtsB n) 4)):=by
 obtain ⟨i,hi,hzz⟩:=Option.map_eq_some_iff.1 infoBool0
 simp only [Prod.mk.injEq] at hzz
 obtain ⟨hz,hs,hb⟩:=hzz
 have h:=run_make (P:=Tryz.prog) w 24 4 i _ Tryz.underlying24 hi hz .i64 .i64 n n (by omega) (Int.le_refl _) (by rw [hb];omega) (by omega)
 rw [hs] at h
 simpa [noughtsB,Value.cells] using h
/-- The first k flags, each changed by f. -/
def mapTo (f:Bool->Bool) (l:List Bool) (k:Nat):List Bool:=(l.take k).map f
theorem mapTo_next {f:Bool->Bool} {l:List Bool} {k:Nat} (h:k < l.length):mapTo f l (k+1)=mapTo f l k++[f l[k]]:=by
 unfold mapTo
 rw [List.take_succ_eq_append_getElem h,List.map_append]
 rfl
theorem mapTo_len {f:Bool->Bool} {l:List Bool} {k:Nat} (h:k<=l.length):(mapTo f l k).length=k:=by
 unfold mapTo
 rw [List.length_map,List.length_take]
 omega
/-- Every flag turned. -/
def turnL (l:List Bool):List Bool:=l.map not
theorem turnL_length (l:List Bool):(turnL l).length=l.length:=List.length_map ..
theorem mapTo_all {f:Bool->Bool} {l:List Bool} {k:Nat} (h:¬ k < l.length):mapTo f l k=l.map f:=by
 unfold mapTo
 rw [List.take_of_length_le (by omega)]
end Dqa
namespace Mx0
open Go.RowKit
open Nd0 (Kept Ints WInts set_other set_same lt_of_cell)
open Nd6 (Bools)
open Qc0 (Sn Sns WSns)
open Tc2 (tv)
open Mm0
/-- A block of cells that may be written. -/
def Mf (W:World) (b:Nat) (L:List Value):Prop:=∀ i (h:i < L.length),W.cell? ⟨b,i,none⟩=some L[i]/\W.frozen? ⟨b,i,none⟩=false
theorem Mf.lt {W:World} {b:Nat} {L:List Value} (h:Mf W b L) (hl:0 < L.length):b < W.heap.size:=World.block_lt_of_cell? _ _ (h 0 hl).1
theorem Mf.kept {W W':World} {b:Nat} {L:List Value} (h:Mf W b L) {S:Nat->Prop} (k:Kept S W W') (hs:¬ S b):Mf W' b L:=fun i hi=>by
 have hb:=h.lt (Nat.lt_of_le_of_lt (Nat.zero_le _) hi)
 exact ⟨by rw [k.cell (p:=⟨b,i,none⟩) hb hs];exact (h i hi).1,by rw [k.frozen (p:=⟨b,i,none⟩) hb hs];exact (h i hi).2⟩
theorem Mf.below {W W':World} {b:Nat} {L:List Value} (h:Mf W b L) (k:Below W.heap.size W W'):Mf W' b L:=h.kept (S:=fun _=>False) (Kept.ofBelow k) (fun h=>h)
theorem Mf.alloc {W:World} {b:Nat} {L:List Value} (h:Mf W b L) (o:Obj):Mf (W.alloc o) b L:=h.kept (S:=fun _=>False) ((Kept.refl _ _).alloc _) (fun h=>h)
theorem Mf.set {W:World} {b:Nat} {L:List Value} (h:Mf W b L) (i:Nat) (v:Value):Mf (W.setCell ⟨b,i,none⟩ v) b (L.set i v):=fun j hj=>by
 have hj':j < L.length:=by simpa using hj
 refine ⟨?_,by rw [World.frozen?_setCell];exact (h j hj').2⟩
 by_cases e:i=j
 ·subst e
  rw [set_same (h i hj').1]
  simp
 ·rw [set_other (by simp),(h j hj').1]
  simp [e]
theorem Mf.other {W:World} {b c:Nat} {L:List Value} (h:Mf W b L) (hc:b≠c) (i:Nat) (v:Value):Mf (W.setCell ⟨c,i,none⟩ v) b L:=fun j hj=>by
 refine ⟨?_,by rw [World.frozen?_setCell];exact (h j hj).2⟩
 rw [set_other (by simp)]
 exact (h j hj).1
theorem Mf.made (W:World) (A:Array Value) (T:Nat):Mf (W.alloc (.cells A T)) W.heap.size A.toList:=fun i hi=>by
 refine ⟨?_,by simp⟩
 rw [World.cell?_alloc_new]
 have:i < A.size:=by simpa using hi
 simp [this]
structure Mz (W:World) (b:Nat) (v0 v1 v2 v3 v4 v5 v6 v7 v8 v9 v10:Value):Prop where
 c0:W.cell? ⟨b,0,none⟩=some v0
 c1:W.cell? ⟨b,1,none⟩=some v1
 c2:W.cell? ⟨b,2,none⟩=some v2
 c3:W.cell? ⟨b,3,none⟩=some v3
 c4:W.cell? ⟨b,4,none⟩=some v4
 c5:W.cell? ⟨b,5,none⟩=some v5
 c6:W.cell? ⟨b,6,none⟩=some v6
 c7:W.cell? ⟨b,7,none⟩=some v7
 c8:W.cell? ⟨b,8,none⟩=some v8
 c9:W.cell? ⟨b,9,none⟩=some v9
 c10:W.cell? ⟨b,10,none⟩=some v10
 z0:W.frozen? ⟨b,0,none⟩=false
 z1:W.frozen? ⟨b,1,none⟩=false
 z2:W.frozen? ⟨b,2,none⟩=false
 z3:W.frozen? ⟨b,3,none⟩=false
 z4:W.frozen? ⟨b,4,none⟩=false
 z5:W.frozen? ⟨b,5,none⟩=false
 z6:W.frozen? ⟨b,6,none⟩=false
 z7:W.frozen? ⟨b,7,none⟩=false
 z8:W.frozen? ⟨b,8,none⟩=false
 z9:W.frozen? ⟨b,9,none⟩=false
 z10:W.frozen? ⟨b,10,none⟩=false
theorem Mf.all {W:World} {b:Nat} {v0 v1 v2 v3 v4 v5 v6 v7 v8 v9 v10:Value} (h:Mf W b [v0,v1,v2,v3,v4,v5,v6,v7,v8,v9,v10]):Mz W b v0 v1 v2 v3 v4 v5 v6 v7 v8 v9 v10 :=
 ⟨(h 0 (by simp)).1,(h 1 (by simp)).1,(h 2 (by simp)).1,(h 3 (by simp)).1,(h 4 (by simp)).1,(h 5 (by simp)).1,(h 6 (by simp)).1,(h 7 (by simp)).1,(h 8 (by simp)).1,(h 9 (by simp)).1,(h 10 (by simp)).1,(h 0 (by simp)).2,(h 1 (by simp)).2,(h 2 (by simp)).2,(h 3 (by simp)).2,(h 4 (by simp)).2,(h 5 (by simp)).2,(h 6 (by simp)).2,(h 7 (by simp)).2,(h 8 (by simp)).2,(h 9 (by simp)).2,(h 10 (by simp)).2⟩
theorem Mz.mf {W:World} {b:Nat} {v0 v1 v2 v3 v4 v5 v6 v7 v8 v9 v10:Value} (h:Mz W b v0 v1 v2 v3 v4 v5 v6 v7 v8 v9 v10):Mf W b [v0,v1,v2,v3,v4,v5,v6,v7,v8,v9,v10]:=fun i hi=>by
 match i,hi with
 | 0,_=>exact ⟨h.c0,h.z0⟩
 | 1,_=>exact ⟨h.c1,h.z1⟩
 | 2,_=>exact ⟨h.c2,h.z2⟩
 | 3,_=>exact ⟨h.c3,h.z3⟩
 | 4,_=>exact ⟨h.c4,h.z4⟩
 | 5,_=>exact ⟨h.c5,h.z5⟩
 | 6,_=>exact ⟨h.c6,h.z6⟩
 | 7,_=>exact ⟨h.c7,h.z7⟩
 | 8,_=>exact ⟨h.c8,h.z8⟩
 | 9,_=>exact ⟨h.c9,h.z9⟩
 | 10,_=>exact ⟨h.c10,h.z10⟩
theorem Mf.mb {W:World} {b:Nat} {m:Mc} {ra va ma:Option Addr} {rc vc mc:Nat} (h:Mf W b [.slice ra m.row.length rc,.int .i64 m.N,.string m.S,.int .i64 m.room,.slice va m.vals.length vc,.int .i64 m.ret,.bool m.over,.int .i64 m.steps,.int .i64 m.looks,.int .i64 m.hits,.slice ma m.memo.length mc]):Mb W b m ra va ma rc vc mc :=
 ⟨(h 0 (by simp)).1,(h 1 (by simp)).1,(h 2 (by simp)).1,(h 3 (by simp)).1,(h 4 (by simp)).1,(h 5 (by simp)).1,(h 6 (by simp)).1,(h 7 (by simp)).1,(h 8 (by simp)).1,(h 9 (by simp)).1,(h 10 (by simp)).1⟩
end Mx0
namespace Mu1
open Go.RowKit
open Nd0 (Kept Ints lt_of_cell)
open Nd6 (Bools)
open Ap0 Ap1 Qc0 Qc2 Cl0
theorem allBs {ops:Array Oper} {rest:List Oper} {o:Oper} {a:Act} {Q:Exit->Act->World->Prop} (W:World) (hgd:o.guard=none) (s x:Operand)
 (ho:o.op=.call { callee:=.builtin .append,args := #[s,x],argTypes := #[24,24] })
 (l:List Bool) (y:Option Addr) (c G:Nat) (hs:a.eval s=.slice (some ⟨G,0,none⟩) 0 0) (hG:G=W.heap.size) (hx:a.eval x=.slice y l.length c) (hP:Bools W y l) (hl:l.length<=1048576)
 (h:∀ v w',Owb w' W.heap.size v l->Below W.heap.size W w'->wpList Tryz.prog ops Q rest (a.put o.dst v) w') :
 wpList Tryz.prog ops Q (o :: rest) a (W.alloc (.cells #[] 4)):=by
 subst hG
 obtain ⟨i,hi,hzz⟩:=Option.map_eq_some_iff.1 infoBool
 simp only [Prod.mk.injEq] at hzz
 obtain ⟨hz,hsz,hb⟩:=hzz
 have hB:Below W.heap.size W (W.alloc (.cells #[] 4)):=(Below.refl _ _).alloc (Nat.le_refl _) _
 cases y with
 | none =>
   have hl0:l.length=0:=by
    rcases hP.2 with e|⟨b,o,hb,_⟩
    ·exact e
    ·cases hb
   have hE:l=[]:=List.eq_nil_of_length_eq_zero hl0
   refine wpList_plain hgd fun K hK=>?_
   have hr:=run_append_nothing (P:=Tryz.prog) (W.alloc (.cells #[] 4)) 24 24 o.type 4 i Tryz.underlying24 hi (some ⟨W.heap.size,0,none⟩) 0 0 (Nat.le_refl _) (.slice none l.length c) (by rw [hl0];exact Src.ofNil _ Tryz.underlying24 c)
   unfold Oper.wp execOp
   simp only [ho,resolve,invoke,builtin,Sem.run_bind,Sem.run_pure,Result.andThen_ok,List.map_toArray,List.map_cons,List.map_nil,hs,hx,hr]
   exact hK _ _ (h _ _ (by rw [hE];exact Owb.lit W W.heap.size (Nat.le_refl _)) hB)
 | some ad =>
   refine wpList_append_own_at (P:=Tryz.prog) (W.alloc (.cells #[] 4)) hgd s x 24 ho W.heap.size 4 i _ 1 1 Tryz.underlying24 hi hz hsz hb rfl (by omega) (.slice (some ⟨W.heap.size,0,none⟩) 0 0) 0 [] hs (Owb.lit W W.heap.size (Nat.le_refl _)) ad l.length c (l.map fun x=>Value.bool x) hx (by simp) ?_ (fun u hu=>by
    obtain ⟨n,_,rfl⟩:=List.mem_map.1 hu
    rfl) (by unfold maxLen;omega) (by omega) (by simp) ?_
   ·rcases hP.2 with e|⟨b,o,hb,hc⟩
    ·intro j u hu
     have:l=[]:=List.eq_nil_of_length_eq_zero e
     subst this
     cases hu
    ·cases hb
     exact (fun j u hu=>by
     have hj:j < l.length:=by have:=(List.getElem?_eq_some_iff.1 hu).1;simpa using this
     rw [add_at,hB.cell (lt_of_cell (hc j hj)),hc j hj,<- hu]
     simp [hj])
   ·intro v' w' h1 h2 h3 h4
    rw [Nat.zero_add,List.nil_append] at h1
    exact h v' w' h1 (hB.trans ⟨h2.os,h2.tape,h2.output,by have:=h2.size;have:=hB.size;omega,fun k hk=>h2.block k (Nat.lt_of_lt_of_le hk hB.size) (fun e=>by simp [Value.ownBlock] at e;omega)⟩)
theorem allIs {ops:Array Oper} {rest:List Oper} {o:Oper} {a:Act} {Q:Exit->Act->World->Prop} (W:World) (hgd:o.guard=none) (s x:Operand)
 (ho:o.op=.call { callee:=.builtin .append,args := #[s,x],argTypes := #[27,27] })
 (l:List Int) (y:Option Addr) (c G:Nat) (hs:a.eval s=.slice (some ⟨G,0,none⟩) 0 0) (hG:G=W.heap.size) (hx:a.eval x=.slice y l.length c) (hP:Ints W y l) (hl:l.length<=1048576)
 (h:∀ v w',Ows w' W.heap.size v l->Below W.heap.size W w'->wpList Tryz.prog ops Q rest (a.put o.dst v) w') :
 wpList Tryz.prog ops Q (o :: rest) a (W.alloc (.cells #[] 3)):=by
 subst hG
 obtain ⟨i,hi,hzz⟩:=Option.map_eq_some_iff.1 infoInt
 simp only [Prod.mk.injEq] at hzz
 obtain ⟨hz,hsz,hb⟩:=hzz
 have hB:Below W.heap.size W (W.alloc (.cells #[] 3)):=(Below.refl _ _).alloc (Nat.le_refl _) _
 cases y with
 | none =>
   have hl0:l.length=0:=by
    rcases hP.2 with e|⟨b,o,hb,_⟩
    ·exact e
    ·cases hb
   have hE:l=[]:=List.eq_nil_of_length_eq_zero hl0
   refine wpList_plain hgd fun K hK=>?_
   have hr:=run_append_nothing (P:=Tryz.prog) (W.alloc (.cells #[] 3)) 27 27 o.type 3 i Tryz.underlying27 hi (some ⟨W.heap.size,0,none⟩) 0 0 (Nat.le_refl _) (.slice none l.length c) (by rw [hl0];exact Src.ofNil _ Tryz.underlying27 c)
   unfold Oper.wp execOp
   simp only [ho,resolve,invoke,builtin,Sem.run_bind,Sem.run_pure,Result.andThen_ok,List.map_toArray,List.map_cons,List.map_nil,hs,hx,hr]
   exact hK _ _ (h _ _ (by rw [hE];exact Ows.lit W W.heap.size (Nat.le_refl _)) hB)
 | some ad =>
   refine wpList_append_own_at (P:=Tryz.prog) (W.alloc (.cells #[] 3)) hgd s x 27 ho W.heap.size 3 i _ 1 8 Tryz.underlying27 hi hz hsz hb rfl (by omega) (.slice (some ⟨W.heap.size,0,none⟩) 0 0) 0 [] hs (Ows.lit W W.heap.size (Nat.le_refl _)) ad l.length c (l.map fun x=>Value.int .i64 x) hx (by simp) ?_ (fun u hu=>by
    obtain ⟨n,_,rfl⟩:=List.mem_map.1 hu
    rfl) (by unfold maxLen;omega) (by omega) (by simp) ?_
   ·rcases hP.2 with e|⟨b,o,hb,hc⟩
    ·intro j u hu
     have:l=[]:=List.eq_nil_of_length_eq_zero e
     subst this
     cases hu
    ·cases hb
     exact (fun j u hu=>by
     have hj:j < l.length:=by have:=(List.getElem?_eq_some_iff.1 hu).1;simpa using this
     rw [add_at,hB.cell (lt_of_cell (hc j hj)),hc j hj,<- hu]
     simp [hj])
   ·intro v' w' h1 h2 h3 h4
    rw [Nat.zero_add,List.nil_append] at h1
    exact h v' w' h1 (hB.trans ⟨h2.os,h2.tape,h2.output,by have:=h2.size;have:=hB.size;omega,fun k hk=>h2.block k (Nat.lt_of_lt_of_le hk hB.size) (fun e=>by simp [Value.ownBlock] at e;omega)⟩)
theorem allSs {ops:Array Oper} {rest:List Oper} {o:Oper} {a:Act} {Q:Exit->Act->World->Prop} (W:World) (hgd:o.guard=none) (s x:Operand)
 (ho:o.op=.call { callee:=.builtin .append,args := #[s,x],argTypes := #[28,28] })
 (l:List Sn) (y:Option Addr) (c G:Nat) (hs:a.eval s=.slice (some ⟨G,0,none⟩) 0 0) (hG:G=W.heap.size) (hx:a.eval x=.slice y l.length c) (hP:Sns W y l) (hl:l.length<=1048576)
 (h:∀ v w',OwSn w' W.heap.size v l->Below W.heap.size W w'->wpList Tryz.prog ops Q rest (a.put o.dst v) w') :
 wpList Tryz.prog ops Q (o :: rest) a (W.alloc (.cells #[] 40)):=by
 subst hG
 obtain ⟨i,hi,hzz⟩:=Option.map_eq_some_iff.1 infoASn
 simp only [Prod.mk.injEq] at hzz
 obtain ⟨hz,hsz,hb⟩:=hzz
 have hB:Below W.heap.size W (W.alloc (.cells #[] 40)):=(Below.refl _ _).alloc (Nat.le_refl _) _
 cases y with
 | none =>
   have hl0:l.length=0:=by
    rcases hP.2 with e|⟨b,o,hb,_⟩
    ·exact e
    ·cases hb
   have hE:l=[]:=List.eq_nil_of_length_eq_zero hl0
   refine wpList_plain hgd fun K hK=>?_
   have hr:=run_append_nothing (P:=Tryz.prog) (W.alloc (.cells #[] 40)) 28 28 o.type 40 i Tryz.underlying28 hi (some ⟨W.heap.size,0,none⟩) 0 0 (Nat.le_refl _) (.slice none l.length c) (by rw [hl0];exact Src.ofNil _ Tryz.underlying28 c)
   unfold Oper.wp execOp
   simp only [ho,resolve,invoke,builtin,Sem.run_bind,Sem.run_pure,Result.andThen_ok,List.map_toArray,List.map_cons,List.map_nil,hs,hx,hr]
   exact hK _ _ (h _ _ (by rw [hE];exact OwSn.lit W W.heap.size (Nat.le_refl _)) hB)
 | some ad =>
   refine wpList_append_own_at (P:=Tryz.prog) (W.alloc (.cells #[] 40)) hgd s x 28 ho W.heap.size 40 i _ 2 24 Tryz.underlying28 hi hz hsz hb rfl (by omega) (.slice (some ⟨W.heap.size,0,none⟩) 0 0) 0 [] hs (OwSn.lit W W.heap.size (Nat.le_refl _)) ad l.length c (flatSn l) hx (by rw [flat_len]) ?_ (fun u hu=>by
    obtain ⟨n,_,hn⟩:=List.mem_flatMap.1 hu
    simp [Sn.cells] at hn
    rcases hn with rfl|rfl<;>rfl) (by unfold maxLen;omega) (by omega) (by simp) ?_
   ·rcases hP.2 with e|⟨b,o,hb,hc⟩
    ·intro j u hu
     have:l=[]:=List.eq_nil_of_length_eq_zero e
     subst this
     cases hu
    ·cases hb
     exact (fun j u hu=>by
     have hj2:j < (flatSn l).length:=(List.getElem?_eq_some_iff.1 hu).1
     rw [flat_len] at hj2
     have hj:j / 2 < l.length:=by omega
     have hg:=flatSn_get l (j / 2) hj (j % 2) (by omega)
     rw [show j / 2*2+j % 2=j by omega,hu] at hg
     obtain ⟨c0,c1⟩:=(hc (j / 2) hj).below hB (hc (j / 2) hj).lt
     rw [add_at,hg]
     rcases (show j % 2=0\/j % 2=1 by omega) with e|e
     ·rw [e,show o+j=o+j / 2*2 by omega,c0];rfl
     ·rw [e,show o+j=o+j / 2*2+1 by omega,c1];rfl)
   ·intro v' w' h1 h2 h3 h4
    rw [Nat.zero_add,List.nil_append] at h1
    exact h v' w' h1 (hB.trans ⟨h2.os,h2.tape,h2.output,by have:=h2.size;have:=hB.size;omega,fun k hk=>h2.block k (Nat.lt_of_lt_of_le hk hB.size) (fun e=>by simp [Value.ownBlock] at e;omega)⟩)
/-- What a memo says of a key: its verdict, or -1. -/
def fnd:List Sn->ByteArray->Int
 | [],_ => -1
 | x :: r,k=>if x.k=k then x.r else fnd r k
theorem fnd_drop {l:List Sn} {j:Nat} (h:j < l.length) (k:ByteArray):fnd (l.drop j) k=if l[j].k=k then l[j].r else fnd (l.drop (j+1)) k:=by
 rw [List.drop_eq_getElem_cons h]
 rfl
theorem sFind (w:World) (a:Option Addr) (l:List Sn) (c:Nat) (k:ByteArray) (h:Sns w a l) :
 Calls Tryz.prog 97 #[.slice a l.length c,.string k] w fun e w'=>e=.returned (.int .i64 (fnd l k))/\w'=w:=by
 have H:Hid (Sns w a l):=h
 have hm:=h.1
 unfold maxLen at hm
 clear h
 go_enter Tryz.func97,Tryz.ntmps97
 go_wp2
 go_loop [5] (fun i=>∃ j:Nat,j<=l.length/\i=.int .i64 j/\fnd l k=fnd (l.drop j) k) (fun i=>l.length - (intOf i).toNat)
 case atStart=>exact ⟨0,Nat.zero_le _,rfl,rfl⟩
 case round =>
  obtain ⟨j,hj,rfl,hf⟩:=hrel
  have HF:Hid (fnd l k=fnd (l.drop j) k):=hf
  clear hf
  by_cases hlt:j < l.length
  ·have hjz:(j:Int) < (l.length:Int):=by omega
   rcases H.out.2 with h0|⟨xb,xo,rfl,hc⟩
   ·omega
   obtain ⟨p0,p1⟩:=hc j hlt
   clear hc
   have HD:=fnd_drop hlt k
   have HD2:Hid (fnd (l.drop j) k=if l[j].k=k then l[j].r else fnd (l.drop (j+1)) k):=HD
   clear HD
   generalize l[j]=x at *
   by_cases hx:x.k=k
   ·have hq:(x.k.toList==k.toList)=true:=Ss1.eqb_true (by rw [hx])
    have HR:Hid (fnd l k=x.r):=by show _=_;rw [HF.out,HD2.out,if_pos hx]
    clear hx
    go_wp2
    go_ret
    exact ⟨congrArg (fun z=>Ending.returned (.int .i64 z)) HR.out.symm,rfl⟩
   ·have hq:(x.k.toList==k.toList)=false:=Ss1.eqb_false fun e=>hx (Ss1.tl_inj e)
    have HR:Hid (fnd l k=fnd (l.drop (j+1)) k):=by show _=_;rw [HF.out,HD2.out,if_neg hx]
    clear hx
    go_wp2
    go_round
    case rel=>exact ⟨j+1,by omega,by go_num,HR.out⟩
    case measure=>simp [intOf];omega
  ·have hjz:¬ (j:Int) < (l.length:Int):=by omega
   have HR:Hid (fnd l k = -1):=by
    show _=_
    rw [HF.out,List.drop_eq_nil_of_le (by omega)]
    rfl
   go_wp2
   go_ret
   exact ⟨congrArg (fun z=>Ending.returned (.int .i64 z)) HR.out.symm,rfl⟩
end Mu1
end Go.Proofs.YtjajkmdoggbicaaGreatDoor
