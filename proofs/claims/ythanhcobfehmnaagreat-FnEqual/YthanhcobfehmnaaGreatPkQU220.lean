import Derived.Stop.Asserts
import Derived.Deep.MidRow
import Derived.Test.YthanhcobfehmnaaGreatPkQU219
namespace Go.Proofs.YthanhcobfehmnaaGreat
set_option maxRecDepth 100000
set_option maxHeartbeats 8000000
set_option linter.unusedVariables false
namespace Vm0
open Nd0 Pl1 Pl2 Tm0 Tm1 Tm3 Tm5 Tm6 Tm8 Tm11 Tm13 Tm14 Tr0 Vl1 Vl2
theorem applyL_k {op:Int} (h:(3<=op/\op<=16)\/op=18) (W k k' w a b c:Int):applyL op W k w a b c=applyL op W k' w a b c:=by
 have h0:¬ op=0:=by omega
 have h17:¬ op=17:=by omega
 unfold applyL opL
 simp only [h0,h17,if_false]
def pvs (l:List Nd) (e:List Int) (n:Nd):List Int:=(parts n).map fun p=>vT (tr l p.toNat) e
def pw (l:List Nd) (n:Nd):Int:=match parts n with
 | []=>1
 | p :: _=>(nth l p.toNat).w
section
variable {l:List Nd} (hD:Down l) (hN:∀ k,k < l.length->nodeOk l k=true) {k:Nat} (hk:k < l.length) (e:List Int)
include hD hN hk
theorem vT_other (h1:¬ (nth l k).op=1) (hq:quant (nth l k).op=false) :
 vT (tr l k) e=applyL (nth l k).op (nth l k).w (nth l k).k (pw l (nth l k)) ((pvs l e (nth l k)).getD 0 0) ((pvs l e (nth l k)).getD 1 0) ((pvs l e (nth l k)).getD 2 0):=by
 rw [tr_at hD hk]
 have hd:=hD k hk
 have hp:∀ p∈parts (nth l k),(tr l p.toNat).wid=(nth l p.toNat).w:=fun p h=>(rt_all hD hN p.toNat (by have:=hd p h;omega)).2
 generalize nth l k=n at h1 hq hp hd
 have hq2:¬ n.op=19/\¬ n.op=20:=by simpa [quant] using hq
 by_cases g1:n.op=2\/n.op=17\/n.op=19\/n.op=20
 ·rw [mk_one g1]
  unfold pvs pw
  rw [parts_one g1] at hp ⊢
  simp only [vT,List.map_cons,List.map_nil]
  rw [if_neg hq2.1,if_neg hq2.2,hp n.a (by simp)]
  rfl
 ·by_cases g2:3<=n.op/\n.op<=16
  ·rw [mk_two g2]
   unfold pvs pw
   rw [parts_two g2] at hp ⊢
   simp only [vT,List.map_cons,List.map_nil]
   rw [hp n.a (by simp),applyL_k (.inl g2) _ 0 n.k]
   rfl
  ·by_cases g3:n.op=18
   ·rw [mk_three g3]
    unfold pvs pw
    rw [parts_three g3] at hp ⊢
    simp only [vT,List.map_cons,List.map_nil]
    rw [hp n.a (by simp),applyL_k (.inr g3) _ 0 n.k]
    rfl
   ·rw [mk_leaf g1 g2 g3]
    unfold pvs pw
    rw [parts_none g1 g2 g3]
    simp only [vT]
    rw [if_neg h1]
    rfl
end
theorem vT_var {l:List Nd} (hD:Down l) {k:Nat} (hk:k < l.length) (e:List Int) (h1:(nth l k).op=1):vT (tr l k) e=wd e (nth l k).k:=by
 rw [tr_at hD hk,mk_leaf (by omega) (by omega) (by omega)]
 simp only [vT]
 rw [if_pos h1]
 rfl
def allN (f:Nat->Int) (m:Nat):Int:=if (List.range m).all (fun i=>f i==1) then 1 else 0
def anyN (f:Nat->Int) (m:Nat):Int:=if (List.range m).any (fun i=>f i==1) then 1 else 0
theorem allN_yes {f:Nat->Int} {m:Nat} (h:f m=1):allN f (m+1)=allN f m:=by
 unfold allN;rw [List.range_succ,List.all_append];simp [h]
theorem allN_no {f:Nat->Int} {m:Nat} (h:¬ f m=1):allN f (m+1)=0:=by
 unfold allN;rw [List.range_succ,List.all_append];simp [h]
theorem anyN_yes {f:Nat->Int} {m:Nat} (h:f m=1):anyN f (m+1)=1:=by
 unfold anyN;rw [List.range_succ,List.any_append];simp [h]
theorem anyN_no {f:Nat->Int} {m:Nat} (h:¬ f m=1):anyN f (m+1)=anyN f m:=by
 unfold anyN;rw [List.range_succ,List.any_append];simp [h]
theorem anyN_bit (f:Nat->Int) (m:Nat):anyN f m=0\/anyN f m=1:=by unfold anyN;split<;>simp
theorem anyN_one {f:Nat->Int} {m:Nat}:anyN f m=1↔∃ i,i < m/\f i=1:=by
 unfold anyN
 constructor
 ·intro h
  split at h
  ·rename_i h2
   obtain ⟨i,h3,h4⟩:=List.any_eq_true.1 h2
   exact ⟨i,List.mem_range.1 h3,by simpa using h4⟩
  ·cases h
 ·rintro ⟨i,h1,h2⟩
  rw [if_pos (List.any_eq_true.2 ⟨i,List.mem_range.2 h1,by simpa using h2⟩)]
theorem allN_one {f:Nat->Int} {m:Nat}:allN f m=1↔∀ i,i < m->f i=1:=by
 unfold allN
 constructor
 ·intro h i hi
  split at h
  ·rename_i h2
   simpa using List.all_eq_true.1 h2 i (List.mem_range.2 hi)
  ·cases h
 ·intro h
  rw [if_pos (List.all_eq_true.2 fun i hi=>by simpa using h i (List.mem_range.1 hi))]
theorem allN_bit (f:Nat->Int) (m:Nat):allN f m=0\/allN f m=1:=by unfold allN;split<;>simp
theorem vT_quant {l:List Nd} (hD:Down l) {k:Nat} (hk:k < l.length) (e:List Int) (hq:quant (nth l k).op=true) :
 vT (tr l k) e=if (nth l k).op=19 then allN (fun i=>vT (tr l (nth l k).a.toNat) (e.set (nth l k).k.toNat (i:Int))) (2 ^ (nth l k).b.toNat) else anyN (fun i=>vT (tr l (nth l k).a.toNat) (e.set (nth l k).k.toNat (i:Int))) (2 ^ (nth l k).b.toNat):=by
 have hq2:(nth l k).op=19\/(nth l k).op=20:=by simpa [quant] using hq
 rw [tr_at hD hk,mk_one (by omega)]
 simp only [vT]
 rcases hq2 with h|h
 ·rw [if_pos h,if_pos h];rfl
 ·have h19:¬ (nth l k).op=19:=by omega
  rw [if_neg h19,if_pos h,if_neg h19];rfl
theorem set_self (e:List Int) {i:Nat} (h:i < e.length):e.set i (wd e (i:Int))=e:=by
 have:wd e (i:Int)=e[i]:=(wd_get h).symm
 rw [this];exact List.set_getElem_self h
theorem node_k {l:List Nd} (hD:Down l) (hN:∀ k,k < l.length->nodeOk l k=true) {k:Nat} (hk:k < l.length):0<=(nth l k).k/\(nth l k).k<=255:=by
 have hok:=hN k hk
 have hd:=hD k hk
 simp only [nodeOk,Bool.and_eq_true] at hok
 have hs:=hok.2
 have hw:∀ p∈parts (nth l k),width l p<=8:=fun p hp=>by
  have h1:=hd p hp
  exact (node_width (hN p.toNat (by omega))).2
 have hw1:=of_decide_eq_true hok.1.2
 generalize nth l k=n at hs hw hw1
 unfold shapeOk at hs
 by_cases h0:n.op=0
 ·rw [if_pos h0] at hs
  simp only [Bool.and_eq_true] at hs
  have:=wok_iff.1 hs.1
  have h2:=p2_mono (show n.w.toNat<=8 by omega)
  have h3:p2 8=256:=rfl
  omega
 rw [if_neg h0] at hs
 by_cases h1:n.op=1
 ·rw [if_pos h1] at hs
  have:=of_decide_eq_true hs
  omega
 rw [if_neg h1] at hs
 by_cases h2:n.op=2
 ·rw [if_pos h2] at hs
  have:=of_decide_eq_true hs
  omega
 rw [if_neg h2] at hs
 by_cases h3:3<=n.op/\n.op<=12
 ·rw [if_pos h3] at hs
  have:=of_decide_eq_true hs
  omega
 rw [if_neg h3] at hs
 by_cases h4:13<=n.op/\n.op<=15
 ·rw [if_pos h4] at hs
  have:=of_decide_eq_true hs
  omega
 rw [if_neg h4] at hs
 by_cases h5:n.op=16
 ·rw [if_pos h5] at hs
  have:=of_decide_eq_true hs
  omega
 rw [if_neg h5] at hs
 by_cases h6:n.op=17
 ·rw [if_pos h6] at hs
  have:=of_decide_eq_true hs
  rw [parts_one (.inr (.inl h6))] at hw this
  have h8:=hw n.a (by simp)
  simp only [List.map_cons,List.map_nil,List.getD_cons_zero] at this
  omega
 rw [if_neg h6] at hs
 by_cases h7:n.op=18
 ·rw [if_pos h7] at hs
  have:=of_decide_eq_true hs
  omega
 rw [if_neg h7] at hs
 by_cases h8:n.op=19\/n.op=20
 ·rw [if_pos h8] at hs
  have:=of_decide_eq_true hs
  omega
 rw [if_neg h8] at hs
 cases hs
theorem wf_small {k:Int} (h:0<=k/\k<=255):(Go.Lit.int .i64 k).wf=true:=by
 simp [Go.Lit.wf,Go.IntKind.min,Go.IntKind.max,Go.IntKind.signed,Go.IntKind.bits];omega
end Vm0
namespace Ap7
open Go.RowKit
open Nd0 Nd3 Ap2 Dw3 Dw4
theorem own_cap {w:World} {B:Nat} {a:Option Addr} {n c:Nat} {l:List Nd} (h:Ap2.Own w B (.slice a n c) l):n=l.length/\l.length<=c:=by
 obtain ⟨h1,h2⟩:=h
 rcases h2 with ⟨e,h0⟩|⟨g,cap,cur,e,hb,hg,hn,hm,hs,ht⟩
 ·cases e;exact ⟨h0.symm,by omega⟩
 ·cases e;exact ⟨rfl,hn⟩
end Ap7
namespace Ap13
open Go.RowKit
open Nd0 Nd3 Ap2 Dw3 Ap7
theorem app_any {ops:Array Oper} {rest:List Oper} {o:Oper} {a:Act} {Q:Exit->Act->World->Prop} (W:World) (hgd:o.guard=none) (s x:Operand)
 (ho:o.op=.call { callee:=.builtin .append,args := #[s,x],argTypes := #[24,24] })
 (B g c:Nat) (l ys L:List Nd) (hL:l++ys=L) (gx ox cx n m:Nat) (hs:a.eval s=.slice (some ⟨g,0,none⟩) n c) (hx:a.eval x=.slice (some ⟨gx,ox,none⟩) m cx) (hn:n=l.length) (hm:m=ys.length)
 (hy:∀ i (h:i < ys.length),NodeAt W gx (ox+i*6) ys[i])
 (hown:Ap2.Own W B (.slice (some ⟨g,0,none⟩) l.length c) l) (hB:B<=W.heap.size) (hlen:l.length+ys.length<=1048577)
 (h:∀ g' cap w',Ap2.Own w' B (.slice (some ⟨g',0,none⟩) L.length cap) L->Kept (fun k=>k=g) W w'->wpList Tryz.prog ops Q rest (a.put o.dst (.slice (some ⟨g',0,none⟩) L.length cap)) w') :
 wpList Tryz.prog ops Q (o :: rest) a W:=by
 subst hn hm hL
 obtain ⟨i,hi,hzz⟩:=Option.map_eq_some_iff.1 infoNode
 simp only [Prod.mk.injEq] at hzz
 obtain ⟨hz,hsz,hb⟩:=hzz
 refine wpList_append_own W hgd s x 24 ho B 44 i _ 6 48 Tryz.underlying24 hi hz hsz hb rfl (by omega) _ l.length (flat l) hs hown
  ⟨gx,ox,none⟩ ys.length cx (flat ys) hx (flat_length ys) (fun j u hu=>nodes_cells hy j u hu) ?_ (by unfold maxLen;omega) (by omega) hB ?_
 ·intro u hu
  obtain ⟨n,_,hn⟩:=List.mem_flatMap.1 hu
  simp [Nd.cells] at hn
  rcases hn with rfl|rfl|rfl|rfl|rfl|rfl<;>rfl
 ·intro v' w' h1 h2 h3
  have h4:Ap2.Own w' B v' (l++ys):=by unfold Ap2.Own;rw [flat_app,List.length_append];exact h1
  have h5:∃ g' cp,v'=.slice (some ⟨g',0,none⟩) (l++ys).length cp:=by
   rcases h4.2 with ⟨h0,_⟩|⟨g',cap,cur,he,_⟩
   ·exact absurd (h3.1 h0).1 (by simp)
   ·exact ⟨g',cap,he⟩
  obtain ⟨g',cp,rfl⟩:=h5
  exact h g' cp w' h4 ⟨h2.os,h2.tape,h2.output,h2.size,fun k hk hn=>h2.block k hk (fun e=>hn (by cases e;rfl))⟩
end Ap13
namespace Qa0
open Go.RowKit
open Nd0
structure Qu where
 all:Bool
 vr:Int
 bits:Int
end Qa0
namespace Qi0
open Go.RowKit
open Nd0 Qa0
def qv (x:Qu):Value:=.iface (if x.all then 129 else 130) (.agg #[.int .i64 x.vr,.int .i64 x.bits])
theorem iNewQ (al:Bool) (v b:Int) (w:World) :
 Calls Tryz.prog 76 #[.bool al,.int .i64 v,.int .i64 b] w fun e w'=>e=.returned (qv ⟨al,v,b⟩)/\w'=w:=by
 cases al
 all_goals
  go_enter Tryz.func76,Tryz.ntmps76
  go_wp2
  go_ret
  exact ⟨rfl,rfl⟩
theorem qv_all (v b:Int):qv ⟨true,v,b⟩=.iface 129 (.agg #[.int .i64 v,.int .i64 b]):=rfl
theorem qv_some (v b:Int):qv ⟨false,v,b⟩=.iface 130 (.agg #[.int .i64 v,.int .i64 b]):=rfl
theorem asksNo (v b:Int) (w:World):(Instr.typeAssert (.iface 130 (.agg #[.int .i64 v,.int .i64 b])) 103 129 true).run Tryz.prog w=.ok (.tuple #[.agg #[.int .i64 0,.int .i64 0],.bool false]) w:=by kernel_rfl
theorem asksYes (v b:Int) (w:World):(Instr.typeAssert (.iface 129 (.agg #[.int .i64 v,.int .i64 b])) 103 129 true).run Tryz.prog w=.ok (.tuple #[.agg #[.int .i64 v,.int .i64 b],.bool true]) w:=by kernel_rfl
theorem iOpOf (x:Qu) (w:World) :
 Calls Tryz.prog 107 #[qv x] w fun e w'=>e=.returned (.int .i64 (if x.all then 19 else 20))/\w'=w:=by
 obtain ⟨al,v,b⟩:=x
 cases al
 ·have hm:=asksNo v b
  rw [qv_some]
  go_enter Tryz.func107,Tryz.ntmps107
  go_wp2
  go_ret
  exact ⟨rfl,rfl⟩
 ·have hm:=asksYes v b
  rw [qv_all]
  go_enter Tryz.func107,Tryz.ntmps107
  go_wp2
  go_ret
  exact ⟨rfl,rfl⟩
theorem findAll (v b:Int) (w:World):(method 275 129 (.agg #[.int .i64 v,.int .i64 b]) "loop.example/g00116/impl.variable").run Tryz.prog w=.ok (188,.agg #[.int .i64 v,.int .i64 b]) w:=by kernel_rfl
theorem findSome (v b:Int) (w:World):(method 275 130 (.agg #[.int .i64 v,.int .i64 b]) "loop.example/g00116/impl.variable").run Tryz.prog w=.ok (191,.agg #[.int .i64 v,.int .i64 b]) w:=by kernel_rfl
theorem iVarAll (v b:Int) (w:World):Calls Tryz.prog 188 #[.agg #[.int .i64 v,.int .i64 b]] w fun e w'=>e=.returned (.tuple #[.int .i64 v,.int .i64 b])/\Below w.heap.size w w':=by
 go_enter Tryz.func188,Tryz.ntmps188
 go_wp2_with fail
 go_quiet (fail)
 go_wp2
 go_ret2
 exact ⟨rfl,Kp0.below_drewN ((Below.refl _ _).alloc (Nat.le_refl _) _) _⟩
theorem iVarSome (v b:Int) (w:World):Calls Tryz.prog 191 #[.agg #[.int .i64 v,.int .i64 b]] w fun e w'=>e=.returned (.tuple #[.int .i64 v,.int .i64 b])/\Below w.heap.size w w':=by
 go_enter Tryz.func191,Tryz.ntmps191
 go_wp2_with fail
 go_quiet (fail)
 go_wp2
 go_ret2
 exact ⟨rfl,Kp0.below_drewN ((Below.refl _ _).alloc (Nat.le_refl _) _) _⟩
theorem results_node {w:World} {g:Nat} {n:Nd} {tmps:Array Value} (hp:tmps.getD 4 undef=.pointer (some ⟨g,0,none⟩)) (h:NodeAt w g 0 n) :
 (results Tryz.f75 tmps).run Tryz.prog w=.ok (.agg #[.int .i64 n.op,.int .i64 n.w,.int .i64 n.k,.int .i64 n.a,.int .i64 n.b,.int .i64 n.c]) w:=by
 have hr:w.rangeAt g 0 [.int .i64 n.op,.int .i64 n.w,.int .i64 n.k,.int .i64 n.a,.int .i64 n.b,.int .i64 n.c]:=fun j v hv=>by
  rw [Nat.zero_add]
  have hj:j < 6:=by
   have:=(List.getElem?_eq_some_iff.1 hv).1
   simpa using this
  rcases (show j=0\/j=1\/j=2\/j=3\/j=4\/j=5 by omega) with h'|h'|h'|h'|h'|h'<;>subst h'
  ·rw [<- hv];exact h.c0
  ·rw [<- hv];exact h.c1
  ·rw [<- hv];exact h.c2
  ·rw [<- hv];exact h.c3
  ·rw [<- hv];exact h.c4
  ·rw [<- hv];exact h.c5
 have hl:=run_loadVar_mid (P:=Tryz.prog) w g 0 44 _ _ hr Tryz.underlying44 rfl rfl
 have hp':tmps[4]?.getD undef=.pointer (some ⟨g,0,none⟩):=by simpa using hp
 simp [results,hp',asAddr,hl]
theorem iNodeOf (x:Qu) (p:Int) (w:World) :
 Calls Tryz.prog 75 #[qv x,.int .i64 p] w fun e w'=>e=.returned (.agg #[.int .i64 (if x.all then 19 else 20),.int .i64 1,.int .i64 x.vr,.int .i64 p,.int .i64 x.bits,.int .i64 0])/\Below w.heap.size w w':=by
 obtain ⟨al,v,b⟩:=x
 obtain ⟨W,hW⟩:∃ W:World,W=w.alloc (.cells #[.int .i64 0,.int .i64 0,.int .i64 0,.int .i64 0,.int .i64 0,.int .i64 0] 44):=⟨_,rfl⟩
 obtain ⟨g,hg⟩:∃ g:Nat,g=w.heap.size:=⟨_,rfl⟩
 have HBW:Hid (Below w.heap.size w W):=by rw [hW];exact (Below.refl _ _).alloc (Nat.le_refl _) _
 have HNA:Hid (NodeAt W g 0 ⟨0,0,0,0,0,0⟩/\(∀ j,W.frozen? ⟨g,j,none⟩=false)/\g < W.heap.size):=by
  rw [hW,hg]
  exact ⟨⟨by rw [World.cell?_alloc_new];rfl,by rw [World.cell?_alloc_new];rfl,by rw [World.cell?_alloc_new];rfl,by rw [World.cell?_alloc_new];rfl,by rw [World.cell?_alloc_new];rfl,by rw [World.cell?_alloc_new];rfl⟩,fun j=>by simp,by simp⟩
 have HEND:Hid (∀ (w1:World) (n:Nd),Below W.heap.size W w1->Below w.heap.size w (setNode w1 g 0 n)):=fun w1 n h=>by
  have h1:=setNode_keptS (S:=fun b=>b=g) (b:=g) (p:=0) (n:=n) rfl (Kept.ofBelow h)
  exact HBW.out.trans (h1.below (fun b hb=>by have hb':b=g:=hb;omega) HBW.out.size)
 cases al
 ·have HO:Hid (∀ w,Calls Tryz.prog 107 #[.iface 130 (.agg #[.int .i64 v,.int .i64 b])] w fun e w'=>e=.returned (.int .i64 20)/\w'=w):=fun w=>iOpOf ⟨false,v,b⟩ w
  have hm:=findSome v b
  rw [qv_some]
  go_enter Tryz.func75,Tryz.ntmps75
  go_wp2_with fail
  rw [<- hW]
  refine (iVarSome v b W).mono ?_
  rintro e w1 ⟨rfl,hb1⟩
  have HB1:Hid (Below W.heap.size W w1):=hb1
  have hgw:g < w1.heap.size:=Nat.lt_of_lt_of_le HNA.out.2.2 hb1.size
  have HNX:Hid (NodeAt w1 g 0 ⟨0,0,0,0,0,0⟩):=HNA.out.1.below hb1 HNA.out.2.2
  obtain ⟨q0,q1,q2,q3,q4,q5⟩:=HNX.out
  simp only [Nat.zero_add] at q1 q2 q3 q4 q5
  have hf:∀ j,w1.frozen? ⟨g,j,none⟩=false:=fun j=>by rw [hb1.frozen HNA.out.2.2];exact HNA.out.2.1 j
  have f0:=hf 0
  have f1:=hf 1
  have f2:=hf 2
  have f3:=hf 3
  have f4:=hf 4
  have f5:=hf 5
  rw [<- hg]
  clear hb1 hW hm hf hg
  go_wp2_with (go_at_call 107;refine (HO.out _).mono ?_;rintro e w' ⟨rfl,hw'⟩;have hw'':=hw'.symm;clear hw';subst hw'')
  have HNN:=setNode_same (n:=⟨20,1,v,p,b,0⟩) HNX.out
  refine bodyPost_ret (v:=.agg #[.int .i64 20,.int .i64 1,.int .i64 v,.int .i64 p,.int .i64 b,.int .i64 0]) (results_node rfl HNN) rfl ⟨rfl,HEND.out _ ⟨20,1,v,p,b,0⟩ HB1.out⟩
 ·have HO:Hid (∀ w,Calls Tryz.prog 107 #[.iface 129 (.agg #[.int .i64 v,.int .i64 b])] w fun e w'=>e=.returned (.int .i64 19)/\w'=w):=fun w=>iOpOf ⟨true,v,b⟩ w
  have hm:=findAll v b
  rw [qv_all]
  go_enter Tryz.func75,Tryz.ntmps75
  go_wp2_with fail
  rw [<- hW]
  refine (iVarAll v b W).mono ?_
  rintro e w1 ⟨rfl,hb1⟩
  have HB1:Hid (Below W.heap.size W w1):=hb1
  have hgw:g < w1.heap.size:=Nat.lt_of_lt_of_le HNA.out.2.2 hb1.size
  have HNX:Hid (NodeAt w1 g 0 ⟨0,0,0,0,0,0⟩):=HNA.out.1.below hb1 HNA.out.2.2
  obtain ⟨q0,q1,q2,q3,q4,q5⟩:=HNX.out
  simp only [Nat.zero_add] at q1 q2 q3 q4 q5
  have hf:∀ j,w1.frozen? ⟨g,j,none⟩=false:=fun j=>by rw [hb1.frozen HNA.out.2.2];exact HNA.out.2.1 j
  have f0:=hf 0
  have f1:=hf 1
  have f2:=hf 2
  have f3:=hf 3
  have f4:=hf 4
  have f5:=hf 5
  rw [<- hg]
  clear hb1 hW hm hf hg
  go_wp2_with (go_at_call 107;refine (HO.out _).mono ?_;rintro e w' ⟨rfl,hw'⟩;have hw'':=hw'.symm;clear hw';subst hw'')
  have HNN:=setNode_same (n:=⟨19,1,v,p,b,0⟩) HNX.out
  refine bodyPost_ret (v:=.agg #[.int .i64 19,.int .i64 1,.int .i64 v,.int .i64 p,.int .i64 b,.int .i64 0]) (results_node rfl HNN) rfl ⟨rfl,HEND.out _ ⟨19,1,v,p,b,0⟩ HB1.out⟩
end Qi0
namespace Pb3
open Go.RowKit
open Nd0 Nd3 Tm0 Aq0 Ap13
open Ap2 (Own)
open Qa0 Qi0
open Lx1 (ITermOk)
theorem iTO (hTO:ITermOk) (w:World) (a:Option Addr) (l:List Nd) (c:Nat) (hN:Nodes w a l) (hcap:l.length<=c) :
 Calls Tryz.prog 15 #[.slice a l.length c] w fun e w'=>e=.returned (.bool (termOk l))/\Below w.heap.size w w':=by
 by_cases h:l.length<=80
 ·exact hTO w a l c hN hcap (by omega)
 ·have HE:Hid (termOk l=false):=term_long (by omega)
  have hm:=hN.1
  unfold maxLen at hm
  have g1:¬ (l.length:Int) < 1:=by omega
  have g2:(80:Int) < (l.length:Int):=by omega
  clear hN hcap
  go_enter Tryz.func15,Tryz.ntmps15
  go_wp2
  go_ret
  rw [HE.out]
  exact ⟨rfl,Below.refl _ _⟩
def moreL (L:List Nd):List Nd:=if termOk L then L else []
theorem nodeAt_kept {w w':World} {b p:Nat} {n:Nd} (h:NodeAt w b p n) {S:Nat->Prop} (k:Kept S w w') (hs:¬ S b):NodeAt w' b p n:=by
 have hb:=h.lt
 obtain ⟨c0,c1,c2,c3,c4,c5⟩:=h
 exact ⟨by rw [k.cell hb hs];exact c0,by rw [k.cell hb hs];exact c1,by rw [k.cell hb hs];exact c2,by rw [k.cell hb hs];exact c3,by rw [k.cell hb hs];exact c4,by rw [k.cell hb hs];exact c5⟩
theorem wnodes_below {w w':World} {B:Nat} {a:Option Addr} {l:List Nd} (h:WNodes w B a l) (k:Below w.heap.size w w'):WNodes w' B a l:=by
 refine ⟨h.1,?_⟩
 rcases h.2 with h0|⟨b,o,rfl,hB,hc,hf⟩
 ·exact .inl h0
 ·refine .inr ⟨b,o,rfl,hB,fun i hi=>(hc i hi).below k (hc i hi).lt,fun j hj=>?_⟩
  have hb:b < w.heap.size:=(hc 0 (by omega)).lt
  rw [(Kept.ofBelow (S:=fun _=>False) k).frozen (p:=⟨b,o+j,none⟩) hb (fun e=>e)]
  exact hf j hj
theorem iBehind (hTO:ITermOk) (w:World) (b o b2 o2:Nat) (l ys L:List Nd) (hL:l++ys=L) (c c2 m:Nat) (hm:m=ys.length) (hN:Nodes w (some ⟨b,o,none⟩) l) (hY:∀ i (h:i < ys.length),NodeAt w b2 (o2+i*6) ys[i]) (hlen:l.length+ys.length<=1048577) :
 Calls Tryz.prog 77 #[.slice (some ⟨b,o,none⟩) l.length c,.slice (some ⟨b2,o2,none⟩) m c2] w fun e w'=>(∃ a' c',e=.returned (.tuple #[.slice a' (moreL L).length c',.bool (termOk L)])/\WNodes w' w.heap.size a' (moreL L)/\(moreL L).length<=c')/\Below w.heap.size w w':=by
 have HTO:Hid ITermOk:=hTO
 have HLL:Hid (l++ys=L):=hL
 have HN:Hid (∀ i (h:i < l.length),NodeAt w b (o+i*6) l[i]):=fun i hi=>by
  rcases hN.2 with h0|⟨b',o',he,hc⟩
  ·omega
  ·cases he;exact hc i hi
 have HY:Hid (∀ i (h:i < ys.length),NodeAt w b2 (o2+i*6) ys[i]):=hY
 have HM:Hid (m=ys.length):=hm
 have HL:Hid (Own (w.alloc (.cells #[] 44)) w.heap.size (.slice (some ⟨w.heap.size,0,none⟩) ([]:List Nd).length 0) []):=Ap2.Own.lit w _ (Nat.le_refl _)
 have HBA:Hid (Below w.heap.size w (w.alloc (.cells #[] 44))):=(Below.refl _ _).alloc (Nat.le_refl _) _
 clear hN hY hTO hm hL
 obtain ⟨W0,hW0⟩:∃ W0:World,W0=w.alloc (.cells #[] 44):=⟨_,rfl⟩
 have hsz:w.heap.size<=W0.heap.size:=by rw [hW0];simp
 rw [<- hW0] at HL HBA
 have HNW:Hid (∀ i (h:i < l.length),NodeAt W0 b (o+i*6) l[i]):=fun i hi=>(HN.out i hi).below HBA.out (HN.out i hi).lt
 go_enter Tryz.func77,Tryz.ntmps77
 go_wp2_with (at_builtin;go_must (first
  | (rw [<- hW0];refine app_any W0 rfl _ _ rfl w.heap.size w.heap.size 0 [] l l rfl b o c 0 l.length rfl rfl rfl rfl HNW.out HL.out hsz (by simp;omega) ?_;intro g1 cp1 w1 ho1 hk1;have HYW:Hid (∀ i (h:i < ys.length),NodeAt w1 b2 (o2+i*6) ys[i]):=(fun i hi=>by have hlt:=(HY.out i hi).lt;exact nodeAt_kept ((HY.out i hi).below HBA.out hlt) hk1 (fun e=>by omega));have HB1:Hid (Below w.heap.size w w1):=HBA.out.trans (hk1.below (fun k hk=>by omega) hsz);have hs1:w.heap.size<=w1.heap.size:=HB1.out.size;have HO1:Hid (Own w1 w.heap.size (.slice (some ⟨g1,0,none⟩) l.length cp1) l):=ho1;clear hsz hW0 ho1 hk1)
  | (refine app_any w1 rfl _ _ rfl w.heap.size g1 cp1 l ys L HLL.out b2 o2 c2 l.length m rfl rfl rfl HM.out HYW.out HO1.out hs1 hlen ?_;intro g2 cp2 w2 ho2 hk2;have HB2:Hid (Below w.heap.size w w2):=HB1.out.trans (hk2.below (fun k hk=>by have:=HO1.out.lt g1 rfl;omega) hs1);have HO2:Hid (Own w2 w.heap.size (.slice (some ⟨g2,0,none⟩) L.length cp2) L):=ho2;clear ho2 hk2 hs1)))
 have hcp:=(Ap7.own_cap HO2.out).2
 obtain ⟨av,cv,hv,hwn⟩:=HO2.out.form
 obtain ⟨rfl,rfl⟩:av=some ⟨g2,0,none⟩/\cv=cp2:=by cases hv;exact ⟨rfl,rfl⟩
 have HW2:Hid (WNodes w2 w.heap.size (some ⟨g2,0,none⟩) L):=hwn
 have HML:Hid (moreL L=if termOk L then L else []):=rfl
 clear hv hwn HL HBA HNW HO1 HYW HB1 HN HY hlen
 refine (iTO HTO.out _ (some ⟨g2,0,none⟩) L cv HW2.out.nodes hcp).mono ?_
 rintro e w3 ⟨rfl,hb3⟩
 have HB3:Hid (Below w.heap.size w w3):=HB2.out.trans (hb3.mono HB2.out.size)
 have HW3:Hid (WNodes w3 w.heap.size (some ⟨g2,0,none⟩) L):=wnodes_below HW2.out hb3
 have HCP:Hid (L.length<=cv):=hcp
 clear hb3 HW2 hcp HO2
 cases hT:termOk L
 ·rw [hT] at HML
  have HTT:Hid (termOk L=false):=hT
  go_wp2
  go_ret2
  rw [HTT.out,HML.out]
  exact ⟨⟨_,_,rfl,⟨Nat.zero_le _,.inl rfl⟩,Nat.zero_le _⟩,HB3.out.alloc HB3.out.size _⟩
 ·rw [hT] at HML
  have HTT:Hid (termOk L=true):=hT
  go_wp2
  go_ret2
  rw [HTT.out,HML.out]
  exact ⟨⟨_,_,rfl,HW3.out,HCP.out⟩,HB3.out⟩
end Pb3
end Go.Proofs.YthanhcobfehmnaaGreat
