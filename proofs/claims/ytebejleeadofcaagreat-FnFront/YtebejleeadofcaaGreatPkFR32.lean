import Derived.Laws.MakeOwn
import Derived.Test.YtebejleeadofcaaGreatPkFR0
import Derived.Test.YtebejleeadofcaaGreatPkFR24
import Derived.Test.YtebejleeadofcaaGreatPkFR30
import Derived.Test.YtebejleeadofcaaGreatPkFR2
namespace Go.Proofs.YtebejleeadofcaaGreat
set_option maxRecDepth 100000
set_option maxHeartbeats 8000000
set_option linter.unusedVariables false
namespace Nd4
open Go.RowKit
open Nd0 Nd1 Nd3
theorem infoNode:(Tryz.prog.info? 58).map (fun i=>(i.zero,i.size,i.bytes))=some (some (.agg #[.int .i64 0,.int .i64 0,.int .i64 0,.int .i64 0,.int .i64 0,.int .i64 0]),6,48):=by kernel_rfl
def zeros (n:Nat):Array Value:=madeCells #[.int .i64 0,.int .i64 0,.int .i64 0,.int .i64 0,.int .i64 0,.int .i64 0] (n*6)
theorem zeros_get (n j:Nat) (h:j < n*6):(zeros n)[j]? = some (.int .i64 0):=by
 have hz:∀ m,m < 6->(#[.int .i64 0,.int .i64 0,.int .i64 0,.int .i64 0,.int .i64 0,.int .i64 0]:Array Value)[m]! = .int .i64 0:=by
  intro m hm
  have:m=0\/m=1\/m=2\/m=3\/m=4\/m=5:=by omega
  rcases this with rfl|rfl|rfl|rfl|rfl|rfl<;>rfl
 simp only [zeros,madeCells,Array.getElem?_map,Array.getElem?_range]
 rw [if_pos h]
 simp only [Option.map_some]
 exact congrArg some (hz _ (Nat.mod_lt _ (by simp)))
theorem makeNodes (n:Nat) (hn:n<=1048576) (w:World) :
 (Instr.makeSlice 24 (.int .i64 (n:Int)) (.int .i64 (n:Int))).run Tryz.prog w=.ok (.slice (some ⟨w.heap.size,0,none⟩) n n) (w.alloc (.cells (zeros n) 58)):=by
 obtain ⟨i,hi,hzz⟩:=Option.map_eq_some_iff.1 infoNode
 simp only [Prod.mk.injEq] at hzz
 obtain ⟨hz,hs,hb⟩:=hzz
 have h:=run_make (P:=Tryz.prog) w 24 58 i _ Tryz.underlying24 hi hz .i64 .i64 n n (by omega) (Int.le_refl _) (by rw [hb];omega) (by omega)
 rw [hs] at h
 simpa [zeros,Value.cells] using h
theorem zeros_at (w:World) (n:Nat) (T:Nat) (j:Nat) (hj:j < n):NodeAt (w.alloc (.cells (zeros n) T)) w.heap.size (j*6) Nd.zero:=by
 refine ⟨?_,?_,?_,?_,?_,?_⟩<;>rw [World.cell?_alloc_new]<;>exact zeros_get _ _ (by omega)
end Nd4
namespace Pg2
open Go.RowKit
open Nd0 Tm0 Tm5 Pl1 Ap0 Pg1
open Ws1 (ret_int ret_bool)
theorem app_ints {ops:Array Oper} {rest:List Oper} {o:Oper} {a:Act} {Q:Exit->Act->World->Prop} (W:World) (hgd:o.guard=none) (s x:Operand)
 (ho:o.op=.call { callee:=.builtin .append,args := #[s,x],argTypes := #[39,39] })
 (B:Nat) (v:Value) (l ys:List Int) (g c:Nat) (hs:a.eval s=v) (hx:a.eval x=.slice (some ⟨g,0,none⟩) ys.length c)
 (hy:∀ j (h:j < ys.length),W.cell? ⟨g,j,none⟩=some (.int .i64 ys[j])) (hp:0 < ys.length)
 (hown:Ows W B v l) (hB:B<=W.heap.size) (hlen:l.length+ys.length<=1048577)
 (h:∀ g cap w',Ows w' B (.slice (some ⟨g,0,none⟩) (l.length+ys.length) cap) (l++ys)->Kept (fun k=>v.ownBlock=some k) W w'->wpList Tryz.prog ops Q rest (a.put o.dst (.slice (some ⟨g,0,none⟩) (l.length+ys.length) cap)) w') :
 wpList Tryz.prog ops Q (o :: rest) a W:=by
 obtain ⟨i,hi,hzz⟩:=Option.map_eq_some_iff.1 infoInt
 simp only [Prod.mk.injEq] at hzz
 obtain ⟨hz,hsz,hb⟩:=hzz
 refine wpList_append_lies W hgd s x 39 ho B 3 i (.int .i64 0) 1 8 Tryz.underlying39 hi hz hsz hb rfl (by omega) v l.length (l.map fun x=>.int .i64 x) hs hown
  ⟨g,0,none⟩ ys.length c (ys.map fun x=>.int .i64 x) hx (by simp) ?_ ?_ hp (by unfold maxLen;omega) (by omega) hB _ rfl ?_
 ·intro j u hu
  have hadd:(⟨g,0,none⟩:Addr).add j=⟨g,j,none⟩:=by unfold Addr.add;split<;>simp_all
  rw [hadd]
  rw [List.getElem?_map] at hu
  obtain ⟨y,hy1,rfl⟩:=Option.map_eq_some_iff.1 hu
  obtain ⟨hj,rfl⟩:=List.getElem?_eq_some_iff.1 hy1
  exact hy j hj
 ·intro u hu
  obtain ⟨y,_,rfl⟩:=List.mem_map.1 hu
  rfl
 ·intro g cap w' h1 h2 h3 h4
  refine h g cap w' ?_ ?_
  ·unfold Ows
   simpa using h1
  ·exact ⟨h2.os,h2.tape,h2.output,h2.size,fun k hk hn=>h2.block k hk (fun e=>hn e.symm)⟩
theorem ows_lit (W:World) (B g:Nat) (hg:g=W.heap.size) (hB:B<=g):Ows (W.alloc (.cells #[] 3)) B (.slice (some ⟨g,0,none⟩) 0 0) []:=by
 subst hg;exact Ows.lit W B hB
theorem get3 (x y z:Int) (W:World) (g t:Nat) (k:Nat) (hk:k<=3) (hg:g=W.heap.size) (j:Nat) (h:j < (([x,y,z]:List Int).take k).length) (o:Obj) :
 ((W.alloc (.cells #[.int .i64 x,.int .i64 y,.int .i64 z] t)).alloc o).cell? ⟨g,j,none⟩=some (.int .i64 (([x,y,z]:List Int).take k)[j]):=by
 subst hg
 rw [World.cell?_alloc_old _ _ _ (by simp),World.cell?_alloc_new]
 have h3:j < 3:=by simp at h;omega
 rcases j with _|_|_|j
 ·simp
 ·simp
 ·simp
 ·omega
theorem iParts (n:Nd) (w:World) :
 Calls Tryz.prog 35 #[.agg #[.int .i64 n.op,.int .i64 n.w,.int .i64 n.k,.int .i64 n.a,.int .i64 n.b,.int .i64 n.c]] w fun e w'=>(∃ a c,e=.returned (.slice a (parts n).length c)/\WInts w' w.heap.size a (parts n))/\Below w.heap.size w w':=by
 have HP:Hid (parts n=([n.a,n.b,n.c]:List Int).take (cnt n.op)):=by
  show parts n=_
  unfold parts cnt;split
  ·rfl
  ·split
   ·rfl
   ·split<;>rfl
 have hc3:=cnt_le n.op
 by_cases h1:cnt n.op=0
 ·go_enter Tryz.func35,Tryz.ntmps35
  go_wp2_with (go_at_call 64;refine (iCount _ _).mono ?_;rintro e w' ⟨rfl,rfl⟩;rw [h1])
  go_ret
  rw [HP.out,h1]
  exact ⟨⟨_,_,rfl,Nat.zero_le _,.inl rfl⟩,(((Below.refl _ _).alloc (Nat.le_refl _) _).alloc (by simp) _).alloc (by simp;omega) _⟩
 ·obtain ⟨l3,hl3⟩:∃ l3:List Int,l3=([n.a,n.b,n.c]:List Int).take (cnt n.op):=⟨_,rfl⟩
  have HL3:Hid (l3=([n.a,n.b,n.c]:List Int).take (cnt n.op)):=hl3
  have hlen:l3.length=cnt n.op:=by rw [hl3,List.length_take];simp;omega
  have HLN:Hid (l3.length=cnt n.op):=hlen
  have hcz:(cnt n.op:Int)<=3:=by omega
  clear hl3 hlen
  go_enter Tryz.func35,Tryz.ntmps35
  go_wp2_with (first|(go_at_call 64;refine (iCount _ _).mono ?_;rintro e w' ⟨rfl,rfl⟩)|(at_builtin;go_must (refine app_ints _ rfl _ _ rfl w.heap.size (.slice (some ⟨w.heap.size+1+1,0,none⟩) 0 0) [] l3 (w.heap.size+1) 3 rfl (by rw [HLN.out];rfl) (fun j h=>by have h9:=HL3.out;subst h9;exact get3 _ _ _ _ _ _ _ hc3 (by simp) _ h _) (by rw [HLN.out];omega) (ows_lit _ _ _ (by simp) (by omega)) (by simp;omega) (by rw [HLN.out];simp;omega) ?_;intro g cp w3 ho3 hk3)))
  have HO3:Hid (Ows w3 w.heap.size (.slice (some ⟨g,0,none⟩) (([]:List Int).length+l3.length) cp) ([]++l3)):=ho3
  have HK3:=hk3.below (B:=w.heap.size) (fun k hk=>by cases hk;show w.heap.size<=w.heap.size+1+1;omega) (by simp;omega)
  have HB3:Hid (Below w.heap.size w w3):=((((Below.refl _ _).alloc (Nat.le_refl _) _).alloc (by simp) _).alloc (by simp;omega) _).trans HK3
  clear ho3 hk3 HK3
  go_wp2
  go_ret
  obtain ⟨a9,c9,hv9,hw9⟩:=HO3.out.form
  simp only [List.nil_append,List.length_nil,Nat.zero_add] at hv9 hw9
  rw [HP.out,<- HL3.out]
  cases hv9
  refine ⟨⟨some ⟨g,0,none⟩,cp,?_,hw9⟩,HB3.out⟩
  simp
end Pg2
namespace Pg10
open Go.RowKit
open Nd0 Nd3 Tm0 Tm1 Tm2 Tm3 Tm8 Ap2 Pg1 Pg2 Rw0
open Lx1 (ITermOk)
open Lx2 (IReached)
open Ws1 (ret_int ret_bool)
def mv (P:Nat->Int) (n:Nd):Nd :=
 ⟨n.op,n.w,n.k,if 0 < cnt n.op then P n.a.toNat else n.a,if 1 < cnt n.op then P n.b.toNat else n.b,if 2 < cnt n.op then P n.c.toNat else n.c⟩
theorem iMoved (n:Nd) (w:World) (gp len cap:Nat) (P:Nat->Int) (hr:Row w gp len (fun i=>.int .i64 (P i))) (hp:∀ p∈parts n,0<=p/\p < (len:Int)) (hl:len<=80) :
 Calls Tryz.prog 47 #[.agg #[.int .i64 n.op,.int .i64 n.w,.int .i64 n.k,.int .i64 n.a,.int .i64 n.b,.int .i64 n.c],.slice (some ⟨gp,0,none⟩) len cap] w fun e w' =>
  e=.returned (.agg #[.int .i64 (mv P n).op,.int .i64 (mv P n).w,.int .i64 (mv P n).k,.int .i64 (mv P n).a,.int .i64 (mv P n).b,.int .i64 (mv P n).c])/\Below w.heap.size w w':=by
 have hc3:=cnt_le n.op
 have hcp:=cnt_parts n
 have HC:Hid (cnt n.op=0\/cnt n.op=1\/cnt n.op=2\/cnt n.op=3):=by show _\/_;omega
 have HV:Hid (mv P n=⟨n.op,n.w,n.k,if 0 < cnt n.op then P n.a.toNat else n.a,if 1 < cnt n.op then P n.b.toNat else n.b,if 2 < cnt n.op then P n.c.toNat else n.c⟩):=rfl
 have HPC:=parts_cases n
 have HA:Hid (0 < cnt n.op->∃ j:Nat,n.a=(j:Int)/\j < len/\w.cell? ⟨gp,j,none⟩=some (.int .i64 (P n.a.toNat))):=by
  show _->_
  intro h
  have hm:n.a∈parts n:=by
   rcases HPC with e|e|e|e
   ·rw [e] at hcp;simp at hcp;omega
   ·rw [e];simp
   ·rw [e];simp
   ·rw [e];simp
  obtain ⟨h0,h1⟩:=hp _ hm
  exact ⟨n.a.toNat,by omega,by omega,(hr n.a.toNat (by omega)).1⟩
 have HB:Hid (1 < cnt n.op->∃ j:Nat,n.b=(j:Int)/\j < len/\w.cell? ⟨gp,j,none⟩=some (.int .i64 (P n.b.toNat))):=by
  show _->_
  intro h
  have hm:n.b∈parts n:=by
   rcases HPC with e|e|e|e
   ·rw [e] at hcp;simp at hcp;omega
   ·rw [e] at hcp;simp at hcp;omega
   ·rw [e];simp
   ·rw [e];simp
  obtain ⟨h0,h1⟩:=hp _ hm
  exact ⟨n.b.toNat,by omega,by omega,(hr n.b.toNat (by omega)).1⟩
 have HD:Hid (2 < cnt n.op->∃ j:Nat,n.c=(j:Int)/\j < len/\w.cell? ⟨gp,j,none⟩=some (.int .i64 (P n.c.toNat))):=by
  show _->_
  intro h
  have hm:n.c∈parts n:=by
   rcases HPC with e|e|e|e
   ·rw [e] at hcp;simp at hcp;omega
   ·rw [e] at hcp;simp at hcp;omega
   ·rw [e] at hcp;simp at hcp;omega
   ·rw [e];simp
  obtain ⟨h0,h1⟩:=hp _ hm
  exact ⟨n.c.toNat,by omega,by omega,(hr n.c.toNat (by omega)).1⟩
 clear hc3 hcp HPC hr hp
 generalize mv P n=u at HV ⊢
 generalize P n.a.toNat=xa at HV HA
 generalize P n.b.toNat=xb at HV HB
 generalize P n.c.toNat=xc at HV HD
 obtain ⟨op,m,k,a,b,c⟩:=n
 dsimp only at *
 rcases HC.out with hc|hc|hc|hc
 ·have HK:Hid (cnt op=_):=hc
  clear HA HB HD
  go_enter Tryz.func47,Tryz.ntmps47
  go_wp2_with (go_at_call 64;refine (iCount _ _).mono ?_;rintro e w' ⟨rfl,rfl⟩;rw [hc])
  refine bodyPost_ret (v:=.agg #[.int .i64 u.op,.int .i64 u.w,.int .i64 u.k,.int .i64 u.a,.int .i64 u.b,.int .i64 u.c]) ?_ rfl ⟨rfl,?_⟩
  ·have h9:=HV.out
   rw [HK.out] at h9
   simp at h9
   subst h9
   simp [results,Tryz.results47,go_sem]
  ·exact ((Below.refl _ _).alloc (Nat.le_refl _) _).alloc (by simp) _
 ·have HK:Hid (cnt op=_):=hc
  obtain ⟨ja,rfl,hja,pa⟩:=HA.out (by omega)
  have hz1:(ja:Int) < (len:Int):=by omega
  have hn0:gp < w.heap.size:=lt_of_cell (p:=⟨gp,ja,none⟩) pa
  have hn1:gp < w.heap.size+1:=by omega
  clear HA HB HD
  go_enter Tryz.func47,Tryz.ntmps47
  go_wp2_with (go_at_call 64;refine (iCount _ _).mono ?_;rintro e w' ⟨rfl,rfl⟩;rw [hc])
  refine bodyPost_ret (v:=.agg #[.int .i64 u.op,.int .i64 u.w,.int .i64 u.k,.int .i64 u.a,.int .i64 u.b,.int .i64 u.c]) ?_ rfl ⟨rfl,?_⟩
  ·have h9:=HV.out
   rw [HK.out] at h9
   simp at h9
   subst h9
   simp [results,Tryz.results47,go_sem]
  ·exact ((Below.refl _ _).alloc (Nat.le_refl _) _).alloc (by simp) _
 ·have HK:Hid (cnt op=_):=hc
  obtain ⟨ja,rfl,hja,pa⟩:=HA.out (by omega)
  obtain ⟨jb,rfl,hjb,pb⟩:=HB.out (by omega)
  have hz1:(ja:Int) < (len:Int):=by omega
  have hz2:(jb:Int) < (len:Int):=by omega
  have hn0:gp < w.heap.size:=lt_of_cell (p:=⟨gp,ja,none⟩) pa
  have hn1:gp < w.heap.size+1:=by omega
  clear HA HB HD
  go_enter Tryz.func47,Tryz.ntmps47
  go_wp2_with (go_at_call 64;refine (iCount _ _).mono ?_;rintro e w' ⟨rfl,rfl⟩;rw [hc])
  refine bodyPost_ret (v:=.agg #[.int .i64 u.op,.int .i64 u.w,.int .i64 u.k,.int .i64 u.a,.int .i64 u.b,.int .i64 u.c]) ?_ rfl ⟨rfl,?_⟩
  ·have h9:=HV.out
   rw [HK.out] at h9
   simp at h9
   subst h9
   simp [results,Tryz.results47,go_sem]
  ·exact ((Below.refl _ _).alloc (Nat.le_refl _) _).alloc (by simp) _
 ·have HK:Hid (cnt op=_):=hc
  obtain ⟨ja,rfl,hja,pa⟩:=HA.out (by omega)
  obtain ⟨jb,rfl,hjb,pb⟩:=HB.out (by omega)
  obtain ⟨jc,rfl,hjc,pc⟩:=HD.out (by omega)
  have hz1:(ja:Int) < (len:Int):=by omega
  have hz2:(jb:Int) < (len:Int):=by omega
  have hz3:(jc:Int) < (len:Int):=by omega
  have hn0:gp < w.heap.size:=lt_of_cell (p:=⟨gp,ja,none⟩) pa
  have hn1:gp < w.heap.size+1:=by omega
  clear HA HB HD
  go_enter Tryz.func47,Tryz.ntmps47
  go_wp2_with (go_at_call 64;refine (iCount _ _).mono ?_;rintro e w' ⟨rfl,rfl⟩;rw [hc])
  refine bodyPost_ret (v:=.agg #[.int .i64 u.op,.int .i64 u.w,.int .i64 u.k,.int .i64 u.a,.int .i64 u.b,.int .i64 u.c]) ?_ rfl ⟨rfl,?_⟩
  ·have h9:=HV.out
   rw [HK.out] at h9
   simp at h9
   subst h9
   simp [results,Tryz.results47,go_sem]
  ·exact ((Below.refl _ _).alloc (Nat.le_refl _) _).alloc (by simp) _
end Pg10
namespace Pg11
open Go.RowKit
open Nd0 Nd3 Tm0 Tm1 Tm2 Tm3 Tm8 Ap2 Pg1 Pg2 Rw0 Pg10
open Lx1 (ITermOk)
open Lx2 (IReached)
theorem infoInt:(Tryz.prog.info? 3).map (fun i=>(i.zero,i.size,i.bytes))=some (some (.int .i64 0),1,8):=by kernel_rfl
def noughts (n:Nat):Array Value:=madeCells #[.int .i64 0] (n*1)
theorem noughts_get (n j:Nat) (h:j < n):(noughts n)[j]? = some (.int .i64 0):=by
 simp only [noughts,madeCells,Array.getElem?_map,Array.getElem?_range]
 rw [if_pos (by omega)]
 simp only [Option.map_some,List.size_toArray,List.length_cons,List.length_nil,Nat.zero_add,Nat.mod_one]
 rfl
theorem makeInts (n:Nat) (hn:n<=1048576) (w:World) :
 (Instr.makeSlice 39 (.int .i64 (n:Int)) (.int .i64 (n:Int))).run Tryz.prog w=.ok (.slice (some ⟨w.heap.size,0,none⟩) n n) (w.alloc (.cells (noughts n) 3)):=by
 obtain ⟨i,hi,hzz⟩:=Option.map_eq_some_iff.1 infoInt
 simp only [Prod.mk.injEq] at hzz
 obtain ⟨hz,hs,hb⟩:=hzz
 have h:=run_make (P:=Tryz.prog) w 39 3 i _ Tryz.underlying39 hi hz .i64 .i64 n n (by omega) (Int.le_refl _) (by rw [hb];omega) (by omega)
 rw [hs] at h
 simpa [noughts,Value.cells] using h
theorem own_room {w:World} {B n c:Nat} {a:Option Addr} {L:List Nd} (h:Ap2.Own w B (.slice a n c) L):L.length<=c:=by
 obtain ⟨h1,h2⟩:=h
 rcases h2 with ⟨h0,h9⟩|⟨g',cap,cur,he,hb,hg,hn,rest⟩
 ·cases h0;omega
 ·cases he;exact hn
theorem iPrune (hTO:ITermOk) (hRE:IReached) (w:World) (a:Option Addr) (l:List Nd) (c:Nat) (hN:Nodes w a l) (hcap:l.length<=c) (hlen:l.length<=1048576) :
 Calls Tryz.prog 48 #[.slice a l.length c] w fun e w'=>(∃ a' c',e=.returned (.slice a' (pruneL l).length c')/\WNodes w' w.heap.size a' (pruneL l)/\(pruneL l).length<=c')/\Below w.heap.size w w':=by
 have HN:Hid (Nodes w a l):=hN
 have HTO:Hid ITermOk:=hTO
 have HRE:Hid IReached:=hRE
 have HCAP:Hid (l.length<=c):=hcap
 clear hcap hN hTO hRE
 go_enter Tryz.func48,Tryz.ntmps48
 go_wp2_with fail
 refine (HTO.out _ a l c (HN.out.below ((Below.refl _ _).alloc (Nat.le_refl _) _)) HCAP.out hlen).mono ?_
 rintro e w1 ⟨rfl,hb1⟩
 have HB1:Hid (Below w.heap.size w w1):=((Below.refl _ _).alloc (Nat.le_refl _) _).trans (hb1.mono (by simp))
 have HL1:Hid (Ap2.Own w1 w.heap.size (.slice (some ⟨w.heap.size,0,none⟩) 0 0) []):=(Own.lit w _ (Nat.le_refl _)).kept (S:=fun _=>False) (Kept.ofBelow hb1) (fun _ _ h=>h)
 clear hb1
 cases hT:termOk l
 ·have HE:Hid (pruneL l=[]):=by
   show _=_
   unfold pruneL;rw [hT];rfl
  go_wp2
  go_ret
  rw [HE.out]
  exact ⟨⟨_,_,rfl,⟨Nat.zero_le _,.inl rfl⟩,Nat.zero_le _⟩,HB1.out⟩
 ·have HT:Hid (termOk l=true):=hT
  obtain ⟨hl1,hl2⟩:=term_len hT
  clear hT
  have hmk:=makeInts l.length hlen
  go_wp2_with fail
  clear hmk
  have hAl:Below w1.heap.size w1 (w1.alloc (.cells (noughts l.length) 3)):=(Below.refl _ _).alloc (Nat.le_refl _) _
  have HRW0:Hid (Row (w1.alloc (.cells (noughts l.length) 3)) w1.heap.size l.length (fun i=>.int .i64 ((fun _=>0) i))):=Row.new _ _ _ _ _ (fun i hi=>noughts_get _ _ hi)
  refine (HRE.out _ a l c ((HN.out.below HB1.out).below hAl) HCAP.out hlen).mono ?_
  rintro e w2 ⟨⟨a2,c2,rfl,hi2⟩,hb2⟩
  have hszA:(w1.alloc (.cells (noughts l.length) 3)).heap.size=w1.heap.size+1:=by simp
  have HR2:Hid (Row w2 w1.heap.size l.length (fun i=>.int .i64 ((fun _=>0) i))):=HRW0.out.below hb2
  have HRE2:Hid (reachedL l=reachTo l l.length):=by
   show _=_
   unfold reachedL;rw [HT.out];rfl
  have HI2:Hid (IntsIn w2 (w1.heap.size+1) w2.heap.size a2 (reachTo l l.length)):=by
   have h9:=hi2.within
   rw [hszA,HRE2.out] at h9
   exact h9
  have HB2:Hid (Below w.heap.size w w2):=(HB1.out.trans (hAl.mono HB1.out.size)).trans (hb2.mono (by have:=HB1.out.size;omega))
  have hs2:w1.heap.size+1<=w2.heap.size:=by rw [<- hszA];exact hb2.size
  have HL2:Hid (Ap2.Own w2 w.heap.size (.slice (some ⟨w.heap.size,0,none⟩) 0 0) []):=(HL1.out.kept (S:=fun _=>False) (Kept.ofBelow hAl) (fun _ _ h=>h)).kept (S:=fun _=>False) (Kept.ofBelow hb2) (fun _ _ h=>h)
  have HW1:Hid (w.heap.size < w1.heap.size):=(HL1.out.lt w.heap.size rfl).2
  have HTR:Hid (termOk l=true):=HT.out
  clear hi2 hb2 hAl HRW0 hszA
  rw [HRE2.out]
  obtain ⟨gp,hgp⟩:∃ gp:Nat,gp=w1.heap.size:=⟨_,rfl⟩
  rw [<- hgp] at HR2 HI2 HW1 hs2 ⊢
  clear hgp
  have hRl:=reachTo_length l l.length
  go_wp2_with fail
  go_loopw [3,18] (fun v q wr=>∃ j:Nat,j<=(reachTo l l.length).length/\q=.int .i64 j/\Ap2.Own wr w.heap.size v (((reachTo l l.length).take j).map fun p=>remap l (nth l p.toNat))/\Below w.heap.size w wr/\(∃ P:Nat->Int,Row wr gp l.length (fun i=>.int .i64 (P i))/\∀ p,p < l.length->flag (reachL l) p=true->(reachTo l p).length < j->P p=((reachTo l p).length:Int))/\IntsIn wr (gp+1) w2.heap.size a2 (reachTo l l.length)/\w2.heap.size<=wr.heap.size/\∀ x,v.ownBlock=some x->x < gp\/w2.heap.size<=x) (fun _ q _=>(reachTo l l.length).length - (intOf q).toNat)
  case atStart=>exact ⟨0,Nat.zero_le _,rfl,HL2.out,HB2.out,⟨_,HR2.out,fun p _ _ h=>by omega⟩,HI2.out,Nat.le_refl _,fun x hx=>by cases hx;exact .inl HW1.out⟩
  case round =>
   clear HL2 HB2 HR2 HI2
   obtain ⟨j,hj,rfl,ho,hb,⟨P,hr,hP⟩,hi,hsz,hne⟩:=hrel
   have HB:Hid (Below w.heap.size w wr):=hb
   have HR:Hid (Row wr gp l.length (fun i=>.int .i64 (P i))):=hr
   have HP:Hid (∀ p,p < l.length->flag (reachL l) p=true->(reachTo l p).length < j->P p=((reachTo l p).length:Int)):=hP
   have HI:Hid (IntsIn wr (gp+1) w2.heap.size a2 (reachTo l l.length)):=hi
   have hBs:w.heap.size<=wr.heap.size:=hb.size
   clear hb hr hP hi
   obtain ⟨ao,co,rfl,hwn⟩:=ho.form
   have HO:Hid (Ap2.Own wr w.heap.size (.slice ao (((reachTo l l.length).take j).map fun p=>remap l (nth l p.toNat)).length co) (((reachTo l l.length).take j).map fun p=>remap l (nth l p.toNat))):=ho
   have HNE:Hid (∀ x,(Value.slice ao (((reachTo l l.length).take j).map fun p=>remap l (nth l p.toNat)).length co).ownBlock=some x->x < gp\/w2.heap.size<=x):=hne
   have HLJ:Hid ((((reachTo l l.length).take j).map fun p=>remap l (nth l p.toNat)).length=j):=by
    show _=_
    rw [List.length_map,List.length_take];omega
   clear ho hne
   by_cases hlt:j < (reachTo l l.length).length
   ·have hjz:(j:Int) < ((reachTo l l.length).length:Int):=by omega
    clear hwn
    obtain ⟨x,hx,hxl,hxf,hxj⟩:=reach_at l l.length j hlt
    have HTK:Hid ((((reachTo l l.length).take (j+1)).map fun p=>remap l (nth l p.toNat))=(((reachTo l l.length).take j).map fun p=>remap l (nth l p.toNat))++[remap l (nth l x)]):=by
     show _=_
     rw [List.take_succ_eq_append_getElem hlt,List.map_append,hx];simp
    generalize hL:(((reachTo l l.length).take j).map fun p=>remap l (nth l p.toNat))=L at HO HNE HLJ HTK
    clear hL
    rcases HI.out.2 with h0|⟨pb,po,rfl,hpB,hpU,hpc⟩
    ·omega
    have q0:=(hpc j hlt).1
    rw [hx] at q0
    clear hpc hx
    obtain ⟨c1,c3⟩:=HR.out x hxl
    have hxz:(x:Int) < (l.length:Int):=by omega
    have hgl:gp < wr.heap.size:=by omega
    have HXF:Hid (flag (reachL l) x=true):=hxf
    have HXJ:Hid ((reachTo l x).length=j):=hxj
    clear hxf hxj
    have HRS:Hid (Row (wr.setCell ⟨gp,x,none⟩ (.int .i64 (L.length:Int))) gp l.length (fun i=>.int .i64 ((fun i=>if i=x then (L.length:Int) else P i) i))):=by
     refine (HR.out.set hxl _).congr (fun i hi=>?_)
     by_cases e:i=x
     ·simp [e]
     ·simp [e]
    have hKS:Kept (fun b=>b=gp) wr (wr.setCell ⟨gp,x,none⟩ (.int .i64 (L.length:Int))):=(Kept.refl (fun b=>b=gp) wr).setCell (p:=⟨gp,x,none⟩) rfl _
    have HOS:Hid (Ap2.Own (wr.setCell ⟨gp,x,none⟩ (.int .i64 (L.length:Int))) w.heap.size (.slice ao L.length co) L):=HO.out.kept hKS (fun b hb e=>by have:=HNE.out b hb;omega)
    have HIS:Hid (IntsIn (wr.setCell ⟨gp,x,none⟩ (.int .i64 (L.length:Int))) (gp+1) w2.heap.size (some ⟨pb,po,none⟩) (reachTo l l.length)):=HI.out.kept hKS (fun b h1 h2 e=>by omega)
    have HBS:Hid (Below w.heap.size w (wr.setCell ⟨gp,x,none⟩ (.int .i64 (L.length:Int)))):=HB.out.trans (hKS.below (fun b (hb:b=gp)=>by have:=HW1.out;omega) hBs)
    have hss:(wr.setCell ⟨gp,x,none⟩ (.int .i64 (L.length:Int))).heap.size=wr.heap.size:=by simp [World.setCell]
    have HSS:Hid ((wr.setCell ⟨gp,x,none⟩ (.int .i64 (L.length:Int))).heap.size=wr.heap.size):=hss
    clear hss hKS
    rcases (HN.out.below HBS.out).2 with h0|⟨xb,xo,rfl,hc⟩
    ·omega
    obtain ⟨p0,p1,p2,p3,p4,p5⟩:=hc x hxl
    rw [nth_get hxl] at p0 p1 p2 p3 p4 p5
    clear hc
    have HPR:Hid (∀ p∈parts (nth l x),0<=p/\p < (l.length:Int)):=by
     show ∀ _,_
     intro p hp
     have:=down_of HTR.out x hxl p hp
     omega
    have HMV:Hid (mv (fun i=>if i=x then (L.length:Int) else P i) (nth l x)=remap l (nth l x)):=by
     show _=_
     have hq:∀ p∈parts (nth l x),(if p.toNat=x then (L.length:Int) else P p.toNat)=plc l p:=by
      intro p hp
      have hd:=down_of HTR.out x hxl p hp
      have hf:=reach_closed (down_of HTR.out) hxl HXF.out hp
      rw [if_neg (by omega)]
      have h1:=reachTo_lt l (a:=p.toNat) (b:=x) (by omega) hf
      rw [HXJ.out] at h1
      exact HP.out p.toNat (by omega) hf h1
     have hcp:=cnt_parts (nth l x)
     generalize nth l x=n at hq hcp
     unfold mv remap
     rw [hcp]
     have ha:0 < cnt n.op->n.a∈parts n:=by
      intro h
      rcases parts_cases n with e|e|e|e
      ·rw [e] at hcp;simp at hcp;omega
      ·rw [e];simp
      ·rw [e];simp
      ·rw [e];simp
     have hb:1 < cnt n.op->n.b∈parts n:=by
      intro h
      rcases parts_cases n with e|e|e|e
      ·rw [e] at hcp;simp at hcp;omega
      ·rw [e] at hcp;simp at hcp;omega
      ·rw [e];simp
      ·rw [e];simp
     have hc:2 < cnt n.op->n.c∈parts n:=by
      intro h
      rcases parts_cases n with e|e|e|e
      ·rw [e] at hcp;simp at hcp;omega
      ·rw [e] at hcp;simp at hcp;omega
      ·rw [e] at hcp;simp at hcp;omega
      ·rw [e];simp
     congr 1
     ·by_cases h:0 < cnt n.op
      ·rw [if_pos h,if_pos h];exact hq _ (ha h)
      ·rw [if_neg h,if_neg h]
     ·by_cases h:1 < cnt n.op
      ·rw [if_pos h,if_pos h];exact hq _ (hb h)
      ·rw [if_neg h,if_neg h]
     ·by_cases h:2 < cnt n.op
      ·rw [if_pos h,if_pos h];exact hq _ (hc h)
      ·rw [if_neg h,if_neg h]
    go_wp2_with fail
    generalize wr.setCell ⟨gp,x,none⟩ (.int .i64 (L.length:Int))=ws at HRS HOS HIS HBS HSS p0 p1 p2 p3 p4 p5 ⊢
    refine (iMoved (nth l x) _ gp l.length l.length _ HRS.out HPR.out hl2).mono ?_
    rintro e w4 ⟨rfl,hb4⟩
    rw [HMV.out]
    have HO4:Hid (Ap2.Own w4 w.heap.size (.slice ao L.length co) L):=HOS.out.kept (S:=fun _=>False) (Kept.ofBelow hb4) (fun _ _ h=>h)
    have HI4:Hid (IntsIn w4 (gp+1) w2.heap.size (some ⟨pb,po,none⟩) (reachTo l l.length)):=HIS.out.kept (S:=fun _=>False) (Kept.ofBelow hb4) (fun _ _ _ h=>h)
    have HR4:Hid (Row w4 gp l.length (fun i=>.int .i64 ((fun i=>if i=x then (L.length:Int) else P i) i))):=HRS.out.below hb4
    have HB4:Hid (Below w.heap.size w w4):=HBS.out.trans (hb4.mono HBS.out.size)
    have hs4:wr.heap.size<=w4.heap.size:=by have:=hb4.size;have:=HSS.out;omega
    have hB4:w.heap.size<=w4.heap.size:=by omega
    have hLl:L.length<=1048576:=by have:=HLJ.out;omega
    clear hb4 p0 p1 p2 p3 p4 p5 c1 c3
    generalize hy:remap l (nth l x)=y at HTK
    clear hy HMV
    go_wp2_with (at_builtin;go_must (refine app_node _ rfl _ _ rfl w.heap.size (.slice ao L.length co) L y rfl _ rfl rfl HO4.out hB4 hLl ?_;intro g5 cp5 w5 ho5 hk5 hg5))
    have HO5:Hid (Ap2.Own w5 w.heap.size (.slice (some ⟨g5,0,none⟩) (L.length+1) cp5) (L++[y])):=ho5
    have HK5:Hid (Kept (fun k=>(Value.slice ao L.length co).ownBlock=some k) w4 w5):=hk5
    have HG5:Hid ((Value.slice ao L.length co).ownBlock=some g5\/w4.heap.size<=g5):=hg5
    clear ho5 hk5 hg5
    go_wp2
    go_roundw
    case rel =>
     refine ⟨j+1,by omega,by go_num,by rw [HTK.out];exact HO5.out,HB4.out.trans (HK5.out.below (fun b hb=>(HO4.out.lt b hb).1) hB4),⟨_,HR4.out.kept HK5.out (fun e=>by have:=HNE.out gp e;omega),fun p hp hf hpj=>?_⟩,HI4.out.kept HK5.out (fun b h1 h2 e=>by have:=HNE.out b e;omega),by have:=HK5.out.size;omega,fun b hb=>?_⟩
     ·by_cases e:p=x
      ·subst e
       rw [if_pos rfl,HLJ.out,HXJ.out]
      ·rw [if_neg e]
       refine HP.out p hp hf ?_
       rcases Nat.lt_or_ge (reachTo l p).length j with h|h
       ·exact h
       ·exact absurd (reachTo_inj l hf HXF.out (by rw [HXJ.out];omega)) e
     ·cases hb
      rcases HG5.out with e|e
      ·exact HNE.out _ e
      ·exact .inr (by show _<=g5;omega)
    case measure=>simp [intOf];omega
   ·have e2:j=(reachTo l l.length).length:=by omega
    have HPE:Hid (pruneL l=((reachTo l l.length).take j).map fun p=>remap l (nth l p.toNat)):=by
     show _=_
     unfold pruneL;rw [HTR.out,if_pos rfl,prune_map,List.take_of_length_le (by omega)]
    have HCO:Hid ((((reachTo l l.length).take j).map fun p=>remap l (nth l p.toNat)).length<=co):=own_room HO.out
    have HW:Hid (WNodes wr w.heap.size ao (((reachTo l l.length).take j).map fun p=>remap l (nth l p.toNat))):=hwn
    have hjz:¬ (j:Int) < ((reachTo l l.length).length:Int):=by omega
    clear hwn HO HNE HLJ e2
    generalize (((reachTo l l.length).take j).map fun p=>remap l (nth l p.toNat))=L at HPE HW HCO ⊢
    go_wp2
    go_ret
    rw [HPE.out]
    exact ⟨⟨ao,co,rfl,HW.out,HCO.out⟩,HB.out⟩
end Pg11
end Go.Proofs.YtebejleeadofcaaGreat
