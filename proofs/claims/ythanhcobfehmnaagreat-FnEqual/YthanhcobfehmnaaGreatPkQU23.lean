import Derived.Deep.RegionHeld
import Derived.Test.YthanhcobfehmnaaGreatDw2
namespace Go.Proofs.YthanhcobfehmnaaGreat
set_option maxRecDepth 100000
set_option maxHeartbeats 8000000
set_option linter.unusedVariables false
namespace Dw3
open Go.RowKit
open Nd0 Nd3 Ap2
theorem flat_app (l ys:List Nd):flat (l++ys)=flat l++flat ys:=by simp [flat]
theorem nodes_cells {W:World} {gx ox:Nat} {ys:List Nd} (hy:∀ i (h:i < ys.length),NodeAt W gx (ox+i*6) ys[i]) (j:Nat) (u:Value) (hu:(flat ys)[j]? = some u):W.cell? ((⟨gx,ox,none⟩:Addr).add j)=some u:=by
 have hadd:(⟨gx,ox,none⟩:Addr).add j=⟨gx,ox+j,none⟩:=by unfold Addr.add;split<;>simp_all
 rw [hadd]
 have hj:j < (flat ys).length:=(List.getElem?_eq_some_iff.1 hu).1
 rw [flat_length] at hj
 have hi:j / 6 < ys.length:=by omega
 have hf:=flat_get ys (j / 6) hi (j % 6) (Nat.mod_lt _ (by omega))
 have e:j / 6*6+j % 6=j:=by omega
 rw [e,hu] at hf
 obtain ⟨c0,c1,c2,c3,c4,c5⟩:=hy (j / 6) hi
 have h6:j % 6=0\/j % 6=1\/j % 6=2\/j % 6=3\/j % 6=4\/j % 6=5:=by omega
 rcases h6 with r|r|r|r|r|r
 ·rw [r] at hf;have e2:ox+j=ox+j / 6*6:=by omega
  rw [e2,c0];exact hf.symm
 ·rw [r] at hf;have e2:ox+j=ox+j / 6*6+1:=by omega
  rw [e2,c1];exact hf.symm
 ·rw [r] at hf;have e2:ox+j=ox+j / 6*6+2:=by omega
  rw [e2,c2];exact hf.symm
 ·rw [r] at hf;have e2:ox+j=ox+j / 6*6+3:=by omega
  rw [e2,c3];exact hf.symm
 ·rw [r] at hf;have e2:ox+j=ox+j / 6*6+4:=by omega
  rw [e2,c4];exact hf.symm
 ·rw [r] at hf;have e2:ox+j=ox+j / 6*6+5:=by omega
  rw [e2,c5];exact hf.symm
/-- Some nodes more, at a step of a region that draws its order. -/
theorem step_app_nodes {ops:Array Oper} {o:Oper} {a:Act} {K:Act->World->Prop} {Q:Exit->Act->World->Prop} {E:Prop} (W:World) (hgd:o.guard=none) (s x:Operand)
 (ho:o.op=.call { callee:=.builtin .append,args := #[s,x],argTypes := #[24,24] })
 (B:Nat) (v:Value) (l ys:List Nd) (gx ox c:Nat) (hs:a.eval s=v) (hx:a.eval x=.slice (some ⟨gx,ox,none⟩) ys.length c)
 (hy:∀ i (h:i < ys.length),NodeAt W gx (ox+i*6) ys[i]) (hp:0 < ys.length)
 (hown:Ap2.Own W B v l) (hB:B<=W.heap.size) (hlen:l.length+ys.length<=1048577)
 (h:∀ g cap w',Ap2.Own w' B (.slice (some ⟨g,0,none⟩) (l.length+ys.length) cap) (l++ys)->Kept (fun k=>v.ownBlock=some k) W w'->(v.ownBlock=some g\/W.heap.size<=g)->K (a.put o.dst (.slice (some ⟨g,0,none⟩) (l.length+ys.length) cap)) w') :
 if Region.wanted o (yielded ops a.tmps)=true then Oper.wp Tryz.prog o a W K Q else E:=by
 obtain ⟨i,hi,hzz⟩:=Option.map_eq_some_iff.1 infoNode
 simp only [Prod.mk.injEq] at hzz
 obtain ⟨hz,hsz,hb⟩:=hzz
 refine step_append_lies W hgd s x 24 ho B 44 i _ 6 48 Tryz.underlying24 hi hz hsz hb rfl (by omega) v l.length (flat l) hs hown
  ⟨gx,ox,none⟩ ys.length c (flat ys) hx (flat_length ys) (fun j u hu=>nodes_cells hy j u hu) ?_ hp (by unfold maxLen;omega) (by omega) hB _ rfl ?_
 ·intro u hu
  obtain ⟨n,_,hn⟩:=List.mem_flatMap.1 hu
  simp [Nd.cells] at hn
  rcases hn with rfl|rfl|rfl|rfl|rfl|rfl<;>rfl
 ·intro g cap w' h1 h2 h3 h4
  refine h g cap w' ?_ ?_ ?_
  ·unfold Ap2.Own
   rw [flat_app,List.length_append]
   exact h1
  ·exact ⟨h2.os,h2.tape,h2.output,h2.size,fun k hk hn=>h2.block k hk (fun e=>hn e.symm)⟩
  ·rcases h3 with h3|h3
   ·exact .inl h3
   ·exact .inr (by rw [h3];exact Nat.le_refl _)
end Dw3
namespace Dw4
open Go.RowKit
open Nd0 Nd3 Ap2
theorem own_lit (W:World) (B g:Nat) (hg:g=W.heap.size) (hB:B<=g):Ap2.Own (W.alloc (.cells #[] 44)) B (.slice (some ⟨g,0,none⟩) 0 0) []:=by
 subst hg;exact Own.lit W B hB
theorem node_new (W:World) (n:Nd) (T g:Nat) (hg:g=W.heap.size):∀ i (h:i < [n].length),NodeAt (W.alloc (.cells #[.int .i64 n.op,.int .i64 n.w,.int .i64 n.k,.int .i64 n.a,.int .i64 n.b,.int .i64 n.c] T)) g (0+i*6) [n][i]:=by
 subst hg
 intro i hi
 have h0:i=0:=by simp at hi;exact hi
 subst h0
 refine ⟨?_,?_,?_,?_,?_,?_⟩<;>(rw [World.cell?_alloc_new];try rfl)
theorem node_kept {W W':World} {S:Nat->Prop} {n:Nd} {g:Nat} (k:Kept S W W') (hg:g < W.heap.size) (hs:¬ S g) (h:∀ i (h:i < [n].length),NodeAt W g (0+i*6) [n][i]):∀ i (h:i < [n].length),NodeAt W' g (0+i*6) [n][i]:=by
 intro i hi
 obtain ⟨c0,c1,c2,c3,c4,c5⟩:=h i hi
 exact ⟨by rw [k.cell (p:=⟨g,_,none⟩) hg hs];exact c0,by rw [k.cell (p:=⟨g,_,none⟩) hg hs];exact c1,by rw [k.cell (p:=⟨g,_,none⟩) hg hs];exact c2,by rw [k.cell (p:=⟨g,_,none⟩) hg hs];exact c3,by rw [k.cell (p:=⟨g,_,none⟩) hg hs];exact c4,by rw [k.cell (p:=⟨g,_,none⟩) hg hs];exact c5⟩
theorem own_ne {g h n c:Nat} (hne:g≠h):¬ (Value.slice (some ⟨g,0,none⟩) n c).ownBlock=some h:=by
 intro e
 have:some g=some h:=e
 exact hne (Option.some.inj this)
theorem sz2 (W:World) (o o':Obj):(((W.alloc o).alloc o').drew).heap.size=W.heap.size+1+1:=by
 show ((W.alloc o).alloc o').heap.size=_
 simp
theorem node_drew {W:World} {n:Nd} {g:Nat} (h:∀ i (h:i < [n].length),NodeAt W g (0+i*6) [n][i]):∀ i (h:i < [n].length),NodeAt W.drew g (0+i*6) [n][i]:=fun i hi=>⟨(h i hi).c0,(h i hi).c1,(h i hi).c2,(h i hi).c3,(h i hi).c4,(h i hi).c5⟩
end Dw4
namespace Dw3
open Go.RowKit
open Nd0 Nd3 Ap2 Dw0 Dw1 Dw2
open Dr0 (Cur Only Bytes Off)
theorem deepC (d:Nat):DeepC d:=by
 induction d with
 | zero=>exact deepAny 0 (fun d h=>by omega)
 | succ d ih=>exact deepAny (d+1) (fun d' h=>by have:d'=d:=by omega
                                                subst this;exact ih)
def gd:Nat->Nat
 | 0=>40
 | d+1=>2*gd d+1
theorem gd_ge (d:Nat):d+40<=gd d:=by
 induction d with
 | zero=>simp [gd]
 | succ d ih=>simp [gd];omega
theorem fd3:fd 3=40:=rfl
def MPost (b:Nat) (a:Option Addr) (len cap:Nat) (v:Value) (L:List Nd) (D:Nat) (next bits:Int) (w:World) (e:Ending) (w':World):Prop :=
 ∃ (v':Value) (L':List Nd) (at_ n' left:Int),e=.returned (.tuple #[v',.int .i64 at_,.int .i64 n',.int .i64 left])/\Dr w' b a len cap v' L'/\Stp b v v' w w'/\L'.length<=L.length+D/\next<=n'/\n'<=8/\0<=left/\left<=bits
def MadeC (d:Nat):Prop:=∀ (w:World) (b:Nat) (a:Option Addr) (len cap:Nat) (v:Value) (L:List Nd) (va:Option Addr) (vl:List Nd) (vc:Nat) (next bits D:Int),D=(d:Int)->Dr w b a len cap v L->Vs w b v va vl->(∀ i (h:i < vl.length),1<=vl[i].w/\vl[i].w<=8)->(vl.length:Int)<=next->next<=8->0<=bits->bits<=100->L.length+gd d<=1048576 ->
 Calls Tryz.prog 120 #[.pointer (some ⟨b,0,none⟩),v,.slice va vl.length vc,.int .i64 next,.int .i64 bits,.int .i64 D] w (MPost b a len cap v L (gd d) next bits w)
end Dw3
end Go.Proofs.YthanhcobfehmnaaGreat
