import Derived.Deep.Upon
import Derived.Test.YtfhdbcfhhbdiiaaPkXW12
namespace Go.Proofs.Ytfhdbcfhhbdiiaa
set_option maxRecDepth 100000
set_option maxHeartbeats 8000000
set_option linter.unusedVariables false
namespace Wq0
open Go.RowKit
open Nd0 (Kept Ints lt_of_cell)
open Nd6 (Bools)
open Ap0
theorem add_at (b o j:Nat):(⟨b,o,none⟩:Addr).add j=⟨b,o+j,none⟩:=by simp [Addr.add]
theorem allIs {ops:Array Oper} {rest:List Oper} {o:Oper} {a:Act} {Q:Exit->Act->World->Prop} (W:World) (hgd:o.guard=none) (s x:Operand)
 (ho:o.op=.call { callee:=.builtin .append,args := #[s,x],argTypes := #[35,35] })
 (l:List Int) (y:Option Addr) (c G:Nat) (hs:a.eval s=.slice (some ⟨G,0,none⟩) 0 0) (hG:G=W.heap.size) (hx:a.eval x=.slice y l.length c) (hP:Ints W y l) (hl:l.length<=1048576)
 (h:∀ v w',Ows w' W.heap.size v l->Below W.heap.size W w'->wpList Try.prog ops Q rest (a.put o.dst v) w') :
 wpList Try.prog ops Q (o :: rest) a (W.alloc (.cells #[] 3)):=by
 subst hG
 obtain ⟨i,hi,hzz⟩:=Option.map_eq_some_iff.1 infoInt
 simp only [Prod.mk.injEq] at hzz
 obtain ⟨hz,hsz,hb⟩:=hzz
 have hB:Below W.heap.size W (W.alloc (.cells #[] 3)):=(Below.refl _ _).alloc (Nat.le_refl _) _
 cases y with
 | none =>
   have hl0:l.length=0:=by
    rcases hP.2 with e|⟨b,o,hb,_⟩
    ·exact e
    ·cases hb
   have hE:l=[]:=List.eq_nil_of_length_eq_zero hl0
   refine wpList_plain hgd fun K hK=>?_
   have hr:=run_append_nothing (P:=Try.prog) (W.alloc (.cells #[] 3)) 35 35 o.type 3 i Try.underlying35 hi (some ⟨W.heap.size,0,none⟩) 0 0 (Nat.le_refl _) (.slice none l.length c) (by rw [hl0];exact Src.ofNil _ Try.underlying35 c)
   unfold Oper.wp execOp
   simp only [ho,resolve,invoke,builtin,Sem.run_bind,Sem.run_pure,Result.andThen_ok,List.map_toArray,List.map_cons,List.map_nil,hs,hx,hr]
   exact hK _ _ (h _ _ (by rw [hE];exact Ows.lit W W.heap.size (Nat.le_refl _)) hB)
 | some ad =>
   refine wpList_append_own_at (P:=Try.prog) (W.alloc (.cells #[] 3)) hgd s x 35 ho W.heap.size 3 i _ 1 8 Try.underlying35 hi hz hsz hb rfl (by omega) (.slice (some ⟨W.heap.size,0,none⟩) 0 0) 0 [] hs (Ows.lit W W.heap.size (Nat.le_refl _)) ad l.length c (l.map fun x=>Value.int .i64 x) hx (by simp) ?_ (fun u hu=>by
    obtain ⟨n,_,rfl⟩:=List.mem_map.1 hu
    rfl) (by unfold maxLen;omega) (by omega) (by simp) ?_
   ·rcases hP.2 with e|⟨b,o,hb,hc⟩
    ·intro j u hu
     have:l=[]:=List.eq_nil_of_length_eq_zero e
     subst this
     cases hu
    ·cases hb
     exact (fun j u hu=>by
     have hj:j < l.length:=by have:=(List.getElem?_eq_some_iff.1 hu).1;simpa using this
     rw [add_at,hB.cell (lt_of_cell (hc j hj)),hc j hj,<- hu]
     simp [hj])
   ·intro v' w' h1 h2 h3 h4
    rw [Nat.zero_add,List.nil_append] at h1
    exact h v' w' h1 (hB.trans ⟨h2.os,h2.tape,h2.output,by have:=h2.size;have:=hB.size;omega,fun k hk=>h2.block k (Nat.lt_of_lt_of_le hk hB.size) (fun e=>by simp [Value.ownBlock] at e;omega)⟩)
theorem slc (b o n c t c1:Nat) (h:n+1<=c) (ht:t=if c=1 then o else o+1) (h1:c1=c - 1) (w:World) :
 (Instr.slice 24 (.slice (some ⟨b,o,none⟩) (n+1) c) (some (.int .i64 1)) none none).run Try.prog w=.ok (.slice (some ⟨b,t,none⟩) n c1) w:=by
 rw [run_slice_l w 24 _ _ _ Try.underlying24 .i64 1 (by omega) (by omega)]
 subst ht h1
 by_cases e:c=1
 ·simp [go_sem,e,sliced]
 ·simp [go_sem,e,sliced]
theorem tail {W:World} {a:Option Addr} {q:Bool} {r:List Bool} {c:Nat} (h:Bools W a (q :: r)) (hc:r.length+1<=c):∃ b o,a=some ⟨b,o,none⟩/\W.cell? ⟨b,o,none⟩=some (.bool q)/\∃ t,t=(if c=1 then o else o+1)/\Bools W (some ⟨b,t,none⟩) r:=by
 rcases h.2 with h0|⟨b,o,ha,hx⟩
 ·simp at h0
 ·refine ⟨b,o,ha,hx 0 (by simp),_,rfl,?_⟩
  refine ⟨by have:=h.1;simp at this;omega,?_⟩
  by_cases e:r.length=0
  ·exact .inl e
  ·rw [if_neg (by omega)]
   refine .inr ⟨b,o+1,rfl,fun i hi=>?_⟩
   have:=hx (i+1) (by simpa using hi)
   rw [show o+1+i=o+(i+1) by omega]
   simpa using this
end Wq0
end Go.Proofs.Ytfhdbcfhhbdiiaa
