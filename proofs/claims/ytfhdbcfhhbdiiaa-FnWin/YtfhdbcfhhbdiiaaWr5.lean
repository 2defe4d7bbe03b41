import Derived.Test.YtfhdbcfhhbdiiaaWr4
namespace Go.Proofs.Ytfhdbcfhhbdiiaa
set_option maxRecDepth 100000
set_option maxHeartbeats 8000000
set_option linter.unusedVariables false
namespace Wr5
open Go.RowKit
open Nd0 (Kept Ints WInts At Ats lt_of_cell set_same)
open Nd6 (Bools)
open Op6 (Pk PkAt Pks)
open Ta1 (tab tab_length tokB tok_tab)
open Ta2 (bitB)
open Tc2 (tv ret_bool)
open Tc5 (Lay)
open Ss1 (tl bs_tl)
open Dp4 (iDecide0 iRuled0)
open Ap0 Wq0 Wp12 Wr0 Wr1 Wr4
/-- One pick in a block of its own. -/
theorem Lq.one (W:World) (B:Nat) (q:Pq) (hB:B<=W.heap.size) (hin:WInts W B q.a q.l):Lq (W.alloc (.cells #[.slice q.a q.l.length q.c,.int .i64 q.v] 61)) B W.heap.size 1 [q] :=
 ⟨⟨rfl,.inr ⟨W.heap.size,1,_,rfl,hB,heap_alloc_new W _,Nat.le_refl _,by unfold maxLen;omega,rfl,rfl⟩⟩,
  fun p hp=>by
   rw [List.mem_singleton.1 hp]
   exact wi_kept hin (S:=fun _=>False) ((Kept.refl _ _).alloc _) (fun _ _ h=>h),
  List.pairwise_singleton _ _,fun p hp h=>by
   rw [List.mem_singleton.1 hp] at h
   have:=(wi_own hin h).2
   omega⟩
theorem joined {W w':World} {B g cap g' cap' B2 g2 cap2:Nat} {qs ys:List Pq} (h1:Lq W B g cap qs) (h2:Lq W B2 g2 cap2 ys) (hBB:B<=B2) (hgy:∀ q∈ys,¬ q.own g) (hsep:∀ p∈qs,∀ b,p.own b->b < B2) (kk:Kept (fun k=>k=g) W w') (hg:g'=g\/W.heap.size<=g') (hr:w'.ownsRow B 61 2 (.slice (some ⟨g',0,none⟩) (qs.length+ys.length) cap') (qs.length+ys.length) (flatP qs++flatP ys)):Lq w' B g' cap' (qs++ys):=by
 have hy:∀ q∈ys,∀ b,q.own b->B2<=b/\b < W.heap.size:=fun q hq b hb=>wi_own (h2.ins q hq) hb
 refine ⟨?_,?_,?_,?_⟩
 ·rw [flatP_app,List.length_append]
  exact hr
 ·intro p hp
  rcases List.mem_append.1 hp with e|e
  ·exact wi_kept (h1.ins p e) kk fun b hb hbg=>h1.out p e (by rw [hbg] at hb;exact hb)
  ·have h3:=h2.ins p e
   refine wi_kept ⟨h3.1,h3.2.imp id fun ⟨x,y,e1,e2,e3⟩=>⟨x,y,e1,by omega,e3⟩⟩ kk fun b hb hbg=>hgy p e (by rw [hbg] at hb;exact hb)
 ·exact List.pairwise_append.2 ⟨h1.two,h2.two,fun p hp r hr b hb hb2=>by
   have:=hsep p hp b hb
   have:=(hy r hr b hb2).1
   omega⟩
 ·intro p hp hpg
  rcases List.mem_append.1 hp with e2|e2
  ·rcases hg with e|e
   ·rw [e] at hpg
    exact h1.out p e2 hpg
   ·have:=(wi_own (h1.ins p e2) hpg).2
    omega
  ·rcases hg with e|e
   ·rw [e] at hpg
    exact hgy p e2 hpg
   ·have:=hy p e2 g' hpg
    omega
theorem step_join {ops:Array Oper} {o:Oper} {a:Act} {K:Act->World->Prop} {Q:Exit->Act->World->Prop} {E:Prop} (W:World) (hgd:o.guard=none) (s x:Operand)
 (ho:o.op=.call { callee:=.builtin .append,args := #[s,x],argTypes := #[29,29] })
 (B g cap B2 g2 cap2 n:Nat) (qs ys:List Pq) (hn:n=qs.length) (hs:a.eval s=.slice (some ⟨g,0,none⟩) n cap) (hx:a.eval x=.slice (some ⟨g2,0,none⟩) ys.length cap2)
 (h1:Lq W B g cap qs) (h2:Lq W B2 g2 cap2 ys) (hBB:B<=B2) (hgy:∀ q∈ys,¬ q.own g) (hsep:∀ p∈qs,∀ b,p.own b->b < B2) (hB:B<=W.heap.size) (hlen:qs.length+ys.length<=1048576)
 (h:∀ g' cap' w',Lq w' B g' cap' (qs++ys)->Kept (fun k=>k=g) W w'->K (a.put o.dst (.slice (some ⟨g',0,none⟩) (qs.length+ys.length) cap')) w') :
 if Region.wanted o (yielded ops a.tmps)=true then Oper.wp Try.prog o a W K Q else E:=by
 subst hn
 rw [if_pos (by simp [Region.wanted,hgd])]
 obtain ⟨i,hi,hzz⟩:=Option.map_eq_some_iff.1 infoPk
 simp only [Prod.mk.injEq] at hzz
 obtain ⟨hz,hsz,hb⟩:=hzz
 obtain ⟨v',w',hr,k2,k3,k4,k5⟩:=run_append_own_at (P:=Try.prog) W B 29 o.type 61 i _ 2 32 Try.underlying29 hi hz hsz hb rfl (by omega) _ qs.length (flatP qs) h1.row ⟨g2,0,none⟩ ys.length cap2 (flatP ys) (flatP_length ys) (fun j u hu=>by
  have hj:j < ys.length*2:=by rw [<- flatP_length];exact (List.getElem?_eq_some_iff.1 hu).1
  have h3:=(h2.at_ (j / 2) (by omega) (j % 2) (Nat.mod_lt _ (by omega))).1
  rw [<- flatP_get ys (j / 2) (j % 2) (by omega) (Nat.mod_lt _ (by omega)),show j / 2*2+j % 2=j by omega] at h3
  rw [add_at,Nat.zero_add,h3,hu]) (fun u hu=>by
  obtain ⟨q,_,hq⟩:=List.mem_flatMap.1 hu
  simp [Pq.cells] at hq
  rcases hq with rfl|rfl<;>rfl) (by unfold maxLen;omega) (by omega) hB
 unfold Oper.wp execOp
 simp only [ho,resolve,invoke,builtin,Sem.run_bind,Sem.run_pure,Result.andThen_ok,List.map_toArray,List.map_cons,List.map_nil,hs,hx,hr]
 rcases k2.2 with ⟨e,_⟩|⟨g',cap',cur,e,hbg,hgg,rest⟩
 ·rw [e] at k4
  have:=k4.1 rfl
  cases this.1
 ·subst e
  have kk:Kept (fun k=>k=g) W w':=⟨k3.os,k3.tape,k3.output,k3.size,fun k hk hn=>k3.block k hk (fun e=>hn (by cases e;rfl))⟩
  have hg:g'=g\/W.heap.size<=g':=by
   rcases k5 with e|e
   ·cases e;exact .inl rfl
   ·cases e;exact .inr (Nat.le_refl _)
  exact h g' cap' w' (joined h1 h2 hBB hgy hsep kk hg k2) kk
theorem step_int {ops:Array Oper} {o:Oper} {a:Act} {K:Act->World->Prop} {Q:Exit->Act->World->Prop} {E:Prop} (W:World) (hgd:o.guard=none) (s x:Operand)
 (ho:o.op=.call { callee:=.builtin .append,args := #[s,x],argTypes := #[35,35] })
 (B:Nat) (v:Value) (l:List Int) (y:Int) (hs:a.eval s=v) (G:Nat) (hx:a.eval x=.slice (some ⟨G,0,none⟩) 1 1) (hy:W.cell? ⟨G,0,none⟩=some (.int .i64 y))
 (hown:Ows W B v l) (hB:B<=W.heap.size) (hlen:l.length<=1048576)
 (h:∀ g cap w',Ows w' B (.slice (some ⟨g,0,none⟩) (l.length+1) cap) (l++[y])->Kept (fun k=>v.ownBlock=some k) W w'->K (a.put o.dst (.slice (some ⟨g,0,none⟩) (l.length+1) cap)) w') :
 if Region.wanted o (yielded ops a.tmps)=true then Oper.wp Try.prog o a W K Q else E:=by
 obtain ⟨i,hi,hzz⟩:=Option.map_eq_some_iff.1 infoInt
 simp only [Prod.mk.injEq] at hzz
 obtain ⟨hz,hsz,hb⟩:=hzz
 refine step_append_lies W hgd s x 35 ho B 3 i _ 1 8 Try.underlying35 hi hz hsz hb rfl (by omega) v l.length (l.map fun x=>.int .i64 x) hs hown
  ⟨G,0,none⟩ 1 1 [.int .i64 y] hx rfl ?_ (by intro u hu;simp at hu;subst hu;rfl) (by omega) (by unfold maxLen;omega) (by omega) hB _ rfl ?_
 ·intro j u hu
  rw [add_at,Nat.zero_add]
  match j,hu with
  | 0,hu=>rw [hy];exact hu
 ·intro g cap w' h1 h2 h3 h4
  refine h g cap w' ?_ ?_
  ·unfold Ows
   simpa using h1
  ·exact ⟨h2.os,h2.tape,h2.output,h2.size,fun k hk hn=>h2.block k hk (fun e=>hn e.symm)⟩
theorem step_call {ops:Array Oper} {o:Oper} {a:Act} {w:World} {K:Act->World->Prop} {Q:Exit->Act->World->Prop} {E:Prop} {f:Nat} {args:Array Value} (hgd:o.guard=none) (hrun:(execOp a.eval o).run Try.prog w=.ok (.enter f args) w)
 (hc:Calls Try.prog f args w fun e w'=>∃ v,e=.returned v/\K (a.put o.dst v) w'):if Region.wanted o (yielded ops a.tmps)=true then Oper.wp Try.prog o a w K Q else E:=by
 rw [if_pos (by simp [Region.wanted,hgd])]
 unfold Oper.wp
 rw [hrun,Oper.upon_enter]
 refine hc.mono ?_
 rintro e w' ⟨v,rfl,h⟩
 exact h
/-- Where there is no game. -/
theorem iWinN (N:Int) (S:ByteArray) (ra:Option Addr) (L c:Nat) (w:World) (hS:S.size<=1048576) (h:¬ (tokB N (tl S)=true/\(L:Int)=N)) :
 Calls Try.prog 7 #[.slice ra L c,tv N S] w fun e w'=>∃ g cap qs,e=.returned (.tuple #[.slice (some ⟨g,0,none⟩) qs.length cap,.int .i64 0,.bool false])/\qs.map Pq.pk=[]/\Lq w' w.heap.size g cap qs/\Below w.heap.size w w':=by
 obtain ⟨X1,hX1⟩:∃ X,X=(((w.alloc (.cells #[.slice ra L c] 24)).alloc (.cells #[.int .i64 N,.string S] 26)).alloc (.cells #[] 61)).alloc (.cells #[.slice (some ⟨w.heap.size+1+1,0,none⟩) 0 0] 29):=⟨_,rfl⟩
 have b1:Below w.heap.size w X1:=by rw [hX1];exact ((((Below.refl _ _).alloc (Nat.le_refl _) _).alloc (by simp) _).alloc (by simp;omega) _).alloc (by simp;omega) _
 have HB1:Hid (Below w.heap.size w X1):=b1
 have HW1:Hid (Wi X1 w.heap.size ra L c N S 29):=by rw [hX1];exact Wi.made _ _ _ _ _ _ _ _ _
 have HDE:Hid (∀ W,Calls Try.prog 27 #[.slice ra L c,tv N S] W fun e w'=>e=.returned (.tuple #[.int .i64 0,.bool false])/\Below W.heap.size W w'):=fun W=>iDecide0 ra L c W hS h
 have HGA:Hid (∀ W,Calls Try.prog 28 #[.int .i64 0,.slice ra L c,tv N S] W fun e w'=>e=.returned (.tuple #[gv 0 ⟨#[]⟩ 0 none 0 0,.bool false])/\Below W.heap.size W w'):=fun W=>iGame0 N S 0 ra L c W (fun h2=>h h2.1) (fun W=>⟨false,fun e=>(by cases e),(iRuled0 ra L c W hS h).mono fun e w' hh=>by
  obtain ⟨he,hb⟩:=hh
  exact ⟨_,_,_,_,_,_,_,he,hb⟩⟩)
 clear b1
 go_enter Try.func7,Try.ntmps7
 go_upto_region 2 with fail
 rw [<- hX1]
 clear hX1
 obtain ⟨c0,c1,c2,_,_⟩:=HW1.out
 have l0:=lt_of_cell c0
 have l1:=lt_of_cell c1
 go_wp2_with fail
 clear c0 c1 c2 l0 l1
 refine (HDE.out _).mono ?_
 rintro e w2 ⟨rfl,hb2⟩
 have HB2:Hid (Below w.heap.size w w2):=HB1.out.trans (hb2.mono HB1.out.size)
 have HW2:Hid (Wi w2 w.heap.size ra L c N S 29):=HW1.out.below hb2
 clear hb2 HW1 HB1
 obtain ⟨c0,c1,c2,_,_⟩:=HW2.out
 have l0:=lt_of_cell c0
 have l1:=lt_of_cell c1
 go_wp2_with fail
 clear c0 c1 c2 l0 l1
 refine (HGA.out _).mono ?_
 rintro e w3 ⟨rfl,hb3⟩
 have HB3:Hid (Below w.heap.size w w3):=HB2.out.trans (hb3.mono HB2.out.size)
 have HW3:Hid (Wi w3 w.heap.size ra L c N S 29):=HW2.out.below hb3
 clear hb3 HW2 HB2
 have cm:=HW3.out.cm
 have lm:=lt_of_cell cm
 go_wp2
 go_ret3
 have ha:∀ o,Below w3.heap.size w3 (w3.alloc o):=fun o=>(Below.refl _ _).alloc (Nat.le_refl _) _
 refine ⟨w.heap.size+1+1,0,[],rfl,rfl,⟨⟨rfl,.inr ⟨w.heap.size+1+1,0,#[],rfl,by omega,(HW3.out.below (ha _)).b2,Nat.le_refl _,Nat.zero_le _,rfl,rfl⟩⟩,fun _ hq=>(by cases hq),List.Pairwise.nil,fun _ hq=>(by cases hq)⟩,HB3.out.alloc HB3.out.size _⟩
end Wr5
end Go.Proofs.Ytfhdbcfhhbdiiaa
