import Derived.Maps.AppendAt
import Derived.Test.YtfhdbcfhhbdiiaaWr0
import Derived.Test.YtfhdbcfhhbdiiaaWq0
namespace Go.Proofs.Ytfhdbcfhhbdiiaa
set_option maxRecDepth 100000
set_option maxHeartbeats 8000000
set_option linter.unusedVariables false
namespace Wr1
open Go.RowKit
open Nd0 (Kept Ints WInts IntsIn At Ats marks marks_length lt_of_cell set_same set_other)
open Nd6 (Bools)
open Op6 (Pk PkAt Pks)
open Ap0 Wp0 Wp7 Wq0 Wr0
set_option linter.unusedSimpArgs false
theorem infoPk:(Try.prog.info? 61).map (fun i=>(i.zero,i.size,i.bytes))=some (some (.agg #[.slice none 0 0,.int .i64 0]),2,32):=by kernel_rfl
theorem more {W w':World} {B g cap g' cap':Nat} {qs:List Pq} {q:Pq} (hown:Lq W B g cap qs) (hin:WInts W B q.a q.l) (hng:¬ q.own g) (hap:∀ p∈qs,∀ b,p.own b->¬ q.own b) (kk:Kept (fun k=>k=g) W w') (hg:g'=g\/W.heap.size<=g') (h2:w'.ownsRow B 61 2 (.slice (some ⟨g',0,none⟩) (qs.length+1) cap') (qs.length+1) (flatP qs++q.cells)):Lq w' B g' cap' (qs++[q]):=by
 refine ⟨?_,?_,?_,?_⟩
 ·rw [flatP_app,List.length_append,List.length_singleton,show flatP [q]=q.cells from by simp [flatP]]
  exact h2
 ·intro p hp
  rcases List.mem_append.1 hp with e|e
  ·exact wi_kept (hown.ins p e) kk fun b hb hbg=>hown.out p e (by rw [hbg] at hb;exact hb)
  ·rw [List.mem_singleton.1 e]
   exact wi_kept hin kk fun b hb hbg=>hng (by rw [hbg] at hb;exact hb)
 ·refine List.pairwise_append.2 ⟨hown.two,List.pairwise_singleton _ _,fun p hp r hr=>?_⟩
  rw [List.mem_singleton.1 hr]
  exact hap p hp
 ·intro p hp hpg
  rcases hg with e|e
  ·rw [e] at hpg
   rcases List.mem_append.1 hp with e2|e2
   ·exact hown.out p e2 hpg
   ·rw [List.mem_singleton.1 e2] at hpg
    exact hng hpg
  ·rcases List.mem_append.1 hp with e2|e2
   ·have:=(wi_own (hown.ins p e2) hpg).2;omega
   ·rw [List.mem_singleton.1 e2] at hpg
    have:=(wi_own hin hpg).2;omega
theorem step_pick {ops:Array Oper} {o:Oper} {a:Act} {K:Act->World->Prop} {Q:Exit->Act->World->Prop} {E:Prop} (W:World) (hgd:o.guard=none) (s x:Operand)
 (ho:o.op=.call { callee:=.builtin .append,args := #[s,x],argTypes := #[29,29] })
 (B g cap X:Nat) (qs:List Pq) (q:Pq) (hs:a.eval s=.slice (some ⟨g,0,none⟩) qs.length cap) (hx:a.eval x=.slice (some ⟨X,0,none⟩) 1 1)
 (h0:W.cell? ⟨X,0,none⟩=some (.slice q.a q.l.length q.c)) (h1:W.cell? ⟨X,1,none⟩=some (.int .i64 q.v))
 (hin:WInts W B q.a q.l) (hown:Lq W B g cap qs) (hng:¬ q.own g) (hap:∀ p∈qs,∀ b,p.own b->¬ q.own b) (hB:B<=W.heap.size) (hlen:qs.length<=1048576)
 (h:∀ g' cap' w',Lq w' B g' cap' (qs++[q])->Kept (fun k=>k=g) W w'->(g'=g\/W.heap.size<=g')->K (a.put o.dst (.slice (some ⟨g',0,none⟩) (qs.length+1) cap')) w') :
 if Region.wanted o (yielded ops a.tmps)=true then Oper.wp Try.prog o a W K Q else E:=by
 obtain ⟨i,hi,hzz⟩:=Option.map_eq_some_iff.1 infoPk
 simp only [Prod.mk.injEq] at hzz
 obtain ⟨hz,hsz,hb⟩:=hzz
 refine step_append_lies W hgd s x 29 ho B 61 i _ 2 32 Try.underlying29 hi hz hsz hb rfl (by omega) _ qs.length (flatP qs) hs hown.row
  ⟨X,0,none⟩ 1 1 q.cells hx rfl ?_ ?_ (by omega) (by unfold maxLen;omega) (by omega) hB _ rfl ?_
 ·intro j u hu
  rw [add_at,Nat.zero_add]
  match j,hu with
  | 0,hu=>rw [h0];exact hu
  | 1,hu=>rw [h1];exact hu
 ·intro u hu
  simp [Pq.cells] at hu
  rcases hu with rfl|rfl<;>rfl
 ·intro g' cap' w' h2 h3 h4 h5
  have hg:g'=g\/W.heap.size<=g':=by
   rcases h4 with e|e
   ·cases e;exact .inl rfl
   ·exact .inr (by omega)
  have kk:Kept (fun k=>k=g) W w':=⟨h3.os,h3.tape,h3.output,h3.size,fun k hk hn=>h3.block k hk (fun e=>hn (by cases e;rfl))⟩
  exact h g' cap' w' (more hown hin hng hap kk hg h2) kk hg
theorem step_ints {ops:Array Oper} {o:Oper} {a:Act} {K:Act->World->Prop} {Q:Exit->Act->World->Prop} {E:Prop} (W:World) (hgd:o.guard=none) (s x:Operand)
 (ho:o.op=.call { callee:=.builtin .append,args := #[s,x],argTypes := #[35,35] })
 (B G:Nat) (l:List Int) (y:Option Addr) (c:Nat) (hs:a.eval s=.slice (some ⟨G,0,none⟩) 0 0) (hx:a.eval x=.slice y l.length c) (hO:Ows W B (.slice (some ⟨G,0,none⟩) 0 0) []) (hB:B<=W.heap.size) (hP:Ints W y l) (hl:l.length<=1048576)
 (h:∀ v w',Ows w' B v l->Kept (fun k=>k=G) W w'->(∀ b,v.ownBlock=some b->b=G\/W.heap.size<=b)->K (a.put o.dst v) w') :
 if Region.wanted o (yielded ops a.tmps)=true then Oper.wp Try.prog o a W K Q else E:=by
 rw [if_pos (by simp [Region.wanted,hgd])]
 obtain ⟨i,hi,hzz⟩:=Option.map_eq_some_iff.1 infoInt
 simp only [Prod.mk.injEq] at hzz
 obtain ⟨hz,hsz,hb⟩:=hzz
 cases y with
 | none =>
   have hl0:l.length=0:=by
    rcases hP.2 with e|⟨b,o,hb,_⟩
    ·exact e
    ·cases hb
   have hE:l=[]:=List.eq_nil_of_length_eq_zero hl0
   have hr:=run_append_nothing (P:=Try.prog) W 35 35 o.type 3 i Try.underlying35 hi (some ⟨G,0,none⟩) 0 0 (Nat.le_refl _) (.slice none l.length c) (by rw [hl0];exact Src.ofNil _ Try.underlying35 c)
   unfold Oper.wp execOp
   simp only [ho,resolve,invoke,builtin,Sem.run_bind,Sem.run_pure,Result.andThen_ok,List.map_toArray,List.map_cons,List.map_nil,hs,hx,hr]
   exact h _ _ (by rw [hE];exact hO) (Kept.refl _ _) (fun b hb=>.inl (by cases hb;rfl))
 | some ad =>
   obtain ⟨v',w',hr,h2,h3,h4,h5⟩:=run_append_own_at (P:=Try.prog) W B 35 o.type 3 i _ 1 8 Try.underlying35 hi hz hsz hb rfl (by omega) (.slice (some ⟨G,0,none⟩) 0 0) 0 [] hO ad l.length c (l.map fun x=>Value.int .i64 x) (by simp) (fun j u hu=>by
    have hj:j < l.length:=by have:=(List.getElem?_eq_some_iff.1 hu).1;simpa using this
    rcases hP.2 with e|⟨b,o,hb,hc⟩
    ·omega
    ·cases hb
     rw [add_at,hc j hj,<- hu]
     simp [hj]) (fun u hu=>by
    obtain ⟨n,_,rfl⟩:=List.mem_map.1 hu
    rfl) (by unfold maxLen;omega) (by omega) hB
   unfold Oper.wp execOp
   simp only [ho,resolve,invoke,builtin,Sem.run_bind,Sem.run_pure,Result.andThen_ok,List.map_toArray,List.map_cons,List.map_nil,hs,hx,hr]
   rw [Nat.zero_add,List.nil_append] at h2
   refine h v' w' h2 ⟨h3.os,h3.tape,h3.output,h3.size,fun k hk hn=>h3.block k hk (fun e=>hn (by cases e;rfl))⟩ (fun b hb=>?_)
   rcases h5 with e|e
   ·rw [e] at hb
    cases hb
    exact .inl rfl
   ·rw [e] at hb
    cases hb
    exact .inr (Nat.le_refl _)
/-- A pick more, its values copied. -/
theorem iWithPicks (w:World) (B g cap X:Nat) (qs:List Pq) (va:Option Addr) (vs:List Int) (vc:Nat) (b:Int) (hown:Lq w B g cap qs) (hX:Pb w X va vs.length vc b) (hI:Ints w va vs) (hl:vs.length<=100) (hq:qs.length<=1000000) (hB:B<=w.heap.size) :
 Calls Try.prog 32 #[.slice (some ⟨g,0,none⟩) qs.length cap,.slice (some ⟨X,0,none⟩) 1 1] w fun e w'=>∃ g' cap' q,e=.returned (.slice (some ⟨g',0,none⟩) (qs.length+1) cap')/\q.l=vs/\q.v=b/\Lq w' B g' cap' (qs++[q])/\Kept (fun k=>k=g) w w'/\(g'=g\/w.heap.size<=g')/\∀ i,q.own i->w.heap.size<=i:=by
 have H:Hid (Lq w B g cap qs):=hown
 have HX:Hid (Pb w X va vs.length vc b):=hX
 have HI:Hid (Ints w va vs):=hI
 have HBW:Hid (B<=w.heap.size):=hB
 clear hown hX hI hB
 go_enter Try.func32,Try.ntmps32
 go_wp2
 go_loopw [0,9] (fun z i wr=>(i=.int .i64 0/\z=.slice (some ⟨g,0,none⟩) qs.length cap/\wr=w)\/(i=.int .i64 1/\∃ g' cap' q,z=.slice (some ⟨g',0,none⟩) (qs.length+1) cap'/\q.l=vs/\q.v=b/\Lq wr B g' cap' (qs++[q])/\Kept (fun k=>k=g) w wr/\(g'=g\/w.heap.size<=g')/\∀ i,q.own i->w.heap.size<=i)) (fun _ i _=>1 - (intOf i).toNat)
 case atStart=>exact .inl ⟨rfl,rfl,rfl⟩
 case round =>
  rcases hrel with ⟨rfl,rfl,hw⟩|⟨rfl,g',cap',q,rfl,hq1,hq2,hq3,hq4,hq5,hq6⟩
  ·have hw':=hw.symm
   clear hw
   subst hw'
   obtain ⟨p0,p1⟩:=HX.out
   have hp:=HX.out.lt
   go_upto_region 4 with fail
   clear p0 p1 hp
   obtain ⟨W1,hW1⟩:∃ Z,Z=w.alloc (.cells #[.slice va vs.length vc,.int .i64 b] 61):=⟨_,rfl⟩
   obtain ⟨qp,hqp⟩:∃ z,z=w.heap.size:=⟨_,rfl⟩
   have hb1:Below w.heap.size w W1:=by rw [hW1];exact (Below.refl _ _).alloc (Nat.le_refl _) _
   have HP1:Hid (Pb W1 qp va vs.length vc b):=by rw [hW1,hqp];exact Pb.made _ _ _ _ _ _
   have HB1:Hid (Below w.heap.size w W1):=hb1
   rw [<- hW1,<- hqp]
   have HS1:Hid (qp < W1.heap.size):=HP1.out.lt
   have HI1:Hid (Ints W1 va vs):=HI.out.below hb1
   have HO1:Hid (Lq W1 B g cap qs):=H.out.below hb1
   have HQP:Hid (qp=w.heap.size):=hqp
   clear hW1 hqp hb1
   have HPD:Hid (∀ W',Below W1.heap.size W1 W'->W'.cell? ⟨qp,0,none⟩=some (.slice va vs.length vc)/\W'.cell? ⟨qp,1,none⟩=some (.int .i64 b)):=fun W' hb=>⟨(HP1.out.below hb).c0,(HP1.out.below hb).c1⟩
   refine wp_region_held_drew (S:=fun W=>W.cell? ⟨qp,0,none⟩=some (.slice va vs.length vc)/\W.cell? ⟨qp,1,none⟩=some (.int .i64 b)) (by kernel_rfl) (HPD.out _ (Below.refl _ _).drew) (fun hHeld=>?_)
   refine wpAnyH_take (i:=0) (v:=?_) rfl (by kernel_rfl) (by kernel_rfl) (by kernel_rfl) (fun _ _ _ h=>h) (Or.inl ⟨by rfl,?_⟩) hHeld ?_
   rotate_left
   ·intro v9 hS9
    try dsimp only at hS9
    skip
    go_simp
    try with_reducible rfl
   try simp only [Act.put,List.setIfInBounds_toArray,List.set_cons_zero,List.set_cons_succ,List.getElem_toArray,List.getElem_cons_zero]
   refine wpAnyH_take (i:=2) (v:=?_) rfl (by kernel_rfl) (by kernel_rfl) (by kernel_rfl) (fun _ _ _ h=>h) (Or.inl ⟨by rfl,?_⟩) hHeld ?_
   rotate_left
   ·intro v9 hS9
    try dsimp only at hS9
    skip
    go_simp
    try with_reducible rfl
   try simp only [Act.put,List.setIfInBounds_toArray,List.set_cons_zero,List.set_cons_succ,List.getElem_toArray,List.getElem_cons_zero,List.getElem_cons_succ]
   refine wpAnyH_take (i:=3) (v:=?_) rfl (by kernel_rfl) (by kernel_rfl) (by kernel_rfl) (fun _ _ _ h=>h) (Or.inl ⟨by rfl,?_⟩) hHeld ?_
   rotate_left
   ·intro v9 hS9
    try dsimp only at hS9
    obtain ⟨s0,s1⟩:=hS9
    go_simp
    try with_reducible rfl
   try simp only [Act.put,List.setIfInBounds_toArray,List.set_cons_zero,List.set_cons_succ,List.getElem_toArray,List.getElem_cons_zero,List.getElem_cons_succ]
   refine wpAnyH_take (i:=5) (v:=?_) rfl (by kernel_rfl) (by kernel_rfl) (by kernel_rfl) (fun _ _ _ h=>h) (Or.inl ⟨by rfl,?_⟩) hHeld ?_
   rotate_left
   ·intro v9 hS9
    try dsimp only at hS9
    skip
    go_simp
    try with_reducible rfl
   try simp only [Act.put,List.setIfInBounds_toArray,List.set_cons_zero,List.set_cons_succ,List.getElem_toArray,List.getElem_cons_zero,List.getElem_cons_succ]
   refine wpAnyH_take (i:=6) (v:=?_) rfl (by kernel_rfl) (by kernel_rfl) (by kernel_rfl) (fun _ _ _ h=>h) (Or.inl ⟨by rfl,?_⟩) hHeld ?_
   rotate_left
   ·intro v9 hS9
    try dsimp only at hS9
    obtain ⟨s0,s1⟩:=hS9
    go_simp
    try with_reducible rfl
   try simp only [Act.put,List.setIfInBounds_toArray,List.set_cons_zero,List.set_cons_succ,List.getElem_toArray,List.getElem_cons_zero,List.getElem_cons_succ]
   refine wpAnyH_ready (rs:=[1]) (by kernel_rfl) (by simp) ?_
   refine (AllReadyH.cons rfl (fun K hK=>?_) AllReadyH.nil)
   go_simp
   refine hK.out _ _ (HPD.out _ ((Below.refl _ _).drew.alloc (Nat.le_refl _) _)) (fun hNext=>?_)
   clear hK K hHeld
   have hHeld:=hNext
   clear hNext
   try simp only [Act.put,List.setIfInBounds_toArray,List.set_cons_zero,List.set_cons_succ,List.getElem_toArray,List.getElem_cons_zero,List.getElem_cons_succ]
   refine wpAnyH_ready (rs:=[4]) (by kernel_rfl) (by simp) ?_
   refine (AllReadyH.cons rfl (fun K hK=>?_) AllReadyH.nil)
   refine step_ints _ rfl _ _ rfl W1.heap.size W1.heap.size vs va vc rfl rfl (Ows.lit W1.drew W1.heap.size (Nat.le_refl _)) (by simp) (HI1.out.below ((Below.refl _ _).drew.alloc (Nat.le_refl _) _)) (by omega) ?_
   intro v5 w5 ho5 hk5 _
   have HB5:Hid (Below W1.heap.size W1 w5):=((Below.refl W1.heap.size W1).drew.alloc (Nat.le_refl _) _).trans (hk5.below (fun i (hi:i=W1.heap.size)=>by omega) (by simp))
   obtain ⟨a5,c5,hv5,hi5⟩:=ho5.form
   subst hv5
   have HI5:Hid (WInts w5 W1.heap.size a5 vs):=hi5
   clear ho5 hk5 hi5
   refine hK.out _ _ (HPD.out _ HB5.out) (fun hNext=>?_)
   clear hK K hHeld
   have hHeld:=hNext
   clear hNext
   try simp only [Act.put,List.setIfInBounds_toArray,List.set_cons_zero,List.set_cons_succ,List.getElem_toArray,List.getElem_cons_zero,List.getElem_cons_succ]
   refine wpAnyH_take (i:=7) (v:=?_) rfl (by kernel_rfl) (by kernel_rfl) (by kernel_rfl) (fun _ _ _ h=>h) (Or.inl ⟨by rfl,?_⟩) hHeld ?_
   rotate_left
   ·intro v9 hS9
    try dsimp only at hS9
    skip
    go_simp
    try with_reducible rfl
   try simp only [Act.put,List.setIfInBounds_toArray,List.set_cons_zero,List.set_cons_succ,List.getElem_toArray,List.getElem_cons_zero,List.getElem_cons_succ]
   refine wpAnyH_ready (rs:=[8]) (by kernel_rfl) (by simp) ?_
   refine (AllReadyH.cons rfl (fun K hK=>?_) AllReadyH.nil)
   go_simp
   refine hK.out _ _ (HPD.out _ (HB5.out.alloc HB5.out.size _)) (fun hNext=>?_)
   clear hK K hHeld
   have hHeld:=hNext
   clear hNext
   try simp only [Act.put,List.setIfInBounds_toArray,List.set_cons_zero,List.set_cons_succ,List.getElem_toArray,List.getElem_cons_zero,List.getElem_cons_succ]
   refine wpAnyH_ready (rs:=[9]) (by kernel_rfl) (by simp) ?_
   refine (AllReadyH.cons rfl (fun K hK=>?_) AllReadyH.nil)
   have hal:Below W1.heap.size w5 (w5.alloc (.cells #[.slice a5 vs.length c5,.int .i64 b] 61)):=(Below.refl _ _).alloc HB5.out.size _
   have hq9:∀ i,(⟨a5,c5,vs,b⟩:Pq).own i->W1.heap.size<=i:=fun i hi=>(wi_own (q:=⟨a5,c5,vs,b⟩) HI5.out hi).1
   have HI6:Hid (WInts (w5.alloc (.cells #[.slice a5 vs.length c5,.int .i64 b] 61)) W1.heap.size a5 vs):=wi_kept (q:=⟨a5,c5,vs,b⟩) HI5.out (S:=fun _=>False) ((Kept.refl _ _).alloc _) (fun _ _ h=>h)
   refine step_pick _ rfl _ _ rfl B g cap w5.heap.size qs ⟨a5,c5,vs,b⟩ rfl rfl (by simp) (by simp) ⟨HI6.out.1,HI6.out.2.imp id fun ⟨x,y,e1,e2,e3⟩=>⟨x,y,e1,by have:=HBW.out;have:=HS1.out;have:=HQP.out;omega,e3⟩⟩ (HO1.out.below (HB5.out.trans hal)) (fun h=>by have:=hq9 g h;have:=HO1.out.lt.2;omega) (fun p hp i h1 h2=>by have:=hq9 i h2;have:=(wi_own (HO1.out.ins p hp) h1).2;omega) (by have:=HB5.out.size;have:=HBW.out;have:=HS1.out;have:=HQP.out;simp;omega) (by omega) ?_
   intro g6 cp6 w6 ho6 hk6 hg6
   have HO6:Hid (Lq w6 B g6 cp6 (qs++[⟨a5,c5,vs,b⟩])):=ho6
   have HK6:Hid (Kept (fun k=>k=g) w w6):=((Kept.ofBelow (HB1.out.trans ((HB5.out.trans hal).mono (Nat.le_of_lt (by have:=HS1.out;have:=HQP.out;omega))))).trans hk6)
   have HG6:Hid (g6=g\/w.heap.size<=g6):=hg6.imp id fun h=>by have:=HB5.out.size;have:=HS1.out;have:=HQP.out;simp at h;omega
   have HQ6:Hid (∀ i,(⟨a5,c5,vs,b⟩:Pq).own i->w.heap.size<=i):=fun i hi=>by have:=hq9 i hi;have:=HS1.out;have:=HQP.out;omega
   have HP6:Hid (w6.cell? ⟨qp,0,none⟩=some (.slice va vs.length vc)/\w6.cell? ⟨qp,1,none⟩=some (.int .i64 b)):=by
    have h:=HPD.out _ (HB5.out.trans hal)
    have hng:¬ qp=g:=fun e=>by have:=H.out.lt.2;have:=HQP.out;omega
    exact ⟨(hk6.cell (p:=⟨qp,0,none⟩) (lt_of_cell h.1) hng).trans h.1,(hk6.cell (p:=⟨qp,1,none⟩) (lt_of_cell h.2) hng).trans h.2⟩
   clear ho6 hk6 hg6 hal hq9
   refine hK.out _ _ (HP6.out) (fun hNext=>?_)
   clear hK K hHeld
   have hHeld:=hNext
   clear hNext
   try simp only [Act.put,List.setIfInBounds_toArray,List.set_cons_zero,List.set_cons_succ,List.getElem_toArray,List.getElem_cons_zero,List.getElem_cons_succ]
   refine wpAnyH_take (i:=10) (v:=?_) rfl (by kernel_rfl) (by kernel_rfl) (by kernel_rfl) (fun _ _ _ h=>h) (Or.inl ⟨by rfl,?_⟩) hHeld ?_
   rotate_left
   ·intro v9 hS9
    try dsimp only at hS9
    skip
    go_simp
    try with_reducible rfl
   try simp only [Act.put,List.setIfInBounds_toArray,List.set_cons_zero,List.set_cons_succ,List.getElem_toArray,List.getElem_cons_zero,List.getElem_cons_succ]
   refine wpAnyH_done (by kernel_rfl) ?_ _
   clear hHeld
   go_wp2
   go_roundw
   case rel=>exact .inr ⟨by go_num,g6,cp6,⟨a5,c5,vs,b⟩,rfl,rfl,rfl,HO6.out,HK6.out,HG6.out,HQ6.out⟩
   case measure=>simp [intOf]
  ·go_wp2
   go_ret
   exact ⟨g',cap',q,rfl,hq1,hq2,hq3,hq4,hq5,hq6⟩
end Wr1
end Go.Proofs.Ytfhdbcfhhbdiiaa
