import Derived.Test.YthanhcobfehmnaaGreatPkQU223
import Derived.Test.YthanhcobfehmnaaGreatPkQU217
namespace Go.Proofs.YthanhcobfehmnaaGreat
set_option maxRecDepth 100000
set_option maxHeartbeats 8000000
set_option linter.unusedVariables false
namespace Ss4
open Go.RowKit
open Nd0 Nd3 Ap2 Tm0 Tx0 Tx1 Ss0 Ss1 Ss2 Ss3 Dw3 Dw4
open Sp3 (sNode)
open Ws1 (ret_int ret_bool)
def RL (w:World) (b:Nat) (S:ByteArray) (p:Int) (t:List Nd) (code bad:Int) (F:Nat->Prop):Prop :=
 ∃ a c,RC w b S p (.slice a t.length c) code bad/\Nodes w a t/\(∀ x,0 < t.length->a=some x->¬ F x.block)/\t.length<=c
def Fb (w:World) (b:Nat) (F:Nat->Prop):Prop:=F b/\∀ k,F k->k < w.heap.size
def Fit (t:List Nd):Prop:=t.length<=80/\∀ k,k < t.length->nodeOk t k=true
def PPost (w:World) (b:Nat) (S:ByteArray) (p:Int) (bad:Int) (F:Nat->Prop) (res:Except (Int × Nat) (List Nd × Nat)) (e:Ending) (w':World):Prop :=
 Kept (fun k=>k=b) w w'/\match res with
  | .error x=>e=.returned (.int .i64 0)/\∃ tv,RC w' b S p tv x.1 x.2
  | .ok x=>e=.returned (.int .i64 x.2)/\RL w' b S p x.1 0 bad F
theorem ppost_err {w:World} {b:Nat} {S:ByteArray} {p bad:Int} {F:Nat->Prop} {res:Except (Int × Nat) (List Nd × Nat)} {e:Ending} {w':World} {c:Int} {q:Nat} {tv:Value} (h:res=.error (c,q)) (he:e=.returned (.int .i64 0)) (hc:RC w' b S p tv c q) (hk:Kept (fun k=>k=b) w w'):PPost w b S p bad F res e w':=by
 unfold PPost;rw [h];exact ⟨hk,he,tv,hc⟩
theorem ppost_ok {w:World} {b:Nat} {S:ByteArray} {p bad:Int} {F:Nat->Prop} {res:Except (Int × Nat) (List Nd × Nat)} {e:Ending} {w':World} {t:List Nd} {i:Nat} (h:res=.ok (t,i)) (he:e=.returned (.int .i64 i)) (hc:RL w' b S p t 0 bad F) (hk:Kept (fun k=>k=b) w w'):PPost w b S p bad F res e w':=by
 unfold PPost;rw [h];exact ⟨hk,he,hc⟩
theorem own_cap {w:World} {B g n c:Nat} {L:List Nd} (h:Ap2.Own w B (.slice (some ⟨g,0,none⟩) n c) L):L.length<=c:=by
 obtain ⟨h1,h2⟩:=h
 rcases h2 with ⟨h0,_⟩|⟨g',cap,cur,he,hb,hg,hn,rest⟩
 ·cases h0
 ·cases he;exact hn
theorem put_found {t:List Nd} {n:Nd} {k q:Nat} (hk:k < t.length) (hb:∀ j,j < k->nth t j≠n) (he:nth t k=n):putL t n q=.ok (t,k):=by
 have:placeOf t n=some k:=find_range t.length k hk (by rw [he];simp) (fun j hj=>by
  apply decide_eq_false
  intro e
  exact hb j hj (Nd.ext' e))
 unfold putL
 rw [this]
theorem put_new {t:List Nd} {n:Nd} {q:Nat} (hb:∀ j,j < t.length->nth t j≠n):putL t n q=if nodeOk (t++[n]) t.length then (if 80 < t.length+1 then .error (4,q) else .ok (t++[n],t.length)) else .error (3,q):=by
 have:placeOf t n=none:=by
  unfold placeOf
  rw [List.find?_eq_none]
  intro j hj
  simp only [decide_eq_true_eq]
  intro e
  exact hb j (List.mem_range.1 hj) (Nd.ext' e)
 unfold putL
 rw [this]
theorem nd_first {x0 x1 x2 x3 x4 x5 n0 n1 n2 n3 n4 n5:Int} (h:(⟨x0,x1,x2,x3,x4,x5⟩:Nd)≠⟨n0,n1,n2,n3,n4,n5⟩):¬ x0=n0\/(x0=n0/\¬ x1=n1)\/(x0=n0/\x1=n1/\¬ x2=n2)\/(x0=n0/\x1=n1/\x2=n2/\¬ x3=n3)\/(x0=n0/\x1=n1/\x2=n2/\x3=n3/\¬ x4=n4)\/(x0=n0/\x1=n1/\x2=n2/\x3=n3/\x4=n4/\¬ x5=n5):=by
 have:¬ (x0=n0/\x1=n1/\x2=n2/\x3=n3/\x4=n4/\x5=n5):=fun e=>h (Nd.ext' e)
 omega
theorem nodes_drewN {w:World} {a:Option Addr} {l:List Nd} (h:Nodes w a l) (m:Nat):Nodes (w.drewN m) a l:=h.below ⟨rfl,rfl,rfl,Nat.le_refl _,fun _ _=>rfl⟩
theorem sPut (w:World) (b:Nat) (S:ByteArray) (p:Int) (t:List Nd) (n:Nd) (q:Nat) (bad:Int) (F:Nat->Prop) (hF:Fb w b F) (h:RL w b S p t 0 bad F) (hf:Fit t) (hq:q<=100000) :
 Calls Tryz.prog 102 #[.pointer (some ⟨b,0,none⟩),.agg #[.int .i64 n.op,.int .i64 n.w,.int .i64 n.k,.int .i64 n.a,.int .i64 n.b,.int .i64 n.c],.int .i64 q] w (PPost w b S p bad F (putL t n q)):=by
 obtain ⟨a,c,hrc,hn,haw⟩:=h
 obtain ⟨h80,hok⟩:=hf
 have HOK:Hid (∀ k,k < t.length->nodeOk t k=true):=hok
 have hbs:=hrc.lt
 have hal:Kept (fun k=>k=b) w (w.alloc (.cells #[.int .i64 n.op,.int .i64 n.w,.int .i64 n.k,.int .i64 n.a,.int .i64 n.b,.int .i64 n.c] 44)):=(Kept.refl _ _).alloc _
 obtain ⟨w1,hw1⟩:∃ w1:World,w1=w.alloc (.cells #[.int .i64 n.op,.int .i64 n.w,.int .i64 n.k,.int .i64 n.a,.int .i64 n.b,.int .i64 n.c] 44):=⟨_,rfl⟩
 rw [<- hw1] at hal
 have hbel:Below w.heap.size w w1:=by rw [hw1];exact (Below.refl _ _).alloc (Nat.le_refl _) _
 have HK1:Hid (Kept (fun k=>k=b) w w1):=hal
 have HRC:Hid (RC w1 b S p (.slice a t.length c) 0 bad):=hrc.kept (D:=fun _=>False) (Kept.ofBelow hbel) (fun h=>h)
 have HN1:Hid (Nodes w1 a t):=hn.below hbel
 have HAW:Hid (∀ x,0 < t.length->a=some x->¬ F x.block):=haw.1
 have HCP:Hid (t.length<=c):=haw.2
 have HFB:Hid (Fb w b F):=hF
 have HND:Hid (∀ i (h:i < [n].length),NodeAt w1 w.heap.size (0+i*6) [n][i]):=by
  show ∀ i (h:i < [n].length),NodeAt w1 w.heap.size (0+i*6) [n][i]
  rw [hw1];exact node_new w n 44 w.heap.size rfl
 have HW1:Hid (w1=w.alloc (.cells #[.int .i64 n.op,.int .i64 n.w,.int .i64 n.k,.int .i64 n.a,.int .i64 n.b,.int .i64 n.c] 44)):=hw1
 have hws:w.heap.size < w1.heap.size:=by rw [hw1];simp
 obtain ⟨bn,hbn⟩:∃ bn:Nat,bn=w.heap.size:=⟨_,rfl⟩
 have hnb:bn≠b:=by omega
 clear hrc hn haw hok hal hbel hw1 hF
 have c2:=HRC.out.c2
 rw [HW1.out] at c2
 go_enter Tryz.func102,Tryz.ntmps102
 go_wp2
 rw [<- HW1.out] at c2 ⊢
 rw [<- hbn] at HND hws ⊢
 clear hbn
 obtain ⟨p0,p1,p2,p3,p4,p5⟩:=HND.out 0 (by simp)
 simp only [Nat.zero_add,List.getElem_cons_zero] at p0 p1 p2 p3 p4 p5
 go_loopw [7] (fun i wr=>∃ k:Nat,k<=t.length/\i=.int .i64 k/\(∃ m,wr=w1.drewN m)/\∀ j,j < k->nth t j≠n) (fun i _=>t.length - (intOf i).toNat)
 case atStart=>exact ⟨0,Nat.zero_le _,rfl,⟨0,rfl⟩,fun j hj=>by omega⟩
 case round =>
  obtain ⟨k,hk,rfl,⟨m,rfl⟩,hne⟩:=hrel
  have HNE:Hid (∀ j,j < k->nth t j≠n):=hne
  clear hne
  by_cases hlt:k < t.length
  ·have hkz:(k:Int) < (t.length:Int):=by omega
   rcases HN1.out.2 with h0|⟨xb,xo,rfl,hc⟩
   ·omega
   obtain ⟨r0,r1,r2,r3,r4,r5⟩:=hc k hlt
   rw [nth_get hlt] at r0 r1 r2 r3 r4 r5
   clear hc
   by_cases he:nth t k=n
   ·have HF:Hid (putL t n q=.ok (t,k)):=put_found hlt HNE.out he
    rw [he] at r0 r1 r2 r3 r4 r5
    clear he
    go_wp2
    go_quiet (fail)
    go_wp2
    go_ret
    exact ppost_ok HF.out rfl ⟨_,c,(HRC.out.drewN _).drewN _,nodes_drewN (nodes_drewN HN1.out _) _,HAW.out,HCP.out⟩ ((HK1.out.drewN _).drewN _)
   ·have HE:Hid (nth t k≠n):=he
    have HN2:Hid (∀ j,j < k+1->nth t j≠n):=by
     show ∀ _,_
     intro j hj
     by_cases e:j < k
     ·exact HNE.out j e
     ·have:j=k:=by omega
      rw [this];exact HE.out
    clear he HE HNE
    have hdf:nth t k≠n:=HN2.out k (by omega)
    generalize nth t k=x at r0 r1 r2 r3 r4 r5 hdf
    obtain ⟨x0,x1,x2,x3,x4,x5⟩:=x
    obtain ⟨n0,n1,n2,n3,n4,n5⟩:=n
    simp only at r0 r1 r2 r3 r4 r5 p0 p1 p2 p3 p4 p5
    rcases nd_first hdf with hx|⟨rfl,hx⟩|⟨rfl,rfl,hx⟩|⟨rfl,rfl,rfl,hx⟩|⟨rfl,rfl,rfl,rfl,hx⟩|⟨rfl,rfl,rfl,rfl,rfl,hx⟩
    all_goals
     clear hdf
     go_wp2
     go_quiet (fail)
     go_wp2
     go_roundw
     case rel=>exact ⟨k+1,by omega,by go_num,⟨_,rfl⟩,HN2.out⟩
     case measure=>simp [intOf];omega
  ·have hkz:¬ (k:Int) < (t.length:Int):=by omega
   have HPN:=put_new (n:=n) (q:=q) (t:=t) (fun j hj=>HNE.out j (by omega))
   have HP:Hid (putL t n q=if nodeOk (t++[n]) t.length then (if 80 < t.length+1 then .error (4,q) else .ok (t++[n],t.length)) else .error (3,q)):=HPN
   clear HPN HNE
   have hwq:Below w1.heap.size w1 (w1.drewN m):=⟨rfl,rfl,rfl,Nat.le_refl _,fun _ _=>rfl⟩
   have HVQ:Hid (Nodes (w1.drewN m) a t):=HN1.out.below hwq
   have HRQ:Hid (RC (w1.drewN m) b S p (.slice a t.length c) 0 bad):=HRC.out.drewN m
   have HKQ:Hid (Kept (fun k=>k=b) w (w1.drewN m)):=HK1.out.drewN m
   have hbq:bn < (w1.drewN m).heap.size:=hws
   have hbb:b < (w1.drewN m).heap.size:=HRQ.out.lt
   have z0:(w1.drewN m).cell? ⟨bn,0,none⟩=some (.int .i64 n.op):=p0
   have z1:(w1.drewN m).cell? ⟨bn,1,none⟩=some (.int .i64 n.w):=p1
   have z2:(w1.drewN m).cell? ⟨bn,2,none⟩=some (.int .i64 n.k):=p2
   have z3:(w1.drewN m).cell? ⟨bn,3,none⟩=some (.int .i64 n.a):=p3
   have z4:(w1.drewN m).cell? ⟨bn,4,none⟩=some (.int .i64 n.b):=p4
   have z5:(w1.drewN m).cell? ⟨bn,5,none⟩=some (.int .i64 n.c):=p5
   have y2:(w1.drewN m).cell? ⟨b,2,none⟩=some (.slice a t.length c):=HRQ.out.c2
   clear p0 p1 p2 p3 p4 p5 c2 hwq HN1 HRC HK1 HND HW1
   generalize w1.drewN m=wq at HVQ HRQ HKQ hbq hbb z0 z1 z2 z3 z4 z5 y2 ⊢
   go_upto_region 6 with fail
   go_cut [8] from 28 to 36 (fun s8 wc=>∃ g9 c9,s8=.slice (some ⟨g9,0,none⟩) (t.length+1) c9/\wq.heap.size<=g9/\Nodes wc (some ⟨g9,0,none⟩) (t++[n])/\Below wq.heap.size wq wc/\t.length+1<=c9)
   case first =>
    refine wp_region_held_drew (S:=fun w'=>Below wq.heap.size wq w') (by kernel_rfl) ((Below.refl _ _).drew) (fun hHeld=>?_)
    refine wpAnyH_take (i:=1) (v:=?_) rfl (by kernel_rfl) (by kernel_rfl) (by kernel_rfl) (fun _ _ _ h=>h) (Or.inl ⟨by rfl,?_⟩) hHeld ?_
    rotate_left
    ·intro v9 hS9
     try dsimp only at hS9
     go_simp
     try with_reducible rfl
    try simp only [Act.put,List.setIfInBounds_toArray,List.set_cons_zero,List.set_cons_succ,List.getElem_toArray,List.getElem_cons_zero,List.getElem_cons_succ]
    refine wpAnyH_take (i:=2) (v:=?_) rfl (by kernel_rfl) (by kernel_rfl) (by kernel_rfl) (fun _ _ _ h=>h) (Or.inl ⟨by rfl,?_⟩) hHeld ?_
    rotate_left
    ·intro v9 hS9
     try dsimp only at hS9
     go_simp
     try with_reducible rfl
    try simp only [Act.put,List.setIfInBounds_toArray,List.set_cons_zero,List.set_cons_succ,List.getElem_toArray,List.getElem_cons_zero,List.getElem_cons_succ]
    refine wpAnyH_take (i:=3) (v:=?_) rfl (by kernel_rfl) (by kernel_rfl) (by kernel_rfl) (fun _ _ _ h=>h) (Or.inl ⟨by rfl,?_⟩) hHeld ?_
    rotate_left
    ·intro v9 hS9
     try dsimp only at hS9
     go_simp
     try with_reducible rfl
    try simp only [Act.put,List.setIfInBounds_toArray,List.set_cons_zero,List.set_cons_succ,List.getElem_toArray,List.getElem_cons_zero,List.getElem_cons_succ]
    refine wpAnyH_take (i:=4) (v:=?_) rfl (by kernel_rfl) (by kernel_rfl) (by kernel_rfl) (fun _ _ _ h=>h) (Or.inl ⟨by rfl,?_⟩) hHeld ?_
    rotate_left
    ·intro v9 hS9
     try dsimp only at hS9
     have q9:v9.cell? ⟨b,2,none⟩=some (.slice a t.length c):=by rw [hS9.cell hbb];exact y2
     go_simp
     try with_reducible rfl
    try simp only [Act.put,List.setIfInBounds_toArray,List.set_cons_zero,List.set_cons_succ,List.getElem_toArray,List.getElem_cons_zero,List.getElem_cons_succ]
    refine wpAnyH_take (i:=6) (v:=?_) rfl (by kernel_rfl) (by kernel_rfl) (by kernel_rfl) (fun _ _ _ h=>h) (Or.inl ⟨by rfl,?_⟩) hHeld ?_
    rotate_left
    ·intro v9 hS9
     try dsimp only at hS9
     have q0:v9.cell? ⟨bn,0,none⟩=some (.int .i64 n.op):=by rw [hS9.cell hbq];exact z0
     have q1:v9.cell? ⟨bn,1,none⟩=some (.int .i64 n.w):=by rw [hS9.cell hbq];exact z1
     have q2:v9.cell? ⟨bn,2,none⟩=some (.int .i64 n.k):=by rw [hS9.cell hbq];exact z2
     have q3:v9.cell? ⟨bn,3,none⟩=some (.int .i64 n.a):=by rw [hS9.cell hbq];exact z3
     have q4:v9.cell? ⟨bn,4,none⟩=some (.int .i64 n.b):=by rw [hS9.cell hbq];exact z4
     have q5:v9.cell? ⟨bn,5,none⟩=some (.int .i64 n.c):=by rw [hS9.cell hbq];exact z5
     go_simp
     try with_reducible rfl
    try simp only [Act.put,List.setIfInBounds_toArray,List.set_cons_zero,List.set_cons_succ,List.getElem_toArray,List.getElem_cons_zero,List.getElem_cons_succ]
    by_cases hv0:t.length=0
    ·
     obtain rfl:t=[]:=List.eq_nil_of_length_eq_zero hv0
     clear hv0
     cases a with
     | none =>
       refine wpAnyH_ready (rs:=[0,7]) (by kernel_rfl) (by simp) ?_
       refine (AllReadyH.cons rfl (fun K hK=>?_) (AllReadyH.cons rfl (fun K hK=>?_) AllReadyH.nil))
       ·
        go_simp
        refine hK.out _ _ (hHeld.alloc hHeld.size _) (fun hNext=>?_)
        clear hK K hHeld
        have hHeld:=hNext
        clear hNext
        refine wpAnyH_ready (rs:=[5,7]) (by kernel_rfl) (by simp) ?_
        refine (AllReadyH.cons rfl (fun K hK=>?_) (AllReadyH.cons rfl (fun K hK=>?_) AllReadyH.nil))
        ·
         go_simp
         try go_wp2_with fail
         refine hK.out _ _ (hHeld) (fun hNext=>?_)
         clear hK K hHeld
         have hHeld:=hNext
         clear hNext
         refine wpAnyH_ready (rs:=[7]) (by kernel_rfl) (by simp) ?_
         refine (AllReadyH.cons rfl (fun K hK=>?_) AllReadyH.nil)
         ·
          go_simp
          refine hK.out _ _ (hHeld.alloc hHeld.size _) (fun hNext=>?_)
          clear hK K hHeld
          have hHeld:=hNext
          clear hNext
          refine wpAnyH_ready (rs:=[8]) (by kernel_rfl) (by simp) ?_
          refine (AllReadyH.cons rfl (fun K hK=>?_) AllReadyH.nil)
          ·
           refine step_app_nodes _ rfl _ _ rfl wq.heap.size (.slice (some ⟨wq.heap.size,0,none⟩) 0 0) [] [n] (wq.heap.size+1) 0 1 rfl rfl (node_drew (node_new _ _ _ _ (by simp))) (by simp) (World.ownsRow.alloc (own_lit _ _ _ rfl (Nat.le_refl _)) _) hHeld.size (by first|(simp;done)|(simp;omega)) ?_
           intro g2 cp2 wz ho2 hk2 hg2
           have HG2:wq.heap.size<=g2:=by
            rcases hg2 with e|e
            ·cases e;first|exact HG1|exact Nat.le_refl _|exact Nat.le_succ _
            ·exact Nat.le_trans hHeld.size e
           simp only [List.length_cons,List.length_nil,Nat.zero_add]
           have HK2:=hHeld.trans (hk2.below (fun k hk=>by cases hk;first|exact HG1|exact Nat.le_refl _|exact Nat.le_succ _) hHeld.size)
           refine hK.out _ _ (HK2) (fun hNext=>?_)
           clear hK K hHeld
           have hHeld:=hNext
           clear hNext
           clear HK2
           try simp only [Act.put,List.setIfInBounds_toArray,List.set_cons_zero,List.set_cons_succ,List.getElem_toArray,List.getElem_cons_zero,List.getElem_cons_succ]
           refine wpAnyH_take (i:=9) (v:=?_) rfl (by kernel_rfl) (by kernel_rfl) (by kernel_rfl) (fun _ _ _ h=>h) (Or.inl ⟨by rfl,?_⟩) hHeld ?_
           rotate_left
           ·intro v9 hS9
            try dsimp only at hS9
            go_simp
            try with_reducible rfl
           try simp only [Act.put,List.setIfInBounds_toArray,List.set_cons_zero,List.set_cons_succ,List.getElem_toArray,List.getElem_cons_zero,List.getElem_cons_succ]
           refine wpAnyH_done (by kernel_rfl) ?_ _
           obtain ⟨a8,c8,hv8,hw8⟩:=ho2.form
           have ha8:a8=some ⟨g2,0,none⟩:=by injection hv8 with h1 h2 h3;exact h1.symm
           have HN8:Hid (Nodes wz (some ⟨g2,0,none⟩) (([]:List Nd)++[n])):=by
            rw [ha8] at hw8
            first|exact hw8.nodes|simpa using hw8.nodes
           have HB8:Hid (Below wq.heap.size wq wz):=hHeld
           have HC8:Hid (([]:List Nd).length+1<=cp2):=by
            have h9:=own_cap ho2
            show _<=_
            simpa using h9
           clear hv8 hw8 ho2 hk2 hg2 hHeld ha8
           go_wp2_with fail
           go_meet
           case rel=>exact ⟨g2,cp2,(by first|rfl|simp),HG2,HN8.out,HB8.out,HC8.out⟩
        ·
         go_simp
         refine hK.out _ _ (hHeld.alloc hHeld.size _) (fun hNext=>?_)
         clear hK K hHeld
         have hHeld:=hNext
         clear hNext
         refine wpAnyH_ready (rs:=[5]) (by kernel_rfl) (by simp) ?_
         refine (AllReadyH.cons rfl (fun K hK=>?_) AllReadyH.nil)
         ·
          go_simp
          try go_wp2_with fail
          refine hK.out _ _ (hHeld) (fun hNext=>?_)
          clear hK K hHeld
          have hHeld:=hNext
          clear hNext
          refine wpAnyH_ready (rs:=[8]) (by kernel_rfl) (by simp) ?_
          refine (AllReadyH.cons rfl (fun K hK=>?_) AllReadyH.nil)
          ·
           refine step_app_nodes _ rfl _ _ rfl wq.heap.size (.slice (some ⟨wq.heap.size,0,none⟩) 0 0) [] [n] (wq.heap.size+1) 0 1 rfl rfl (node_drew (node_new _ _ _ _ (by simp))) (by simp) (World.ownsRow.alloc (own_lit _ _ _ rfl (Nat.le_refl _)) _) hHeld.size (by first|(simp;done)|(simp;omega)) ?_
           intro g2 cp2 wz ho2 hk2 hg2
           have HG2:wq.heap.size<=g2:=by
            rcases hg2 with e|e
            ·cases e;first|exact HG1|exact Nat.le_refl _|exact Nat.le_succ _
            ·exact Nat.le_trans hHeld.size e
           simp only [List.length_cons,List.length_nil,Nat.zero_add]
           have HK2:=hHeld.trans (hk2.below (fun k hk=>by cases hk;first|exact HG1|exact Nat.le_refl _|exact Nat.le_succ _) hHeld.size)
           refine hK.out _ _ (HK2) (fun hNext=>?_)
           clear hK K hHeld
           have hHeld:=hNext
           clear hNext
           clear HK2
           try simp only [Act.put,List.setIfInBounds_toArray,List.set_cons_zero,List.set_cons_succ,List.getElem_toArray,List.getElem_cons_zero,List.getElem_cons_succ]
           refine wpAnyH_take (i:=9) (v:=?_) rfl (by kernel_rfl) (by kernel_rfl) (by kernel_rfl) (fun _ _ _ h=>h) (Or.inl ⟨by rfl,?_⟩) hHeld ?_
           rotate_left
           ·intro v9 hS9
            try dsimp only at hS9
            go_simp
            try with_reducible rfl
           try simp only [Act.put,List.setIfInBounds_toArray,List.set_cons_zero,List.set_cons_succ,List.getElem_toArray,List.getElem_cons_zero,List.getElem_cons_succ]
           refine wpAnyH_done (by kernel_rfl) ?_ _
           obtain ⟨a8,c8,hv8,hw8⟩:=ho2.form
           have ha8:a8=some ⟨g2,0,none⟩:=by injection hv8 with h1 h2 h3;exact h1.symm
           have HN8:Hid (Nodes wz (some ⟨g2,0,none⟩) (([]:List Nd)++[n])):=by
            rw [ha8] at hw8
            first|exact hw8.nodes|simpa using hw8.nodes
           have HB8:Hid (Below wq.heap.size wq wz):=hHeld
           have HC8:Hid (([]:List Nd).length+1<=cp2):=by
            have h9:=own_cap ho2
            show _<=_
            simpa using h9
           clear hv8 hw8 ho2 hk2 hg2 hHeld ha8
           go_wp2_with fail
           go_meet
           case rel=>exact ⟨g2,cp2,(by first|rfl|simp),HG2,HN8.out,HB8.out,HC8.out⟩
       ·
        go_simp
        refine hK.out _ _ (hHeld.alloc hHeld.size _) (fun hNext=>?_)
        clear hK K hHeld
        have hHeld:=hNext
        clear hNext
        refine wpAnyH_ready (rs:=[0]) (by kernel_rfl) (by simp) ?_
        refine (AllReadyH.cons rfl (fun K hK=>?_) AllReadyH.nil)
        ·
         go_simp
         refine hK.out _ _ (hHeld.alloc hHeld.size _) (fun hNext=>?_)
         clear hK K hHeld
         have hHeld:=hNext
         clear hNext
         refine wpAnyH_ready (rs:=[5]) (by kernel_rfl) (by simp) ?_
         refine (AllReadyH.cons rfl (fun K hK=>?_) AllReadyH.nil)
         ·
          go_simp
          try go_wp2_with fail
          refine hK.out _ _ (hHeld) (fun hNext=>?_)
          clear hK K hHeld
          have hHeld:=hNext
          clear hNext
          refine wpAnyH_ready (rs:=[8]) (by kernel_rfl) (by simp) ?_
          refine (AllReadyH.cons rfl (fun K hK=>?_) AllReadyH.nil)
          ·
           refine step_app_nodes _ rfl _ _ rfl wq.heap.size (.slice (some ⟨(wq.heap.size+1),0,none⟩) 0 0) [] [n] wq.heap.size 0 1 rfl rfl (node_drew (node_kept (S:=fun _=>False) ((Kept.refl (fun _=>False) _).alloc _) (by simp) (fun e=>e) (node_new _ _ _ _ rfl))) (by simp) (own_lit _ _ _ (by simp) (by omega)) hHeld.size (by first|(simp;done)|(simp;omega)) ?_
           intro g2 cp2 wz ho2 hk2 hg2
           have HG2:wq.heap.size<=g2:=by
            rcases hg2 with e|e
            ·cases e;first|exact HG1|exact Nat.le_refl _|exact Nat.le_succ _
            ·exact Nat.le_trans hHeld.size e
           simp only [List.length_cons,List.length_nil,Nat.zero_add]
           have HK2:=hHeld.trans (hk2.below (fun k hk=>by cases hk;first|exact HG1|exact Nat.le_refl _|exact Nat.le_succ _) hHeld.size)
           refine hK.out _ _ (HK2) (fun hNext=>?_)
           clear hK K hHeld
           have hHeld:=hNext
           clear hNext
           clear HK2
           try simp only [Act.put,List.setIfInBounds_toArray,List.set_cons_zero,List.set_cons_succ,List.getElem_toArray,List.getElem_cons_zero,List.getElem_cons_succ]
           refine wpAnyH_take (i:=9) (v:=?_) rfl (by kernel_rfl) (by kernel_rfl) (by kernel_rfl) (fun _ _ _ h=>h) (Or.inl ⟨by rfl,?_⟩) hHeld ?_
           rotate_left
           ·intro v9 hS9
            try dsimp only at hS9
            go_simp
            try with_reducible rfl
           try simp only [Act.put,List.setIfInBounds_toArray,List.set_cons_zero,List.set_cons_succ,List.getElem_toArray,List.getElem_cons_zero,List.getElem_cons_succ]
           refine wpAnyH_done (by kernel_rfl) ?_ _
           obtain ⟨a8,c8,hv8,hw8⟩:=ho2.form
           have ha8:a8=some ⟨g2,0,none⟩:=by injection hv8 with h1 h2 h3;exact h1.symm
           have HN8:Hid (Nodes wz (some ⟨g2,0,none⟩) (([]:List Nd)++[n])):=by
            rw [ha8] at hw8
            first|exact hw8.nodes|simpa using hw8.nodes
           have HB8:Hid (Below wq.heap.size wq wz):=hHeld
           have HC8:Hid (([]:List Nd).length+1<=cp2):=by
            have h9:=own_cap ho2
            show _<=_
            simpa using h9
           clear hv8 hw8 ho2 hk2 hg2 hHeld ha8
           go_wp2_with fail
           go_meet
           case rel=>exact ⟨g2,cp2,(by first|rfl|simp),HG2,HN8.out,HB8.out,HC8.out⟩
     | some x9 =>
       refine wpAnyH_ready (rs:=[0,7]) (by kernel_rfl) (by simp) ?_
       refine (AllReadyH.cons rfl (fun K hK=>?_) (AllReadyH.cons rfl (fun K hK=>?_) AllReadyH.nil))
       ·
        go_simp
        refine hK.out _ _ (hHeld.alloc hHeld.size _) (fun hNext=>?_)
        clear hK K hHeld
        have hHeld:=hNext
        clear hNext
        refine wpAnyH_ready (rs:=[5,7]) (by kernel_rfl) (by simp) ?_
        refine (AllReadyH.cons rfl (fun K hK=>?_) (AllReadyH.cons rfl (fun K hK=>?_) AllReadyH.nil))
        ·
         go_simp
         try go_wp2_with fail
         refine hK.out _ _ (hHeld) (fun hNext=>?_)
         clear hK K hHeld
         have hHeld:=hNext
         clear hNext
         refine wpAnyH_ready (rs:=[7]) (by kernel_rfl) (by simp) ?_
         refine (AllReadyH.cons rfl (fun K hK=>?_) AllReadyH.nil)
         ·
          go_simp
          refine hK.out _ _ (hHeld.alloc hHeld.size _) (fun hNext=>?_)
          clear hK K hHeld
          have hHeld:=hNext
          clear hNext
          refine wpAnyH_ready (rs:=[8]) (by kernel_rfl) (by simp) ?_
          refine (AllReadyH.cons rfl (fun K hK=>?_) AllReadyH.nil)
          ·
           refine step_app_nodes _ rfl _ _ rfl wq.heap.size (.slice (some ⟨wq.heap.size,0,none⟩) 0 0) [] [n] (wq.heap.size+1) 0 1 rfl rfl (node_drew (node_new _ _ _ _ (by simp))) (by simp) (World.ownsRow.alloc (own_lit _ _ _ rfl (Nat.le_refl _)) _) hHeld.size (by first|(simp;done)|(simp;omega)) ?_
           intro g2 cp2 wz ho2 hk2 hg2
           have HG2:wq.heap.size<=g2:=by
            rcases hg2 with e|e
            ·cases e;first|exact HG1|exact Nat.le_refl _|exact Nat.le_succ _
            ·exact Nat.le_trans hHeld.size e
           simp only [List.length_cons,List.length_nil,Nat.zero_add]
           have HK2:=hHeld.trans (hk2.below (fun k hk=>by cases hk;first|exact HG1|exact Nat.le_refl _|exact Nat.le_succ _) hHeld.size)
           refine hK.out _ _ (HK2) (fun hNext=>?_)
           clear hK K hHeld
           have hHeld:=hNext
           clear hNext
           clear HK2
           try simp only [Act.put,List.setIfInBounds_toArray,List.set_cons_zero,List.set_cons_succ,List.getElem_toArray,List.getElem_cons_zero,List.getElem_cons_succ]
           refine wpAnyH_take (i:=9) (v:=?_) rfl (by kernel_rfl) (by kernel_rfl) (by kernel_rfl) (fun _ _ _ h=>h) (Or.inl ⟨by rfl,?_⟩) hHeld ?_
           rotate_left
           ·intro v9 hS9
            try dsimp only at hS9
            go_simp
            try with_reducible rfl
           try simp only [Act.put,List.setIfInBounds_toArray,List.set_cons_zero,List.set_cons_succ,List.getElem_toArray,List.getElem_cons_zero,List.getElem_cons_succ]
           refine wpAnyH_done (by kernel_rfl) ?_ _
           obtain ⟨a8,c8,hv8,hw8⟩:=ho2.form
           have ha8:a8=some ⟨g2,0,none⟩:=by injection hv8 with h1 h2 h3;exact h1.symm
           have HN8:Hid (Nodes wz (some ⟨g2,0,none⟩) (([]:List Nd)++[n])):=by
            rw [ha8] at hw8
            first|exact hw8.nodes|simpa using hw8.nodes
           have HB8:Hid (Below wq.heap.size wq wz):=hHeld
           have HC8:Hid (([]:List Nd).length+1<=cp2):=by
            have h9:=own_cap ho2
            show _<=_
            simpa using h9
           clear hv8 hw8 ho2 hk2 hg2 hHeld ha8
           go_wp2_with fail
           go_meet
           case rel=>exact ⟨g2,cp2,(by first|rfl|simp),HG2,HN8.out,HB8.out,HC8.out⟩
        ·
         go_simp
         refine hK.out _ _ (hHeld.alloc hHeld.size _) (fun hNext=>?_)
         clear hK K hHeld
         have hHeld:=hNext
         clear hNext
         refine wpAnyH_ready (rs:=[5]) (by kernel_rfl) (by simp) ?_
         refine (AllReadyH.cons rfl (fun K hK=>?_) AllReadyH.nil)
         ·
          go_simp
          try go_wp2_with fail
          refine hK.out _ _ (hHeld) (fun hNext=>?_)
          clear hK K hHeld
          have hHeld:=hNext
          clear hNext
          refine wpAnyH_ready (rs:=[8]) (by kernel_rfl) (by simp) ?_
          refine (AllReadyH.cons rfl (fun K hK=>?_) AllReadyH.nil)
          ·
           refine step_app_nodes _ rfl _ _ rfl wq.heap.size (.slice (some ⟨wq.heap.size,0,none⟩) 0 0) [] [n] (wq.heap.size+1) 0 1 rfl rfl (node_drew (node_new _ _ _ _ (by simp))) (by simp) (World.ownsRow.alloc (own_lit _ _ _ rfl (Nat.le_refl _)) _) hHeld.size (by first|(simp;done)|(simp;omega)) ?_
           intro g2 cp2 wz ho2 hk2 hg2
           have HG2:wq.heap.size<=g2:=by
            rcases hg2 with e|e
            ·cases e;first|exact HG1|exact Nat.le_refl _|exact Nat.le_succ _
            ·exact Nat.le_trans hHeld.size e
           simp only [List.length_cons,List.length_nil,Nat.zero_add]
           have HK2:=hHeld.trans (hk2.below (fun k hk=>by cases hk;first|exact HG1|exact Nat.le_refl _|exact Nat.le_succ _) hHeld.size)
           refine hK.out _ _ (HK2) (fun hNext=>?_)
           clear hK K hHeld
           have hHeld:=hNext
           clear hNext
           clear HK2
           try simp only [Act.put,List.setIfInBounds_toArray,List.set_cons_zero,List.set_cons_succ,List.getElem_toArray,List.getElem_cons_zero,List.getElem_cons_succ]
           refine wpAnyH_take (i:=9) (v:=?_) rfl (by kernel_rfl) (by kernel_rfl) (by kernel_rfl) (fun _ _ _ h=>h) (Or.inl ⟨by rfl,?_⟩) hHeld ?_
           rotate_left
           ·intro v9 hS9
            try dsimp only at hS9
            go_simp
            try with_reducible rfl
           try simp only [Act.put,List.setIfInBounds_toArray,List.set_cons_zero,List.set_cons_succ,List.getElem_toArray,List.getElem_cons_zero,List.getElem_cons_succ]
           refine wpAnyH_done (by kernel_rfl) ?_ _
           obtain ⟨a8,c8,hv8,hw8⟩:=ho2.form
           have ha8:a8=some ⟨g2,0,none⟩:=by injection hv8 with h1 h2 h3;exact h1.symm
           have HN8:Hid (Nodes wz (some ⟨g2,0,none⟩) (([]:List Nd)++[n])):=by
            rw [ha8] at hw8
            first|exact hw8.nodes|simpa using hw8.nodes
           have HB8:Hid (Below wq.heap.size wq wz):=hHeld
           have HC8:Hid (([]:List Nd).length+1<=cp2):=by
            have h9:=own_cap ho2
            show _<=_
            simpa using h9
           clear hv8 hw8 ho2 hk2 hg2 hHeld ha8
           go_wp2_with fail
           go_meet
           case rel=>exact ⟨g2,cp2,(by first|rfl|simp),HG2,HN8.out,HB8.out,HC8.out⟩
       ·
        go_simp
        refine hK.out _ _ (hHeld.alloc hHeld.size _) (fun hNext=>?_)
        clear hK K hHeld
        have hHeld:=hNext
        clear hNext
        refine wpAnyH_ready (rs:=[0]) (by kernel_rfl) (by simp) ?_
        refine (AllReadyH.cons rfl (fun K hK=>?_) AllReadyH.nil)
        ·
         go_simp
         refine hK.out _ _ (hHeld.alloc hHeld.size _) (fun hNext=>?_)
         clear hK K hHeld
         have hHeld:=hNext
         clear hNext
         refine wpAnyH_ready (rs:=[5]) (by kernel_rfl) (by simp) ?_
         refine (AllReadyH.cons rfl (fun K hK=>?_) AllReadyH.nil)
         ·
          go_simp
          try go_wp2_with fail
          refine hK.out _ _ (hHeld) (fun hNext=>?_)
          clear hK K hHeld
          have hHeld:=hNext
          clear hNext
          refine wpAnyH_ready (rs:=[8]) (by kernel_rfl) (by simp) ?_
          refine (AllReadyH.cons rfl (fun K hK=>?_) AllReadyH.nil)
          ·
           refine step_app_nodes _ rfl _ _ rfl wq.heap.size (.slice (some ⟨(wq.heap.size+1),0,none⟩) 0 0) [] [n] wq.heap.size 0 1 rfl rfl (node_drew (node_kept (S:=fun _=>False) ((Kept.refl (fun _=>False) _).alloc _) (by simp) (fun e=>e) (node_new _ _ _ _ rfl))) (by simp) (own_lit _ _ _ (by simp) (by omega)) hHeld.size (by first|(simp;done)|(simp;omega)) ?_
           intro g2 cp2 wz ho2 hk2 hg2
           have HG2:wq.heap.size<=g2:=by
            rcases hg2 with e|e
            ·cases e;first|exact HG1|exact Nat.le_refl _|exact Nat.le_succ _
            ·exact Nat.le_trans hHeld.size e
           simp only [List.length_cons,List.length_nil,Nat.zero_add]
           have HK2:=hHeld.trans (hk2.below (fun k hk=>by cases hk;first|exact HG1|exact Nat.le_refl _|exact Nat.le_succ _) hHeld.size)
           refine hK.out _ _ (HK2) (fun hNext=>?_)
           clear hK K hHeld
           have hHeld:=hNext
           clear hNext
           clear HK2
           try simp only [Act.put,List.setIfInBounds_toArray,List.set_cons_zero,List.set_cons_succ,List.getElem_toArray,List.getElem_cons_zero,List.getElem_cons_succ]
           refine wpAnyH_take (i:=9) (v:=?_) rfl (by kernel_rfl) (by kernel_rfl) (by kernel_rfl) (fun _ _ _ h=>h) (Or.inl ⟨by rfl,?_⟩) hHeld ?_
           rotate_left
           ·intro v9 hS9
            try dsimp only at hS9
            go_simp
            try with_reducible rfl
           try simp only [Act.put,List.setIfInBounds_toArray,List.set_cons_zero,List.set_cons_succ,List.getElem_toArray,List.getElem_cons_zero,List.getElem_cons_succ]
           refine wpAnyH_done (by kernel_rfl) ?_ _
           obtain ⟨a8,c8,hv8,hw8⟩:=ho2.form
           have ha8:a8=some ⟨g2,0,none⟩:=by injection hv8 with h1 h2 h3;exact h1.symm
           have HN8:Hid (Nodes wz (some ⟨g2,0,none⟩) (([]:List Nd)++[n])):=by
            rw [ha8] at hw8
            first|exact hw8.nodes|simpa using hw8.nodes
           have HB8:Hid (Below wq.heap.size wq wz):=hHeld
           have HC8:Hid (([]:List Nd).length+1<=cp2):=by
            have h9:=own_cap ho2
            show _<=_
            simpa using h9
           clear hv8 hw8 ho2 hk2 hg2 hHeld ha8
           go_wp2_with fail
           go_meet
           case rel=>exact ⟨g2,cp2,(by first|rfl|simp),HG2,HN8.out,HB8.out,HC8.out⟩
    ·
     have hvp:0 < t.length:=by omega
     rcases HVQ.out.2 with h0|⟨vb,vo,rfl,hvc⟩
     ·omega
     refine wpAnyH_ready (rs:=[0,7]) (by kernel_rfl) (by simp) ?_
     refine (AllReadyH.cons rfl (fun K hK=>?_) (AllReadyH.cons rfl (fun K hK=>?_) AllReadyH.nil))
     ·
      go_simp
      refine hK.out _ _ (hHeld.alloc hHeld.size _) (fun hNext=>?_)
      clear hK K hHeld
      have hHeld:=hNext
      clear hNext
      refine wpAnyH_ready (rs:=[5,7]) (by kernel_rfl) (by simp) ?_
      refine (AllReadyH.cons rfl (fun K hK=>?_) (AllReadyH.cons rfl (fun K hK=>?_) AllReadyH.nil))
      ·
       refine step_app_nodes _ rfl _ _ rfl wq.heap.size (.slice (some ⟨wq.heap.size,0,none⟩) 0 0) [] t vb vo c rfl rfl (fun i hi=>(hvc i hi).below hHeld (hvc i hi).lt) hvp (own_lit _ _ _ rfl (Nat.le_refl _)) hHeld.size (by simp;omega) ?_
       intro g1 cp1 w1 ho1 hk1 hg1
       have HG1:wq.heap.size<=g1:=by
        rcases hg1 with e|e
        ·cases e;first|exact Nat.le_refl _|exact Nat.le_succ _
        ·exact Nat.le_trans hHeld.size e
       simp only [List.length_nil,Nat.zero_add,List.nil_append] at ho1
       simp only [List.length_nil,Nat.zero_add]
       have HK1:=hHeld.trans (hk1.below (fun k hk=>by cases hk;first|exact Nat.le_refl _|exact Nat.le_succ _) hHeld.size)
       refine hK.out _ _ (HK1) (fun hNext=>?_)
       clear hK K hHeld
       have hHeld:=hNext
       clear hNext
       clear HK1
       try simp only [Act.put,List.setIfInBounds_toArray,List.set_cons_zero,List.set_cons_succ,List.getElem_toArray,List.getElem_cons_zero,List.getElem_cons_succ]
       refine wpAnyH_ready (rs:=[7]) (by kernel_rfl) (by simp) ?_
       refine (AllReadyH.cons rfl (fun K hK=>?_) AllReadyH.nil)
       ·
        go_simp
        refine hK.out _ _ (hHeld.alloc hHeld.size _) (fun hNext=>?_)
        clear hK K hHeld
        have hHeld:=hNext
        clear hNext
        refine wpAnyH_ready (rs:=[8]) (by kernel_rfl) (by simp) ?_
        refine (AllReadyH.cons rfl (fun K hK=>?_) AllReadyH.nil)
        ·
         refine step_app_nodes _ rfl _ _ rfl wq.heap.size (.slice (some ⟨g1,0,none⟩) t.length cp1) t [n] w1.heap.size 0 1 rfl rfl (node_new _ _ _ _ rfl) (by simp) (World.ownsRow.alloc ho1 _) hHeld.size (by first|(simp;done)|(simp;omega)) ?_
         intro g2 cp2 wz ho2 hk2 hg2
         have HG2:wq.heap.size<=g2:=by
          rcases hg2 with e|e
          ·cases e;first|exact HG1|exact Nat.le_refl _|exact Nat.le_succ _
          ·exact Nat.le_trans hHeld.size e
         simp only [List.length_cons,List.length_nil,Nat.zero_add]
         have HK2:=hHeld.trans (hk2.below (fun k hk=>by cases hk;first|exact HG1|exact Nat.le_refl _|exact Nat.le_succ _) hHeld.size)
         refine hK.out _ _ (HK2) (fun hNext=>?_)
         clear hK K hHeld
         have hHeld:=hNext
         clear hNext
         clear HK2
         try simp only [Act.put,List.setIfInBounds_toArray,List.set_cons_zero,List.set_cons_succ,List.getElem_toArray,List.getElem_cons_zero,List.getElem_cons_succ]
         refine wpAnyH_take (i:=9) (v:=?_) rfl (by kernel_rfl) (by kernel_rfl) (by kernel_rfl) (fun _ _ _ h=>h) (Or.inl ⟨by rfl,?_⟩) hHeld ?_
         rotate_left
         ·intro v9 hS9
          try dsimp only at hS9
          go_simp
          try with_reducible rfl
         try simp only [Act.put,List.setIfInBounds_toArray,List.set_cons_zero,List.set_cons_succ,List.getElem_toArray,List.getElem_cons_zero,List.getElem_cons_succ]
         refine wpAnyH_done (by kernel_rfl) ?_ _
         obtain ⟨a8,c8,hv8,hw8⟩:=ho2.form
         have ha8:a8=some ⟨g2,0,none⟩:=by injection hv8 with h1 h2 h3;exact h1.symm
         have HN8:Hid (Nodes wz (some ⟨g2,0,none⟩) (t++[n])):=by
          rw [ha8] at hw8
          first|exact hw8.nodes|simpa using hw8.nodes
         have HB8:Hid (Below wq.heap.size wq wz):=hHeld
         have HC8:Hid (t.length+1<=cp2):=by
          have h9:=own_cap ho2
          show _<=_
          simpa using h9
         clear hv8 hw8 ho2 hk2 hg2 hHeld ha8
         go_wp2_with fail
         go_meet
         case rel=>exact ⟨g2,cp2,(by first|rfl|simp),HG2,HN8.out,HB8.out,HC8.out⟩
      ·
       go_simp
       refine hK.out _ _ (hHeld.alloc hHeld.size _) (fun hNext=>?_)
       clear hK K hHeld
       have hHeld:=hNext
       clear hNext
       refine wpAnyH_ready (rs:=[5]) (by kernel_rfl) (by simp) ?_
       refine (AllReadyH.cons rfl (fun K hK=>?_) AllReadyH.nil)
       ·
        refine step_app_nodes _ rfl _ _ rfl wq.heap.size (.slice (some ⟨wq.heap.size,0,none⟩) 0 0) [] t vb vo c rfl rfl (fun i hi=>(hvc i hi).below hHeld (hvc i hi).lt) hvp (World.ownsRow.alloc (own_lit _ _ _ rfl (Nat.le_refl _)) _) hHeld.size (by simp;omega) ?_
        intro g1 cp1 w1 ho1 hk1 hg1
        have HG1:wq.heap.size<=g1:=by
         rcases hg1 with e|e
         ·cases e;first|exact Nat.le_refl _|exact Nat.le_succ _
         ·exact Nat.le_trans hHeld.size e
        simp only [List.length_nil,Nat.zero_add,List.nil_append] at ho1
        simp only [List.length_nil,Nat.zero_add]
        have HK1:=hHeld.trans (hk1.below (fun k hk=>by cases hk;first|exact Nat.le_refl _|exact Nat.le_succ _) hHeld.size)
        refine hK.out _ _ (HK1) (fun hNext=>?_)
        clear hK K hHeld
        have hHeld:=hNext
        clear hNext
        clear HK1
        try simp only [Act.put,List.setIfInBounds_toArray,List.set_cons_zero,List.set_cons_succ,List.getElem_toArray,List.getElem_cons_zero,List.getElem_cons_succ]
        refine wpAnyH_ready (rs:=[8]) (by kernel_rfl) (by simp) ?_
        refine (AllReadyH.cons rfl (fun K hK=>?_) AllReadyH.nil)
        ·
         refine step_app_nodes _ rfl _ _ rfl wq.heap.size (.slice (some ⟨g1,0,none⟩) t.length cp1) t [n] (wq.heap.size+1) 0 1 rfl rfl (node_kept hk1 (by rw [sz2];omega) (own_ne (by omega)) (node_drew (node_new _ _ _ _ (by simp)))) (by simp) (ho1) hHeld.size (by first|(simp;done)|(simp;omega)) ?_
         intro g2 cp2 wz ho2 hk2 hg2
         have HG2:wq.heap.size<=g2:=by
          rcases hg2 with e|e
          ·cases e;first|exact HG1|exact Nat.le_refl _|exact Nat.le_succ _
          ·exact Nat.le_trans hHeld.size e
         simp only [List.length_cons,List.length_nil,Nat.zero_add]
         have HK2:=hHeld.trans (hk2.below (fun k hk=>by cases hk;first|exact HG1|exact Nat.le_refl _|exact Nat.le_succ _) hHeld.size)
         refine hK.out _ _ (HK2) (fun hNext=>?_)
         clear hK K hHeld
         have hHeld:=hNext
         clear hNext
         clear HK2
         try simp only [Act.put,List.setIfInBounds_toArray,List.set_cons_zero,List.set_cons_succ,List.getElem_toArray,List.getElem_cons_zero,List.getElem_cons_succ]
         refine wpAnyH_take (i:=9) (v:=?_) rfl (by kernel_rfl) (by kernel_rfl) (by kernel_rfl) (fun _ _ _ h=>h) (Or.inl ⟨by rfl,?_⟩) hHeld ?_
         rotate_left
         ·intro v9 hS9
          try dsimp only at hS9
          go_simp
          try with_reducible rfl
         try simp only [Act.put,List.setIfInBounds_toArray,List.set_cons_zero,List.set_cons_succ,List.getElem_toArray,List.getElem_cons_zero,List.getElem_cons_succ]
         refine wpAnyH_done (by kernel_rfl) ?_ _
         obtain ⟨a8,c8,hv8,hw8⟩:=ho2.form
         have ha8:a8=some ⟨g2,0,none⟩:=by injection hv8 with h1 h2 h3;exact h1.symm
         have HN8:Hid (Nodes wz (some ⟨g2,0,none⟩) (t++[n])):=by
          rw [ha8] at hw8
          first|exact hw8.nodes|simpa using hw8.nodes
         have HB8:Hid (Below wq.heap.size wq wz):=hHeld
         have HC8:Hid (t.length+1<=cp2):=by
          have h9:=own_cap ho2
          show _<=_
          simpa using h9
         clear hv8 hw8 ho2 hk2 hg2 hHeld ha8
         go_wp2_with fail
         go_meet
         case rel=>exact ⟨g2,cp2,(by first|rfl|simp),HG2,HN8.out,HB8.out,HC8.out⟩
     ·
      go_simp
      refine hK.out _ _ (hHeld.alloc hHeld.size _) (fun hNext=>?_)
      clear hK K hHeld
      have hHeld:=hNext
      clear hNext
      refine wpAnyH_ready (rs:=[0]) (by kernel_rfl) (by simp) ?_
      refine (AllReadyH.cons rfl (fun K hK=>?_) AllReadyH.nil)
      ·
       go_simp
       refine hK.out _ _ (hHeld.alloc hHeld.size _) (fun hNext=>?_)
       clear hK K hHeld
       have hHeld:=hNext
       clear hNext
       refine wpAnyH_ready (rs:=[5]) (by kernel_rfl) (by simp) ?_
       refine (AllReadyH.cons rfl (fun K hK=>?_) AllReadyH.nil)
       ·
        refine step_app_nodes _ rfl _ _ rfl wq.heap.size (.slice (some ⟨(wq.heap.size+1),0,none⟩) 0 0) [] t vb vo c rfl rfl (fun i hi=>(hvc i hi).below hHeld (hvc i hi).lt) hvp (own_lit _ _ _ (by simp) (by omega)) hHeld.size (by simp;omega) ?_
        intro g1 cp1 w1 ho1 hk1 hg1
        have HG1:wq.heap.size<=g1:=by
         rcases hg1 with e|e
         ·cases e;first|exact Nat.le_refl _|exact Nat.le_succ _
         ·exact Nat.le_trans hHeld.size e
        simp only [List.length_nil,Nat.zero_add,List.nil_append] at ho1
        simp only [List.length_nil,Nat.zero_add]
        have HK1:=hHeld.trans (hk1.below (fun k hk=>by cases hk;first|exact Nat.le_refl _|exact Nat.le_succ _) hHeld.size)
        refine hK.out _ _ (HK1) (fun hNext=>?_)
        clear hK K hHeld
        have hHeld:=hNext
        clear hNext
        clear HK1
        try simp only [Act.put,List.setIfInBounds_toArray,List.set_cons_zero,List.set_cons_succ,List.getElem_toArray,List.getElem_cons_zero,List.getElem_cons_succ]
        refine wpAnyH_ready (rs:=[8]) (by kernel_rfl) (by simp) ?_
        refine (AllReadyH.cons rfl (fun K hK=>?_) AllReadyH.nil)
        ·
         refine step_app_nodes _ rfl _ _ rfl wq.heap.size (.slice (some ⟨g1,0,none⟩) t.length cp1) t [n] wq.heap.size 0 1 rfl rfl (node_kept hk1 (by rw [sz2];omega) (own_ne (by omega)) (node_drew (node_kept (S:=fun _=>False) ((Kept.refl (fun _=>False) _).alloc _) (by simp) (fun e=>e) (node_new _ _ _ _ rfl)))) (by simp) (ho1) hHeld.size (by first|(simp;done)|(simp;omega)) ?_
         intro g2 cp2 wz ho2 hk2 hg2
         have HG2:wq.heap.size<=g2:=by
          rcases hg2 with e|e
          ·cases e;first|exact HG1|exact Nat.le_refl _|exact Nat.le_succ _
          ·exact Nat.le_trans hHeld.size e
         simp only [List.length_cons,List.length_nil,Nat.zero_add]
         have HK2:=hHeld.trans (hk2.below (fun k hk=>by cases hk;first|exact HG1|exact Nat.le_refl _|exact Nat.le_succ _) hHeld.size)
         refine hK.out _ _ (HK2) (fun hNext=>?_)
         clear hK K hHeld
         have hHeld:=hNext
         clear hNext
         clear HK2
         try simp only [Act.put,List.setIfInBounds_toArray,List.set_cons_zero,List.set_cons_succ,List.getElem_toArray,List.getElem_cons_zero,List.getElem_cons_succ]
         refine wpAnyH_take (i:=9) (v:=?_) rfl (by kernel_rfl) (by kernel_rfl) (by kernel_rfl) (fun _ _ _ h=>h) (Or.inl ⟨by rfl,?_⟩) hHeld ?_
         rotate_left
         ·intro v9 hS9
          try dsimp only at hS9
          go_simp
          try with_reducible rfl
         try simp only [Act.put,List.setIfInBounds_toArray,List.set_cons_zero,List.set_cons_succ,List.getElem_toArray,List.getElem_cons_zero,List.getElem_cons_succ]
         refine wpAnyH_done (by kernel_rfl) ?_ _
         obtain ⟨a8,c8,hv8,hw8⟩:=ho2.form
         have ha8:a8=some ⟨g2,0,none⟩:=by injection hv8 with h1 h2 h3;exact h1.symm
         have HN8:Hid (Nodes wz (some ⟨g2,0,none⟩) (t++[n])):=by
          rw [ha8] at hw8
          first|exact hw8.nodes|simpa using hw8.nodes
         have HB8:Hid (Below wq.heap.size wq wz):=hHeld
         have HC8:Hid (t.length+1<=cp2):=by
          have h9:=own_cap ho2
          show _<=_
          simpa using h9
         clear hv8 hw8 ho2 hk2 hg2 hHeld ha8
         go_wp2_with fail
         go_meet
         case rel=>exact ⟨g2,cp2,(by first|rfl|simp),HG2,HN8.out,HB8.out,HC8.out⟩
   case rest =>
    clear z0 z1 z2 z3 z4 z5 y2
    obtain ⟨g9,c9,rfl,hg9,hn9,hb9,hc9⟩:=hcut
    have HN9:Hid (Nodes wc (some ⟨g9,0,none⟩) (t++[n])):=hn9
    have HB9:Hid (Below wq.heap.size wq wc):=hb9
    have HR9:Hid (RC wc b S p (.slice a t.length c) 0 bad):=HRQ.out.kept (D:=fun _=>False) (Kept.ofBelow hb9) (fun h=>h)
    have HK9:Hid (Kept (fun k=>k=b) w wc):=HKQ.out.trans (Kept.ofBelow hb9)
    have HL9:Hid ((t++[n]).length=t.length+1):=by show _=_;simp
    have HBG:Hid (b < g9):=by show _ < _;omega
    have HNF:Hid (¬ F g9):=by
     show ¬ _
     intro h9
     have h8:=HFB.out.2 _ h9
     have h7:=HKQ.out.size
     omega
    clear hn9 hb9 HVQ HRQ HKQ
    have g1:(0:Int)<=(t.length:Int)+1 - 1:=by omega
    go_wp2_with fail
    have HSN:=sNode wc (some ⟨g9,0,none⟩) (t++[n]) c9 t.length (by rw [HL9.out];omega) (by rw [HL9.out];omega) HN9.out (fun j hj=>by
     have:=node_width (HOK.out j hj)
     rw [Tx2.nth_app hj];exact this)
    rw [HL9.out] at HSN
    refine (by first|exact HSN|simpa using HSN:Calls _ _ _ _ _).mono ?_
    clear HSN
    rintro e wd ⟨rfl,hbd⟩
    have HNd:Hid (Nodes wd (some ⟨g9,0,none⟩) (t++[n])):=HN9.out.below hbd
    have HRd:Hid (RC wd b S p (.slice a t.length c) 0 bad):=HR9.out.kept (D:=fun _=>False) (Kept.ofBelow hbd) (fun h=>h)
    have HKd:Hid (Kept (fun k=>k=b) w wd):=HK9.out.trans (Kept.ofBelow hbd)
    clear hbd HN9 HR9 HK9 HB9
    cases hno:nodeOk (t++[n]) t.length
    ·have HF:Hid (putL t n q=.error (3,q)):=by show _=_;rw [HP.out,hno];rfl
     clear hno
     go_wp2_with fail
     refine (sFail _ b S p _ bad 3 q HRd.out).mono ?_
     rintro e we ⟨rfl,hre,hke⟩
     have HRe:Hid (RC we b S p (.slice a t.length c) 3 q):=hre
     have HKe:Hid (Kept (fun k=>k=b) w we):=HKd.out.trans hke
     clear hre hke
     go_wp2
     go_ret
     exact ppost_err HF.out rfl HRe.out HKe.out
    ·by_cases hm:80 < t.length+1
     ·have HF:Hid (putL t n q=.error (4,q)):=by show _=_;rw [HP.out,hno,if_pos rfl,if_pos hm]
      have hmz:(80:Int) < (t.length:Int)+1:=by omega
      clear hno
      go_wp2_with fail
      refine (sFail _ b S p _ bad 4 q HRd.out).mono ?_
      rintro e we ⟨rfl,hre,hke⟩
      have HRe:Hid (RC we b S p (.slice a t.length c) 4 q):=hre
      have HKe:Hid (Kept (fun k=>k=b) w we):=HKd.out.trans hke
      clear hre hke
      go_wp2
      go_ret
      exact ppost_err HF.out rfl HRe.out HKe.out
     ·have HF:Hid (putL t n q=.ok (t++[n],t.length)):=by show _=_;rw [HP.out,hno,if_pos rfl,if_neg hm]
      have hmz:¬ (80:Int) < (t.length:Int)+1:=by omega
      have y2:=HRd.out.c2
      have y9:=HRd.out.f2
      clear hno
      go_wp2
      go_ret
      refine ppost_ok HF.out (by first|rfl|go_num) ⟨some ⟨g9,0,none⟩,c9,?_,?_,?_,by rw [HL9.out];exact hc9⟩ (kept_set HKd.out _)
      ·rw [HL9.out];exact HRd.out.list _
      ·exact HNd.out.kept (kept_set (Kept.refl (fun k=>k=b) _) _) (fun x hx=>by cases hx;show ¬ g9=b;have:=HBG.out;omega)
      ·intro x _ hx;cases hx;exact HNF.out
end Ss4
end Go.Proofs.YthanhcobfehmnaaGreat
