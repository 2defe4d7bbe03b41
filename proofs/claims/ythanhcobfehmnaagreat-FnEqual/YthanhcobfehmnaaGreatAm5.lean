import Derived.Deep.CutBlock
import Derived.Test.YthanhcobfehmnaaGreatPkQU218
namespace Go.Proofs.YthanhcobfehmnaaGreat
set_option maxRecDepth 100000
set_option maxHeartbeats 8000000
set_option linter.unusedVariables false
namespace Am5
open Go.RowKit
open Nd0 Nd3 Ap2 Tm0 Tm1 Sp2 Sp4 Aq0 Dw3 Dw4
theorem own_cap {w:World} {B g n c:Nat} {L:List Nd} (h:Ap2.Own w B (.slice (some ⟨g,0,none⟩) n c) L):L.length<=c:=by
 obtain ⟨h1,h2⟩:=h
 rcases h2 with ⟨h0,h9⟩|⟨g',cap,cur,he,hb,hg,hn,rest⟩
 ·cases h0
 ·cases he;exact hn
theorem wnodes_below {w w':World} {B:Nat} {a:Option Addr} {l:List Nd} (h:WNodes w B a l) (k:Below w.heap.size w w'):WNodes w' B a l:=by
 refine ⟨h.1,?_⟩
 rcases h.2 with h0|⟨b,o,rfl,hB,hc,hf⟩
 ·exact .inl h0
 ·refine .inr ⟨b,o,rfl,hB,fun i hi=>(hc i hi).below k (hc i hi).lt,fun j hj=>?_⟩
  have hb:b < w.heap.size:=(hc 0 (by omega)).lt
  rw [(Kept.ofBelow (S:=fun _=>False) k).frozen (p:=⟨b,o+j,none⟩) hb (fun e=>e)]
  exact hf j hj
theorem sBehind (w:World) (a:Option Addr) (l:List Nd) (c:Nat) (n:Nd) (hN:Nodes w a l) (hl:l.length<=1048576) :
 Calls Tryz.prog 112 #[.slice a l.length c,.agg #[.int .i64 n.op,.int .i64 n.w,.int .i64 n.k,.int .i64 n.a,.int .i64 n.b,.int .i64 n.c]] w fun e w'=>(∃ a' c',e=.returned (.tuple #[.slice a' (behL l n).length c',.bool (behB l n)])/\WNodes w' w.heap.size a' (behL l n))/\Below w.heap.size w w':=by
 have HN:Hid (Nodes w a l):=hN
 have HBE:Hid (behL l n=(if behB l n then l++[n] else [])/\behB l n=(termOk l&&termOk (l++[n]))):=⟨rfl,rfl⟩
 clear hN
 obtain ⟨wq,hwq⟩:∃ wq:World,wq=w.alloc (.cells #[.int .i64 n.op,.int .i64 n.w,.int .i64 n.k,.int .i64 n.a,.int .i64 n.b,.int .i64 n.c] 44):=⟨_,rfl⟩
 have HBQ:Hid (Below w.heap.size w wq):=by rw [hwq];exact (Below.refl _ _).alloc (Nat.le_refl _) _
 obtain ⟨bn,hbn⟩:∃ bn:Nat,bn=w.heap.size:=⟨_,rfl⟩
 have hbq:bn < wq.heap.size:=by rw [hbn,hwq];simp
 have hsz:w.heap.size<=wq.heap.size:=HBQ.out.size
 have z0:wq.cell? ⟨bn,0,none⟩=some (.int .i64 n.op):=by rw [hbn,hwq];simp
 have z1:wq.cell? ⟨bn,1,none⟩=some (.int .i64 n.w):=by rw [hbn,hwq];simp
 have z2:wq.cell? ⟨bn,2,none⟩=some (.int .i64 n.k):=by rw [hbn,hwq];simp
 have z3:wq.cell? ⟨bn,3,none⟩=some (.int .i64 n.a):=by rw [hbn,hwq];simp
 have z4:wq.cell? ⟨bn,4,none⟩=some (.int .i64 n.b):=by rw [hbn,hwq];simp
 have z5:wq.cell? ⟨bn,5,none⟩=some (.int .i64 n.c):=by rw [hbn,hwq];simp
 have HVQ:Hid (Nodes wq a l):=HN.out.below HBQ.out
 go_enter Tryz.func112,Tryz.ntmps112
 go_upto_region 1 with fail
 rw [<- hwq,<- hbn]
 clear hwq hbn
 go_cut [6] from 7 to 12 (fun s6 wc=>∃ g9 c9,s6=.slice (some ⟨g9,0,none⟩) (l.length+1) c9/\wq.heap.size<=g9/\WNodes wc wq.heap.size (some ⟨g9,0,none⟩) (l++[n])/\Below wq.heap.size wq wc/\l.length+1<=c9)
 case first =>
  refine wp_region_held_drew (S:=fun w'=>Below wq.heap.size wq w') (by kernel_rfl) ((Below.refl _ _).drew) (fun hHeld=>?_)
  refine wpAnyH_take (i:=1) (v:=?_) rfl (by kernel_rfl) (by kernel_rfl) (by kernel_rfl) (fun _ _ _ h=>h) (Or.inl ⟨by rfl,?_⟩) hHeld ?_
  rotate_left
  ·intro v9 hS9
   try dsimp only at hS9
   go_simp
   try with_reducible rfl
  try simp only [Act.put,List.setIfInBounds_toArray,List.set_cons_zero,List.set_cons_succ,List.getElem_toArray,List.getElem_cons_zero,List.getElem_cons_succ]
  refine wpAnyH_take (i:=3) (v:=?_) rfl (by kernel_rfl) (by kernel_rfl) (by kernel_rfl) (fun _ _ _ h=>h) (Or.inl ⟨by rfl,?_⟩) hHeld ?_
  rotate_left
  ·intro v9 hS9
   try dsimp only at hS9
   have q0:v9.cell? ⟨bn,0,none⟩=some (.int .i64 n.op):=by rw [hS9.cell hbq];exact z0
   have q1:v9.cell? ⟨bn,1,none⟩=some (.int .i64 n.w):=by rw [hS9.cell hbq];exact z1
   have q2:v9.cell? ⟨bn,2,none⟩=some (.int .i64 n.k):=by rw [hS9.cell hbq];exact z2
   have q3:v9.cell? ⟨bn,3,none⟩=some (.int .i64 n.a):=by rw [hS9.cell hbq];exact z3
   have q4:v9.cell? ⟨bn,4,none⟩=some (.int .i64 n.b):=by rw [hS9.cell hbq];exact z4
   have q5:v9.cell? ⟨bn,5,none⟩=some (.int .i64 n.c):=by rw [hS9.cell hbq];exact z5
   go_simp
   try with_reducible rfl
  try simp only [Act.put,List.setIfInBounds_toArray,List.set_cons_zero,List.set_cons_succ,List.getElem_toArray,List.getElem_cons_zero,List.getElem_cons_succ]
  by_cases hv0:l.length=0
  ·
   obtain rfl:l=[]:=List.eq_nil_of_length_eq_zero hv0
   clear hv0
   cases a with
   | none =>
     refine wpAnyH_ready (rs:=[0,4]) (by kernel_rfl) (by simp) ?_
     refine (AllReadyH.cons rfl (fun K hK=>?_) (AllReadyH.cons rfl (fun K hK=>?_) AllReadyH.nil))
     ·
      go_simp
      refine hK.out _ _ (hHeld.alloc hHeld.size _) (fun hNext=>?_)
      clear hK K hHeld
      have hHeld:=hNext
      clear hNext
      refine wpAnyH_ready (rs:=[2,4]) (by kernel_rfl) (by simp) ?_
      refine (AllReadyH.cons rfl (fun K hK=>?_) (AllReadyH.cons rfl (fun K hK=>?_) AllReadyH.nil))
      ·
       go_simp
       try go_wp2_with fail
       refine hK.out _ _ (hHeld) (fun hNext=>?_)
       clear hK K hHeld
       have hHeld:=hNext
       clear hNext
       refine wpAnyH_ready (rs:=[4]) (by kernel_rfl) (by simp) ?_
       refine (AllReadyH.cons rfl (fun K hK=>?_) AllReadyH.nil)
       ·
        go_simp
        refine hK.out _ _ (hHeld.alloc hHeld.size _) (fun hNext=>?_)
        clear hK K hHeld
        have hHeld:=hNext
        clear hNext
        refine wpAnyH_ready (rs:=[5]) (by kernel_rfl) (by simp) ?_
        refine (AllReadyH.cons rfl (fun K hK=>?_) AllReadyH.nil)
        ·
         refine step_app_nodes _ rfl _ _ rfl wq.heap.size (.slice (some ⟨wq.heap.size,0,none⟩) 0 0) [] [n] (wq.heap.size+1) 0 1 rfl rfl (node_drew (node_new _ _ _ _ (by simp))) (by simp) (World.ownsRow.alloc (own_lit _ _ _ rfl (Nat.le_refl _)) _) hHeld.size (by first|(simp;done)|(simp;omega)) ?_
         intro g2 cp2 wz ho2 hk2 hg2
         have HG2:wq.heap.size<=g2:=by
          rcases hg2 with e|e
          ·cases e;first|exact HG1|exact Nat.le_refl _|exact Nat.le_succ _
          ·exact Nat.le_trans hHeld.size e
         simp only [List.length_cons,List.length_nil,Nat.zero_add]
         have HK2:=hHeld.trans (hk2.below (fun k hk=>by cases hk;first|exact HG1|exact Nat.le_refl _|exact Nat.le_succ _) hHeld.size)
         refine hK.out _ _ (HK2) (fun hNext=>?_)
         clear hK K hHeld
         have hHeld:=hNext
         clear hNext
         clear HK2
         try simp only [Act.put,List.setIfInBounds_toArray,List.set_cons_zero,List.set_cons_succ,List.getElem_toArray,List.getElem_cons_zero,List.getElem_cons_succ]
         refine wpAnyH_take (i:=6) (v:=?_) rfl (by kernel_rfl) (by kernel_rfl) (by kernel_rfl) (fun _ _ _ h=>h) (Or.inl ⟨by rfl,?_⟩) hHeld ?_
         rotate_left
         ·intro v9 hS9
          try dsimp only at hS9
          go_simp
          try with_reducible rfl
         try simp only [Act.put,List.setIfInBounds_toArray,List.set_cons_zero,List.set_cons_succ,List.getElem_toArray,List.getElem_cons_zero,List.getElem_cons_succ]
         refine wpAnyH_done (by kernel_rfl) ?_ _
         obtain ⟨a8,c8,hv8,hw8⟩:=ho2.form
         have ha8:a8=some ⟨g2,0,none⟩:=by injection hv8 with h1 h2 h3;exact h1.symm
         have HN8:Hid (WNodes wz wq.heap.size (some ⟨g2,0,none⟩) (([]:List Nd)++[n])):=by
          rw [ha8] at hw8
          first|exact hw8|simpa using hw8
         have HB8:Hid (Below wq.heap.size wq wz):=hHeld
         have HC8:Hid (([]:List Nd).length+1<=cp2):=by
          have h9:=own_cap ho2
          show _<=_
          simpa using h9
         clear hv8 hw8 ho2 hk2 hg2 hHeld ha8
         go_wp2_with fail
         go_meet
         case rel=>exact ⟨g2,cp2,(by first|rfl|simp),HG2,HN8.out,HB8.out,HC8.out⟩
      ·
       go_simp
       refine hK.out _ _ (hHeld.alloc hHeld.size _) (fun hNext=>?_)
       clear hK K hHeld
       have hHeld:=hNext
       clear hNext
       refine wpAnyH_ready (rs:=[2]) (by kernel_rfl) (by simp) ?_
       refine (AllReadyH.cons rfl (fun K hK=>?_) AllReadyH.nil)
       ·
        go_simp
        try go_wp2_with fail
        refine hK.out _ _ (hHeld) (fun hNext=>?_)
        clear hK K hHeld
        have hHeld:=hNext
        clear hNext
        refine wpAnyH_ready (rs:=[5]) (by kernel_rfl) (by simp) ?_
        refine (AllReadyH.cons rfl (fun K hK=>?_) AllReadyH.nil)
        ·
         refine step_app_nodes _ rfl _ _ rfl wq.heap.size (.slice (some ⟨wq.heap.size,0,none⟩) 0 0) [] [n] (wq.heap.size+1) 0 1 rfl rfl (node_drew (node_new _ _ _ _ (by simp))) (by simp) (World.ownsRow.alloc (own_lit _ _ _ rfl (Nat.le_refl _)) _) hHeld.size (by first|(simp;done)|(simp;omega)) ?_
         intro g2 cp2 wz ho2 hk2 hg2
         have HG2:wq.heap.size<=g2:=by
          rcases hg2 with e|e
          ·cases e;first|exact HG1|exact Nat.le_refl _|exact Nat.le_succ _
          ·exact Nat.le_trans hHeld.size e
         simp only [List.length_cons,List.length_nil,Nat.zero_add]
         have HK2:=hHeld.trans (hk2.below (fun k hk=>by cases hk;first|exact HG1|exact Nat.le_refl _|exact Nat.le_succ _) hHeld.size)
         refine hK.out _ _ (HK2) (fun hNext=>?_)
         clear hK K hHeld
         have hHeld:=hNext
         clear hNext
         clear HK2
         try simp only [Act.put,List.setIfInBounds_toArray,List.set_cons_zero,List.set_cons_succ,List.getElem_toArray,List.getElem_cons_zero,List.getElem_cons_succ]
         refine wpAnyH_take (i:=6) (v:=?_) rfl (by kernel_rfl) (by kernel_rfl) (by kernel_rfl) (fun _ _ _ h=>h) (Or.inl ⟨by rfl,?_⟩) hHeld ?_
         rotate_left
         ·intro v9 hS9
          try dsimp only at hS9
          go_simp
          try with_reducible rfl
         try simp only [Act.put,List.setIfInBounds_toArray,List.set_cons_zero,List.set_cons_succ,List.getElem_toArray,List.getElem_cons_zero,List.getElem_cons_succ]
         refine wpAnyH_done (by kernel_rfl) ?_ _
         obtain ⟨a8,c8,hv8,hw8⟩:=ho2.form
         have ha8:a8=some ⟨g2,0,none⟩:=by injection hv8 with h1 h2 h3;exact h1.symm
         have HN8:Hid (WNodes wz wq.heap.size (some ⟨g2,0,none⟩) (([]:List Nd)++[n])):=by
          rw [ha8] at hw8
          first|exact hw8|simpa using hw8
         have HB8:Hid (Below wq.heap.size wq wz):=hHeld
         have HC8:Hid (([]:List Nd).length+1<=cp2):=by
          have h9:=own_cap ho2
          show _<=_
          simpa using h9
         clear hv8 hw8 ho2 hk2 hg2 hHeld ha8
         go_wp2_with fail
         go_meet
         case rel=>exact ⟨g2,cp2,(by first|rfl|simp),HG2,HN8.out,HB8.out,HC8.out⟩
     ·
      go_simp
      refine hK.out _ _ (hHeld.alloc hHeld.size _) (fun hNext=>?_)
      clear hK K hHeld
      have hHeld:=hNext
      clear hNext
      refine wpAnyH_ready (rs:=[0]) (by kernel_rfl) (by simp) ?_
      refine (AllReadyH.cons rfl (fun K hK=>?_) AllReadyH.nil)
      ·
       go_simp
       refine hK.out _ _ (hHeld.alloc hHeld.size _) (fun hNext=>?_)
       clear hK K hHeld
       have hHeld:=hNext
       clear hNext
       refine wpAnyH_ready (rs:=[2]) (by kernel_rfl) (by simp) ?_
       refine (AllReadyH.cons rfl (fun K hK=>?_) AllReadyH.nil)
       ·
        go_simp
        try go_wp2_with fail
        refine hK.out _ _ (hHeld) (fun hNext=>?_)
        clear hK K hHeld
        have hHeld:=hNext
        clear hNext
        refine wpAnyH_ready (rs:=[5]) (by kernel_rfl) (by simp) ?_
        refine (AllReadyH.cons rfl (fun K hK=>?_) AllReadyH.nil)
        ·
         refine step_app_nodes _ rfl _ _ rfl wq.heap.size (.slice (some ⟨(wq.heap.size+1),0,none⟩) 0 0) [] [n] wq.heap.size 0 1 rfl rfl (node_drew (node_kept (S:=fun _=>False) ((Kept.refl (fun _=>False) _).alloc _) (by simp) (fun e=>e) (node_new _ _ _ _ rfl))) (by simp) (own_lit _ _ _ (by simp) (by omega)) hHeld.size (by first|(simp;done)|(simp;omega)) ?_
         intro g2 cp2 wz ho2 hk2 hg2
         have HG2:wq.heap.size<=g2:=by
          rcases hg2 with e|e
          ·cases e;first|exact HG1|exact Nat.le_refl _|exact Nat.le_succ _
          ·exact Nat.le_trans hHeld.size e
         simp only [List.length_cons,List.length_nil,Nat.zero_add]
         have HK2:=hHeld.trans (hk2.below (fun k hk=>by cases hk;first|exact HG1|exact Nat.le_refl _|exact Nat.le_succ _) hHeld.size)
         refine hK.out _ _ (HK2) (fun hNext=>?_)
         clear hK K hHeld
         have hHeld:=hNext
         clear hNext
         clear HK2
         try simp only [Act.put,List.setIfInBounds_toArray,List.set_cons_zero,List.set_cons_succ,List.getElem_toArray,List.getElem_cons_zero,List.getElem_cons_succ]
         refine wpAnyH_take (i:=6) (v:=?_) rfl (by kernel_rfl) (by kernel_rfl) (by kernel_rfl) (fun _ _ _ h=>h) (Or.inl ⟨by rfl,?_⟩) hHeld ?_
         rotate_left
         ·intro v9 hS9
          try dsimp only at hS9
          go_simp
          try with_reducible rfl
         try simp only [Act.put,List.setIfInBounds_toArray,List.set_cons_zero,List.set_cons_succ,List.getElem_toArray,List.getElem_cons_zero,List.getElem_cons_succ]
         refine wpAnyH_done (by kernel_rfl) ?_ _
         obtain ⟨a8,c8,hv8,hw8⟩:=ho2.form
         have ha8:a8=some ⟨g2,0,none⟩:=by injection hv8 with h1 h2 h3;exact h1.symm
         have HN8:Hid (WNodes wz wq.heap.size (some ⟨g2,0,none⟩) (([]:List Nd)++[n])):=by
          rw [ha8] at hw8
          first|exact hw8|simpa using hw8
         have HB8:Hid (Below wq.heap.size wq wz):=hHeld
         have HC8:Hid (([]:List Nd).length+1<=cp2):=by
          have h9:=own_cap ho2
          show _<=_
          simpa using h9
         clear hv8 hw8 ho2 hk2 hg2 hHeld ha8
         go_wp2_with fail
         go_meet
         case rel=>exact ⟨g2,cp2,(by first|rfl|simp),HG2,HN8.out,HB8.out,HC8.out⟩
   | some x9 =>
     refine wpAnyH_ready (rs:=[0,4]) (by kernel_rfl) (by simp) ?_
     refine (AllReadyH.cons rfl (fun K hK=>?_) (AllReadyH.cons rfl (fun K hK=>?_) AllReadyH.nil))
     ·
      go_simp
      refine hK.out _ _ (hHeld.alloc hHeld.size _) (fun hNext=>?_)
      clear hK K hHeld
      have hHeld:=hNext
      clear hNext
      refine wpAnyH_ready (rs:=[2,4]) (by kernel_rfl) (by simp) ?_
      refine (AllReadyH.cons rfl (fun K hK=>?_) (AllReadyH.cons rfl (fun K hK=>?_) AllReadyH.nil))
      ·
       go_simp
       try go_wp2_with fail
       refine hK.out _ _ (hHeld) (fun hNext=>?_)
       clear hK K hHeld
       have hHeld:=hNext
       clear hNext
       refine wpAnyH_ready (rs:=[4]) (by kernel_rfl) (by simp) ?_
       refine (AllReadyH.cons rfl (fun K hK=>?_) AllReadyH.nil)
       ·
        go_simp
        refine hK.out _ _ (hHeld.alloc hHeld.size _) (fun hNext=>?_)
        clear hK K hHeld
        have hHeld:=hNext
        clear hNext
        refine wpAnyH_ready (rs:=[5]) (by kernel_rfl) (by simp) ?_
        refine (AllReadyH.cons rfl (fun K hK=>?_) AllReadyH.nil)
        ·
         refine step_app_nodes _ rfl _ _ rfl wq.heap.size (.slice (some ⟨wq.heap.size,0,none⟩) 0 0) [] [n] (wq.heap.size+1) 0 1 rfl rfl (node_drew (node_new _ _ _ _ (by simp))) (by simp) (World.ownsRow.alloc (own_lit _ _ _ rfl (Nat.le_refl _)) _) hHeld.size (by first|(simp;done)|(simp;omega)) ?_
         intro g2 cp2 wz ho2 hk2 hg2
         have HG2:wq.heap.size<=g2:=by
          rcases hg2 with e|e
          ·cases e;first|exact HG1|exact Nat.le_refl _|exact Nat.le_succ _
          ·exact Nat.le_trans hHeld.size e
         simp only [List.length_cons,List.length_nil,Nat.zero_add]
         have HK2:=hHeld.trans (hk2.below (fun k hk=>by cases hk;first|exact HG1|exact Nat.le_refl _|exact Nat.le_succ _) hHeld.size)
         refine hK.out _ _ (HK2) (fun hNext=>?_)
         clear hK K hHeld
         have hHeld:=hNext
         clear hNext
         clear HK2
         try simp only [Act.put,List.setIfInBounds_toArray,List.set_cons_zero,List.set_cons_succ,List.getElem_toArray,List.getElem_cons_zero,List.getElem_cons_succ]
         refine wpAnyH_take (i:=6) (v:=?_) rfl (by kernel_rfl) (by kernel_rfl) (by kernel_rfl) (fun _ _ _ h=>h) (Or.inl ⟨by rfl,?_⟩) hHeld ?_
         rotate_left
         ·intro v9 hS9
          try dsimp only at hS9
          go_simp
          try with_reducible rfl
         try simp only [Act.put,List.setIfInBounds_toArray,List.set_cons_zero,List.set_cons_succ,List.getElem_toArray,List.getElem_cons_zero,List.getElem_cons_succ]
         refine wpAnyH_done (by kernel_rfl) ?_ _
         obtain ⟨a8,c8,hv8,hw8⟩:=ho2.form
         have ha8:a8=some ⟨g2,0,none⟩:=by injection hv8 with h1 h2 h3;exact h1.symm
         have HN8:Hid (WNodes wz wq.heap.size (some ⟨g2,0,none⟩) (([]:List Nd)++[n])):=by
          rw [ha8] at hw8
          first|exact hw8|simpa using hw8
         have HB8:Hid (Below wq.heap.size wq wz):=hHeld
         have HC8:Hid (([]:List Nd).length+1<=cp2):=by
          have h9:=own_cap ho2
          show _<=_
          simpa using h9
         clear hv8 hw8 ho2 hk2 hg2 hHeld ha8
         go_wp2_with fail
         go_meet
         case rel=>exact ⟨g2,cp2,(by first|rfl|simp),HG2,HN8.out,HB8.out,HC8.out⟩
      ·
       go_simp
       refine hK.out _ _ (hHeld.alloc hHeld.size _) (fun hNext=>?_)
       clear hK K hHeld
       have hHeld:=hNext
       clear hNext
       refine wpAnyH_ready (rs:=[2]) (by kernel_rfl) (by simp) ?_
       refine (AllReadyH.cons rfl (fun K hK=>?_) AllReadyH.nil)
       ·
        go_simp
        try go_wp2_with fail
        refine hK.out _ _ (hHeld) (fun hNext=>?_)
        clear hK K hHeld
        have hHeld:=hNext
        clear hNext
        refine wpAnyH_ready (rs:=[5]) (by kernel_rfl) (by simp) ?_
        refine (AllReadyH.cons rfl (fun K hK=>?_) AllReadyH.nil)
        ·
         refine step_app_nodes _ rfl _ _ rfl wq.heap.size (.slice (some ⟨wq.heap.size,0,none⟩) 0 0) [] [n] (wq.heap.size+1) 0 1 rfl rfl (node_drew (node_new _ _ _ _ (by simp))) (by simp) (World.ownsRow.alloc (own_lit _ _ _ rfl (Nat.le_refl _)) _) hHeld.size (by first|(simp;done)|(simp;omega)) ?_
         intro g2 cp2 wz ho2 hk2 hg2
         have HG2:wq.heap.size<=g2:=by
          rcases hg2 with e|e
          ·cases e;first|exact HG1|exact Nat.le_refl _|exact Nat.le_succ _
          ·exact Nat.le_trans hHeld.size e
         simp only [List.length_cons,List.length_nil,Nat.zero_add]
         have HK2:=hHeld.trans (hk2.below (fun k hk=>by cases hk;first|exact HG1|exact Nat.le_refl _|exact Nat.le_succ _) hHeld.size)
         refine hK.out _ _ (HK2) (fun hNext=>?_)
         clear hK K hHeld
         have hHeld:=hNext
         clear hNext
         clear HK2
         try simp only [Act.put,List.setIfInBounds_toArray,List.set_cons_zero,List.set_cons_succ,List.getElem_toArray,List.getElem_cons_zero,List.getElem_cons_succ]
         refine wpAnyH_take (i:=6) (v:=?_) rfl (by kernel_rfl) (by kernel_rfl) (by kernel_rfl) (fun _ _ _ h=>h) (Or.inl ⟨by rfl,?_⟩) hHeld ?_
         rotate_left
         ·intro v9 hS9
          try dsimp only at hS9
          go_simp
          try with_reducible rfl
         try simp only [Act.put,List.setIfInBounds_toArray,List.set_cons_zero,List.set_cons_succ,List.getElem_toArray,List.getElem_cons_zero,List.getElem_cons_succ]
         refine wpAnyH_done (by kernel_rfl) ?_ _
         obtain ⟨a8,c8,hv8,hw8⟩:=ho2.form
         have ha8:a8=some ⟨g2,0,none⟩:=by injection hv8 with h1 h2 h3;exact h1.symm
         have HN8:Hid (WNodes wz wq.heap.size (some ⟨g2,0,none⟩) (([]:List Nd)++[n])):=by
          rw [ha8] at hw8
          first|exact hw8|simpa using hw8
         have HB8:Hid (Below wq.heap.size wq wz):=hHeld
         have HC8:Hid (([]:List Nd).length+1<=cp2):=by
          have h9:=own_cap ho2
          show _<=_
          simpa using h9
         clear hv8 hw8 ho2 hk2 hg2 hHeld ha8
         go_wp2_with fail
         go_meet
         case rel=>exact ⟨g2,cp2,(by first|rfl|simp),HG2,HN8.out,HB8.out,HC8.out⟩
     ·
      go_simp
      refine hK.out _ _ (hHeld.alloc hHeld.size _) (fun hNext=>?_)
      clear hK K hHeld
      have hHeld:=hNext
      clear hNext
      refine wpAnyH_ready (rs:=[0]) (by kernel_rfl) (by simp) ?_
      refine (AllReadyH.cons rfl (fun K hK=>?_) AllReadyH.nil)
      ·
       go_simp
       refine hK.out _ _ (hHeld.alloc hHeld.size _) (fun hNext=>?_)
       clear hK K hHeld
       have hHeld:=hNext
       clear hNext
       refine wpAnyH_ready (rs:=[2]) (by kernel_rfl) (by simp) ?_
       refine (AllReadyH.cons rfl (fun K hK=>?_) AllReadyH.nil)
       ·
        go_simp
        try go_wp2_with fail
        refine hK.out _ _ (hHeld) (fun hNext=>?_)
        clear hK K hHeld
        have hHeld:=hNext
        clear hNext
        refine wpAnyH_ready (rs:=[5]) (by kernel_rfl) (by simp) ?_
        refine (AllReadyH.cons rfl (fun K hK=>?_) AllReadyH.nil)
        ·
         refine step_app_nodes _ rfl _ _ rfl wq.heap.size (.slice (some ⟨(wq.heap.size+1),0,none⟩) 0 0) [] [n] wq.heap.size 0 1 rfl rfl (node_drew (node_kept (S:=fun _=>False) ((Kept.refl (fun _=>False) _).alloc _) (by simp) (fun e=>e) (node_new _ _ _ _ rfl))) (by simp) (own_lit _ _ _ (by simp) (by omega)) hHeld.size (by first|(simp;done)|(simp;omega)) ?_
         intro g2 cp2 wz ho2 hk2 hg2
         have HG2:wq.heap.size<=g2:=by
          rcases hg2 with e|e
          ·cases e;first|exact HG1|exact Nat.le_refl _|exact Nat.le_succ _
          ·exact Nat.le_trans hHeld.size e
         simp only [List.length_cons,List.length_nil,Nat.zero_add]
         have HK2:=hHeld.trans (hk2.below (fun k hk=>by cases hk;first|exact HG1|exact Nat.le_refl _|exact Nat.le_succ _) hHeld.size)
         refine hK.out _ _ (HK2) (fun hNext=>?_)
         clear hK K hHeld
         have hHeld:=hNext
         clear hNext
         clear HK2
         try simp only [Act.put,List.setIfInBounds_toArray,List.set_cons_zero,List.set_cons_succ,List.getElem_toArray,List.getElem_cons_zero,List.getElem_cons_succ]
         refine wpAnyH_take (i:=6) (v:=?_) rfl (by kernel_rfl) (by kernel_rfl) (by kernel_rfl) (fun _ _ _ h=>h) (Or.inl ⟨by rfl,?_⟩) hHeld ?_
         rotate_left
         ·intro v9 hS9
          try dsimp only at hS9
          go_simp
          try with_reducible rfl
         try simp only [Act.put,List.setIfInBounds_toArray,List.set_cons_zero,List.set_cons_succ,List.getElem_toArray,List.getElem_cons_zero,List.getElem_cons_succ]
         refine wpAnyH_done (by kernel_rfl) ?_ _
         obtain ⟨a8,c8,hv8,hw8⟩:=ho2.form
         have ha8:a8=some ⟨g2,0,none⟩:=by injection hv8 with h1 h2 h3;exact h1.symm
         have HN8:Hid (WNodes wz wq.heap.size (some ⟨g2,0,none⟩) (([]:List Nd)++[n])):=by
          rw [ha8] at hw8
          first|exact hw8|simpa using hw8
         have HB8:Hid (Below wq.heap.size wq wz):=hHeld
         have HC8:Hid (([]:List Nd).length+1<=cp2):=by
          have h9:=own_cap ho2
          show _<=_
          simpa using h9
         clear hv8 hw8 ho2 hk2 hg2 hHeld ha8
         go_wp2_with fail
         go_meet
         case rel=>exact ⟨g2,cp2,(by first|rfl|simp),HG2,HN8.out,HB8.out,HC8.out⟩
  ·
   have hvp:0 < l.length:=by omega
   rcases HVQ.out.2 with h0|⟨vb,vo,rfl,hvc⟩
   ·omega
   refine wpAnyH_ready (rs:=[0,4]) (by kernel_rfl) (by simp) ?_
   refine (AllReadyH.cons rfl (fun K hK=>?_) (AllReadyH.cons rfl (fun K hK=>?_) AllReadyH.nil))
   ·
    go_simp
    refine hK.out _ _ (hHeld.alloc hHeld.size _) (fun hNext=>?_)
    clear hK K hHeld
    have hHeld:=hNext
    clear hNext
    refine wpAnyH_ready (rs:=[2,4]) (by kernel_rfl) (by simp) ?_
    refine (AllReadyH.cons rfl (fun K hK=>?_) (AllReadyH.cons rfl (fun K hK=>?_) AllReadyH.nil))
    ·
     refine step_app_nodes _ rfl _ _ rfl wq.heap.size (.slice (some ⟨wq.heap.size,0,none⟩) 0 0) [] l vb vo c rfl rfl (fun i hi=>(hvc i hi).below hHeld (hvc i hi).lt) hvp (own_lit _ _ _ rfl (Nat.le_refl _)) hHeld.size (by simp;omega) ?_
     intro g1 cp1 w1 ho1 hk1 hg1
     have HG1:wq.heap.size<=g1:=by
      rcases hg1 with e|e
      ·cases e;first|exact Nat.le_refl _|exact Nat.le_succ _
      ·exact Nat.le_trans hHeld.size e
     simp only [List.length_nil,Nat.zero_add,List.nil_append] at ho1
     simp only [List.length_nil,Nat.zero_add]
     have HK1:=hHeld.trans (hk1.below (fun k hk=>by cases hk;first|exact Nat.le_refl _|exact Nat.le_succ _) hHeld.size)
     refine hK.out _ _ (HK1) (fun hNext=>?_)
     clear hK K hHeld
     have hHeld:=hNext
     clear hNext
     clear HK1
     try simp only [Act.put,List.setIfInBounds_toArray,List.set_cons_zero,List.set_cons_succ,List.getElem_toArray,List.getElem_cons_zero,List.getElem_cons_succ]
     refine wpAnyH_ready (rs:=[4]) (by kernel_rfl) (by simp) ?_
     refine (AllReadyH.cons rfl (fun K hK=>?_) AllReadyH.nil)
     ·
      go_simp
      refine hK.out _ _ (hHeld.alloc hHeld.size _) (fun hNext=>?_)
      clear hK K hHeld
      have hHeld:=hNext
      clear hNext
      refine wpAnyH_ready (rs:=[5]) (by kernel_rfl) (by simp) ?_
      refine (AllReadyH.cons rfl (fun K hK=>?_) AllReadyH.nil)
      ·
       refine step_app_nodes _ rfl _ _ rfl wq.heap.size (.slice (some ⟨g1,0,none⟩) l.length cp1) l [n] w1.heap.size 0 1 rfl rfl (node_new _ _ _ _ rfl) (by simp) (World.ownsRow.alloc ho1 _) hHeld.size (by first|(simp;done)|(simp;omega)) ?_
       intro g2 cp2 wz ho2 hk2 hg2
       have HG2:wq.heap.size<=g2:=by
        rcases hg2 with e|e
        ·cases e;first|exact HG1|exact Nat.le_refl _|exact Nat.le_succ _
        ·exact Nat.le_trans hHeld.size e
       simp only [List.length_cons,List.length_nil,Nat.zero_add]
       have HK2:=hHeld.trans (hk2.below (fun k hk=>by cases hk;first|exact HG1|exact Nat.le_refl _|exact Nat.le_succ _) hHeld.size)
       refine hK.out _ _ (HK2) (fun hNext=>?_)
       clear hK K hHeld
       have hHeld:=hNext
       clear hNext
       clear HK2
       try simp only [Act.put,List.setIfInBounds_toArray,List.set_cons_zero,List.set_cons_succ,List.getElem_toArray,List.getElem_cons_zero,List.getElem_cons_succ]
       refine wpAnyH_take (i:=6) (v:=?_) rfl (by kernel_rfl) (by kernel_rfl) (by kernel_rfl) (fun _ _ _ h=>h) (Or.inl ⟨by rfl,?_⟩) hHeld ?_
       rotate_left
       ·intro v9 hS9
        try dsimp only at hS9
        go_simp
        try with_reducible rfl
       try simp only [Act.put,List.setIfInBounds_toArray,List.set_cons_zero,List.set_cons_succ,List.getElem_toArray,List.getElem_cons_zero,List.getElem_cons_succ]
       refine wpAnyH_done (by kernel_rfl) ?_ _
       obtain ⟨a8,c8,hv8,hw8⟩:=ho2.form
       have ha8:a8=some ⟨g2,0,none⟩:=by injection hv8 with h1 h2 h3;exact h1.symm
       have HN8:Hid (WNodes wz wq.heap.size (some ⟨g2,0,none⟩) (l++[n])):=by
        rw [ha8] at hw8
        first|exact hw8|simpa using hw8
       have HB8:Hid (Below wq.heap.size wq wz):=hHeld
       have HC8:Hid (l.length+1<=cp2):=by
        have h9:=own_cap ho2
        show _<=_
        simpa using h9
       clear hv8 hw8 ho2 hk2 hg2 hHeld ha8
       go_wp2_with fail
       go_meet
       case rel=>exact ⟨g2,cp2,(by first|rfl|simp),HG2,HN8.out,HB8.out,HC8.out⟩
    ·
     go_simp
     refine hK.out _ _ (hHeld.alloc hHeld.size _) (fun hNext=>?_)
     clear hK K hHeld
     have hHeld:=hNext
     clear hNext
     refine wpAnyH_ready (rs:=[2]) (by kernel_rfl) (by simp) ?_
     refine (AllReadyH.cons rfl (fun K hK=>?_) AllReadyH.nil)
     ·
      refine step_app_nodes _ rfl _ _ rfl wq.heap.size (.slice (some ⟨wq.heap.size,0,none⟩) 0 0) [] l vb vo c rfl rfl (fun i hi=>(hvc i hi).below hHeld (hvc i hi).lt) hvp (World.ownsRow.alloc (own_lit _ _ _ rfl (Nat.le_refl _)) _) hHeld.size (by simp;omega) ?_
      intro g1 cp1 w1 ho1 hk1 hg1
      have HG1:wq.heap.size<=g1:=by
       rcases hg1 with e|e
       ·cases e;first|exact Nat.le_refl _|exact Nat.le_succ _
       ·exact Nat.le_trans hHeld.size e
      simp only [List.length_nil,Nat.zero_add,List.nil_append] at ho1
      simp only [List.length_nil,Nat.zero_add]
      have HK1:=hHeld.trans (hk1.below (fun k hk=>by cases hk;first|exact Nat.le_refl _|exact Nat.le_succ _) hHeld.size)
      refine hK.out _ _ (HK1) (fun hNext=>?_)
      clear hK K hHeld
      have hHeld:=hNext
      clear hNext
      clear HK1
      try simp only [Act.put,List.setIfInBounds_toArray,List.set_cons_zero,List.set_cons_succ,List.getElem_toArray,List.getElem_cons_zero,List.getElem_cons_succ]
      refine wpAnyH_ready (rs:=[5]) (by kernel_rfl) (by simp) ?_
      refine (AllReadyH.cons rfl (fun K hK=>?_) AllReadyH.nil)
      ·
       refine step_app_nodes _ rfl _ _ rfl wq.heap.size (.slice (some ⟨g1,0,none⟩) l.length cp1) l [n] (wq.heap.size+1) 0 1 rfl rfl (node_kept hk1 (by rw [sz2];omega) (own_ne (by omega)) (node_drew (node_new _ _ _ _ (by simp)))) (by simp) (ho1) hHeld.size (by first|(simp;done)|(simp;omega)) ?_
       intro g2 cp2 wz ho2 hk2 hg2
       have HG2:wq.heap.size<=g2:=by
        rcases hg2 with e|e
        ·cases e;first|exact HG1|exact Nat.le_refl _|exact Nat.le_succ _
        ·exact Nat.le_trans hHeld.size e
       simp only [List.length_cons,List.length_nil,Nat.zero_add]
       have HK2:=hHeld.trans (hk2.below (fun k hk=>by cases hk;first|exact HG1|exact Nat.le_refl _|exact Nat.le_succ _) hHeld.size)
       refine hK.out _ _ (HK2) (fun hNext=>?_)
       clear hK K hHeld
       have hHeld:=hNext
       clear hNext
       clear HK2
       try simp only [Act.put,List.setIfInBounds_toArray,List.set_cons_zero,List.set_cons_succ,List.getElem_toArray,List.getElem_cons_zero,List.getElem_cons_succ]
       refine wpAnyH_take (i:=6) (v:=?_) rfl (by kernel_rfl) (by kernel_rfl) (by kernel_rfl) (fun _ _ _ h=>h) (Or.inl ⟨by rfl,?_⟩) hHeld ?_
       rotate_left
       ·intro v9 hS9
        try dsimp only at hS9
        go_simp
        try with_reducible rfl
       try simp only [Act.put,List.setIfInBounds_toArray,List.set_cons_zero,List.set_cons_succ,List.getElem_toArray,List.getElem_cons_zero,List.getElem_cons_succ]
       refine wpAnyH_done (by kernel_rfl) ?_ _
       obtain ⟨a8,c8,hv8,hw8⟩:=ho2.form
       have ha8:a8=some ⟨g2,0,none⟩:=by injection hv8 with h1 h2 h3;exact h1.symm
       have HN8:Hid (WNodes wz wq.heap.size (some ⟨g2,0,none⟩) (l++[n])):=by
        rw [ha8] at hw8
        first|exact hw8|simpa using hw8
       have HB8:Hid (Below wq.heap.size wq wz):=hHeld
       have HC8:Hid (l.length+1<=cp2):=by
        have h9:=own_cap ho2
        show _<=_
        simpa using h9
       clear hv8 hw8 ho2 hk2 hg2 hHeld ha8
       go_wp2_with fail
       go_meet
       case rel=>exact ⟨g2,cp2,(by first|rfl|simp),HG2,HN8.out,HB8.out,HC8.out⟩
   ·
    go_simp
    refine hK.out _ _ (hHeld.alloc hHeld.size _) (fun hNext=>?_)
    clear hK K hHeld
    have hHeld:=hNext
    clear hNext
    refine wpAnyH_ready (rs:=[0]) (by kernel_rfl) (by simp) ?_
    refine (AllReadyH.cons rfl (fun K hK=>?_) AllReadyH.nil)
    ·
     go_simp
     refine hK.out _ _ (hHeld.alloc hHeld.size _) (fun hNext=>?_)
     clear hK K hHeld
     have hHeld:=hNext
     clear hNext
     refine wpAnyH_ready (rs:=[2]) (by kernel_rfl) (by simp) ?_
     refine (AllReadyH.cons rfl (fun K hK=>?_) AllReadyH.nil)
     ·
      refine step_app_nodes _ rfl _ _ rfl wq.heap.size (.slice (some ⟨(wq.heap.size+1),0,none⟩) 0 0) [] l vb vo c rfl rfl (fun i hi=>(hvc i hi).below hHeld (hvc i hi).lt) hvp (own_lit _ _ _ (by simp) (by omega)) hHeld.size (by simp;omega) ?_
      intro g1 cp1 w1 ho1 hk1 hg1
      have HG1:wq.heap.size<=g1:=by
       rcases hg1 with e|e
       ·cases e;first|exact Nat.le_refl _|exact Nat.le_succ _
       ·exact Nat.le_trans hHeld.size e
      simp only [List.length_nil,Nat.zero_add,List.nil_append] at ho1
      simp only [List.length_nil,Nat.zero_add]
      have HK1:=hHeld.trans (hk1.below (fun k hk=>by cases hk;first|exact Nat.le_refl _|exact Nat.le_succ _) hHeld.size)
      refine hK.out _ _ (HK1) (fun hNext=>?_)
      clear hK K hHeld
      have hHeld:=hNext
      clear hNext
      clear HK1
      try simp only [Act.put,List.setIfInBounds_toArray,List.set_cons_zero,List.set_cons_succ,List.getElem_toArray,List.getElem_cons_zero,List.getElem_cons_succ]
      refine wpAnyH_ready (rs:=[5]) (by kernel_rfl) (by simp) ?_
      refine (AllReadyH.cons rfl (fun K hK=>?_) AllReadyH.nil)
      ·
       refine step_app_nodes _ rfl _ _ rfl wq.heap.size (.slice (some ⟨g1,0,none⟩) l.length cp1) l [n] wq.heap.size 0 1 rfl rfl (node_kept hk1 (by rw [sz2];omega) (own_ne (by omega)) (node_drew (node_kept (S:=fun _=>False) ((Kept.refl (fun _=>False) _).alloc _) (by simp) (fun e=>e) (node_new _ _ _ _ rfl)))) (by simp) (ho1) hHeld.size (by first|(simp;done)|(simp;omega)) ?_
       intro g2 cp2 wz ho2 hk2 hg2
       have HG2:wq.heap.size<=g2:=by
        rcases hg2 with e|e
        ·cases e;first|exact HG1|exact Nat.le_refl _|exact Nat.le_succ _
        ·exact Nat.le_trans hHeld.size e
       simp only [List.length_cons,List.length_nil,Nat.zero_add]
       have HK2:=hHeld.trans (hk2.below (fun k hk=>by cases hk;first|exact HG1|exact Nat.le_refl _|exact Nat.le_succ _) hHeld.size)
       refine hK.out _ _ (HK2) (fun hNext=>?_)
       clear hK K hHeld
       have hHeld:=hNext
       clear hNext
       clear HK2
       try simp only [Act.put,List.setIfInBounds_toArray,List.set_cons_zero,List.set_cons_succ,List.getElem_toArray,List.getElem_cons_zero,List.getElem_cons_succ]
       refine wpAnyH_take (i:=6) (v:=?_) rfl (by kernel_rfl) (by kernel_rfl) (by kernel_rfl) (fun _ _ _ h=>h) (Or.inl ⟨by rfl,?_⟩) hHeld ?_
       rotate_left
       ·intro v9 hS9
        try dsimp only at hS9
        go_simp
        try with_reducible rfl
       try simp only [Act.put,List.setIfInBounds_toArray,List.set_cons_zero,List.set_cons_succ,List.getElem_toArray,List.getElem_cons_zero,List.getElem_cons_succ]
       refine wpAnyH_done (by kernel_rfl) ?_ _
       obtain ⟨a8,c8,hv8,hw8⟩:=ho2.form
       have ha8:a8=some ⟨g2,0,none⟩:=by injection hv8 with h1 h2 h3;exact h1.symm
       have HN8:Hid (WNodes wz wq.heap.size (some ⟨g2,0,none⟩) (l++[n])):=by
        rw [ha8] at hw8
        first|exact hw8|simpa using hw8
       have HB8:Hid (Below wq.heap.size wq wz):=hHeld
       have HC8:Hid (l.length+1<=cp2):=by
        have h9:=own_cap ho2
        show _<=_
        simpa using h9
       clear hv8 hw8 ho2 hk2 hg2 hHeld ha8
       go_wp2_with fail
       go_meet
       case rel=>exact ⟨g2,cp2,(by first|rfl|simp),HG2,HN8.out,HB8.out,HC8.out⟩
 case rest =>
  obtain ⟨g9,c9,rfl,hg9,hw9,hb9,hc9⟩:=hcut
  have HW9:Hid (WNodes wc wq.heap.size (some ⟨g9,0,none⟩) (l++[n])):=hw9
  have HB9:Hid (Below w.heap.size w wc):=HBQ.out.trans (hb9.mono hsz)
  have HN9:Hid (Nodes wc a l):=HVQ.out.below hb9
  clear hw9 hb9 hg9 HVQ z0 z1 z2 z3 z4 z5 HN hbq
  go_wp2_with fail
  refine (sTermOk _ a l c HN9.out).mono ?_
  rintro e w2 ⟨rfl,hb2⟩
  have HB2:Hid (Below w.heap.size w w2):=HB9.out.trans (hb2.mono HB9.out.size)
  have HW2:Hid (WNodes w2 wq.heap.size (some ⟨g9,0,none⟩) (l++[n])):=wnodes_below HW9.out hb2
  have HLL:Hid ((l++[n]).length=l.length+1):=by show _=_;simp
  clear hb2 HW9 HN9
  cases hT:termOk l
  ·have HF:Hid (behB l n=false):=by show _=_;rw [HBE.out.2,hT];rfl
   clear hT
   go_wp2
   go_ret2
   rw [HBE.out.1,HF.out]
   exact ⟨⟨_,_,rfl,⟨Nat.zero_le _,.inl rfl⟩⟩,HB2.out.alloc HB2.out.size _⟩
  ·have HT:Hid (termOk l=true):=hT
   clear hT
   have HQ2:Hid (Calls Tryz.prog 18 #[.slice (some ⟨g9,0,none⟩) (l.length+1) c9] w2 fun e w'=>e=.returned (.bool (termOk (l++[n])))/\Below w2.heap.size w2 w'):=by
    have h9:=sTermOk w2 (some ⟨g9,0,none⟩) (l++[n]) c9 HW2.out.nodes
    rw [HLL.out] at h9
    exact h9
   go_wp2_with fail
   refine (HQ2.out).mono ?_
   rintro e w3 ⟨rfl,hb3⟩
   have HB3:Hid (Below w.heap.size w w3):=HB2.out.trans (hb3.mono HB2.out.size)
   have HW3:Hid (WNodes w3 w.heap.size (some ⟨g9,0,none⟩) (l++[n])):=by
    obtain ⟨h1,h2⟩:=wnodes_below HW2.out hb3
    refine ⟨h1,?_⟩
    rcases h2 with h0|⟨b2,o2,ha,hB,hcc,hf⟩
    ·exact .inl h0
    ·exact .inr ⟨b2,o2,ha,by omega,hcc,hf⟩
   clear hb3 HQ2 HW2 HB2
   cases hT2:termOk (l++[n])
   ·have HF:Hid (behB l n=false):=by show _=_;rw [HBE.out.2,hT2,Bool.and_false]
    clear hT2
    go_wp2
    go_ret2
    rw [HBE.out.1,HF.out]
    exact ⟨⟨_,_,rfl,⟨Nat.zero_le _,.inl rfl⟩⟩,HB3.out.alloc HB3.out.size _⟩
   ·have HF:Hid (behB l n=true):=by show _=_;rw [HBE.out.2,hT2,HT.out];rfl
    clear hT2
    go_wp2
    go_ret2
    rw [HBE.out.1,HF.out,if_pos rfl,HLL.out]
    exact ⟨⟨_,_,rfl,HW3.out⟩,HB3.out⟩
theorem sQuantify (w:World) (a:Option Addr) (l:List Nd) (c:Nat) (al:Bool) (v u:Int) (hN:Nodes w a l) (hl:l.length<=1048576) :
 Calls Tryz.prog 80 #[.slice a l.length c,.bool al,.int .i64 v,.int .i64 u] w fun e w'=>(∃ a' c',e=.returned (.tuple #[.slice a' (behL l (quN l al v u)).length c',.bool (behB l (quN l al v u))])/\WNodes w' w.heap.size a' (behL l (quN l al v u)))/\Below w.heap.size w w':=by
 have HN:Hid (Nodes w a l):=hN
 clear hN
 have HDN:Hid (quN l al v u=⟨if al then 19 else 20,1,v,(l.length:Int) - 1,u,0⟩):=rfl
 generalize quN l al v u=y at HDN ⊢
 cases al
 all_goals
  simp only [Bool.false_eq_true,if_false,if_true] at HDN
  go_enter Tryz.func80,Tryz.ntmps80
  go_wp2_with fail
  refine (sBehind _ _ l c ⟨_,1,v,(l.length:Int) - 1,u,0⟩ HN.out hl).mono ?_
  rintro e w2 ⟨⟨a',c',rfl,hw2⟩,hb2⟩
  rw [<- HDN.out] at hw2 ⊢
  have HW2:Hid (WNodes w2 w.heap.size a' (behL l y)):=hw2
  have HB2:Hid (Below w.heap.size w w2):=hb2
  clear hw2 hb2
  go_wp2
  go_ret2
  exact ⟨⟨_,_,rfl,HW2.out⟩,HB2.out⟩
end Am5
end Go.Proofs.YthanhcobfehmnaaGreat
