import Derived.Test.YthanhcobfehmnaaGreatPv7
namespace Go.Proofs.YthanhcobfehmnaaGreat
set_option maxRecDepth 100000
set_option maxHeartbeats 8000000
set_option linter.unusedVariables false
namespace Pv8
open Go.RowKit Go.Shelf
open Nd0 Pl1 Tm0 Tm1 Tm5 Tm6 Tm8 Tr0 Rw0 Vl1 Vl2 Vm0 Vm1 Vm2 Kp1 Pv6 Pv7
attribute [local go_sem] Oper.semAt_some
theorem keep3 {W W':World} {b s:Nat} {v0 v1:Value} {e:List Int} (hb:Below W.heap.size W W') (h:W.cell? ⟨b,0,none⟩=some v0/\W.cell? ⟨s,0,none⟩=some v1/\∀ j:Nat,j < 8->W.cell? ⟨s,1+j,none⟩=some (.int .i64 (wd e (j:Int)))) :
 W'.cell? ⟨b,0,none⟩=some v0/\W'.cell? ⟨s,0,none⟩=some v1/\∀ j:Nat,j < 8->W'.cell? ⟨s,1+j,none⟩=some (.int .i64 (wd e (j:Int))) :=
 ⟨(hb.cell (lt_of_cell h.1)).trans h.1,(hb.cell (lt_of_cell h.2.1)).trans h.2.1,fun j hj=>(hb.cell (lt_of_cell (h.2.2 j hj))).trans (h.2.2 j hj)⟩
theorem come_of {l:List Nd} (hT:termOk l=true) {i:Nat} (hi:i < l.length) (hq:quant (nth l i).op=true) (ih:PVal l (nth l i).a.toNat):PCome l i:=by
 intro w s a c e K V x hN hag he hS hF
 have hkk:=shape_var (term_node hT hi) (.inr hq)
 have hbb:=Tm11.quant_b (term_node hT hi) hq
 have haa:0<=(nth l i).a:=by
  have hq2:(nth l i).op=19\/(nth l i).op=20:=by simpa [quant] using hq
  exact (down_of hT i hi (nth l i).a (by rw [parts_one (by omega)];simp)).1
 have HFB:Hid (∀ k:Nat,k < 2 ^ (nth l i).b.toNat->FitN l (nth l i).a.toNat (e.set (nth l i).k.toNat (k:Int))):=fun k hk=>hF.below (down_of hT) hi (term_node hT hi) he hq hk
 have HIH:Hid (PVal l (nth l i).a.toNat):=ih
 have HN:Hid (Nodes w a l):=hN
 have HS:Hid (Sc w s a l c e K V):=hS
 have HAG:Hid (∀ x,a=some x->¬ x.block=s):=hag
 generalize nth l i=n at hkk hbb HFB HIH haa ⊢
 clear hN hS hag ih hF hq
 refine (callsIn_wide (n:=3)).1 ?_
 refine callsIn_of_wp_marks Tryz.func91 rfl trivial ?_ rfl
 simp only [Tryz.ntmps91,List.size_toArray,List.length_cons,List.length_nil,Nat.reduceAdd,Nat.reduceSub,Array.replicate_succ,Array.replicate_zero,List.push_toArray,List.append_toArray,List.nil_append,List.cons_append]
 gi_wp2_with (refine ⟨trivial,?_⟩;gi_at_call 117;refine (callsIn_wide.2 (iEach _ _)).mono ?_;rintro e0 w1 ⟨rfl,rfl⟩)
 obtain ⟨w1,hw1⟩:∃ w1:World,w1=((((w.alloc (.cells #[.pointer (some ⟨s,0,none⟩)] 81)).alloc (.cells #[.int .i64 x] 3)).alloc (.cells #[.int .i64 n.op,.int .i64 n.w,.int .i64 n.k,.int .i64 n.a,.int .i64 n.b,.int .i64 n.c] 44)).alloc (.cells #[.bool false] 4)).alloc (.cells #[.int .i64 n.b] 3):=⟨_,rfl⟩
 have F:=come_facts w s x n _ _ _ _ _ w1 hw1
 rw [<- hw1]
 obtain ⟨f,hf⟩:∃ f:Nat->Int,f=fun (k:Nat)=>vT (tr l n.a.toNat) (e.set n.k.toNat (k:Int)):=⟨_,rfl⟩
 refine wpIn_rangeFunc_ownF rfl (by omega) (gf:=127) (lb := #[.pointer (some ⟨w.heap.size+1+1+1+1,0,none⟩)]) rfl trivial (enters_of Tryz.func127 (by kernel_rfl) rfl)
  (words_stops 2 (w.heap.size+1+1+1+1+1) (w.heap.size+1+1+1+1) n.b hbb.1 hbb.2 w1 (by omega) (by have:=F.sz;omega) F.eb) belowK_t (belowK_b (by have:=F.sz;omega)) (Below.refl _ _) (fun _=>rfl)
  (fun pre W=>(∀ k∈pre,¬ f k.val=x)/\Below (w.heap.size+1+1+1+1+1) w1 W)
  (fun c pre W=>(c=.ret/\∃ k∈pre,f k.val=x)/\(W.cell? ⟨w.heap.size+1+1+1,0,none⟩=some (.bool true)/\Below w.heap.size w W))
  (OwnFrom.and (ownFrom_pure _ _) (ownFrom_below (by have:=F.sz;omega) (by have:=F.sz;omega)))
  (fun c=>OwnFrom.and (ownFrom_pure _ _) (OwnFrom.and (Own.from (fun s A B row hs hg hr=>cell_kept hs hg hr) _) (ownFrom_below (Nat.le_refl _) (by have:=F.sz;omega))))
  ⟨(fun k hk=>by cases hk),Below.refl _ _⟩
  (fun k=>{ tmps := #[.pointer (some ⟨s,0,none⟩),.int .i64 x,.agg #[.int .i64 n.op,.int .i64 n.w,.int .i64 n.k,.int .i64 n.a,.int .i64 n.b,.int .i64 n.c],.pointer (some ⟨w.heap.size,0,none⟩),.pointer (some ⟨w.heap.size+1,0,none⟩),.pointer (some ⟨w.heap.size+1+1,0,none⟩),.pointer (some ⟨w.heap.size+1+1+1,0,none⟩),.int .i64 (k.val:Int),undef,.pointer (some ⟨w.heap.size+1+1,4,none⟩),.int .i64 n.b,.func (.func 127) #[] #[.pointer (some ⟨w.heap.size+1+1+1+1,0,none⟩)],.int .i64 (k.val:Int),undef,undef,undef,undef,undef,undef,undef,undef,undef,undef,undef,undef,undef,undef,undef,undef,undef,undef,undef],defers:=[] }) ?assign ?body ?done ?stop
 case assign =>
  intro l x W K hK
  gi_wp2
  exact hK
 case body =>
  rintro lp pre k W ⟨hne,hB⟩ hlen
  have hSc:Sc W s a l c e K V:=(HS.out.kept (S:=fun _=>False) (Kept.ofBelow F.below) (fun h=>h)).kept (S:=fun b=>w.heap.size+1+1+1+1+1<=b) ⟨hB.os,hB.tape,hB.output,hB.size,fun b hb h=>hB.block b (by omega)⟩ (by have:=HS.out.lt;omega)
  have m0:W.cell? ⟨w.heap.size,0,none⟩=some (.pointer (some ⟨s,0,none⟩)):=(hB.cell (p:=⟨w.heap.size,0,none⟩) (show w.heap.size < _ by omega)).trans F.ps
  gi_wp2
  refine Lift.region_lift (S:=fun w'=>w'.cell? ⟨w.heap.size,0,none⟩=some (.pointer (some ⟨s,0,none⟩))/\w'.cell? ⟨s,0,none⟩=some (.slice a l.length c)/\∀ j:Nat,j < 8->w'.cell? ⟨s,1+j,none⟩=some (.int .i64 (wd e (j:Int)))) (by kernel_rfl) (fun h=>by obtain ⟨_,_,h⟩:=h;exact h) (by kernel_rfl) ⟨m0,hSc.c0,hSc.cv⟩ (fun hHeld=>?_)
  refine wpAnyH_take (i:=0) (oi:=_) (v:=?_) rfl (by kernel_rfl) (by kernel_rfl) (by kernel_rfl) (fun _ _ _ h=>h) (Or.inl ⟨by rfl,?_⟩) (by assumption) ?_
  rotate_left 1
  ·intro w' hSw
   obtain ⟨y0,y1,y2⟩:=hSw
   have z0:=y2 0 (by omega)
   have z1:=y2 1 (by omega)
   have z2:=y2 2 (by omega)
   have z3:=y2 3 (by omega)
   have z4:=y2 4 (by omega)
   have z5:=y2 5 (by omega)
   have z6:=y2 6 (by omega)
   have z7:=y2 7 (by omega)
   simp only [Nat.reduceAdd] at z0 z1 z2 z3 z4 z5 z6 z7
   clear y2
   go_simp
   with_reducible rfl
  try simp only [Act.put]
  try simp only [List.getElem_toArray]
  repeat (first|simp only [List.getElem_cons_succ]|simp only [List.getElem_cons_zero])
  try simp only [List.setIfInBounds_toArray]
  repeat (first|simp only [List.set_cons_succ]|simp only [List.set_cons_zero])
  refine wpAnyH_take (i:=1) (oi:=_) (v:=?_) rfl (by kernel_rfl) (by kernel_rfl) (by kernel_rfl) (fun _ _ _ h=>h) (Or.inl ⟨by rfl,?_⟩) (by assumption) ?_
  rotate_left 1
  ·intro w' hSw
   obtain ⟨y0,y1,y2⟩:=hSw
   have z0:=y2 0 (by omega)
   have z1:=y2 1 (by omega)
   have z2:=y2 2 (by omega)
   have z3:=y2 3 (by omega)
   have z4:=y2 4 (by omega)
   have z5:=y2 5 (by omega)
   have z6:=y2 6 (by omega)
   have z7:=y2 7 (by omega)
   simp only [Nat.reduceAdd] at z0 z1 z2 z3 z4 z5 z6 z7
   clear y2
   go_simp
   with_reducible rfl
  try simp only [Act.put]
  try simp only [List.getElem_toArray]
  repeat (first|simp only [List.getElem_cons_succ]|simp only [List.getElem_cons_zero])
  try simp only [List.setIfInBounds_toArray]
  repeat (first|simp only [List.set_cons_succ]|simp only [List.set_cons_zero])
  refine wpAnyH_take (i:=2) (oi:=_) (v:=?_) rfl (by kernel_rfl) (by kernel_rfl) (by kernel_rfl) (fun _ _ _ h=>h) (Or.inl ⟨by rfl,?_⟩) (by assumption) ?_
  rotate_left 1
  ·intro w' hSw
   obtain ⟨y0,y1,y2⟩:=hSw
   have z0:=y2 0 (by omega)
   have z1:=y2 1 (by omega)
   have z2:=y2 2 (by omega)
   have z3:=y2 3 (by omega)
   have z4:=y2 4 (by omega)
   have z5:=y2 5 (by omega)
   have z6:=y2 6 (by omega)
   have z7:=y2 7 (by omega)
   simp only [Nat.reduceAdd] at z0 z1 z2 z3 z4 z5 z6 z7
   clear y2
   go_simp
   with_reducible rfl
  try simp only [Act.put]
  try simp only [List.getElem_toArray]
  repeat (first|simp only [List.getElem_cons_succ]|simp only [List.getElem_cons_zero])
  try simp only [List.setIfInBounds_toArray]
  repeat (first|simp only [List.set_cons_succ]|simp only [List.set_cons_zero])
  refine wpAnyH_take (i:=3) (oi:=_) (v:=?_) rfl (by kernel_rfl) (by kernel_rfl) (by kernel_rfl) (fun _ _ _ h=>h) (Or.inl ⟨by rfl,?_⟩) (by assumption) ?_
  rotate_left 1
  ·intro w' hSw
   obtain ⟨y0,y1,y2⟩:=hSw
   have z0:=y2 0 (by omega)
   have z1:=y2 1 (by omega)
   have z2:=y2 2 (by omega)
   have z3:=y2 3 (by omega)
   have z4:=y2 4 (by omega)
   have z5:=y2 5 (by omega)
   have z6:=y2 6 (by omega)
   have z7:=y2 7 (by omega)
   simp only [Nat.reduceAdd] at z0 z1 z2 z3 z4 z5 z6 z7
   clear y2
   go_simp
   with_reducible rfl
  try simp only [Act.put]
  try simp only [List.getElem_toArray]
  repeat (first|simp only [List.getElem_cons_succ]|simp only [List.getElem_cons_zero])
  try simp only [List.setIfInBounds_toArray]
  repeat (first|simp only [List.set_cons_succ]|simp only [List.set_cons_zero])
  refine wpAnyH_take (i:=4) (oi:=_) (v:=?_) rfl (by kernel_rfl) (by kernel_rfl) (by kernel_rfl) (fun _ _ _ h=>h) (Or.inl ⟨by rfl,?_⟩) (by assumption) ?_
  rotate_left 1
  ·intro w' hSw
   obtain ⟨y0,y1,y2⟩:=hSw
   have z0:=y2 0 (by omega)
   have z1:=y2 1 (by omega)
   have z2:=y2 2 (by omega)
   have z3:=y2 3 (by omega)
   have z4:=y2 4 (by omega)
   have z5:=y2 5 (by omega)
   have z6:=y2 6 (by omega)
   have z7:=y2 7 (by omega)
   simp only [Nat.reduceAdd] at z0 z1 z2 z3 z4 z5 z6 z7
   clear y2
   go_simp
   with_reducible rfl
  try simp only [Act.put]
  try simp only [List.getElem_toArray]
  repeat (first|simp only [List.getElem_cons_succ]|simp only [List.getElem_cons_zero])
  try simp only [List.setIfInBounds_toArray]
  repeat (first|simp only [List.set_cons_succ]|simp only [List.set_cons_zero])
  refine wpAnyH_take (i:=5) (oi:=_) (v:=?_) rfl (by kernel_rfl) (by kernel_rfl) (by kernel_rfl) (fun _ _ _ h=>h) (Or.inl ⟨by rfl,?_⟩) (by assumption) ?_
  rotate_left 1
  ·intro w' hSw
   obtain ⟨y0,y1,y2⟩:=hSw
   have z0:=y2 0 (by omega)
   have z1:=y2 1 (by omega)
   have z2:=y2 2 (by omega)
   have z3:=y2 3 (by omega)
   have z4:=y2 4 (by omega)
   have z5:=y2 5 (by omega)
   have z6:=y2 6 (by omega)
   have z7:=y2 7 (by omega)
   simp only [Nat.reduceAdd] at z0 z1 z2 z3 z4 z5 z6 z7
   clear y2
   go_simp
   with_reducible rfl
  try simp only [Act.put]
  try simp only [List.getElem_toArray]
  repeat (first|simp only [List.getElem_cons_succ]|simp only [List.getElem_cons_zero])
  try simp only [List.setIfInBounds_toArray]
  repeat (first|simp only [List.set_cons_succ]|simp only [List.set_cons_zero])
  refine wpAnyH_take (i:=6) (oi:=_) (v:=?_) rfl (by kernel_rfl) (by kernel_rfl) (by kernel_rfl) (fun _ _ _ h=>h) (Or.inl ⟨by rfl,?_⟩) (by assumption) ?_
  rotate_left 1
  ·intro w' hSw
   obtain ⟨y0,y1,y2⟩:=hSw
   have z0:=y2 0 (by omega)
   have z1:=y2 1 (by omega)
   have z2:=y2 2 (by omega)
   have z3:=y2 3 (by omega)
   have z4:=y2 4 (by omega)
   have z5:=y2 5 (by omega)
   have z6:=y2 6 (by omega)
   have z7:=y2 7 (by omega)
   simp only [Nat.reduceAdd] at z0 z1 z2 z3 z4 z5 z6 z7
   clear y2
   go_simp
   with_reducible rfl
  try simp only [Act.put]
  try simp only [List.getElem_toArray]
  repeat (first|simp only [List.getElem_cons_succ]|simp only [List.getElem_cons_zero])
  try simp only [List.setIfInBounds_toArray]
  repeat (first|simp only [List.set_cons_succ]|simp only [List.set_cons_zero])
  refine wpAnyH_take (i:=7) (oi:=_) (v:=?_) rfl (by kernel_rfl) (by kernel_rfl) (by kernel_rfl) (fun _ _ _ h=>h) (Or.inl ⟨by rfl,?_⟩) (by assumption) ?_
  rotate_left 1
  ·intro w' hSw
   obtain ⟨y0,y1,y2⟩:=hSw
   have z0:=y2 0 (by omega)
   have z1:=y2 1 (by omega)
   have z2:=y2 2 (by omega)
   have z3:=y2 3 (by omega)
   have z4:=y2 4 (by omega)
   have z5:=y2 5 (by omega)
   have z6:=y2 6 (by omega)
   have z7:=y2 7 (by omega)
   simp only [Nat.reduceAdd] at z0 z1 z2 z3 z4 z5 z6 z7
   clear y2
   go_simp
   with_reducible rfl
  try simp only [Act.put]
  try simp only [List.getElem_toArray]
  repeat (first|simp only [List.getElem_cons_succ]|simp only [List.getElem_cons_zero])
  try simp only [List.setIfInBounds_toArray]
  repeat (first|simp only [List.set_cons_succ]|simp only [List.set_cons_zero])
  refine wpAnyH_take (i:=8) (oi:=_) (v:=?_) rfl (by kernel_rfl) (by kernel_rfl) (by kernel_rfl) (fun _ _ _ h=>h) (Or.inl ⟨by rfl,?_⟩) (by assumption) ?_
  rotate_left 1
  ·intro w' hSw
   clear hSw
   go_simp
   with_reducible rfl
  try simp only [Act.put]
  try simp only [List.getElem_toArray]
  repeat (first|simp only [List.getElem_cons_succ]|simp only [List.getElem_cons_zero])
  try simp only [List.setIfInBounds_toArray]
  repeat (first|simp only [List.set_cons_succ]|simp only [List.set_cons_zero])
  refine wpAnyH_ready (rs:=[9]) (by kernel_rfl) (by simp) ?_
  refine AllReadyH.cons rfl (fun K' hK'=>?_) AllReadyH.nil
  go_simp
  obtain ⟨zc,hzc⟩:∃ zc:Array Value,zc=Tryz.zeroCells51:=⟨_,rfl⟩
  have hZ:Zc zc:=by rw [hzc];exact zc_of
  rw [<- hzc]
  clear hzc
  have hszW:w.heap.size+1+1+1+1+1<=W.heap.size:=by have:=hB.size;have:=F.sz;omega
  have HB1:Below W.heap.size W ((W.alloc (.cells zc 51)).drew):=((Below.refl _ _).alloc (Nat.le_refl _) _).drew
  refine hK'.out _ _ (keep3 HB1 ⟨m0,hSc.c0,hSc.cv⟩) (fun hHeld2=>?_)
  clear hK' K' hHeld
  rw [drew_alloc]
  have HB2:Below W.heap.size W (W.drew.alloc (.cells (scCells zc a l.length c e) 51)):=(Below.refl _ _).drew.alloc (Nat.le_refl _) _
  refine store_last (i:=10) W.drew 51 (.tmp 8) (.tmp 21) zc (scCells zc a l.length c e) W.heap.size (by kernel_rfl) (by kernel_rfl) rfl rfl rfl rfl rfl rfl (by rw [sc_size hZ];exact info_sc) (by rw [sc_size hZ];exact hZ.size) (sc_one hZ _ _ _ _) (keep3 HB2 ⟨m0,hSc.c0,hSc.cv⟩) ?_
  clear hHeld2
  have hSF:=sc_new W.drew hZ a l c 51 e
  obtain ⟨W2,hW2⟩:∃ W2:World,W2=W.drew.alloc (.cells (scCells zc a l.length c e) 51):=⟨_,rfl⟩
  rw [<- hW2] at HB2 hSF ⊢
  obtain ⟨g2,hg2⟩:∃ g2:Nat,g2=W.heap.size:=⟨_,rfl⟩
  have hSc2:Sc W2 g2 a l c e (fun _=>false) (fun _=>0):=by rw [hg2];exact hSF.1
  have hfz:∀ j:Nat,j < 8->W2.frozen? ⟨g2,1+j,none⟩=false:=fun j hj=>by rw [hg2];exact hSF.2 j hj
  rw [<- hg2]
  have HG2:Hid (g2=W.heap.size):=hg2
  have HBW:Hid (Below W.heap.size W W2):=HB2
  have hnd:NodeAt W2 (w.heap.size+1+1) 0 n:=(F.nd.below hB (by omega)).below HB2 (by omega)
  have hpx:W2.cell? ⟨w.heap.size+1,0,none⟩=some (.int .i64 x):=(HB2.cell (p:=⟨w.heap.size+1,0,none⟩) (show w.heap.size+1 < _ by omega)).trans ((hB.cell (p:=⟨w.heap.size+1,0,none⟩) (show w.heap.size+1 < _ by omega)).trans F.px)
  obtain ⟨v,hv⟩:∃ v:Nat,n.k=(v:Int):=⟨n.k.toNat,by omega⟩
  have hv8:v < 8:=by omega
  have k1:=hSc2.cv v hv8
  have k2:=hfz v hv8
  obtain ⟨p0,p1,p2,p3,p4,p5⟩:=hnd
  have hvz:(v:Int) < 8:=by omega
  have HSC2:Hid (Sc W2 g2 a l c e (fun _=>false) (fun _=>0)):=hSc2
  have HNW:Hid (Nodes W2 a l):=((HN.out.below F.below).kept (S:=fun b=>w.heap.size+1+1+1+1+1<=b) ⟨hB.os,hB.tape,hB.output,hB.size,fun b hb h=>hB.block b (by omega)⟩ (fun y hy h=>by
   rcases HN.out.2 with h0|⟨xb,xo,hx,hc⟩
   ·have:=term_len hT;omega
   ·rw [hy] at hx
    have h9:=(hc 0 (by omega)).lt
    have h10:=Option.some.inj hx
    rw [h10] at h
    have:w.heap.size+1+1+1+1+1<=xb:=h
    omega)).below HB2
  have HBB:Hid (Below (w.heap.size+1+1+1+1+1) w1 W):=hB
  have HF:Hid (Boxes w w1 s x n):=F
  have HNE:Hid (∀ k∈pre,¬ f k.val=x):=hne
  have HFK:Hid (f k.val=vT (tr l n.a.toNat) (e.set v (k.val:Int))):=by
   show _=_
   rw [hf,hv,Int.toNat_natCast]
  have HFB2:Hid (FitN l n.a.toNat (e.set v (k.val:Int))):=by
   have:=HFB.out k.val k.isLt
   rw [hv,Int.toNat_natCast] at this
   exact this
  have hszW2:Hid (w.heap.size+1+1+1+1+1<=W.heap.size):=hszW
  clear hW2 hSF hB HB2 HB1 hSc2 hfz hSc m0 hszW hne F hw1 hf hg2 hZ
  rw [hv] at p2
  gi_wp2
  have HSC3:Hid (Sc (W2.setCell ⟨g2,1+v,none⟩ (.int .i64 (k.val:Int))) g2 a l c (e.set v (k.val:Int)) (fun _=>false) (fun _=>0)):=HSC2.out.setv he hv8 _
  have hga:¬ g2=w.heap.size+1+1:=by have:=HG2.out;have:=hszW2.out;omega
  have hgx:¬ g2=w.heap.size+1:=by have:=HG2.out;have:=hszW2.out;omega
  obtain ⟨W3,hW3⟩:∃ W3:World,W3=W2.setCell ⟨g2,1+v,none⟩ (.int .i64 (k.val:Int)):=⟨_,rfl⟩
  have r3:W3.cell? ⟨w.heap.size+1+1,3,none⟩=some (.int .i64 n.a):=by
   rw [hW3,set_other (fun e=>hga (congrArg Addr.block e))];exact p3
  have rx:W3.cell? ⟨w.heap.size+1,0,none⟩=some (.int .i64 x):=by
   rw [hW3,set_other (fun e=>hgx (congrArg Addr.block e))];exact hpx
  have HK3:Hid (Kept (fun b=>b=g2) W2 W3):=by rw [hW3];exact (Kept.refl (fun b=>b=g2) W2).setCell (p:=⟨g2,1+v,none⟩) rfl _
  rw [<- hW3] at HSC3 ⊢
  clear hW3 k1 k2 p0 p1 p2 p3 p4 p5 hpx
  refine Lift.region_lift (S:=fun w'=>w'.cell? ⟨w.heap.size+1+1,3,none⟩=some (.int .i64 n.a)/\w'.cell? ⟨w.heap.size+1,0,none⟩=some (.int .i64 x)) (by kernel_rfl) (fun h=>by obtain ⟨_,_,h⟩:=h;exact h) (by kernel_rfl) ⟨r3,rx⟩ (fun hHeld=>?_)
  refine wpAnyH_take (i:=0) (oi:=_) (v:=?_) rfl (by kernel_rfl) (by kernel_rfl) (by kernel_rfl) (fun _ _ _ h=>h) (Or.inl ⟨by rfl,?_⟩) (by assumption) ?_
  rotate_left 1
  ·intro w' hSw
   obtain ⟨y0,y1⟩:=hSw
   go_simp
   with_reducible rfl
  try simp only [Act.put]
  try simp only [List.getElem_toArray]
  repeat (first|simp only [List.getElem_cons_succ]|simp only [List.getElem_cons_zero])
  try simp only [List.setIfInBounds_toArray]
  repeat (first|simp only [List.set_cons_succ]|simp only [List.set_cons_zero])
  refine wpAnyH_take (i:=1) (oi:=_) (v:=?_) rfl (by kernel_rfl) (by kernel_rfl) (by kernel_rfl) (fun _ _ _ h=>h) (Or.inl ⟨by rfl,?_⟩) (by assumption) ?_
  rotate_left 1
  ·intro w' hSw
   obtain ⟨y0,y1⟩:=hSw
   go_simp
   with_reducible rfl
  try simp only [Act.put]
  try simp only [List.getElem_toArray]
  repeat (first|simp only [List.getElem_cons_succ]|simp only [List.getElem_cons_zero])
  try simp only [List.setIfInBounds_toArray]
  repeat (first|simp only [List.set_cons_succ]|simp only [List.set_cons_zero])
  refine wpAnyH_take (i:=3) (oi:=_) (v:=?_) rfl (by kernel_rfl) (by kernel_rfl) (by kernel_rfl) (fun _ _ _ h=>h) (Or.inl ⟨by rfl,?_⟩) (by assumption) ?_
  rotate_left 1
  ·intro w' hSw
   obtain ⟨y0,y1⟩:=hSw
   go_simp
   with_reducible rfl
  try simp only [Act.put]
  try simp only [List.getElem_toArray]
  repeat (first|simp only [List.getElem_cons_succ]|simp only [List.getElem_cons_zero])
  try simp only [List.setIfInBounds_toArray]
  repeat (first|simp only [List.set_cons_succ]|simp only [List.set_cons_zero])
  have HSC4:Sc W3.drew g2 a l c (e.set v (k.val:Int)) (fun _=>false) (fun _=>0):=HSC3.out.kept (S:=fun _=>False) (Kept.refl _ _).drew (fun h=>h)
  have HAG2:∀ y,a=some y->y.block≠g2:=fun y hy=>by
   rcases HN.out.2 with h0|⟨xb,xo,hx,hc⟩
   ·have:=term_len hT;omega
   ·rw [hy] at hx
    have h9:=(hc 0 (by have:=term_len hT;omega)).lt
    have h10:=Option.some.inj hx
    rw [h10]
    have:=HG2.out
    have:=hszW2.out
    show xb≠g2
    omega
  have HNW4:Nodes W3.drew a l:=HNW.out.kept (HK3.out.drew) HAG2
  have hcall:=HIH.out W3.drew g2 a c (e.set v (k.val:Int)) _ _ HNW4 HAG2 (by rw [List.length_set];exact he) HSC4 HFB2.out
  rw [Int.toNat_of_nonneg haa,<- HFK.out] at hcall
  refine call_one (i:=2) (f:=22) (args := #[.pointer (some ⟨g2,0,none⟩),.int .i64 n.a]) (by kernel_rfl) rfl rfl (by go_simp) ?_
  refine hcall.mono ?_
  rintro e0 w4 ⟨rfl,_,hK4⟩
  have HK4:Hid (Kept (fun b=>b=g2) W3.drew w4):=hK4
  refine ⟨_,rfl,⟨(hK4.cell (p:=⟨w.heap.size+1+1,3,none⟩) (lt_of_cell (w:=W3) r3) (fun h=>hga h.symm)).trans r3,(hK4.cell (p:=⟨w.heap.size+1,0,none⟩) (lt_of_cell (w:=W3) rx) (fun h=>hgx h.symm)).trans rx⟩,?_⟩
  try simp only [Act.put]
  try simp only [List.getElem_toArray]
  repeat (first|simp only [List.getElem_cons_succ]|simp only [List.getElem_cons_zero])
  try simp only [List.setIfInBounds_toArray]
  repeat (first|simp only [List.set_cons_succ]|simp only [List.set_cons_zero])
  have hHeld4:w4.cell? ⟨w.heap.size+1+1,3,none⟩=some (.int .i64 n.a)/\w4.cell? ⟨w.heap.size+1,0,none⟩=some (.int .i64 x):=⟨(hK4.cell (p:=⟨w.heap.size+1+1,3,none⟩) (lt_of_cell (w:=W3) r3) (fun h=>hga h.symm)).trans r3,(hK4.cell (p:=⟨w.heap.size+1,0,none⟩) (lt_of_cell (w:=W3) rx) (fun h=>hgx h.symm)).trans rx⟩
  refine wpAnyH_take (i:=4) (oi:=_) (v:=?_) rfl (by kernel_rfl) (by kernel_rfl) (by kernel_rfl) (fun _ _ _ h=>h) (Or.inl ⟨by rfl,?_⟩) hHeld4 ?_
  rotate_left 1
  ·intro w' hSw
   clear hSw
   go_simp
   with_reducible rfl
  try simp only [Act.put]
  try simp only [List.getElem_toArray]
  repeat (first|simp only [List.getElem_cons_succ]|simp only [List.getElem_cons_zero])
  try simp only [List.setIfInBounds_toArray]
  repeat (first|simp only [List.set_cons_succ]|simp only [List.set_cons_zero])
  refine wpAnyH_done (by kernel_rfl) ?_ _
  have HBW4:Hid (Below W.heap.size W w4):=by
   have h1:Below W.heap.size W2 W3:=HK3.out.below (fun b (h:b=g2)=>by have:=HG2.out;omega) HBW.out.size
   have h2:Below W.heap.size W3.drew w4:=HK4.out.below (fun b (h:b=g2)=>by have:=HG2.out;omega) (Nat.le_trans HBW.out.size h1.size)
   exact (HBW.out.trans h1).drew.trans h2
  have t1:w4.cell? ⟨w.heap.size+1+1+1,0,none⟩=some (.bool false):=(HBW4.out.cell (p:=⟨w.heap.size+1+1+1,0,none⟩) (show w.heap.size+1+1+1 < _ by have:=hszW2.out;omega)).trans ((HBB.out.cell (p:=⟨w.heap.size+1+1+1,0,none⟩) (show w.heap.size+1+1+1 < _ by omega)).trans HF.out.rb.1)
  have t2:w4.frozen? ⟨w.heap.size+1+1+1,0,none⟩=false:=(World.frozen?_of_block (w:=W) (HBW4.out.block _ (show w.heap.size+1+1+1 < _ by have:=hszW2.out;omega))).trans ((World.frozen?_of_block (w:=w1) (HBB.out.block _ (show w.heap.size+1+1+1 < _ by omega))).trans HF.out.rb.2)
  clear hHeld hHeld4 r3 rx HSC4 HNW4 hcall hK4
  cases hfx:(f k.val==x)
  ·have hfx':¬ f k.val=x:=by simpa using hfx
   have HFX:Hid (¬ f k.val=x):=hfx'
   clear hfx'
   gi_wp2
   refine ⟨ko_of_below HBW4.out,HBW4.out.mono (by have:=hszW2.out;omega),?_,HBB.out.trans (HBW4.out.mono (by have:=hszW2.out;omega))⟩
   intro k' hk'
   rcases List.mem_append.1 hk' with h|h
   ·exact HNE.out k' h
   ·have:k'=k:=by simpa using h
    rw [this];exact HFX.out
  ·have hfx':f k.val=x:=by simpa using hfx
   have HFX:Hid (f k.val=x):=hfx'
   clear hfx'
   gi_wp2
   refine ⟨(ko_of_below HBW4.out).trans (KeepsOthers.setCell _ _ _),⟨rfl,k,by simp,HFX.out⟩,set_same t1,?_⟩
   exact (HF.out.below.trans ((HBB.out.mono (by omega)).trans (HBW4.out.mono (by have:=hszW2.out;omega)))).setCell (p:=⟨w.heap.size+1+1+1,0,none⟩) (show w.heap.size<=w.heap.size+1+1+1 by omega) _
 case done =>
  rintro D xs W hD rfl ⟨hne,hB⟩ hK
  have hHit:hitB l e n x=false:=by
   cases hh:hitB l e n x
   ·rfl
   ·obtain ⟨k,hk,h5⟩:=hit_iff.1 hh
    exact absurd (by rw [hf];exact h5) (hne ⟨k,hk⟩ (List.mem_finRange _))
  have HHit:Hid (hitB l e n x=false):=hHit
  have hr1:W.cell? ⟨w.heap.size+1+1+1,0,none⟩=some (.bool false):=(hB.cell (p:=⟨w.heap.size+1+1+1,0,none⟩) (show w.heap.size+1+1+1 < _ by omega)).trans F.rb.1
  have hr2:W.frozen? ⟨w.heap.size+1+1+1,0,none⟩=false:=(World.frozen?_of_block (w:=w1) (hB.block _ (show w.heap.size+1+1+1 < _ by omega))).trans F.rb.2
  have HB:Hid (Below (w.heap.size+1+1+1+1+1) w1 W):=hB
  have HK:Hid (W.heap[D]? = some (Obj.deferred (some []))):=hK
  have HF:Hid (Boxes w w1 s x n):=F
  have HD:Hid (w1.heap.size<=D):=hD
  clear hne hB hHit hf F hw1 hK hD
  gi_wp2
  have hK2:(W.setCell ⟨w.heap.size+1+1+1,0,none⟩ (.bool false)).heap[D]? = some (.deferred (some [])):=(KeepsOthers.setCell _ _ _).same D _ HK.out rfl
  refine ⟨by simp,.inl ⟨_,_,rfl,run_takeDeferred hK2,?_⟩⟩
  have hc2:((W.setCell ⟨w.heap.size+1+1+1,0,none⟩ (.bool false)).putObj D (.deferred none)).cell? ⟨w.heap.size+1+1+1,0,none⟩=some (.bool false):=cell_kept (set_same hr1) (grownBy_putObj' _ D (.deferred none)) (fun r e=>by cases e;exact ⟨_,hK2,rfl⟩)
  refine ⟨.bool false,by simp [results,Tryz.results91,go_sem,hc2],by rw [HHit.out],?_⟩
  have h1:Below w.heap.size w W:=HF.out.below.trans (HB.out.mono (by omega))
  have h2:Below w.heap.size w (W.setCell ⟨w.heap.size+1+1+1,0,none⟩ (.bool false)):=h1.setCell (p:=⟨w.heap.size+1+1+1,0,none⟩) (show w.heap.size<=w.heap.size+1+1+1 by omega) _
  exact h2.trans (belowK_b (w:=w) (Nat.le_refl _) _ D _ _ (by have:=HD.out;have:=HF.out.sz;omega) hK2 rfl rfl)
 case stop =>
  rintro D cc pre W hD _ ⟨⟨rfl,hk⟩,hc,hB⟩ hK
  have hHit:hitB l e n x=true:=by
   obtain ⟨k,_,h5⟩:=hk
   rw [hf] at h5
   exact hit_iff.2 ⟨k.val,k.isLt,h5⟩
  have HHit:Hid (hitB l e n x=true):=hHit
  have HB:Hid (Below w.heap.size w W):=hB
  have HK:Hid (W.heap[D]? = some (Obj.deferred (some []))):=hK
  have HF:Hid (Boxes w w1 s x n):=F
  have HD:Hid (w1.heap.size<=D):=hD
  clear hk hB hHit hf F hw1 hK hD
  gi_wp2
  refine ⟨by simp,.inl ⟨_,_,rfl,run_takeDeferred HK.out,?_⟩⟩
  have hc2:(W.putObj D (.deferred none)).cell? ⟨w.heap.size+1+1+1,0,none⟩=some (.bool true):=cell_kept hc (grownBy_putObj' _ D (.deferred none)) (fun r e=>by cases e;exact ⟨_,HK.out,rfl⟩)
  refine ⟨.bool true,by simp [results,Tryz.results91,go_sem,hc2],by rw [HHit.out],?_⟩
  exact HB.out.trans (belowK_b (w:=w) (Nat.le_refl _) _ D _ _ (by have:=HD.out;have:=HF.out.sz;omega) HK.out rfl rfl)
end Pv8
end Go.Proofs.YthanhcobfehmnaaGreat
