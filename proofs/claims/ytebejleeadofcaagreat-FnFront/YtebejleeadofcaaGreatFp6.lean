import Derived.Test.YtebejleeadofcaaGreatFp5
namespace Go.Proofs.YtebejleeadofcaaGreat
set_option maxRecDepth 100000
set_option maxHeartbeats 8000000
set_option linter.unusedVariables false
namespace Fp6
open Go.RowKit Go.Shelf
open Nd0 Qa0 Pl1 Tm0 Tm1 Tm6 Tm8 Tr0 Rw0 Vl1 Vl2 Vm0 Vm2 Kp1 Pv6 Pv7 Pv12 Pv15 Fr0 Fr1 Fr4 Qi0 Qi1 Fp1 Ic4 Fp4 Fp5
attribute [local go_sem] Oper.semAt_some
structure Bx (w w1:World) (p8 p10:Nat) (vl vt:Value) (e:List Int) (v S b:Int):Prop where
 sz:w1.heap.size=p10+1+1
 lo:w.heap.size+1+1+1+1<=p8
 hi:p8+1<=p10
 below:Below w.heap.size w w1
 bl:w1.cell? ⟨w.heap.size,0,none⟩=some vl
 br:w1.cell? ⟨w.heap.size+1,0,none⟩=some vt
 bv:∀ j:Nat,j < 8->w1.cell? ⟨w.heap.size+1+1,j,none⟩=some (.int .i64 (wd e (j:Int)))/\w1.frozen? ⟨w.heap.size+1+1,j,none⟩=false
 bo:w1.cell? ⟨w.heap.size+1+1+1,0,none⟩=some (.int .i64 0)/\w1.frozen? ⟨w.heap.size+1+1+1,0,none⟩=false
 b8:w1.cell? ⟨p8,0,none⟩=some (.int .i64 v)
 b10:w1.cell? ⟨p10,0,none⟩=some (.int .i64 S)
 bb:w1.cell? ⟨p10+1,0,none⟩=some (.int .i64 b)
theorem bx {w W4 w5 w6 w1:World} {vl vt:Value} {e:List Int} {v S b:Int} {t8 t10 tb:Nat}
 (F:Four w W4 #[vl] #[vt] #[.int .i64 (wd e 0),.int .i64 (wd e 1),.int .i64 (wd e 2),.int .i64 (wd e 3),.int .i64 (wd e 4),.int .i64 (wd e 5),.int .i64 (wd e 6),.int .i64 (wd e 7)] #[.int .i64 0])
 (h5:Below W4.heap.size W4 w5) (h6:Below (w5.alloc (.cells #[.int .i64 v] t8)).heap.size (w5.alloc (.cells #[.int .i64 v] t8)) w6)
 (h1:w1=(w6.alloc (.cells #[.int .i64 S] t10)).alloc (.cells #[.int .i64 b] tb)):Bx w w1 w5.heap.size w6.heap.size vl vt e v S b:=by
 obtain ⟨wa,ha⟩:∃ wa,wa=w5.alloc (.cells #[.int .i64 v] t8):=⟨_,rfl⟩
 obtain ⟨wb,hb⟩:∃ wb,wb=w6.alloc (.cells #[.int .i64 S] t10):=⟨_,rfl⟩
 rw [<- ha] at h6
 rw [<- hb] at h1
 have sa:wa.heap.size=w5.heap.size+1:=by rw [ha];simp
 have sb:wb.heap.size=w6.heap.size+1:=by rw [hb];simp
 have s1:w1.heap.size=w6.heap.size+1+1:=by rw [h1];simp [sb]
 have ba:Below w5.heap.size w5 wa:=by rw [ha];exact (Below.refl _ _).alloc (Nat.le_refl _) _
 have bb:Below w6.heap.size w6 wb:=by rw [hb];exact (Below.refl _ _).alloc (Nat.le_refl _) _
 have b1:Below wb.heap.size wb w1:=by rw [h1];exact (Below.refl _ _).alloc (Nat.le_refl _) _
 have b61:Below w6.heap.size w6 w1:=bb.trans (b1.mono (by omega))
 have ba1:Below wa.heap.size wa w1:=h6.trans (b61.mono h6.size)
 have b51:Below w5.heap.size w5 w1:=ba.trans (ba1.mono (by omega))
 have b41:Below W4.heap.size W4 w1:=h5.trans (b51.mono h5.size)
 have s5:=h5.size
 have s6:=h6.size
 have s4:=F.sz
 refine ⟨s1,by omega,by omega,F.below.trans (b41.mono (by omega)),?_,?_,fun j hj=>?_,⟨?_,?_⟩,?_,?_,?_⟩
 ·exact (b41.cell (p:=⟨w.heap.size,0,none⟩) (show w.heap.size < _ by omega)).trans (F.a0 0 _ rfl)
 ·exact (b41.cell (p:=⟨w.heap.size+1,0,none⟩) (show w.heap.size+1 < _ by omega)).trans (F.a1 0 _ rfl)
 ·have h9:=F.a2 j (.int .i64 (wd e (j:Int))) (by rcases (show j=0\/j=1\/j=2\/j=3\/j=4\/j=5\/j=6\/j=7 by omega) with h|h|h|h|h|h|h|h<;>subst h<;>rfl)
  exact ⟨(b41.cell (p:=⟨w.heap.size+1+1,j,none⟩) (show w.heap.size+1+1 < _ by omega)).trans h9.1,(b41.frozen (p:=⟨w.heap.size+1+1,j,none⟩) (show w.heap.size+1+1 < _ by omega)).trans h9.2⟩
 ·exact (b41.cell (p:=⟨w.heap.size+1+1+1,0,none⟩) (show w.heap.size+1+1+1 < _ by omega)).trans (F.a3 0 _ rfl).1
 ·exact (b41.frozen (p:=⟨w.heap.size+1+1+1,0,none⟩) (show w.heap.size+1+1+1 < _ by omega)).trans (F.a3 0 (.int .i64 0) rfl).2
 ·rw [ba1.cell (p:=⟨w5.heap.size,0,none⟩) (show w5.heap.size < _ by omega),ha,World.cell?_alloc_new];rfl
 ·rw [b1.cell (p:=⟨w6.heap.size,0,none⟩) (show w6.heap.size < _ by omega),hb,World.cell?_alloc_new];rfl
 ·rw [<- sb,h1,World.cell?_alloc_new];rfl
theorem Qvs_tail {w:World} {b o cq:Nat} {ta:Option Addr} {x:Qu} {q:List Qu} (ht:ta=(if cq=1 then some ⟨b,o,none⟩ else some ⟨b,o+1,none⟩)) (hq:q.length+1<=cq) (h:Qvs w (some ⟨b,o,none⟩) (x :: q)):Qvs w ta q:=by
 have h1:=h.1
 simp only [List.length_cons] at h1
 by_cases hc1:cq=1
 ·exact ⟨by omega,.inl (by omega)⟩
 rw [if_neg hc1] at ht
 subst ht
 refine ⟨by omega,.inr ⟨b,o+1,rfl,fun i hi=>?_⟩⟩
 rcases h.2 with h0|⟨b',o',he,hc⟩
 ·simp at h0
 ·cases he
  have h2:=hc (i+1) (by simp;omega)
  rw [List.getElem_cons_succ] at h2
  rw [<- h2,show o+1+i=o+(i+1) by omega]
theorem bit_sb (x:Qu):0<=sb x/\sb x<=1:=by unfold sb;split<;>omega
def VB (W:World) (g:Nat) (e:List Int) (v:Nat):Prop:=∃ e':List Int,e'.length=8/\(∀ k:Int,e'.set v k=e.set v k)/\∀ j:Nat,j < 8->W.cell? ⟨g,j,none⟩=some (.int .i64 (wd e' (j:Int)))/\W.frozen? ⟨g,j,none⟩=false
theorem own_vb {β:Type} (B g v:Nat) (e:List Int):OwnFrom B (fun (_:β) W=>VB W g e v):=by
 rintro _ A W' row ⟨e',h1,h2,h3⟩ hg hr
 exact ⟨e',h1,h2,fun j hj=>⟨cell_kept (h3 j hj).1 hg (fun r e=>(hr r e).2),(frozen_kept (h3 j hj).1 hg (fun r e=>(hr r e).2)).trans (h3 j hj).2⟩⟩
theorem own_cell {β:Type} (B:Nat) (p:Addr) (v:Value):OwnFrom B (fun (_:β) W=>W.cell? p=some v):=Own.from (fun s A B row hs hg hr=>cell_kept hs hg hr) _
theorem box_set {W:World} {g v:Nat} {e e':List Int} {k:Int} (h8:e'.length=8) (hv:v < 8) (hs:e'.set v k=e.set v k) (hc:∀ j:Nat,j < 8->W.cell? ⟨g,j,none⟩=some (.int .i64 (wd e' (j:Int)))/\W.frozen? ⟨g,j,none⟩=false) :
 ∀ j:Nat,j < 8->(W.setCell ⟨g,v,none⟩ (.int .i64 k)).cell? ⟨g,j,none⟩=some (.int .i64 (wd (e.set v k) (j:Int)))/\(W.setCell ⟨g,v,none⟩ (.int .i64 k)).frozen? ⟨g,j,none⟩=false:=by
 intro j hj
 refine ⟨?_,by rw [World.frozen?_setCell];exact (hc j hj).2⟩
 rw [<- hs]
 by_cases e1:j=v
 ·subst e1
  rw [set_same (hc j hj).1,Rw1.wd_set (by omega),if_pos rfl]
 ·rw [set_other (fun e=>by have:=congrArg Addr.off e;simp at this;omega),(hc j hj).1,Rw1.wd_set (by omega),if_neg e1]
theorem wo_gen {ws:List Int} {l:List Nd} (hl1:1<=l.length) {xx:Qu} {q:List Qu} (HX:Hid (TyQ ws xx)) (hbit:∀ e,EnvOk ws e->hf q (root l) e=0\/hf q (root l) e=1) (ih:PWo ws l q)
 {vr bits S:Int} {Tq fv fs:Nat} (hvr:xx.vr=vr) (hbi:xx.bits=bits) (hS:sb xx=S) (hqv:qv xx=.iface Tq (.agg #[.int .i64 vr,.int .i64 bits]))
 (hmv:∀ w,(method 255 Tq (.agg #[.int .i64 vr,.int .i64 bits]) "loop.example/g00116/impl.variable").run Tryz.prog w=.ok (fv,.agg #[.int .i64 vr,.int .i64 bits]) w)
 (hms:∀ w,(method 255 Tq (.agg #[.int .i64 vr,.int .i64 bits]) "loop.example/g00116/impl.settledBy").run Tryz.prog w=.ok (fs,.agg #[.int .i64 vr,.int .i64 bits]) w)
 (hev:∀ args w,(callFunc fv args).run Tryz.prog w=.ok (.enter fv args) w) (hes:∀ args w,(callFunc fs args).run Tryz.prog w=.ok (.enter fs args) w)
 (hcv:∀ w,Calls Tryz.prog fv #[.agg #[.int .i64 vr,.int .i64 bits]] w fun e w'=>e=.returned (.tuple #[.int .i64 vr,.int .i64 bits])/\Below w.heap.size w w')
 (hcs:∀ w,Calls Tryz.prog fs #[.agg #[.int .i64 vr,.int .i64 bits]] w fun e w'=>e=.returned (.int .i64 S)/\Below w.heap.size w w'):PWo ws l (xx :: q):=by
 intro w aq a cq c e hQ hcq hN hE
 obtain ⟨bq,oq,rfl,hqc⟩:∃ b o,aq=some ⟨b,o,none⟩/\∀ i (h:i < (xx :: q).length),w.cell? ⟨b,o+i,none⟩=some (qv (xx :: q)[i]):=by
  rcases hQ.2 with h0|⟨b,o,h1,h2⟩
  ·simp at h0
  ·exact ⟨b,o,h1,h2⟩
 have q0:=hqc 0 (by simp)
 rw [Nat.add_zero,List.getElem_cons_zero,hqv] at q0
 have HQ:Hid (Qvs w (some ⟨bq,oq,none⟩) (xx :: q)):=hQ
 have HN:Hid (Nodes w a l):=hN
 have HE:Hid (EnvOk ws e):=hE
 have HIH:Hid (PWo ws l q):=ih
 have HBT:Hid (∀ e,EnvOk ws e->hf q (root l) e=0\/hf q (root l) e=1):=hbit
 have HVR:Hid (xx.vr=vr/\xx.bits=bits/\sb xx=S):=⟨hvr,hbi,hS⟩
 obtain ⟨x0,x7,b1,b8, -⟩:=HX.out
 rw [hvr] at x0 x7
 rw [hbi] at b1 b8
 have hcq1:q.length+1<=cq:=hcq
 rw [show (xx :: q).length=q.length+1 from rfl]
 clear hN hE hQ hqc ih hbit hcq hvr hbi hS hqv
 unfold agg
 obtain ⟨W4,hW4⟩:∃ W4:World,W4=(((w.alloc (.cells #[.slice (some ⟨bq,oq,none⟩) (q.length+1) cq] 48)).alloc (.cells #[.slice a l.length c] 24)).alloc (.cells #[.int .i64 (wd e 0),.int .i64 (wd e 1),.int .i64 (wd e 2),.int .i64 (wd e 3),.int .i64 (wd e 4),.int .i64 (wd e 5),.int .i64 (wd e 6),.int .i64 (wd e 7)] 54)).alloc (.cells #[.int .i64 0] 3):=⟨_,rfl⟩
 have F:=four w W4 _ _ _ _ _ _ _ _ hW4
 have hs4:=F.sz
 have HF:Hid (Four w W4 #[.slice (some ⟨bq,oq,none⟩) (q.length+1) cq] #[.slice a l.length c] #[.int .i64 (wd e 0),.int .i64 (wd e 1),.int .i64 (wd e 2),.int .i64 (wd e 3),.int .i64 (wd e 4),.int .i64 (wd e 5),.int .i64 (wd e 6),.int .i64 (wd e 7)] #[.int .i64 0]):=F
 have hlq:((q.length:Int)+1==0)=false:=by simp;omega
 have hq4:W4.cell? ⟨bq,oq,none⟩=_:=(F.below.cell (lt_of_cell q0)).trans q0
 have HQ4:Hid (W4.cell? ⟨bq,oq,none⟩=some (.iface Tq (.agg #[.int .i64 vr,.int .i64 bits]))):=hq4
 rw [hW4] at hq4
 clear F q0
 refine (callsIn_wide (n:=3)).1 ?_
 refine callsIn_of_wp_marks Tryz.func31 rfl trivial ?_ rfl
 simp only [Tryz.ntmps31,List.size_toArray,List.length_cons,List.length_nil,Nat.reduceAdd,Nat.reduceSub,Array.replicate_succ,Array.replicate_zero,List.push_toArray,List.append_toArray,List.nil_append,List.cons_append]
 gi_wp2_with (first
  | (refine ⟨trivial,?_⟩;refine (callsIn_wide.2 (hcv _)).mono ?_;rintro e0 w5 ⟨rfl,hb5⟩;rw [<- hW4] at hb5;clear hq4 hW4;have hba:Below w5.heap.size w5 (w5.alloc (.cells #[.int .i64 vr] 3)):=(Below.refl _ _).alloc (Nat.le_refl _) _;have hs5:=hb5.size;have hq5:w5.cell? ⟨bq,oq,none⟩=_:=(hb5.cell (lt_of_cell HQ4.out)).trans HQ4.out;have hq6:=(hba.cell (lt_of_cell hq5)).trans hq5;have r0:(w5.alloc (.cells #[.int .i64 vr] 3)).cell? ⟨w.heap.size,0,none⟩=some (.slice (some ⟨bq,oq,none⟩) (q.length+1) cq):=(hba.cell (p:=⟨w.heap.size,0,none⟩) (show w.heap.size < _ by omega)).trans ((hb5.cell (p:=⟨w.heap.size,0,none⟩) (show w.heap.size < _ by omega)).trans (HF.out.a0 0 _ rfl));have HB5:Hid (Below W4.heap.size W4 w5):=hb5;clear hb5 hq5 hba)
  | (refine ⟨trivial,?_⟩;refine (callsIn_wide.2 (hcs _)).mono ?_;rintro e0 w6 ⟨rfl,hb6⟩;clear hq6 r0;have HB6:Hid (Below (w5.alloc (.cells #[.int .i64 vr] 3)).heap.size (w5.alloc (.cells #[.int .i64 vr] 3)) w6):=hb6;clear hb6)
  | (refine ⟨trivial,?_⟩;gi_at_call 63;refine (callsIn_wide.2 (iEach _ _)).mono ?_;rintro e0 w7 ⟨rfl,rfl⟩))
 obtain ⟨w1,hw1⟩:∃ w1:World,w1=(w6.alloc (.cells #[.int .i64 S] 3)).alloc (.cells #[.int .i64 bits] 3):=⟨_,rfl⟩
 have X:=bx HF.out HB5.out HB6.out hw1
 rw [<- hw1]
 clear hw1 hmv hms hev hes hcv hcs HB5 HB6 HF HQ4
 generalize w5.heap.size=p8 at X ⊢
 generalize w6.heap.size=p10 at X ⊢
 obtain ⟨v,rfl⟩:∃ v:Nat,vr=(v:Int):=⟨vr.toNat,by omega⟩
 have hv8:v < 8:=by omega
 have xs:=X.sz
 have xl:=X.lo
 have xh:=X.hi
 obtain ⟨f,hf0⟩:∃ f:Nat->Int,f=fun (k:Nat)=>hf q (root l) (e.set v (k:Int)):=⟨_,rfl⟩
 have HXX:Hid (Bx w w1 p8 p10 (.slice (some ⟨bq,oq,none⟩) (q.length+1) cq) (.slice a l.length c) e (v:Int) S bits):=X
 have HFF:Hid (f=fun (k:Nat)=>hf q (root l) (e.set v (k:Int))):=hf0
 clear hf0
 refine wpIn_rangeFunc_ownF rfl (by omega) (gf:=82) (lb := #[.pointer (some ⟨p10+1,0,none⟩)]) rfl trivial (enters_of Tryz.func82 (by kernel_rfl) rfl)
  (words_kept 2 (p10+1+1) (p10+1) (w.heap.size+1+1) bits b1 b8 w1 (by omega) (by omega) (by omega) X.bb) (fun h k=>h.trans k) (kept_put (n:=p10+1+1) (fun b hb=>.inr hb) (by omega)) (Below.refl _ _) (fun _=>rfl)
  (fun pre W=>(∀ k∈pre,¬ f k.val=S)/\VB W (w.heap.size+1+1) e v/\Kept (fun b=>b=w.heap.size+1+1\/p10+1+1<=b) w1 W)
  (fun c pre W=>(c=.ret/\∃ k∈pre,f k.val=S)/\(W.cell? ⟨w.heap.size+1+1+1,0,none⟩=some (.int .i64 S)/\Below w.heap.size w W))
  (OwnFrom.and (ownFrom_pure _ _) (OwnFrom.and (own_vb _ _ _ _) (own_kept (Nat.le_refl _))))
  (fun c=>OwnFrom.and (ownFrom_pure _ _) (OwnFrom.and (own_cell _ _ _) (ownFrom_below (Nat.le_refl _) X.below.size)))
  ⟨(fun k hk=>by cases hk),⟨e,HE.out.1,fun _=>rfl,X.bv⟩,Kept.refl _ _⟩
  (fun k=>{ tmps := #[(.slice (some ⟨bq,oq,none⟩) (q.length+1) cq),(.slice a l.length c),.agg #[.int .i64 (wd e 0),.int .i64 (wd e 1),.int .i64 (wd e 2),.int .i64 (wd e 3),.int .i64 (wd e 4),.int .i64 (wd e 5),.int .i64 (wd e 6),.int .i64 (wd e 7)],.pointer (some ⟨w.heap.size,0,none⟩),.pointer (some ⟨w.heap.size+1,0,none⟩),.pointer (some ⟨w.heap.size+1+1,0,none⟩),.pointer (some ⟨w.heap.size+1+1+1,0,none⟩),undef,.pointer (some ⟨p8,0,none⟩),.int .i64 bits,.pointer (some ⟨p10,0,none⟩),.int .i64 (k.val:Int),(.slice (some ⟨bq,oq,none⟩) (q.length+1) cq),.int .i64 ((q.length:Int)+1),.bool false,undef,undef,undef,undef,undef,undef,undef,.tuple #[.int .i64 (v:Int),.int .i64 bits],(.slice (some ⟨bq,oq,none⟩) (q.length+1) cq),.pointer (some ⟨bq,oq,none⟩),.iface Tq (.agg #[.int .i64 (v:Int),.int .i64 bits]),.tuple #[.int .i64 (v:Int),.int .i64 bits],.int .i64 (v:Int),.int .i64 bits,(.slice (some ⟨bq,oq,none⟩) (q.length+1) cq),.pointer (some ⟨bq,oq,none⟩),.iface Tq (.agg #[.int .i64 (v:Int),.int .i64 bits]),.int .i64 S,.int .i64 bits,.func (.func 82) #[] #[.pointer (some ⟨p10+1,0,none⟩)],.int .i64 (k.val:Int),undef,undef,undef,undef,undef,undef,undef,undef,undef,undef,undef,undef,undef],defers:=[] }) ?assign ?body ?done ?stop
 case assign =>
  intro l x W K hK
  gi_wp2
  exact hK
 case body =>
  rintro lp pre k W ⟨hne,⟨e',he8,hes,hcc⟩,hK⟩ hlen
  have m8:W.cell? ⟨p8,0,none⟩=some (.int .i64 (v:Int)):=(hK.cell (p:=⟨p8,0,none⟩) (show p8 < _ by omega) (show ¬ (p8=_\/_<=p8) by omega)).trans X.b8
  have m0:W.cell? ⟨w.heap.size,0,none⟩=some (.slice (some ⟨bq,oq,none⟩) (q.length+1) cq):=(hK.cell (p:=⟨w.heap.size,0,none⟩) (show w.heap.size < _ by omega) (show ¬ (w.heap.size=_\/_<=w.heap.size) by omega)).trans X.bl
  have m1:W.cell? ⟨w.heap.size+1,0,none⟩=some (.slice a l.length c):=(hK.cell (p:=⟨w.heap.size+1,0,none⟩) (show w.heap.size+1 < _ by omega) (show ¬ (w.heap.size+1=_\/_<=w.heap.size+1) by omega)).trans X.br
  have m10:W.cell? ⟨p10,0,none⟩=some (.int .i64 S):=(hK.cell (p:=⟨p10,0,none⟩) (show p10 < _ by omega) (show ¬ (p10=_\/_<=p10) by omega)).trans X.b10
  have mo:W.cell? ⟨w.heap.size+1+1+1,0,none⟩=some (.int .i64 0)/\W.frozen? ⟨w.heap.size+1+1+1,0,none⟩=false:=⟨(hK.cell (p:=⟨w.heap.size+1+1+1,0,none⟩) (show w.heap.size+1+1+1 < _ by omega) (show ¬ (w.heap.size+1+1+1=_\/_<=w.heap.size+1+1+1) by omega)).trans X.bo.1,(hK.frozen (p:=⟨w.heap.size+1+1+1,0,none⟩) (show w.heap.size+1+1+1 < _ by omega) (show ¬ (w.heap.size+1+1+1=_\/_<=w.heap.size+1+1+1) by omega)).trans X.bo.2⟩
  have k1:=(hcc v hv8).1
  have k2:=(hcc v hv8).2
  have hvz:(v:Int) < 8:=by omega
  have hsW:p10+1+1<=W.heap.size:=by have:=hK.size;omega
  have HC3:Hid (∀ j:Nat,j < 8->(W.setCell ⟨w.heap.size+1+1,v,none⟩ (.int .i64 (k.val:Int))).cell? ⟨w.heap.size+1+1,j,none⟩=some (.int .i64 (wd (e.set v (k.val:Int)) (j:Int)))/\(W.setCell ⟨w.heap.size+1+1,v,none⟩ (.int .i64 (k.val:Int))).frozen? ⟨w.heap.size+1+1,j,none⟩=false):=box_set he8 hv8 (hes _) hcc
  have HM:Hid ((W.cell? ⟨w.heap.size,0,none⟩=some (.slice (some ⟨bq,oq,none⟩) (q.length+1) cq)/\W.cell? ⟨w.heap.size+1,0,none⟩=some (.slice a l.length c))/\W.cell? ⟨p10,0,none⟩=some (.int .i64 S)/\(W.cell? ⟨w.heap.size+1+1+1,0,none⟩=some (.int .i64 0)/\W.frozen? ⟨w.heap.size+1+1+1,0,none⟩=false)):=⟨⟨m0,m1⟩,m10,mo⟩
  have HKW:Hid (Kept (fun b=>b=w.heap.size+1+1\/p10+1+1<=b) w1 W):=hK
  have HNE:Hid (∀ k∈pre,¬ f k.val=S):=hne
  clear hK hne hes hcc m0 m1 m10 mo X
  gi_wp2
  obtain ⟨ta,hta⟩:∃ ta:Option Addr,ta=(if cq=1 then some ⟨bq,oq,none⟩ else some ⟨bq,oq+1,none⟩):=⟨_,rfl⟩
  have HTA:Hid (ta=(if cq=1 then some ⟨bq,oq,none⟩ else some ⟨bq,oq+1,none⟩)):=hta
  have h1q:(1:Int)<=(q.length:Int)+1:=by omega
  clear hta
  obtain ⟨W3,hW3⟩:∃ W3:World,W3=W.setCell ⟨w.heap.size+1+1,v,none⟩ (.int .i64 (k.val:Int)):=⟨_,rfl⟩
  rw [<- hW3] at HC3 ⊢
  have n0:W3.cell? ⟨w.heap.size,0,none⟩=some (.slice (some ⟨bq,oq,none⟩) (q.length+1) cq):=by
   rw [hW3,set_other (fun e=>by have:=congrArg Addr.block e;simp at this;omega)];exact HM.out.1.1
  have n1:W3.cell? ⟨w.heap.size+1,0,none⟩=some (.slice a l.length c):=by
   rw [hW3,set_other (fun e=>by have:=congrArg Addr.block e;simp at this)];exact HM.out.1.2
  have n10:W3.cell? ⟨p10,0,none⟩=some (.int .i64 S):=by
   rw [hW3,set_other (fun e=>by have:=congrArg Addr.block e;simp at this;omega)];exact HM.out.2.1
  have HNO:Hid (W3.cell? ⟨w.heap.size+1+1+1,0,none⟩=some (.int .i64 0)/\W3.frozen? ⟨w.heap.size+1+1+1,0,none⟩=false):=by
   refine ⟨?_,?_⟩
   ·rw [hW3,set_other (fun e=>by have:=congrArg Addr.block e;simp at this)];exact HM.out.2.2.1
   ·rw [hW3,World.frozen?_setCell];exact HM.out.2.2.2
  have HK3:Hid (Kept (fun b=>b=w.heap.size+1+1\/p10+1+1<=b) w1 W3):=by rw [hW3];exact HKW.out.setCell (p:=⟨w.heap.size+1+1,v,none⟩) (.inl rfl) _
  have HKO:Hid (KeepsOthers W W3):=by rw [hW3];exact KeepsOthers.setCell _ _ _
  have HKP:Hid (Kept (fun b=>b=w.heap.size+1+1\/p10+1+1<=b) W W3):=by rw [hW3];exact (Kept.refl _ _).setCell (p:=⟨w.heap.size+1+1,v,none⟩) (.inl rfl) _
  have hs3:p10+1+1<=W3.heap.size:=by have:=HKP.out.size;omega
  clear hW3 k1 k2 m8 HM
  refine Lift.region_lift (S:=fun w'=>w'.cell? ⟨w.heap.size,0,none⟩=some (.slice (some ⟨bq,oq,none⟩) (q.length+1) cq)/\w'.cell? ⟨w.heap.size+1,0,none⟩=some (.slice a l.length c)/\(∀ j:Nat,j < 8->w'.cell? ⟨w.heap.size+1+1,j,none⟩=some (.int .i64 (wd (e.set v (k.val:Int)) (j:Int))))/\w'.cell? ⟨p10,0,none⟩=some (.int .i64 S)) (by kernel_rfl) (fun h=>by obtain ⟨_,_,h⟩:=h;exact h) (by kernel_rfl) ⟨n0,n1,fun j hj=>(HC3.out j hj).1,n10⟩ (fun hHeld=>?_)
  refine wpAnyH_take (i:=0) (oi:=_) (v:=?_) rfl (by kernel_rfl) (by kernel_rfl) (by kernel_rfl) (fun _ _ _ h=>h) (Or.inl ⟨by rfl,?_⟩) (by assumption) ?_
  rotate_left 1
  ·intro w' hSw
   obtain ⟨y0,y1,y2,y3⟩:=hSw
   clear y2
   go_simp
   with_reducible rfl
  try simp only [Act.put]
  try simp only [List.getElem_toArray]
  repeat (first|simp only [List.getElem_cons_succ]|simp only [List.getElem_cons_zero])
  try simp only [List.setIfInBounds_toArray]
  repeat (first|simp only [List.set_cons_succ]|simp only [List.set_cons_zero])
  refine wpAnyH_take (i:=2) (oi:=_) (v:=?_) rfl (by kernel_rfl) (by kernel_rfl) (by kernel_rfl) (fun _ _ _ h=>h) (Or.inl ⟨by rfl,?_⟩) (by assumption) ?_
  rotate_left 1
  ·intro w' hSw
   obtain ⟨y0,y1,y2,y3⟩:=hSw
   clear y2
   go_simp
   with_reducible rfl
  try simp only [Act.put]
  try simp only [List.getElem_toArray]
  repeat (first|simp only [List.getElem_cons_succ]|simp only [List.getElem_cons_zero])
  try simp only [List.setIfInBounds_toArray]
  repeat (first|simp only [List.set_cons_succ]|simp only [List.set_cons_zero])
  refine wpAnyH_take (i:=3) (oi:=_) (v:=?_) rfl (by kernel_rfl) (by kernel_rfl) (by kernel_rfl) (fun _ _ _ h=>h) (Or.inl ⟨by rfl,?_⟩) (by assumption) ?_
  rotate_left 1
  ·intro w' hSw
   obtain ⟨y0,y1,y2,y3⟩:=hSw
   have z0:=y2 0 (by omega)
   have z1:=y2 1 (by omega)
   have z2:=y2 2 (by omega)
   have z3:=y2 3 (by omega)
   have z4:=y2 4 (by omega)
   have z5:=y2 5 (by omega)
   have z6:=y2 6 (by omega)
   have z7:=y2 7 (by omega)
   clear y2
   go_simp
   with_reducible rfl
  try simp only [Act.put]
  try simp only [List.getElem_toArray]
  repeat (first|simp only [List.getElem_cons_succ]|simp only [List.getElem_cons_zero])
  try simp only [List.setIfInBounds_toArray]
  repeat (first|simp only [List.set_cons_succ]|simp only [List.set_cons_zero])
  refine wpAnyH_take (i:=5) (oi:=_) (v:=?_) rfl (by kernel_rfl) (by kernel_rfl) (by kernel_rfl) (fun _ _ _ h=>h) (Or.inl ⟨by rfl,?_⟩) (by assumption) ?_
  rotate_left 1
  ·intro w' hSw
   obtain ⟨y0,y1,y2,y3⟩:=hSw
   clear y2
   go_simp
   with_reducible rfl
  try simp only [Act.put]
  try simp only [List.getElem_toArray]
  repeat (first|simp only [List.getElem_cons_succ]|simp only [List.getElem_cons_zero])
  try simp only [List.setIfInBounds_toArray]
  repeat (first|simp only [List.set_cons_succ]|simp only [List.set_cons_zero])
  refine wpAnyH_take (i:=1) (oi:=_) (v:=.slice ta q.length (cq - 1)) rfl (by kernel_rfl) (by kernel_rfl) (by kernel_rfl) (fun _ _ _ h=>h) (Or.inl ⟨by rfl,?_⟩) (by assumption) ?_
  ·intro w' hSw
   clear hSw
   go_simp
   first|exact HTA.out.symm|rw [HTA.out]
  try simp only [Act.put]
  try simp only [List.getElem_toArray]
  repeat (first|simp only [List.getElem_cons_succ]|simp only [List.getElem_cons_zero])
  try simp only [List.setIfInBounds_toArray]
  repeat (first|simp only [List.set_cons_succ]|simp only [List.set_cons_zero])
  have HEV:EnvOk ws (e.set v (k.val:Int)):=by
   have h9:=HE.out.set HX.out (i:=k.val) (by rw [HVR.out.2.1];exact k.isLt)
   rw [HVR.out.1,Int.toNat_natCast] at h9
   exact h9
  have HBL:Hid (Below w.heap.size w W3):=HXX.out.below.trans (HK3.out.below (fun b hb=>by omega) HXX.out.below.size)
  have HNW:Nodes W3.drew a l:=(HN.out.below HBL.out).below (w':=W3.drew) (Below.refl _ _).drew
  have HQW:Qvs W3.drew ta q:=Qvs_tail HTA.out hcq1 ((HQ.out.below HBL.out).below (w':=W3.drew) (Below.refl _ _).drew)
  have hcall:=HIH.out W3.drew ta a (cq - 1) c (e.set v (k.val:Int)) HQW (by omega) HNW HEV
  unfold agg at hcall
  have HFK:Hid (f k.val=hf q (root l) (e.set v (k.val:Int))):=by
   show _=_
   rw [HFF.out]
  rw [<- HFK.out] at hcall
  refine call_one (i:=4) (f:=31) (args := #[.slice ta q.length (cq - 1),.slice a l.length c,.agg #[.int .i64 (wd (e.set v (k.val:Int)) 0),.int .i64 (wd (e.set v (k.val:Int)) 1),.int .i64 (wd (e.set v (k.val:Int)) 2),.int .i64 (wd (e.set v (k.val:Int)) 3),.int .i64 (wd (e.set v (k.val:Int)) 4),.int .i64 (wd (e.set v (k.val:Int)) 5),.int .i64 (wd (e.set v (k.val:Int)) 6),.int .i64 (wd (e.set v (k.val:Int)) 7)]]) (by kernel_rfl) rfl rfl (by go_simp) ?_
  refine hcall.mono ?_
  rintro e0 w4 ⟨rfl,hb4⟩
  have HB4:Hid (Below W3.heap.size W3 w4):=(Below.refl _ _).drew.trans hb4
  have hHeld4:w4.cell? ⟨w.heap.size,0,none⟩=some (.slice (some ⟨bq,oq,none⟩) (q.length+1) cq)/\w4.cell? ⟨w.heap.size+1,0,none⟩=some (.slice a l.length c)/\(∀ j:Nat,j < 8->w4.cell? ⟨w.heap.size+1+1,j,none⟩=some (.int .i64 (wd (e.set v (k.val:Int)) (j:Int))))/\w4.cell? ⟨p10,0,none⟩=some (.int .i64 S) :=
   ⟨(HB4.out.cell (lt_of_cell n0)).trans n0,(HB4.out.cell (lt_of_cell n1)).trans n1,fun j hj=>(HB4.out.cell (lt_of_cell (HC3.out j hj).1)).trans (HC3.out j hj).1,(HB4.out.cell (lt_of_cell n10)).trans n10⟩
  refine ⟨_,rfl,hHeld4,?_⟩
  try simp only [Act.put]
  try simp only [List.getElem_toArray]
  repeat (first|simp only [List.getElem_cons_succ]|simp only [List.getElem_cons_zero])
  try simp only [List.setIfInBounds_toArray]
  repeat (first|simp only [List.set_cons_succ]|simp only [List.set_cons_zero])
  refine wpAnyH_take (i:=6) (oi:=_) (v:=?_) rfl (by kernel_rfl) (by kernel_rfl) (by kernel_rfl) (fun _ _ _ h=>h) (Or.inl ⟨by rfl,?_⟩) hHeld4 ?_
  rotate_left 1
  ·intro w' hSw
   clear hSw
   go_simp
   with_reducible rfl
  try simp only [Act.put]
  try simp only [List.getElem_toArray]
  repeat (first|simp only [List.getElem_cons_succ]|simp only [List.getElem_cons_zero])
  try simp only [List.setIfInBounds_toArray]
  repeat (first|simp only [List.set_cons_succ]|simp only [List.set_cons_zero])
  refine wpAnyH_done (by kernel_rfl) ?_ _
  have t10:=hHeld4.2.2.2
  have HC4:Hid (VB w4 (w.heap.size+1+1) e v):=⟨e.set v (k.val:Int),by rw [List.length_set];exact HE.out.1,fun k'=>List.set_set ..,fun j hj=>⟨(HB4.out.cell (lt_of_cell (HC3.out j hj).1)).trans (HC3.out j hj).1,(HB4.out.frozen (p:=⟨w.heap.size+1+1,j,none⟩) (lt_of_cell (HC3.out j hj).1)).trans (HC3.out j hj).2⟩⟩
  have t1:w4.cell? ⟨w.heap.size+1+1+1,0,none⟩=some (.int .i64 0):=(HB4.out.cell (lt_of_cell HNO.out.1)).trans HNO.out.1
  have t2:w4.frozen? ⟨w.heap.size+1+1+1,0,none⟩=false:=(HB4.out.frozen (p:=⟨w.heap.size+1+1+1,0,none⟩) (lt_of_cell HNO.out.1)).trans HNO.out.2
  clear hHeld hHeld4 n0 n1 n10 HNW HQW hcall hb4 HEV
  cases hfx:(f k.val==S)
  ·have hfx':¬ f k.val=S:=by simpa using hfx
   have HFX:Hid (¬ f k.val=S):=hfx'
   clear hfx'
   gi_wp2
   refine ⟨HKO.out.trans (ko_of_below HB4.out),HKP.out.trans (Kept.ofBelow HB4.out),?_,HC4.out,HK3.out.trans (Kept.ofBelow HB4.out)⟩
   intro k' hk'
   rcases List.mem_append.1 hk' with h|h
   ·exact HNE.out k' h
   ·have:k'=k:=by simpa using h
    rw [this];exact HFX.out
  ·have hfx':f k.val=S:=by simpa using hfx
   have HFX:Hid (f k.val=S):=hfx'
   clear hfx'
   gi_wp2
   refine ⟨(HKO.out.trans (ko_of_below HB4.out)).trans (KeepsOthers.setCell _ _ _),⟨rfl,k,by simp,HFX.out⟩,set_same t1,?_⟩
   exact (HBL.out.trans (HB4.out.mono (by omega))).setCell (p:=⟨w.heap.size+1+1+1,0,none⟩) (show w.heap.size<=w.heap.size+1+1+1 by omega) _
 case done =>
  rintro D ys W hD rfl ⟨hne,hvb,hK⟩ hKD
  have HV:Hid (hf (xx :: q) (root l) e=1 - S):=by
   show _=_
   rw [<- HVR.out.2.2]
   refine hf_miss (fun k hk=>HBT.out _ (HE.out.set HX.out hk)) (fun k hk h=>?_)
   refine hne ⟨k,by rw [<- HVR.out.2.1];exact hk⟩ (List.mem_finRange _) ?_
   rw [HFF.out]
   show hf q (root l) (e.set v (k:Int))=S
   rw [HVR.out.1,Int.toNat_natCast] at h
   rw [h];exact HVR.out.2.2
  have hS01:0<=S/\S<=1:=by rw [<- HVR.out.2.2];exact bit_sb xx
  have hwr:IntKind.i64.wrap (1 - S)=1 - S:=by rw [IntKind.wrap_i64]<;>omega
  have m10:W.cell? ⟨p10,0,none⟩=some (.int .i64 S):=(hK.cell (p:=⟨p10,0,none⟩) (show p10 < _ by omega) (show ¬ (p10=_\/_<=p10) by omega)).trans X.b10
  have hr1:W.cell? ⟨w.heap.size+1+1+1,0,none⟩=some (.int .i64 0):=(hK.cell (p:=⟨w.heap.size+1+1+1,0,none⟩) (show w.heap.size+1+1+1 < _ by omega) (show ¬ (w.heap.size+1+1+1=_\/_<=w.heap.size+1+1+1) by omega)).trans X.bo.1
  have hr2:W.frozen? ⟨w.heap.size+1+1+1,0,none⟩=false:=(hK.frozen (p:=⟨w.heap.size+1+1+1,0,none⟩) (show w.heap.size+1+1+1 < _ by omega) (show ¬ (w.heap.size+1+1+1=_\/_<=w.heap.size+1+1+1) by omega)).trans X.bo.2
  have HB:Hid (Below w.heap.size w W):=X.below.trans (hK.below (fun b hb=>by omega) X.below.size)
  have HKD:Hid (W.heap[D]? = some (Obj.deferred (some []))):=hKD
  have HD:Hid (w1.heap.size<=D):=hD
  clear hne hK X hKD hD hvb hS01
  gi_wp2
  have hK2:(W.setCell ⟨w.heap.size+1+1+1,0,none⟩ (.int .i64 (1 - S))).heap[D]? = some (.deferred (some [])):=(KeepsOthers.setCell _ _ _).same D _ HKD.out rfl
  refine ⟨by simp,.inl ⟨_,_,rfl,run_takeDeferred hK2,?_⟩⟩
  have hc2:((W.setCell ⟨w.heap.size+1+1+1,0,none⟩ (.int .i64 (1 - S))).putObj D (.deferred none)).cell? ⟨w.heap.size+1+1+1,0,none⟩=some (.int .i64 (1 - S)):=cell_kept (set_same hr1) (grownBy_putObj' _ D (.deferred none)) (fun r e=>by cases e;exact ⟨_,hK2,rfl⟩)
  refine ⟨.int .i64 (1 - S),by simp [results,Tryz.results31,go_sem,hc2],by rw [HV.out],?_⟩
  have h2:Below w.heap.size w (W.setCell ⟨w.heap.size+1+1+1,0,none⟩ (.int .i64 (1 - S))):=HB.out.setCell (p:=⟨w.heap.size+1+1+1,0,none⟩) (show w.heap.size<=w.heap.size+1+1+1 by omega) _
  exact h2.trans (belowK_b (w:=w) (Nat.le_refl _) _ D _ _ (by have:=HD.out;have:=HXX.out.below.size;omega) hK2 rfl rfl)
 case stop =>
  rintro D cc pre W hD _ ⟨⟨rfl,hk⟩,hc,hB⟩ hKD
  have HV:Hid (hf (xx :: q) (root l) e=S):=by
   show _=_
   rw [<- HVR.out.2.2]
   obtain ⟨k,_,h5⟩:=hk
   rw [HFF.out] at h5
   have h6:hf q (root l) (e.set v (k.val:Int))=S:=h5
   refine hf_hit ⟨k.val,by rw [HVR.out.2.1];exact k.isLt,?_⟩
   rw [HVR.out.1,Int.toNat_natCast,h6];exact HVR.out.2.2.symm
  have HB:Hid (Below w.heap.size w W):=hB
  have HKD:Hid (W.heap[D]? = some (Obj.deferred (some []))):=hKD
  have HD:Hid (w1.heap.size<=D):=hD
  clear hk hB X hKD hD
  gi_wp2
  refine ⟨by simp,.inl ⟨_,_,rfl,run_takeDeferred HKD.out,?_⟩⟩
  have hc2:(W.putObj D (.deferred none)).cell? ⟨w.heap.size+1+1+1,0,none⟩=some (.int .i64 S):=cell_kept hc (grownBy_putObj' _ D (.deferred none)) (fun r e=>by cases e;exact ⟨_,HKD.out,rfl⟩)
  refine ⟨.int .i64 S,by simp [results,Tryz.results31,go_sem,hc2],by rw [HV.out],?_⟩
  exact HB.out.trans (belowK_b (w:=w) (Nat.le_refl _) _ D _ _ (by have:=HD.out;have:=HXX.out.below.size;omega) HKD.out rfl rfl)
end Fp6
end Go.Proofs.YtebejleeadofcaaGreat
