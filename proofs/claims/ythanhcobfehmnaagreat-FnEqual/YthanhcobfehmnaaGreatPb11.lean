import Derived.Test.YthanhcobfehmnaaGreatPb10
namespace Go.Proofs.YthanhcobfehmnaaGreat
set_option maxRecDepth 100000
set_option maxHeartbeats 8000000
set_option linter.unusedVariables false
namespace Pb11
open Go.RowKit
open Nd0 Nd3 Tm0 Tm8 Rw0 Ap0 Ap15 Aq0 Aq1 Aw2 Pg1 Pb10
open Aw1 (nv TellI wInt)
open Ap2 (Own)
open Pg10 (mv)
structure Jn (w W:World) (bx:Nat) (A:List Nd) (R:List Int) (g cp:Nat) (rv:Value):Prop where
 box:W.cell? ⟨bx,0,none⟩=some (.slice (some ⟨g,0,none⟩) A.length cp)
 fz:W.frozen? ⟨bx,0,none⟩=false
 own:Own W w.heap.size (.slice (some ⟨g,0,none⟩) A.length cp) A
 ne:g≠bx
 bw:w.heap.size<=bx
 rt:Ows W w.heap.size rv R
 rb:rv.ownBlock≠some bx/\rv.ownBlock≠some g
 bel:Below w.heap.size w W
theorem Jn.below {w W W':World} {bx:Nat} {A:List Nd} {R:List Int} {g cp:Nat} {rv:Value} (h:Jn w W bx A R g cp rv) (k:Below W.heap.size W W'):Jn w W' bx A R g cp rv :=
 ⟨(k.cell (lt_of_cell h.box)).trans h.box,(k.frozen (lt_of_cell h.box)).trans h.fz,h.own.kept (S:=fun _=>False) (Kept.ofBelow k) (fun _ _ h=>h),h.ne,h.bw,h.rt.kept (S:=fun _=>False) (Kept.ofBelow k) (fun _ _ h=>h),h.rb,h.bel.trans (k.mono h.bel.size)⟩
theorem Jn.still {w W W':World} {bx:Nat} {A:List Nd} {R:List Int} {g cp:Nat} {rv:Value} (h:Jn w W bx A R g cp rv) (k:Kept (fun b=>b=g) W W'):W'.cell? ⟨bx,0,none⟩=some (.slice (some ⟨g,0,none⟩) A.length cp)/\W'.frozen? ⟨bx,0,none⟩=false :=
 ⟨(k.cell (lt_of_cell h.box) (fun e=>h.ne e.symm)).trans h.box,(k.frozen (lt_of_cell h.box) (fun e=>h.ne e.symm)).trans h.fz⟩
theorem Jn.next {w W W':World} {bx:Nat} {A AN:List Nd} {R:List Int} {g cp g' cp':Nat} {rv:Value} (h:Jn w W bx A R g cp rv) (ho:Own W' w.heap.size (.slice (some ⟨g',0,none⟩) AN.length cp') AN) (k:Kept (fun b=>b=g) W W') (hg:g'=g\/W.heap.size<=g') :
 Jn w (W'.setCell ⟨bx,0,none⟩ (.slice (some ⟨g',0,none⟩) AN.length cp')) bx AN R g' cp' rv:=by
 have hbx:bx < W.heap.size:=lt_of_cell h.box
 have hne:g'≠bx:=by
  rcases hg with e|e
  ·rw [e];exact h.ne
  ·omega
 have k2:Kept (fun b=>b=bx) W' (W'.setCell ⟨bx,0,none⟩ (.slice (some ⟨g',0,none⟩) AN.length cp')):=(Kept.refl (fun b=>b=bx) W').setCell (p:=⟨bx,0,none⟩) rfl (.slice (some ⟨g',0,none⟩) AN.length cp')
 have hs:=h.still k
 have hgl:=(h.own.lt g rfl).1
 have hrl:∀ b,rv.ownBlock=some b->b < W.heap.size:=fun b hb=>(h.rt.lt b hb).2
 refine ⟨set_same hs.1,by rw [World.frozen?_setCell];exact hs.2,ho.kept k2 (fun b h1 h2=>hne (by cases h1;exact h2)),hne,h.bw,(h.rt.kept k (fun b h1 h2=>h.rb.2 (by rw [h1,h2]))).kept k2 (fun b h1 h2=>h.rb.1 (by rw [h1,h2])),⟨h.rb.1,fun e=>?_⟩,(h.bel.trans (k.below (fun b (hb:b=g)=>by omega) h.bel.size)).trans (k2.below (fun b (hb:b=bx)=>by have:=h.bw;omega) (Nat.le_trans h.bel.size k.size))⟩
 rcases hg with e2|e2
 ·exact h.rb.2 (by rw [e,e2])
 ·have:=hrl g' e;omega
theorem Jn.more {w W W':World} {bx:Nat} {A:List Nd} {R:List Int} {y:Int} {g cp g' cp' n':Nat} {rv:Value} (h:Jn w W bx A R g cp rv) (ho:Ows W' w.heap.size (.slice (some ⟨g',0,none⟩) n' cp') (R++[y])) (k:Kept (fun b=>rv.ownBlock=some b) W W') (hg:rv.ownBlock=some g'\/W.heap.size<=g') :
 Jn w W' bx A (R++[y]) g cp (.slice (some ⟨g',0,none⟩) n' cp'):=by
 have hbx:bx < W.heap.size:=lt_of_cell h.box
 have hgl:=(h.own.lt g rfl).2
 refine ⟨(k.cell (lt_of_cell h.box) h.rb.1).trans h.box,(k.frozen (lt_of_cell h.box) h.rb.1).trans h.fz,h.own.kept k (fun b h1 h2=>h.rb.2 (by cases h1;exact h2)),h.ne,h.bw,ho,⟨fun e=>?_,fun e=>?_⟩,h.bel.trans (k.below (fun b hb=>(h.rt.lt b hb).1) h.bel.size)⟩
 ·have e1:g'=bx:=Option.some.inj e
  rcases hg with e2|e2
  ·exact h.rb.1 (by rw [e2,e1])
  ·omega
 ·have e1:g'=g:=Option.some.inj e
  rcases hg with e2|e2
  ·exact h.rb.2 (by rw [e2,e1])
  ·omega
def accL (l1 l2:List Nd):Nat->List Nd
 | 0=>[]
 | 1=>l1
 | _+2=>joinL l1 l2
def rtsL (l1 l2:List Nd):Nat->List Int
 | 0=>[]
 | 1=>[(l1.length:Int) - 1]
 | _+2=>[(l1.length:Int) - 1,(l1.length:Int)+(l2.length:Int) - 1]
def tmL (l1 l2:List Nd):Nat->List Nd
 | 0=>l1
 | _+1=>l2
theorem acc_step (l1 l2:List Nd) {k:Nat} (hk:k < 2):accL l1 l2 k++(tmL l1 l2 k).map (shN ((accL l1 l2 k).length:Int))=accL l1 l2 (k+1):=by
 rcases (show k=0\/k=1 by omega) with rfl|rfl
 ·show []++l1.map (shN 0)=l1
  rw [List.nil_append,List.map_congr_left (g:=id) (fun n _=>sh_zero n),List.map_id]
 ·rfl
theorem rts_step (l1 l2:List Nd) {k:Nat} (hk:k < 2):rtsL l1 l2 k++[((accL l1 l2 (k+1)).length:Int) - 1]=rtsL l1 l2 (k+1):=by
 rcases (show k=0\/k=1 by omega) with rfl|rfl
 ·rfl
 ·show [(l1.length:Int) - 1]++[((joinL l1 l2).length:Int) - 1]=_
  rw [joinL_length]
  show [(l1.length:Int) - 1,(((l1.length+l2.length:Nat):Int)) - 1]=[(l1.length:Int) - 1,(l1.length:Int)+(l2.length:Int) - 1]
  simp
theorem rts_len (l1 l2:List Nd) {k:Nat} (hk:k<=2):(rtsL l1 l2 k).length=k:=by
 rcases (show k=0\/k=1\/k=2 by omega) with rfl|rfl|rfl<;>rfl
theorem iJoin (w:World) (tg to_ tcap:Nat) (a1 a2:Option Addr) (l1 l2:List Nd) (c1 c2:Nat) (hN1:Nodes w a1 l1) (hN2:Nodes w a2 l2) (hD1:Down l1) (hD2:Down l2) (h1:1<=l1.length/\l1.length<=80) (h2:1<=l2.length/\l2.length<=80)
 (ht1:w.cell? ⟨tg,to_,none⟩=some (.slice a1 l1.length c1)) (ht2:w.cell? ⟨tg,to_+1,none⟩=some (.slice a2 l2.length c2)) :
 Calls Tryz.prog 16 #[.slice (some ⟨tg,to_,none⟩) 2 tcap] w fun e w'=>(∃ g cp rg rc,e=.returned (.tuple #[.slice (some ⟨g,0,none⟩) (joinL l1 l2).length cp,.slice (some ⟨rg,0,none⟩) 2 rc])/\Own w' w.heap.size (.slice (some ⟨g,0,none⟩) (joinL l1 l2).length cp) (joinL l1 l2)/\w'.cell? ⟨rg,0,none⟩=some (.int .i64 ((l1.length:Int) - 1))/\w'.cell? ⟨rg,1,none⟩=some (.int .i64 ((l1.length:Int)+(l2.length:Int) - 1))/\rg≠g)/\Below w.heap.size w w':=by
 obtain ⟨W1,hW1⟩:∃ W1:World,W1=w.alloc (.cells #[] 44):=⟨_,rfl⟩
 obtain ⟨W2,hW2⟩:∃ W2:World,W2=W1.alloc (.cells #[] 3):=⟨_,rfl⟩
 obtain ⟨W,hW⟩:∃ W:World,W=W2.alloc (.cells #[.slice (some ⟨w.heap.size,0,none⟩) 0 0] 24):=⟨_,rfl⟩
 have s1:W1.heap.size=w.heap.size+1:=by rw [hW1];simp
 have s2:W2.heap.size=w.heap.size+1+1:=by rw [hW2];simp [s1]
 have b1:Below w.heap.size w W1:=by rw [hW1];exact (Below.refl _ _).alloc (Nat.le_refl _) _
 have b2:Below W1.heap.size W1 W2:=by rw [hW2];exact (Below.refl _ _).alloc (Nat.le_refl _) _
 have b3:Below W2.heap.size W2 W:=by rw [hW];exact (Below.refl _ _).alloc (Nat.le_refl _) _
 have HJ0:Hid (Jn w W (w.heap.size+1+1) (accL l1 l2 0) (rtsL l1 l2 0) w.heap.size 0 (.slice (some ⟨w.heap.size+1,0,none⟩) 0 0)):=by
  have hoA:Own W1 w.heap.size (.slice (some ⟨w.heap.size,0,none⟩) ([]:List Nd).length 0) []:=by rw [hW1];exact Ap2.Own.lit w _ (Nat.le_refl _)
  have hoR:Ows W2 w.heap.size (.slice (some ⟨w.heap.size+1,0,none⟩) 0 0) []:=by rw [<- s1,hW2];exact Ows.lit W1 _ (by omega)
  refine ⟨by rw [<- s2,hW,World.cell?_alloc_new];rfl,by rw [<- s2,hW];simp,((hoA.kept (S:=fun _=>False) (Kept.ofBelow b2) (fun _ _ h=>h)).kept (S:=fun _=>False) (Kept.ofBelow b3) (fun _ _ h=>h)),by omega,by omega,hoR.kept (S:=fun _=>False) (Kept.ofBelow b3) (fun _ _ h=>h),⟨fun h=>?_,fun h=>?_⟩,b1.trans ((b2.mono (by omega)).trans (b3.mono (by omega)))⟩
  ·have:w.heap.size+1=w.heap.size+1+1:=Option.some.inj h
   omega
  ·have:w.heap.size+1=w.heap.size:=Option.some.inj h
   omega
 have HTT:Hid (∀ k,k < 2->∃ (ta:Option Addr) (tc:Nat),w.cell? ⟨tg,to_+k,none⟩=some (.slice ta (tmL l1 l2 k).length tc)/\Nodes w ta (tmL l1 l2 k)/\Down (tmL l1 l2 k)/\1<=(tmL l1 l2 k).length/\(tmL l1 l2 k).length<=80):=fun k hk=>by
  rcases (show k=0\/k=1 by omega) with rfl|rfl
  ·exact ⟨a1,c1,ht1,hN1,hD1,h1.1,h1.2⟩
  ·exact ⟨a2,c2,ht2,hN2,hD2,h2.1,h2.2⟩
 have HAL0:Hid (∀ k,k<=2->(accL l1 l2 k).length<=160):=fun k hk=>by
  rcases (show k=0\/k=1\/k=2 by omega) with rfl|rfl|rfl
  ·show 0<=160;omega
  ·show l1.length<=160;omega
  ·show (joinL l1 l2).length<=160;rw [joinL_length];omega
 clear hN1 hN2 hD1 hD2 ht1 ht2 h1 h2 b1 b2 b3
 go_enter Tryz.func16,Tryz.ntmps16
 go_upto_region 2 with fail
 have e1:W1.heap.size=w.heap.size+1:=s1
 rw [<- hW1,<- hW2,<- hW]
 generalize hbx:w.heap.size+1+1=bx at HJ0 ⊢
 clear hW1 hW2 hW s1 s2 e1 hbx
 go_wp2_with fail
 go_loopw [5,13] (fun rv iv wr=>∃ k g cp:Nat,k<=2/\iv=.int .i64 (k:Int)/\Jn w wr bx (accL l1 l2 k) (rtsL l1 l2 k) g cp rv) (fun _ iv _=>2 - (intOf iv).toNat)
 case atStart=>exact ⟨0,_,_,by omega,rfl,HJ0.out⟩
 case round =>
  clear HJ0
  obtain ⟨k,g,cp,hk,rfl,hj⟩:=hrel
  obtain ⟨wb,rfl⟩:∃ wb:World,wb=wr:=⟨_,rfl⟩
  obtain ⟨rv,rfl⟩:∃ rv:Value,rv=u5:=⟨_,rfl⟩
  have HJ:Hid (Jn w wb bx (accL l1 l2 k) (rtsL l1 l2 k) g cp rv):=hj
  clear hj
  by_cases hk2:k < 2
  ·have hkz:(k:Int) < 2:=by omega
   obtain ⟨ta,tc,p0',hnt,hdt,ht1,ht2⟩:=HTT.out k hk2
   have p0:wb.cell? ⟨tg,to_+k,none⟩=some (.slice ta (tmL l1 l2 k).length tc):=(HJ.out.bel.cell (lt_of_cell p0')).trans p0'
   have hntb:Nodes wb ta (tmL l1 l2 k):=hnt.below HJ.out.bel
   have hal:(accL l1 l2 k).length<=160:=HAL0.out k hk
   have hal2:(accL l1 l2 (k+1)).length<=160:=HAL0.out (k+1) (by omega)
   have hsp:=acc_step l1 l2 hk2
   have hrs:=rts_step l1 l2 hk2
   have hrl:=rts_len l1 l2 hk
   obtain ⟨t,ht⟩:∃ t,t=tmL l1 l2 k:=⟨_,rfl⟩
   obtain ⟨A,hA⟩:∃ A,A=accL l1 l2 k:=⟨_,rfl⟩
   obtain ⟨AN,hAN⟩:∃ AN,AN=accL l1 l2 (k+1):=⟨_,rfl⟩
   obtain ⟨R,hR⟩:∃ R,R=rtsL l1 l2 k:=⟨_,rfl⟩
   obtain ⟨RN,hRN⟩:∃ RN,RN=rtsL l1 l2 (k+1):=⟨_,rfl⟩
   have HKN:Hid (accL l1 l2 (k+1)=AN/\rtsL l1 l2 (k+1)=RN):=⟨hAN.symm,hRN.symm⟩
   rw [<- ht] at p0 hntb hsp hdt ht1 ht2
   rw [<- hA] at HJ hal hsp
   rw [<- hR] at HJ hrs hrl
   rw [<- hAN] at hsp hrs hal2
   rw [<- hRN] at hrs
   obtain ⟨T,hTT⟩:∃ T,T=t.map (mv (fun i=>(A.length:Int)+i)):=⟨_,rfl⟩
   have HTE:Hid (T=t.map (mv (fun i=>(A.length:Int)+i))):=hTT
   rw [<- map_sh hdt,<- hTT] at hsp
   have HAN:Hid (A++T=AN):=hsp
   have HRN:Hid (R++[(AN.length:Int) - 1]=RN):=hrs
   have HRL:Hid (R.length=k):=hrl
   have HTL:Hid (t.length=T.length):=by show _=_;rw [hTT,List.length_map]
   have HT1:Hid (1<=t.length/\t.length<=80):=⟨ht1,ht2⟩
   have HAL:Hid (A.length<=160):=hal
   have HAN1:Hid (1<=AN.length/\AN.length<=160):=by
    refine ⟨?_,hal2⟩
    rw [<- hsp,List.length_append]
    have:=HTL.out
    omega
   have HNT:Hid (Nodes wb ta t):=hntb
   have HDT:Hid (Down t):=hdt
   have HWI:Hid (Calls Tryz.prog 34 #[.slice ta t.length tc,.func (.func 35) #[] #[.pointer (some ⟨bx,0,none⟩)]] wb fun e w'=>(∃ a',e=.returned (.slice a' t.length t.length)/\WInts w' wb.heap.size a' (wk 0 (plF A.length) t t.length))/\Below wb.heap.size wb w') :=
    wInt 35 #[.pointer (some ⟨bx,0,none⟩)] (plF A.length) wb ta t tc hntb hdt (by omega) (enters_of Tryz.func35 (by kernel_rfl) rfl) (tellP bx _ A.length cp t wb (by omega) (by omega) HJ.out.box)
   clear hnt hntb hdt ht1 ht2 hal hal2 hsp hrs hrl ht hA hAN hR hRN hTT p0'
   go_wp2_with fail
   refine HWI.out.mono ?_
   rintro e w1 ⟨⟨ap,rfl,hwp⟩,hb1⟩
   have hwl:(wk 0 (plF A.length) t t.length).length=t.length:=wk_length _ _ _ _
   have HJX:Hid (Jn w w1 bx A R g cp rv):=HJ.out.below hb1
   have HNX:Hid (Nodes w1 ta t):=HNT.out.below hb1
   rcases hwp.2 with h0|⟨gp,go,rfl, -,hpc⟩
   ·have:=HT1.out;omega
   have HPC:Hid (∀ i,i < t.length->w1.cell? ⟨gp,go+i,none⟩=some (.int .i64 ((A.length:Int)+(i:Int)))):=fun i hi=>by
    have h:=(hpc i (by omega)).1
    have e:(wk 0 (plF A.length) t t.length)[i]'(by omega)=(A.length:Int)+(i:Int):=by
     have h9:=wk_flat 0 (fun i _=>(A.length:Int)+(i:Int)) t t.length
     have h8:wk 0 (plF A.length) t t.length=(List.range t.length).map fun (i:Nat)=>(A.length:Int)+(i:Int):=h9
     simp only [h8]
     simp
    rw [e] at h
    exact h
   clear hwp hpc hwl hb1 HWI HJ HNT p0
   obtain ⟨W1,hW1⟩:∃ W1:World,W1=w1.alloc (.cells #[.slice (some ⟨gp,go,none⟩) t.length t.length] 29):=⟨_,rfl⟩
   have hb2:Below w1.heap.size w1 W1:=by rw [hW1];exact (Below.refl _ _).alloc (Nat.le_refl _) _
   have HJ1:Hid (Jn w W1 bx A R g cp rv):=HJX.out.below hb2
   have hpx:W1.cell? ⟨w1.heap.size,0,none⟩=some (.slice (some ⟨gp,go,none⟩) t.length t.length):=by rw [hW1,World.cell?_alloc_new];rfl
   have hpr:∀ i,i < t.length->W1.cell? ⟨gp,go+i,none⟩=some (.int .i64 ((A.length:Int)+(i:Int))):=fun i hi=>(hb2.cell (lt_of_cell (HPC.out i hi))).trans (HPC.out i hi)
   have hn1:Nodes W1 ta t:=HNX.out.below hb2
   obtain ⟨px,hpxe⟩:∃ px:Nat,px=w1.heap.size:=⟨_,rfl⟩
   rw [<- hpxe] at hpx
   have hd0:Below W1.heap.size W1 W1.drew:=(Below.refl _ _).drew
   have HWN:Hid (Calls Tryz.prog 36 #[.slice ta t.length tc,.func (.func 37) #[] #[.pointer (some ⟨px,0,none⟩)]] W1.drew fun e w'=>(∃ a',e=.returned (.slice a' t.length t.length)/\WNodes w' W1.drew.heap.size a' (wk Nd.zero (mvF (fun i=>(A.length:Int)+i)) t t.length))/\Below W1.drew.heap.size W1.drew w') :=
    wNode 37 #[.pointer (some ⟨px,0,none⟩)] (mvF (fun i=>(A.length:Int)+i)) W1.drew ta t tc (hn1.below hd0) HDT.out (by have:=HT1.out;omega) (enters_of Tryz.func37 (by kernel_rfl) rfl) (tellM px gp go t.length _ t W1.drew HDT.out HT1.out.2 hpx (fun i hi=>hpr i hi))
   have HWT:Hid (wk Nd.zero (mvF (fun i=>(A.length:Int)+i)) t t.length=T):=by
    show _=_
    rw [HTE.out]
    exact wk_map Nd.zero (mv (fun i=>(A.length:Int)+i)) t
   clear hpx hpr hn1 hd0 hb2 HPC HJX HNX
   go_upto_region 6 with fail
   rw [<- hW1,<- hpxe]
   clear hW1 hpxe
   refine wp_region_held_drew (S:=fun _=>True) (by kernel_rfl) trivial (fun hHeld=>?_)
   refine wpAnyH_take (i:=1) (v:=?_) rfl (by kernel_rfl) (by kernel_rfl) (by kernel_rfl) (fun _ _ _ h=>h) (Or.inl ⟨by rfl,?_⟩) hHeld ?_
   rotate_left
   ·intro v9 hS9
    try dsimp only at hS9
    go_simp
    try with_reducible rfl
   try simp only [Act.put,List.setIfInBounds_toArray,List.set_cons_zero,List.set_cons_succ,List.getElem_toArray,List.getElem_cons_zero,List.getElem_cons_succ]
   refine wpAnyH_take (i:=2) (v:=?_) rfl (by kernel_rfl) (by kernel_rfl) (by kernel_rfl) (fun _ _ _ h=>h) (Or.inl ⟨by rfl,?_⟩) hHeld ?_
   rotate_left
   ·intro v9 hS9
    try dsimp only at hS9
    go_simp
    try with_reducible rfl
   try simp only [Act.put,List.setIfInBounds_toArray,List.set_cons_zero,List.set_cons_succ,List.getElem_toArray,List.getElem_cons_zero,List.getElem_cons_succ]
   refine wpAnyH_ready (rs:=[0,3]) (by kernel_rfl) (by simp) ?_
   refine (AllReadyH.cons rfl (fun K hK=>?_) (AllReadyH.cons rfl (fun K hK=>?_) AllReadyH.nil))
   ·
    have xb:W1.cell? ⟨bx,0,none⟩=some (.slice (some ⟨g,0,none⟩) A.length cp):=HJ1.out.box
    go_simp
    clear xb
    refine hK.out _ _ trivial (fun hNext=>?_)
    clear hK K hHeld
    have hHeld:=hNext
    clear hNext
    try simp only [Act.put,List.setIfInBounds_toArray,List.set_cons_zero,List.set_cons_succ,List.getElem_toArray,List.getElem_cons_zero,List.getElem_cons_succ]
    refine wpAnyH_ready (rs:=[3]) (by kernel_rfl) (by simp) ?_
    refine (AllReadyH.cons rfl (fun K hK=>?_) AllReadyH.nil)
    refine step_call (f:=36) (args := #[.slice ta t.length tc,.func (.func 37) #[] #[.pointer (some ⟨px,0,none⟩)]]) rfl (by go_simp) ?_
    refine (HWN.out).mono ?_
    rintro e w5 ⟨⟨a5,rfl,hw5⟩,hb5⟩
    have HJ5:Hid (Jn w w5 bx A R g cp rv):=HJ1.out.below (((Below.refl W1.heap.size W1).drew).trans hb5)
    have HN5:Hid (∃ b5 o5,a5=some ⟨b5,o5,none⟩/\∀ i (h:i < T.length),NodeAt w5 b5 (o5+i*6) T[i]):=by
     rw [HWT.out] at hw5
     rcases hw5.2 with h0|⟨b5,o5,ha, -,hc, -⟩
     ·have:=HTL.out;have:=HT1.out;omega
     ·exact ⟨b5,o5,ha,hc⟩
    clear hw5 hb5
    obtain ⟨b5,o5,rfl,hn5⟩:=HN5.out
    have HN6:Hid (∀ i (h:i < T.length),NodeAt w5 b5 (o5+i*6) T[i]):=hn5
    clear hn5 HN5
    refine ⟨_,rfl,?_⟩
    refine hK.out _ _ trivial (fun hNext=>?_)
    clear hK K hHeld
    have hHeld:=hNext
    clear hNext
    try simp only [Act.put,List.setIfInBounds_toArray,List.set_cons_zero,List.set_cons_succ,List.getElem_toArray,List.getElem_cons_zero,List.getElem_cons_succ]
    refine wpAnyH_ready (rs:=[4]) (by kernel_rfl) (by simp) ?_
    refine (AllReadyH.cons rfl (fun K hK=>?_) AllReadyH.nil)
    refine step_any w5 rfl _ _ rfl w.heap.size g cp A T AN HAN.out b5 o5 t.length A.length t.length rfl rfl rfl HTL.out HN6.out (by have:=HTL.out;have:=HT1.out;omega) HJ5.out.own HJ5.out.bel.size (by have:=HTL.out;have:=HT1.out;have:=HAL.out;omega) ?_
    intro g6 cp6 w6 ho6 hk6 hg6
    have HJ6:Hid (Jn w (w6.setCell ⟨bx,0,none⟩ (.slice (some ⟨g6,0,none⟩) AN.length cp6)) bx AN R g6 cp6 rv):=HJ5.out.next ho6 hk6 hg6
    have HX6:Hid (w6.cell? ⟨bx,0,none⟩=some (.slice (some ⟨g,0,none⟩) A.length cp)/\w6.frozen? ⟨bx,0,none⟩=false):=HJ5.out.still hk6
    clear ho6 hk6 hg6 HJ5 HN6
    refine hK.out _ _ trivial (fun hNext=>?_)
    clear hK K hHeld
    have hHeld:=hNext
    clear hNext
    try simp only [Act.put,List.setIfInBounds_toArray,List.set_cons_zero,List.set_cons_succ,List.getElem_toArray,List.getElem_cons_zero,List.getElem_cons_succ]
    refine wpAnyH_ready (rs:=[5]) (by kernel_rfl) (by simp) ?_
    refine (AllReadyH.cons rfl (fun K hK=>?_) AllReadyH.nil)
    obtain ⟨xb,xf⟩:=HX6.out
    go_simp
    clear xb xf
    refine hK.out _ _ trivial (fun hNext=>?_)
    clear hK K hHeld
    have hHeld:=hNext
    clear hNext
    try simp only [Act.put,List.setIfInBounds_toArray,List.set_cons_zero,List.set_cons_succ,List.getElem_toArray,List.getElem_cons_zero,List.getElem_cons_succ]
    refine wpAnyH_done (by kernel_rfl) ?_ _
    clear hHeld HX6
    obtain ⟨W7,hW7⟩:∃ W7:World,W7=w6.setCell ⟨bx,0,none⟩ (.slice (some ⟨g6,0,none⟩) AN.length cp6):=⟨_,rfl⟩
    rw [<- hW7] at HJ6
    rw [<- hW7]
    clear hW7
    have HJ7:Hid (Jn w W7 bx AN R g6 cp6 rv):=HJ6.out
    clear HJ6 HJ1 HWN
    have x7:=HJ7.out.box
    have hAN1:1<=AN.length:=by have:=HAN1.out;omega
    have hAN2:AN.length<=160:=by have:=HAN1.out;omega
    have hw7:w.heap.size<=W7.heap.size:=HJ7.out.bel.size
    go_wp2_with (at_builtin;go_must (refine app_int _ rfl _ _ rfl w.heap.size rv R ((AN.length:Int) - 1) rfl rfl HJ7.out.rt hw7 (by have:=HRL.out;omega) ?_;intro g8 cp8 w8 ho8 hk8 hg8))
    have HJ8:Hid (Jn w w8 bx AN RN g6 cp6 (.slice (some ⟨g8,0,none⟩) (R.length+1) cp8)):=by
     have h:=HJ7.out.more ho8 hk8 hg8
     rw [HRN.out] at h
     exact h
    clear ho8 hk8 hg8 HJ7 x7
    go_wp2
    go_roundw
    case rel=>exact ⟨k+1,g6,cp6,by omega,by go_num,by rw [HKN.out.1,HKN.out.2];exact HJ8.out⟩
    case measure=>simp [intOf];omega
   ·
    refine step_call (f:=36) (args := #[.slice ta t.length tc,.func (.func 37) #[] #[.pointer (some ⟨px,0,none⟩)]]) rfl (by go_simp) ?_
    refine (HWN.out).mono ?_
    rintro e w5 ⟨⟨a5,rfl,hw5⟩,hb5⟩
    have HJ5:Hid (Jn w w5 bx A R g cp rv):=HJ1.out.below (((Below.refl W1.heap.size W1).drew).trans hb5)
    have HN5:Hid (∃ b5 o5,a5=some ⟨b5,o5,none⟩/\∀ i (h:i < T.length),NodeAt w5 b5 (o5+i*6) T[i]):=by
     rw [HWT.out] at hw5
     rcases hw5.2 with h0|⟨b5,o5,ha, -,hc, -⟩
     ·have:=HTL.out;have:=HT1.out;omega
     ·exact ⟨b5,o5,ha,hc⟩
    clear hw5 hb5
    obtain ⟨b5,o5,rfl,hn5⟩:=HN5.out
    have HN6:Hid (∀ i (h:i < T.length),NodeAt w5 b5 (o5+i*6) T[i]):=hn5
    clear hn5 HN5
    refine ⟨_,rfl,?_⟩
    refine hK.out _ _ trivial (fun hNext=>?_)
    clear hK K hHeld
    have hHeld:=hNext
    clear hNext
    try simp only [Act.put,List.setIfInBounds_toArray,List.set_cons_zero,List.set_cons_succ,List.getElem_toArray,List.getElem_cons_zero,List.getElem_cons_succ]
    refine wpAnyH_ready (rs:=[0]) (by kernel_rfl) (by simp) ?_
    refine (AllReadyH.cons rfl (fun K hK=>?_) AllReadyH.nil)
    have xb:w5.cell? ⟨bx,0,none⟩=some (.slice (some ⟨g,0,none⟩) A.length cp):=HJ5.out.box
    go_simp
    clear xb
    refine hK.out _ _ trivial (fun hNext=>?_)
    clear hK K hHeld
    have hHeld:=hNext
    clear hNext
    try simp only [Act.put,List.setIfInBounds_toArray,List.set_cons_zero,List.set_cons_succ,List.getElem_toArray,List.getElem_cons_zero,List.getElem_cons_succ]
    refine wpAnyH_ready (rs:=[4]) (by kernel_rfl) (by simp) ?_
    refine (AllReadyH.cons rfl (fun K hK=>?_) AllReadyH.nil)
    refine step_any w5 rfl _ _ rfl w.heap.size g cp A T AN HAN.out b5 o5 t.length A.length t.length rfl rfl rfl HTL.out HN6.out (by have:=HTL.out;have:=HT1.out;omega) HJ5.out.own HJ5.out.bel.size (by have:=HTL.out;have:=HT1.out;have:=HAL.out;omega) ?_
    intro g6 cp6 w6 ho6 hk6 hg6
    have HJ6:Hid (Jn w (w6.setCell ⟨bx,0,none⟩ (.slice (some ⟨g6,0,none⟩) AN.length cp6)) bx AN R g6 cp6 rv):=HJ5.out.next ho6 hk6 hg6
    have HX6:Hid (w6.cell? ⟨bx,0,none⟩=some (.slice (some ⟨g,0,none⟩) A.length cp)/\w6.frozen? ⟨bx,0,none⟩=false):=HJ5.out.still hk6
    clear ho6 hk6 hg6 HJ5 HN6
    refine hK.out _ _ trivial (fun hNext=>?_)
    clear hK K hHeld
    have hHeld:=hNext
    clear hNext
    try simp only [Act.put,List.setIfInBounds_toArray,List.set_cons_zero,List.set_cons_succ,List.getElem_toArray,List.getElem_cons_zero,List.getElem_cons_succ]
    refine wpAnyH_ready (rs:=[5]) (by kernel_rfl) (by simp) ?_
    refine (AllReadyH.cons rfl (fun K hK=>?_) AllReadyH.nil)
    obtain ⟨xb,xf⟩:=HX6.out
    go_simp
    clear xb xf
    refine hK.out _ _ trivial (fun hNext=>?_)
    clear hK K hHeld
    have hHeld:=hNext
    clear hNext
    try simp only [Act.put,List.setIfInBounds_toArray,List.set_cons_zero,List.set_cons_succ,List.getElem_toArray,List.getElem_cons_zero,List.getElem_cons_succ]
    refine wpAnyH_done (by kernel_rfl) ?_ _
    clear hHeld HX6
    obtain ⟨W7,hW7⟩:∃ W7:World,W7=w6.setCell ⟨bx,0,none⟩ (.slice (some ⟨g6,0,none⟩) AN.length cp6):=⟨_,rfl⟩
    rw [<- hW7] at HJ6
    rw [<- hW7]
    clear hW7
    have HJ7:Hid (Jn w W7 bx AN R g6 cp6 rv):=HJ6.out
    clear HJ6 HJ1 HWN
    have x7:=HJ7.out.box
    have hAN1:1<=AN.length:=by have:=HAN1.out;omega
    have hAN2:AN.length<=160:=by have:=HAN1.out;omega
    have hw7:w.heap.size<=W7.heap.size:=HJ7.out.bel.size
    go_wp2_with (at_builtin;go_must (refine app_int _ rfl _ _ rfl w.heap.size rv R ((AN.length:Int) - 1) rfl rfl HJ7.out.rt hw7 (by have:=HRL.out;omega) ?_;intro g8 cp8 w8 ho8 hk8 hg8))
    have HJ8:Hid (Jn w w8 bx AN RN g6 cp6 (.slice (some ⟨g8,0,none⟩) (R.length+1) cp8)):=by
     have h:=HJ7.out.more ho8 hk8 hg8
     rw [HRN.out] at h
     exact h
    clear ho8 hk8 hg8 HJ7 x7
    go_wp2
    go_roundw
    case rel=>exact ⟨k+1,g6,cp6,by omega,by go_num,by rw [HKN.out.1,HKN.out.2];exact HJ8.out⟩
    case measure=>simp [intOf];omega
  ·have hke:k=2:=by omega
   subst hke
   have hkz:¬ ((2:Nat):Int) < 2:=by omega
   have HFIN:Hid (∃ rg rc,rv=.slice (some ⟨rg,0,none⟩) 2 rc/\wb.cell? ⟨rg,0,none⟩=some (.int .i64 ((l1.length:Int) - 1))/\wb.cell? ⟨rg,1,none⟩=some (.int .i64 ((l1.length:Int)+(l2.length:Int) - 1))/\rg≠g):=by
    obtain ⟨ra,rc,hv,hw⟩:=HJ.out.rt.form
    rcases HJ.out.rt.2 with ⟨-,h0⟩|⟨rg,rc',cur,he, -⟩
    ·exact absurd h0 (by show ¬ 2=0;omega)
    ·rw [hv] at he
     have hra:ra=some ⟨rg,0,none⟩:=by cases he;rfl
     subst hra
     rcases hw.2 with h0|⟨b,o,hbo, -,hc⟩
     ·exact absurd h0 (by show ¬ 2=0;omega)
     ·cases hbo
      refine ⟨rg,rc,hv,?_,?_,fun e=>HJ.out.rb.2 (by rw [hv,<- e];rfl)⟩
      ·exact (hc 0 (by show 0 < 2;omega)).1
      ·exact (hc 1 (by show 1 < 2;omega)).1
   obtain ⟨rg,rc,rfl,q0,q1,hrg⟩:=HFIN.out
   have x0:=HJ.out.box
   have HO:Hid (Own wb w.heap.size (.slice (some ⟨g,0,none⟩) (joinL l1 l2).length cp) (joinL l1 l2)):=HJ.out.own
   have HBB:Hid (Below w.heap.size w wb):=HJ.out.bel
   have HQ:Hid (wb.cell? ⟨rg,0,none⟩=some (.int .i64 ((l1.length:Int) - 1))/\wb.cell? ⟨rg,1,none⟩=some (.int .i64 ((l1.length:Int)+(l2.length:Int) - 1))/\rg≠g):=⟨q0,q1,hrg⟩
   have x1:wb.cell? ⟨bx,0,none⟩=some (.slice (some ⟨g,0,none⟩) (joinL l1 l2).length cp):=x0
   clear x0 q0 q1 hrg HFIN HJ HTT HAL0
   go_wp2
   go_ret2
   exact ⟨⟨g,cp,rg,⟨rc,rfl⟩,HO.out,HQ.out.1,HQ.out.2.1,HQ.out.2.2⟩,HBB.out⟩
end Pb11
end Go.Proofs.YthanhcobfehmnaaGreat
