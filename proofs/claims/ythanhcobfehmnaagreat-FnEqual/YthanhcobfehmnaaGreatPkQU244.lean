import Derived.Test.YthanhcobfehmnaaGreatPkQU243
namespace Go.Proofs.YthanhcobfehmnaaGreat
set_option maxRecDepth 100000
set_option maxHeartbeats 8000000
set_option linter.unusedVariables false
namespace Pg12
open Go.RowKit
open Nd0 Pl1 Tm0 Tm1 Tm2 Tm4 Tm5 Tm6 Tm8 Tm9 Tm10 Ap0 Pg1 Rw0 Rw1
open Ws1 (ret_int ret_bool)
theorem zerosW:(#[.int .i64 0,.int .i64 0,.int .i64 0,.int .i64 0,.int .i64 0,.int .i64 0,.int .i64 0,.int .i64 0]:Array Value)=Array.replicate 8 (.int .i64 0):=rfl
theorem wd_rep (n i:Nat):wd (List.replicate n 0) (i:Int)=0:=by
 have:=upto_zero n (i:Int)
 omega
theorem reach_step {l:List Nd} {y j:Nat} (hf:flag (reachL l) y=true) (h:(reachTo l y).length=j):(reachTo l (y+1)).length=j+1:=by
 rw [reachTo_succ,hf,if_pos rfl,List.length_append,h];rfl
theorem below_drewN {B:Nat} {u w:World} (h:Below B u w) (n:Nat):Below B u (w.drewN n):=⟨h.os,h.tape,h.output,h.size,h.block⟩
def Tells (p:Prop) (l:List Nd) (e:Ending):Prop:=∃ b,e=.returned (.bool b)/\(b=true->p)/\(b=false->sentB l=false)
theorem told_no {p:Prop} {l:List Nd} (h:sentB l=false):Tells p l (.returned (.bool false)):=⟨false,rfl,fun h=>(by cases h),fun _=>h⟩
theorem told_yes {p:Prop} {l:List Nd} (h:p):Tells p l (.returned (.bool true)):=⟨true,rfl,fun _=>h,fun h=>(by cases h)⟩
theorem iBound (w:World) (a a2:Option Addr) (l:List Nd) (c c2:Nat) (hN:Nodes w a l) (hT:termOk l=true) (hI:Ints w a2 (reachTo l l.length)) :
 Calls Tryz.prog 109 #[.slice a l.length c,.slice a2 (reachTo l l.length).length c2] w fun e w'=>Tells (∃ ws,quantsTo l l.length=some ws/\Wid l ws) l e/\Below w.heap.size w w':=by
 have HN:Hid (Nodes w a l):=hN
 have HT:Hid (termOk l=true):=hT
 have HI:Hid (Ints w a2 (reachTo l l.length)):=hI
 obtain ⟨hl1,hl2⟩:=term_len hT
 have hRl:=reachTo_length l l.length
 clear hN hT hI
 obtain ⟨g,hg⟩:∃ g:Nat,g=w.heap.size:=⟨_,rfl⟩
 have HG:Hid (g=w.heap.size):=hg
 have HR0:Hid (Row (w.alloc (.cells #[.int .i64 0,.int .i64 0,.int .i64 0,.int .i64 0,.int .i64 0,.int .i64 0,.int .i64 0,.int .i64 0] 47)) g 8 (fun i=>.int .i64 (wd (List.replicate 8 0) (i:Int)))):=by
  rw [hg]
  refine Row.new _ _ _ _ _ (fun i hi=>?_)
  rw [zerosW,Array.getElem?_replicate,if_pos hi,wd_rep]
 have HB0:Hid (Below w.heap.size w (w.alloc (.cells #[.int .i64 0,.int .i64 0,.int .i64 0,.int .i64 0,.int .i64 0,.int .i64 0,.int .i64 0,.int .i64 0] 47))):=(Below.refl _ _).alloc (Nat.le_refl _) _
 go_enter Tryz.func109,Tryz.ntmps109
 go_wp2
 rw [<- hg]
 clear hg
 generalize w.alloc (.cells #[.int .i64 0,.int .i64 0,.int .i64 0,.int .i64 0,.int .i64 0,.int .i64 0,.int .i64 0,.int .i64 0] 47)=wa at HR0 HB0 ⊢
 go_loopw [13] (fun q wr=>∃ j:Nat,j<=(reachTo l l.length).length/\q=.int .i64 j/\∃ (x:Nat) (ws:List Int),(reachTo l x).length=j/\quantsTo l x=some ws/\Row wr g 8 (fun i=>.int .i64 (wd ws (i:Int)))/\Below w.heap.size w wr) (fun q _=>(reachTo l l.length).length - (intOf q).toNat)
 case atStart=>exact ⟨0,Nat.zero_le _,rfl,0,_,rfl,rfl,HR0.out,HB0.out⟩
 case round =>
  clear HR0 HB0
  obtain ⟨j,hj,rfl,x,ws,hxj,hq,hr,hb⟩:=hrel
  have HXJ:Hid ((reachTo l x).length=j):=hxj
  have HQ:Hid (quantsTo l x=some ws):=hq
  have HR:Hid (Row wr g 8 (fun i=>.int .i64 (wd ws (i:Int)))):=hr
  have HB:Hid (Below w.heap.size w wr):=hb
  have HWL:Hid (ws.length=8):=quants_len hq
  clear hxj hq hr hb
  have hgl:g < wr.heap.size:=HR.out.lt (by omega)
  by_cases hlt:j < (reachTo l l.length).length
  ·have hjz:(j:Int) < ((reachTo l l.length).length:Int):=by omega
   obtain ⟨y,hy,hyl,hyf,hyj⟩:=reach_at l l.length j hlt
   rcases (HI.out.below HB.out).2 with h0|⟨pb,po,rfl,hpc⟩
   ·omega
   have q0:=hpc j hlt
   rw [hy] at q0
   clear hpc hy
   rcases (HN.out.below HB.out).2 with h0|⟨xb,xo,rfl,hc⟩
   ·omega
   have hyz:(y:Int) < (l.length:Int):=by omega
   obtain ⟨p0,p1,p2,p3,p4,p5⟩:=hc y hyl
   rw [nth_get hyl] at p0 p1 p2 p3 p4 p5
   clear hc
   have HYF:Hid (flag (reachL l) y=true):=hyf
   have HYJ:Hid ((reachTo l y).length=j):=hyj
   have HQY:Hid (quantsTo l y=some ws):=(quants_same l (by rw [HXJ.out,hyj])).trans HQ.out
   have HRS:Hid ((reachTo l (y+1)).length=j+1):=reach_step hyf hyj
   have HQS2:Hid (quantsTo l (y+1)=if quant (nth l y).op then (if wd ws (nth l y).k=0 then some (ws.set (nth l y).k.toNat (nth l y).b) else none) else some ws):=by
    show _=_
    rw [quants_succ HQY.out];unfold qStep;rw [hyf,Bool.true_and]
   have HSV:Hid ((nth l y).op=1\/quant (nth l y).op=true->0<=(nth l y).k/\(nth l y).k<=7):=shape_var (term_node HT.out hyl)
   clear hyf hyj
   generalize nth l y=n at p0 p1 p2 p3 p4 p5 HQS2 HSV
   cases hqu:quant n.op
   ·have HQ2:Hid (quantsTo l (y+1)=some ws):=by
     show _=_
     rw [HQS2.out,hqu];rfl
    go_wp2_with (go_at_call 86;refine (iQuant _ _).mono ?_;rintro e w' ⟨rfl,rfl⟩;rw [hqu])
    go_roundw
    case rel=>exact ⟨j+1,by omega,by go_num,y+1,ws,HRS.out,HQ2.out,HR.out.below ((Below.refl _ _).alloc (Nat.le_refl _) _),HB.out.alloc HB.out.size _⟩
    case measure=>simp [intOf];omega
   ·obtain ⟨hk0,hk7⟩:=HSV.out (.inr hqu)
    obtain ⟨kk,hkk⟩:=Int.eq_ofNat_of_zero_le hk0
    rw [hkk] at p2 HQS2 hk7
    have hz8:(kk:Int) < 8:=by omega
    obtain ⟨c1,c3⟩:=HR.out kk (by omega)
    try dsimp only at c1
    clear hkk hk0 HSV
    by_cases hz:wd ws (kk:Int)=0
    ·have HQ2:Hid (quantsTo l (y+1)=some (ws.set kk n.b)):=by
      show _=_
      rw [HQS2.out,hqu,if_pos rfl,if_pos hz];rfl
     rw [hz] at c1
     go_wp2_with (go_at_call 86;refine (iQuant _ _).mono ?_;rintro e w' ⟨rfl,rfl⟩;rw [hqu])
     go_roundw
     case rel =>
      have hB2:Below w.heap.size w (World.setCell _ ⟨g,kk,none⟩ (.int .i64 n.b)):=HB.out.trans (((Kept.refl (fun b=>b=g) _).setCell (p:=⟨g,kk,none⟩) rfl _).below (fun b (hb:b=g)=>by have:=HG.out;omega) HB.out.size)
      exact ⟨j+1,by omega,by go_num,y+1,ws.set kk n.b,HRS.out,HQ2.out,(row_set_int HR.out HWL.out (by omega) _).below ((Below.refl _ _).alloc (Nat.le_refl _) _),hB2.alloc hB2.size _⟩
     case measure=>simp [intOf];omega
    ·have HF:Hid (sentB l=false):=sent_quants (k:=y+1) (by omega) (by rw [HQS2.out,hqu,if_pos rfl,if_neg hz])
     have hzb:(wd ws (kk:Int) != 0)=true:=by simpa using hz
     generalize wd ws (kk:Int)=z at c1 hz hzb
     go_wp2_with (go_at_call 86;refine (iQuant _ _).mono ?_;rintro e w' ⟨rfl,rfl⟩;rw [hqu])
     go_ret
     exact ⟨told_no HF.out,HB.out.alloc HB.out.size _⟩
  ·have hjz:¬ (j:Int) < ((reachTo l l.length).length:Int):=by omega
   have HQE:Hid (quantsTo l l.length=some ws):=(quants_same l (by rw [HXJ.out];omega)).trans HQ.out
   obtain ⟨w9,rfl⟩:∃ w9:World,w9=wr:=⟨_,rfl⟩
   go_wp2
   go_loopw [38] (fun q wr=>∃ j:Nat,j<=(reachTo l l.length).length/\q=.int .i64 j/\(∀ i,i < l.length->flag (reachL l) i=true->(reachTo l i).length < j->(nth l i).op=1->(nth l i).w=wd ws (nth l i).k)/\∃ m,wr=w9.drewN m) (fun q _=>(reachTo l l.length).length - (intOf q).toNat)
   case atStart=>exact ⟨0,Nat.zero_le _,rfl,fun i _ _ h=>by omega,0,rfl⟩
   case round =>
    obtain ⟨j2,hj2,rfl,hall,m,rfl⟩:=hrel
    have HALL:Hid (∀ i,i < l.length->flag (reachL l) i=true->(reachTo l i).length < j2->(nth l i).op=1->(nth l i).w=wd ws (nth l i).k):=hall
    clear hall
    by_cases hlt2:j2 < (reachTo l l.length).length
    ·have hjz2:(j2:Int) < ((reachTo l l.length).length:Int):=by omega
     obtain ⟨y,hy,hyl,hyf,hyj⟩:=reach_at l l.length j2 hlt2
     rcases (HI.out.below HB.out).2 with h0|⟨pb,po,rfl,hpc⟩
     ·omega
     have q0:=hpc j2 hlt2
     rw [hy] at q0
     clear hpc hy
     rcases (HN.out.below HB.out).2 with h0|⟨xb,xo,rfl,hc⟩
     ·omega
     have hyz:(y:Int) < (l.length:Int):=by omega
     obtain ⟨p0,p1,p2,p3,p4,p5⟩:=hc y hyl
     rw [nth_get hyl] at p0 p1 p2 p3 p4 p5
     clear hc p3 p4 p5
     have HSV:Hid ((nth l y).op=1\/quant (nth l y).op=true->0<=(nth l y).k/\(nth l y).k<=7):=shape_var (term_node HT.out hyl)
     have HNX:Hid (((nth l y).op=1->(nth l y).w=wd ws (nth l y).k)->∀ i,i < l.length->flag (reachL l) i=true->(reachTo l i).length < j2+1->(nth l i).op=1->(nth l i).w=wd ws (nth l i).k):=by
      show _->_
      intro h i hi hf hij
      by_cases e:(reachTo l i).length=j2
      ·have:i=y:=reachTo_inj l hf hyf (by rw [e,hyj])
       subst this;exact h
      ·exact HALL.out i hi hf (by omega)
     have HBD:Hid ((nth l y).op=1->(nth l y).w≠wd ws (nth l y).k->sentB l=false):=fun h1 h2=>sent_wid HQE.out hyl hyf h1 h2
     clear hyf hyj
     generalize nth l y=n at p0 p1 p2 HSV HNX HBD
     cases h1:(n.op==1)
     ·have HNX2:=HNX.out (fun h=>by rw [h] at h1;simp at h1)
      have HNX3:Hid (∀ i,i < l.length->flag (reachL l) i=true->(reachTo l i).length < j2+1->(nth l i).op=1->(nth l i).w=wd ws (nth l i).k):=HNX2
      clear HNX2
      go_wp2
      refine wp_region_quiet_lit (by kernel_rfl) (by kernel_rfl) ?_
      repeat (first|go_big_quiet_step (fail)|quiet_step (fail))
      refine wpQuiet_nil ?_
      intro _ hw'
      obtain ⟨nq,hw''⟩:=hw'
      subst hw''
      go_wp2
      go_roundw
      case rel=>exact ⟨j2+1,by omega,by go_num,HNX3.out,_,rfl⟩
      case measure=>simp [intOf];omega
     ·have h1':n.op=1:=by simpa using h1
      obtain ⟨hk0,hk7⟩:=HSV.out (.inl h1')
      obtain ⟨kk,hkk⟩:=Int.eq_ofNat_of_zero_le hk0
      rw [hkk] at p2 HNX HBD hk7
      have hz8:(kk:Int) < 8:=by omega
      have c5:=(HR.out kk (by omega)).1
      try dsimp only at c5
      have HBD2:Hid (n.w≠wd ws (kk:Int)->sentB l=false):=fun h=>HBD.out h1' h
      clear hkk hk0 HSV h1' HBD
      cases hwd:(n.w != wd ws (kk:Int))
      ·have HNX3:Hid (∀ i,i < l.length->flag (reachL l) i=true->(reachTo l i).length < j2+1->(nth l i).op=1->(nth l i).w=wd ws (nth l i).k):=HNX.out (fun _=>by simpa using hwd)
       clear HNX HBD2
       generalize wd ws (kk:Int)=z at c5 hwd
       go_wp2
       refine wp_region_quiet_lit (by kernel_rfl) (by kernel_rfl) ?_
       repeat (first|go_big_quiet_step (fail)|quiet_step (fail))
       refine wpQuiet_nil ?_
       intro _ hw'
       obtain ⟨nq,hw''⟩:=hw'
       subst hw''
       go_wp2
       go_roundw
       case rel=>exact ⟨j2+1,by omega,by go_num,HNX3.out,_,rfl⟩
       case measure=>simp [intOf];omega
      ·have HF:Hid (sentB l=false):=HBD2.out (by simpa using hwd)
       clear HNX HBD2
       generalize wd ws (kk:Int)=z at c5 hwd
       go_wp2
       refine wp_region_quiet_lit (by kernel_rfl) (by kernel_rfl) ?_
       repeat (first|go_big_quiet_step (fail)|quiet_step (fail))
       refine wpQuiet_nil ?_
       intro _ hw'
       obtain ⟨nq,hw''⟩:=hw'
       subst hw''
       go_wp2
       go_ret
       exact ⟨told_no HF.out,below_drewN (below_drewN HB.out _) _⟩
    ·have hjz2:¬ (j2:Int) < ((reachTo l l.length).length:Int):=by omega
     have HW:Hid (Wid l ws):=fun i hi hf ho=>HALL.out i hi hf (by have:=reachTo_lt l hi hf;omega) ho
     go_wp2
     go_ret
     exact ⟨told_yes ⟨ws,HQE.out,HW.out⟩,below_drewN HB.out _⟩
end Pg12
namespace Pg13
open Go.RowKit
open Nd0 Pl1 Tm0 Tm1 Tm2 Tm4 Tm5 Tm6 Tm8 Tm9 Tm10 Ap0 Pg1 Pg2 Rw0 Rw1 Pg12
open Pg7 (zeros zeros_get)
open Ws1 (ret_int ret_bool)
theorem addUses_snoc (us ps:List Int) (p:Int):addUses us (ps++[p])=(addUses us ps).set p.toNat (wd (addUses us ps) p+1):=by
 unfold addUses;rw [List.foldl_append];rfl
theorem addUses_app (us ps qs:List Int):addUses us (ps++qs)=addUses (addUses us ps) qs:=by
 unfold addUses;rw [List.foldl_append]
theorem addUses_pos (ps:List Int):∀ us:List Int,(∀ q:Nat,0<=wd us (q:Int))->∀ q:Nat,0<=wd (addUses us ps) (q:Int):=fun us h q=>Int.le_trans (h q) (addUses_le ps us q)
theorem usesF_pos (l:List Nd) (k q:Nat):0<=wd (usesF l k) (q:Int):=by
 refine Int.le_trans ?_ (usesF_le l (Nat.zero_le k) q)
 show 0<=wd (List.replicate l.length 0) _
 rw [wd_rep];exact Int.le_refl _
def Tak (l:List Nd) (us:List Int) (T:Nat->Bool):Prop:=∀ p,p < l.length->flag (reachL l) p=true->flag (holdTo l l.length) p=true->T p=decide (1<=wd us (p:Int))/\wd us (p:Int)<=1
theorem tak_free {l:List Nd} {us:List Int} {T:Nat->Bool} (h:Tak l us T) (hul:us.length=l.length) {jy:Nat} (hj:jy < l.length) (hh:flag (holdTo l l.length) jy=false):Tak l (us.set jy (wd us (jy:Int)+1)) T:=by
 intro p hp hr hf
 have hne:¬ p=jy:=fun e=>by subst e;rw [hh] at hf;cases hf
 rw [wd_set (by omega),if_neg hne]
 exact h p hp hr hf
theorem tak_more {l:List Nd} {us:List Int} {T:Nat->Bool} (h:Tak l us T) (hul:us.length=l.length) (hpos:∀ q:Nat,0<=wd us (q:Int)) {jy:Nat} (hj:jy < l.length) (hr0:flag (reachL l) jy=true) (hh:flag (holdTo l l.length) jy=true) (ht:T jy=false) :
 Tak l (us.set jy (wd us (jy:Int)+1)) (fun i=>if i=jy then true else T i):=by
 intro p hp hr hf
 rw [wd_set (by omega)]
 by_cases e:p=jy
 ·subst e
  rw [if_pos rfl]
  have h1:=(h p hp hr hf).1
  rw [ht] at h1
  have h2:=hpos p
  have h3:¬ 1<=wd us (p:Int):=by simpa using h1.symm
  refine ⟨?_,by omega⟩
  dsimp only
  rw [if_pos rfl]
  symm
  rw [decide_eq_true_eq];omega
 ·dsimp only
  rw [if_neg e,if_neg e];exact h p hp hr hf
theorem tak_twice {l:List Nd} {us:List Int} {T:Nat->Bool} (h:Tak l us T) {jy:Nat} (hj:jy < l.length) (hr0:flag (reachL l) jy=true) (hh:flag (holdTo l l.length) jy=true) (ht:T jy=true):1<=wd us (jy:Int):=by
 have h1:=(h jy hj hr0 hh).1
 rw [ht] at h1
 simpa using h1.symm
theorem iMovable (w:World) (a a2:Option Addr) (l:List Nd) (c c2:Nat) (hN:Nodes w a l) (hT:termOk l=true) (hI:Ints w a2 (reachTo l l.length)) :
 Calls Tryz.prog 110 #[.slice a l.length c,.slice a2 (reachTo l l.length).length c2] w fun e w'=>Tells (Mov l) l e/\Below w.heap.size w w':=by
 have HN:Hid (Nodes w a l):=hN
 have HT:Hid (termOk l=true):=hT
 have HI:Hid (Ints w a2 (reachTo l l.length)):=hI
 have HD:Hid (Down l):=down_of hT
 obtain ⟨hl1,hl2⟩:=term_len hT
 have hRl:=reachTo_length l l.length
 clear hN hT hI
 obtain ⟨wb,hwb⟩:∃ wb:World,wb=(w.alloc (.cells Tryz.zeroCells48 48)).alloc (.cells Tryz.zeroCells48 48):=⟨_,rfl⟩
 obtain ⟨gl,hgl⟩:∃ gl:Nat,gl=w.heap.size:=⟨_,rfl⟩
 obtain ⟨gt,hgt⟩:∃ gt:Nat,gt=w.heap.size+1:=⟨_,rfl⟩
 have HG:Hid (gl=w.heap.size/\gt=gl+1):=⟨hgl,by omega⟩
 have HL0:Hid (Row wb gl 80 (fun i=>.bool ((fun _=>false) i))):=by
  rw [hwb,hgl]
  exact (Row.new _ _ _ _ _ (fun i hi=>zeros_get i hi):Row (w.alloc (.cells Tryz.zeroCells48 48)) w.heap.size 80 (fun _=>.bool false)).below ((Below.refl _ _).alloc (Nat.le_refl _) _)
 have HT0:Hid (Row wb gt 80 (fun i=>.bool ((fun _=>false) i))):=by
  rw [hwb,hgt]
  have h9:Row ((w.alloc (.cells Tryz.zeroCells48 48)).alloc (.cells Tryz.zeroCells48 48)) (w.alloc (.cells Tryz.zeroCells48 48)).heap.size 80 (fun _=>.bool false):=Row.new _ _ _ _ _ (fun i hi=>zeros_get i hi)
  rw [show (w.alloc (.cells Tryz.zeroCells48 48)).heap.size=w.heap.size+1 by simp] at h9
  exact h9
 have HB0:Hid (Below w.heap.size w wb):=by
  rw [hwb];exact ((Below.refl _ _).alloc (Nat.le_refl _) _).alloc (by simp) _
 go_enter Tryz.func110,Tryz.ntmps110
 go_wp2
 rw [<- hwb,<- hgt,<- hgl]
 clear hwb hgl hgt
 go_loopw [13] (fun q wr=>∃ j:Nat,j<=(reachTo l l.length).length/\q=.int .i64 j/\∃ (x:Nat) (L T:Nat->Bool),x<=l.length/\(reachTo l x).length=j/\Row wr gl 80 (fun i=>.bool (L i))/\Row wr gt 80 (fun i=>.bool (T i))/\(∀ i,i < l.length->flag (reachL l) i=true->(reachTo l i).length < j->L i=flag (holdTo l l.length) i)/\Tak l (usesF l x) T/\(∀ i,i < l.length->flag (reachL l) i=true->(reachTo l i).length < j->flag (holdTo l l.length) i=true->outer (nth l i).op=true)/\Below w.heap.size w wr) (fun q _=>(reachTo l l.length).length - (intOf q).toNat)
 case atStart =>
  refine ⟨0,Nat.zero_le _,rfl,0,_,_,Nat.zero_le _,rfl,HL0.out,HT0.out,fun i _ _ h=>by omega,fun p _ _ _=>?_,fun i _ _ h=>by omega,HB0.out⟩
  have:wd (usesF l 0) (p:Int)=0:=wd_rep _ _
  rw [this];exact ⟨rfl,by omega⟩
 case round =>
  clear HL0 HT0 HB0
  obtain ⟨j,hj,rfl,x,L,T,hxl,hxj,hrl,hrt,hL,hTk,hO,hb⟩:=hrel
  have HXJ:Hid ((reachTo l x).length=j):=hxj
  have HXL:Hid (x<=l.length):=hxl
  have HRL:Hid (Row wr gl 80 (fun i=>.bool (L i))):=hrl
  have HRT:Hid (Row wr gt 80 (fun i=>.bool (T i))):=hrt
  have HLL:Hid (∀ i,i < l.length->flag (reachL l) i=true->(reachTo l i).length < j->L i=flag (holdTo l l.length) i):=hL
  have HTK:Hid (Tak l (usesF l x) T):=hTk
  have HO:Hid (∀ i,i < l.length->flag (reachL l) i=true->(reachTo l i).length < j->flag (holdTo l l.length) i=true->outer (nth l i).op=true):=hO
  have HB:Hid (Below w.heap.size w wr):=hb
  clear hxl hxj hrl hrt hL hTk hO hb
  by_cases hlt:j < (reachTo l l.length).length
  ·have hjz:(j:Int) < ((reachTo l l.length).length:Int):=by omega
   obtain ⟨y,hy,hyl,hyf,hyj⟩:=reach_at l l.length j hlt
   rcases (HI.out.below HB.out).2 with h0|⟨pb,po,rfl,hpc⟩
   ·omega
   have q0:=hpc j hlt
   rw [hy] at q0
   clear hpc hy
   rcases (HN.out.below HB.out).2 with h0|⟨xb,xo,rfl,hc⟩
   ·omega
   have hyz:(y:Int) < (l.length:Int):=by omega
   have hy80:(y:Int) < 80:=by omega
   obtain ⟨p0,p1,p2,p3,p4,p5⟩:=hc y hyl
   rw [nth_get hyl] at p0 p1 p2 p3 p4 p5
   have hxw:xb < w.heap.size:=by
    rcases HN.out.2 with h0|⟨b',o',he,hc'⟩
    ·omega
    ·cases he;exact (hc' 0 (by omega)).lt
   clear hc
   have HYF:Hid (flag (reachL l) y=true):=hyf
   have HYJ:Hid ((reachTo l y).length=j):=hyj
   have HUY:Hid (usesF l y=usesF l x):=usesF_same l (by rw [HXJ.out,hyj])
   have HRS:Hid ((reachTo l (y+1)).length=j+1):=reach_step hyf hyj
   have HUN:Hid (usesF l (y+1)=addUses (usesF l x) (parts (nth l y))):=by
    show (if flag (reachL l) y then _ else _)=_
    rw [hyf,if_pos rfl,HUY.out]
   have HPD:Hid (∀ p∈parts (nth l y),0<=p/\p < (y:Int)/\flag (reachL l) p.toNat=true/\(reachTo l p.toNat).length < j):=by
    show ∀ _,_
    intro p hp
    have h1:=HD.out y hyl p hp
    have h2:=reach_closed HD.out hyl hyf hp
    have h3:=reachTo_lt l (a:=p.toNat) (b:=y) (by omega) h2
    exact ⟨h1.1,h1.2,h2,by omega⟩
   have HHO:Hid (flag (holdTo l l.length) y=(quant (nth l y).op||below (holdTo l l.length) (parts (nth l y)))):=hold_at HD.out hyl
   have HBO:Hid (flag (holdTo l l.length) y=true->outer (nth l y).op=false->sentB l=false):=fun h1 h2=>sent_outer hyl hyf h1 h2
   have HEY:Hid (∀ b,(flag (holdTo l l.length) y=true->outer (nth l y).op=true)->b=(outer (nth l y).op)->∀ i,i < l.length->flag (reachL l) i=true->(reachTo l i).length < j+1->flag (holdTo l l.length) i=true->outer (nth l i).op=true):=by
    show ∀ _,_
    intro _ h _ i hi hf hij hh
    by_cases e:(reachTo l i).length=j
    ·have:i=y:=reachTo_inj l hf hyf (by rw [e,hyj])
     subst this;exact h hh
    ·exact HO.out i hi hf (by omega) hh
   clear hyf hyj
   generalize hn:nth l y=n at p0 p1 p2 p3 p4 p5 HUN HPD HHO HBO HEY
   have HNY:Hid (nth l y=n):=hn
   clear hn
   obtain ⟨wo,rfl⟩:∃ wo:World,wo=wr:=⟨_,rfl⟩
   obtain ⟨d1,d2⟩:=HRL.out y (by omega)
   have hxn1:¬ gl=xb:=by have:=HG.out;omega
   have hxn2:¬ xb=gl:=by have:=HG.out;omega
   have HRL2:Hid (Row (wo.setCell ⟨gl,y,none⟩ (.bool (quant n.op))) gl 80 (fun i=>.bool ((fun i=>if i=y then quant n.op else L i) i))):=by
    refine (HRL.out.set (by omega) _).congr (fun i hi=>?_)
    by_cases e:i=y
    ·simp [e]
    ·simp [e]
   have hKS:Kept (fun b=>b=gl) wo (wo.setCell ⟨gl,y,none⟩ (.bool (quant n.op))):=(Kept.refl (fun b=>b=gl) wo).setCell (p:=⟨gl,y,none⟩) rfl _
   have HRT2:Hid (Row (wo.setCell ⟨gl,y,none⟩ (.bool (quant n.op))) gt 80 (fun i=>.bool (T i))):=HRT.out.kept hKS (fun e=>by have:=HG.out;omega)
   have HB2:Hid (Below w.heap.size w (wo.setCell ⟨gl,y,none⟩ (.bool (quant n.op)))):=HB.out.trans (hKS.below (fun b (hb:b=gl)=>by have:=HG.out;omega) HB.out.size)
   clear hKS
   go_wp2_with (go_at_call 86;refine (iQuant _ _).mono ?_;rintro e w' ⟨rfl,rfl⟩)
   generalize World.setCell _ ⟨gl,y,none⟩ (.bool (quant n.op))=ws at HRL2 HRT2 HB2 ⊢
   refine (iParts n _).mono ?_
   rintro e w2 ⟨⟨pa,pc,rfl,hpi⟩,hb2⟩
   have HP:Hid (IntsIn w2 ws.heap.size w2.heap.size pa (parts n)):=hpi.within
   have HRL3:Hid (Row w2 gl 80 (fun i=>.bool ((fun i=>if i=y then quant n.op else L i) i))):=HRL2.out.below hb2
   have HRT3:Hid (Row w2 gt 80 (fun i=>.bool (T i))):=HRT2.out.below hb2
   have HB3:Hid (Below w.heap.size w w2):=HB2.out.trans (hb2.mono HB2.out.size)
   have hgs:gl < ws.heap.size/\gt < ws.heap.size:=⟨HRL2.out.lt (by omega),HRT2.out.lt (by omega)⟩
   have HGS:Hid (gl < ws.heap.size/\gt < ws.heap.size):=hgs
   clear hpi hb2 p0 p1 p2 p3 p4 p5 d1 d2 hgs q0
   have hpl:=parts_le n
   go_wp2_with fail
   go_loopw [31] (fun q wq=>∃ m:Nat,m<=(parts n).length/\q=.int .i64 m/\∃ (L2 T2:Nat->Bool),Row wq gl 80 (fun i=>.bool (L2 i))/\Row wq gt 80 (fun i=>.bool (T2 i))/\(∀ i,i≠y->L2 i=L i)/\L2 y=(quant n.op||below (holdTo l l.length) ((parts n).take m))/\Tak l (addUses (usesF l x) ((parts n).take m)) T2/\(below (holdTo l l.length) ((parts n).take m)=true->outer n.op=true)/\Kept (fun b=>b=gl\/b=gt) w2 wq) (fun q _=>(parts n).length - (intOf q).toNat)
   case atStart=>exact ⟨0,Nat.zero_le _,rfl,_,_,HRL3.out,HRT3.out,fun i hi=>if_neg hi,by simp [below],HTK.out,fun h=>by simp [below] at h,Kept.refl _ _⟩
   case round =>
    clear HRL3 HRT3
    obtain ⟨m,hm,rfl,L2,T2,hrl,hrt,hLo,hLy,hTk,hOu,hkq⟩:=hrel
    have HRL4:Hid (Row wr gl 80 (fun i=>.bool (L2 i))):=hrl
    have HRT4:Hid (Row wr gt 80 (fun i=>.bool (T2 i))):=hrt
    have HLO:Hid (∀ i,i≠y->L2 i=L i):=hLo
    have HLY:Hid (L2 y=(quant n.op||below (holdTo l l.length) ((parts n).take m))):=hLy
    have HTK2:Hid (Tak l (addUses (usesF l x) ((parts n).take m)) T2):=hTk
    have HOU:Hid (below (holdTo l l.length) ((parts n).take m)=true->outer n.op=true):=hOu
    have HKQ:Hid (Kept (fun b=>b=gl\/b=gt) w2 wr):=hkq
    clear hrl hrt hLo hLy hTk hOu hkq
    have HBQ:Hid (Below w.heap.size w wr):=HB3.out.trans (HKQ.out.below (fun b (hb:b=gl\/b=gt)=>by have:=HG.out;omega) HB3.out.size)
    by_cases hlt5:m < (parts n).length
    ·have hmz:(m:Int) < ((parts n).length:Int):=by omega
     rcases (HP.out.kept HKQ.out (fun b h1 h2 e=>by have:=HGS.out;omega)).2 with h0|⟨pb',po',rfl,hpB,hpU,hpc⟩
     ·omega
     have q1:=(hpc m hlt5).1
     obtain ⟨hy0,hy1,hy2,hy3⟩:=HPD.out _ (List.getElem_mem hlt5)
     have HBT:Hid (below (holdTo l l.length) ((parts n).take (m+1))=(below (holdTo l l.length) ((parts n).take m)||flag (holdTo l l.length) (parts n)[m].toNat)):=below_take _ _ _ hlt5
     have HUT:Hid (addUses (usesF l x) ((parts n).take (m+1))=(addUses (usesF l x) ((parts n).take m)).set (parts n)[m].toNat (wd (addUses (usesF l x) ((parts n).take m)) (parts n)[m]+1)):=by
      show _=_
      rw [List.take_succ_eq_append_getElem hlt5,addUses_snoc]
     have HUA:Hid (∀ q:Nat,wd (addUses (usesF l x) ((parts n).take (m+1))) (q:Int)<=wd (usesF l l.length) (q:Int)):=by
      show ∀ _,_
      intro q
      have e1:usesF l (y+1)=addUses (addUses (usesF l x) ((parts n).take (m+1))) ((parts n).drop (m+1)):=by
       rw [HUN.out,<- addUses_app,List.take_append_drop]
      refine Int.le_trans (addUses_le ((parts n).drop (m+1)) _ q) ?_
      rw [<- e1]
      exact usesF_le l (by omega) q
     have HBA:Hid (flag (holdTo l l.length) (parts n)[m].toNat=true->flag (holdTo l l.length) y=true):=by
      show _->_
      intro h
      rw [HHO.out,Bool.or_eq_true]
      refine .inr ?_
      unfold below
      rw [List.any_eq_true]
      exact ⟨_,List.getElem_mem hlt5,h⟩
     clear hpc hpB hpU
     generalize (parts n)[m]=yy at q1 hy0 hy1 hy2 hy3 HBT HUT HBA
     obtain ⟨jy,rfl⟩:=Int.eq_ofNat_of_zero_le hy0
     rw [Int.toNat_natCast] at hy2 hy3 HBT HUT HBA
     have hjl:jy < l.length:=by omega
     have hne:jy≠y:=by omega
     have hj80:(jy:Int) < 80:=by omega
     have HY2:Hid (flag (reachL l) jy=true):=hy2
     obtain ⟨d1,d2⟩:=HRL4.out jy (by omega)
     try dsimp only at d1
     have hLj:L2 jy=flag (holdTo l l.length) jy:=(HLO.out jy hne).trans (HLL.out jy hjl hy2 hy3)
     rw [hLj] at d1
     have HUL:Hid ((addUses (usesF l x) ((parts n).take m)).length=l.length):=by
      show _=_
      rw [addUses_length,usesF_length]
     clear hy2 hy3 hLj
     cases hh:flag (holdTo l l.length) jy
     ·rw [hh] at d1
      have HN1:Hid (L2 y=(quant n.op||below (holdTo l l.length) ((parts n).take (m+1)))):=by
       show _=_
       rw [HBT.out,hh,Bool.or_false];exact HLY.out
      have HN2:Hid (Tak l (addUses (usesF l x) ((parts n).take (m+1))) T2):=by
       rw [HUT.out];exact tak_free HTK2.out HUL.out hjl hh
      have HN3:Hid (below (holdTo l l.length) ((parts n).take (m+1))=true->outer n.op=true):=by
       rw [HBT.out,hh,Bool.or_false];exact HOU.out
      go_wp2
      go_roundw
      case rel=>exact ⟨m+1,by omega,by go_num,L2,T2,HRL4.out,HRT4.out,HLO.out,HN1.out,HN2.out,HN3.out,HKQ.out⟩
      case measure=>simp [intOf];omega
     ·rw [hh] at d1
      obtain ⟨e1,e2⟩:=HRT4.out jy (by omega)
      try dsimp only at e1
      cases ht:T2 jy
      ·rw [ht] at e1
       rcases (HN.out.below HBQ.out).2 with h0|⟨xb',xo',he,hc⟩
       ·omega
       cases he
       have p0:=(hc y hyl).c0
       rw [nth_get hyl,HNY.out] at p0
       clear hc
       cases hou:outer n.op
       ·have HF:Hid (sentB l=false):=HBO.out (HBA.out hh) hou
        go_wp2_with (go_at_call 125;refine (iOuter _ _).mono ?_;rintro e w' ⟨rfl,rfl⟩;rw [hou])
        go_ret
        exact ⟨told_no HF.out,HBQ.out⟩
       ·obtain ⟨f1,f2⟩:=HRL4.out y (by omega)
        try dsimp only at f1
        generalize L2 y=ly at f1
        have hgn1:¬ gt=gl:=by have:=HG.out;omega
        have hgn2:¬ gl=gt:=by have:=HG.out;omega
        have HM1:Hid (Row ((wr.setCell ⟨gt,jy,none⟩ (.bool true)).setCell ⟨gl,y,none⟩ (.bool true)) gl 80 (fun i=>.bool ((fun i=>if i=y then true else L2 i) i))):=by
         refine ((HRL4.out.kept ((Kept.refl (fun b=>b=gt) wr).setCell (p:=⟨gt,jy,none⟩) rfl (.bool true)) (fun e=>hgn2 e)).set (by omega) _).congr (fun i hi=>?_)
         by_cases e:i=y
         ·simp [e]
         ·simp [e]
        have HM2:Hid (Row ((wr.setCell ⟨gt,jy,none⟩ (.bool true)).setCell ⟨gl,y,none⟩ (.bool true)) gt 80 (fun i=>.bool ((fun i=>if i=jy then true else T2 i) i))):=by
         refine ((HRT4.out.set (by omega) _).congr (fun i hi=>?_)).kept ((Kept.refl (fun b=>b=gl) _).setCell (p:=⟨gl,y,none⟩) rfl (.bool true)) (fun e=>hgn1 e)
         by_cases e:i=jy
         ·simp [e]
         ·simp [e]
        have HM3:Hid (Kept (fun b=>b=gl\/b=gt) w2 ((wr.setCell ⟨gt,jy,none⟩ (.bool true)).setCell ⟨gl,y,none⟩ (.bool true))):=(HKQ.out.setCell (p:=⟨gt,jy,none⟩) (.inr rfl) _).setCell (p:=⟨gl,y,none⟩) (.inl rfl) _
        have HN1:Hid (true=(quant n.op||below (holdTo l l.length) ((parts n).take (m+1)))):=by
         show _=_
         rw [HBT.out,hh,Bool.or_true,Bool.or_true]
        have HN2:Hid (Tak l (addUses (usesF l x) ((parts n).take (m+1))) (fun i=>if i=jy then true else T2 i)):=by
         rw [HUT.out];exact tak_more HTK2.out HUL.out (addUses_pos _ _ (fun q=>usesF_pos l x q)) hjl HY2.out hh ht
        have HOU2:Hid (outer n.op=true):=hou
        go_wp2_with (go_at_call 125;refine (iOuter _ _).mono ?_;rintro e w' ⟨rfl,rfl⟩;rw [hou])
        go_roundw
        case rel=>exact ⟨m+1,by omega,by go_num,_,_,HM1.out,HM2.out,fun i hi=>by rw [if_neg hi];exact HLO.out i hi,by rw [if_pos rfl];exact HN1.out,HN2.out,fun _=>(by first|exact HOU2.out|trivial),HM3.out⟩
        case measure=>simp [intOf];omega
      ·rw [ht] at e1
       have HF:Hid (sentB l=false):=by
        have h1:=tak_twice HTK2.out hjl HY2.out hh ht
        have h2:=HUA.out jy
        rw [HUT.out,wd_set (by rw [HUL.out];exact hjl),if_pos rfl] at h2
        exact sent_used hjl HY2.out hh (by omega)
       go_wp2
       go_ret
       exact ⟨told_no HF.out,HBQ.out⟩
    ·have hmz:¬ (m:Int) < ((parts n).length:Int):=by omega
     have HTE:Hid ((parts n).take m=parts n):=List.take_of_length_le (by omega)
     have HE1:Hid (∀ i,i < l.length->flag (reachL l) i=true->(reachTo l i).length < j+1->L2 i=flag (holdTo l l.length) i):=by
      show ∀ _,_
      intro i hi hf hij
      by_cases e:i=y
      ·subst e
       rw [HLY.out,HTE.out,HHO.out]
      ·rw [HLO.out i e]
       refine HLL.out i hi hf ?_
       rcases Nat.lt_or_ge (reachTo l i).length j with h|h
       ·exact h
       ·exact absurd (reachTo_inj l hf HYF.out (by rw [HYJ.out];omega)) e
     have HE2:Hid (Tak l (usesF l (y+1)) T2):=by
      rw [HUN.out]
      have h9:=HTK2.out
      rw [HTE.out] at h9
      exact h9
     have HE3:Hid (∀ i,i < l.length->flag (reachL l) i=true->(reachTo l i).length < j+1->flag (holdTo l l.length) i=true->outer (nth l i).op=true):=by
      refine HEY.out _ (fun h=>?_) rfl
      rw [HHO.out,Bool.or_eq_true] at h
      rcases h with h|h
      ·unfold outer;rw [h];simp
      ·exact HOU.out (by rw [HTE.out];exact h)
     go_wp2
     go_roundw
     case rel=>exact ⟨j+1,by omega,by go_num,y+1,L2,T2,by omega,HRS.out,HRL4.out,HRT4.out,HE1.out,HE2.out,HE3.out,HBQ.out⟩
     case measure=>simp [intOf];omega
  ·have hjz:¬ (j:Int) < ((reachTo l l.length).length:Int):=by omega
   have HMV:Hid (Mov l):=by
    refine ⟨fun i hi hf hh=>HO.out i hi hf (by have:=reachTo_lt l hi hf;omega) hh,fun i hi hf hh=>?_⟩
    have e:usesF l l.length=usesF l x:=usesF_same l (by rw [HXJ.out];omega)
    rw [e]
    exact (HTK.out i hi hf hh).2
   go_wp2
   go_ret
   exact ⟨told_yes HMV.out,HB.out⟩
end Pg13
namespace Pg8
open Go.RowKit
open Nd0 Pl1 Tm0 Tm1 Tm4 Tm7 Ap0
open Ws1 (ret_int ret_bool)
theorem iJust (kk:Nat) (w:World) (h7:kk<=7) :
 Calls Tryz.prog 124 #[.int .i64 kk] w fun e w'=>e=.returned (.int .u8 ((2 ^ kk:Nat):Int))/\w'=w:=by
 have h8:kk=0\/kk=1\/kk=2\/kk=3\/kk=4\/kk=5\/kk=6\/kk=7:=by omega
 rcases h8 with rfl|rfl|rfl|rfl|rfl|rfl|rfl|rfl
 all_goals
  go_enter Tryz.func124,Tryz.ntmps124
  go_wp2
  go_ret
  exact ⟨ret_int (by decide),rfl⟩
end Pg8
end Go.Proofs.YthanhcobfehmnaaGreat
