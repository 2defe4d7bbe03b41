import Derived.Test.YthanhcobfehmnaaGreatPkQU211
namespace Go.Proofs.YthanhcobfehmnaaGreat
set_option maxRecDepth 100000
set_option maxHeartbeats 8000000
set_option linter.unusedVariables false
namespace Sp11
open Go.RowKit
open Nd0 Tm0 Tm1 Tm2 Tm4 Tm5 Tm6 Tm9 Ap0 Ap1 Rw0 Rw1
open Sp2 (sParts)
open Sp4 (sTermOk)
open Sp5 (sReach)
open Sp9 (sFree)
open Sp10 (sQuant sOuter sHolder)
open Ws1 (ret_int ret_bool)
theorem below_drewN {B:Nat} {u w:World} (h:Below B u w) (n:Nat):Below B u (w.drewN n):=⟨h.os,h.tape,h.output,h.size,h.block⟩
theorem sSentence (w:World) (a:Option Addr) (l:List Nd) (c:Nat) (hN:Nodes w a l) :
 Calls Tryz.prog 82 #[.slice a l.length c] w fun e w'=>e=.returned (.bool (sentB l))/\Below w.heap.size w w':=by
 have HN:Hid (Nodes w a l):=hN
 clear hN
 go_enter Tryz.func82,Tryz.ntmps82
 go_wp2_with fail
 refine (sTermOk _ a l c HN.out).mono ?_
 rintro e w1 ⟨rfl,hb1⟩
 have HB1:Hid (Below w.heap.size w w1):=hb1
 clear hb1
 cases hT:termOk l
 ·have HF:Hid (sentB l=false):=sent_term hT
  go_wp2
  go_ret
  exact ⟨ret_bool HF.out.symm,HB1.out⟩
 ·have HT:Hid (termOk l=true):=hT
  obtain ⟨hl1,hl2⟩:=term_len hT
  clear hT
  rcases (HN.out.below HB1.out).2 with h0|⟨xb,xo,rfl,hc⟩
  ·omega
  have p1:=(hc (l.length - 1) (by omega)).c1
  rw [nth_get (by omega:l.length - 1 < l.length)] at p1
  clear hc
  have g1:(0:Int)<=(l.length:Int) - 1:=by omega
  have g2:(l.length:Int) - 1 < (l.length:Int):=by omega
  cases hw1:((nth l (l.length - 1)).w != 1)
  ·have hw1':(nth l (l.length - 1)).w=1:=by simpa using hw1
   have HW1:Hid ((nth l (l.length - 1)).w=1):=hw1'
   clear hw1'
   generalize (nth l (l.length - 1)).w=rw at p1 hw1
   go_wp2_with fail
   refine (sFree _ _ l c (HN.out.below HB1.out)).mono ?_
   rintro e w2 ⟨⟨v2,rfl,ho2⟩,hb2⟩
   obtain ⟨a2,c2,rfl,hi2⟩:=ho2.form
   have HB2:Hid (Below w.heap.size w w2):=HB1.out.trans (hb2.mono HB1.out.size)
   clear ho2 hi2 hb2 p1 g1 g2
   by_cases hf:(freeL l).length=0
   ·have HF0:Hid ((freeL l).length=0):=hf
    go_wp2_with fail
    refine (sReach _ _ l c (HN.out.below HB2.out) HT.out).mono ?_
    rintro e w3 ⟨⟨v3,rfl,ho3⟩,hb3⟩
    obtain ⟨g3,c3,rfl,hg3,hl3,hr3⟩:=row_bools ho3 (by rw [reachL_length];exact hl1)
    rw [reachL_length] at hr3 ⊢
    have HR3:Hid (Row w3 g3 l.length (fun i=>.bool (flag (reachL l) i))):=hr3
    have HB3:Hid (Below w.heap.size w w3):=HB2.out.trans (hb3.mono HB2.out.size)
    have HG3:Hid (w.heap.size<=g3/\g3 < w3.heap.size):=⟨Nat.le_trans HB2.out.size hg3,hl3⟩
    clear ho3 hb3 hr3 hg3 hl3 hf
    go_wp2_with fail
    refine (sHolder _ _ l c (HN.out.below HB3.out) HT.out).mono ?_
    rintro e w4 ⟨⟨v4,rfl,ho4⟩,hb4⟩
    obtain ⟨g4,c4,rfl,hg4,hl4,hr4⟩:=row_bools ho4 (by rw [holdTo_length];exact hl1)
    rw [holdTo_length] at hr4 ⊢
    have HR4:Hid (Row w4 g4 l.length (fun i=>.bool (flag (holdTo l l.length) i))):=hr4
    have HR3':Hid (Row w4 g3 l.length (fun i=>.bool (flag (reachL l) i))):=HR3.out.below hb4
    have HB4:Hid (Below w.heap.size w w4):=HB3.out.trans (hb4.mono HB3.out.size)
    have HG4:Hid (g3 < g4/\g4 < w4.heap.size):=⟨Nat.lt_of_lt_of_le HG3.out.2 hg4,hl4⟩
    clear ho4 hb4 hr4 hg4 hl4 HR3
    go_wp2
    go_loopw [5,6] (fun v q wr=>∃ k:Nat,k<=8/\q=.int .i64 k/\Ows wr w4.heap.size v (List.replicate k 0)/\Below w4.heap.size w4 wr) (fun _ q _=>8 - (intOf q).toNat)
    case atStart=>exact ⟨0,Nat.zero_le _,rfl,Ows.lit w4 _ (Nat.le_refl _),(Below.refl _ _).alloc (Nat.le_refl _) _⟩
    case round =>
     obtain ⟨k,hk,rfl,ho,hb⟩:=hrel
     have HO:Hid (Ows wr w4.heap.size u5 (List.replicate k 0)):=ho
     have HB:Hid (Below w4.heap.size w4 wr):=hb
     have hBs:w4.heap.size<=wr.heap.size:=hb.size
     clear hb
     by_cases hlt:k < 8
     ·clear ho
      have hlz:(k:Int) < 8:=by omega
      have HRP:Hid (List.replicate (k+1) (0:Int)=List.replicate k 0++[0]):=List.replicate_succ'
      go_wp2_with (at_builtin;go_must (refine app_int _ rfl _ _ rfl w4.heap.size u5 (List.replicate k 0) 0 rfl rfl HO.out hBs (by simp;omega) ?_;intro g' cp w9 ho9 hk9 hg9))
      have HO9:Hid (Ows w9 w4.heap.size (.slice (some ⟨g',0,none⟩) ((List.replicate k (0:Int)).length+1) cp) (List.replicate k 0++[0])):=ho9
      have HK9:Hid (Kept (fun k=>u5.ownBlock=some k) wr w9):=hk9
      clear ho9 hk9 hg9
      go_wp2
      go_roundw
      case rel =>
       refine ⟨k+1,by omega,by go_num,?_,HB.out.trans (HK9.out.below (fun k hk=>(HO.out.lt k hk).1) hBs)⟩
       rw [HRP.out]
       have h9:=HO9.out
       simp only [List.length_replicate] at h9
       exact h9
      case measure=>simp [intOf];omega
     ·have e8:k=8:=by omega
      rw [e8] at ho
      obtain ⟨g5,c5,hv5,hg5,hl5,hr5⟩:=row_ints ho (by simp)
      rw [List.length_replicate] at hv5
      subst hv5
      have HR5:Hid (Row wr g5 8 (fun i=>.int .i64 (wd (List.replicate 8 0) (i:Int)))):=by
       have h9:=hr5
       simp only [List.length_replicate] at h9
       exact h9
      have HG5:Hid (g4 < g5/\g5 < wr.heap.size):=⟨Nat.lt_of_lt_of_le HG4.out.2 hg5,hl5⟩
      clear ho HO hg5 hl5 hr5 e8
      obtain ⟨w5,rfl⟩:∃ w5:World,w5=wr:=⟨_,rfl⟩
      have HR35:Hid (Row w5 g3 l.length (fun i=>.bool (flag (reachL l) i))):=HR3'.out.below HB.out
      have HR45:Hid (Row w5 g4 l.length (fun i=>.bool (flag (holdTo l l.length) i))):=HR4.out.below HB.out
      have HB5:Hid (Below w.heap.size w w5):=HB4.out.trans (HB.out.mono HB4.out.size)
      have HG35:Hid (w.heap.size<=g3/\g3 < g4/\g4 < g5/\g5 < w5.heap.size):=⟨HG3.out.1,HG4.out.1,HG5.out.1,HG5.out.2⟩
      clear HB HB4 HR3' HR4 HG3 HG4 HG5 hBs HB3 HB2
      go_wp2
      go_loopw [7] (fun q wr=>∃ k:Nat,k<=l.length/\q=.int .i64 k/\∃ ws:List Int,quantsTo l k=some ws/\ws.length=8/\Row wr g5 8 (fun i=>.int .i64 (wd ws (i:Int)))/\Kept (fun b=>b=g5) w5 wr) (fun q _=>l.length - (intOf q).toNat)
      case atStart=>exact ⟨0,Nat.zero_le _,rfl,_,rfl,by simp,HR5.out,Kept.refl _ _⟩
      case round =>
       clear HR5
       obtain ⟨k,hk,rfl,ws,hq,hwl,hr5,hkk⟩:=hrel
       have HQ:Hid (quantsTo l k=some ws):=hq
       have HWL:Hid (ws.length=8):=hwl
       have HR5:Hid (Row wr g5 8 (fun i=>.int .i64 (wd ws (i:Int)))):=hr5
       have HK:Hid (Kept (fun b=>b=g5) w5 wr):=hkk
       clear hq hwl hr5 hkk
       have HBW:Hid (Below w.heap.size w wr):=HB5.out.trans (HK.out.below (fun b (hb:b=g5)=>by have:=HG35.out;omega) HB5.out.size)
       by_cases hlt2:k < l.length
       ·have hlz:(k:Int) < (l.length:Int):=by omega
        have f3:=((HR35.out.kept HK.out (fun e=>by have:=HG35.out;omega)) k hlt2).1
        have HQS:Hid (quantsTo l (k+1)=qStep l ws k):=quants_succ HQ.out
        cases hf3:flag (reachL l) k
        ·rw [hf3] at f3
         have HQ2:Hid (quantsTo l (k+1)=some ws):=by
          show _=_
          rw [HQS.out];unfold qStep;rw [hf3];rfl
         go_wp2
         go_roundw
         case rel=>exact ⟨k+1,by omega,by go_num,ws,HQ2.out,HWL.out,HR5.out,HK.out⟩
         case measure=>simp [intOf];omega
        ·rw [hf3] at f3
         rcases (HN.out.below HBW.out).2 with h0|⟨xb',xo',he,hc⟩
         ·omega
         cases he
         obtain ⟨p0,_,p2,_,p4,_⟩:=hc k hlt2
         rw [nth_get hlt2] at p0 p2 p4
         clear hc
         have HSV:Hid ((nth l k).op=1\/quant (nth l k).op=true->0<=(nth l k).k/\(nth l k).k<=7):=shape_var (term_node HT.out hlt2)
         have HQS2:Hid (quantsTo l (k+1)=if quant (nth l k).op then (if wd ws (nth l k).k=0 then some (ws.set (nth l k).k.toNat (nth l k).b) else none) else some ws):=by
          show _=_
          rw [HQS.out];unfold qStep;rw [hf3,Bool.true_and]
         generalize nth l k=n at p0 p2 p4 HSV HQS2
         cases hqu:quant n.op
         ·have HQ2:Hid (quantsTo l (k+1)=some ws):=by
           show _=_
           rw [HQS2.out,hqu];rfl
          go_wp2_with (go_at_call 28;refine (sQuant _ _).mono ?_;rintro e w' ⟨rfl,rfl⟩;rw [hqu])
          go_roundw
          case rel=>exact ⟨k+1,by omega,by go_num,ws,HQ2.out,HWL.out,HR5.out,HK.out⟩
          case measure=>simp [intOf];omega
         ·obtain ⟨hk0,hk7⟩:=HSV.out (.inr hqu)
          obtain ⟨kk,hkk⟩:=Int.eq_ofNat_of_zero_le hk0
          rw [hkk] at p2 HQS2 hk7
          have hz8:(kk:Int) < 8:=by omega
          obtain ⟨c1,c2'⟩:=HR5.out kk (by omega)
          dsimp only at c1
          clear hkk hk0 HSV
          by_cases hz:wd ws (kk:Int)=0
          ·have HQ2:Hid (quantsTo l (k+1)=some (ws.set kk n.b)):=by
            show _=_
            rw [HQS2.out,hqu,if_pos rfl,if_pos hz];rfl
           rw [hz] at c1
           go_wp2_with (go_at_call 28;refine (sQuant _ _).mono ?_;rintro e w' ⟨rfl,rfl⟩;rw [hqu])
           go_region
           all_goals
            go_wp2
            go_roundw
            case rel=>exact ⟨k+1,by omega,by go_num,ws.set kk n.b,HQ2.out,by rw [List.length_set];exact HWL.out,Row.drew (row_set_int HR5.out HWL.out (by omega) _),(HK.out.setCell (p:=⟨g5,kk,none⟩) rfl _).drew⟩
            case measure=>simp [intOf];omega
          ·have HF:Hid (sentB l=false):=sent_quants (k:=k+1) (by omega) (by rw [HQS2.out,hqu,if_pos rfl,if_neg hz])
           have hzb:(wd ws (kk:Int) != 0)=true:=by simpa using hz
           generalize wd ws (kk:Int)=z at c1 hz hzb
           go_wp2_with (go_at_call 28;refine (sQuant _ _).mono ?_;rintro e w' ⟨rfl,rfl⟩;rw [hqu])
           go_ret
           exact ⟨ret_bool HF.out.symm,HBW.out⟩
       ·have e2:k=l.length:=by omega
        subst e2
        obtain ⟨w6,rfl⟩:∃ w6:World,w6=wr:=⟨_,rfl⟩
        have HR36:Hid (Row w6 g3 l.length (fun i=>.bool (flag (reachL l) i))):=HR35.out.kept HK.out (fun e=>by have:=HG35.out;omega)
        have HR46:Hid (Row w6 g4 l.length (fun i=>.bool (flag (holdTo l l.length) i))):=HR45.out.kept HK.out (fun e=>by have:=HG35.out;omega)
        have HG36:Hid (w.heap.size<=g3/\g3 < g4/\g4 < g5/\g5 < w6.heap.size):=by
         have h1:=HG35.out
         have h2:=HK.out.size
         exact ⟨h1.1,h1.2.1,h1.2.2.1,by omega⟩
        clear HR35 HR45 HG35 HK HB5
        go_wp2
        go_loopw [8,9] (fun v q wr=>∃ k:Nat,k<=l.length/\q=.int .i64 k/\Ows wr w6.heap.size v (List.replicate k 0)/\Below w6.heap.size w6 wr) (fun _ q _=>l.length - (intOf q).toNat)
        case atStart=>exact ⟨0,Nat.zero_le _,rfl,Ows.lit w6 _ (Nat.le_refl _),(Below.refl _ _).alloc (Nat.le_refl _) _⟩
        case round =>
         obtain ⟨k,hk,rfl,ho,hb⟩:=hrel
         have HO:Hid (Ows wr w6.heap.size u8 (List.replicate k 0)):=ho
         have HB:Hid (Below w6.heap.size w6 wr):=hb
         have hBs:w6.heap.size<=wr.heap.size:=hb.size
         clear hb
         by_cases hlt3:k < l.length
         ·clear ho
          have hlz:(k:Int) < (l.length:Int):=by omega
          have HRP:Hid (List.replicate (k+1) (0:Int)=List.replicate k 0++[0]):=List.replicate_succ'
          go_wp2_with (at_builtin;go_must (refine app_int _ rfl _ _ rfl w6.heap.size u8 (List.replicate k 0) 0 rfl rfl HO.out hBs (by simp;omega) ?_;intro g' cp w9 ho9 hk9 hg9))
          have HO9:Hid (Ows w9 w6.heap.size (.slice (some ⟨g',0,none⟩) ((List.replicate k (0:Int)).length+1) cp) (List.replicate k 0++[0])):=ho9
          have HK9:Hid (Kept (fun k=>u8.ownBlock=some k) wr w9):=hk9
          clear ho9 hk9 hg9
          go_wp2
          go_roundw
          case rel =>
           refine ⟨k+1,by omega,by go_num,?_,HB.out.trans (HK9.out.below (fun k hk=>(HO.out.lt k hk).1) hBs)⟩
           rw [HRP.out]
           have h9:=HO9.out
           simp only [List.length_replicate] at h9
           exact h9
          case measure=>simp [intOf];omega
         ·have e8:k=l.length:=by omega
          rw [e8] at ho
          obtain ⟨g8,c8,hv8,hg8,hl8,hr8⟩:=row_ints ho (by simp;omega)
          rw [List.length_replicate] at hv8
          subst hv8
          have HR8:Hid (Row wr g8 l.length (fun i=>.int .i64 (wd (List.replicate l.length 0) (i:Int)))):=by
           have h9:=hr8
           simp only [List.length_replicate] at h9
           exact h9
          have HG8:Hid (g5 < g8/\g8 < wr.heap.size):=⟨Nat.lt_of_lt_of_le HG36.out.2.2.2 hg8,hl8⟩
          clear ho HO hg8 hl8 hr8 e8
          obtain ⟨w7,rfl⟩:∃ w7:World,w7=wr:=⟨_,rfl⟩
          have HR37:Hid (Row w7 g3 l.length (fun i=>.bool (flag (reachL l) i))):=HR36.out.below HB.out
          have HR47:Hid (Row w7 g4 l.length (fun i=>.bool (flag (holdTo l l.length) i))):=HR46.out.below HB.out
          have HR57:Hid (Row w7 g5 8 (fun i=>.int .i64 (wd ws (i:Int)))):=HR5.out.below HB.out
          have HB7:Hid (Below w.heap.size w w7):=HBW.out.trans (HB.out.mono HBW.out.size)
          have HG7:Hid (w.heap.size<=g3/\g3 < g4/\g4 < g5/\g5 < g8/\g8 < w7.heap.size):=⟨HG36.out.1,HG36.out.2.1,HG36.out.2.2.1,HG8.out.1,HG8.out.2⟩
          clear HB HBW HR36 HR46 HR5 HG36 HG8 hBs
          go_wp2
          go_loopw [10] (fun q wr=>∃ k:Nat,k<=l.length/\q=.int .i64 k/\∃ us:List Int,usesTo l ws k=some us/\Upto us (3*(k:Int))/\Row wr g8 l.length (fun i=>.int .i64 (wd us (i:Int)))/\Kept (fun b=>b=g8) w7 wr) (fun q _=>l.length - (intOf q).toNat)
          case atStart=>exact ⟨0,Nat.zero_le _,rfl,_,rfl,upto_zero _,HR8.out,Kept.refl _ _⟩
          case round =>
           clear HR8
           obtain ⟨k,hk,rfl,us,hu,hup,hr8,hkk⟩:=hrel
           have HU:Hid (usesTo l ws k=some us):=hu
           have HUP:Hid (Upto us (3*(k:Int))):=hup
           have HUL:Hid (us.length=l.length):=uses_length hu
           have HR8:Hid (Row wr g8 l.length (fun i=>.int .i64 (wd us (i:Int)))):=hr8
           have HK:Hid (Kept (fun b=>b=g8) w7 wr):=hkk
           clear hu hup hr8 hkk
           have HBW:Hid (Below w.heap.size w wr):=HB7.out.trans (HK.out.below (fun b (hb:b=g8)=>by have:=HG7.out;omega) HB7.out.size)
           by_cases hlt4:k < l.length
           ·have hlz:(k:Int) < (l.length:Int):=by omega
            have f3:=((HR37.out.kept HK.out (fun e=>by have:=HG7.out;omega)) k hlt4).1
            have HUS:Hid (usesTo l ws (k+1)=uStep l ws us k):=uses_succ HU.out
            try dsimp only at f3
            cases hf3:flag (reachL l) k
            ·rw [hf3] at f3
             have HU2:Hid (usesTo l ws (k+1)=some us):=by
              show _=_
              rw [HUS.out];unfold uStep;rw [hf3];rfl
             go_wp2
             go_roundw
             case rel=>exact ⟨k+1,by omega,by go_num,us,HU2.out,upto_mono HUP.out (by omega),HR8.out,HK.out⟩
             case measure=>simp [intOf];omega
            ·rw [hf3] at f3
             rcases (HN.out.below HBW.out).2 with h0|⟨xb',xo',he,hc⟩
             ·omega
             cases he
             obtain ⟨p0,p1,p2,p3,p4,p5⟩:=hc k hlt4
             rw [nth_get hlt4] at p0 p1 p2 p3 p4 p5
             clear hc
             have f4:=((HR47.out.kept HK.out (fun e=>by have:=HG7.out;omega)) k hlt4).1
             try dsimp only at f4
             have HSV:Hid ((nth l k).op=1\/quant (nth l k).op=true->0<=(nth l k).k/\(nth l k).k<=7):=shape_var (term_node HT.out hlt4)
             have HPO:=parts_ok (term_node HT.out hlt4)
             have HUS2:Hid (usesTo l ws (k+1)=if ((nth l k).op==1&&wd ws (nth l k).k != (nth l k).w)||(flag (holdTo l l.length) k && !outer (nth l k).op) then none else some (addUses us (parts (nth l k)))):=by
              show _=_
              rw [HUS.out];unfold uStep;rw [hf3,if_pos rfl];rfl
             have HFN:Hid (usesTo l ws (k+1)=none->sentB l=false):=fun h=>sent_uses (k:=k+1) (by omega) HQ.out h
             generalize nth l k=n at p0 p1 p2 p3 p4 p5 HSV HUS2 HPO
             have HPO':Hid (∀ k_1 (hk:k_1 < (parts n).length),0<=(parts n)[k_1]/\(parts n)[k_1] < k):=HPO
             clear HPO
             generalize flag (holdTo l l.length) k=fh at f4 HUS2
             cases h1:(n.op==1)
             ·cases fh
              ·
               have HU2:Hid (usesTo l ws (k+1)=some (addUses us (parts n))):=by
                show _=_
                rw [HUS2.out];rw [h1];rfl
               clear HUS2 HFN HSV
               go_wp2
               refine wp_region_quiet_lit (by kernel_rfl) (by kernel_rfl) ?_
               repeat (first|go_big_quiet_step (fail)|quiet_step (fail))
               refine wpQuiet_nil ?_
               intro _ hw'
               obtain ⟨nq,hw''⟩:=hw'
               subst hw''
               go_wp2_with fail
               refine (sParts n _).mono ?_
               rintro e w8 ⟨⟨pa,pc,rfl,hpi⟩,hb8⟩
               have HP:Hid (IntsIn w8 wr.heap.size w8.heap.size pa (parts n)):=hpi.within
               have HR88:Hid (Row w8 g8 l.length (fun i=>.int .i64 (wd us (i:Int)))):=Row.below (w:=wr.drewN nq) (fun i hi=>HR8.out i hi) hb8
               have HK8:Hid (Kept (fun b=>b=g8) w7 w8):=(HK.out.drewN _).trans (Kept.ofBelow hb8)
               have hgw:g8 < wr.heap.size:=HR8.out.lt (by omega)
               clear hpi hb8 p0 p1 p2 p3 p4 p5 f3 f4
               have hpl:=parts_le n
               go_wp2_with fail
               go_loopw [12] (fun q wq=>∃ m:Nat,m<=(parts n).length/\q=.int .i64 m/\∃ u2:List Int,addUses u2 ((parts n).drop m)=addUses us (parts n)/\u2.length=l.length/\Upto u2 (3*(k:Int)+m)/\Row wq g8 l.length (fun i=>.int .i64 (wd u2 (i:Int)))/\Kept (fun b=>b=g8) w8 wq) (fun q _=>(parts n).length - (intOf q).toNat)
               case atStart=>exact ⟨0,Nat.zero_le _,rfl,us,rfl,HUL.out,upto_mono HUP.out (by omega),HR88.out,Kept.refl _ _⟩
               case round =>
                obtain ⟨m,hm,rfl,u2,ha,hul,hup,hr,hkq⟩:=hrel
                have HA:Hid (addUses u2 ((parts n).drop m)=addUses us (parts n)):=ha
                have HUL2:Hid (u2.length=l.length):=hul
                have HUP2:Hid (Upto u2 (3*(k:Int)+m)):=hup
                have HRQ:Hid (Row wr g8 l.length (fun i=>.int .i64 (wd u2 (i:Int)))):=hr
                have HKQ:Hid (Kept (fun b=>b=g8) w8 wr):=hkq
                clear ha hul hup hr hkq
                by_cases hlt5:m < (parts n).length
                ·have hmz:(m:Int) < ((parts n).length:Int):=by omega
                 rcases (HP.out.kept HKQ.out (fun b h1 h2 e=>by omega)).2 with h0|⟨pb,po,rfl,hpB,hpU,hpc⟩
                 ·omega
                 have q0:=(hpc m hlt5).1
                 obtain ⟨hy0,hy1⟩:=HPO'.out m hlt5
                 have HDR:Hid ((parts n).drop m=(parts n)[m] :: (parts n).drop (m+1)):=List.drop_eq_getElem_cons hlt5
                 clear hpc hpB hpU
                 generalize (parts n)[m]=y at q0 hy0 hy1 HDR
                 obtain ⟨jy,rfl⟩:=Int.eq_ofNat_of_zero_le hy0
                 have hjz:(jy:Int) < (l.length:Int):=by omega
                 obtain ⟨d1,d2⟩:=HRQ.out jy (by omega)
                 try dsimp only at d1
                 obtain ⟨hb0,hb1⟩:=HUP2.out (jy:Int)
                 have HSET:Hid (Row (wr.setCell ⟨g8,jy,none⟩ (.int .i64 (wd u2 (jy:Int)+1))) g8 l.length (fun i=>.int .i64 (wd (u2.set jy (wd u2 (jy:Int)+1)) (i:Int)))):=row_set_int HRQ.out HUL2.out (by omega) _
                 have HUP3:Hid (Upto (u2.set jy (wd u2 (jy:Int)+1)) (3*(k:Int)+m+1)):=upto_set HUP2.out jy
                 have HA3:Hid (addUses (u2.set jy (wd u2 (jy:Int)+1)) ((parts n).drop (m+1))=addUses us (parts n)):=by
                  have h9:=HA.out
                  rw [HDR.out] at h9
                  exact h9
                 have HUL3:Hid ((u2.set jy (wd u2 (jy:Int)+1)).length=l.length):=by
                  show _=_
                  rw [List.length_set];exact HUL2.out
                 have HKK:Hid (Kept (fun b=>b=g8) w8 (wr.setCell ⟨g8,jy,none⟩ (.int .i64 (wd u2 (jy:Int)+1)))):=HKQ.out.setCell (p:=⟨g8,jy,none⟩) rfl _
                 generalize u2.set jy (wd u2 (jy:Int)+1)=u3 at HSET HUP3 HA3 HUL3
                 generalize wd u2 (jy:Int)=z at d1 hb0 hb1 HSET HKK
                 go_wp2
                 go_region
                 all_goals
                  go_wp2
                  go_roundw
                  case rel=>exact ⟨m+1,by omega,by go_num,u3,HA3.out,HUL3.out,upto_mono HUP3.out (by omega),HSET.out.drew,HKK.out.drew⟩
                  case measure=>simp [intOf];omega
                ·have hmz:¬ (m:Int) < ((parts n).length:Int):=by omega
                 have HA2:Hid (usesTo l ws (k+1)=some u2):=by
                  show _=_
                  have h9:=HA.out
                  rw [List.drop_of_length_le (by omega)] at h9
                  rw [HU2.out]
                  exact congrArg some h9.symm
                 go_wp2
                 go_roundw
                 case rel=>exact ⟨k+1,by omega,by go_num,u2,HA2.out,upto_mono HUP2.out (by omega),HRQ.out,HK8.out.trans HKQ.out⟩
                 case measure=>simp [intOf];omega
              ·cases hou:outer n.op
               ·
                have HOC:Hid (∀ w:World,Calls Tryz.prog 114 #[.int .i64 n.op] w fun e w'=>e=.returned (.bool false)/\w'=w):=fun w=>hou ▸ sOuter n.op w
                have HOC1:Hid (∀ w:World,Calls Tryz.prog 114 #[.int .i64 1] w fun e w'=>e=.returned (.bool false)/\w'=w):=fun w=>sOuter 1 w
                have HF:Hid (sentB l=false):=HFN.out (by rw [HUS2.out];rw [h1,hou];rfl)
                go_wp2
                refine wp_region_quiet_lit (by kernel_rfl) (by kernel_rfl) ?_
                repeat (first|go_big_quiet_step (first|(go_at_call 114;first|exact Calls.quiet_of_same (HOC.out _)|exact Calls.quiet_of_same (HOC1.out _)))|quiet_step (first|(go_at_call 114;first|exact Calls.quiet_of_same (HOC.out _)|exact Calls.quiet_of_same (HOC1.out _))))
                refine wpQuiet_nil ?_
                intro _ hw'
                obtain ⟨nq,hw''⟩:=hw'
                subst hw''
                go_wp2
                go_ret
                exact ⟨ret_bool HF.out.symm,below_drewN HBW.out _⟩
               ·
                have HOC:Hid (∀ w:World,Calls Tryz.prog 114 #[.int .i64 n.op] w fun e w'=>e=.returned (.bool true)/\w'=w):=fun w=>hou ▸ sOuter n.op w
                have HOC1:Hid (∀ w:World,Calls Tryz.prog 114 #[.int .i64 1] w fun e w'=>e=.returned (.bool false)/\w'=w):=fun w=>sOuter 1 w
                have HU2:Hid (usesTo l ws (k+1)=some (addUses us (parts n))):=by
                 show _=_
                 rw [HUS2.out];rw [h1,hou];rfl
                clear HUS2 HFN HSV
                go_wp2
                refine wp_region_quiet_lit (by kernel_rfl) (by kernel_rfl) ?_
                repeat (first|go_big_quiet_step (first|(go_at_call 114;first|exact Calls.quiet_of_same (HOC.out _)|exact Calls.quiet_of_same (HOC1.out _)))|quiet_step (first|(go_at_call 114;first|exact Calls.quiet_of_same (HOC.out _)|exact Calls.quiet_of_same (HOC1.out _))))
                refine wpQuiet_nil ?_
                intro _ hw'
                obtain ⟨nq,hw''⟩:=hw'
                subst hw''
                go_wp2_with fail
                refine (sParts n _).mono ?_
                rintro e w8 ⟨⟨pa,pc,rfl,hpi⟩,hb8⟩
                have HP:Hid (IntsIn w8 wr.heap.size w8.heap.size pa (parts n)):=hpi.within
                have HR88:Hid (Row w8 g8 l.length (fun i=>.int .i64 (wd us (i:Int)))):=Row.below (w:=wr.drewN nq) (fun i hi=>HR8.out i hi) hb8
                have HK8:Hid (Kept (fun b=>b=g8) w7 w8):=(HK.out.drewN _).trans (Kept.ofBelow hb8)
                have hgw:g8 < wr.heap.size:=HR8.out.lt (by omega)
                clear hpi hb8 p0 p1 p2 p3 p4 p5 f3 f4
                have hpl:=parts_le n
                go_wp2_with fail
                go_loopw [12] (fun q wq=>∃ m:Nat,m<=(parts n).length/\q=.int .i64 m/\∃ u2:List Int,addUses u2 ((parts n).drop m)=addUses us (parts n)/\u2.length=l.length/\Upto u2 (3*(k:Int)+m)/\Row wq g8 l.length (fun i=>.int .i64 (wd u2 (i:Int)))/\Kept (fun b=>b=g8) w8 wq) (fun q _=>(parts n).length - (intOf q).toNat)
                case atStart=>exact ⟨0,Nat.zero_le _,rfl,us,rfl,HUL.out,upto_mono HUP.out (by omega),HR88.out,Kept.refl _ _⟩
                case round =>
                 obtain ⟨m,hm,rfl,u2,ha,hul,hup,hr,hkq⟩:=hrel
                 have HA:Hid (addUses u2 ((parts n).drop m)=addUses us (parts n)):=ha
                 have HUL2:Hid (u2.length=l.length):=hul
                 have HUP2:Hid (Upto u2 (3*(k:Int)+m)):=hup
                 have HRQ:Hid (Row wr g8 l.length (fun i=>.int .i64 (wd u2 (i:Int)))):=hr
                 have HKQ:Hid (Kept (fun b=>b=g8) w8 wr):=hkq
                 clear ha hul hup hr hkq
                 by_cases hlt5:m < (parts n).length
                 ·have hmz:(m:Int) < ((parts n).length:Int):=by omega
                  rcases (HP.out.kept HKQ.out (fun b h1 h2 e=>by omega)).2 with h0|⟨pb,po,rfl,hpB,hpU,hpc⟩
                  ·omega
                  have q0:=(hpc m hlt5).1
                  obtain ⟨hy0,hy1⟩:=HPO'.out m hlt5
                  have HDR:Hid ((parts n).drop m=(parts n)[m] :: (parts n).drop (m+1)):=List.drop_eq_getElem_cons hlt5
                  clear hpc hpB hpU
                  generalize (parts n)[m]=y at q0 hy0 hy1 HDR
                  obtain ⟨jy,rfl⟩:=Int.eq_ofNat_of_zero_le hy0
                  have hjz:(jy:Int) < (l.length:Int):=by omega
                  obtain ⟨d1,d2⟩:=HRQ.out jy (by omega)
                  try dsimp only at d1
                  obtain ⟨hb0,hb1⟩:=HUP2.out (jy:Int)
                  have HSET:Hid (Row (wr.setCell ⟨g8,jy,none⟩ (.int .i64 (wd u2 (jy:Int)+1))) g8 l.length (fun i=>.int .i64 (wd (u2.set jy (wd u2 (jy:Int)+1)) (i:Int)))):=row_set_int HRQ.out HUL2.out (by omega) _
                  have HUP3:Hid (Upto (u2.set jy (wd u2 (jy:Int)+1)) (3*(k:Int)+m+1)):=upto_set HUP2.out jy
                  have HA3:Hid (addUses (u2.set jy (wd u2 (jy:Int)+1)) ((parts n).drop (m+1))=addUses us (parts n)):=by
                   have h9:=HA.out
                   rw [HDR.out] at h9
                   exact h9
                  have HUL3:Hid ((u2.set jy (wd u2 (jy:Int)+1)).length=l.length):=by
                   show _=_
                   rw [List.length_set];exact HUL2.out
                  have HKK:Hid (Kept (fun b=>b=g8) w8 (wr.setCell ⟨g8,jy,none⟩ (.int .i64 (wd u2 (jy:Int)+1)))):=HKQ.out.setCell (p:=⟨g8,jy,none⟩) rfl _
                  generalize u2.set jy (wd u2 (jy:Int)+1)=u3 at HSET HUP3 HA3 HUL3
                  generalize wd u2 (jy:Int)=z at d1 hb0 hb1 HSET HKK
                  go_wp2
                  go_region
                  all_goals
                   go_wp2
                   go_roundw
                   case rel=>exact ⟨m+1,by omega,by go_num,u3,HA3.out,HUL3.out,upto_mono HUP3.out (by omega),HSET.out.drew,HKK.out.drew⟩
                   case measure=>simp [intOf];omega
                 ·have hmz:¬ (m:Int) < ((parts n).length:Int):=by omega
                  have HA2:Hid (usesTo l ws (k+1)=some u2):=by
                   show _=_
                   have h9:=HA.out
                   rw [List.drop_of_length_le (by omega)] at h9
                   rw [HU2.out]
                   exact congrArg some h9.symm
                  go_wp2
                  go_roundw
                  case rel=>exact ⟨k+1,by omega,by go_num,u2,HA2.out,upto_mono HUP2.out (by omega),HRQ.out,HK8.out.trans HKQ.out⟩
                  case measure=>simp [intOf];omega
             ·have h1':n.op=1:=by simpa using h1
              obtain ⟨hk0,hk7⟩:=HSV.out (.inl h1')
              obtain ⟨kk,hkk⟩:=Int.eq_ofNat_of_zero_le hk0
              rw [hkk] at p2 HUS2 hk7
              have hz8:(kk:Int) < 8:=by omega
              have c5':=((HR57.out.kept HK.out (fun e=>by have:=HG7.out;omega)) kk (by omega)).1
              try dsimp only at c5'
              have hou:outer n.op=false:=by rw [h1'];rfl
              obtain ⟨o9,wv,kv,av,bv,cv⟩:=n
              dsimp only at *
              subst h1' hkk
              clear hk0
              generalize wd ws (kk:Int)=z at c5' HUS2
              cases hwd:(z != wv)
              ·cases fh
               ·
                have HU2:Hid (usesTo l ws (k+1)=some (addUses us (parts ⟨1,wv,(kk:Int),av,bv,cv⟩))):=by
                 show _=_
                 rw [HUS2.out];rw [h1,hwd];rfl
                clear HUS2 HFN HSV
                go_wp2
                refine wp_region_quiet_lit (by kernel_rfl) (by kernel_rfl) ?_
                repeat (first|go_big_quiet_step (fail)|quiet_step (fail))
                refine wpQuiet_nil ?_
                intro _ hw'
                obtain ⟨nq,hw''⟩:=hw'
                subst hw''
                go_wp2_with fail
                refine (sParts ⟨1,wv,(kk:Int),av,bv,cv⟩ _).mono ?_
                rintro e w8 ⟨⟨pa,pc,rfl,hpi⟩,hb8⟩
                have HP:Hid (IntsIn w8 wr.heap.size w8.heap.size pa (parts ⟨1,wv,(kk:Int),av,bv,cv⟩)):=hpi.within
                have HR88:Hid (Row w8 g8 l.length (fun i=>.int .i64 (wd us (i:Int)))):=Row.below (w:=wr.drewN nq) (fun i hi=>HR8.out i hi) hb8
                have HK8:Hid (Kept (fun b=>b=g8) w7 w8):=(HK.out.drewN _).trans (Kept.ofBelow hb8)
                have hgw:g8 < wr.heap.size:=HR8.out.lt (by omega)
                clear hpi hb8 p0 p1 p2 p3 p4 p5 f3 f4
                have hpl:=parts_le ⟨1,wv,(kk:Int),av,bv,cv⟩
                go_wp2_with fail
                go_loopw [12] (fun q wq=>∃ m:Nat,m<=(parts ⟨1,wv,(kk:Int),av,bv,cv⟩).length/\q=.int .i64 m/\∃ u2:List Int,addUses u2 ((parts ⟨1,wv,(kk:Int),av,bv,cv⟩).drop m)=addUses us (parts ⟨1,wv,(kk:Int),av,bv,cv⟩)/\u2.length=l.length/\Upto u2 (3*(k:Int)+m)/\Row wq g8 l.length (fun i=>.int .i64 (wd u2 (i:Int)))/\Kept (fun b=>b=g8) w8 wq) (fun q _=>(parts ⟨1,wv,(kk:Int),av,bv,cv⟩).length - (intOf q).toNat)
                case atStart=>exact ⟨0,Nat.zero_le _,rfl,us,rfl,HUL.out,upto_mono HUP.out (by omega),HR88.out,Kept.refl _ _⟩
                case round =>
                 obtain ⟨m,hm,rfl,u2,ha,hul,hup,hr,hkq⟩:=hrel
                 have HA:Hid (addUses u2 ((parts ⟨1,wv,(kk:Int),av,bv,cv⟩).drop m)=addUses us (parts ⟨1,wv,(kk:Int),av,bv,cv⟩)):=ha
                 have HUL2:Hid (u2.length=l.length):=hul
                 have HUP2:Hid (Upto u2 (3*(k:Int)+m)):=hup
                 have HRQ:Hid (Row wr g8 l.length (fun i=>.int .i64 (wd u2 (i:Int)))):=hr
                 have HKQ:Hid (Kept (fun b=>b=g8) w8 wr):=hkq
                 clear ha hul hup hr hkq
                 by_cases hlt5:m < (parts ⟨1,wv,(kk:Int),av,bv,cv⟩).length
                 ·have hmz:(m:Int) < ((parts ⟨1,wv,(kk:Int),av,bv,cv⟩).length:Int):=by omega
                  rcases (HP.out.kept HKQ.out (fun b h1 h2 e=>by omega)).2 with h0|⟨pb,po,rfl,hpB,hpU,hpc⟩
                  ·omega
                  have q0:=(hpc m hlt5).1
                  obtain ⟨hy0,hy1⟩:=HPO'.out m hlt5
                  have HDR:Hid ((parts ⟨1,wv,(kk:Int),av,bv,cv⟩).drop m=(parts ⟨1,wv,(kk:Int),av,bv,cv⟩)[m] :: (parts ⟨1,wv,(kk:Int),av,bv,cv⟩).drop (m+1)):=List.drop_eq_getElem_cons hlt5
                  clear hpc hpB hpU
                  generalize (parts ⟨1,wv,(kk:Int),av,bv,cv⟩)[m]=y at q0 hy0 hy1 HDR
                  obtain ⟨jy,rfl⟩:=Int.eq_ofNat_of_zero_le hy0
                  have hjz:(jy:Int) < (l.length:Int):=by omega
                  obtain ⟨d1,d2⟩:=HRQ.out jy (by omega)
                  try dsimp only at d1
                  obtain ⟨hb0,hb1⟩:=HUP2.out (jy:Int)
                  have HSET:Hid (Row (wr.setCell ⟨g8,jy,none⟩ (.int .i64 (wd u2 (jy:Int)+1))) g8 l.length (fun i=>.int .i64 (wd (u2.set jy (wd u2 (jy:Int)+1)) (i:Int)))):=row_set_int HRQ.out HUL2.out (by omega) _
                  have HUP3:Hid (Upto (u2.set jy (wd u2 (jy:Int)+1)) (3*(k:Int)+m+1)):=upto_set HUP2.out jy
                  have HA3:Hid (addUses (u2.set jy (wd u2 (jy:Int)+1)) ((parts ⟨1,wv,(kk:Int),av,bv,cv⟩).drop (m+1))=addUses us (parts ⟨1,wv,(kk:Int),av,bv,cv⟩)):=by
                   have h9:=HA.out
                   rw [HDR.out] at h9
                   exact h9
                  have HUL3:Hid ((u2.set jy (wd u2 (jy:Int)+1)).length=l.length):=by
                   show _=_
                   rw [List.length_set];exact HUL2.out
                  have HKK:Hid (Kept (fun b=>b=g8) w8 (wr.setCell ⟨g8,jy,none⟩ (.int .i64 (wd u2 (jy:Int)+1)))):=HKQ.out.setCell (p:=⟨g8,jy,none⟩) rfl _
                  generalize u2.set jy (wd u2 (jy:Int)+1)=u3 at HSET HUP3 HA3 HUL3
                  generalize wd u2 (jy:Int)=z at d1 hb0 hb1 HSET HKK
                  go_wp2
                  go_region
                  all_goals
                   go_wp2
                   go_roundw
                   case rel=>exact ⟨m+1,by omega,by go_num,u3,HA3.out,HUL3.out,upto_mono HUP3.out (by omega),HSET.out.drew,HKK.out.drew⟩
                   case measure=>simp [intOf];omega
                 ·have hmz:¬ (m:Int) < ((parts ⟨1,wv,(kk:Int),av,bv,cv⟩).length:Int):=by omega
                  have HA2:Hid (usesTo l ws (k+1)=some u2):=by
                   show _=_
                   have h9:=HA.out
                   rw [List.drop_of_length_le (by omega)] at h9
                   rw [HU2.out]
                   exact congrArg some h9.symm
                  go_wp2
                  go_roundw
                  case rel=>exact ⟨k+1,by omega,by go_num,u2,HA2.out,upto_mono HUP2.out (by omega),HRQ.out,HK8.out.trans HKQ.out⟩
                  case measure=>simp [intOf];omega
               ·
                have HOC:Hid (∀ w:World,Calls Tryz.prog 114 #[.int .i64 1] w fun e w'=>e=.returned (.bool false)/\w'=w):=fun w=>hou ▸ sOuter 1 w
                have HOC1:Hid (∀ w:World,Calls Tryz.prog 114 #[.int .i64 1] w fun e w'=>e=.returned (.bool false)/\w'=w):=fun w=>sOuter 1 w
                have HF:Hid (sentB l=false):=HFN.out (by rw [HUS2.out];rw [h1,hwd,hou];rfl)
                go_wp2
                refine wp_region_quiet_lit (by kernel_rfl) (by kernel_rfl) ?_
                repeat (first|go_big_quiet_step (first|(go_at_call 114;first|exact Calls.quiet_of_same (HOC.out _)|exact Calls.quiet_of_same (HOC1.out _)))|quiet_step (first|(go_at_call 114;first|exact Calls.quiet_of_same (HOC.out _)|exact Calls.quiet_of_same (HOC1.out _))))
                refine wpQuiet_nil ?_
                intro _ hw'
                obtain ⟨nq,hw''⟩:=hw'
                subst hw''
                go_wp2
                go_ret
                exact ⟨ret_bool HF.out.symm,below_drewN HBW.out _⟩
              ·
               have HF:Hid (sentB l=false):=HFN.out (by rw [HUS2.out];rw [h1,hwd];rfl)
               go_wp2
               refine wp_region_quiet_lit (by kernel_rfl) (by kernel_rfl) ?_
               repeat (first|go_big_quiet_step (fail)|quiet_step (fail))
               refine wpQuiet_nil ?_
               intro _ hw'
               obtain ⟨nq,hw''⟩:=hw'
               subst hw''
               go_wp2
               go_ret
               exact ⟨ret_bool HF.out.symm,below_drewN HBW.out _⟩
           ·
            have e2:k=l.length:=by omega
            subst e2
            obtain ⟨w9,rfl⟩:∃ w9:World,w9=wr:=⟨_,rfl⟩
            have HR39:Hid (Row w9 g3 l.length (fun i=>.bool (flag (reachL l) i))):=HR37.out.kept HK.out (fun e=>by have:=HG7.out;omega)
            have HR49:Hid (Row w9 g4 l.length (fun i=>.bool (flag (holdTo l l.length) i))):=HR47.out.kept HK.out (fun e=>by have:=HG7.out;omega)
            have HST:Hid (sentB l = !twice l us l.length):=sent_twice HT.out HW1.out HF0.out HQ.out HU.out
            clear HR37 HR47 HR57 HK HB7
            go_wp2
            go_loop [13] (fun q=>∃ k:Nat,k<=l.length/\q=.int .i64 k/\twice l us k=false) (fun q=>l.length - (intOf q).toNat)
            case atStart=>exact ⟨0,Nat.zero_le _,rfl,rfl⟩
            case round =>
             obtain ⟨k,hk,rfl,htw⟩:=hrel
             have HTW:Hid (twice l us k=false):=htw
             clear htw
             by_cases hlt6:k < l.length
             ·have hlz:(k:Int) < (l.length:Int):=by omega
              have f3:=(HR39.out k hlt6).1
              have f4:=(HR49.out k hlt6).1
              have f8:=(HR8.out k hlt6).1
              try dsimp only at f3 f4 f8
              have HTS:Hid (twice l us (k+1)=(twice l us k||(flag (reachL l) k&&flag (holdTo l l.length) k&&decide (1 < wd us (k:Int))))):=twice_succ l us k
              have HTF:Hid (flag (reachL l) k=true->flag (holdTo l l.length) k=true->1 < wd us (k:Int)->sentB l=false):=by
               show _->_
               intro h1 h2 h3
               rw [HST.out,twice_found hlt6 h1 h2 h3];rfl
              cases h3:flag (reachL l) k
              ·rw [h3] at f3
               have HT2:Hid (twice l us (k+1)=false):=by
                show _=_
                rw [HTS.out,HTW.out,h3];rfl
               go_wp2
               go_round
               case rel=>exact ⟨k+1,by omega,by go_num,HT2.out⟩
               case measure=>simp [intOf];omega
              ·rw [h3] at f3
               cases h4:flag (holdTo l l.length) k
               ·rw [h4] at f4
                have HT2:Hid (twice l us (k+1)=false):=by
                 show _=_
                 rw [HTS.out,HTW.out,h3,h4];rfl
                go_wp2
                go_round
                case rel=>exact ⟨k+1,by omega,by go_num,HT2.out⟩
                case measure=>simp [intOf];omega
               ·rw [h4] at f4
                by_cases h8:1 < wd us (k:Int)
                ·have HF:Hid (sentB l=false):=HTF.out h3 h4 h8
                 generalize wd us (k:Int)=z at f8 h8
                 go_wp2
                 go_ret
                 exact ⟨ret_bool HF.out.symm,HBW.out⟩
                ·have HT2:Hid (twice l us (k+1)=false):=by
                  show _=_
                  rw [HTS.out,HTW.out,h3,h4,decide_eq_false h8];rfl
                 generalize wd us (k:Int)=z at f8 h8
                 go_wp2
                 go_round
                 case rel=>exact ⟨k+1,by omega,by go_num,HT2.out⟩
                 case measure=>simp [intOf];omega
             ·have HF:Hid (sentB l=true):=by
               show _=_
               have e:k=l.length:=by omega
               rw [HST.out,<- e,HTW.out];rfl
              go_wp2
              go_ret
              exact ⟨ret_bool HF.out.symm,HBW.out⟩
   ·have HF:Hid (sentB l=false):=sent_free hf
    have hf1:(0:Int) < ((freeL l).length:Int):=by omega
    go_wp2
    go_ret
    exact ⟨ret_bool HF.out.symm,HB2.out⟩
  ·have HF:Hid (sentB l=false):=sent_root (by simpa using hw1)
   generalize (nth l (l.length - 1)).w=rw at p1 hw1
   go_wp2
   go_ret
   exact ⟨ret_bool HF.out.symm,HB1.out⟩
end Sp11
end Go.Proofs.YthanhcobfehmnaaGreat
