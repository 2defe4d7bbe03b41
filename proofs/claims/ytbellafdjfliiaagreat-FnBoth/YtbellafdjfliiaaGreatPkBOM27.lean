import Derived.Deep.CutBlock
import Derived.Test.YtbellafdjfliiaaGreatRows
import Derived.Deep.AppendLies
import Derived.OwnWalk
import Derived.Laws.MakeOwn
import Derived.Test.YtbellafdjfliiaaGreatPkBOM24
import Derived.Test.YtbellafdjfliiaaGreatPkBOM25
import Derived.Test.YtbellafdjfliiaaGreatSp11
import Derived.Test.YtbellafdjfliiaaGreatPkBOM26
import Derived.Test.YtbellafdjfliiaaGreatPkBOM0
import Derived.Test.YtbellafdjfliiaaGreatPkBOM18
import Derived.Test.YtbellafdjfliiaaGreatPkBOM9
import Derived.Test.YtbellafdjfliiaaGreatPkBOM12
namespace Go.Proofs.YtbellafdjfliiaaGreat
set_option maxRecDepth 100000
set_option maxHeartbeats 8000000
set_option linter.unusedVariables false
namespace Am11
open Go.RowKit
open Nd0 Nd3 Tm0 Tm1 Tm6 Tm8 Tm11 Aq0 Aq1 Aq13 Aq14 Ap1
open Ap2 (Own app_node)
open Sp11 (sSentence)
open Am1 (sNums)
open Am4 (sTurn)
open Am9 (sJoin)
theorem row_len (l:List Nd):(numRow l).length=8:=by simp [numRow]
theorem row_at {W:World} {B:Nat} {v:Value} {l:List Nd} (h:Owb W B v (numRow l)):∃ g c,v=.slice (some ⟨g,0,none⟩) 8 c/\B<=g/\g < W.heap.size/\(∀ u,u < 8->W.cell? ⟨g,u,none⟩=some (.bool (numB l u))):=by
 obtain ⟨g,c,hv,h1,h2⟩:=h.at (by rw [row_len];omega)
 rw [row_len] at hv
 subst hv
 refine ⟨g,c,rfl,h1,h2,fun u hu=>?_⟩
 have h3:=(h.cell' (row_len l) u hu).1
 rw [flag_get,numRow_flag l hu] at h3
 exact h3
theorem or_step {f1 f2:Nat->Bool} {bs:List Bool} {v:Nat} (hl:bs.length=8) (hv:v < 8) (h:∀ u,u < 8->flag bs u=(f1 u||(decide (u < v)&&f2 u))) {x:Bool} (hx:x=(flag bs v||f2 v)) :
 ∀ u,u < 8->flag (bs.set v x) u=(f1 u||(decide (u < v+1)&&f2 u)):=by
 intro u hu
 rw [flag_set (by omega),hx,h v hv]
 by_cases e:v=u
 ·subst e
  rw [if_pos rfl]
  simp
 ·rw [if_neg e,h u hu]
  congr 2
  by_cases hlt:u < v
  ·rw [decide_eq_true hlt,decide_eq_true (by omega)]
  ·rw [decide_eq_false hlt,decide_eq_false (by omega)]
theorem enough_no {a b:List Nd} {v:Nat} (hv:v < 8) (hs:shB a b v=true) (h:∀ x,x < 8->tkB a b (shTo a b v).length x=true):enough a b=false:=by
 have h1:=tk_least 8 h
 rw [rk_8] at h1
 have h2:=shTo_mono a b (j:=v+1) (k:=8) (by omega)
 rw [shTo_succ,hs] at h2
 simp at h2
 unfold enough
 rw [decide_eq_false]
 omega
theorem sBoth (w:World) (a1 a2:Option Addr) (l1 l2:List Nd) (c1 c2:Nat) (hN1:Nodes w a1 l1) (hN2:Nodes w a2 l2) :
 Calls Tryz.prog 7 #[.slice a1 l1.length c1,.slice a2 l2.length c2] w fun e w'=>(∃ a' c',e=.returned (.tuple #[.slice a' (bothR l1 l2).length c',.bool (bothB l1 l2)])/\WNodes w' w.heap.size a' (bothR l1 l2))/\Below w.heap.size w w':=by
 have HN1:Hid (Nodes w a1 l1):=hN1
 have HN2:Hid (Nodes w a2 l2):=hN2
 clear hN1 hN2
 go_enter Tryz.func7,Tryz.ntmps7
 go_wp2_with fail
 refine (sSentence _ _ l1 c1 HN1.out).mono ?_
 rintro e w1 ⟨rfl,hb1⟩
 have HB1:Hid (Below w.heap.size w w1):=hb1
 clear hb1
 cases hS1:sentB l1
 ·have HE:Hid (bothB l1 l2=false/\bothR l1 l2=[]):=both_1 hS1
  go_wp2
  go_ret2
  rw [HE.out.1,HE.out.2]
  exact ⟨⟨_,_,rfl,⟨Nat.zero_le _,.inl rfl⟩⟩,HB1.out.alloc HB1.out.size _⟩
 have HS1:Hid (sentB l1=true):=hS1
 clear hS1
 go_wp2_with fail
 refine (sSentence _ _ l2 c2 (HN2.out.below HB1.out)).mono ?_
 rintro e w2 ⟨rfl,hb2⟩
 have HB2:Hid (Below w.heap.size w w2):=HB1.out.trans (hb2.mono HB1.out.size)
 clear hb2 HB1
 cases hS2:sentB l2
 ·have HE:Hid (bothB l1 l2=false/\bothR l1 l2=[]):=both_2 hS2
  go_wp2
  go_ret2
  rw [HE.out.1,HE.out.2]
  exact ⟨⟨_,_,rfl,⟨Nat.zero_le _,.inl rfl⟩⟩,HB2.out.alloc HB2.out.size _⟩
 have HS2:Hid (sentB l2=true):=hS2
 have HT1:Hid (termOk l1=true):=sent_ok HS1.out
 have HT2:Hid (termOk l2=true):=sent_ok hS2
 have HNK:Hid (Nmk l2):=nmk_of HT2.out
 clear hS2
 obtain ⟨h11,h12⟩:=term_len HT1.out
 obtain ⟨h21,h22⟩:=term_len HT2.out
 go_wp2_with fail
 refine (sNums _ a1 l1 c1 (HN1.out.below HB2.out)).mono ?_
 rintro e w3 ⟨⟨v3,rfl,ho3⟩,hb3⟩
 obtain ⟨g1,k1,rfl,hg1,hg1',hc1⟩:=row_at ho3
 have HC1:Hid (∀ u,u < 8->w3.cell? ⟨g1,u,none⟩=some (.bool (numB l1 u))):=hc1
 have HG1:Hid (g1 < w3.heap.size):=hg1'
 have HB3:Hid (Below w.heap.size w w3):=HB2.out.trans (hb3.mono HB2.out.size)
 clear hb3 hg1 hg1' hc1 ho3
 go_wp2_with fail
 refine (sNums _ a1 l1 c1 (HN1.out.below HB3.out)).mono ?_
 rintro e w4 ⟨⟨v4,rfl,ho4⟩,hb4⟩
 obtain ⟨g2,k2,hv4,hg2,hg2', -⟩:=row_at ho4
 subst hv4
 have HO4:Hid (Owb w4 w3.heap.size (.slice (some ⟨g2,0,none⟩) 8 k2) (numRow l1)):=ho4
 have HG2:Hid (w3.heap.size<=g2/\g2 < w4.heap.size):=⟨hg2,hg2'⟩
 have HB34:Hid (Below w3.heap.size w3 w4):=hb4
 have HB4:Hid (Below w.heap.size w w4):=HB3.out.trans (hb4.mono HB3.out.size)
 clear hb4 hg2 hg2' ho4
 go_wp2_with fail
 refine (sNums _ a2 l2 c2 (HN2.out.below HB4.out)).mono ?_
 rintro e w5 ⟨⟨v5,rfl,ho5⟩,hb5⟩
 obtain ⟨g3,k3,rfl,hg3,hg3',hc3⟩:=row_at ho5
 have HO5:Hid (Owb w5 w3.heap.size (.slice (some ⟨g2,0,none⟩) 8 k2) (numRow l1)):=HO4.out.kept (S:=fun _=>False) (Kept.ofBelow hb5) (fun _ _ h=>h)
 have HR1:Hid (∀ W,Kept (fun k=>k=g2) w5 W->∀ u,u < 8->W.cell? ⟨g1,u,none⟩=some (.bool (numB l1 u))):=fun W hW u hu=>by
  have h1:=HG1.out
  have h2:=HG2.out
  have h3:=HB34.out.size
  have h4:=hb5.size
  have q1:=(HB34.out.cell (lt_of_cell (HC1.out u hu))).trans (HC1.out u hu)
  have q2:=(hb5.cell (lt_of_cell q1)).trans q1
  exact (hW.cell (lt_of_cell q2) (by show g1≠g2;omega)).trans q2
 have HR3:Hid (∀ W,Kept (fun k=>k=g2) w5 W->∀ u,u < 8->W.cell? ⟨g3,u,none⟩=some (.bool (numB l2 u))):=fun W hW u hu=>by
  have h2:=HG2.out
  exact (hW.cell (lt_of_cell (hc3 u hu)) (by show g3≠g2;omega)).trans (hc3 u hu)
 have HB5:Hid (Below w.heap.size w w5):=HB4.out.trans (hb5.mono HB4.out.size)
 have HKB:Hid (∀ W,Kept (fun k=>k=g2) w5 W->Below w.heap.size w W):=fun W hW=>HB5.out.trans ((hW.below (B:=w.heap.size) (fun k hk=>by
  have h1:=HB3.out.size
  have h2:=HG2.out
  omega) HB5.out.size))
 have HN5:Hid (Nodes w5 a2 (tnTo l1 l2 0)):=by
  rw [tn_zero HNK.out]
  exact HN2.out.below HB5.out
 have HSZ:Hid (w.heap.size<=w3.heap.size):=HB3.out.size
 clear hb5 hg3 hg3' hc3 ho5 HC1 HB34 HO4 HG1 HG2 HB3 HB4
 go_wp2_with fail
 go_loopw [9] (fun q wr=>∃ (v:Nat) (bs:List Bool),v<=8/\q=.int .i64 (v:Int)/\Kept (fun k=>k=g2) w5 wr/\Owb wr w3.heap.size (.slice (some ⟨g2,0,none⟩) 8 k2) bs/\bs.length=8/\∀ u,u < 8->flag bs u=(numB l1 u||(decide (u < v)&&numB l2 u))) (fun q _=>8 - (intOf q).toNat)
 case atStart=>exact ⟨0,numRow l1,Nat.zero_le _,rfl,Kept.refl _ _,HO5.out,row_len l1,fun u hu=>by rw [numRow_flag l1 hu];simp⟩
 case round =>
  clear HO5
  obtain ⟨v,bs,hv,rfl,hk,ho,hbl,hfl⟩:=hrel
  have HK:Hid (Kept (fun k=>k=g2) w5 wr):=hk
  have HO:Hid (Owb wr w3.heap.size (.slice (some ⟨g2,0,none⟩) 8 k2) bs):=ho
  have HBL:Hid (bs.length=8):=hbl
  have HFL:Hid (∀ u,u < 8->flag bs u=(numB l1 u||(decide (u < v)&&numB l2 u))):=hfl
  clear hk ho hbl hfl
  by_cases hlt:v < 8
  ·have hlz:(v:Int) < 8:=by omega
   have HOS:Hid (∀ x,x=(flag bs v||numB l2 v)->∀ u,u < 8->flag (bs.set v x) u=(numB l1 u||(decide (u < v+1)&&numB l2 u))):=fun x hx=>or_step HBL.out hlt HFL.out hx
   obtain ⟨q0,f0⟩:=HO.out.cell' HBL.out v hlt
   rw [flag_get] at q0
   have p0:=HR3.out _ HK.out v hlt
   cases hb:flag bs v
   ·rw [hb] at q0 HOS
    obtain ⟨x,hx⟩:∃ x:Bool,x=numB l2 v:=⟨_,rfl⟩
    rw [<- hx] at p0
    have HX:Hid (∀ u,u < 8->flag (bs.set v x) u=(numB l1 u||(decide (u < v+1)&&numB l2 u))):=HOS.out x (by rw [hx];rfl)
    clear hb hx HOS
    go_wp2_with fail
    go_roundw
    case rel=>exact ⟨v+1,bs.set v x,by omega,by go_num,HK.out.setCell rfl _,HO.out.set' HBL.out _ _,by rw [List.length_set];exact HBL.out,HX.out⟩
    case measure=>simp [intOf];omega
   ·rw [hb] at q0 HOS
    have HX:Hid (∀ u,u < 8->flag (bs.set v true) u=(numB l1 u||(decide (u < v+1)&&numB l2 u))):=HOS.out true rfl
    clear hb p0 HOS
    go_wp2_with fail
    go_roundw
    case rel=>exact ⟨v+1,bs.set v true,by omega,by go_num,HK.out.setCell rfl _,HO.out.set' HBL.out _ _,by rw [List.length_set];exact HBL.out,HX.out⟩
    case measure=>simp [intOf];omega
  ·have e:v=8:=by omega
   subst e
   obtain ⟨wi,rfl⟩:∃ wi:World,wi=wr:=⟨_,rfl⟩
   have HTK:Hid (∀ u,u < 8->flag bs u=tkB l1 l2 (shTo l1 l2 0).length u):=fun u hu=>by
    rw [HFL.out u hu,decide_eq_true hu,Bool.true_and]
    exact (tk_zero l1 l2 u).symm
   have HNI:Hid (Nodes wi a2 (tnTo l1 l2 0)):=HN2.out.below (HKB.out _ HK.out) |> fun h=>by rw [tn_zero HNK.out];exact h
   have HA2:Hid (∀ y,a2=some y->y.block≠g2):=fun y hy=>by
    rcases HN2.out.2 with h0|⟨b9,o9,he,hc⟩
    ·omega
    ·have h1:=(hc 0 (by omega)).lt
     rw [he] at hy
     cases hy
     have h2:=HO.out.lt g2 rfl
     have h3:=HSZ.out
     show b9≠g2
     omega
   clear HFL HN5
   go_wp2_with fail
   go_loopw [1,10] (fun bq q wr=>∃ (v:Nat) (bs:List Bool) (a:Option Addr) (c:Nat),v<=8/\q=.int .i64 (v:Int)/\bq=.slice a l2.length c/\Nodes wr a (tnTo l1 l2 v)/\(∀ y,a=some y->y.block≠g2)/\Kept (fun k=>k=g2) w5 wr/\Owb wr w3.heap.size (.slice (some ⟨g2,0,none⟩) 8 k2) bs/\bs.length=8/\(∀ u,u < 8->flag bs u=tkB l1 l2 (shTo l1 l2 v).length u)/\(shTo l1 l2 v).length<=(lfL l1 l2).length) (fun _ q _=>8 - (intOf q).toNat)
   case atStart=>exact ⟨0,bs,a2,c2,Nat.zero_le _,rfl,rfl,HNI.out,HA2.out,HK.out,HO.out,HBL.out,HTK.out,Nat.zero_le _⟩
   case round =>
    clear HK HO HBL HTK HNI HA2
    obtain ⟨v,bs,a,c,hv,rfl,rfl,hn,hane,hk,ho,hbl,hfl,hlf⟩:=hrel
    have HK:Hid (Kept (fun k=>k=g2) w5 wr):=hk
    have HO:Hid (Owb wr w3.heap.size (.slice (some ⟨g2,0,none⟩) 8 k2) bs):=ho
    have HBL:Hid (bs.length=8):=hbl
    have HFL:Hid (∀ u,u < 8->flag bs u=tkB l1 l2 (shTo l1 l2 v).length u):=hfl
    have HLF:Hid ((shTo l1 l2 v).length<=(lfL l1 l2).length):=hlf
    have HNW:Hid (Nodes wr a (tnTo l1 l2 v)):=hn
    have HAN:Hid (∀ y,a=some y->y.block≠g2):=hane
    clear hk ho hbl hfl hn hane hlf
    by_cases hlt:v < 8
    ·have hlz:(v:Int) < 8:=by omega
     have p1:=HR1.out _ HK.out v hlt
     have p3:=HR3.out _ HK.out v hlt
     have HSH:Hid (shB l1 l2 v=(numB l1 v&&numB l2 v)):=rfl
     have HNO:Hid (shB l1 l2 v=false->tnTo l1 l2 (v+1)=tnTo l1 l2 v/\(shTo l1 l2 (v+1)).length=(shTo l1 l2 v).length):=fun h=>⟨tn_skip HNK.out h,by rw [shTo_succ,h];rfl⟩
     cases hm:numB l1 v
     ·rw [hm] at p1 HSH
      have HN2':Hid (tnTo l1 l2 (v+1)=tnTo l1 l2 v/\(shTo l1 l2 (v+1)).length=(shTo l1 l2 v).length):=HNO.out (by rw [HSH.out];rfl)
      clear hm p3 HNO HSH
      go_wp2_with fail
      go_roundw
      case rel=>exact ⟨v+1,bs,a,c,by omega,by go_num,rfl,by rw [HN2'.out.1];exact HNW.out,HAN.out,HK.out,HO.out,HBL.out,by rw [HN2'.out.2];exact HFL.out,by rw [HN2'.out.2];exact HLF.out⟩
      case measure=>simp [intOf];omega
     ·cases hm2:numB l2 v
      ·rw [hm] at p1 HSH
       rw [hm2] at p3 HSH
       have HN2':Hid (tnTo l1 l2 (v+1)=tnTo l1 l2 v/\(shTo l1 l2 (v+1)).length=(shTo l1 l2 v).length):=HNO.out (by rw [HSH.out];rfl)
       clear hm hm2 HNO HSH
       go_wp2_with fail
       go_roundw
       case rel=>exact ⟨v+1,bs,a,c,by omega,by go_num,rfl,by rw [HN2'.out.1];exact HNW.out,HAN.out,HK.out,HO.out,HBL.out,by rw [HN2'.out.2];exact HFL.out,by rw [HN2'.out.2];exact HLF.out⟩
       case measure=>simp [intOf];omega
      ·rw [hm] at p1 HSH
       rw [hm2] at p3 HSH
       have HSB:Hid (shB l1 l2 v=true):=HSH.out
       clear hm hm2 HNO HSH
       obtain ⟨wi,rfl⟩:∃ wi:World,wi=wr:=⟨_,rfl⟩
       go_wp2_with fail
       go_loopw [11] (fun q wr=>∃ u:Nat,u<=8/\q=.int .i64 (u:Int)/\wr=wi/\∀ x,x < u->flag bs x=true) (fun q _=>8 - (intOf q).toNat)
       case atStart=>exact ⟨0,Nat.zero_le _,rfl,rfl,fun x hx=>absurd hx (Nat.not_lt_zero _)⟩
       case round =>
        clear p1 p3
        obtain ⟨u,hu,rfl,rfl,hfu⟩:=hrel
        have HFU:Hid (∀ x,x < u->flag bs x=true):=hfu
        clear hfu
        by_cases hlu:u < 8
        ·have hluz:(u:Int) < 8:=by omega
         obtain ⟨q0,f0⟩:=HO.out.cell' HBL.out u hlu
         rw [flag_get] at q0
         cases hb:flag bs u
         ·rw [hb] at q0
          have hu8:((u:Int)==8)=false:=by simp;omega
          have HAT:Hid (lfB l1 l2 u=true/\rk l1 l2 u=(shTo l1 l2 v).length):=tk_at (fun x hx=>by rw [<- HFL.out x (by omega)];exact HFU.out x hx) (by rw [<- HFL.out u hlu];exact hb)
          have HGD:Hid ((lfL l1 l2).getD (shTo l1 l2 v).length 0=u):=by
           have h1:=lf_rk l1 l2 hlu HAT.out.1
           rw [HAT.out.2] at h1
           exact h1
          have HLT:Hid ((shTo l1 l2 v).length < (lfL l1 l2).length):=by
           have h1:=rk_mono l1 l2 (u:=u+1) (v:=8) (by omega)
           rw [rk_succ,HAT.out.1,HAT.out.2,rk_8] at h1
           simp at h1
           show _ < _
           omega
          have HTN:Hid (renL (tnTo l1 l2 v) (v:Int) (u:Int)=tnTo l1 l2 (v+1)):=tn_turn HNK.out HSB.out HGD.out HLT.out
          have HSL:Hid ((shTo l1 l2 (v+1)).length=(shTo l1 l2 v).length+1):=by show _=_;rw [shTo_succ,HSB.out];simp
          have HF2:Hid (∀ x,x < 8->flag (bs.set u true) x=tkB l1 l2 (shTo l1 l2 (v+1)).length x):=fun x hx=>by
           rw [HSL.out,tk_set HAT.out.1 HAT.out.2,flag_set (by rw [HBL.out];exact hlu),<- HFL.out x hx]
          have HO2:Hid (Owb (wr.setCell ⟨g2,u,none⟩ (.bool true)) w3.heap.size (.slice (some ⟨g2,0,none⟩) 8 k2) (bs.set u true)):=HO.out.set' HBL.out _ _
          have HK2:Hid (Kept (fun k=>k=g2) w5 (wr.setCell ⟨g2,u,none⟩ (.bool true))):=HK.out.setCell rfl _
          have HN3:Hid (Nodes (wr.setCell ⟨g2,u,none⟩ (.bool true)) a (tnTo l1 l2 v)):=HNW.out.kept (S:=fun k=>k=g2) ((Kept.refl (fun k=>k=g2) wr).setCell (p:=⟨g2,u,none⟩) rfl (.bool true)) (fun y hy=>HAN.out y hy)
          have htl:(tnTo l1 l2 v).length=l2.length:=tn_len l1 l2 v
          have HST:Hid (Calls Tryz.prog 28 #[.slice a l2.length c,.int .i64 v,.int .i64 u] (wr.setCell ⟨g2,u,none⟩ (.bool true)) fun e w'=>(∃ x,e=.returned x/\Own w' (wr.setCell ⟨g2,u,none⟩ (.bool true)).heap.size x (tnTo l1 l2 (v+1)))/\Below (wr.setCell ⟨g2,u,none⟩ (.bool true)).heap.size (wr.setCell ⟨g2,u,none⟩ (.bool true)) w'):=by
           have h1:=sTurn (wr.setCell ⟨g2,u,none⟩ (.bool true)) a (tnTo l1 l2 v) c (v:Int) (u:Int) HN3.out (by omega)
           rw [HTN.out,htl] at h1
           exact h1
          clear hb htl HFU HAT HGD HTN HN3 HNW HAN HO HK HFL
          go_wp2_with fail
          refine HST.out.mono ?_
          rintro e w6 ⟨⟨x,rfl,hx⟩,hb6⟩
          obtain ⟨a6,c6,rfl,hw6⟩:=hx.form
          have hwn:Nodes w6 a6 (tnTo l1 l2 (v+1)):=hw6.nodes
          have HN6:Hid (Nodes w6 a6 (tnTo l1 l2 (v+1))):=hwn
          have HA6:Hid (∀ y,a6=some y->y.block≠g2):=fun y hy=>by
           rcases hw6.2 with h0|⟨b9,o9,he,hB, -, -⟩
           ·rw [tn_len] at h0;omega
           ·rw [he] at hy
            cases hy
            have h1:=(HO2.out.lt g2 rfl).2
            show b9≠g2
            omega
          have HK6:Hid (Kept (fun k=>k=g2) w5 w6):=HK2.out.trans (Kept.ofBelow hb6)
          have HO6:Hid (Owb w6 w3.heap.size (.slice (some ⟨g2,0,none⟩) 8 k2) (bs.set u true)):=HO2.out.kept (S:=fun _=>False) (Kept.ofBelow hb6) (fun _ _ h=>h)
          rw [tn_len]
          clear hx hw6 hb6 hwn HO2 HK2 HST
          go_wp2_with fail
          go_roundw
          case rel =>
           repeat apply Exists.intro
           refine ⟨?_,rfl⟩
           exact ⟨v+1,bs.set u true,a6,c6,by omega,by go_num,rfl,HN6.out,HA6.out,HK6.out,HO6.out,by rw [List.length_set];exact HBL.out,HF2.out,by have h1:=HLT.out;rw [HSL.out];omega⟩
          case measure=>simp [intOf];omega
         ·rw [hb] at q0
          have HFU':Hid (∀ x,x < u+1->flag bs x=true):=fun x hx=>by
           by_cases e:x=u
           ·rw [e];exact hb
           ·exact HFU.out x (by omega)
          clear hb HFU
          go_wp2_with fail
          go_roundw
          case rel=>exact ⟨u+1,by omega,by go_num,trivial,HFU'.out⟩
          case measure=>simp [intOf];omega
        ·have e:u=8:=by omega
         subst e
         have HE:Hid (bothB l1 l2=false/\bothR l1 l2=[]):=both_3 (enough_no hlt HSB.out (fun x hx=>by rw [<- HFL.out x hx];exact HFU.out x hx))
         have HBF:Hid (Below w.heap.size w wr):=HKB.out _ HK.out
         clear HFU HFL
         go_wp2_with fail
         go_ret2
         rw [HE.out.1,HE.out.2]
         exact ⟨⟨_,_,rfl,⟨Nat.zero_le _,.inl rfl⟩⟩,HBF.out.alloc HBF.out.size _⟩
    ·have e:v=8:=by omega
     subst e
     have HEN:Hid (enough l1 l2=true):=by
      show enough l1 l2=true
      unfold enough
      rw [decide_eq_true HLF.out]
     have HE:Hid (bothB l1 l2=termOk (bothAll l1 l2)/\bothR l1 l2=if termOk (bothAll l1 l2) then bothAll l1 l2 else []):=both_4 HS1.out HS2.out HEN.out
     obtain ⟨L,hL⟩:∃ L,L=l2.map (nwN l1 l2):=⟨_,rfl⟩
     have hLl:L.length=l2.length:=by rw [hL,List.length_map]
     have HLL:Hid (L.length=l2.length):=hLl
     have HND:Hid (Down L):=by rw [hL];exact down_map (down_of HT2.out) _ (nwN_parts l1 l2)
     have HNL:Hid (Nodes wr a L):=by have h1:=HNW.out;rw [tn_all HNK.out,<- hL] at h1;exact h1
     have HBA:Hid (bothAll l1 l2=joinL l1 L++[bothN l1 l2]):=by show _=_;rw [hL];rfl
     have HBR:Hid (Below w.heap.size w wr):=HKB.out _ HK.out
     have HJ:Hid (Calls Tryz.prog 29 #[.slice a1 l1.length c1,.slice a l2.length c] wr fun e w'=>(∃ g cp,e=.returned (.slice (some ⟨g,0,none⟩) (joinL l1 L).length cp)/\Own w' wr.heap.size (.slice (some ⟨g,0,none⟩) (joinL l1 L).length cp) (joinL l1 L))/\Below wr.heap.size wr w'):=by
      have h1:=sJoin wr a1 a l1 L c1 c (HN1.out.below HBR.out) HNL.out ⟨h11,h12⟩ (by omega) HND.out
      rw [hLl] at h1
      exact h1
     clear HLF HFL HNW HAN HO HBL HK HEN HNL HND hL
     go_wp2_with fail
     refine HJ.out.mono ?_
     rintro e w6 ⟨⟨g,cp,rfl,ho6⟩,hb6⟩
     have HO6:Hid (Own w6 wr.heap.size (.slice (some ⟨g,0,none⟩) (joinL l1 L).length cp) (joinL l1 L)):=ho6
     have HB6:Hid (Below w.heap.size w w6):=HBR.out.trans (hb6.mono HBR.out.size)
     have HS6:Hid (wr.heap.size<=w6.heap.size):=hb6.size
     have HW6:Hid (w.heap.size<=wr.heap.size):=HBR.out.size
     have hjl:(joinL l1 L).length=l1.length+L.length:=joinL_length l1 L
     have HBN:Hid (bothN l1 l2=⟨3,1,0,(l1.length:Int) - 1,((joinL l1 L).length:Int) - 1,0⟩):=by show _=_;rw [hjl,hLl];unfold bothN;simp
     have hj1:1<=(joinL l1 L).length:=by omega
     have hj2:(joinL l1 L).length<=160:=by omega
     clear ho6 hb6 hjl HJ hLl HLL
     generalize bothN l1 l2=y at HBN HBA
     generalize joinL l1 L=X at HO6 HBA HBN hj1 hj2 ⊢
     generalize bothAll l1 l2=E at HBA HE
     have HYE:Hid (X++[⟨3,1,0,(l1.length:Int) - 1,(X.length:Int) - 1,0⟩]=E):=by show _=_;rw [HBA.out,HBN.out]
     clear HBA HBN
     have hs6:wr.heap.size<=w6.heap.size:=HS6.out
     go_wp2_with (at_builtin;go_must (refine app_node w6 rfl _ _ rfl wr.heap.size (.slice (some ⟨g,0,none⟩) X.length cp) X ⟨3,1,0,(l1.length:Int) - 1,(X.length:Int) - 1,0⟩ rfl _ rfl rfl HO6.out hs6 (by omega) ?_;intro g7 cp7 w7 ho7 hk7 hg7))
     have HB7:Hid (Below w.heap.size w w7):=HB6.out.trans (hk7.below (fun b hb=>by have:=(HO6.out.lt b hb).1;have:=HW6.out;omega) HB6.out.size)
     have HW7:Hid (WNodes w7 w.heap.size (some ⟨g7,0,none⟩) E):=by
      rw [HYE.out] at ho7
      obtain ⟨av,cv,hv,hw⟩:=ho7.form
      simp only [Value.slice.injEq] at hv
      rw [hv.1]
      refine ⟨hw.1,?_⟩
      rcases hw.2 with h0|⟨b9,o9,he,hB,hcc,hf⟩
      ·exact .inl h0
      ·exact .inr ⟨b9,o9,he,by have:=HW6.out;omega,hcc,hf⟩
     have HEQ:Hid (X.length+1=E.length):=by show _=_;rw [<- HYE.out,List.length_append];rfl
     clear ho7 hk7 hg7 HO6 HYE
     rw [HEQ.out]
     go_wp2_with fail
     refine (Sp4.sTermOk _ _ E cp7 HW7.out.nodes).mono ?_
     rintro e w8 ⟨rfl,hb8⟩
     have HB8:Hid (Below w.heap.size w w8):=HB7.out.trans (hb8.mono HB7.out.size)
     have HW8:Hid (WNodes w8 w.heap.size (some ⟨g7,0,none⟩) E):=Am5.wnodes_below HW7.out hb8
     clear hb8
     cases hTE:termOk E
     ·rw [hTE] at HE
      have HE2:Hid (bothB l1 l2=false/\bothR l1 l2=[]):=⟨HE.out.1,HE.out.2⟩
      clear HE hTE
      go_wp2_with fail
      go_ret2
      rw [HE2.out.1,HE2.out.2]
      exact ⟨⟨_,_,rfl,⟨Nat.zero_le _,.inl rfl⟩⟩,HB8.out.alloc HB8.out.size _⟩
     ·rw [hTE] at HE
      have HE2:Hid (bothB l1 l2=true/\bothR l1 l2=E):=⟨HE.out.1,HE.out.2⟩
      clear HE hTE
      go_wp2_with fail
      go_ret2
      rw [HE2.out.1,HE2.out.2]
      exact ⟨⟨_,_,rfl,HW8.out⟩,HB8.out⟩
end Am11
namespace Ap12
open Go.RowKit
open Nd0
theorem infoV:(Tryz.prog.info? 45).map (fun i=>(i.zero,i.size,i.bytes))=some (some (.int .u8 0),1,1):=by kernel_rfl
def Ov (w:World) (B:Nat) (v:Value) (l:List Int):Prop:=w.ownsRow B 45 1 v l.length (l.map fun x=>.int .u8 x)
theorem Ov.form {w:World} {B:Nat} {v:Value} {l:List Int} (h:Ov w B v l):∃ a c,v=.slice a l.length c:=by
 obtain ⟨h1,h2⟩:=h
 rcases h2 with ⟨rfl,h0⟩|⟨g,cap,cur,rfl,hb,hg,hn,hm,hs,ht⟩
 ·have:l=[]:=List.eq_nil_of_length_eq_zero h0
  subst this
  exact ⟨none,0,rfl⟩
 ·exact ⟨_,_,rfl⟩
theorem Ov.lit (w:World) (B:Nat) (hB:B<=w.heap.size):Ov (w.alloc (.cells #[] 45)) B (.slice (some ⟨w.heap.size,0,none⟩) 0 0) [] :=
 World.ownsRow_lit w #[] 0 hB (Nat.zero_le _) rfl
theorem Ov.lt {w:World} {B:Nat} {v:Value} {l:List Int} (h:Ov w B v l):∀ k,v.ownBlock=some k->B<=k/\k < w.heap.size:=World.ownsRow.lt h
theorem Ov.kept {w w':World} {B:Nat} {v:Value} {l:List Int} (h:Ov w B v l) {S:Nat->Prop} (k:Kept S w w') (hs:∀ i,v.ownBlock=some i->¬ S i):Ov w' B v l:=by
 refine ⟨h.1,?_⟩
 rcases h.2 with hn|⟨g,cap,cur,rfl,hb,hgg,rest⟩
 ·exact .inl hn
 ·refine .inr ⟨g,cap,cur,rfl,hb,?_,rest⟩
  rw [k.block g (Array.getElem?_eq_some_iff.1 hgg).1 (hs g rfl)]
  exact hgg
theorem app_v {ops:Array Oper} {rest:List Oper} {o:Oper} {a:Act} {Q:Exit->Act->World->Prop} (W:World) (hgd:o.guard=none) (s x:Operand)
 (ho:o.op=.call { callee:=.builtin .append,args := #[s,x],argTypes := #[69,69] })
 (B:Nat) (v:Value) (l:List Int) (y:Int) (hs:a.eval s=v) (hx:a.eval x=.slice (some ⟨W.heap.size,0,none⟩) 1 1)
 (hown:Ov W B v l) (hB:B<=W.heap.size) (hlen:l.length<=1048576)
 (h:∀ g cap w',Ov w' B (.slice (some ⟨g,0,none⟩) (l.length+1) cap) (l++[y])->Kept (fun k=>v.ownBlock=some k) W w'->(v.ownBlock=some g\/W.heap.size<=g)->wpList Tryz.prog ops Q rest (a.put o.dst (.slice (some ⟨g,0,none⟩) (l.length+1) cap)) w') :
 wpList Tryz.prog ops Q (o :: rest) a (W.alloc (.cells #[.int .u8 y] 45)):=by
 obtain ⟨i,hi,hzz⟩:=Option.map_eq_some_iff.1 infoV
 simp only [Prod.mk.injEq] at hzz
 obtain ⟨hz,hsz,hb⟩:=hzz
 refine wpList_append_lies (W.alloc (.cells #[.int .u8 y] 45)) hgd s x 69 ho B 45 i (.int .u8 0) 1 1 Tryz.underlying69 hi hz hsz hb rfl (by omega) v l.length (l.map fun x=>.int .u8 x) hs (World.ownsRow.alloc hown _)
  ⟨W.heap.size,0,none⟩ 1 1 [.int .u8 y] hx rfl ?_ ?_ (by omega) (by unfold maxLen;omega) (by omega) (by simp;omega) _ rfl ?_
 ·intro j u hu
  exact World.news_of_block (heap_alloc_new W _) j u hu
 ·intro u hu
  simp at hu
  subst hu
  rfl
 ·intro g cap w' h1 h2 h3 h4
  refine h g cap w' ?_ ?_ ?_
  ·unfold Ov
   simpa using h1
  ·have k1:Kept (fun k=>v.ownBlock=some k) W (W.alloc (.cells #[.int .u8 y] 45)):=(Kept.refl _ W).alloc _
   exact k1.trans ⟨h2.os,h2.tape,h2.output,h2.size,fun k hk hn=>h2.block k hk (fun e=>hn e.symm)⟩
  ·rcases h3 with h3|h3
   ·exact .inl h3
   ·exact .inr (by rw [h3];simp)
def noughts (n:Nat):Array Value:=madeCells #[.int .u8 0] (n*1)
theorem noughts_get (n j:Nat) (h:j < n):(noughts n)[j]? = some (.int .u8 0):=by
 simp only [noughts,madeCells,Array.getElem?_map,Array.getElem?_range]
 rw [if_pos (by omega)]
 simp only [Option.map_some,List.size_toArray,List.length_cons,List.length_nil,Nat.zero_add,Nat.mod_one]
 rfl
theorem makeVs (n:Nat) (hn:n<=1048576) (w:World) :
 (Instr.makeSlice 69 (.int .i64 (n:Int)) (.int .i64 (n:Int))).run Tryz.prog w=.ok (.slice (some ⟨w.heap.size,0,none⟩) n n) (w.alloc (.cells (noughts n) 45)):=by
 obtain ⟨i,hi,hzz⟩:=Option.map_eq_some_iff.1 infoV
 simp only [Prod.mk.injEq] at hzz
 obtain ⟨hz,hs,hb⟩:=hzz
 have h:=run_make (P:=Tryz.prog) w 69 45 i _ Tryz.underlying69 hi hz .i64 .i64 n n (by omega) (Int.le_refl _) (by rw [hb];omega) (by omega)
 rw [hs] at h
 simpa [noughts,Value.cells] using h
end Ap12
namespace Pg10
open Go.RowKit
open Nd0 Nd3 Tm0 Tm1 Tm2 Tm3 Tm8 Ap2 Pg1 Pg2 Rw0
open Lx1 (ITermOk)
open Lx2 (IReached)
open Ws1 (ret_int ret_bool)
def mv (P:Nat->Int) (n:Nd):Nd :=
 ⟨n.op,n.w,n.k,if 0 < cnt n.op then P n.a.toNat else n.a,if 1 < cnt n.op then P n.b.toNat else n.b,if 2 < cnt n.op then P n.c.toNat else n.c⟩
theorem iMoved (n:Nd) (w:World) (gp len cap:Nat) (P:Nat->Int) (hr:Row w gp len (fun i=>.int .i64 (P i))) (hp:∀ p∈parts n,0<=p/\p < (len:Int)) (hl:len<=80) :
 Calls Tryz.prog 55 #[.agg #[.int .i64 n.op,.int .i64 n.w,.int .i64 n.k,.int .i64 n.a,.int .i64 n.b,.int .i64 n.c],.slice (some ⟨gp,0,none⟩) len cap] w fun e w' =>
  e=.returned (.agg #[.int .i64 (mv P n).op,.int .i64 (mv P n).w,.int .i64 (mv P n).k,.int .i64 (mv P n).a,.int .i64 (mv P n).b,.int .i64 (mv P n).c])/\Below w.heap.size w w':=by
 have hc3:=cnt_le n.op
 have hcp:=cnt_parts n
 have HC:Hid (cnt n.op=0\/cnt n.op=1\/cnt n.op=2\/cnt n.op=3):=by show _\/_;omega
 have HV:Hid (mv P n=⟨n.op,n.w,n.k,if 0 < cnt n.op then P n.a.toNat else n.a,if 1 < cnt n.op then P n.b.toNat else n.b,if 2 < cnt n.op then P n.c.toNat else n.c⟩):=rfl
 have HPC:=parts_cases n
 have HA:Hid (0 < cnt n.op->∃ j:Nat,n.a=(j:Int)/\j < len/\w.cell? ⟨gp,j,none⟩=some (.int .i64 (P n.a.toNat))):=by
  show _->_
  intro h
  have hm:n.a∈parts n:=by
   rcases HPC with e|e|e|e
   ·rw [e] at hcp;simp at hcp;omega
   ·rw [e];simp
   ·rw [e];simp
   ·rw [e];simp
  obtain ⟨h0,h1⟩:=hp _ hm
  exact ⟨n.a.toNat,by omega,by omega,(hr n.a.toNat (by omega)).1⟩
 have HB:Hid (1 < cnt n.op->∃ j:Nat,n.b=(j:Int)/\j < len/\w.cell? ⟨gp,j,none⟩=some (.int .i64 (P n.b.toNat))):=by
  show _->_
  intro h
  have hm:n.b∈parts n:=by
   rcases HPC with e|e|e|e
   ·rw [e] at hcp;simp at hcp;omega
   ·rw [e] at hcp;simp at hcp;omega
   ·rw [e];simp
   ·rw [e];simp
  obtain ⟨h0,h1⟩:=hp _ hm
  exact ⟨n.b.toNat,by omega,by omega,(hr n.b.toNat (by omega)).1⟩
 have HD:Hid (2 < cnt n.op->∃ j:Nat,n.c=(j:Int)/\j < len/\w.cell? ⟨gp,j,none⟩=some (.int .i64 (P n.c.toNat))):=by
  show _->_
  intro h
  have hm:n.c∈parts n:=by
   rcases HPC with e|e|e|e
   ·rw [e] at hcp;simp at hcp;omega
   ·rw [e] at hcp;simp at hcp;omega
   ·rw [e] at hcp;simp at hcp;omega
   ·rw [e];simp
  obtain ⟨h0,h1⟩:=hp _ hm
  exact ⟨n.c.toNat,by omega,by omega,(hr n.c.toNat (by omega)).1⟩
 clear hc3 hcp HPC hr hp
 generalize mv P n=u at HV ⊢
 generalize P n.a.toNat=xa at HV HA
 generalize P n.b.toNat=xb at HV HB
 generalize P n.c.toNat=xc at HV HD
 obtain ⟨op,m,k,a,b,c⟩:=n
 dsimp only at *
 rcases HC.out with hc|hc|hc|hc
 ·have HK:Hid (cnt op=_):=hc
  clear HA HB HD
  go_enter Tryz.func55,Tryz.ntmps55
  go_wp2_with (go_at_call 76;refine (iCount _ _).mono ?_;rintro e w' ⟨rfl,rfl⟩;rw [hc])
  refine bodyPost_ret (v:=.agg #[.int .i64 u.op,.int .i64 u.w,.int .i64 u.k,.int .i64 u.a,.int .i64 u.b,.int .i64 u.c]) ?_ rfl ⟨rfl,?_⟩
  ·have h9:=HV.out
   rw [HK.out] at h9
   simp at h9
   subst h9
   simp [results,Tryz.results55,go_sem]
  ·exact ((Below.refl _ _).alloc (Nat.le_refl _) _).alloc (by simp) _
 ·have HK:Hid (cnt op=_):=hc
  obtain ⟨ja,rfl,hja,pa⟩:=HA.out (by omega)
  have hz1:(ja:Int) < (len:Int):=by omega
  have hn0:gp < w.heap.size:=lt_of_cell (p:=⟨gp,ja,none⟩) pa
  have hn1:gp < w.heap.size+1:=by omega
  clear HA HB HD
  go_enter Tryz.func55,Tryz.ntmps55
  go_wp2_with (go_at_call 76;refine (iCount _ _).mono ?_;rintro e w' ⟨rfl,rfl⟩;rw [hc])
  refine bodyPost_ret (v:=.agg #[.int .i64 u.op,.int .i64 u.w,.int .i64 u.k,.int .i64 u.a,.int .i64 u.b,.int .i64 u.c]) ?_ rfl ⟨rfl,?_⟩
  ·have h9:=HV.out
   rw [HK.out] at h9
   simp at h9
   subst h9
   simp [results,Tryz.results55,go_sem]
  ·exact ((Below.refl _ _).alloc (Nat.le_refl _) _).alloc (by simp) _
 ·have HK:Hid (cnt op=_):=hc
  obtain ⟨ja,rfl,hja,pa⟩:=HA.out (by omega)
  obtain ⟨jb,rfl,hjb,pb⟩:=HB.out (by omega)
  have hz1:(ja:Int) < (len:Int):=by omega
  have hz2:(jb:Int) < (len:Int):=by omega
  have hn0:gp < w.heap.size:=lt_of_cell (p:=⟨gp,ja,none⟩) pa
  have hn1:gp < w.heap.size+1:=by omega
  clear HA HB HD
  go_enter Tryz.func55,Tryz.ntmps55
  go_wp2_with (go_at_call 76;refine (iCount _ _).mono ?_;rintro e w' ⟨rfl,rfl⟩;rw [hc])
  refine bodyPost_ret (v:=.agg #[.int .i64 u.op,.int .i64 u.w,.int .i64 u.k,.int .i64 u.a,.int .i64 u.b,.int .i64 u.c]) ?_ rfl ⟨rfl,?_⟩
  ·have h9:=HV.out
   rw [HK.out] at h9
   simp at h9
   subst h9
   simp [results,Tryz.results55,go_sem]
  ·exact ((Below.refl _ _).alloc (Nat.le_refl _) _).alloc (by simp) _
 ·have HK:Hid (cnt op=_):=hc
  obtain ⟨ja,rfl,hja,pa⟩:=HA.out (by omega)
  obtain ⟨jb,rfl,hjb,pb⟩:=HB.out (by omega)
  obtain ⟨jc,rfl,hjc,pc⟩:=HD.out (by omega)
  have hz1:(ja:Int) < (len:Int):=by omega
  have hz2:(jb:Int) < (len:Int):=by omega
  have hz3:(jc:Int) < (len:Int):=by omega
  have hn0:gp < w.heap.size:=lt_of_cell (p:=⟨gp,ja,none⟩) pa
  have hn1:gp < w.heap.size+1:=by omega
  clear HA HB HD
  go_enter Tryz.func55,Tryz.ntmps55
  go_wp2_with (go_at_call 76;refine (iCount _ _).mono ?_;rintro e w' ⟨rfl,rfl⟩;rw [hc])
  refine bodyPost_ret (v:=.agg #[.int .i64 u.op,.int .i64 u.w,.int .i64 u.k,.int .i64 u.a,.int .i64 u.b,.int .i64 u.c]) ?_ rfl ⟨rfl,?_⟩
  ·have h9:=HV.out
   rw [HK.out] at h9
   simp at h9
   subst h9
   simp [results,Tryz.results55,go_sem]
  ·exact ((Below.refl _ _).alloc (Nat.le_refl _) _).alloc (by simp) _
end Pg10
end Go.Proofs.YtbellafdjfliiaaGreat
