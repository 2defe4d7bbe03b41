import Derived.WalkSpells
import Derived.Deep.Light
import Derived.Test.YtebejleeadofcaaGreatPkFR15
import Derived.Test.YtebejleeadofcaaGreatPkFR29
import Derived.Test.YtebejleeadofcaaGreatPkFR33
import Derived.Test.YtebejleeadofcaaGreatPkFR25
import Derived.Test.YtebejleeadofcaaGreatPkFR34
import Derived.Test.YtebejleeadofcaaGreatPkFR35
import Derived.Test.YtebejleeadofcaaGreatPkFR48
import Derived.Test.YtebejleeadofcaaGreatPkFR38
import Derived.Test.YtebejleeadofcaaGreatPkFR32
namespace Go.Proofs.YtebejleeadofcaaGreat
set_option maxRecDepth 100000
set_option maxHeartbeats 8000000
set_option linter.unusedVariables false
namespace Lfr1
open Go.RowKit
open Nd0 Nd3 Qa0 Tm0 Tm6 Tm11 Lw4 Fr0 Fr2 Fb1
open Dr0 (Bytes)
open Ds1 (drawSaid)
open Lw5 (sameNodes)
open Lx6 (IBits)
open Ic4 (IHolds)
open Vl5 (holdsL)
open Fm1 (sSwaps iSwaps iRows)
open Fp2 (IFrontOk)
open Fp3 (IBack)
open Fp7 (IHoldsFront)
open Fq4 (IFront frontR_short)
open Sv7 (sHolds)
theorem drawn {B:Nat} {u w:World} (h:Below B u w) (m:Nat):Below B u (w.drewN m):=⟨h.os,h.tape,h.output,h.size,h.block⟩
theorem lawFront (hFR:IFront) (hFO:IFrontOk) (hHF:IHoldsFront) (hBI:IBits) (hBA:IBack) (hHO:IHolds) (w:World) (a:Option Addr) (len cap:Nat) (hb:Bytes w a len) :
 Calls Tryz.prog 3 #[.slice a len cap] w fun e w'=>e=.returned (.bool true)/\Below w.heap.size w w':=by
 have HB:Hid (Bytes w a len):=hb
 have HFR:Hid IFront:=hFR
 have HFO:Hid IFrontOk:=hFO
 have HHF:Hid IHoldsFront:=hHF
 have HBI:Hid IBits:=hBI
 have HBA:Hid IBack:=hBA
 have HHO:Hid IHolds:=hHO
 clear hFR hFO hHF hBI hBA hHO
 by_cases hs:1048576 < len
 ·clear hb
  go_enter Tryz.func3,Tryz.ntmps3
  go_wp2_with fail
  refine (lbig _ a len cap true (by simp;omega)).mono ?_
  rintro e w' ⟨rfl,rfl⟩
  go_wp2
  go_ret
  exact ⟨rfl,Below.refl _ _⟩
 have hsl:len<=1048576:=by omega
 clear hb
 go_enter Tryz.func3,Tryz.ntmps3
 go_wp2_with fail
 refine (lbig _ a len cap false (by simp;omega)).mono ?_
 rintro e w0 ⟨rfl,hz⟩
 have hz':=hz.symm
 clear hz
 subst hz'
 go_wp2_with fail
 refine (drawSaid _ a len cap HB.out).mono ?_
 rintro e w1 ⟨g,c,L,rfl,hn,hb1,hl1,hl2,hcL,hS,hb8⟩
 have HN1:Hid (Nodes w1 (some ⟨g,0,none⟩) L):=hn
 have HB1:Hid (Below w.heap.size w w1):=hb1
 have hlm:L.length<=1048576:=by omega
 obtain ⟨h1,h2,h3,h4⟩:=front_first hS hb8
 obtain ⟨Q,hQ⟩:∃ Q,Q=frontQ L:=⟨_,rfl⟩
 obtain ⟨R,hR⟩:∃ R,R=frontR L:=⟨_,rfl⟩
 have hq8:Q.length<=8:=by rw [hQ];unfold frontQ;rw [hS,if_pos rfl];exact Fr5.wk_len hS false
 have hr81:R.length<=81:=by rw [hR];exact frontR_short L
 have hfb:backB Q R=true->sentB (backL Q R)=true/\frontQ (backL Q R)=Q/\frontR (backL Q R)=R/\holdsL (backL Q R)=some (Fm4.hfV Q R):=fun h=>by
  rw [hQ,hR] at h ⊢
  exact front_back hS hb8 h
 have hbb:backB Q R=true↔R.length+Q.length<=80:=by
  unfold backB
  rw [hQ,hR,h1]
  simp
 have hc1:∀ W,Nodes W (some ⟨g,0,none⟩) L->Calls Tryz.prog 6 #[.slice (some ⟨g,0,none⟩) L.length c] W fun e w'=>(∃ aq cq ar cr,e=.returned (.tuple #[.slice aq Q.length cq,.slice ar R.length cr,.bool true])/\Qus w' aq Q/\Nodes w' ar R/\R.length<=cr)/\Below W.heap.size W w':=fun W h=>by
  refine (HFR.out W _ L c h hcL hlm).mono ?_
  rw [<- hQ,<- hR,hS]
  rintro e w' ⟨⟨aq,cq,ar,cr,U,he,hq,hr,_,_,_,hc⟩,hb⟩
  exact ⟨⟨aq,cq,ar,cr,he,hq.plain,hr.nodes,hc⟩,hb⟩
 rw [<- hQ,<- hR] at h1 h2 h3
 rw [<- hQ] at h4
 have hc3:∀ W,Nodes W (some ⟨g,0,none⟩) L->Calls Tryz.prog 8 #[.slice (some ⟨g,0,none⟩) L.length c] W fun x w'=>x=.returned (.tuple #[.int .i64 (Fm4.hfV Q R),.bool true])/\Below W.heap.size W w':=fun W h=>by
  refine (sHolds W _ L c h).mono ?_
  rw [h3]
  exact fun e w' h=>h
 have hc6:∀ W,Nodes W (some ⟨g,0,none⟩) L->Calls Tryz.prog 11 #[.slice (some ⟨g,0,none⟩) L.length c] W fun x w'=>x=.returned (.int .i64 ((rowsL Q).length:Int))/\Below W.heap.size W w':=fun W h=>by
  refine (HBI.out W _ L c h hcL hlm).mono ?_
  rw [h4]
  exact fun e w' h=>h
 have hc5:∀ W aq cq,Qus W aq Q->Calls Tryz.prog 10 #[.slice aq Q.length cq] W fun x w'=>(∃ a' c',x=.returned (.slice a' (rowsL Q).length c'))/\Below W.heap.size W w':=fun W aq cq h=>by
  refine (iRows W aq Q cq h (by omega)).mono ?_
  rintro e w' ⟨⟨a',c',he,_⟩,hb⟩
  exact ⟨⟨a',c',he⟩,hb⟩
 have hc2:∀ W aq ar cq cr,Qus W aq Q->Nodes W ar R->R.length<=cr->Calls Tryz.prog 7 #[.slice aq Q.length cq,.slice ar R.length cr] W fun x w'=>x=.returned (.bool true)/\Below W.heap.size W w':=fun W aq ar cq cr hq hr hc=>by
  refine (HFO.out W aq ar Q R cq cr hq (by omega) hr hc (by omega)).mono ?_
  rw [h1]
  exact fun e w' h=>h
 have hc4:∀ W aq ar cq cr,Qus W aq Q->Nodes W ar R->R.length<=cr->Calls Tryz.prog 9 #[.slice aq Q.length cq,.slice ar R.length cr] W fun x w'=>x=.returned (.tuple #[.int .i64 (Fm4.hfV Q R),.bool true])/\Below W.heap.size W w':=fun W aq ar cq cr hq hr hc=>by
  refine (HHF.out W aq ar Q R cq cr hq (by omega) hr hc (by omega)).mono ?_
  rw [h2]
  exact fun e w' h=>h
 have hrl:(rowsL Q).length<=12:=rowsL_le Q
 have HC1:Hid (∀ W,Nodes W (some ⟨g,0,none⟩) L->Calls Tryz.prog 6 #[.slice (some ⟨g,0,none⟩) L.length c] W fun e w'=>(∃ aq cq ar cr,e=.returned (.tuple #[.slice aq Q.length cq,.slice ar R.length cr,.bool true])/\Qus w' aq Q/\Nodes w' ar R/\R.length<=cr)/\Below W.heap.size W w'):=hc1
 have HC7:Hid (∀ W aq ar cq cr,Qus W aq Q->Nodes W ar R->R.length<=cr->Calls Tryz.prog 12 #[.slice aq Q.length cq,.slice ar R.length cr] W fun e w'=>(∃ a' c',e=.returned (.tuple #[.slice a' (backL Q R).length c',.bool (backB Q R)])/\Nodes w' a' (backL Q R)/\(backL Q R).length<=c')/\Below W.heap.size W w'):=fun W aq ar cq cr hq hr hc=>by
  refine (HBA.out W aq ar Q R cq cr hq (by omega) hr hc (by omega)).mono ?_
  rintro e w' ⟨⟨a',c',he,hn,hc'⟩,hb⟩
  exact ⟨⟨a',c',he,hn.nodes,hc'⟩,hb⟩
 have HFB:Hid (backB Q R=true->sentB (backL Q R)=true/\frontQ (backL Q R)=Q/\frontR (backL Q R)=R/\holdsL (backL Q R)=some (Fm4.hfV Q R)):=hfb
 have HBB:Hid (backB Q R=true↔R.length+Q.length<=80):=hbb
 have hml:(backL Q R).length<=80:=backL_le Q R
 generalize backL Q R=M at HC7 HFB hml
 generalize backB Q R=mb at HC7 HFB HBB
 generalize Fm4.hfV Q R=V at hc3 hc4 HFB
 generalize (rowsL Q).length=N at hc5 hc6 hrl
 have HC2:Hid (∀ W aq ar cq cr,Qus W aq Q->Nodes W ar R->R.length<=cr->Calls Tryz.prog 7 #[.slice aq Q.length cq,.slice ar R.length cr] W fun x w'=>x=.returned (.bool true)/\Below W.heap.size W w'):=hc2
 have HC3:Hid (∀ W,Nodes W (some ⟨g,0,none⟩) L->Calls Tryz.prog 8 #[.slice (some ⟨g,0,none⟩) L.length c] W fun x w'=>x=.returned (.tuple #[.int .i64 V,.bool true])/\Below W.heap.size W w'):=hc3
 have HC4:Hid (∀ W aq ar cq cr,Qus W aq Q->Nodes W ar R->R.length<=cr->Calls Tryz.prog 9 #[.slice aq Q.length cq,.slice ar R.length cr] W fun x w'=>x=.returned (.tuple #[.int .i64 V,.bool true])/\Below W.heap.size W w'):=hc4
 have HC5:Hid (∀ W aq cq,Qus W aq Q->Calls Tryz.prog 10 #[.slice aq Q.length cq] W fun x w'=>(∃ a' c',x=.returned (.slice a' N c'))/\Below W.heap.size W w'):=hc5
 have HC6:Hid (∀ W,Nodes W (some ⟨g,0,none⟩) L->Calls Tryz.prog 11 #[.slice (some ⟨g,0,none⟩) L.length c] W fun x w'=>x=.returned (.int .i64 (N:Int))/\Below W.heap.size W w'):=hc6
 clear hn hb1 hcL hS hb8 hQ hR hfb hbb h1 h2 h3 h4 hc1 hc2 hc3 hc4 hc5 hc6 hl1 hl2 hlm HB
 go_wp2_with fail
 refine (HC1.out _ HN1.out).mono ?_
 rintro e w2 ⟨⟨aq,cq,ar,cr,rfl,hq2,hr2,hcr⟩,hb2⟩
 have HCR:Hid (R.length<=cr):=hcr
 have HN2:Hid (Nodes w2 (some ⟨g,0,none⟩) L):=HN1.out.below hb2
 have HQ2:Hid (Qus w2 aq Q):=hq2
 have HR2:Hid (Nodes w2 ar R):=hr2
 have HB2:Hid (Below w.heap.size w w2):=HB1.out.trans (hb2.mono HB1.out.size)
 clear hq2 hr2 hcr hb2 HN1 HB1 HC1
 go_wp2_with fail
 refine (HC2.out _ aq ar cq cr HQ2.out HR2.out HCR.out).mono ?_
 rintro e w3 ⟨rfl,hb3⟩
 have HN3:Hid (Nodes w3 (some ⟨g,0,none⟩) L):=HN2.out.below hb3
 have HQ3:Hid (Qus w3 aq Q):=HQ2.out.below hb3
 have HR3:Hid (Nodes w3 ar R):=HR2.out.below hb3
 have HB3:Hid (Below w.heap.size w w3):=HB2.out.trans (hb3.mono HB2.out.size)
 clear hb3 HN2 HQ2 HR2 HB2 HC2
 go_wp2_with fail
 refine (HC3.out _ HN3.out).mono ?_
 rintro e w4 ⟨rfl,hb4⟩
 have HN4:Hid (Nodes w4 (some ⟨g,0,none⟩) L):=HN3.out.below hb4
 have HQ4:Hid (Qus w4 aq Q):=HQ3.out.below hb4
 have HR4:Hid (Nodes w4 ar R):=HR3.out.below hb4
 have HB4:Hid (Below w.heap.size w w4):=HB3.out.trans (hb4.mono HB3.out.size)
 clear hb4 HN3 HQ3 HR3 HB3 HC3
 go_wp2_with fail
 refine (HC4.out _ aq ar cq cr HQ4.out HR4.out HCR.out).mono ?_
 rintro e w5 ⟨rfl,hb5⟩
 have HN5:Hid (Nodes w5 (some ⟨g,0,none⟩) L):=HN4.out.below hb5
 have HQ5:Hid (Qus w5 aq Q):=HQ4.out.below hb5
 have HR5:Hid (Nodes w5 ar R):=HR4.out.below hb5
 have HB5:Hid (Below w.heap.size w w5):=HB4.out.trans (hb5.mono HB4.out.size)
 clear hb5 HN4 HQ4 HR4 HB4 HC4
 go_wp2_with fail
 refine (HC5.out _ aq cq HQ5.out).mono ?_
 rintro e w6 ⟨⟨a6,c6,rfl⟩,hb6⟩
 have HN6:Hid (Nodes w6 (some ⟨g,0,none⟩) L):=HN5.out.below hb6
 have HQ6:Hid (Qus w6 aq Q):=HQ5.out.below hb6
 have HR6:Hid (Nodes w6 ar R):=HR5.out.below hb6
 have HB6:Hid (Below w.heap.size w w6):=HB5.out.trans (hb6.mono HB5.out.size)
 clear hb6 HN5 HQ5 HR5 HB5 HC5
 go_wp2_with fail
 refine (HC6.out _ HN6.out).mono ?_
 rintro e w7 ⟨rfl,hb7⟩
 have HQ7:Hid (Qus w7 aq Q):=HQ6.out.below hb7
 have HR7:Hid (Nodes w7 ar R):=HR6.out.below hb7
 have HB7:Hid (Below w.heap.size w w7):=HB6.out.trans (hb7.mono HB6.out.size)
 clear hb7 HN6 HQ6 HR6 HB6 HC6
 go_wp2_with fail
 refine (HC7.out _ aq ar cq cr HQ7.out HR7.out HCR.out).mono ?_
 rintro e w8 ⟨⟨am,cm,rfl,hm8,hcm⟩,hb8⟩
 have HQ8:Hid (Qus w8 aq Q):=HQ7.out.below hb8
 have HR8:Hid (Nodes w8 ar R):=HR7.out.below hb8
 have HM8:Hid (Nodes w8 am M):=hm8
 have HCM:Hid (M.length<=cm):=hcm
 have HB8:Hid (Below w.heap.size w w8):=HB7.out.trans (hb8.mono HB7.out.size)
 clear hb8 hm8 hcm HQ7 HR7 HB7 HC7
 cases mb
 ·have hgt:(80:Int) < (Q.length:Int)+(R.length:Int):=by
   have h9:=HBB.out
   have:¬ R.length+Q.length<=80:=fun h=>by cases h9.2 h
   omega
  clear HBB HFB
  go_wp2_with fail
  go_ret
  exact ⟨rfl,HB8.out⟩
 ·obtain ⟨hS,hfq,hfr,hho⟩:=HFB.out rfl
  have HC1:Hid (Calls Tryz.prog 6 #[.slice am M.length cm] w8 fun e w'=>(∃ aq cq ar cr,e=.returned (.tuple #[.slice aq Q.length cq,.slice ar R.length cr,.bool true])/\Qus w' aq Q/\Nodes w' ar R)/\Below w8.heap.size w8 w'):=by
   refine (HFR.out w8 _ M cm HM8.out HCM.out (by omega)).mono ?_
   rw [hfq,hfr,hS]
   rintro e w' ⟨⟨aq,cq,ar,cr,U,he,hq,hr,_,_,_,hc⟩,hb⟩
   exact ⟨⟨aq,cq,ar,cr,he,hq.plain,hr.nodes⟩,hb⟩
  have HC8:Hid (∀ W,Nodes W am M->Calls Tryz.prog 15 #[.slice am M.length cm] W fun x w'=>x=.returned (.tuple #[.int .i64 V,.bool true])/\Below W.heap.size W w'):=fun W h=>by
   refine (HHO.out W _ M cm h HCM.out (by omega)).mono ?_
   rw [hho]
   exact fun e w' h=>h
  clear hS hfq hfr hho HBB HFB
  go_wp2_with fail
  refine HC1.out.mono ?_
  rintro e w9 ⟨⟨a9,c9,r9,d9,rfl,hq9,hr9⟩,hb9⟩
  have HQ9:Hid (Qus w9 aq Q):=HQ8.out.below hb9
  have HR9:Hid (Nodes w9 ar R):=HR8.out.below hb9
  have HM9:Hid (Nodes w9 am M):=HM8.out.below hb9
  have HP9:Hid (Qus w9 a9 Q):=hq9
  have HS9:Hid (Nodes w9 r9 R):=hr9
  have HB9:Hid (Below w.heap.size w w9):=HB8.out.trans (hb9.mono HB8.out.size)
  clear hb9 hq9 hr9 HQ8 HR8 HM8 HB8 HC1
  go_wp2_with fail
  refine (sameNodes _ r9 ar R d9 cr HS9.out HR9.out).mono ?_
  rintro e wa ⟨rfl,m,hwa⟩
  have hbd:Below w9.heap.size w9 wa:=by rw [hwa];exact drawn (Below.refl _ _) m
  have HQa:Hid (Qus wa aq Q):=HQ9.out.below hbd
  have HMa:Hid (Nodes wa am M):=HM9.out.below hbd
  have HPa:Hid (Qus wa a9 Q):=HP9.out.below hbd
  have HBa:Hid (Below w.heap.size w wa):=HB9.out.trans (hbd.mono HB9.out.size)
  clear hwa hbd HQ9 HR9 HM9 HP9 HS9 HB9
  go_wp2_with fail
  go_loopw [16] (fun i wr=>∃ k:Nat,k<=Q.length/\i=.int .i64 (k:Int)/\∃ m,wr=wa.drewN m) (fun i _=>Q.length - (intOf i).toNat)
  case atStart=>exact ⟨0,Nat.zero_le _,rfl,0,rfl⟩
  case round =>
   obtain ⟨k,hk,rfl,m,rfl⟩:=hrel
   by_cases hlt:k < Q.length
   ·have hlz:(k:Int) < (Q.length:Int):=by omega
    rcases HQa.out.2 with h0|⟨xb,xo,rfl,hc⟩
    ·omega
    rcases HPa.out.2 with h0|⟨yb,yo,rfl,hc'⟩
    ·omega
    obtain ⟨p0,p1,p2⟩:=hc k hlt
    obtain ⟨q0,q1,q2⟩:=hc' k hlt
    clear hc hc'
    generalize Q[k]=x at p0 p1 p2 q0 q1 q2
    obtain ⟨x0,x1,x2⟩:=x
    simp only at p0 p1 p2 q0 q1 q2
    go_wp2
    go_quiet (fail)
    go_wp2
    go_roundw
    case rel=>exact ⟨k+1,by omega,by go_num,_,rfl⟩
    case measure=>simp [intOf];omega
   ·have hlz:¬ (k:Int) < (Q.length:Int):=by omega
    have hbd:Below wa.heap.size wa (wa.drewN m):=drawn (Below.refl _ _) m
    obtain ⟨wb,hwb⟩:∃ wb,wb=wa.drewN m:=⟨_,rfl⟩
    rw [<- hwb] at hbd ⊢
    have HQb:Hid (Qus wb aq Q):=HQa.out.below hbd
    have HMb:Hid (Nodes wb am M):=HMa.out.below hbd
    have HBb:Hid (Below w.heap.size w wb):=HBa.out.trans (hbd.mono HBa.out.size)
    have hsw:(swapsL Q:Int) < (Q.length:Int)+1:=by have:=swTo_le Q Q.length;unfold swapsL;omega
    have HSI:Hid (∀ W,Qus W aq Q->Calls Tryz.prog 16 #[.slice aq Q.length cq] W fun e w'=>e=.returned (.int .i64 (swapsL Q:Int))/\Below W.heap.size W w'):=fun W h=>iSwaps W aq Q cq h (by omega)
    have HSS:Hid (∀ W,Qus W aq Q->Calls Tryz.prog 17 #[.slice aq Q.length cq] W fun e w'=>e=.returned (.int .i64 (swapsL Q:Int))/\Below W.heap.size W w'):=fun W h=>sSwaps W aq Q cq h (by omega)
    generalize swapsL Q=sw at hsw HSI HSS
    clear hbd hwb HQa HMa HPa HBa
    go_wp2_with fail
    refine (HC8.out _ HMb.out).mono ?_
    rintro e wc ⟨rfl,hbc⟩
    have HQc:Hid (Qus wc aq Q):=HQb.out.below hbc
    have HBc:Hid (Below w.heap.size w wc):=HBb.out.trans (hbc.mono HBb.out.size)
    clear hbc HQb HMb HBb
    go_wp2_with fail
    refine (HSI.out _ HQc.out).mono ?_
    rintro e wd ⟨rfl,hbd⟩
    have HQd:Hid (Qus wd aq Q):=HQc.out.below hbd
    have HBd:Hid (Below w.heap.size w wd):=HBc.out.trans (hbd.mono HBc.out.size)
    clear hbd HQc HBc
    go_wp2_with fail
    refine (HSI.out _ HQd.out).mono ?_
    rintro e we ⟨rfl,hbe⟩
    have HQe:Hid (Qus we aq Q):=HQd.out.below hbe
    have HBe:Hid (Below w.heap.size w we):=HBd.out.trans (hbe.mono HBd.out.size)
    clear hbe HQd HBd HSI
    go_wp2_with fail
    refine (HSS.out _ HQe.out).mono ?_
    rintro e wf ⟨rfl,hbf⟩
    have HBf:Hid (Below w.heap.size w wf):=HBe.out.trans (hbf.mono HBe.out.size)
    clear hbf HQe HBe HSS
    go_wp2_with fail
    go_ret
    exact ⟨rfl,HBf.out⟩
end Lfr1
namespace Pg3
open Go.RowKit
open Nd0 Tm0 Tm5 Pl1 Ap0 Pg1 Pg2
open Ws1 (ret_int ret_bool)
def used (n:Nd):Nd :=
 ⟨n.op,n.w,if numbered n.op then n.k else 0,if 0 < cnt n.op then n.a else 0,if 1 < cnt n.op\/quant n.op=true then n.b else 0,if 2 < cnt n.op then n.c else 0⟩
theorem iUsed (n:Nd) (w:World) :
 Calls Tryz.prog 72 #[.agg #[.int .i64 n.op,.int .i64 n.w,.int .i64 n.k,.int .i64 n.a,.int .i64 n.b,.int .i64 n.c]] w fun e w'=>e=.returned (.agg #[.int .i64 (used n).op,.int .i64 (used n).w,.int .i64 (used n).k,.int .i64 (used n).a,.int .i64 (used n).b,.int .i64 (used n).c])/\Below w.heap.size w w':=by
 have HU:∀ m:Nd,m=used n->Hid (m=used n):=fun m h=>h
 have hc3:=cnt_le n.op
 have HC:Hid (cnt n.op=0\/cnt n.op=1\/cnt n.op=2\/cnt n.op=3):=by show _\/_;omega
 have HV:Hid (used n=⟨n.op,n.w,if numbered n.op then n.k else 0,if 0 < cnt n.op then n.a else 0,if 1 < cnt n.op\/quant n.op=true then n.b else 0,if 2 < cnt n.op then n.c else 0⟩):=rfl
 clear HU hc3
 generalize used n=u at HV ⊢
 cases hn:numbered n.op<;>cases hq:quant n.op<;>rcases HC.out with hc|hc|hc|hc
 all_goals
  have HN:Hid (numbered n.op=_):=hn
  have HQ:Hid (quant n.op=_):=hq
  have HK:Hid (cnt n.op=_):=hc
  go_enter Tryz.func72,Tryz.ntmps72
  go_wp2_with (first|(go_at_call 64;refine (iCount _ _).mono ?_;rintro e w' ⟨rfl,rfl⟩;rw [hc])|(go_at_call 87;refine (iNumbered _ _).mono ?_;rintro e w' ⟨rfl,rfl⟩;rw [hn])|(go_at_call 46;refine (iQuant _ _).mono ?_;rintro e w' ⟨rfl,rfl⟩;rw [hq]))
  refine bodyPost_ret (v:=.agg #[.int .i64 u.op,.int .i64 u.w,.int .i64 u.k,.int .i64 u.a,.int .i64 u.b,.int .i64 u.c]) ?_ rfl ⟨rfl,?_⟩
  ·have h9:=HV.out
   rw [HN.out,HQ.out,HK.out] at h9
   simp at h9
   subst h9
   simp [results,Tryz.results72,go_sem]
  ·exact (((Below.refl _ _).alloc (Nat.le_refl _) _).alloc (by simp) _).alloc (by simp;omega) _
def pahead (n:Nd) (i:Int):Bool:=(parts n).all fun p=>decide (0<=p/\p < i)
theorem iAhead (n:Nd) (i:Int) (w:World) :
 Calls Tryz.prog 73 #[.agg #[.int .i64 n.op,.int .i64 n.w,.int .i64 n.k,.int .i64 n.a,.int .i64 n.b,.int .i64 n.c],.int .i64 i] w fun e w'=>e=.returned (.bool (pahead n i))/\Below w.heap.size w w':=by
 go_enter Tryz.func73,Tryz.ntmps73
 go_wp2_with fail
 refine (iParts n _).mono ?_
 rintro e w1 ⟨⟨pa,pc,rfl,hpi⟩,hb1⟩
 have HP:Hid (Ints w1 pa (parts n)):=hpi.ints
 have HB1:Hid (Below w.heap.size w w1):=((Below.refl _ _).alloc (Nat.le_refl _) _).trans (hb1.mono (by simp))
 have hpl:=parts_le n
 clear hpi hb1
 go_wp2_with fail
 go_loop [10] (fun q=>∃ k:Nat,k<=(parts n).length/\q=.int .i64 k/\∀ j (h:j < (parts n).length),j < k->0<=(parts n)[j]/\(parts n)[j] < i) (fun q=>(parts n).length - (intOf q).toNat)
 case atStart=>exact ⟨0,Nat.zero_le _,rfl,fun j _ hj=>by omega⟩
 case round =>
  obtain ⟨k,hk,rfl,hall⟩:=hrel
  have HA:Hid (∀ j (h:j < (parts n).length),j < k->0<=(parts n)[j]/\(parts n)[j] < i):=hall
  clear hall
  by_cases hlt:k < (parts n).length
  ·have hlz:(k:Int) < ((parts n).length:Int):=by omega
   rcases HP.out.2 with h0|⟨pb,po,rfl,hpc⟩
   ·omega
   have pk:=hpc k hlt
   clear hpc
   have HBAD:Hid (¬ (0<=(parts n)[k]/\(parts n)[k] < i)->pahead n i=false):=by
    show _->_
    intro h
    unfold pahead
    rw [List.all_eq_false]
    exact ⟨_,List.getElem_mem hlt,by simpa using h⟩
   have HEQ:Hid (∀ x:Int,x=(parts n)[k]->(0<=x/\x < i)->∀ j (h:j < (parts n).length),j < k+1->0<=(parts n)[j]/\(parts n)[j] < i):=by
    show ∀ _,_
    intro x hx hxi j h hj
    by_cases e:j=k
    ·subst e;subst hx;exact hxi
    ·exact HA.out j h (by omega)
   obtain ⟨x,hx⟩:∃ x:Int,x=(parts n)[k]:=⟨_,rfl⟩
   rw [<- hx] at pk HBAD
   have HX:Hid (x=(parts n)[k]):=hx
   clear hx
   by_cases h1:x < 0
   ·go_wp2
    go_ret
    exact ⟨ret_bool (HBAD.out (by omega)).symm,HB1.out⟩
   ·by_cases h2:i<=x
    ·go_wp2
     go_ret
     exact ⟨ret_bool (HBAD.out (by omega)).symm,HB1.out⟩
    ·go_wp2
     go_round
     case rel=>exact ⟨k+1,by omega,by go_num,HEQ.out x HX.out ⟨by omega,by omega⟩⟩
     case measure=>simp [intOf];omega
  ·have HT:Hid (pahead n i=true):=by
    show pahead n i=true
    unfold pahead
    rw [List.all_eq_true]
    intro p hp
    obtain ⟨j,hj,rfl⟩:=List.getElem_of_mem hp
    simpa using HA.out j hj (by omega)
   go_wp2
   go_ret
   exact ⟨ret_bool HT.out.symm,HB1.out⟩
end Pg3
namespace Pg4
open Go.RowKit
open Nd0 Tm0 Tm5 Pl1 Ap0 Pg1 Pg2 Pg3
open Ws1 (ret_int ret_bool)
theorem below_drewN {B:Nat} {u w:World} (h:Below B u w) (n:Nat):Below B u (w.drewN n):=⟨h.os,h.tape,h.output,h.size,h.block⟩
def fitsB (n:Nd) (ws:List Int):Bool :=
 if n.op=0 then wok n.w n.k
 else if n.op=1 then decide (0<=n.k/\n.k<=7)
 else if n.op=2 then decide (ws.getD 0 0=n.w)
 else if 3<=n.op/\n.op<=12 then decide (ws.getD 0 0=n.w/\ws.getD 1 0=n.w)
 else if 13<=n.op/\n.op<=15 then decide (ws.getD 0 0=ws.getD 1 0/\n.w=1)
 else if n.op=16 then decide (ws.getD 0 0+ws.getD 1 0=n.w)
 else if n.op=17 then decide (0<=n.k/\n.k<=ws.getD 0 0 - n.w)
 else if n.op=18 then decide (ws.getD 0 0=1/\ws.getD 1 0=n.w/\ws.getD 2 0=n.w)
 else if n.op=19\/n.op=20 then decide (0<=n.k/\n.k<=7/\1<=n.b/\n.b<=8/\ws.getD 0 0=1/\n.w=1)
 else false
theorem fitsA (w:World) (xb xo len c:Nat) (op m k b d x0:Int) (hl:len<=80) (ja:Nat) (hj:ja < len) (p0:w.cell? ⟨xb,xo+ja*6+1,none⟩=some (.int .i64 x0)) (hx0:1<=x0/\x0<=8) (hm:1<=m/\m<=8)  (h:op=2\/op=17\/op=19\/op=20) :
 Calls Tryz.prog 74 #[.slice (some ⟨xb,xo,none⟩) len c,.agg #[.int .i64 op,.int .i64 m,.int .i64 k,.int .i64 ja,.int .i64 b,.int .i64 d]] w fun e w' =>
  e=.returned (.bool (fitsB ⟨op,m,k,ja,b,d⟩ [x0]))/\Below w.heap.size w w':=by
 have hxb:xb < w.heap.size:=lt_of_cell (p:=⟨xb,_,none⟩) p0
 have hxn:¬ xb=w.heap.size:=by omega
 obtain ⟨hm1,hm2⟩:=hm
 have hjz:(ja:Int) < (len:Int):=by omega
 obtain ⟨hx1,hx2⟩:=hx0
 obtain ⟨F,hF⟩:∃ F,F=fitsB ⟨op,m,k,ja,b,d⟩ [x0]:=⟨_,rfl⟩
 rw [<- hF]
 rcases h with rfl|rfl|rfl|rfl
 all_goals
  simp [fitsB] at hF
  have HF:Hid (F=_):=hF
  clear hF
  go_enter Tryz.func74,Tryz.ntmps74
  go_wp2_with (first|(go_at_call 83;refine (iWordOk _ _ _).mono ?_;rintro e w' ⟨rfl,rfl⟩)|(go_at_call 49;refine (iVarOk _ _).mono ?_;rintro e w' ⟨rfl,rfl⟩)|(go_at_call 50;refine (iWidthOk _ _).mono ?_;rintro e w' ⟨rfl,rfl⟩))
  try
   refine wp_region_quiet_lit (by kernel_rfl) (by kernel_rfl) ?_
   repeat (any_goals (first|go_big_quiet_step (fail)|quiet_step (fail)|(refine wpQuiet_step (fun K hK=>?_);go_simp;split<;>(refine hK _ ?_;clear hK K))))
   all_goals (refine wpQuiet_nil ?_;intro _ hw';obtain ⟨nq,hw''⟩:=hw';subst hw'')
   all_goals go_wp2
  all_goals
   go_ret
   refine ⟨ret_bool ?_,by first|exact below_drewN ((Below.refl _ _).alloc (Nat.le_refl _) _) _|exact (Below.refl _ _).alloc (Nat.le_refl _) _⟩
   rw [HF.out,Bool.eq_iff_iff]
   first|(go_light;simp_all<;>omega)|(simp_all<;>omega)
theorem fitsB2 (w:World) (xb xo len c:Nat) (op m k d x0 x1:Int) (hl:len<=80) (ja jb:Nat) (hj:ja < len) (hj':jb < len) (p0:w.cell? ⟨xb,xo+ja*6+1,none⟩=some (.int .i64 x0)) (hx0:1<=x0/\x0<=8) (p1:w.cell? ⟨xb,xo+jb*6+1,none⟩=some (.int .i64 x1)) (hx1':1<=x1/\x1<=8) (hm:1<=m/\m<=8)  (h:op=3\/op=4\/op=5\/op=6\/op=7\/op=8\/op=9\/op=10\/op=11\/op=12\/op=13\/op=14\/op=15\/op=16) :
 Calls Tryz.prog 74 #[.slice (some ⟨xb,xo,none⟩) len c,.agg #[.int .i64 op,.int .i64 m,.int .i64 k,.int .i64 ja,.int .i64 jb,.int .i64 d]] w fun e w' =>
  e=.returned (.bool (fitsB ⟨op,m,k,ja,jb,d⟩ [x0,x1]))/\Below w.heap.size w w':=by
 have hxb:xb < w.heap.size:=lt_of_cell (p:=⟨xb,_,none⟩) p0
 have hxn:¬ xb=w.heap.size:=by omega
 obtain ⟨hm1,hm2⟩:=hm
 have hjz:(ja:Int) < (len:Int):=by omega
 obtain ⟨hx1,hx2⟩:=hx0
 have hjz':(jb:Int) < (len:Int):=by omega
 obtain ⟨hx3,hx4⟩:=hx1'
 obtain ⟨F,hF⟩:∃ F,F=fitsB ⟨op,m,k,ja,jb,d⟩ [x0,x1]:=⟨_,rfl⟩
 rw [<- hF]
 rcases h with rfl|rfl|rfl|rfl|rfl|rfl|rfl|rfl|rfl|rfl|rfl|rfl|rfl|rfl
 all_goals
  simp [fitsB] at hF
  have HF:Hid (F=_):=hF
  clear hF
  go_enter Tryz.func74,Tryz.ntmps74
  go_wp2_with (first|(go_at_call 83;refine (iWordOk _ _ _).mono ?_;rintro e w' ⟨rfl,rfl⟩)|(go_at_call 49;refine (iVarOk _ _).mono ?_;rintro e w' ⟨rfl,rfl⟩)|(go_at_call 50;refine (iWidthOk _ _).mono ?_;rintro e w' ⟨rfl,rfl⟩))
  try
   refine wp_region_quiet_lit (by kernel_rfl) (by kernel_rfl) ?_
   repeat (any_goals (first|go_big_quiet_step (fail)|quiet_step (fail)|(refine wpQuiet_step (fun K hK=>?_);go_simp;split<;>(refine hK _ ?_;clear hK K))))
   all_goals (refine wpQuiet_nil ?_;intro _ hw';obtain ⟨nq,hw''⟩:=hw';subst hw'')
   all_goals go_wp2
  all_goals
   go_ret
   refine ⟨ret_bool ?_,by first|exact below_drewN ((Below.refl _ _).alloc (Nat.le_refl _) _) _|exact (Below.refl _ _).alloc (Nat.le_refl _) _⟩
   rw [HF.out,Bool.eq_iff_iff]
   first|(go_light;simp_all<;>omega)|(simp_all<;>omega)
theorem fits18 (w:World) (xb xo len c:Nat) (op m k x0 x1 x2:Int) (hl:len<=80) (ja jb jc:Nat) (hj:ja < len) (hj':jb < len) (hj'':jc < len) (p0:w.cell? ⟨xb,xo+ja*6+1,none⟩=some (.int .i64 x0)) (hx0:1<=x0/\x0<=8) (p1:w.cell? ⟨xb,xo+jb*6+1,none⟩=some (.int .i64 x1)) (hx1':1<=x1/\x1<=8) (p2:w.cell? ⟨xb,xo+jc*6+1,none⟩=some (.int .i64 x2)) (hx2':1<=x2/\x2<=8) (hm:1<=m/\m<=8)  (h:op=18) :
 Calls Tryz.prog 74 #[.slice (some ⟨xb,xo,none⟩) len c,.agg #[.int .i64 op,.int .i64 m,.int .i64 k,.int .i64 ja,.int .i64 jb,.int .i64 jc]] w fun e w' =>
  e=.returned (.bool (fitsB ⟨op,m,k,ja,jb,jc⟩ [x0,x1,x2]))/\Below w.heap.size w w':=by
 have hxb:xb < w.heap.size:=lt_of_cell (p:=⟨xb,_,none⟩) p0
 have hxn:¬ xb=w.heap.size:=by omega
 obtain ⟨hm1,hm2⟩:=hm
 have hjz:(ja:Int) < (len:Int):=by omega
 obtain ⟨hx1,hx2⟩:=hx0
 have hjz':(jb:Int) < (len:Int):=by omega
 obtain ⟨hx3,hx4⟩:=hx1'
 have hjz'':(jc:Int) < (len:Int):=by omega
 obtain ⟨hx5,hx6⟩:=hx2'
 obtain ⟨F,hF⟩:∃ F,F=fitsB ⟨op,m,k,ja,jb,jc⟩ [x0,x1,x2]:=⟨_,rfl⟩
 rw [<- hF]
 subst h
 all_goals
  simp [fitsB] at hF
  have HF:Hid (F=_):=hF
  clear hF
  go_enter Tryz.func74,Tryz.ntmps74
  go_wp2_with (first|(go_at_call 83;refine (iWordOk _ _ _).mono ?_;rintro e w' ⟨rfl,rfl⟩)|(go_at_call 49;refine (iVarOk _ _).mono ?_;rintro e w' ⟨rfl,rfl⟩)|(go_at_call 50;refine (iWidthOk _ _).mono ?_;rintro e w' ⟨rfl,rfl⟩))
  try
   refine wp_region_quiet_lit (by kernel_rfl) (by kernel_rfl) ?_
   repeat (any_goals (first|go_big_quiet_step (fail)|quiet_step (fail)|(refine wpQuiet_step (fun K hK=>?_);go_simp;split<;>(refine hK _ ?_;clear hK K))))
   all_goals (refine wpQuiet_nil ?_;intro _ hw';obtain ⟨nq,hw''⟩:=hw';subst hw'')
   all_goals go_wp2
  all_goals
   go_ret
   refine ⟨ret_bool ?_,by first|exact below_drewN ((Below.refl _ _).alloc (Nat.le_refl _) _) _|exact (Below.refl _ _).alloc (Nat.le_refl _) _⟩
   rw [HF.out,Bool.eq_iff_iff]
   first|(go_light;simp_all<;>omega)|(simp_all<;>omega)
theorem fitsC (w:World) (a:Option Addr) (len c:Nat) (op m k x b d:Int)  (h:op=0\/op=1) :
 Calls Tryz.prog 74 #[.slice a len c,.agg #[.int .i64 op,.int .i64 m,.int .i64 k,.int .i64 x,.int .i64 b,.int .i64 d]] w fun e w' =>
  e=.returned (.bool (fitsB ⟨op,m,k,x,b,d⟩ []))/\Below w.heap.size w w':=by
 obtain ⟨F,hF⟩:∃ F,F=fitsB ⟨op,m,k,x,b,d⟩ []:=⟨_,rfl⟩
 rw [<- hF]
 rcases h with rfl|rfl
 all_goals
  simp [fitsB] at hF
  have HF:Hid (F=_):=hF
  clear hF
  go_enter Tryz.func74,Tryz.ntmps74
  go_wp2_with (first|(go_at_call 83;refine (iWordOk _ _ _).mono ?_;rintro e w' ⟨rfl,rfl⟩)|(go_at_call 49;refine (iVarOk _ _).mono ?_;rintro e w' ⟨rfl,rfl⟩)|(go_at_call 50;refine (iWidthOk _ _).mono ?_;rintro e w' ⟨rfl,rfl⟩))
  go_ret
  refine ⟨ret_bool ?_,(Below.refl _ _).alloc (Nat.le_refl _) _⟩
  rw [HF.out]
  first|done|simp
theorem fitsN (w:World) (a:Option Addr) (len c:Nat) (op m k x b d:Int) (hop:op < 0\/20 < op) :
 Calls Tryz.prog 74 #[.slice a len c,.agg #[.int .i64 op,.int .i64 m,.int .i64 k,.int .i64 x,.int .i64 b,.int .i64 d]] w fun e w' =>
  e=.returned (.bool (fitsB ⟨op,m,k,x,b,d⟩ []))/\Below w.heap.size w w':=by
 have HF:Hid (fitsB ⟨op,m,k,x,b,d⟩ []=false):=by
  show _=_
  unfold fitsB;dsimp only;rw [if_neg (by omega),if_neg (by omega),if_neg (by omega),if_neg (by omega),if_neg (by omega),if_neg (by omega),if_neg (by omega),if_neg (by omega),if_neg (by omega)]
 obtain ⟨t0,t1,t2,t3,t4,t5,t6,t7,t8,t9,t10⟩:(op==0)=false/\(op==1)=false/\(op==2)=false/\(op==3)=false/\(op==4)=false/\(op==5)=false/\(op==6)=false/\(op==7)=false/\(op==8)=false/\(op==9)=false/\(op==10)=false:=by simp;omega
 obtain ⟨t0,t1,t2,t3,t4,t5,t6,t7,t8,t9⟩:(op==11)=false/\(op==12)=false/\(op==13)=false/\(op==14)=false/\(op==15)=false/\(op==16)=false/\(op==17)=false/\(op==18)=false/\(op==19)=false/\(op==20)=false:=by simp;omega
 clear hop
 go_enter Tryz.func74,Tryz.ntmps74
 go_wp2_with (first|(go_at_call 83;refine (iWordOk _ _ _).mono ?_;rintro e w' ⟨rfl,rfl⟩)|(go_at_call 49;refine (iVarOk _ _).mono ?_;rintro e w' ⟨rfl,rfl⟩)|(go_at_call 50;refine (iWidthOk _ _).mono ?_;rintro e w' ⟨rfl,rfl⟩))
 go_ret
 refine ⟨ret_bool ?_,(Below.refl _ _).alloc (Nat.le_refl _) _⟩
 first|(rw [HF.out];done)|(rw [HF.out];simp)
end Pg4
end Go.Proofs.YtebejleeadofcaaGreat
