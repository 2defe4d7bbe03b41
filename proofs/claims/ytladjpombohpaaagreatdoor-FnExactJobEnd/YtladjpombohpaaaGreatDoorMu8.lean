import Derived.Test.YtladjpombohpaaaGreatDoorMu7
namespace Go.Proofs.YtladjpombohpaaaGreatDoor
set_option maxRecDepth 100000
set_option maxHeartbeats 8000000
set_option linter.unusedVariables false
namespace Mu8
open Go.RowKit
open Nd0 (Kept Ints lt_of_cell At)
open Ap0 Ap1 Qc0 Qc2 Cl0 Mm0 Mx0 Mu1 Mu2 Mu3 Mu4 Mu5 Mu6 Mu7
open Mm2 (mokB sMachineOk)
open Tc2 (tv sInT)
open Ta1 (tab tok_tab)
open Ss0 (bs bs_size)
open Ss1 (tl bs_tl)
/-- Many steps. -/
def runM (n:Nat) (F:Nat->Bool):Nat->Mc->Mc
 | 0,m=>m
 | k+1,m=>if m.over=true\/1000000000<=m.looks\/1000000000<=m.hits then m else runM n F k (stepM n F m)
theorem runM_stop {n:Nat} {F:Nat->Bool} {m:Mc} (h:m.over=true\/1000000000<=m.looks\/1000000000<=m.hits) (k:Nat):runM n F k m=m:=by
 cases k with
 | zero=>rfl
 | succ k=>unfold runM;exact if_pos h
theorem runM_next {n:Nat} {F:Nat->Bool} {m:Mc} (h:¬ (m.over=true\/1000000000<=m.looks\/1000000000<=m.hits)) (k:Nat):runM n F (k+1) m=runM n F k (stepM n F m):=by
 conv=>lhs;unfold runM
 exact if_neg h
theorem mok_iff (m:Mc):mokB m=true↔Mok m:=by unfold mokB;simp
theorem sRun (n:Nat) (F:Nat->Bool) (m:Mc) (ra va ma:Option Addr) (rc vc mc:Nat) (k:Nat) (w:World) (hn:n<=12) (hN:m.N=(n:Int)) (hS:m.S=bs (tab n F)) (hok:Mok m) (hk:k<=100000) (hR:Mr w m ra va ma) :
 Calls Tryz.prog 27 #[mval m ra va ma rc vc mc,.int .i64 (k:Int)] w fun e w'=>∃ ra' va' ma' rc' vc' mc',e=.returned (mval (runM n F k m) ra' va' ma' rc' vc' mc')/\MO w' w.heap.size (runM n F k m) ra' va' ma' rc' vc' mc'/\Below w.heap.size w w':=by
 have HR:Hid (Mr w m ra va ma):=hR
 have HSZ:Hid (m.S.size<=1048576):=by
  show _<=_
  rw [hS,bs_size,Ta1.tab_length]
  have:=(Ta1.p12 hn).2
  omega
 have HCP:Hid (∀ W,Below w.heap.size w W->Calls Tryz.prog 49 #[mval m ra va ma rc vc mc] W fun e w'=>∃ ra' va' ma' rc' vc' mc',e=.returned (mval m ra' va' ma' rc' vc' mc')/\MO w' W.heap.size m ra' va' ma' rc' vc' mc'/\Below W.heap.size W w'):=fun W hb=>by
  have h1:=hok.row
  have h2:=hok.vals
  have h3:=hok.memo
  have h4:=hok.room
  exact sCopy W m ra va ma rc vc mc (hR.below hb) (by omega) (by omega) (by omega)
 have HMK:Hid (∀ (W:World) ra va ma rc vc mc,Mr W m ra va ma->Calls Tryz.prog 51 #[mval m ra va ma rc vc mc] W fun e w'=>e=.returned (.bool true)/\Below W.heap.size W w'):=fun W ra va ma rc vc mc hm=>by
  have h1:=sMachineOk m ra va ma rc vc mc W HSZ.out hm
  rwa [(mok_iff m).2 hok] at h1
 have HIN:Hid (∀ W:World,Calls Tryz.prog 25 #[.int .i64 (k:Int),.int .i64 0,.int .i64 100000] W fun e w'=>e=.returned (.bool true)/\w'=W):=fun W=>sInT W (by omega)
 have HST:Hid (∀ (mj:Mc) (B:Nat) (W:World) ra va ma rc vc mc,Mok mj->mj.N=m.N->mj.S=m.S->B<=W.heap.size->MO W B mj ra va ma rc vc mc->Calls Tryz.prog 57 #[mval mj ra va ma rc vc mc] W fun e w'=>∃ ra' va' ma' rc' vc' mc',e=.returned (mval (stepM n F mj) ra' va' ma' rc' vc' mc')/\MO w' B (stepM n F mj) ra' va' ma' rc' vc' mc'/\Kept (fun b=>At va b\/At ma b) W w'/\FR W ra va ma ra' va' ma'):=fun mj B W ra va ma rc vc mc h1 h2 h3 h4 h5=>sStep n F mj ra va ma rc vc mc B W hn (h2.trans hN) (h3.trans hS) h1 h4 h5
 have HOK:Hid (Mok m):=hok
 have HN:Hid (m.N=(n:Int)):=hN
 clear hR hok hN hS hn
 obtain ⟨X0,hX0⟩:∃ X0,X0=((w.alloc (.cells #[.slice ra m.row.length rc,.int .i64 m.N,.string m.S,.int .i64 m.room,.slice va m.vals.length vc,.int .i64 m.ret,.bool m.over,.int .i64 m.steps,.int .i64 m.looks,.int .i64 m.hits,.slice ma m.memo.length mc] 35)).alloc (.cells #[.slice none 0 0,.int .i64 0,.string ⟨#[]⟩,.int .i64 0,.slice none 0 0,.int .i64 0,.bool false,.int .i64 0,.int .i64 0,.int .i64 0,.slice none 0 0] 35)):=⟨_,rfl⟩
 have HE0:Hid (((w.alloc (.cells #[.slice ra m.row.length rc,.int .i64 m.N,.string m.S,.int .i64 m.room,.slice va m.vals.length vc,.int .i64 m.ret,.bool m.over,.int .i64 m.steps,.int .i64 m.looks,.int .i64 m.hits,.slice ma m.memo.length mc] 35)).alloc (.cells #[.slice none 0 0,.int .i64 0,.string ⟨#[]⟩,.int .i64 0,.slice none 0 0,.int .i64 0,.bool false,.int .i64 0,.int .i64 0,.int .i64 0,.slice none 0 0] 35))=X0):=hX0.symm
 have HB0:Hid (Below w.heap.size w X0):=by rw [hX0];exact ((Below.refl _ _).alloc (Nat.le_refl _) _).alloc (by simp) _
 have HA0:Hid (Mf X0 (w.heap.size) [.slice ra m.row.length rc,.int .i64 m.N,.string m.S,.int .i64 m.room,.slice va m.vals.length vc,.int .i64 m.ret,.bool m.over,.int .i64 m.steps,.int .i64 m.looks,.int .i64 m.hits,.slice ma m.memo.length mc]):=by rw [hX0];exact (Mf.made _ _ _).alloc _
 have HZ0:Hid (Mf X0 (w.heap.size+1) [.slice none 0 0,.int .i64 0,.string ⟨#[]⟩,.int .i64 0,.slice none 0 0,.int .i64 0,.bool false,.int .i64 0,.int .i64 0,.int .i64 0,.slice none 0 0]):=by
  have h1:=Mf.made (w.alloc (.cells #[.slice ra m.row.length rc,.int .i64 m.N,.string m.S,.int .i64 m.room,.slice va m.vals.length vc,.int .i64 m.ret,.bool m.over,.int .i64 m.steps,.int .i64 m.looks,.int .i64 m.hits,.slice ma m.memo.length mc] 35)) #[.slice none 0 0,.int .i64 0,.string ⟨#[]⟩,.int .i64 0,.slice none 0 0,.int .i64 0,.bool false,.int .i64 0,.int .i64 0,.int .i64 0,.slice none 0 0] 35
  have h2:(w.alloc (.cells #[.slice ra m.row.length rc,.int .i64 m.N,.string m.S,.int .i64 m.room,.slice va m.vals.length vc,.int .i64 m.ret,.bool m.over,.int .i64 m.steps,.int .i64 m.looks,.int .i64 m.hits,.slice ma m.memo.length mc] 35)).heap.size=w.heap.size+1:=by simp
  rw [h2,<- hX0] at h1
  exact h1
 have HS0:Hid (w.heap.size+2<=X0.heap.size):=by show _<=_;rw [hX0];simp
 clear hX0
 go_enter Tryz.func27,Tryz.ntmps27
 go_upto_region 1 with fail
 rw [HE0.out]
 clear HE0
 obtain ⟨c0,c1,c2,c3,c4,c5,c6,c7,c8,c9,c10,y0,y1,y2,y3,y4,y5,y6,y7,y8,y9,y10⟩:=HA0.out.all
 go_wp2_with fail
 clear c0 c1 c2 c3 c4 c5 c6 c7 c8 c9 c10 y0 y1 y2 y3 y4 y5 y6 y7 y8 y9 y10
 refine (HCP.out _ HB0.out).mono ?_
 rintro _ x1 ⟨ra1,va1,ma1,rc1,vc1,mc1,rfl,hmo,hb⟩
 obtain ⟨B,hBe⟩:∃ B,B=X0.heap.size:=⟨_,rfl⟩
 rw [<- hBe] at hmo
 have HBQ:Hid (w.heap.size+2<=B):=by show _<=_;rw [hBe];exact HS0.out
 have HBx:Hid (B<=x1.heap.size):=by show _<=_;rw [hBe];exact hb.size
 have HM1:Hid (MO x1 B m ra1 va1 ma1 rc1 vc1 mc1):=hmo
 have HBx1:Hid (Below w.heap.size w x1):=HB0.out.trans (hb.mono HB0.out.size)
 have HAx1:Hid (Mf x1 (w.heap.size) [.slice ra m.row.length rc,.int .i64 m.N,.string m.S,.int .i64 m.room,.slice va m.vals.length vc,.int .i64 m.ret,.bool m.over,.int .i64 m.steps,.int .i64 m.looks,.int .i64 m.hits,.slice ma m.memo.length mc]):=HA0.out.below hb
 have HZx1:Hid (Mf x1 (w.heap.size+1) [.slice none 0 0,.int .i64 0,.string ⟨#[]⟩,.int .i64 0,.slice none 0 0,.int .i64 0,.bool false,.int .i64 0,.int .i64 0,.int .i64 0,.slice none 0 0]):=HZ0.out.below hb
 clear hmo hb hBe HA0 HZ0 HB0 HS0 HCP
 obtain ⟨c0,c1,c2,c3,c4,c5,c6,c7,c8,c9,c10,y0,y1,y2,y3,y4,y5,y6,y7,y8,y9,y10⟩:=HAx1.out.all
 go_upto_region 2 with fail
 clear c0 c1 c2 c3 c4 c5 c6 c7 c8 c9 c10 y0 y1 y2 y3 y4 y5 y6 y7 y8 y9 y10
 obtain ⟨Y1,hY1⟩:∃ Y,Y=(((((((((((x1).setCell ⟨w.heap.size,0,none⟩ (.slice ra1 m.row.length rc1)).setCell ⟨w.heap.size,1,none⟩ (.int .i64 m.N)).setCell ⟨w.heap.size,2,none⟩ (.string m.S)).setCell ⟨w.heap.size,3,none⟩ (.int .i64 m.room)).setCell ⟨w.heap.size,4,none⟩ (.slice va1 m.vals.length vc1)).setCell ⟨w.heap.size,5,none⟩ (.int .i64 m.ret)).setCell ⟨w.heap.size,6,none⟩ (.bool m.over)).setCell ⟨w.heap.size,7,none⟩ (.int .i64 m.steps)).setCell ⟨w.heap.size,8,none⟩ (.int .i64 m.looks)).setCell ⟨w.heap.size,9,none⟩ (.int .i64 m.hits)).setCell ⟨w.heap.size,10,none⟩ (.slice ma1 m.memo.length mc1):=⟨_,rfl⟩
 rw [<- hY1]
 have K1:Kept (fun b=>b=w.heap.size) x1 Y1:=by rw [hY1];exact ((((((((((((Kept.refl (fun b=>b=w.heap.size) x1)).setCell (p:=⟨w.heap.size,0,none⟩) rfl _).setCell (p:=⟨w.heap.size,1,none⟩) rfl _).setCell (p:=⟨w.heap.size,2,none⟩) rfl _).setCell (p:=⟨w.heap.size,3,none⟩) rfl _).setCell (p:=⟨w.heap.size,4,none⟩) rfl _).setCell (p:=⟨w.heap.size,5,none⟩) rfl _).setCell (p:=⟨w.heap.size,6,none⟩) rfl _).setCell (p:=⟨w.heap.size,7,none⟩) rfl _).setCell (p:=⟨w.heap.size,8,none⟩) rfl _).setCell (p:=⟨w.heap.size,9,none⟩) rfl _).setCell (p:=⟨w.heap.size,10,none⟩) rfl _
 have HA1:Hid (Mf Y1 (w.heap.size) [.slice ra1 m.row.length rc1,.int .i64 m.N,.string m.S,.int .i64 m.room,.slice va1 m.vals.length vc1,.int .i64 m.ret,.bool m.over,.int .i64 m.steps,.int .i64 m.looks,.int .i64 m.hits,.slice ma1 m.memo.length mc1]):=by
  rw [hY1]
  exact (((((((((((HAx1.out.set 0 (.slice ra1 m.row.length rc1)).set 1 (.int .i64 m.N)).set 2 (.string m.S)).set 3 (.int .i64 m.room)).set 4 (.slice va1 m.vals.length vc1)).set 5 (.int .i64 m.ret)).set 6 (.bool m.over)).set 7 (.int .i64 m.steps)).set 8 (.int .i64 m.looks)).set 9 (.int .i64 m.hits)).set 10 (.slice ma1 m.memo.length mc1))
 have HZ1:Hid (Mf Y1 (w.heap.size+1) [.slice none 0 0,.int .i64 0,.string ⟨#[]⟩,.int .i64 0,.slice none 0 0,.int .i64 0,.bool false,.int .i64 0,.int .i64 0,.int .i64 0,.slice none 0 0]):=HZx1.out.kept K1 (by omega)
 have HB1:Hid (Below w.heap.size w Y1):=HBx1.out.trans (K1.below (fun b hb=>by omega) HBx1.out.size)
 have HMY:Hid (MO Y1 B m ra1 va1 ma1 rc1 vc1 mc1):=by
  have hbq:=HBQ.out
  have lr:=HM1.out.row.lt
  have lv:=HM1.out.vals.lt
  have lm:=HM1.out.memo.lt
  exact HM1.out.kept K1 (fun x hx h=>by subst hx;have:=lr _ own_of;omega) (fun x hx h=>by subst hx;have:=lv _ own_of;omega) (fun x hx h=>by subst hx;have:=lm _ own_of;omega)
 have HBY:Hid (B<=Y1.heap.size):=Nat.le_trans HBx.out K1.size
 clear K1 hY1 HAx1 HZx1 HBx1 HM1 HBx
 obtain ⟨c0,c1,c2,c3,c4,c5,c6,c7,c8,c9,c10,y0,y1,y2,y3,y4,y5,y6,y7,y8,y9,y10⟩:=HA1.out.all
 go_wp2_with fail
 clear c0 c1 c2 c3 c4 c5 c6 c7 c8 c9 c10 y0 y1 y2 y3 y4 y5 y6 y7 y8 y9 y10
 refine (HMK.out _ _ _ _ _ _ _ HMY.out.mr).mono ?_
 rintro _ x2 ⟨rfl,hb⟩
 have HA2:Hid (Mf x2 (w.heap.size) [.slice ra1 m.row.length rc1,.int .i64 m.N,.string m.S,.int .i64 m.room,.slice va1 m.vals.length vc1,.int .i64 m.ret,.bool m.over,.int .i64 m.steps,.int .i64 m.looks,.int .i64 m.hits,.slice ma1 m.memo.length mc1]):=HA1.out.below hb
 have HZ2:Hid (Mf x2 (w.heap.size+1) [.slice none 0 0,.int .i64 0,.string ⟨#[]⟩,.int .i64 0,.slice none 0 0,.int .i64 0,.bool false,.int .i64 0,.int .i64 0,.int .i64 0,.slice none 0 0]):=HZ1.out.below hb
 have HB2:Hid (Below w.heap.size w x2):=HB1.out.trans (hb.mono HB1.out.size)
 have HM2:Hid (MO x2 B m ra1 va1 ma1 rc1 vc1 mc1):=HMY.out.below hb
 have HBX2:Hid (B<=x2.heap.size):=Nat.le_trans HBY.out hb.size
 clear hb HA1 HZ1 HB1 HMY HBY HMK
 go_wp2_with (go_at_call 25;refine (HIN.out _).mono ?_;rintro e w9 ⟨rfl,hw9⟩;(have hw8:=hw9.symm);clear hw9;subst hw8)
 go_loopw [5] (fun i wr=>∃ (j:Nat) (mj:Mc) (ra va ma:Option Addr) (rc vc mc:Nat),j<=k/\i=.int .i64 j/\runM n F (k - j) mj=runM n F k m/\Mok mj/\mj.N=m.N/\mj.S=m.S/\MO wr B mj ra va ma rc vc mc/\Mf wr (w.heap.size) [.slice ra mj.row.length rc,.int .i64 mj.N,.string mj.S,.int .i64 mj.room,.slice va mj.vals.length vc,.int .i64 mj.ret,.bool mj.over,.int .i64 mj.steps,.int .i64 mj.looks,.int .i64 mj.hits,.slice ma mj.memo.length mc]/\Mf wr (w.heap.size+1) [.slice none 0 0,.int .i64 0,.string ⟨#[]⟩,.int .i64 0,.slice none 0 0,.int .i64 0,.bool false,.int .i64 0,.int .i64 0,.int .i64 0,.slice none 0 0]/\Below w.heap.size w wr/\B<=wr.heap.size) (fun i _=>k - (intOf i).toNat)
 case atStart=>exact ⟨0,m,ra1,va1,ma1,rc1,vc1,mc1,Nat.zero_le _,rfl,by rw [Nat.sub_zero],HOK.out,rfl,rfl,HM2.out,HA2.out,HZ2.out,HB2.out,HBX2.out⟩
 case round =>
  clear HA2 HZ2 HB2 HM2 HBX2
  obtain ⟨j,mj,ra,va,ma,rc,vc,mc,hj,rfl,hrun,hok,hN,hS,hmo,hA,hZ,hb,hBw⟩:=hrel
  have HRUN:Hid (runM n F (k - j) mj=runM n F k m):=hrun
  have HOKJ:Hid (Mok mj):=hok
  have HNJ:Hid (mj.N=m.N):=hN
  have HSJ:Hid (mj.S=m.S):=hS
  have HMJ:Hid (MO wr B mj ra va ma rc vc mc):=hmo
  have HAJ:Hid (Mf wr (w.heap.size) [.slice ra mj.row.length rc,.int .i64 mj.N,.string mj.S,.int .i64 mj.room,.slice va mj.vals.length vc,.int .i64 mj.ret,.bool mj.over,.int .i64 mj.steps,.int .i64 mj.looks,.int .i64 mj.hits,.slice ma mj.memo.length mc]):=hA
  have HZJ:Hid (Mf wr (w.heap.size+1) [.slice none 0 0,.int .i64 0,.string ⟨#[]⟩,.int .i64 0,.slice none 0 0,.int .i64 0,.bool false,.int .i64 0,.int .i64 0,.int .i64 0,.slice none 0 0]):=hZ
  have HBJ:Hid (Below w.heap.size w wr):=hb
  have HBWJ:Hid (B<=wr.heap.size):=hBw
  clear hrun hok hN hS hmo hA hZ hb hBw
  by_cases hgo:j < k/\¬ (mj.over=true\/1000000000<=mj.looks\/1000000000<=mj.hits)
  ·obtain ⟨hjk,hns⟩:=hgo
   have hjz:(j:Int) < (k:Int):=by omega
   have hov:mj.over=false:=by
    cases e:mj.over
    ·rfl
    ·exact absurd (.inl e) hns
   have hlo:mj.looks < 1000000000:=by
    apply Classical.byContradiction
    intro e
    exact hns (.inr (.inl (by omega)))
   have hhi:mj.hits < 1000000000:=by
    apply Classical.byContradiction
    intro e
    exact hns (.inr (.inr (by omega)))
   have HSO:=step_ok (n:=n) (F:=F) HOKJ.out (HNJ.out.trans HN.out) hlo hhi
   have HSO2:Hid (Mok (stepM n F mj)/\(stepM n F mj).N=mj.N/\(stepM n F mj).S=mj.S):=⟨HSO.1,HSO.2.1,HSO.2.2.1⟩
   have HNX:Hid (runM n F (k - (j+1)) (stepM n F mj)=runM n F k m):=by
    show _=_
    rw [<- HRUN.out,show k - j=(k - (j+1))+1 by omega,runM_next hns]
   have HOVJ:Hid (mj.over=false):=hov
   have hlob:decide (mj.looks < 1000000000)=true:=decide_eq_true hlo
   have hhib:decide (mj.hits < 1000000000)=true:=decide_eq_true hhi
   clear HSO hns hov
   obtain ⟨c0,c1,c2,c3,c4,c5,c6,c7,c8,c9,c10,y0,y1,y2,y3,y4,y5,y6,y7,y8,y9,y10⟩:=HAJ.out.all
   rw [HOVJ.out] at c6
   go_upto_region 7 with fail
   clear c0 c1 c2 c3 c4 c5 c6 c7 c8 c9 c10 y0 y1 y2 y3 y4 y5 y6 y7 y8 y9 y10
   obtain ⟨c0,c1,c2,c3,c4,c5,c6,c7,c8,c9,c10,y0,y1,y2,y3,y4,y5,y6,y7,y8,y9,y10⟩:=HAJ.out.all
   go_wp2_with fail
   clear c0 c1 c2 c3 c4 c5 c6 c7 c8 c9 c10 y0 y1 y2 y3 y4 y5 y6 y7 y8 y9 y10 hlob hhib
   refine (HST.out mj B wr ra va ma rc vc mc HOKJ.out HNJ.out HSJ.out HBWJ.out HMJ.out).mono ?_
   rintro _ x2 ⟨ra',va',ma',rc',vc',mc',rfl,hmo,hk2,_⟩
   generalize stepM n F mj=SM at *
   have hbq:=HBQ.out
   have lv:=HMJ.out.vals.lt
   have lm:=HMJ.out.memo.lt
   have far:∀ b,b < B->¬ (At va b\/At ma b):=fun b hb h=>by
    rcases h with ⟨x,hx,e⟩|⟨x,hx,e⟩
    ·subst hx;have:=lv _ own_of;omega
    ·subst hx;have:=lm _ own_of;omega
   have HM2:Hid (MO x2 B SM ra' va' ma' rc' vc' mc'):=hmo
   have HAx2:Hid (Mf x2 (w.heap.size) [.slice ra mj.row.length rc,.int .i64 mj.N,.string mj.S,.int .i64 mj.room,.slice va mj.vals.length vc,.int .i64 mj.ret,.bool mj.over,.int .i64 mj.steps,.int .i64 mj.looks,.int .i64 mj.hits,.slice ma mj.memo.length mc]):=HAJ.out.kept hk2 (far _ (by omega))
   have HZx2:Hid (Mf x2 (w.heap.size+1) [.slice none 0 0,.int .i64 0,.string ⟨#[]⟩,.int .i64 0,.slice none 0 0,.int .i64 0,.bool false,.int .i64 0,.int .i64 0,.int .i64 0,.slice none 0 0]):=HZJ.out.kept hk2 (far _ (by omega))
   have HBx2:Hid (Below w.heap.size w x2):=HBJ.out.trans (hk2.below (fun b hb=>by
    apply Classical.byContradiction
    intro hc
    exact far b (by omega) hb) HBJ.out.size)
   have HSZ2:Hid (B<=x2.heap.size):=Nat.le_trans HBWJ.out hk2.size
   clear hmo hk2 far lv lm hbq
   obtain ⟨c0,c1,c2,c3,c4,c5,c6,c7,c8,c9,c10,y0,y1,y2,y3,y4,y5,y6,y7,y8,y9,y10⟩:=HAx2.out.all
   go_wp2
   clear c0 c1 c2 c3 c4 c5 c6 c7 c8 c9 c10 y0 y1 y2 y3 y4 y5 y6 y7 y8 y9 y10
   go_roundw
   case rel =>
    obtain ⟨Y2,hY2⟩:∃ Y,Y=(((((((((((x2).setCell ⟨w.heap.size,0,none⟩ (.slice ra' SM.row.length rc')).setCell ⟨w.heap.size,1,none⟩ (.int .i64 SM.N)).setCell ⟨w.heap.size,2,none⟩ (.string SM.S)).setCell ⟨w.heap.size,3,none⟩ (.int .i64 SM.room)).setCell ⟨w.heap.size,4,none⟩ (.slice va' SM.vals.length vc')).setCell ⟨w.heap.size,5,none⟩ (.int .i64 SM.ret)).setCell ⟨w.heap.size,6,none⟩ (.bool SM.over)).setCell ⟨w.heap.size,7,none⟩ (.int .i64 SM.steps)).setCell ⟨w.heap.size,8,none⟩ (.int .i64 SM.looks)).setCell ⟨w.heap.size,9,none⟩ (.int .i64 SM.hits)).setCell ⟨w.heap.size,10,none⟩ (.slice ma' SM.memo.length mc'):=⟨_,rfl⟩
    have K2:Kept (fun b=>b=w.heap.size) x2 Y2:=by rw [hY2];exact ((((((((((((Kept.refl (fun b=>b=w.heap.size) x2)).setCell (p:=⟨w.heap.size,0,none⟩) rfl _).setCell (p:=⟨w.heap.size,1,none⟩) rfl _).setCell (p:=⟨w.heap.size,2,none⟩) rfl _).setCell (p:=⟨w.heap.size,3,none⟩) rfl _).setCell (p:=⟨w.heap.size,4,none⟩) rfl _).setCell (p:=⟨w.heap.size,5,none⟩) rfl _).setCell (p:=⟨w.heap.size,6,none⟩) rfl _).setCell (p:=⟨w.heap.size,7,none⟩) rfl _).setCell (p:=⟨w.heap.size,8,none⟩) rfl _).setCell (p:=⟨w.heap.size,9,none⟩) rfl _).setCell (p:=⟨w.heap.size,10,none⟩) rfl _
    have hA2:Mf Y2 (w.heap.size) [.slice ra' SM.row.length rc',.int .i64 SM.N,.string SM.S,.int .i64 SM.room,.slice va' SM.vals.length vc',.int .i64 SM.ret,.bool SM.over,.int .i64 SM.steps,.int .i64 SM.looks,.int .i64 SM.hits,.slice ma' SM.memo.length mc']:=by
     rw [hY2]
     exact (((((((((((HAx2.out.set 0 (.slice ra' SM.row.length rc')).set 1 (.int .i64 SM.N)).set 2 (.string SM.S)).set 3 (.int .i64 SM.room)).set 4 (.slice va' SM.vals.length vc')).set 5 (.int .i64 SM.ret)).set 6 (.bool SM.over)).set 7 (.int .i64 SM.steps)).set 8 (.int .i64 SM.looks)).set 9 (.int .i64 SM.hits)).set 10 (.slice ma' SM.memo.length mc'))
    rw [<- hY2]
    have hbq:=HBQ.out
    have lr:=HM2.out.row.lt
    have lv:=HM2.out.vals.lt
    have lm:=HM2.out.memo.lt
    exact ⟨j+1,SM,ra',va',ma',rc',vc',mc',by omega,by go_num,HNX.out,HSO2.out.1,HSO2.out.2.1.trans HNJ.out,HSO2.out.2.2.trans HSJ.out,HM2.out.kept K2 (fun x hx h=>by subst hx;have:=lr _ own_of;omega) (fun x hx h=>by subst hx;have:=lv _ own_of;omega) (fun x hx h=>by subst hx;have:=lm _ own_of;omega),hA2,HZx2.out.kept K2 (by omega),HBx2.out.trans (K2.below (fun b hb=>by omega) HBx2.out.size),Nat.le_trans HSZ2.out K2.size⟩
   case measure=>simp [intOf];omega
  ·have HRES:Hid (runM n F k m=mj):=by
    show _=_
    rw [<- HRUN.out]
    by_cases e:j < k
    ·exact runM_stop (Classical.byContradiction fun hc=>hgo ⟨e,hc⟩) _
    ·rw [show k - j=0 by omega];rfl
   clear HST HOKJ HNJ HSJ HOK HN
   by_cases hjk:j < k
   rotate_left
   ·have hjz:¬ (j:Int) < (k:Int):=by omega
    obtain ⟨c0,c1,c2,c3,c4,c5,c6,c7,c8,c9,c10,y0,y1,y2,y3,y4,y5,y6,y7,y8,y9,y10⟩:=HAJ.out.all
    go_upto_region 8 with fail
    clear c0 c1 c2 c3 c4 c5 c6 c7 c8 c9 c10 y0 y1 y2 y3 y4 y5 y6 y7 y8 y9 y10
    obtain ⟨c0,c1,c2,c3,c4,c5,c6,c7,c8,c9,c10,y0,y1,y2,y3,y4,y5,y6,y7,y8,y9,y10⟩:=HAJ.out.all
    obtain ⟨d0,d1,d2,d3,d4,d5,d6,d7,d8,d9,d10,z0,z1,z2,z3,z4,z5,z6,z7,z8,z9,z10⟩:=HZJ.out.all
    go_wp2
    clear c0 c1 c2 c3 c4 c5 c6 c7 c8 c9 c10 y0 y1 y2 y3 y4 y5 y6 y7 y8 y9 y10 d0 d1 d2 d3 d4 d5 d6 d7 d8 d9 d10 z0 z1 z2 z3 z4 z5 z6 z7 z8 z9 z10
    obtain ⟨WF,hWF⟩:∃ WF,WF=(((((((((((wr).setCell ⟨w.heap.size+1,0,none⟩ (.slice ra mj.row.length rc)).setCell ⟨w.heap.size+1,1,none⟩ (.int .i64 mj.N)).setCell ⟨w.heap.size+1,2,none⟩ (.string mj.S)).setCell ⟨w.heap.size+1,3,none⟩ (.int .i64 mj.room)).setCell ⟨w.heap.size+1,4,none⟩ (.slice va mj.vals.length vc)).setCell ⟨w.heap.size+1,5,none⟩ (.int .i64 mj.ret)).setCell ⟨w.heap.size+1,6,none⟩ (.bool mj.over)).setCell ⟨w.heap.size+1,7,none⟩ (.int .i64 mj.steps)).setCell ⟨w.heap.size+1,8,none⟩ (.int .i64 mj.looks)).setCell ⟨w.heap.size+1,9,none⟩ (.int .i64 mj.hits)).setCell ⟨w.heap.size+1,10,none⟩ (.slice ma mj.memo.length mc):=⟨_,rfl⟩
    rw [<- hWF]
    have KF:Kept (fun b=>b=w.heap.size+1) wr WF:=by rw [hWF];exact ((((((((((((Kept.refl (fun b=>b=w.heap.size+1) wr)).setCell (p:=⟨w.heap.size+1,0,none⟩) rfl _).setCell (p:=⟨w.heap.size+1,1,none⟩) rfl _).setCell (p:=⟨w.heap.size+1,2,none⟩) rfl _).setCell (p:=⟨w.heap.size+1,3,none⟩) rfl _).setCell (p:=⟨w.heap.size+1,4,none⟩) rfl _).setCell (p:=⟨w.heap.size+1,5,none⟩) rfl _).setCell (p:=⟨w.heap.size+1,6,none⟩) rfl _).setCell (p:=⟨w.heap.size+1,7,none⟩) rfl _).setCell (p:=⟨w.heap.size+1,8,none⟩) rfl _).setCell (p:=⟨w.heap.size+1,9,none⟩) rfl _).setCell (p:=⟨w.heap.size+1,10,none⟩) rfl _
    have HF:Mf WF (w.heap.size+1) [.slice ra mj.row.length rc,.int .i64 mj.N,.string mj.S,.int .i64 mj.room,.slice va mj.vals.length vc,.int .i64 mj.ret,.bool mj.over,.int .i64 mj.steps,.int .i64 mj.looks,.int .i64 mj.hits,.slice ma mj.memo.length mc]:=by
     rw [hWF]
     exact (((((((((((HZJ.out.set 0 (.slice ra mj.row.length rc)).set 1 (.int .i64 mj.N)).set 2 (.string mj.S)).set 3 (.int .i64 mj.room)).set 4 (.slice va mj.vals.length vc)).set 5 (.int .i64 mj.ret)).set 6 (.bool mj.over)).set 7 (.int .i64 mj.steps)).set 8 (.int .i64 mj.looks)).set 9 (.int .i64 mj.hits)).set 10 (.slice ma mj.memo.length mc))
    obtain ⟨c0,c1,c2,c3,c4,c5,c6,c7,c8,c9,c10,y0,y1,y2,y3,y4,y5,y6,y7,y8,y9,y10⟩:=HF.all
    clear hWF
    have hbq:=HBQ.out
    have lr:=HMJ.out.row.lt
    have lv:=HMJ.out.vals.lt
    have lm:=HMJ.out.memo.lt
    have mo:MO WF B mj ra va ma rc vc mc:=HMJ.out.kept KF (fun x hx h=>by subst hx;have:=lr _ own_of;omega) (fun x hx h=>by subst hx;have:=lv _ own_of;omega) (fun x hx h=>by subst hx;have:=lm _ own_of;omega)
    exact bodyPost_ret (v:=mval mj ra va ma rc vc mc) (by simp [results,Tryz.results27,go_sem,c0,c1,c2,c3,c4,c5,c6,c7,c8,c9,c10]) rfl ⟨ra,va,ma,rc,vc,mc,by rw [HRES.out],by rw [HRES.out];exact ⟨ob_mono mo.row (by omega),oi_mono mo.vals (by omega),os_mono mo.memo (by omega),mo.rv,mo.rm,mo.vm⟩,HBJ.out.trans (KF.below (fun b hb=>by omega) HBJ.out.size)⟩
   have hjz:(j:Int) < (k:Int):=by omega
   have hst:mj.over=true\/1000000000<=mj.looks\/1000000000<=mj.hits:=Classical.byContradiction fun hc=>hgo ⟨hjk,hc⟩
   clear hgo
   cases hov:mj.over
   rotate_left
   ·have HOVJ:Hid (mj.over=true):=hov
    clear hov hst
    obtain ⟨c0,c1,c2,c3,c4,c5,c6,c7,c8,c9,c10,y0,y1,y2,y3,y4,y5,y6,y7,y8,y9,y10⟩:=HAJ.out.all
    rw [HOVJ.out] at c6
    go_upto_region 8 with fail
    clear c0 c1 c2 c3 c4 c5 c6 c7 c8 c9 c10 y0 y1 y2 y3 y4 y5 y6 y7 y8 y9 y10
    obtain ⟨c0,c1,c2,c3,c4,c5,c6,c7,c8,c9,c10,y0,y1,y2,y3,y4,y5,y6,y7,y8,y9,y10⟩:=HAJ.out.all
    obtain ⟨d0,d1,d2,d3,d4,d5,d6,d7,d8,d9,d10,z0,z1,z2,z3,z4,z5,z6,z7,z8,z9,z10⟩:=HZJ.out.all
    go_wp2
    clear c0 c1 c2 c3 c4 c5 c6 c7 c8 c9 c10 y0 y1 y2 y3 y4 y5 y6 y7 y8 y9 y10 d0 d1 d2 d3 d4 d5 d6 d7 d8 d9 d10 z0 z1 z2 z3 z4 z5 z6 z7 z8 z9 z10
    obtain ⟨WF,hWF⟩:∃ WF,WF=(((((((((((wr).setCell ⟨w.heap.size+1,0,none⟩ (.slice ra mj.row.length rc)).setCell ⟨w.heap.size+1,1,none⟩ (.int .i64 mj.N)).setCell ⟨w.heap.size+1,2,none⟩ (.string mj.S)).setCell ⟨w.heap.size+1,3,none⟩ (.int .i64 mj.room)).setCell ⟨w.heap.size+1,4,none⟩ (.slice va mj.vals.length vc)).setCell ⟨w.heap.size+1,5,none⟩ (.int .i64 mj.ret)).setCell ⟨w.heap.size+1,6,none⟩ (.bool mj.over)).setCell ⟨w.heap.size+1,7,none⟩ (.int .i64 mj.steps)).setCell ⟨w.heap.size+1,8,none⟩ (.int .i64 mj.looks)).setCell ⟨w.heap.size+1,9,none⟩ (.int .i64 mj.hits)).setCell ⟨w.heap.size+1,10,none⟩ (.slice ma mj.memo.length mc):=⟨_,rfl⟩
    rw [<- hWF]
    have KF:Kept (fun b=>b=w.heap.size+1) wr WF:=by rw [hWF];exact ((((((((((((Kept.refl (fun b=>b=w.heap.size+1) wr)).setCell (p:=⟨w.heap.size+1,0,none⟩) rfl _).setCell (p:=⟨w.heap.size+1,1,none⟩) rfl _).setCell (p:=⟨w.heap.size+1,2,none⟩) rfl _).setCell (p:=⟨w.heap.size+1,3,none⟩) rfl _).setCell (p:=⟨w.heap.size+1,4,none⟩) rfl _).setCell (p:=⟨w.heap.size+1,5,none⟩) rfl _).setCell (p:=⟨w.heap.size+1,6,none⟩) rfl _).setCell (p:=⟨w.heap.size+1,7,none⟩) rfl _).setCell (p:=⟨w.heap.size+1,8,none⟩) rfl _).setCell (p:=⟨w.heap.size+1,9,none⟩) rfl _).setCell (p:=⟨w.heap.size+1,10,none⟩) rfl _
    have HF:Mf WF (w.heap.size+1) [.slice ra mj.row.length rc,.int .i64 mj.N,.string mj.S,.int .i64 mj.room,.slice va mj.vals.length vc,.int .i64 mj.ret,.bool mj.over,.int .i64 mj.steps,.int .i64 mj.looks,.int .i64 mj.hits,.slice ma mj.memo.length mc]:=by
     rw [hWF]
     exact (((((((((((HZJ.out.set 0 (.slice ra mj.row.length rc)).set 1 (.int .i64 mj.N)).set 2 (.string mj.S)).set 3 (.int .i64 mj.room)).set 4 (.slice va mj.vals.length vc)).set 5 (.int .i64 mj.ret)).set 6 (.bool mj.over)).set 7 (.int .i64 mj.steps)).set 8 (.int .i64 mj.looks)).set 9 (.int .i64 mj.hits)).set 10 (.slice ma mj.memo.length mc))
    obtain ⟨c0,c1,c2,c3,c4,c5,c6,c7,c8,c9,c10,y0,y1,y2,y3,y4,y5,y6,y7,y8,y9,y10⟩:=HF.all
    clear hWF
    have hbq:=HBQ.out
    have lr:=HMJ.out.row.lt
    have lv:=HMJ.out.vals.lt
    have lm:=HMJ.out.memo.lt
    have mo:MO WF B mj ra va ma rc vc mc:=HMJ.out.kept KF (fun x hx h=>by subst hx;have:=lr _ own_of;omega) (fun x hx h=>by subst hx;have:=lv _ own_of;omega) (fun x hx h=>by subst hx;have:=lm _ own_of;omega)
    exact bodyPost_ret (v:=mval mj ra va ma rc vc mc) (by simp [results,Tryz.results27,go_sem,c0,c1,c2,c3,c4,c5,c6,c7,c8,c9,c10]) rfl ⟨ra,va,ma,rc,vc,mc,by rw [HRES.out],by rw [HRES.out];exact ⟨ob_mono mo.row (by omega),oi_mono mo.vals (by omega),os_mono mo.memo (by omega),mo.rv,mo.rm,mo.vm⟩,HBJ.out.trans (KF.below (fun b hb=>by omega) HBJ.out.size)⟩
   have HOVJ:Hid (mj.over=false):=hov
   have hst2:1000000000<=mj.looks\/1000000000<=mj.hits:=by
    rcases hst with e|e
    ·rw [hov] at e;cases e
    ·exact e
   clear hov hst
   by_cases hlo:mj.looks < 1000000000
   rotate_left
   ·have hlob:decide (mj.looks < 1000000000)=false:=decide_eq_false hlo
    obtain ⟨c0,c1,c2,c3,c4,c5,c6,c7,c8,c9,c10,y0,y1,y2,y3,y4,y5,y6,y7,y8,y9,y10⟩:=HAJ.out.all
    rw [HOVJ.out] at c6
    go_upto_region 8 with fail
    clear c0 c1 c2 c3 c4 c5 c6 c7 c8 c9 c10 y0 y1 y2 y3 y4 y5 y6 y7 y8 y9 y10
    obtain ⟨c0,c1,c2,c3,c4,c5,c6,c7,c8,c9,c10,y0,y1,y2,y3,y4,y5,y6,y7,y8,y9,y10⟩:=HAJ.out.all
    obtain ⟨d0,d1,d2,d3,d4,d5,d6,d7,d8,d9,d10,z0,z1,z2,z3,z4,z5,z6,z7,z8,z9,z10⟩:=HZJ.out.all
    go_wp2
    clear c0 c1 c2 c3 c4 c5 c6 c7 c8 c9 c10 y0 y1 y2 y3 y4 y5 y6 y7 y8 y9 y10 d0 d1 d2 d3 d4 d5 d6 d7 d8 d9 d10 z0 z1 z2 z3 z4 z5 z6 z7 z8 z9 z10
    obtain ⟨WF,hWF⟩:∃ WF,WF=(((((((((((wr).setCell ⟨w.heap.size+1,0,none⟩ (.slice ra mj.row.length rc)).setCell ⟨w.heap.size+1,1,none⟩ (.int .i64 mj.N)).setCell ⟨w.heap.size+1,2,none⟩ (.string mj.S)).setCell ⟨w.heap.size+1,3,none⟩ (.int .i64 mj.room)).setCell ⟨w.heap.size+1,4,none⟩ (.slice va mj.vals.length vc)).setCell ⟨w.heap.size+1,5,none⟩ (.int .i64 mj.ret)).setCell ⟨w.heap.size+1,6,none⟩ (.bool mj.over)).setCell ⟨w.heap.size+1,7,none⟩ (.int .i64 mj.steps)).setCell ⟨w.heap.size+1,8,none⟩ (.int .i64 mj.looks)).setCell ⟨w.heap.size+1,9,none⟩ (.int .i64 mj.hits)).setCell ⟨w.heap.size+1,10,none⟩ (.slice ma mj.memo.length mc):=⟨_,rfl⟩
    rw [<- hWF]
    have KF:Kept (fun b=>b=w.heap.size+1) wr WF:=by rw [hWF];exact ((((((((((((Kept.refl (fun b=>b=w.heap.size+1) wr)).setCell (p:=⟨w.heap.size+1,0,none⟩) rfl _).setCell (p:=⟨w.heap.size+1,1,none⟩) rfl _).setCell (p:=⟨w.heap.size+1,2,none⟩) rfl _).setCell (p:=⟨w.heap.size+1,3,none⟩) rfl _).setCell (p:=⟨w.heap.size+1,4,none⟩) rfl _).setCell (p:=⟨w.heap.size+1,5,none⟩) rfl _).setCell (p:=⟨w.heap.size+1,6,none⟩) rfl _).setCell (p:=⟨w.heap.size+1,7,none⟩) rfl _).setCell (p:=⟨w.heap.size+1,8,none⟩) rfl _).setCell (p:=⟨w.heap.size+1,9,none⟩) rfl _).setCell (p:=⟨w.heap.size+1,10,none⟩) rfl _
    have HF:Mf WF (w.heap.size+1) [.slice ra mj.row.length rc,.int .i64 mj.N,.string mj.S,.int .i64 mj.room,.slice va mj.vals.length vc,.int .i64 mj.ret,.bool mj.over,.int .i64 mj.steps,.int .i64 mj.looks,.int .i64 mj.hits,.slice ma mj.memo.length mc]:=by
     rw [hWF]
     exact (((((((((((HZJ.out.set 0 (.slice ra mj.row.length rc)).set 1 (.int .i64 mj.N)).set 2 (.string mj.S)).set 3 (.int .i64 mj.room)).set 4 (.slice va mj.vals.length vc)).set 5 (.int .i64 mj.ret)).set 6 (.bool mj.over)).set 7 (.int .i64 mj.steps)).set 8 (.int .i64 mj.looks)).set 9 (.int .i64 mj.hits)).set 10 (.slice ma mj.memo.length mc))
    obtain ⟨c0,c1,c2,c3,c4,c5,c6,c7,c8,c9,c10,y0,y1,y2,y3,y4,y5,y6,y7,y8,y9,y10⟩:=HF.all
    clear hWF
    have hbq:=HBQ.out
    have lr:=HMJ.out.row.lt
    have lv:=HMJ.out.vals.lt
    have lm:=HMJ.out.memo.lt
    have mo:MO WF B mj ra va ma rc vc mc:=HMJ.out.kept KF (fun x hx h=>by subst hx;have:=lr _ own_of;omega) (fun x hx h=>by subst hx;have:=lv _ own_of;omega) (fun x hx h=>by subst hx;have:=lm _ own_of;omega)
    exact bodyPost_ret (v:=mval mj ra va ma rc vc mc) (by simp [results,Tryz.results27,go_sem,c0,c1,c2,c3,c4,c5,c6,c7,c8,c9,c10]) rfl ⟨ra,va,ma,rc,vc,mc,by rw [HRES.out],by rw [HRES.out];exact ⟨ob_mono mo.row (by omega),oi_mono mo.vals (by omega),os_mono mo.memo (by omega),mo.rv,mo.rm,mo.vm⟩,HBJ.out.trans (KF.below (fun b hb=>by omega) HBJ.out.size)⟩
   have hlob:decide (mj.looks < 1000000000)=true:=decide_eq_true hlo
   have hhib:decide (mj.hits < 1000000000)=false:=decide_eq_false (by omega)
   ·clear hst2
    obtain ⟨c0,c1,c2,c3,c4,c5,c6,c7,c8,c9,c10,y0,y1,y2,y3,y4,y5,y6,y7,y8,y9,y10⟩:=HAJ.out.all
    rw [HOVJ.out] at c6
    go_upto_region 8 with fail
    clear c0 c1 c2 c3 c4 c5 c6 c7 c8 c9 c10 y0 y1 y2 y3 y4 y5 y6 y7 y8 y9 y10
    obtain ⟨c0,c1,c2,c3,c4,c5,c6,c7,c8,c9,c10,y0,y1,y2,y3,y4,y5,y6,y7,y8,y9,y10⟩:=HAJ.out.all
    obtain ⟨d0,d1,d2,d3,d4,d5,d6,d7,d8,d9,d10,z0,z1,z2,z3,z4,z5,z6,z7,z8,z9,z10⟩:=HZJ.out.all
    go_wp2
    clear c0 c1 c2 c3 c4 c5 c6 c7 c8 c9 c10 y0 y1 y2 y3 y4 y5 y6 y7 y8 y9 y10 d0 d1 d2 d3 d4 d5 d6 d7 d8 d9 d10 z0 z1 z2 z3 z4 z5 z6 z7 z8 z9 z10
    obtain ⟨WF,hWF⟩:∃ WF,WF=(((((((((((wr).setCell ⟨w.heap.size+1,0,none⟩ (.slice ra mj.row.length rc)).setCell ⟨w.heap.size+1,1,none⟩ (.int .i64 mj.N)).setCell ⟨w.heap.size+1,2,none⟩ (.string mj.S)).setCell ⟨w.heap.size+1,3,none⟩ (.int .i64 mj.room)).setCell ⟨w.heap.size+1,4,none⟩ (.slice va mj.vals.length vc)).setCell ⟨w.heap.size+1,5,none⟩ (.int .i64 mj.ret)).setCell ⟨w.heap.size+1,6,none⟩ (.bool mj.over)).setCell ⟨w.heap.size+1,7,none⟩ (.int .i64 mj.steps)).setCell ⟨w.heap.size+1,8,none⟩ (.int .i64 mj.looks)).setCell ⟨w.heap.size+1,9,none⟩ (.int .i64 mj.hits)).setCell ⟨w.heap.size+1,10,none⟩ (.slice ma mj.memo.length mc):=⟨_,rfl⟩
    rw [<- hWF]
    have KF:Kept (fun b=>b=w.heap.size+1) wr WF:=by rw [hWF];exact ((((((((((((Kept.refl (fun b=>b=w.heap.size+1) wr)).setCell (p:=⟨w.heap.size+1,0,none⟩) rfl _).setCell (p:=⟨w.heap.size+1,1,none⟩) rfl _).setCell (p:=⟨w.heap.size+1,2,none⟩) rfl _).setCell (p:=⟨w.heap.size+1,3,none⟩) rfl _).setCell (p:=⟨w.heap.size+1,4,none⟩) rfl _).setCell (p:=⟨w.heap.size+1,5,none⟩) rfl _).setCell (p:=⟨w.heap.size+1,6,none⟩) rfl _).setCell (p:=⟨w.heap.size+1,7,none⟩) rfl _).setCell (p:=⟨w.heap.size+1,8,none⟩) rfl _).setCell (p:=⟨w.heap.size+1,9,none⟩) rfl _).setCell (p:=⟨w.heap.size+1,10,none⟩) rfl _
    have HF:Mf WF (w.heap.size+1) [.slice ra mj.row.length rc,.int .i64 mj.N,.string mj.S,.int .i64 mj.room,.slice va mj.vals.length vc,.int .i64 mj.ret,.bool mj.over,.int .i64 mj.steps,.int .i64 mj.looks,.int .i64 mj.hits,.slice ma mj.memo.length mc]:=by
     rw [hWF]
     exact (((((((((((HZJ.out.set 0 (.slice ra mj.row.length rc)).set 1 (.int .i64 mj.N)).set 2 (.string mj.S)).set 3 (.int .i64 mj.room)).set 4 (.slice va mj.vals.length vc)).set 5 (.int .i64 mj.ret)).set 6 (.bool mj.over)).set 7 (.int .i64 mj.steps)).set 8 (.int .i64 mj.looks)).set 9 (.int .i64 mj.hits)).set 10 (.slice ma mj.memo.length mc))
    obtain ⟨c0,c1,c2,c3,c4,c5,c6,c7,c8,c9,c10,y0,y1,y2,y3,y4,y5,y6,y7,y8,y9,y10⟩:=HF.all
    clear hWF
    have hbq:=HBQ.out
    have lr:=HMJ.out.row.lt
    have lv:=HMJ.out.vals.lt
    have lm:=HMJ.out.memo.lt
    have mo:MO WF B mj ra va ma rc vc mc:=HMJ.out.kept KF (fun x hx h=>by subst hx;have:=lr _ own_of;omega) (fun x hx h=>by subst hx;have:=lv _ own_of;omega) (fun x hx h=>by subst hx;have:=lm _ own_of;omega)
    exact bodyPost_ret (v:=mval mj ra va ma rc vc mc) (by simp [results,Tryz.results27,go_sem,c0,c1,c2,c3,c4,c5,c6,c7,c8,c9,c10]) rfl ⟨ra,va,ma,rc,vc,mc,by rw [HRES.out],by rw [HRES.out];exact ⟨ob_mono mo.row (by omega),oi_mono mo.vals (by omega),os_mono mo.memo (by omega),mo.rv,mo.rm,mo.vm⟩,HBJ.out.trans (KF.below (fun b hb=>by omega) HBJ.out.size)⟩
end Mu8
end Go.Proofs.YtladjpombohpaaaGreatDoor
