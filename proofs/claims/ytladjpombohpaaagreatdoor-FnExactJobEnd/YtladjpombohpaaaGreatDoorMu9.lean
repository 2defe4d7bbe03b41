import Derived.Test.YtladjpombohpaaaGreatDoorMu8
namespace Go.Proofs.YtladjpombohpaaaGreatDoor
set_option maxRecDepth 100000
set_option maxHeartbeats 8000000
set_option linter.unusedVariables false
namespace Mu9
open Go.RowKit
open Nd0 (Kept Ints lt_of_cell At)
open Ap0 Ap1 Qc0 Qc2 Cl0 Mm0 Mx0 Mu1 Mu2 Mu3 Mu4 Mu5 Mu6 Mu7 Mu8
open Mm2 (mokB sMachineOk)
open Tc2 (tv sInT sInF)
open Ta1 (tab tok_tab)
open Ss0 (bs bs_size)
open Ss1 (tl bs_tl)
theorem sRun0 (m:Mc) (ra va ma:Option Addr) (rc vc mc:Nat) (k:Int) (w:World) (hr:m.row.length<=1048576) (hS:m.S.size<=1048576) (hv:m.vals.length<=1048576) (hm:m.memo.length<=1048576) (hR:Mr w m ra va ma) (hno:¬ (mokB m=true/\0<=k/\k<=100000)) :
 Calls Tryz.prog 27 #[mval m ra va ma rc vc mc,.int .i64 k] w fun e w'=>∃ ra' va' ma' rc' vc' mc',e=.returned (mval m ra' va' ma' rc' vc' mc')/\MO w' w.heap.size m ra' va' ma' rc' vc' mc'/\Below w.heap.size w w':=by
 have HCP:Hid (∀ W,Below w.heap.size w W->Calls Tryz.prog 49 #[mval m ra va ma rc vc mc] W fun e w'=>∃ ra' va' ma' rc' vc' mc',e=.returned (mval m ra' va' ma' rc' vc' mc')/\MO w' W.heap.size m ra' va' ma' rc' vc' mc'/\Below W.heap.size W w'):=fun W hb=>sCopy W m ra va ma rc vc mc (hR.below hb) hr hv hm
 have HMK:Hid (∀ (W:World) ra va ma rc vc mc,Mr W m ra va ma->Calls Tryz.prog 51 #[mval m ra va ma rc vc mc] W fun e w'=>e=.returned (.bool (mokB m))/\Below W.heap.size W w'):=fun W ra va ma rc vc mc h=>sMachineOk m ra va ma rc vc mc W hS h
 clear hr hS hv hm hR
 cases hok:mokB m
 ·rw [hok] at HMK
  clear hok hno
  obtain ⟨X0,hX0⟩:∃ X0,X0=((w.alloc (.cells #[.slice ra m.row.length rc,.int .i64 m.N,.string m.S,.int .i64 m.room,.slice va m.vals.length vc,.int .i64 m.ret,.bool m.over,.int .i64 m.steps,.int .i64 m.looks,.int .i64 m.hits,.slice ma m.memo.length mc] 35)).alloc (.cells #[.slice none 0 0,.int .i64 0,.string ⟨#[]⟩,.int .i64 0,.slice none 0 0,.int .i64 0,.bool false,.int .i64 0,.int .i64 0,.int .i64 0,.slice none 0 0] 35)):=⟨_,rfl⟩
  have HE0:Hid (((w.alloc (.cells #[.slice ra m.row.length rc,.int .i64 m.N,.string m.S,.int .i64 m.room,.slice va m.vals.length vc,.int .i64 m.ret,.bool m.over,.int .i64 m.steps,.int .i64 m.looks,.int .i64 m.hits,.slice ma m.memo.length mc] 35)).alloc (.cells #[.slice none 0 0,.int .i64 0,.string ⟨#[]⟩,.int .i64 0,.slice none 0 0,.int .i64 0,.bool false,.int .i64 0,.int .i64 0,.int .i64 0,.slice none 0 0] 35))=X0):=hX0.symm
  have HB0:Hid (Below w.heap.size w X0):=by rw [hX0];exact ((Below.refl _ _).alloc (Nat.le_refl _) _).alloc (by simp) _
  have HA0:Hid (Mf X0 (w.heap.size) [.slice ra m.row.length rc,.int .i64 m.N,.string m.S,.int .i64 m.room,.slice va m.vals.length vc,.int .i64 m.ret,.bool m.over,.int .i64 m.steps,.int .i64 m.looks,.int .i64 m.hits,.slice ma m.memo.length mc]):=by rw [hX0];exact (Mf.made _ _ _).alloc _
  have HZ0:Hid (Mf X0 (w.heap.size+1) [.slice none 0 0,.int .i64 0,.string ⟨#[]⟩,.int .i64 0,.slice none 0 0,.int .i64 0,.bool false,.int .i64 0,.int .i64 0,.int .i64 0,.slice none 0 0]):=by
   have h1:=Mf.made (w.alloc (.cells #[.slice ra m.row.length rc,.int .i64 m.N,.string m.S,.int .i64 m.room,.slice va m.vals.length vc,.int .i64 m.ret,.bool m.over,.int .i64 m.steps,.int .i64 m.looks,.int .i64 m.hits,.slice ma m.memo.length mc] 35)) #[.slice none 0 0,.int .i64 0,.string ⟨#[]⟩,.int .i64 0,.slice none 0 0,.int .i64 0,.bool false,.int .i64 0,.int .i64 0,.int .i64 0,.slice none 0 0] 35
   have h2:(w.alloc (.cells #[.slice ra m.row.length rc,.int .i64 m.N,.string m.S,.int .i64 m.room,.slice va m.vals.length vc,.int .i64 m.ret,.bool m.over,.int .i64 m.steps,.int .i64 m.looks,.int .i64 m.hits,.slice ma m.memo.length mc] 35)).heap.size=w.heap.size+1:=by simp
   rw [h2,<- hX0] at h1
   exact h1
  have HS0:Hid (w.heap.size+2<=X0.heap.size):=by show _<=_;rw [hX0];simp
  clear hX0
  go_enter Tryz.func27,Tryz.ntmps27
  go_upto_region 1 with fail
  rw [HE0.out]
  clear HE0
  obtain ⟨c0,c1,c2,c3,c4,c5,c6,c7,c8,c9,c10,y0,y1,y2,y3,y4,y5,y6,y7,y8,y9,y10⟩:=HA0.out.all
  go_wp2_with fail
  clear c0 c1 c2 c3 c4 c5 c6 c7 c8 c9 c10 y0 y1 y2 y3 y4 y5 y6 y7 y8 y9 y10
  refine (HCP.out _ HB0.out).mono ?_
  rintro _ x1 ⟨ra1,va1,ma1,rc1,vc1,mc1,rfl,hmo,hb⟩
  obtain ⟨B,hBe⟩:∃ B,B=X0.heap.size:=⟨_,rfl⟩
  rw [<- hBe] at hmo
  have HBQ:Hid (w.heap.size+2<=B):=by show _<=_;rw [hBe];exact HS0.out
  have HBx:Hid (B<=x1.heap.size):=by show _<=_;rw [hBe];exact hb.size
  have HM1:Hid (MO x1 B m ra1 va1 ma1 rc1 vc1 mc1):=hmo
  have HBx1:Hid (Below w.heap.size w x1):=HB0.out.trans (hb.mono HB0.out.size)
  have HAx1:Hid (Mf x1 (w.heap.size) [.slice ra m.row.length rc,.int .i64 m.N,.string m.S,.int .i64 m.room,.slice va m.vals.length vc,.int .i64 m.ret,.bool m.over,.int .i64 m.steps,.int .i64 m.looks,.int .i64 m.hits,.slice ma m.memo.length mc]):=HA0.out.below hb
  have HZx1:Hid (Mf x1 (w.heap.size+1) [.slice none 0 0,.int .i64 0,.string ⟨#[]⟩,.int .i64 0,.slice none 0 0,.int .i64 0,.bool false,.int .i64 0,.int .i64 0,.int .i64 0,.slice none 0 0]):=HZ0.out.below hb
  clear hmo hb hBe HA0 HZ0 HB0 HS0 HCP
  obtain ⟨c0,c1,c2,c3,c4,c5,c6,c7,c8,c9,c10,y0,y1,y2,y3,y4,y5,y6,y7,y8,y9,y10⟩:=HAx1.out.all
  go_upto_region 2 with fail
  clear c0 c1 c2 c3 c4 c5 c6 c7 c8 c9 c10 y0 y1 y2 y3 y4 y5 y6 y7 y8 y9 y10
  obtain ⟨Y1,hY1⟩:∃ Y,Y=(((((((((((x1).setCell ⟨w.heap.size,0,none⟩ (.slice ra1 m.row.length rc1)).setCell ⟨w.heap.size,1,none⟩ (.int .i64 m.N)).setCell ⟨w.heap.size,2,none⟩ (.string m.S)).setCell ⟨w.heap.size,3,none⟩ (.int .i64 m.room)).setCell ⟨w.heap.size,4,none⟩ (.slice va1 m.vals.length vc1)).setCell ⟨w.heap.size,5,none⟩ (.int .i64 m.ret)).setCell ⟨w.heap.size,6,none⟩ (.bool m.over)).setCell ⟨w.heap.size,7,none⟩ (.int .i64 m.steps)).setCell ⟨w.heap.size,8,none⟩ (.int .i64 m.looks)).setCell ⟨w.heap.size,9,none⟩ (.int .i64 m.hits)).setCell ⟨w.heap.size,10,none⟩ (.slice ma1 m.memo.length mc1):=⟨_,rfl⟩
  rw [<- hY1]
  have K1:Kept (fun b=>b=w.heap.size) x1 Y1:=by rw [hY1];exact ((((((((((((Kept.refl (fun b=>b=w.heap.size) x1)).setCell (p:=⟨w.heap.size,0,none⟩) rfl _).setCell (p:=⟨w.heap.size,1,none⟩) rfl _).setCell (p:=⟨w.heap.size,2,none⟩) rfl _).setCell (p:=⟨w.heap.size,3,none⟩) rfl _).setCell (p:=⟨w.heap.size,4,none⟩) rfl _).setCell (p:=⟨w.heap.size,5,none⟩) rfl _).setCell (p:=⟨w.heap.size,6,none⟩) rfl _).setCell (p:=⟨w.heap.size,7,none⟩) rfl _).setCell (p:=⟨w.heap.size,8,none⟩) rfl _).setCell (p:=⟨w.heap.size,9,none⟩) rfl _).setCell (p:=⟨w.heap.size,10,none⟩) rfl _
  have HA1:Hid (Mf Y1 (w.heap.size) [.slice ra1 m.row.length rc1,.int .i64 m.N,.string m.S,.int .i64 m.room,.slice va1 m.vals.length vc1,.int .i64 m.ret,.bool m.over,.int .i64 m.steps,.int .i64 m.looks,.int .i64 m.hits,.slice ma1 m.memo.length mc1]):=by
   rw [hY1]
   exact (((((((((((HAx1.out.set 0 (.slice ra1 m.row.length rc1)).set 1 (.int .i64 m.N)).set 2 (.string m.S)).set 3 (.int .i64 m.room)).set 4 (.slice va1 m.vals.length vc1)).set 5 (.int .i64 m.ret)).set 6 (.bool m.over)).set 7 (.int .i64 m.steps)).set 8 (.int .i64 m.looks)).set 9 (.int .i64 m.hits)).set 10 (.slice ma1 m.memo.length mc1))
  have HZ1:Hid (Mf Y1 (w.heap.size+1) [.slice none 0 0,.int .i64 0,.string ⟨#[]⟩,.int .i64 0,.slice none 0 0,.int .i64 0,.bool false,.int .i64 0,.int .i64 0,.int .i64 0,.slice none 0 0]):=HZx1.out.kept K1 (by omega)
  have HB1:Hid (Below w.heap.size w Y1):=HBx1.out.trans (K1.below (fun b hb=>by omega) HBx1.out.size)
  have HMY:Hid (MO Y1 B m ra1 va1 ma1 rc1 vc1 mc1):=by
   have hbq:=HBQ.out
   have lr:=HM1.out.row.lt
   have lv:=HM1.out.vals.lt
   have lm:=HM1.out.memo.lt
   exact HM1.out.kept K1 (fun x hx h=>by subst hx;have:=lr _ own_of;omega) (fun x hx h=>by subst hx;have:=lv _ own_of;omega) (fun x hx h=>by subst hx;have:=lm _ own_of;omega)
  have HBY:Hid (B<=Y1.heap.size):=Nat.le_trans HBx.out K1.size
  clear K1 hY1 HAx1 HZx1 HBx1 HM1 HBx
  obtain ⟨c0,c1,c2,c3,c4,c5,c6,c7,c8,c9,c10,y0,y1,y2,y3,y4,y5,y6,y7,y8,y9,y10⟩:=HA1.out.all
  go_wp2_with fail
  clear c0 c1 c2 c3 c4 c5 c6 c7 c8 c9 c10 y0 y1 y2 y3 y4 y5 y6 y7 y8 y9 y10
  refine (HMK.out _ _ _ _ _ _ _ HMY.out.mr).mono ?_
  rintro _ x2 ⟨rfl,hb⟩
  have HA2:Hid (Mf x2 (w.heap.size) [.slice ra1 m.row.length rc1,.int .i64 m.N,.string m.S,.int .i64 m.room,.slice va1 m.vals.length vc1,.int .i64 m.ret,.bool m.over,.int .i64 m.steps,.int .i64 m.looks,.int .i64 m.hits,.slice ma1 m.memo.length mc1]):=HA1.out.below hb
  have HZ2:Hid (Mf x2 (w.heap.size+1) [.slice none 0 0,.int .i64 0,.string ⟨#[]⟩,.int .i64 0,.slice none 0 0,.int .i64 0,.bool false,.int .i64 0,.int .i64 0,.int .i64 0,.slice none 0 0]):=HZ1.out.below hb
  have HB2:Hid (Below w.heap.size w x2):=HB1.out.trans (hb.mono HB1.out.size)
  have HM2:Hid (MO x2 B m ra1 va1 ma1 rc1 vc1 mc1):=HMY.out.below hb
  have HBX2:Hid (B<=x2.heap.size):=Nat.le_trans HBY.out hb.size
  clear hb HA1 HZ1 HB1 HMY HBY HMK
  go_upto_region 3 with fail
  obtain ⟨c0,c1,c2,c3,c4,c5,c6,c7,c8,c9,c10,y0,y1,y2,y3,y4,y5,y6,y7,y8,y9,y10⟩:=HA2.out.all
  obtain ⟨d0,d1,d2,d3,d4,d5,d6,d7,d8,d9,d10,z0,z1,z2,z3,z4,z5,z6,z7,z8,z9,z10⟩:=HZ2.out.all
  go_wp2
  clear c0 c1 c2 c3 c4 c5 c6 c7 c8 c9 c10 y0 y1 y2 y3 y4 y5 y6 y7 y8 y9 y10 d0 d1 d2 d3 d4 d5 d6 d7 d8 d9 d10 z0 z1 z2 z3 z4 z5 z6 z7 z8 z9 z10
  obtain ⟨WF,hWF⟩:∃ WF,WF=(((((((((((x2).setCell ⟨w.heap.size+1,0,none⟩ (.slice ra1 m.row.length rc1)).setCell ⟨w.heap.size+1,1,none⟩ (.int .i64 m.N)).setCell ⟨w.heap.size+1,2,none⟩ (.string m.S)).setCell ⟨w.heap.size+1,3,none⟩ (.int .i64 m.room)).setCell ⟨w.heap.size+1,4,none⟩ (.slice va1 m.vals.length vc1)).setCell ⟨w.heap.size+1,5,none⟩ (.int .i64 m.ret)).setCell ⟨w.heap.size+1,6,none⟩ (.bool m.over)).setCell ⟨w.heap.size+1,7,none⟩ (.int .i64 m.steps)).setCell ⟨w.heap.size+1,8,none⟩ (.int .i64 m.looks)).setCell ⟨w.heap.size+1,9,none⟩ (.int .i64 m.hits)).setCell ⟨w.heap.size+1,10,none⟩ (.slice ma1 m.memo.length mc1):=⟨_,rfl⟩
  rw [<- hWF]
  have KF:Kept (fun b=>b=w.heap.size+1) x2 WF:=by rw [hWF];exact ((((((((((((Kept.refl (fun b=>b=w.heap.size+1) x2)).setCell (p:=⟨w.heap.size+1,0,none⟩) rfl _).setCell (p:=⟨w.heap.size+1,1,none⟩) rfl _).setCell (p:=⟨w.heap.size+1,2,none⟩) rfl _).setCell (p:=⟨w.heap.size+1,3,none⟩) rfl _).setCell (p:=⟨w.heap.size+1,4,none⟩) rfl _).setCell (p:=⟨w.heap.size+1,5,none⟩) rfl _).setCell (p:=⟨w.heap.size+1,6,none⟩) rfl _).setCell (p:=⟨w.heap.size+1,7,none⟩) rfl _).setCell (p:=⟨w.heap.size+1,8,none⟩) rfl _).setCell (p:=⟨w.heap.size+1,9,none⟩) rfl _).setCell (p:=⟨w.heap.size+1,10,none⟩) rfl _
  have HF:Mf WF (w.heap.size+1) [.slice ra1 m.row.length rc1,.int .i64 m.N,.string m.S,.int .i64 m.room,.slice va1 m.vals.length vc1,.int .i64 m.ret,.bool m.over,.int .i64 m.steps,.int .i64 m.looks,.int .i64 m.hits,.slice ma1 m.memo.length mc1]:=by
   rw [hWF]
   exact (((((((((((HZ2.out.set 0 (.slice ra1 m.row.length rc1)).set 1 (.int .i64 m.N)).set 2 (.string m.S)).set 3 (.int .i64 m.room)).set 4 (.slice va1 m.vals.length vc1)).set 5 (.int .i64 m.ret)).set 6 (.bool m.over)).set 7 (.int .i64 m.steps)).set 8 (.int .i64 m.looks)).set 9 (.int .i64 m.hits)).set 10 (.slice ma1 m.memo.length mc1))
  obtain ⟨c0,c1,c2,c3,c4,c5,c6,c7,c8,c9,c10,y0,y1,y2,y3,y4,y5,y6,y7,y8,y9,y10⟩:=HF.all
  clear hWF
  have hbq:=HBQ.out
  have lr:=HM2.out.row.lt
  have lv:=HM2.out.vals.lt
  have lm:=HM2.out.memo.lt
  have mo:MO WF B m ra1 va1 ma1 rc1 vc1 mc1:=HM2.out.kept KF (fun x hx h=>by subst hx;have:=lr _ own_of;omega) (fun x hx h=>by subst hx;have:=lv _ own_of;omega) (fun x hx h=>by subst hx;have:=lm _ own_of;omega)
  exact bodyPost_ret (v:=mval m ra1 va1 ma1 rc1 vc1 mc1) (by simp [results,Tryz.results27,go_sem,c0,c1,c2,c3,c4,c5,c6,c7,c8,c9,c10]) rfl ⟨ra1,va1,ma1,rc1,vc1,mc1,rfl,⟨ob_mono mo.row (by omega),oi_mono mo.vals (by omega),os_mono mo.memo (by omega),mo.rv,mo.rm,mo.vm⟩,HB2.out.trans (KF.below (fun b hb=>by omega) HB2.out.size)⟩
 ·have HIN:Hid (∀ W:World,Calls Tryz.prog 25 #[.int .i64 k,.int .i64 0,.int .i64 100000] W fun e w'=>e=.returned (.bool false)/\w'=W):=fun W=>sInF W (fun h=>hno ⟨hok,h⟩)
  rw [hok] at HMK
  clear hok hno
  obtain ⟨X0,hX0⟩:∃ X0,X0=((w.alloc (.cells #[.slice ra m.row.length rc,.int .i64 m.N,.string m.S,.int .i64 m.room,.slice va m.vals.length vc,.int .i64 m.ret,.bool m.over,.int .i64 m.steps,.int .i64 m.looks,.int .i64 m.hits,.slice ma m.memo.length mc] 35)).alloc (.cells #[.slice none 0 0,.int .i64 0,.string ⟨#[]⟩,.int .i64 0,.slice none 0 0,.int .i64 0,.bool false,.int .i64 0,.int .i64 0,.int .i64 0,.slice none 0 0] 35)):=⟨_,rfl⟩
  have HE0:Hid (((w.alloc (.cells #[.slice ra m.row.length rc,.int .i64 m.N,.string m.S,.int .i64 m.room,.slice va m.vals.length vc,.int .i64 m.ret,.bool m.over,.int .i64 m.steps,.int .i64 m.looks,.int .i64 m.hits,.slice ma m.memo.length mc] 35)).alloc (.cells #[.slice none 0 0,.int .i64 0,.string ⟨#[]⟩,.int .i64 0,.slice none 0 0,.int .i64 0,.bool false,.int .i64 0,.int .i64 0,.int .i64 0,.slice none 0 0] 35))=X0):=hX0.symm
  have HB0:Hid (Below w.heap.size w X0):=by rw [hX0];exact ((Below.refl _ _).alloc (Nat.le_refl _) _).alloc (by simp) _
  have HA0:Hid (Mf X0 (w.heap.size) [.slice ra m.row.length rc,.int .i64 m.N,.string m.S,.int .i64 m.room,.slice va m.vals.length vc,.int .i64 m.ret,.bool m.over,.int .i64 m.steps,.int .i64 m.looks,.int .i64 m.hits,.slice ma m.memo.length mc]):=by rw [hX0];exact (Mf.made _ _ _).alloc _
  have HZ0:Hid (Mf X0 (w.heap.size+1) [.slice none 0 0,.int .i64 0,.string ⟨#[]⟩,.int .i64 0,.slice none 0 0,.int .i64 0,.bool false,.int .i64 0,.int .i64 0,.int .i64 0,.slice none 0 0]):=by
   have h1:=Mf.made (w.alloc (.cells #[.slice ra m.row.length rc,.int .i64 m.N,.string m.S,.int .i64 m.room,.slice va m.vals.length vc,.int .i64 m.ret,.bool m.over,.int .i64 m.steps,.int .i64 m.looks,.int .i64 m.hits,.slice ma m.memo.length mc] 35)) #[.slice none 0 0,.int .i64 0,.string ⟨#[]⟩,.int .i64 0,.slice none 0 0,.int .i64 0,.bool false,.int .i64 0,.int .i64 0,.int .i64 0,.slice none 0 0] 35
   have h2:(w.alloc (.cells #[.slice ra m.row.length rc,.int .i64 m.N,.string m.S,.int .i64 m.room,.slice va m.vals.length vc,.int .i64 m.ret,.bool m.over,.int .i64 m.steps,.int .i64 m.looks,.int .i64 m.hits,.slice ma m.memo.length mc] 35)).heap.size=w.heap.size+1:=by simp
   rw [h2,<- hX0] at h1
   exact h1
  have HS0:Hid (w.heap.size+2<=X0.heap.size):=by show _<=_;rw [hX0];simp
  clear hX0
  go_enter Tryz.func27,Tryz.ntmps27
  go_upto_region 1 with fail
  rw [HE0.out]
  clear HE0
  obtain ⟨c0,c1,c2,c3,c4,c5,c6,c7,c8,c9,c10,y0,y1,y2,y3,y4,y5,y6,y7,y8,y9,y10⟩:=HA0.out.all
  go_wp2_with fail
  clear c0 c1 c2 c3 c4 c5 c6 c7 c8 c9 c10 y0 y1 y2 y3 y4 y5 y6 y7 y8 y9 y10
  refine (HCP.out _ HB0.out).mono ?_
  rintro _ x1 ⟨ra1,va1,ma1,rc1,vc1,mc1,rfl,hmo,hb⟩
  obtain ⟨B,hBe⟩:∃ B,B=X0.heap.size:=⟨_,rfl⟩
  rw [<- hBe] at hmo
  have HBQ:Hid (w.heap.size+2<=B):=by show _<=_;rw [hBe];exact HS0.out
  have HBx:Hid (B<=x1.heap.size):=by show _<=_;rw [hBe];exact hb.size
  have HM1:Hid (MO x1 B m ra1 va1 ma1 rc1 vc1 mc1):=hmo
  have HBx1:Hid (Below w.heap.size w x1):=HB0.out.trans (hb.mono HB0.out.size)
  have HAx1:Hid (Mf x1 (w.heap.size) [.slice ra m.row.length rc,.int .i64 m.N,.string m.S,.int .i64 m.room,.slice va m.vals.length vc,.int .i64 m.ret,.bool m.over,.int .i64 m.steps,.int .i64 m.looks,.int .i64 m.hits,.slice ma m.memo.length mc]):=HA0.out.below hb
  have HZx1:Hid (Mf x1 (w.heap.size+1) [.slice none 0 0,.int .i64 0,.string ⟨#[]⟩,.int .i64 0,.slice none 0 0,.int .i64 0,.bool false,.int .i64 0,.int .i64 0,.int .i64 0,.slice none 0 0]):=HZ0.out.below hb
  clear hmo hb hBe HA0 HZ0 HB0 HS0 HCP
  obtain ⟨c0,c1,c2,c3,c4,c5,c6,c7,c8,c9,c10,y0,y1,y2,y3,y4,y5,y6,y7,y8,y9,y10⟩:=HAx1.out.all
  go_upto_region 2 with fail
  clear c0 c1 c2 c3 c4 c5 c6 c7 c8 c9 c10 y0 y1 y2 y3 y4 y5 y6 y7 y8 y9 y10
  obtain ⟨Y1,hY1⟩:∃ Y,Y=(((((((((((x1).setCell ⟨w.heap.size,0,none⟩ (.slice ra1 m.row.length rc1)).setCell ⟨w.heap.size,1,none⟩ (.int .i64 m.N)).setCell ⟨w.heap.size,2,none⟩ (.string m.S)).setCell ⟨w.heap.size,3,none⟩ (.int .i64 m.room)).setCell ⟨w.heap.size,4,none⟩ (.slice va1 m.vals.length vc1)).setCell ⟨w.heap.size,5,none⟩ (.int .i64 m.ret)).setCell ⟨w.heap.size,6,none⟩ (.bool m.over)).setCell ⟨w.heap.size,7,none⟩ (.int .i64 m.steps)).setCell ⟨w.heap.size,8,none⟩ (.int .i64 m.looks)).setCell ⟨w.heap.size,9,none⟩ (.int .i64 m.hits)).setCell ⟨w.heap.size,10,none⟩ (.slice ma1 m.memo.length mc1):=⟨_,rfl⟩
  rw [<- hY1]
  have K1:Kept (fun b=>b=w.heap.size) x1 Y1:=by rw [hY1];exact ((((((((((((Kept.refl (fun b=>b=w.heap.size) x1)).setCell (p:=⟨w.heap.size,0,none⟩) rfl _).setCell (p:=⟨w.heap.size,1,none⟩) rfl _).setCell (p:=⟨w.heap.size,2,none⟩) rfl _).setCell (p:=⟨w.heap.size,3,none⟩) rfl _).setCell (p:=⟨w.heap.size,4,none⟩) rfl _).setCell (p:=⟨w.heap.size,5,none⟩) rfl _).setCell (p:=⟨w.heap.size,6,none⟩) rfl _).setCell (p:=⟨w.heap.size,7,none⟩) rfl _).setCell (p:=⟨w.heap.size,8,none⟩) rfl _).setCell (p:=⟨w.heap.size,9,none⟩) rfl _).setCell (p:=⟨w.heap.size,10,none⟩) rfl _
  have HA1:Hid (Mf Y1 (w.heap.size) [.slice ra1 m.row.length rc1,.int .i64 m.N,.string m.S,.int .i64 m.room,.slice va1 m.vals.length vc1,.int .i64 m.ret,.bool m.over,.int .i64 m.steps,.int .i64 m.looks,.int .i64 m.hits,.slice ma1 m.memo.length mc1]):=by
   rw [hY1]
   exact (((((((((((HAx1.out.set 0 (.slice ra1 m.row.length rc1)).set 1 (.int .i64 m.N)).set 2 (.string m.S)).set 3 (.int .i64 m.room)).set 4 (.slice va1 m.vals.length vc1)).set 5 (.int .i64 m.ret)).set 6 (.bool m.over)).set 7 (.int .i64 m.steps)).set 8 (.int .i64 m.looks)).set 9 (.int .i64 m.hits)).set 10 (.slice ma1 m.memo.length mc1))
  have HZ1:Hid (Mf Y1 (w.heap.size+1) [.slice none 0 0,.int .i64 0,.string ⟨#[]⟩,.int .i64 0,.slice none 0 0,.int .i64 0,.bool false,.int .i64 0,.int .i64 0,.int .i64 0,.slice none 0 0]):=HZx1.out.kept K1 (by omega)
  have HB1:Hid (Below w.heap.size w Y1):=HBx1.out.trans (K1.below (fun b hb=>by omega) HBx1.out.size)
  have HMY:Hid (MO Y1 B m ra1 va1 ma1 rc1 vc1 mc1):=by
   have hbq:=HBQ.out
   have lr:=HM1.out.row.lt
   have lv:=HM1.out.vals.lt
   have lm:=HM1.out.memo.lt
   exact HM1.out.kept K1 (fun x hx h=>by subst hx;have:=lr _ own_of;omega) (fun x hx h=>by subst hx;have:=lv _ own_of;omega) (fun x hx h=>by subst hx;have:=lm _ own_of;omega)
  have HBY:Hid (B<=Y1.heap.size):=Nat.le_trans HBx.out K1.size
  clear K1 hY1 HAx1 HZx1 HBx1 HM1 HBx
  obtain ⟨c0,c1,c2,c3,c4,c5,c6,c7,c8,c9,c10,y0,y1,y2,y3,y4,y5,y6,y7,y8,y9,y10⟩:=HA1.out.all
  go_wp2_with fail
  clear c0 c1 c2 c3 c4 c5 c6 c7 c8 c9 c10 y0 y1 y2 y3 y4 y5 y6 y7 y8 y9 y10
  refine (HMK.out _ _ _ _ _ _ _ HMY.out.mr).mono ?_
  rintro _ x2 ⟨rfl,hb⟩
  have HA2:Hid (Mf x2 (w.heap.size) [.slice ra1 m.row.length rc1,.int .i64 m.N,.string m.S,.int .i64 m.room,.slice va1 m.vals.length vc1,.int .i64 m.ret,.bool m.over,.int .i64 m.steps,.int .i64 m.looks,.int .i64 m.hits,.slice ma1 m.memo.length mc1]):=HA1.out.below hb
  have HZ2:Hid (Mf x2 (w.heap.size+1) [.slice none 0 0,.int .i64 0,.string ⟨#[]⟩,.int .i64 0,.slice none 0 0,.int .i64 0,.bool false,.int .i64 0,.int .i64 0,.int .i64 0,.slice none 0 0]):=HZ1.out.below hb
  have HB2:Hid (Below w.heap.size w x2):=HB1.out.trans (hb.mono HB1.out.size)
  have HM2:Hid (MO x2 B m ra1 va1 ma1 rc1 vc1 mc1):=HMY.out.below hb
  have HBX2:Hid (B<=x2.heap.size):=Nat.le_trans HBY.out hb.size
  clear hb HA1 HZ1 HB1 HMY HBY HMK
  go_upto_region 3 with (go_at_call 25;refine (HIN.out _).mono ?_;rintro e w9 ⟨rfl,hw9⟩;(have hw8:=hw9.symm);clear hw9;subst hw8)
  obtain ⟨c0,c1,c2,c3,c4,c5,c6,c7,c8,c9,c10,y0,y1,y2,y3,y4,y5,y6,y7,y8,y9,y10⟩:=HA2.out.all
  obtain ⟨d0,d1,d2,d3,d4,d5,d6,d7,d8,d9,d10,z0,z1,z2,z3,z4,z5,z6,z7,z8,z9,z10⟩:=HZ2.out.all
  go_wp2
  clear c0 c1 c2 c3 c4 c5 c6 c7 c8 c9 c10 y0 y1 y2 y3 y4 y5 y6 y7 y8 y9 y10 d0 d1 d2 d3 d4 d5 d6 d7 d8 d9 d10 z0 z1 z2 z3 z4 z5 z6 z7 z8 z9 z10
  obtain ⟨WF,hWF⟩:∃ WF,WF=(((((((((((x2).setCell ⟨w.heap.size+1,0,none⟩ (.slice ra1 m.row.length rc1)).setCell ⟨w.heap.size+1,1,none⟩ (.int .i64 m.N)).setCell ⟨w.heap.size+1,2,none⟩ (.string m.S)).setCell ⟨w.heap.size+1,3,none⟩ (.int .i64 m.room)).setCell ⟨w.heap.size+1,4,none⟩ (.slice va1 m.vals.length vc1)).setCell ⟨w.heap.size+1,5,none⟩ (.int .i64 m.ret)).setCell ⟨w.heap.size+1,6,none⟩ (.bool m.over)).setCell ⟨w.heap.size+1,7,none⟩ (.int .i64 m.steps)).setCell ⟨w.heap.size+1,8,none⟩ (.int .i64 m.looks)).setCell ⟨w.heap.size+1,9,none⟩ (.int .i64 m.hits)).setCell ⟨w.heap.size+1,10,none⟩ (.slice ma1 m.memo.length mc1):=⟨_,rfl⟩
  rw [<- hWF]
  have KF:Kept (fun b=>b=w.heap.size+1) x2 WF:=by rw [hWF];exact ((((((((((((Kept.refl (fun b=>b=w.heap.size+1) x2)).setCell (p:=⟨w.heap.size+1,0,none⟩) rfl _).setCell (p:=⟨w.heap.size+1,1,none⟩) rfl _).setCell (p:=⟨w.heap.size+1,2,none⟩) rfl _).setCell (p:=⟨w.heap.size+1,3,none⟩) rfl _).setCell (p:=⟨w.heap.size+1,4,none⟩) rfl _).setCell (p:=⟨w.heap.size+1,5,none⟩) rfl _).setCell (p:=⟨w.heap.size+1,6,none⟩) rfl _).setCell (p:=⟨w.heap.size+1,7,none⟩) rfl _).setCell (p:=⟨w.heap.size+1,8,none⟩) rfl _).setCell (p:=⟨w.heap.size+1,9,none⟩) rfl _).setCell (p:=⟨w.heap.size+1,10,none⟩) rfl _
  have HF:Mf WF (w.heap.size+1) [.slice ra1 m.row.length rc1,.int .i64 m.N,.string m.S,.int .i64 m.room,.slice va1 m.vals.length vc1,.int .i64 m.ret,.bool m.over,.int .i64 m.steps,.int .i64 m.looks,.int .i64 m.hits,.slice ma1 m.memo.length mc1]:=by
   rw [hWF]
   exact (((((((((((HZ2.out.set 0 (.slice ra1 m.row.length rc1)).set 1 (.int .i64 m.N)).set 2 (.string m.S)).set 3 (.int .i64 m.room)).set 4 (.slice va1 m.vals.length vc1)).set 5 (.int .i64 m.ret)).set 6 (.bool m.over)).set 7 (.int .i64 m.steps)).set 8 (.int .i64 m.looks)).set 9 (.int .i64 m.hits)).set 10 (.slice ma1 m.memo.length mc1))
  obtain ⟨c0,c1,c2,c3,c4,c5,c6,c7,c8,c9,c10,y0,y1,y2,y3,y4,y5,y6,y7,y8,y9,y10⟩:=HF.all
  clear hWF
  have hbq:=HBQ.out
  have lr:=HM2.out.row.lt
  have lv:=HM2.out.vals.lt
  have lm:=HM2.out.memo.lt
  have mo:MO WF B m ra1 va1 ma1 rc1 vc1 mc1:=HM2.out.kept KF (fun x hx h=>by subst hx;have:=lr _ own_of;omega) (fun x hx h=>by subst hx;have:=lv _ own_of;omega) (fun x hx h=>by subst hx;have:=lm _ own_of;omega)
  exact bodyPost_ret (v:=mval m ra1 va1 ma1 rc1 vc1 mc1) (by simp [results,Tryz.results27,go_sem,c0,c1,c2,c3,c4,c5,c6,c7,c8,c9,c10]) rfl ⟨ra1,va1,ma1,rc1,vc1,mc1,rfl,⟨ob_mono mo.row (by omega),oi_mono mo.vals (by omega),os_mono mo.memo (by omega),mo.rv,mo.rm,mo.vm⟩,HB2.out.trans (KF.below (fun b hb=>by omega) HB2.out.size)⟩
end Mu9
end Go.Proofs.YtladjpombohpaaaGreatDoor
