import Derived.Test.YtladjpombohpaaaGreatDoorPkJE22
import Derived.Test.YtladjpombohpaaaGreatDoorPkJE23
namespace Go.Proofs.YtladjpombohpaaaGreatDoor
set_option maxRecDepth 100000
set_option maxHeartbeats 8000000
set_option linter.unusedVariables false
namespace Mu3
open Go.RowKit
open Nd0 (Kept Ints lt_of_cell At)
open Ap0 Ap1 Qc0 Qc2 Cl0 Mm0 Mx0 Mu1 Mu2
open Ta0 Ta1 Ta2 Ta3 Tc2 Tc5 Td1 Td2 Td4 Mc0 Mm1
open Tk0 (keyL sKey)
open Ss0 (bs bs_size)
/-- The way down of a right machine, as plain data. -/
def downM (n:Nat) (F:Nat->Bool) (vb:List Bool) (m:Mc):Mc :=
 if 0<=knw (n - vb.length) (lft n F vb) then { m with ret:=knw (n - vb.length) (lft n F vb),looks:=m.looks+1 }
 else if 0<=fnd m.memo (bs (keyL (n - vb.length) (tab (n - vb.length) (lft n F vb)))) then { m with ret:=fnd m.memo (bs (keyL (n - vb.length) (tab (n - vb.length) (lft n F vb)))),hits:=m.hits+1 }
 else { m with vals:=m.vals++[0] }
theorem MO.lts {W:World} {B:Nat} {m:Mc} {ra va ma:Option Addr} {rc vc mc:Nat} (h:MO W B m ra va ma rc vc mc):(∀ x,ra=some x->x.block < W.heap.size)/\(∀ x,va=some x->x.block < W.heap.size)/\(∀ x,ma=some x->x.block < W.heap.size) :=
 ⟨fun x hx=>by subst hx;exact (h.row.lt _ own_of).2,fun x hx=>by subst hx;exact (h.vals.lt _ own_of).2,fun x hx=>by subst hx;exact (h.memo.lt _ own_of).2⟩
theorem sDown (n:Nat) (F:Nat->Bool) (vb:List Bool) (m:Mc) (ra va ma:Option Addr) (rc vc mc:Nat) (B:Nat) (w:World) (hn:n<=12) (hN:m.N=(n:Int)) (hS:m.S=bs (tab n F)) (hv:m.vals=vb.map bi) (hk:vb.length<=n) (hlo:0<=m.looks/\m.looks<=1000000000) (hhi:0<=m.hits/\m.hits<=1000000000) (hB:B<=w.heap.size) (h:MO w B m ra va ma rc vc mc) :
 Calls Tryz.prog 92 #[mval m ra va ma rc vc mc] w fun e w'=>∃ ra' va' ma' rc' vc' mc',e=.returned (mval (downM n F vb m) ra' va' ma' rc' vc' mc')/\MO w' B (downM n F vb m) ra' va' ma' rc' vc' mc'/\Kept (fun b=>At va b\/At ma b) w w'/\FR w ra va ma ra' va' ma':=by
 have HM0:Hid (MO w B m ra va ma rc vc mc):=h
 have HQ:Hid ((∀ x,ra=some x->x.block < w.heap.size)/\(∀ x,va=some x->x.block < w.heap.size)/\(∀ x,ma=some x->x.block < w.heap.size)):=MO.lts h
 have hvl:m.vals.length<=12:=by rw [hv,List.length_map];omega
 have HLF:Hid (∀ W,Below w.heap.size w W->Calls Tryz.prog 133 #[mval m ra va ma rc vc mc] W fun e w'=>e=.returned (tv ((n - vb.length:Nat):Int) (bs (tab (n - vb.length) (lft n F vb))))/\Below W.heap.size W w'):=fun W hb=>sLeft n F vb m ra va ma rc vc mc W hn hN hS hv hk (h.mr.vals.below hb)
 have HKN:Hid (∀ W,Calls Tryz.prog 134 #[tv ((n - vb.length:Nat):Int) (bs (tab (n - vb.length) (lft n F vb)))] W fun e w'=>e=.returned (.int .i64 (knw (n - vb.length) (lft n F vb)))/\Below W.heap.size W w'):=fun W=>sKnown _ _ W (by omega)
 have HKY0:Hid (∀ W,Calls Tryz.prog 95 #[tv ((n - vb.length:Nat):Int) (bs (tab (n - vb.length) (lft n F vb)))] W fun e w'=>e=.returned (.string (bs (keyL (n - vb.length) (tab (n - vb.length) (lft n F vb)))))/\Below W.heap.size W w'):=fun W=>sKey _ _ W (by omega)
 have HDD:Hid (downM n F vb m=if 0<=knw (n - vb.length) (lft n F vb) then { m with ret:=knw (n - vb.length) (lft n F vb),looks:=m.looks+1 } else if 0<=fnd m.memo (bs (keyL (n - vb.length) (tab (n - vb.length) (lft n F vb)))) then { m with ret:=fnd m.memo (bs (keyL (n - vb.length) (tab (n - vb.length) (lft n F vb)))),hits:=m.hits+1 } else { m with vals:=m.vals++[0] }):=rfl
 have HFD:Hid (∀ (W:World) (key:ByteArray),Below w.heap.size w W->Calls Tryz.prog 135 #[.slice ma m.memo.length mc,.string key] W fun e w'=>e=.returned (.int .i64 (fnd m.memo key))/\w'=W):=fun W key hb=>sFind W ma m.memo mc key (h.mr.memo.below hb)
 clear h hN hS hv hk
 generalize downM n F vb m=DM at *
 generalize bs (keyL (n - vb.length) (tab (n - vb.length) (lft n F vb)))=KEY at *
 generalize bs (tab (n - vb.length) (lft n F vb))=T at *
 generalize lft n F vb=G at *
 generalize n - vb.length=e at *
 obtain ⟨X0,hX0⟩:∃ X0,X0=((w.alloc (.cells #[.slice ra m.row.length rc,.int .i64 m.N,.string m.S,.int .i64 m.room,.slice va m.vals.length vc,.int .i64 m.ret,.bool m.over,.int .i64 m.steps,.int .i64 m.looks,.int .i64 m.hits,.slice ma m.memo.length mc] 35)).alloc (.cells #[.slice none 0 0,.int .i64 0,.string ⟨#[]⟩,.int .i64 0,.slice none 0 0,.int .i64 0,.bool false,.int .i64 0,.int .i64 0,.int .i64 0,.slice none 0 0] 35)):=⟨_,rfl⟩
 have HE0:Hid (((w.alloc (.cells #[.slice ra m.row.length rc,.int .i64 m.N,.string m.S,.int .i64 m.room,.slice va m.vals.length vc,.int .i64 m.ret,.bool m.over,.int .i64 m.steps,.int .i64 m.looks,.int .i64 m.hits,.slice ma m.memo.length mc] 35)).alloc (.cells #[.slice none 0 0,.int .i64 0,.string ⟨#[]⟩,.int .i64 0,.slice none 0 0,.int .i64 0,.bool false,.int .i64 0,.int .i64 0,.int .i64 0,.slice none 0 0] 35))=X0):=hX0.symm
 have HB0:Hid (Below w.heap.size w X0):=by rw [hX0];exact ((Below.refl _ _).alloc (Nat.le_refl _) _).alloc (by simp) _
 have HA0:Hid (Mf X0 (w.heap.size) [.slice ra m.row.length rc,.int .i64 m.N,.string m.S,.int .i64 m.room,.slice va m.vals.length vc,.int .i64 m.ret,.bool m.over,.int .i64 m.steps,.int .i64 m.looks,.int .i64 m.hits,.slice ma m.memo.length mc]):=by rw [hX0];exact (Mf.made _ _ _).alloc _
 have HZ0:Hid (Mf X0 (w.heap.size+1) [.slice none 0 0,.int .i64 0,.string ⟨#[]⟩,.int .i64 0,.slice none 0 0,.int .i64 0,.bool false,.int .i64 0,.int .i64 0,.int .i64 0,.slice none 0 0]):=by
  have h1:=Mf.made (w.alloc (.cells #[.slice ra m.row.length rc,.int .i64 m.N,.string m.S,.int .i64 m.room,.slice va m.vals.length vc,.int .i64 m.ret,.bool m.over,.int .i64 m.steps,.int .i64 m.looks,.int .i64 m.hits,.slice ma m.memo.length mc] 35)) #[.slice none 0 0,.int .i64 0,.string ⟨#[]⟩,.int .i64 0,.slice none 0 0,.int .i64 0,.bool false,.int .i64 0,.int .i64 0,.int .i64 0,.slice none 0 0] 35
  have h2:(w.alloc (.cells #[.slice ra m.row.length rc,.int .i64 m.N,.string m.S,.int .i64 m.room,.slice va m.vals.length vc,.int .i64 m.ret,.bool m.over,.int .i64 m.steps,.int .i64 m.looks,.int .i64 m.hits,.slice ma m.memo.length mc] 35)).heap.size=w.heap.size+1:=by simp
  rw [h2,<- hX0] at h1
  exact h1
 have HS0:Hid (w.heap.size+2<=X0.heap.size):=by show _<=_;rw [hX0];simp
 clear hX0
 have HB_X0:Hid (Below w.heap.size w X0):=HB0.out
 have HA_X0:Hid (Mf X0 (w.heap.size) [.slice ra m.row.length rc,.int .i64 m.N,.string m.S,.int .i64 m.room,.slice va m.vals.length vc,.int .i64 m.ret,.bool m.over,.int .i64 m.steps,.int .i64 m.looks,.int .i64 m.hits,.slice ma m.memo.length mc]):=HA0.out
 have HZ_X0:Hid (Mf X0 (w.heap.size+1) [.slice none 0 0,.int .i64 0,.string ⟨#[]⟩,.int .i64 0,.slice none 0 0,.int .i64 0,.bool false,.int .i64 0,.int .i64 0,.int .i64 0,.slice none 0 0]):=HZ0.out
 have HM_X0:Hid (MO X0 B m ra va ma rc vc mc):=HM0.out.below HB0.out
 clear HB0 HA0 HZ0
 go_enter Tryz.func92,Tryz.ntmps92
 go_upto_region 1 with fail
 rw [HE0.out]
 clear HE0
 obtain ⟨c0,c1,c2,c3,c4,c5,c6,c7,c8,c9,c10,y0,y1,y2,y3,y4,y5,y6,y7,y8,y9,y10⟩:=HA_X0.out.all
 go_wp2_with fail
 clear c0 c1 c2 c3 c4 c5 c6 c7 c8 c9 c10 y0 y1 y2 y3 y4 y5 y6 y7 y8 y9 y10
 refine (HLF.out _ HB_X0.out).mono ?_
 rintro _ x1 ⟨rfl,hb⟩
 have HB_x1:Hid (Below w.heap.size w x1):=HB_X0.out.trans (hb.mono HB_X0.out.size)
 have HA_x1:Hid (Mf x1 (w.heap.size) [.slice ra m.row.length rc,.int .i64 m.N,.string m.S,.int .i64 m.room,.slice va m.vals.length vc,.int .i64 m.ret,.bool m.over,.int .i64 m.steps,.int .i64 m.looks,.int .i64 m.hits,.slice ma m.memo.length mc]):=HA_X0.out.below hb
 have HZ_x1:Hid (Mf x1 (w.heap.size+1) [.slice none 0 0,.int .i64 0,.string ⟨#[]⟩,.int .i64 0,.slice none 0 0,.int .i64 0,.bool false,.int .i64 0,.int .i64 0,.int .i64 0,.slice none 0 0]):=HZ_X0.out.below hb
 have HM_x1:Hid (MO x1 B m ra va ma rc vc mc):=HM_X0.out.below hb
 clear hb
 go_upto_region 2 with fail
 obtain ⟨X1,hX1⟩:∃ X,X=x1.alloc (.cells #[.int .i64 (e:Int),.string T] 32):=⟨_,rfl⟩
 obtain ⟨q3,hq3⟩:∃ q,q=x1.heap.size:=⟨_,rfl⟩
 have hb:Below x1.heap.size x1 X1:=by rw [hX1];exact (Below.refl _ _).alloc (Nat.le_refl _) _
 have HL_X1:Hid (Lay X1 q3 (.int .i64 (e:Int)) (.string T)):=by rw [hX1,hq3];exact Lay.made _ _ _ _
 rw [<- hX1,<- hq3]
 have HB_X1:Hid (Below w.heap.size w X1):=HB_x1.out.trans (hb.mono HB_x1.out.size)
 have HA_X1:Hid (Mf X1 (w.heap.size) [.slice ra m.row.length rc,.int .i64 m.N,.string m.S,.int .i64 m.room,.slice va m.vals.length vc,.int .i64 m.ret,.bool m.over,.int .i64 m.steps,.int .i64 m.looks,.int .i64 m.hits,.slice ma m.memo.length mc]):=HA_x1.out.below hb
 have HZ_X1:Hid (Mf X1 (w.heap.size+1) [.slice none 0 0,.int .i64 0,.string ⟨#[]⟩,.int .i64 0,.slice none 0 0,.int .i64 0,.bool false,.int .i64 0,.int .i64 0,.int .i64 0,.slice none 0 0]):=HZ_x1.out.below hb
 have HM_X1:Hid (MO X1 B m ra va ma rc vc mc):=HM_x1.out.below hb
 clear hb hX1 hq3
 obtain ⟨t0,t1,_,_⟩:=HL_X1.out
 go_wp2_with fail
 clear t0 t1
 refine (HKN.out _).mono ?_
 rintro _ x2 ⟨rfl,hb⟩
 have HB_x2:Hid (Below w.heap.size w x2):=HB_X1.out.trans (hb.mono HB_X1.out.size)
 have HA_x2:Hid (Mf x2 (w.heap.size) [.slice ra m.row.length rc,.int .i64 m.N,.string m.S,.int .i64 m.room,.slice va m.vals.length vc,.int .i64 m.ret,.bool m.over,.int .i64 m.steps,.int .i64 m.looks,.int .i64 m.hits,.slice ma m.memo.length mc]):=HA_X1.out.below hb
 have HZ_x2:Hid (Mf x2 (w.heap.size+1) [.slice none 0 0,.int .i64 0,.string ⟨#[]⟩,.int .i64 0,.slice none 0 0,.int .i64 0,.bool false,.int .i64 0,.int .i64 0,.int .i64 0,.slice none 0 0]):=HZ_X1.out.below hb
 have HM_x2:Hid (MO x2 B m ra va ma rc vc mc):=HM_X1.out.below hb
 have HL_x2:Hid (Lay x2 q3 (.int .i64 (e:Int)) (.string T)):=HL_X1.out.below hb
 clear hb
 by_cases hA:0<=knw e G
 ·have HD:Hid (DM={ m with ret:=knw e G,looks:=m.looks+1 }):=by show _=_;rw [HDD.out,if_pos hA]
  clear HDD
  obtain ⟨c0,c1,c2,c3,c4,c5,c6,c7,c8,c9,c10,y0,y1,y2,y3,y4,y5,y6,y7,y8,y9,y10⟩:=HA_x2.out.all
  go_upto_region 6 with fail
  clear c0 c1 c2 c3 c4 c5 c6 c7 c8 c9 c10 y0 y1 y2 y3 y4 y5 y6 y7 y8 y9 y10
  obtain ⟨Y,hY⟩:∃ Y,Y=((x2).setCell ⟨w.heap.size,5,none⟩ (.int .i64 (knw e G))).setCell ⟨w.heap.size,8,none⟩ (.int .i64 (m.looks+1)):=⟨_,rfl⟩
  rw [<- hY]
  have KY:Kept (fun b=>b=w.heap.size) x2 Y:=by rw [hY];exact (((Kept.refl (fun b=>b=w.heap.size) x2)).setCell (p:=⟨w.heap.size,5,none⟩) rfl _).setCell (p:=⟨w.heap.size,8,none⟩) rfl _
  have HAY:Mf Y (w.heap.size) [.slice ra m.row.length rc,.int .i64 m.N,.string m.S,.int .i64 m.room,.slice va m.vals.length vc,.int .i64 (knw e G),.bool m.over,.int .i64 m.steps,.int .i64 (m.looks+1),.int .i64 m.hits,.slice ma m.memo.length mc]:=by
   rw [hY]
   exact ((HA_x2.out.set 5 (.int .i64 (knw e G))).set 8 (.int .i64 (m.looks+1)))
  have HZY:Hid (Mf Y (w.heap.size+1) [.slice none 0 0,.int .i64 0,.string ⟨#[]⟩,.int .i64 0,.slice none 0 0,.int .i64 0,.bool false,.int .i64 0,.int .i64 0,.int .i64 0,.slice none 0 0]):=HZ_x2.out.kept KY (by omega)
  have HKY:Hid (Kept (fun b=>b=w.heap.size) x2 Y):=KY
  obtain ⟨c0,c1,c2,c3,c4,c5,c6,c7,c8,c9,c10,y0,y1,y2,y3,y4,y5,y6,y7,y8,y9,y10⟩:=HAY.all
  obtain ⟨d0,d1,d2,d3,d4,d5,d6,d7,d8,d9,d10,z0,z1,z2,z3,z4,z5,z6,z7,z8,z9,z10⟩:=HZY.out.all
  clear HAY hY KY
  go_wp2
  clear c0 c1 c2 c3 c4 c5 c6 c7 c8 c9 c10 y0 y1 y2 y3 y4 y5 y6 y7 y8 y9 y10 d0 d1 d2 d3 d4 d5 d6 d7 d8 d9 d10 z0 z1 z2 z3 z4 z5 z6 z7 z8 z9 z10
  obtain ⟨WF,hWF⟩:∃ WF,WF=(((((((((((Y).setCell ⟨w.heap.size+1,0,none⟩ (.slice ra m.row.length rc)).setCell ⟨w.heap.size+1,1,none⟩ (.int .i64 m.N)).setCell ⟨w.heap.size+1,2,none⟩ (.string m.S)).setCell ⟨w.heap.size+1,3,none⟩ (.int .i64 m.room)).setCell ⟨w.heap.size+1,4,none⟩ (.slice va m.vals.length vc)).setCell ⟨w.heap.size+1,5,none⟩ (.int .i64 (knw e G))).setCell ⟨w.heap.size+1,6,none⟩ (.bool m.over)).setCell ⟨w.heap.size+1,7,none⟩ (.int .i64 m.steps)).setCell ⟨w.heap.size+1,8,none⟩ (.int .i64 (m.looks+1))).setCell ⟨w.heap.size+1,9,none⟩ (.int .i64 m.hits)).setCell ⟨w.heap.size+1,10,none⟩ (.slice ma m.memo.length mc):=⟨_,rfl⟩
  rw [<- hWF]
  have KF:Kept (fun b=>b=w.heap.size\/b=w.heap.size+1) x2 WF:=by rw [hWF];exact ((((((((((((HKY.out.mono (fun b hb=>.inl hb):Kept (fun b=>b=w.heap.size\/b=w.heap.size+1) x2 Y)).setCell (p:=⟨w.heap.size+1,0,none⟩) (.inr rfl) _).setCell (p:=⟨w.heap.size+1,1,none⟩) (.inr rfl) _).setCell (p:=⟨w.heap.size+1,2,none⟩) (.inr rfl) _).setCell (p:=⟨w.heap.size+1,3,none⟩) (.inr rfl) _).setCell (p:=⟨w.heap.size+1,4,none⟩) (.inr rfl) _).setCell (p:=⟨w.heap.size+1,5,none⟩) (.inr rfl) _).setCell (p:=⟨w.heap.size+1,6,none⟩) (.inr rfl) _).setCell (p:=⟨w.heap.size+1,7,none⟩) (.inr rfl) _).setCell (p:=⟨w.heap.size+1,8,none⟩) (.inr rfl) _).setCell (p:=⟨w.heap.size+1,9,none⟩) (.inr rfl) _).setCell (p:=⟨w.heap.size+1,10,none⟩) (.inr rfl) _
  have HF:Mf WF (w.heap.size+1) [.slice ra m.row.length rc,.int .i64 m.N,.string m.S,.int .i64 m.room,.slice va m.vals.length vc,.int .i64 (knw e G),.bool m.over,.int .i64 m.steps,.int .i64 (m.looks+1),.int .i64 m.hits,.slice ma m.memo.length mc]:=by
   rw [hWF]
   exact (((((((((((HZY.out.set 0 (.slice ra m.row.length rc)).set 1 (.int .i64 m.N)).set 2 (.string m.S)).set 3 (.int .i64 m.room)).set 4 (.slice va m.vals.length vc)).set 5 (.int .i64 (knw e G))).set 6 (.bool m.over)).set 7 (.int .i64 m.steps)).set 8 (.int .i64 (m.looks+1))).set 9 (.int .i64 m.hits)).set 10 (.slice ma m.memo.length mc))
  obtain ⟨c0,c1,c2,c3,c4,c5,c6,c7,c8,c9,c10,y0,y1,y2,y3,y4,y5,y6,y7,y8,y9,y10⟩:=HF.all
  clear hWF
  have hq:=HQ.out
  have mo:MO WF B m ra va ma rc vc mc:=HM_x2.out.kept KF (fun x hx h=>by have:=hq.1 x hx;omega) (fun x hx h=>by have:=hq.2.1 x hx;omega) (fun x hx h=>by have:=hq.2.2 x hx;omega)
  have fb:Below w.heap.size w WF:=HB_x2.out.trans (KF.below (fun b hb=>by omega) HB_x2.out.size)
  refine bodyPost_ret (v:=mval ({ m with ret:=knw e G,looks:=m.looks+1 }) ra va ma rc vc mc) (by simp [results,Tryz.results92,go_sem,c0,c1,c2,c3,c4,c5,c6,c7,c8,c9,c10]) rfl ?_
  rw [HD.out]
  exact ⟨ra,va,ma,rc,vc,mc,rfl,⟨mo.row,mo.vals,mo.memo,mo.rv,mo.rm,mo.vm⟩,Kept.ofBelow fb,FR.refl _ _ _ _⟩
 have hAn:knw e G < 0:=by omega
 have dX:Below x2.heap.size x2 x2.drew:=(Below.refl _ _).drew
 have HBD:Hid (Below w.heap.size w x2.drew):=HB_x2.out.trans (dX.mono HB_x2.out.size)
 have HAD:Hid (Mf x2.drew (w.heap.size) [.slice ra m.row.length rc,.int .i64 m.N,.string m.S,.int .i64 m.room,.slice va m.vals.length vc,.int .i64 m.ret,.bool m.over,.int .i64 m.steps,.int .i64 m.looks,.int .i64 m.hits,.slice ma m.memo.length mc]):=HA_x2.out.below dX
 have HZD:Hid (Mf x2.drew (w.heap.size+1) [.slice none 0 0,.int .i64 0,.string ⟨#[]⟩,.int .i64 0,.slice none 0 0,.int .i64 0,.bool false,.int .i64 0,.int .i64 0,.int .i64 0,.slice none 0 0]):=HZ_x2.out.below dX
 have HMD:Hid (MO x2.drew B m ra va ma rc vc mc):=HM_x2.out.below dX
 have HLD:Hid (Lay x2.drew q3 (.int .i64 (e:Int)) (.string T)):=HL_x2.out.below dX
 clear dX
 have hA10:x2.cell? ⟨w.heap.size,10,none⟩=some (.slice ma m.memo.length mc):=(HA_x2.out 10 (by simp)).1
 have hL0:=HL_x2.out.c0
 have hL1:=HL_x2.out.c1
 go_wp2_with fail
 clear hA10 hL0 hL1
 go_region_held3 (fun w'=>w'.cell? ⟨w.heap.size,10,none⟩=some (.slice ma m.memo.length mc)/\w'.cell? ⟨q3,0,none⟩=some (.int .i64 (e:Int))/\w'.cell? ⟨q3,1,none⟩=some (.string T)) ((first|(with_reducible exact ⟨(HAD.out 10 (by simp)).1,HLD.out.c0,HLD.out.c1⟩)|exact ⟨(HAD.out 10 (by simp)).1,HLD.out.c0,HLD.out.c1⟩|exact ⟨(HA_x3.out 10 (by simp)).1,HL_x3.out.c0,HL_x3.out.c1⟩)) ((first|(go_at_call 95;(with_reducible refine (HKY0.out _).mono ?_);rintro _ x3 ⟨rfl,hb⟩;have HB_x3:Hid (Below w.heap.size w x3):=HBD.out.trans (hb.mono HBD.out.size);have HA_x3:Hid (Mf x3 (w.heap.size) [.slice ra m.row.length rc,.int .i64 m.N,.string m.S,.int .i64 m.room,.slice va m.vals.length vc,.int .i64 m.ret,.bool m.over,.int .i64 m.steps,.int .i64 m.looks,.int .i64 m.hits,.slice ma m.memo.length mc]):=HAD.out.below hb;have HZ_x3:Hid (Mf x3 (w.heap.size+1) [.slice none 0 0,.int .i64 0,.string ⟨#[]⟩,.int .i64 0,.slice none 0 0,.int .i64 0,.bool false,.int .i64 0,.int .i64 0,.int .i64 0,.slice none 0 0]):=HZD.out.below hb;have HM_x3:Hid (MO x3 B m ra va ma rc vc mc):=HMD.out.below hb;have HL_x3:Hid (Lay x3 q3 (.int .i64 (e:Int)) (.string T)):=HLD.out.below hb;clear hb)|(go_at_call 135;(with_reducible refine (HFD.out _ _ HB_x3.out).mono ?_);rintro _ x4 ⟨rfl,hw4⟩;(have hw5:=hw4.symm);clear hw4;subst hw5)))
 obtain ⟨fk,hfk⟩:∃ fk,fk=fnd m.memo KEY:=⟨_,rfl⟩
 rw [<- hfk]
 rw [<- hfk] at HDD
 clear hfk HKY0 HFD HKN HLF
 by_cases hF:0<=fk
 ·have HD:Hid (DM={ m with ret:=fk,hits:=m.hits+1 }):=by show _=_;rw [HDD.out,if_neg (by omega),if_pos hF]
  clear HDD
  obtain ⟨c0,c1,c2,c3,c4,c5,c6,c7,c8,c9,c10,y0,y1,y2,y3,y4,y5,y6,y7,y8,y9,y10⟩:=HA_x3.out.all
  go_upto_region 11 with fail
  clear c0 c1 c2 c3 c4 c5 c6 c7 c8 c9 c10 y0 y1 y2 y3 y4 y5 y6 y7 y8 y9 y10
  obtain ⟨Y,hY⟩:∃ Y,Y=((x3).setCell ⟨w.heap.size,5,none⟩ (.int .i64 fk)).setCell ⟨w.heap.size,9,none⟩ (.int .i64 (m.hits+1)):=⟨_,rfl⟩
  rw [<- hY]
  have KY:Kept (fun b=>b=w.heap.size) x3 Y:=by rw [hY];exact (((Kept.refl (fun b=>b=w.heap.size) x3)).setCell (p:=⟨w.heap.size,5,none⟩) rfl _).setCell (p:=⟨w.heap.size,9,none⟩) rfl _
  have HAY:Mf Y (w.heap.size) [.slice ra m.row.length rc,.int .i64 m.N,.string m.S,.int .i64 m.room,.slice va m.vals.length vc,.int .i64 fk,.bool m.over,.int .i64 m.steps,.int .i64 m.looks,.int .i64 (m.hits+1),.slice ma m.memo.length mc]:=by
   rw [hY]
   exact ((HA_x3.out.set 5 (.int .i64 fk)).set 9 (.int .i64 (m.hits+1)))
  have HZY:Hid (Mf Y (w.heap.size+1) [.slice none 0 0,.int .i64 0,.string ⟨#[]⟩,.int .i64 0,.slice none 0 0,.int .i64 0,.bool false,.int .i64 0,.int .i64 0,.int .i64 0,.slice none 0 0]):=HZ_x3.out.kept KY (by omega)
  have HKY:Hid (Kept (fun b=>b=w.heap.size) x3 Y):=KY
  obtain ⟨c0,c1,c2,c3,c4,c5,c6,c7,c8,c9,c10,y0,y1,y2,y3,y4,y5,y6,y7,y8,y9,y10⟩:=HAY.all
  obtain ⟨d0,d1,d2,d3,d4,d5,d6,d7,d8,d9,d10,z0,z1,z2,z3,z4,z5,z6,z7,z8,z9,z10⟩:=HZY.out.all
  clear HAY hY KY
  go_wp2
  clear c0 c1 c2 c3 c4 c5 c6 c7 c8 c9 c10 y0 y1 y2 y3 y4 y5 y6 y7 y8 y9 y10 d0 d1 d2 d3 d4 d5 d6 d7 d8 d9 d10 z0 z1 z2 z3 z4 z5 z6 z7 z8 z9 z10
  obtain ⟨WF,hWF⟩:∃ WF,WF=(((((((((((Y).setCell ⟨w.heap.size+1,0,none⟩ (.slice ra m.row.length rc)).setCell ⟨w.heap.size+1,1,none⟩ (.int .i64 m.N)).setCell ⟨w.heap.size+1,2,none⟩ (.string m.S)).setCell ⟨w.heap.size+1,3,none⟩ (.int .i64 m.room)).setCell ⟨w.heap.size+1,4,none⟩ (.slice va m.vals.length vc)).setCell ⟨w.heap.size+1,5,none⟩ (.int .i64 fk)).setCell ⟨w.heap.size+1,6,none⟩ (.bool m.over)).setCell ⟨w.heap.size+1,7,none⟩ (.int .i64 m.steps)).setCell ⟨w.heap.size+1,8,none⟩ (.int .i64 m.looks)).setCell ⟨w.heap.size+1,9,none⟩ (.int .i64 (m.hits+1))).setCell ⟨w.heap.size+1,10,none⟩ (.slice ma m.memo.length mc):=⟨_,rfl⟩
  rw [<- hWF]
  have KF:Kept (fun b=>b=w.heap.size\/b=w.heap.size+1) x3 WF:=by rw [hWF];exact ((((((((((((HKY.out.mono (fun b hb=>.inl hb):Kept (fun b=>b=w.heap.size\/b=w.heap.size+1) x3 Y)).setCell (p:=⟨w.heap.size+1,0,none⟩) (.inr rfl) _).setCell (p:=⟨w.heap.size+1,1,none⟩) (.inr rfl) _).setCell (p:=⟨w.heap.size+1,2,none⟩) (.inr rfl) _).setCell (p:=⟨w.heap.size+1,3,none⟩) (.inr rfl) _).setCell (p:=⟨w.heap.size+1,4,none⟩) (.inr rfl) _).setCell (p:=⟨w.heap.size+1,5,none⟩) (.inr rfl) _).setCell (p:=⟨w.heap.size+1,6,none⟩) (.inr rfl) _).setCell (p:=⟨w.heap.size+1,7,none⟩) (.inr rfl) _).setCell (p:=⟨w.heap.size+1,8,none⟩) (.inr rfl) _).setCell (p:=⟨w.heap.size+1,9,none⟩) (.inr rfl) _).setCell (p:=⟨w.heap.size+1,10,none⟩) (.inr rfl) _
  have HF:Mf WF (w.heap.size+1) [.slice ra m.row.length rc,.int .i64 m.N,.string m.S,.int .i64 m.room,.slice va m.vals.length vc,.int .i64 fk,.bool m.over,.int .i64 m.steps,.int .i64 m.looks,.int .i64 (m.hits+1),.slice ma m.memo.length mc]:=by
   rw [hWF]
   exact (((((((((((HZY.out.set 0 (.slice ra m.row.length rc)).set 1 (.int .i64 m.N)).set 2 (.string m.S)).set 3 (.int .i64 m.room)).set 4 (.slice va m.vals.length vc)).set 5 (.int .i64 fk)).set 6 (.bool m.over)).set 7 (.int .i64 m.steps)).set 8 (.int .i64 m.looks)).set 9 (.int .i64 (m.hits+1))).set 10 (.slice ma m.memo.length mc))
  obtain ⟨c0,c1,c2,c3,c4,c5,c6,c7,c8,c9,c10,y0,y1,y2,y3,y4,y5,y6,y7,y8,y9,y10⟩:=HF.all
  clear hWF
  have hq:=HQ.out
  have mo:MO WF B m ra va ma rc vc mc:=HM_x3.out.kept KF (fun x hx h=>by have:=hq.1 x hx;omega) (fun x hx h=>by have:=hq.2.1 x hx;omega) (fun x hx h=>by have:=hq.2.2 x hx;omega)
  have fb:Below w.heap.size w WF:=HB_x3.out.trans (KF.below (fun b hb=>by omega) HB_x3.out.size)
  refine bodyPost_ret (v:=mval ({ m with ret:=fk,hits:=m.hits+1 }) ra va ma rc vc mc) (by simp [results,Tryz.results92,go_sem,c0,c1,c2,c3,c4,c5,c6,c7,c8,c9,c10]) rfl ?_
  rw [HD.out]
  exact ⟨ra,va,ma,rc,vc,mc,rfl,⟨mo.row,mo.vals,mo.memo,mo.rv,mo.rm,mo.vm⟩,Kept.ofBelow fb,FR.refl _ _ _ _⟩
 have hFn:fk < 0:=by omega
 have HD:Hid (DM={ m with vals:=m.vals++[0] }):=by show _=_;rw [HDD.out,if_neg (by omega),if_neg (by omega)]
 clear HDD
 have hA4:(x3.alloc (.cells #[.int .i64 0] 3)).cell? ⟨w.heap.size,4,none⟩=some (.slice va m.vals.length vc):=(HA_x3.out.alloc (.cells #[.int .i64 0] 3) 4 (by simp)).1
 have hA4b:x3.cell? ⟨w.heap.size,4,none⟩=some (.slice va m.vals.length vc):=(HA_x3.out 4 (by simp)).1
 have HX3:Hid (w.heap.size+1 < x3.heap.size):=HZ_x3.out.lt (by simp)
 have HBX3:Hid (B<=x3.heap.size):=Nat.le_trans hB HB_x3.out.size
 go_upto_region 13 with (at_builtin;go_must (refine app_int x3 rfl _ _ rfl B (.slice va m.vals.length vc) m.vals 0 rfl rfl HM_x3.out.vals HBX3.out (by omega) ?_;intro g5 cp5 w5 ho5 hk5 hg5;have HO5:Hid (Ows w5 B (.slice (some ⟨g5,0,none⟩) (m.vals.length+1) cp5) (m.vals++[0])):=ho5;have HK5:Hid (Kept (fun k=>(.slice va m.vals.length vc:Value).ownBlock=some k) x3 w5):=hk5;have HG5:Hid ((.slice va m.vals.length vc:Value).ownBlock=some g5\/x3.heap.size<=g5):=hg5;have HA5:Hid (Mf w5 (w.heap.size) [.slice ra m.row.length rc,.int .i64 m.N,.string m.S,.int .i64 m.room,.slice va m.vals.length vc,.int .i64 m.ret,.bool m.over,.int .i64 m.steps,.int .i64 m.looks,.int .i64 m.hits,.slice ma m.memo.length mc]):=HA_x3.out.kept hk5 (fun h=>by (cases va with|none=>cases h|some x=>(have:=HQ.out.2.1 x rfl;simp [Value.ownBlock] at h;omega)));have hc5:w5.cell? ⟨w.heap.size,4,none⟩=some (.slice va m.vals.length vc):=(HA5.out 4 (by simp)).1;have hz5:w5.frozen? ⟨w.heap.size,4,none⟩=false:=(HA5.out 4 (by simp)).2;clear ho5 hk5 hg5))
 clear hA4 hA4b hc5 hz5
 have HA_w5:Hid (Mf w5 (w.heap.size) [.slice ra m.row.length rc,.int .i64 m.N,.string m.S,.int .i64 m.room,.slice va m.vals.length vc,.int .i64 m.ret,.bool m.over,.int .i64 m.steps,.int .i64 m.looks,.int .i64 m.hits,.slice ma m.memo.length mc]):=HA5.out
 have hnq:∀ k,(.slice va m.vals.length vc:Value).ownBlock=some k->k < w.heap.size:=fun k h=>by
  cases va with
  | none=>cases h
  | some x =>
    have:=HQ.out.2.1 x rfl
    simp [Value.ownBlock] at h
    omega
 have HNQ:Hid _:=hnq
 have HZ_w5:Hid (Mf w5 (w.heap.size+1) [.slice none 0 0,.int .i64 0,.string ⟨#[]⟩,.int .i64 0,.slice none 0 0,.int .i64 0,.bool false,.int .i64 0,.int .i64 0,.int .i64 0,.slice none 0 0]):=HZ_x3.out.kept HK5.out (fun h=>by have:=hnq _ h;omega)
 clear hnq
 obtain ⟨Y,hY⟩:∃ Y,Y=(w5).setCell ⟨w.heap.size,4,none⟩ (.slice (some ⟨g5,0,none⟩) (m.vals.length+1) cp5):=⟨_,rfl⟩
 rw [<- hY]
 have KY:Kept (fun b=>b=w.heap.size) w5 Y:=by rw [hY];exact ((Kept.refl (fun b=>b=w.heap.size) w5)).setCell (p:=⟨w.heap.size,4,none⟩) rfl _
 have HAY:Mf Y (w.heap.size) [.slice ra m.row.length rc,.int .i64 m.N,.string m.S,.int .i64 m.room,.slice (some ⟨g5,0,none⟩) (m.vals.length+1) cp5,.int .i64 m.ret,.bool m.over,.int .i64 m.steps,.int .i64 m.looks,.int .i64 m.hits,.slice ma m.memo.length mc]:=by
  rw [hY]
  exact (HA_w5.out.set 4 (.slice (some ⟨g5,0,none⟩) (m.vals.length+1) cp5))
 have HZY:Hid (Mf Y (w.heap.size+1) [.slice none 0 0,.int .i64 0,.string ⟨#[]⟩,.int .i64 0,.slice none 0 0,.int .i64 0,.bool false,.int .i64 0,.int .i64 0,.int .i64 0,.slice none 0 0]):=HZ_w5.out.kept KY (by omega)
 have HKY:Hid (Kept (fun b=>b=w.heap.size) w5 Y):=KY
 obtain ⟨c0,c1,c2,c3,c4,c5,c6,c7,c8,c9,c10,y0,y1,y2,y3,y4,y5,y6,y7,y8,y9,y10⟩:=HAY.all
 obtain ⟨d0,d1,d2,d3,d4,d5,d6,d7,d8,d9,d10,z0,z1,z2,z3,z4,z5,z6,z7,z8,z9,z10⟩:=HZY.out.all
 clear HAY hY KY
 go_wp2
 clear c0 c1 c2 c3 c4 c5 c6 c7 c8 c9 c10 y0 y1 y2 y3 y4 y5 y6 y7 y8 y9 y10 d0 d1 d2 d3 d4 d5 d6 d7 d8 d9 d10 z0 z1 z2 z3 z4 z5 z6 z7 z8 z9 z10
 obtain ⟨WF,hWF⟩:∃ WF,WF=(((((((((((Y).setCell ⟨w.heap.size+1,0,none⟩ (.slice ra m.row.length rc)).setCell ⟨w.heap.size+1,1,none⟩ (.int .i64 m.N)).setCell ⟨w.heap.size+1,2,none⟩ (.string m.S)).setCell ⟨w.heap.size+1,3,none⟩ (.int .i64 m.room)).setCell ⟨w.heap.size+1,4,none⟩ (.slice (some ⟨g5,0,none⟩) (m.vals.length+1) cp5)).setCell ⟨w.heap.size+1,5,none⟩ (.int .i64 m.ret)).setCell ⟨w.heap.size+1,6,none⟩ (.bool m.over)).setCell ⟨w.heap.size+1,7,none⟩ (.int .i64 m.steps)).setCell ⟨w.heap.size+1,8,none⟩ (.int .i64 m.looks)).setCell ⟨w.heap.size+1,9,none⟩ (.int .i64 m.hits)).setCell ⟨w.heap.size+1,10,none⟩ (.slice ma m.memo.length mc):=⟨_,rfl⟩
 rw [<- hWF]
 have KF:Kept (fun b=>b=w.heap.size\/b=w.heap.size+1) w5 WF:=by rw [hWF];exact ((((((((((((HKY.out.mono (fun b hb=>.inl hb):Kept (fun b=>b=w.heap.size\/b=w.heap.size+1) w5 Y)).setCell (p:=⟨w.heap.size+1,0,none⟩) (.inr rfl) _).setCell (p:=⟨w.heap.size+1,1,none⟩) (.inr rfl) _).setCell (p:=⟨w.heap.size+1,2,none⟩) (.inr rfl) _).setCell (p:=⟨w.heap.size+1,3,none⟩) (.inr rfl) _).setCell (p:=⟨w.heap.size+1,4,none⟩) (.inr rfl) _).setCell (p:=⟨w.heap.size+1,5,none⟩) (.inr rfl) _).setCell (p:=⟨w.heap.size+1,6,none⟩) (.inr rfl) _).setCell (p:=⟨w.heap.size+1,7,none⟩) (.inr rfl) _).setCell (p:=⟨w.heap.size+1,8,none⟩) (.inr rfl) _).setCell (p:=⟨w.heap.size+1,9,none⟩) (.inr rfl) _).setCell (p:=⟨w.heap.size+1,10,none⟩) (.inr rfl) _
 have HF:Mf WF (w.heap.size+1) [.slice ra m.row.length rc,.int .i64 m.N,.string m.S,.int .i64 m.room,.slice (some ⟨g5,0,none⟩) (m.vals.length+1) cp5,.int .i64 m.ret,.bool m.over,.int .i64 m.steps,.int .i64 m.looks,.int .i64 m.hits,.slice ma m.memo.length mc]:=by
  rw [hWF]
  exact (((((((((((HZY.out.set 0 (.slice ra m.row.length rc)).set 1 (.int .i64 m.N)).set 2 (.string m.S)).set 3 (.int .i64 m.room)).set 4 (.slice (some ⟨g5,0,none⟩) (m.vals.length+1) cp5)).set 5 (.int .i64 m.ret)).set 6 (.bool m.over)).set 7 (.int .i64 m.steps)).set 8 (.int .i64 m.looks)).set 9 (.int .i64 m.hits)).set 10 (.slice ma m.memo.length mc))
 obtain ⟨c0,c1,c2,c3,c4,c5,c6,c7,c8,c9,c10,y0,y1,y2,y3,y4,y5,y6,y7,y8,y9,y10⟩:=HF.all
 clear hWF
 have hq:=HQ.out
 have hx3:=HB_x3.out.size
 have hk5:=HK5.out
 have hs5:=hk5.size
 have lt5:=HO5.out.lt
 have hnq:=HNQ.out
 have g5q:g5 < w.heap.size\/x3.heap.size<=g5:=by
  rcases HG5.out with e|e
  ·exact .inl (hnq _ e)
  ·exact .inr e
 have hX0s:=HS0.out
 have fv:Ows WF B (.slice (some ⟨g5,0,none⟩) (m.vals.length+1) cp5) (m.vals++[0]):=HO5.out.kept KF (fun i hi h=>by
  have e:g5=i:=by simpa [Value.ownBlock] using hi
  have:=HX3.out
  omega)
 have fr:Owb WF B (.slice ra m.row.length rc) m.row:=(HM_x3.out.row.kept hk5 (fun i hi h=>by
  cases ra with
  | none=>cases hi
  | some x=>cases va with
    | none=>cases h
    | some y =>
      simp [Value.ownBlock] at hi h
      exact HM_x3.out.rv x y rfl rfl (by omega))).kept KF (fun i hi h=>by
  cases ra with
  | none=>cases hi
  | some x =>
    have:=hq.1 x rfl
    simp [Value.ownBlock] at hi
    omega)
 have fm:OwSn WF B (.slice ma m.memo.length mc) m.memo:=(HM_x3.out.memo.kept hk5 (fun i hi h=>by
  cases ma with
  | none=>cases hi
  | some x=>cases va with
    | none=>cases h
    | some y =>
      simp [Value.ownBlock] at hi h
      exact HM_x3.out.vm y x rfl rfl (by omega))).kept KF (fun i hi h=>by
  cases ma with
  | none=>cases hi
  | some x =>
    have:=hq.2.2 x rfl
    simp [Value.ownBlock] at hi
    omega)
 refine bodyPost_ret (v:=mval ({ m with vals:=m.vals++[0] }) (ra) (some ⟨g5,0,none⟩) ma rc cp5 mc) (by simp [results,Tryz.results92,go_sem,c0,c1,c2,c3,c4,c5,c6,c7,c8,c9,c10]) rfl ?_
 rw [HD.out]
 refine ⟨ra,some ⟨g5,0,none⟩,ma,rc,cp5,mc,by simp,⟨fr,by simpa using fv,fm,?_,HM_x3.out.rm,?_⟩,?_,⟨rfl,fun x hx=>?_,fun x hx=>.inl ⟨x,hx,rfl⟩⟩⟩
 ·intro x y hx hy
  cases hy
  rcases HG5.out with e|e
  ·cases va with
   | none=>cases e
   | some z =>
     have:=HM_x3.out.rv x z hx rfl
     simp [Value.ownBlock] at e
     show x.block≠g5
     omega
  ·have:=hq.1 x hx
   show x.block≠g5
   omega
 ·intro x y hx hy
  cases hx
  rcases HG5.out with e|e
  ·cases va with
   | none=>cases e
   | some z =>
     have:=HM_x3.out.vm z y rfl hy
     simp [Value.ownBlock] at e
     show g5≠y.block
     omega
  ·have:=hq.2.2 y hy
   show g5≠y.block
   omega
 ·have k1:Kept (fun b=>At va b\/At ma b) w x3:=Kept.ofBelow HB_x3.out
  have k2:Kept (fun b=>At va b\/At ma b) x3 w5:=hk5.mono (fun k h=>.inl (by
   cases va with
   | none=>cases h
   | some z=>exact ⟨z,rfl,by simpa [Value.ownBlock] using h.symm⟩))
  have k3:=k1.trans k2
  exact ⟨KF.os.trans k3.os,KF.tape.trans k3.tape,KF.output.trans k3.output,Nat.le_trans k3.size KF.size,fun i hi hne=>(KF.block i (Nat.lt_of_lt_of_le hi k3.size) (fun h=>by omega)).trans (k3.block i hi hne)⟩
 ·cases hx
  rcases HG5.out with e|e
  ·exact .inl (by
    cases va with
    | none=>cases e
    | some z=>exact ⟨z,rfl,by simpa [Value.ownBlock] using e.symm⟩)
  ·exact .inr (Nat.le_trans HB_x3.out.size e)
end Mu3
end Go.Proofs.YtladjpombohpaaaGreatDoor
