import Derived.Test.YtladjpombohpaaaGreatDoorPkJN3
namespace Go.Proofs.YtladjpombohpaaaGreatDoor
set_option maxRecDepth 100000
set_option maxHeartbeats 8000000
set_option linter.unusedVariables false
namespace Je7
open Go.RowKit
open Nd0 (Kept At lt_of_cell)
open Mm0 Mx0 Mu2 Mw20 Mw21 Mk3 Jb0 Jb3 Je0 Je1 Je2 Je3 Je4 Je5 Tk0
open Mm2 (mokB)
open Tc2 (sInT)
theorem sDoGo (w:World) (s1:Int) (m M:Mc) (jr:ByteArray) (sy:Int) (ra va ma:Option Addr) (rc vc mc:Nat) (hR:Mr w m ra va ma) (hr:m.row.length<=1048576) (hv:m.vals.length<=1048576) (hm:m.memo.length<=1048576) (hj:(∀ (W:World) ra va ma rc vc mc,Mr W m ra va ma->Calls Tryz.prog 23 #[jval 1 m jr sy ra va ma rc vc mc] W fun e w'=>e=.returned (.bool true)/\Below W.heap.size W w')) (hs:s1=(if M.over then 2 else 1)) (hrun:(∀ (W:World) ra va ma rc vc mc,Mr W m ra va ma->Calls Tryz.prog 27 #[mval m ra va ma rc vc mc,.int .i64 100000] W (Out W M))) :
 Calls Tryz.prog 12 #[jval 1 m jr sy ra va ma rc vc mc,.agg #[.int .i64 1,.int .i64 100000,.string ⟨#[]⟩]] w (JOut w s1 M jr sy 0):=by
 have HR:Hid (Mr w m ra va ma):=hR
 have HJ:Hid (∀ (W:World) ra va ma rc vc mc,Mr W m ra va ma->Calls Tryz.prog 23 #[jval 1 m jr sy ra va ma rc vc mc] W fun e w'=>e=.returned (.bool true)/\Below W.heap.size W w'):=hj
 have HRUN:Hid (∀ (W:World) ra va ma rc vc mc,Mr W m ra va ma->Calls Tryz.prog 27 #[mval m ra va ma rc vc mc,.int .i64 100000] W (Out W M)):=hrun
 have HSS:Hid (s1=(if M.over then 2 else 1)):=hs
 clear hR hj hrun hs
 obtain ⟨y0,hy0⟩:∃ y0,y0=(((w.alloc (.cells #[.int .i64 1,.slice ra m.row.length rc,.int .i64 m.N,.string m.S,.int .i64 m.room,.slice va m.vals.length vc,.int .i64 m.ret,.bool m.over,.int .i64 m.steps,.int .i64 m.looks,.int .i64 m.hits,.slice ma m.memo.length mc,.string jr,.int .i64 sy] 37)).alloc (.cells #[.int .i64 1,.int .i64 100000,.string ⟨#[]⟩] 47)).alloc (.cells #[.int .i64 0,.slice none 0 0,.int .i64 0,.string ⟨#[]⟩,.int .i64 0,.slice none 0 0,.int .i64 0,.bool false,.int .i64 0,.int .i64 0,.int .i64 0,.slice none 0 0,.string ⟨#[]⟩,.int .i64 0] 37)):=⟨_,rfl⟩
 have HW0:Hid ((((w.alloc (.cells #[.int .i64 1,.slice ra m.row.length rc,.int .i64 m.N,.string m.S,.int .i64 m.room,.slice va m.vals.length vc,.int .i64 m.ret,.bool m.over,.int .i64 m.steps,.int .i64 m.looks,.int .i64 m.hits,.slice ma m.memo.length mc,.string jr,.int .i64 sy] 37)).alloc (.cells #[.int .i64 1,.int .i64 100000,.string ⟨#[]⟩] 47)).alloc (.cells #[.int .i64 0,.slice none 0 0,.int .i64 0,.string ⟨#[]⟩,.int .i64 0,.slice none 0 0,.int .i64 0,.bool false,.int .i64 0,.int .i64 0,.int .i64 0,.slice none 0 0,.string ⟨#[]⟩,.int .i64 0] 37))=y0):=hy0.symm
 have s1:(w.alloc (.cells #[.int .i64 1,.slice ra m.row.length rc,.int .i64 m.N,.string m.S,.int .i64 m.room,.slice va m.vals.length vc,.int .i64 m.ret,.bool m.over,.int .i64 m.steps,.int .i64 m.looks,.int .i64 m.hits,.slice ma m.memo.length mc,.string jr,.int .i64 sy] 37)).heap.size=w.heap.size+1:=by simp
 have s2:((w.alloc (.cells #[.int .i64 1,.slice ra m.row.length rc,.int .i64 m.N,.string m.S,.int .i64 m.room,.slice va m.vals.length vc,.int .i64 m.ret,.bool m.over,.int .i64 m.steps,.int .i64 m.looks,.int .i64 m.hits,.slice ma m.memo.length mc,.string jr,.int .i64 sy] 37)).alloc (.cells #[.int .i64 1,.int .i64 100000,.string ⟨#[]⟩] 47)).heap.size=w.heap.size+1+1:=by simp
 have HA0:Hid (Mf y0 w.heap.size [.int .i64 1,.slice ra m.row.length rc,.int .i64 m.N,.string m.S,.int .i64 m.room,.slice va m.vals.length vc,.int .i64 m.ret,.bool m.over,.int .i64 m.steps,.int .i64 m.looks,.int .i64 m.hits,.slice ma m.memo.length mc,.string jr,.int .i64 sy]):=by rw [hy0];exact ((Mf.made _ _ _).alloc _).alloc _
 have HO0:Hid (Mf y0 (w.heap.size+1) [.int .i64 1,.int .i64 100000,.string ⟨#[]⟩]):=by
  have h1:=(Mf.made (w.alloc (.cells #[.int .i64 1,.slice ra m.row.length rc,.int .i64 m.N,.string m.S,.int .i64 m.room,.slice va m.vals.length vc,.int .i64 m.ret,.bool m.over,.int .i64 m.steps,.int .i64 m.looks,.int .i64 m.hits,.slice ma m.memo.length mc,.string jr,.int .i64 sy] 37)) #[.int .i64 1,.int .i64 100000,.string ⟨#[]⟩] 47).alloc (.cells #[.int .i64 0,.slice none 0 0,.int .i64 0,.string ⟨#[]⟩,.int .i64 0,.slice none 0 0,.int .i64 0,.bool false,.int .i64 0,.int .i64 0,.int .i64 0,.slice none 0 0,.string ⟨#[]⟩,.int .i64 0] 37)
  rw [s1,<- hy0] at h1
  exact h1
 have HZ0:Hid (Mf y0 (w.heap.size+1+1) [.int .i64 0,.slice none 0 0,.int .i64 0,.string ⟨#[]⟩,.int .i64 0,.slice none 0 0,.int .i64 0,.bool false,.int .i64 0,.int .i64 0,.int .i64 0,.slice none 0 0,.string ⟨#[]⟩,.int .i64 0]):=by
  have h1:=Mf.made ((w.alloc (.cells #[.int .i64 1,.slice ra m.row.length rc,.int .i64 m.N,.string m.S,.int .i64 m.room,.slice va m.vals.length vc,.int .i64 m.ret,.bool m.over,.int .i64 m.steps,.int .i64 m.looks,.int .i64 m.hits,.slice ma m.memo.length mc,.string jr,.int .i64 sy] 37)).alloc (.cells #[.int .i64 1,.int .i64 100000,.string ⟨#[]⟩] 47)) #[.int .i64 0,.slice none 0 0,.int .i64 0,.string ⟨#[]⟩,.int .i64 0,.slice none 0 0,.int .i64 0,.bool false,.int .i64 0,.int .i64 0,.int .i64 0,.slice none 0 0,.string ⟨#[]⟩,.int .i64 0] 37
  rw [s2,<- hy0] at h1
  exact h1
 have HS0:Hid (y0.heap.size=w.heap.size+3):=by show _=_;rw [hy0];simp
 have HB0:Hid (Below w.heap.size w y0):=by rw [hy0];exact (((Below.refl _ _).alloc (Nat.le_refl _) _).alloc (by simp) _).alloc (by simp;omega) _
 clear hy0 s1 s2
 go_enter Tryz.func12,Tryz.ntmps12
 go_upto_region 1 with fail
 rw [HW0.out]
 clear HW0
 obtain ⟨c0,c1,c2,c3,c4,c5,c6,c7,c8,c9,c10,c11,c12,c13,x0,x1,x2,x3,x4,x5,x6,x7,x8,x9,x10,x11,x12,x13⟩:=Jz.of HA0.out
 go_wp2_with fail
 clear c0 c1 c2 c3 c4 c5 c6 c7 c8 c9 c10 c11 c12 c13 x0 x1 x2 x3 x4 x5 x6 x7 x8 x9 x10 x11 x12 x13
 refine (sJCopy _ 1 m jr sy _ _ _ _ _ _ (HR.out.below HB0.out) hr hv hm).mono ?_
 rintro e y1 ⟨ra',va',ma',rc',vc',mc',rfl,hpo,hb⟩
 have HP1:Hid (PO y1 y0.heap.size m ra' va' ma' rc' vc' mc'):=hpo
 have HA1:Hid (Mf y1 w.heap.size [.int .i64 1,.slice ra m.row.length rc,.int .i64 m.N,.string m.S,.int .i64 m.room,.slice va m.vals.length vc,.int .i64 m.ret,.bool m.over,.int .i64 m.steps,.int .i64 m.looks,.int .i64 m.hits,.slice ma m.memo.length mc,.string jr,.int .i64 sy]):=HA0.out.below hb
 have HO1:Hid (Mf y1 (w.heap.size+1) [.int .i64 1,.int .i64 100000,.string ⟨#[]⟩]):=HO0.out.below hb
 have HZ1:Hid (Mf y1 (w.heap.size+1+1) [.int .i64 0,.slice none 0 0,.int .i64 0,.string ⟨#[]⟩,.int .i64 0,.slice none 0 0,.int .i64 0,.bool false,.int .i64 0,.int .i64 0,.int .i64 0,.slice none 0 0,.string ⟨#[]⟩,.int .i64 0]):=HZ0.out.below hb
 have HB1:Hid (Below w.heap.size w y1):=HB0.out.trans (hb.mono HB0.out.size)
 clear hpo hb HA0 HO0 HZ0 HB0
 obtain ⟨c0,c1,c2,c3,c4,c5,c6,c7,c8,c9,c10,c11,c12,c13,x0,x1,x2,x3,x4,x5,x6,x7,x8,x9,x10,x11,x12,x13⟩:=Jz.of HA1.out
 go_upto_region 2 with fail
 clear c0 c1 c2 c3 c4 c5 c6 c7 c8 c9 c10 c11 c12 c13 x0 x1 x2 x3 x4 x5 x6 x7 x8 x9 x10 x11 x12 x13
 obtain ⟨y2,hy⟩:∃ y2,y2=((((((((((((((y1).setCell ⟨w.heap.size,0,none⟩ (.int .i64 1)).setCell ⟨w.heap.size,1,none⟩ (.slice ra' m.row.length rc')).setCell ⟨w.heap.size,2,none⟩ (.int .i64 m.N)).setCell ⟨w.heap.size,3,none⟩ (.string m.S)).setCell ⟨w.heap.size,4,none⟩ (.int .i64 m.room)).setCell ⟨w.heap.size,5,none⟩ (.slice va' m.vals.length vc')).setCell ⟨w.heap.size,6,none⟩ (.int .i64 m.ret)).setCell ⟨w.heap.size,7,none⟩ (.bool m.over)).setCell ⟨w.heap.size,8,none⟩ (.int .i64 m.steps)).setCell ⟨w.heap.size,9,none⟩ (.int .i64 m.looks)).setCell ⟨w.heap.size,10,none⟩ (.int .i64 m.hits)).setCell ⟨w.heap.size,11,none⟩ (.slice ma' m.memo.length mc')).setCell ⟨w.heap.size,12,none⟩ (.string jr)).setCell ⟨w.heap.size,13,none⟩ (.int .i64 sy):=⟨_,rfl⟩
 rw [<- hy]
 have hk:Kept (fun b=>b=w.heap.size) y1 y2:=by rw [hy];exact ((((((((((((((Kept.refl (fun b=>b=w.heap.size) y1).setCell (p:=⟨w.heap.size,0,none⟩) (rfl) _).setCell (p:=⟨w.heap.size,1,none⟩) (rfl) _).setCell (p:=⟨w.heap.size,2,none⟩) (rfl) _).setCell (p:=⟨w.heap.size,3,none⟩) (rfl) _).setCell (p:=⟨w.heap.size,4,none⟩) (rfl) _).setCell (p:=⟨w.heap.size,5,none⟩) (rfl) _).setCell (p:=⟨w.heap.size,6,none⟩) (rfl) _).setCell (p:=⟨w.heap.size,7,none⟩) (rfl) _).setCell (p:=⟨w.heap.size,8,none⟩) (rfl) _).setCell (p:=⟨w.heap.size,9,none⟩) (rfl) _).setCell (p:=⟨w.heap.size,10,none⟩) (rfl) _).setCell (p:=⟨w.heap.size,11,none⟩) (rfl) _).setCell (p:=⟨w.heap.size,12,none⟩) (rfl) _).setCell (p:=⟨w.heap.size,13,none⟩) (rfl) _
 have s0:=HS0.out
 have HA2:Hid (Mf y2 w.heap.size [.int .i64 1,.slice ra' m.row.length rc',.int .i64 m.N,.string m.S,.int .i64 m.room,.slice va' m.vals.length vc',.int .i64 m.ret,.bool m.over,.int .i64 m.steps,.int .i64 m.looks,.int .i64 m.hits,.slice ma' m.memo.length mc',.string jr,.int .i64 sy]):=by rw [hy];exact ((((((((((((((HA1.out).set 0 (.int .i64 1)).set 1 (.slice ra' m.row.length rc')).set 2 (.int .i64 m.N)).set 3 (.string m.S)).set 4 (.int .i64 m.room)).set 5 (.slice va' m.vals.length vc')).set 6 (.int .i64 m.ret)).set 7 (.bool m.over)).set 8 (.int .i64 m.steps)).set 9 (.int .i64 m.looks)).set 10 (.int .i64 m.hits)).set 11 (.slice ma' m.memo.length mc')).set 12 (.string jr)).set 13 (.int .i64 sy)
 have HP2:Hid (PO y2 y0.heap.size m ra' va' ma' rc' vc' mc'):=HP1.out.kept hk (fun b hb h=>by have:=(HP1.out.ge (.inl hb)).1;omega) (fun b hb h=>by have:=(HP1.out.ge (.inr (.inl hb))).1;omega) (fun b hb h=>by have:=(HP1.out.ge (.inr (.inr hb))).1;omega)
 have HO2:Hid (Mf y2 (w.heap.size+1) [.int .i64 1,.int .i64 100000,.string ⟨#[]⟩]):=HO1.out.kept hk (by omega)
 have HZ2:Hid (Mf y2 (w.heap.size+1+1) [.int .i64 0,.slice none 0 0,.int .i64 0,.string ⟨#[]⟩,.int .i64 0,.slice none 0 0,.int .i64 0,.bool false,.int .i64 0,.int .i64 0,.int .i64 0,.slice none 0 0,.string ⟨#[]⟩,.int .i64 0]):=HZ1.out.kept hk (by omega)
 have HB2:Hid (Below w.heap.size w y2):=HB1.out.trans (hk.below (fun k hk=>by omega) HB1.out.size)
 clear hy hk HA1 HP1 HO1 HZ1 HB1
 obtain ⟨c0,c1,c2,c3,c4,c5,c6,c7,c8,c9,c10,c11,c12,c13,x0,x1,x2,x3,x4,x5,x6,x7,x8,x9,x10,x11,x12,x13⟩:=Jz.of HA2.out
 go_wp2_with fail
 clear c0 c1 c2 c3 c4 c5 c6 c7 c8 c9 c10 c11 c12 c13 x0 x1 x2 x3 x4 x5 x6 x7 x8 x9 x10 x11 x12 x13
 refine (HJ.out y2 _ _ _ _ _ _ HP2.out.mr).mono ?_
 rintro e y3 ⟨rfl,hb⟩
 have HA3:Hid (Mf y3 w.heap.size [.int .i64 1,.slice ra' m.row.length rc',.int .i64 m.N,.string m.S,.int .i64 m.room,.slice va' m.vals.length vc',.int .i64 m.ret,.bool m.over,.int .i64 m.steps,.int .i64 m.looks,.int .i64 m.hits,.slice ma' m.memo.length mc',.string jr,.int .i64 sy]):=HA2.out.below hb
 have HP3:Hid (PO y3 y0.heap.size m ra' va' ma' rc' vc' mc'):=HP2.out.below hb
 have HO3:Hid (Mf y3 (w.heap.size+1) [.int .i64 1,.int .i64 100000,.string ⟨#[]⟩]):=HO2.out.below hb
 have HZ3:Hid (Mf y3 (w.heap.size+1+1) [.int .i64 0,.slice none 0 0,.int .i64 0,.string ⟨#[]⟩,.int .i64 0,.slice none 0 0,.int .i64 0,.bool false,.int .i64 0,.int .i64 0,.int .i64 0,.slice none 0 0,.string ⟨#[]⟩,.int .i64 0]):=HZ2.out.below hb
 have HB3:Hid (Below w.heap.size w y3):=HB2.out.trans (hb.mono HB2.out.size)
 clear hb HA2 HP2 HO2 HZ2 HB2
 have o0:y3.cell? ⟨w.heap.size+1,0,none⟩=some (.int .i64 1):=(HO3.out 0 (by simp)).1
 have o1:y3.cell? ⟨w.heap.size+1,1,none⟩=some (.int .i64 100000):=(HO3.out 1 (by simp)).1
 obtain ⟨c0,c1,c2,c3,c4,c5,c6,c7,c8,c9,c10,c11,c12,c13,x0,x1,x2,x3,x4,x5,x6,x7,x8,x9,x10,x11,x12,x13⟩:=Jz.of HA3.out
 go_wp2_with fail
 refine (sInT _ (by omega)).mono ?_
 rintro e y4 ⟨rfl,hy⟩
 have hy':=hy.symm
 clear hy
 subst hy'
 go_wp2_with fail
 clear o0 c0 c1 c2 c3 c4 c5 c6 c7 c8 c9 c10 c11 c12 c13 x0 x1 x2 x3 x4 x5 x6 x7 x8 x9 x10 x11 x12 x13
 have dd:Below y3.heap.size y3 y3.drew:=(Below.refl _ _).drew
 have HBD:Hid (Below w.heap.size w y3.drew):=HB3.out.drew
 have LX:Hid (Mf y3.drew w.heap.size [.int .i64 1,.slice ra' m.row.length rc',.int .i64 m.N,.string m.S,.int .i64 m.room,.slice va' m.vals.length vc',.int .i64 m.ret,.bool m.over,.int .i64 m.steps,.int .i64 m.looks,.int .i64 m.hits,.slice ma' m.memo.length mc',.string jr,.int .i64 sy]):=HA3.out.below dd
 have LZ:Hid (Mf y3.drew (w.heap.size+1+1) [.int .i64 0,.slice none 0 0,.int .i64 0,.string ⟨#[]⟩,.int .i64 0,.slice none 0 0,.int .i64 0,.bool false,.int .i64 0,.int .i64 0,.int .i64 0,.slice none 0 0,.string ⟨#[]⟩,.int .i64 0]):=HZ3.out.below dd
 have LO:Hid (Mf y3.drew (w.heap.size+1) [.int .i64 1,.int .i64 100000,.string ⟨#[]⟩]):=HO3.out.below dd
 have LP:Hid (PO y3.drew y0.heap.size m ra' va' ma' rc' vc' mc'):=HP3.out.below dd
 obtain ⟨c0,c1,c2,c3,c4,c5,c6,c7,c8,c9,c10,c11,c12,c13,x0,x1,x2,x3,x4,x5,x6,x7,x8,x9,x10,x11,x12,x13⟩:=Jz.of LX.out
 have HLS:y3.drew.cell? ⟨w.heap.size,0,none⟩=some (.int .i64 1)/\y3.drew.cell? ⟨w.heap.size,1,none⟩=some (.slice ra' m.row.length rc')/\y3.drew.cell? ⟨w.heap.size,2,none⟩=some (.int .i64 m.N)/\y3.drew.cell? ⟨w.heap.size,3,none⟩=some (.string m.S)/\y3.drew.cell? ⟨w.heap.size,4,none⟩=some (.int .i64 m.room)/\y3.drew.cell? ⟨w.heap.size,5,none⟩=some (.slice va' m.vals.length vc')/\y3.drew.cell? ⟨w.heap.size,6,none⟩=some (.int .i64 m.ret)/\y3.drew.cell? ⟨w.heap.size,7,none⟩=some (.bool m.over)/\y3.drew.cell? ⟨w.heap.size,8,none⟩=some (.int .i64 m.steps)/\y3.drew.cell? ⟨w.heap.size,9,none⟩=some (.int .i64 m.looks)/\y3.drew.cell? ⟨w.heap.size,10,none⟩=some (.int .i64 m.hits)/\y3.drew.cell? ⟨w.heap.size,11,none⟩=some (.slice ma' m.memo.length mc')/\y3.drew.cell? ⟨w.heap.size,12,none⟩=some (.string jr)/\y3.drew.cell? ⟨w.heap.size,13,none⟩=some (.int .i64 sy)/\y3.drew.cell? ⟨w.heap.size+1,1,none⟩=some (.int .i64 100000):=⟨c0,c1,c2,c3,c4,c5,c6,c7,c8,c9,c10,c11,c12,c13,(LO.out 1 (by simp)).1⟩
 clear dd o1 c0 c1 c2 c3 c4 c5 c6 c7 c8 c9 c10 c11 c12 c13 x0 x1 x2 x3 x4 x5 x6 x7 x8 x9 x10 x11 x12 x13
 go_region_held3 (fun w'=>w'.cell? ⟨w.heap.size,0,none⟩=some (.int .i64 1)/\w'.cell? ⟨w.heap.size,1,none⟩=some (.slice ra' m.row.length rc')/\w'.cell? ⟨w.heap.size,2,none⟩=some (.int .i64 m.N)/\w'.cell? ⟨w.heap.size,3,none⟩=some (.string m.S)/\w'.cell? ⟨w.heap.size,4,none⟩=some (.int .i64 m.room)/\w'.cell? ⟨w.heap.size,5,none⟩=some (.slice va' m.vals.length vc')/\w'.cell? ⟨w.heap.size,6,none⟩=some (.int .i64 m.ret)/\w'.cell? ⟨w.heap.size,7,none⟩=some (.bool m.over)/\w'.cell? ⟨w.heap.size,8,none⟩=some (.int .i64 m.steps)/\w'.cell? ⟨w.heap.size,9,none⟩=some (.int .i64 m.looks)/\w'.cell? ⟨w.heap.size,10,none⟩=some (.int .i64 m.hits)/\w'.cell? ⟨w.heap.size,11,none⟩=some (.slice ma' m.memo.length mc')/\w'.cell? ⟨w.heap.size,12,none⟩=some (.string jr)/\w'.cell? ⟨w.heap.size,13,none⟩=some (.int .i64 sy)/\w'.cell? ⟨w.heap.size+1,1,none⟩=some (.int .i64 100000)) ((first|(with_reducible exact HLS)|(with_reducible exact HKS)|(with_reducible exact HES)|(with_reducible exact HFS))) ((first|(go_at_call 27;(with_reducible refine (HRUN.out _ _ _ _ _ _ _ LP.out.mr).mono ?_);rintro e yT ⟨wa,wv,wm,wc,wd,we,rfl,hgT,hbT⟩;have KX:Hid (Mf yT w.heap.size [.int .i64 1,.slice ra' m.row.length rc',.int .i64 m.N,.string m.S,.int .i64 m.room,.slice va' m.vals.length vc',.int .i64 m.ret,.bool m.over,.int .i64 m.steps,.int .i64 m.looks,.int .i64 m.hits,.slice ma' m.memo.length mc',.string jr,.int .i64 sy]):=LX.out.below hbT;have KZ:Hid (Mf yT (w.heap.size+1+1) [.int .i64 0,.slice none 0 0,.int .i64 0,.string ⟨#[]⟩,.int .i64 0,.slice none 0 0,.int .i64 0,.bool false,.int .i64 0,.int .i64 0,.int .i64 0,.slice none 0 0,.string ⟨#[]⟩,.int .i64 0]):=LZ.out.below hbT;have KO:Hid (Mf yT (w.heap.size+1) [.int .i64 1,.int .i64 100000,.string ⟨#[]⟩]):=LO.out.below hbT;have KG:Hid (Rg yT y3.drew.heap.size yT.heap.size M wa wv wm):=hgT;have HBT:Hid (Below w.heap.size w yT):=HBD.out.trans (hbT.mono HBD.out.size);have HST:Hid (y3.drew.heap.size<=yT.heap.size):=hbT.size;have HKS:=ssOf _ _ _ _ _ _ _ _ _ _ _ KX.out KO.out;clear hgT hbT)|(go_at_call 26;(with_reducible refine (sIs _ 1 s1 m M jr sy _ _ _ _ _ _ wa wv wm wc wd we HSS.out).mono ?_);rintro e yE ⟨rfl,hbE⟩;have EX:Hid (Mf yE w.heap.size [.int .i64 1,.slice ra' m.row.length rc',.int .i64 m.N,.string m.S,.int .i64 m.room,.slice va' m.vals.length vc',.int .i64 m.ret,.bool m.over,.int .i64 m.steps,.int .i64 m.looks,.int .i64 m.hits,.slice ma' m.memo.length mc',.string jr,.int .i64 sy]):=KX.out.below hbE;have EZ:Hid (Mf yE (w.heap.size+1+1) [.int .i64 0,.slice none 0 0,.int .i64 0,.string ⟨#[]⟩,.int .i64 0,.slice none 0 0,.int .i64 0,.bool false,.int .i64 0,.int .i64 0,.int .i64 0,.slice none 0 0,.string ⟨#[]⟩,.int .i64 0]):=KZ.out.below hbE;have EO:Hid (Mf yE (w.heap.size+1) [.int .i64 1,.int .i64 100000,.string ⟨#[]⟩]):=KO.out.below hbE;have EG:Hid (Rg yE y3.drew.heap.size yT.heap.size M wa wv wm):=KG.out.below hbE;have HBE:Hid (Below w.heap.size w yE):=HBT.out.trans (hbE.mono HBT.out.size);have HSE:Hid (yT.heap.size<=yE.heap.size):=hbE.size;have HES:=ssOf _ _ _ _ _ _ _ _ _ _ _ EX.out EO.out;have HKF:Hid (Kept (fun b=>b=w.heap.size+1+1) yE (((((((((((((((yE).setCell ⟨w.heap.size+1+1,0,none⟩ (.int .i64 s1)).setCell ⟨w.heap.size+1+1,1,none⟩ (.slice wa M.row.length wc)).setCell ⟨w.heap.size+1+1,2,none⟩ (.int .i64 M.N)).setCell ⟨w.heap.size+1+1,3,none⟩ (.string M.S)).setCell ⟨w.heap.size+1+1,4,none⟩ (.int .i64 M.room)).setCell ⟨w.heap.size+1+1,5,none⟩ (.slice wv M.vals.length wd)).setCell ⟨w.heap.size+1+1,6,none⟩ (.int .i64 M.ret)).setCell ⟨w.heap.size+1+1,7,none⟩ (.bool M.over)).setCell ⟨w.heap.size+1+1,8,none⟩ (.int .i64 M.steps)).setCell ⟨w.heap.size+1+1,9,none⟩ (.int .i64 M.looks)).setCell ⟨w.heap.size+1+1,10,none⟩ (.int .i64 M.hits)).setCell ⟨w.heap.size+1+1,11,none⟩ (.slice wm M.memo.length we)).setCell ⟨w.heap.size+1+1,12,none⟩ (.string jr)).setCell ⟨w.heap.size+1+1,13,none⟩ (.int .i64 sy))):=((((((((((((((Kept.refl (fun b=>b=w.heap.size+1+1) yE).setCell (p:=⟨w.heap.size+1+1,0,none⟩) (rfl) _).setCell (p:=⟨w.heap.size+1+1,1,none⟩) (rfl) _).setCell (p:=⟨w.heap.size+1+1,2,none⟩) (rfl) _).setCell (p:=⟨w.heap.size+1+1,3,none⟩) (rfl) _).setCell (p:=⟨w.heap.size+1+1,4,none⟩) (rfl) _).setCell (p:=⟨w.heap.size+1+1,5,none⟩) (rfl) _).setCell (p:=⟨w.heap.size+1+1,6,none⟩) (rfl) _).setCell (p:=⟨w.heap.size+1+1,7,none⟩) (rfl) _).setCell (p:=⟨w.heap.size+1+1,8,none⟩) (rfl) _).setCell (p:=⟨w.heap.size+1+1,9,none⟩) (rfl) _).setCell (p:=⟨w.heap.size+1+1,10,none⟩) (rfl) _).setCell (p:=⟨w.heap.size+1+1,11,none⟩) (rfl) _).setCell (p:=⟨w.heap.size+1+1,12,none⟩) (rfl) _).setCell (p:=⟨w.heap.size+1+1,13,none⟩) (rfl) _;have HFS:=ssOf _ _ _ _ _ _ _ _ _ _ _ (EX.out.kept HKF.out (by omega)) (EO.out.kept HKF.out (by omega));obtain ⟨d0,d1,d2,d3,d4,d5,d6,d7,d8,d9,d10,d11,d12,d13,z0,z1,z2,z3,z4,z5,z6,z7,z8,z9,z10,z11,z12,z13⟩:=Jz.of EZ.out;clear hbE)))
 obtain ⟨WF,hWF⟩:∃ WF,WF=((((((((((((((yE).setCell ⟨w.heap.size+1+1,0,none⟩ (.int .i64 s1)).setCell ⟨w.heap.size+1+1,1,none⟩ (.slice wa M.row.length wc)).setCell ⟨w.heap.size+1+1,2,none⟩ (.int .i64 M.N)).setCell ⟨w.heap.size+1+1,3,none⟩ (.string M.S)).setCell ⟨w.heap.size+1+1,4,none⟩ (.int .i64 M.room)).setCell ⟨w.heap.size+1+1,5,none⟩ (.slice wv M.vals.length wd)).setCell ⟨w.heap.size+1+1,6,none⟩ (.int .i64 M.ret)).setCell ⟨w.heap.size+1+1,7,none⟩ (.bool M.over)).setCell ⟨w.heap.size+1+1,8,none⟩ (.int .i64 M.steps)).setCell ⟨w.heap.size+1+1,9,none⟩ (.int .i64 M.looks)).setCell ⟨w.heap.size+1+1,10,none⟩ (.int .i64 M.hits)).setCell ⟨w.heap.size+1+1,11,none⟩ (.slice wm M.memo.length we)).setCell ⟨w.heap.size+1+1,12,none⟩ (.string jr)).setCell ⟨w.heap.size+1+1,13,none⟩ (.int .i64 sy):=⟨_,rfl⟩
 rw [<- hWF]
 have KF:Kept (fun b=>b=w.heap.size+1+1) yE WF:=by rw [hWF];exact HKF.out
 have HF:Mf WF (w.heap.size+1+1) [.int .i64 s1,.slice wa M.row.length wc,.int .i64 M.N,.string M.S,.int .i64 M.room,.slice wv M.vals.length wd,.int .i64 M.ret,.bool M.over,.int .i64 M.steps,.int .i64 M.looks,.int .i64 M.hits,.slice wm M.memo.length we,.string jr,.int .i64 sy]:=by rw [hWF];exact ((((((((((((((EZ.out).set 0 (.int .i64 s1)).set 1 (.slice wa M.row.length wc)).set 2 (.int .i64 M.N)).set 3 (.string M.S)).set 4 (.int .i64 M.room)).set 5 (.slice wv M.vals.length wd)).set 6 (.int .i64 M.ret)).set 7 (.bool M.over)).set 8 (.int .i64 M.steps)).set 9 (.int .i64 M.looks)).set 10 (.int .i64 M.hits)).set 11 (.slice wm M.memo.length we)).set 12 (.string jr)).set 13 (.int .i64 sy)
 clear HKS HLS HES HFS HKF d0 d1 d2 d3 d4 d5 d6 d7 d8 d9 d10 d11 d12 d13 z0 z1 z2 z3 z4 z5 z6 z7 z8 z9 z10 z11 z12 z13
 obtain ⟨c0,c1,c2,c3,c4,c5,c6,c7,c8,c9,c10,c11,c12,c13,x0,x1,x2,x3,x4,x5,x6,x7,x8,x9,x10,x11,x12,x13⟩:=Jz.of HF
 clear hWF HF
 go_wp2
 have s0:=HS0.out
 have q1:=HB3.out.size
 have s2:=HST.out
 have s3:=HSE.out
 have hsd:y3.drew.heap.size=y3.heap.size:=rfl
 have hs3:=HZ3.out.lt (by simp)
 have hg:=EG.out.kept KF (fun b h1 h2 h3=>by omega)
 have fb:Below w.heap.size w WF:=HBE.out.trans (KF.below (fun b hb=>by omega) HBE.out.size)
 have s4:=KF.size
 refine bodyPost_ret (v:=.tuple #[jval s1 M jr sy wa wv wm wc wd we,.int .i64 0]) (by simp [results,Tryz.results12,go_sem,c0,c1,c2,c3,c4,c5,c6,c7,c8,c9,c10,c11,c12,c13]) rfl ⟨_,_,_,_,_,_,rfl,rg_mono hg (by omega) (by omega),fb⟩
end Je7
end Go.Proofs.YtladjpombohpaaaGreatDoor
