import Derived.Test.YtladjpombohpaaaGreatDoorPkJE37
namespace Go.Proofs.YtladjpombohpaaaGreatDoor
set_option maxRecDepth 100000
set_option maxHeartbeats 8000000
set_option linter.unusedVariables false
namespace Je1
open Go.RowKit
open Nd0 (Kept At)
open Mm0 Mx0 Mu2 Mw20 Jb0
theorem sCopyO (w:World) (m:Mc) (ra va ma:Option Addr) (rc vc mc:Nat) (hR:Mr w m ra va ma) (hr:m.row.length<=1048576) (hv:m.vals.length<=1048576) (hm:m.memo.length<=1048576) :
 Calls Tryz.prog 49 #[mval m ra va ma rc vc mc] w fun e w'=>∃ ra' va' ma' rc' vc' mc',e=.returned (mval m ra' va' ma' rc' vc' mc')/\PO w' w.heap.size m ra' va' ma' rc' vc' mc'/\Below w.heap.size w w':=by
 refine (sCopy w m ra va ma rc vc mc hR hr hv hm).mono ?_
 rintro e w' ⟨a,b,c,d,f,g,h1,h2,h3⟩
 exact ⟨a,b,c,d,f,g,h1,PO.of h2,h3⟩
theorem iJCopy (w:World) (st:Int) (m:Mc) (jr:ByteArray) (sy:Int) (ra va ma:Option Addr) (rc vc mc:Nat) (hR:Mr w m ra va ma) (hr:m.row.length<=1048576) (hv:m.vals.length<=1048576) (hm:m.memo.length<=1048576) :
 Calls Tryz.prog 65 #[jval st m jr sy ra va ma rc vc mc] w fun e w'=>∃ ra' va' ma' rc' vc' mc',e=.returned (jval st m jr sy ra' va' ma' rc' vc' mc')/\PO w' w.heap.size m ra' va' ma' rc' vc' mc'/\Below w.heap.size w w':=by
 have HR:Hid (Mr w m ra va ma):=hR
 clear hR
 obtain ⟨W0,hW0⟩:∃ W0,W0=((w.alloc (.cells #[.int .i64 st,.slice ra m.row.length rc,.int .i64 m.N,.string m.S,.int .i64 m.room,.slice va m.vals.length vc,.int .i64 m.ret,.bool m.over,.int .i64 m.steps,.int .i64 m.looks,.int .i64 m.hits,.slice ma m.memo.length mc,.string jr,.int .i64 sy] 37)).alloc (.cells #[.int .i64 0,.slice none 0 0,.int .i64 0,.string ⟨#[]⟩,.int .i64 0,.slice none 0 0,.int .i64 0,.bool false,.int .i64 0,.int .i64 0,.int .i64 0,.slice none 0 0,.string ⟨#[]⟩,.int .i64 0] 37)):=⟨_,rfl⟩
 have HE0:Hid (((w.alloc (.cells #[.int .i64 st,.slice ra m.row.length rc,.int .i64 m.N,.string m.S,.int .i64 m.room,.slice va m.vals.length vc,.int .i64 m.ret,.bool m.over,.int .i64 m.steps,.int .i64 m.looks,.int .i64 m.hits,.slice ma m.memo.length mc,.string jr,.int .i64 sy] 37)).alloc (.cells #[.int .i64 0,.slice none 0 0,.int .i64 0,.string ⟨#[]⟩,.int .i64 0,.slice none 0 0,.int .i64 0,.bool false,.int .i64 0,.int .i64 0,.int .i64 0,.slice none 0 0,.string ⟨#[]⟩,.int .i64 0] 37))=W0):=hW0.symm
 have HB0:Hid (Below w.heap.size w W0):=by rw [hW0];exact ((Below.refl _ _).alloc (Nat.le_refl _) _).alloc (by simp) _
 have HA0:Hid (Mf W0 w.heap.size [.int .i64 st,.slice ra m.row.length rc,.int .i64 m.N,.string m.S,.int .i64 m.room,.slice va m.vals.length vc,.int .i64 m.ret,.bool m.over,.int .i64 m.steps,.int .i64 m.looks,.int .i64 m.hits,.slice ma m.memo.length mc,.string jr,.int .i64 sy]):=by rw [hW0];exact (Mf.made _ _ _).alloc _
 have HZ0:Hid (Mf W0 (w.heap.size+1) [.int .i64 0,.slice none 0 0,.int .i64 0,.string ⟨#[]⟩,.int .i64 0,.slice none 0 0,.int .i64 0,.bool false,.int .i64 0,.int .i64 0,.int .i64 0,.slice none 0 0,.string ⟨#[]⟩,.int .i64 0]):=by
  have h1:=Mf.made (w.alloc (.cells #[.int .i64 st,.slice ra m.row.length rc,.int .i64 m.N,.string m.S,.int .i64 m.room,.slice va m.vals.length vc,.int .i64 m.ret,.bool m.over,.int .i64 m.steps,.int .i64 m.looks,.int .i64 m.hits,.slice ma m.memo.length mc,.string jr,.int .i64 sy] 37)) #[.int .i64 0,.slice none 0 0,.int .i64 0,.string ⟨#[]⟩,.int .i64 0,.slice none 0 0,.int .i64 0,.bool false,.int .i64 0,.int .i64 0,.int .i64 0,.slice none 0 0,.string ⟨#[]⟩,.int .i64 0] 37
  have h2:(w.alloc (.cells #[.int .i64 st,.slice ra m.row.length rc,.int .i64 m.N,.string m.S,.int .i64 m.room,.slice va m.vals.length vc,.int .i64 m.ret,.bool m.over,.int .i64 m.steps,.int .i64 m.looks,.int .i64 m.hits,.slice ma m.memo.length mc,.string jr,.int .i64 sy] 37)).heap.size=w.heap.size+1:=by simp
  rw [h2,<- hW0] at h1
  exact h1
 have HS0:Hid (W0.heap.size=w.heap.size+2):=by show _=_;rw [hW0];simp
 clear hW0
 go_enter Tryz.func65,Tryz.ntmps65
 go_upto_region 1 with fail
 rw [HE0.out]
 clear HE0
 obtain ⟨c0,c1,c2,c3,c4,c5,c6,c7,c8,c9,c10,c11,c12,c13,y0,y1,y2,y3,y4,y5,y6,y7,y8,y9,y10,y11,y12,y13⟩:=Jz.of HA0.out
 go_wp2_with fail
 clear c0 c1 c2 c3 c4 c5 c6 c7 c8 c9 c10 c11 c12 c13 y0 y1 y2 y3 y4 y5 y6 y7 y8 y9 y10 y11 y12 y13
 refine (iCopyO _ m _ _ _ _ _ _ (HR.out.below HB0.out) hr hv hm).mono ?_
 rintro e x1 ⟨ra',va',ma',rc',vc',mc',rfl,hp,hb⟩
 have HA1:Hid (Mf x1 w.heap.size [.int .i64 st,.slice ra m.row.length rc,.int .i64 m.N,.string m.S,.int .i64 m.room,.slice va m.vals.length vc,.int .i64 m.ret,.bool m.over,.int .i64 m.steps,.int .i64 m.looks,.int .i64 m.hits,.slice ma m.memo.length mc,.string jr,.int .i64 sy]):=HA0.out.below hb
 have HZ1:Hid (Mf x1 (w.heap.size+1) [.int .i64 0,.slice none 0 0,.int .i64 0,.string ⟨#[]⟩,.int .i64 0,.slice none 0 0,.int .i64 0,.bool false,.int .i64 0,.int .i64 0,.int .i64 0,.slice none 0 0,.string ⟨#[]⟩,.int .i64 0]):=HZ0.out.below hb
 have HP1:Hid (PO x1 W0.heap.size m ra' va' ma' rc' vc' mc'):=hp
 have HB1:Hid (Below w.heap.size w x1):=HB0.out.trans (hb.mono HB0.out.size)
 have HS1:Hid (W0.heap.size<=x1.heap.size):=hb.size
 clear hb hp HA0 HZ0
 obtain ⟨c0,c1,c2,c3,c4,c5,c6,c7,c8,c9,c10,c11,c12,c13,y0,y1,y2,y3,y4,y5,y6,y7,y8,y9,y10,y11,y12,y13⟩:=Jz.of HA1.out
 obtain ⟨d0,d1,d2,d3,d4,d5,d6,d7,d8,d9,d10,d11,d12,d13,z0,z1,z2,z3,z4,z5,z6,z7,z8,z9,z10,z11,z12,z13⟩:=Jz.of HZ1.out
 go_wp2
 clear c0 c1 c2 c3 c4 c5 c6 c7 c8 c9 c10 c11 c12 c13 y0 y1 y2 y3 y4 y5 y6 y7 y8 y9 y10 y11 y12 y13 d0 d1 d2 d3 d4 d5 d6 d7 d8 d9 d10 d11 d12 d13 z0 z1 z2 z3 z4 z5 z6 z7 z8 z9 z10 z11 z12 z13
 obtain ⟨WF,hWF⟩:∃ WF,WF=(((((((((((((((((((((((((x1).setCell ⟨w.heap.size,1,none⟩ (.slice ra' m.row.length rc')).setCell ⟨w.heap.size,2,none⟩ (.int .i64 m.N)).setCell ⟨w.heap.size,3,none⟩ (.string m.S)).setCell ⟨w.heap.size,4,none⟩ (.int .i64 m.room)).setCell ⟨w.heap.size,5,none⟩ (.slice va' m.vals.length vc')).setCell ⟨w.heap.size,6,none⟩ (.int .i64 m.ret)).setCell ⟨w.heap.size,7,none⟩ (.bool m.over)).setCell ⟨w.heap.size,8,none⟩ (.int .i64 m.steps)).setCell ⟨w.heap.size,9,none⟩ (.int .i64 m.looks)).setCell ⟨w.heap.size,10,none⟩ (.int .i64 m.hits)).setCell ⟨w.heap.size,11,none⟩ (.slice ma' m.memo.length mc')).setCell ⟨w.heap.size+1,0,none⟩ (.int .i64 st)).setCell ⟨w.heap.size+1,1,none⟩ (.slice ra' m.row.length rc')).setCell ⟨w.heap.size+1,2,none⟩ (.int .i64 m.N)).setCell ⟨w.heap.size+1,3,none⟩ (.string m.S)).setCell ⟨w.heap.size+1,4,none⟩ (.int .i64 m.room)).setCell ⟨w.heap.size+1,5,none⟩ (.slice va' m.vals.length vc')).setCell ⟨w.heap.size+1,6,none⟩ (.int .i64 m.ret)).setCell ⟨w.heap.size+1,7,none⟩ (.bool m.over)).setCell ⟨w.heap.size+1,8,none⟩ (.int .i64 m.steps)).setCell ⟨w.heap.size+1,9,none⟩ (.int .i64 m.looks)).setCell ⟨w.heap.size+1,10,none⟩ (.int .i64 m.hits)).setCell ⟨w.heap.size+1,11,none⟩ (.slice ma' m.memo.length mc')).setCell ⟨w.heap.size+1,12,none⟩ (.string jr)).setCell ⟨w.heap.size+1,13,none⟩ (.int .i64 sy):=⟨_,rfl⟩
 rw [<- hWF]
 have KF:Kept (fun b=>b=w.heap.size\/b=w.heap.size+1) x1 WF:=by
  rw [hWF]
  exact (((((((((((((((((((((((((Kept.refl (fun b=>b=w.heap.size\/b=w.heap.size+1) x1).setCell (p:=⟨w.heap.size,1,none⟩) (.inl rfl) _).setCell (p:=⟨w.heap.size,2,none⟩) (.inl rfl) _).setCell (p:=⟨w.heap.size,3,none⟩) (.inl rfl) _).setCell (p:=⟨w.heap.size,4,none⟩) (.inl rfl) _).setCell (p:=⟨w.heap.size,5,none⟩) (.inl rfl) _).setCell (p:=⟨w.heap.size,6,none⟩) (.inl rfl) _).setCell (p:=⟨w.heap.size,7,none⟩) (.inl rfl) _).setCell (p:=⟨w.heap.size,8,none⟩) (.inl rfl) _).setCell (p:=⟨w.heap.size,9,none⟩) (.inl rfl) _).setCell (p:=⟨w.heap.size,10,none⟩) (.inl rfl) _).setCell (p:=⟨w.heap.size,11,none⟩) (.inl rfl) _).setCell (p:=⟨w.heap.size+1,0,none⟩) (.inr rfl) _).setCell (p:=⟨w.heap.size+1,1,none⟩) (.inr rfl) _).setCell (p:=⟨w.heap.size+1,2,none⟩) (.inr rfl) _).setCell (p:=⟨w.heap.size+1,3,none⟩) (.inr rfl) _).setCell (p:=⟨w.heap.size+1,4,none⟩) (.inr rfl) _).setCell (p:=⟨w.heap.size+1,5,none⟩) (.inr rfl) _).setCell (p:=⟨w.heap.size+1,6,none⟩) (.inr rfl) _).setCell (p:=⟨w.heap.size+1,7,none⟩) (.inr rfl) _).setCell (p:=⟨w.heap.size+1,8,none⟩) (.inr rfl) _).setCell (p:=⟨w.heap.size+1,9,none⟩) (.inr rfl) _).setCell (p:=⟨w.heap.size+1,10,none⟩) (.inr rfl) _).setCell (p:=⟨w.heap.size+1,11,none⟩) (.inr rfl) _).setCell (p:=⟨w.heap.size+1,12,none⟩) (.inr rfl) _).setCell (p:=⟨w.heap.size+1,13,none⟩) (.inr rfl) _
 have HF:Mf WF (w.heap.size+1) [.int .i64 st,.slice ra' m.row.length rc',.int .i64 m.N,.string m.S,.int .i64 m.room,.slice va' m.vals.length vc',.int .i64 m.ret,.bool m.over,.int .i64 m.steps,.int .i64 m.looks,.int .i64 m.hits,.slice ma' m.memo.length mc',.string jr,.int .i64 sy]:=by
  rw [hWF]
  have hO:Mf ((((((((((((x1).setCell ⟨w.heap.size,1,none⟩ (.slice ra' m.row.length rc')).setCell ⟨w.heap.size,2,none⟩ (.int .i64 m.N)).setCell ⟨w.heap.size,3,none⟩ (.string m.S)).setCell ⟨w.heap.size,4,none⟩ (.int .i64 m.room)).setCell ⟨w.heap.size,5,none⟩ (.slice va' m.vals.length vc')).setCell ⟨w.heap.size,6,none⟩ (.int .i64 m.ret)).setCell ⟨w.heap.size,7,none⟩ (.bool m.over)).setCell ⟨w.heap.size,8,none⟩ (.int .i64 m.steps)).setCell ⟨w.heap.size,9,none⟩ (.int .i64 m.looks)).setCell ⟨w.heap.size,10,none⟩ (.int .i64 m.hits)).setCell ⟨w.heap.size,11,none⟩ (.slice ma' m.memo.length mc')) (w.heap.size+1) [.int .i64 0,.slice none 0 0,.int .i64 0,.string ⟨#[]⟩,.int .i64 0,.slice none 0 0,.int .i64 0,.bool false,.int .i64 0,.int .i64 0,.int .i64 0,.slice none 0 0,.string ⟨#[]⟩,.int .i64 0]:=HZ1.out.kept ((((((((((((Kept.refl (fun b=>b=w.heap.size) x1).setCell (p:=⟨w.heap.size,1,none⟩) (rfl) _).setCell (p:=⟨w.heap.size,2,none⟩) (rfl) _).setCell (p:=⟨w.heap.size,3,none⟩) (rfl) _).setCell (p:=⟨w.heap.size,4,none⟩) (rfl) _).setCell (p:=⟨w.heap.size,5,none⟩) (rfl) _).setCell (p:=⟨w.heap.size,6,none⟩) (rfl) _).setCell (p:=⟨w.heap.size,7,none⟩) (rfl) _).setCell (p:=⟨w.heap.size,8,none⟩) (rfl) _).setCell (p:=⟨w.heap.size,9,none⟩) (rfl) _).setCell (p:=⟨w.heap.size,10,none⟩) (rfl) _).setCell (p:=⟨w.heap.size,11,none⟩) (rfl) _) (by omega)
  exact ((((((((((((((hO).set 0 (.int .i64 st)).set 1 (.slice ra' m.row.length rc')).set 2 (.int .i64 m.N)).set 3 (.string m.S)).set 4 (.int .i64 m.room)).set 5 (.slice va' m.vals.length vc')).set 6 (.int .i64 m.ret)).set 7 (.bool m.over)).set 8 (.int .i64 m.steps)).set 9 (.int .i64 m.looks)).set 10 (.int .i64 m.hits)).set 11 (.slice ma' m.memo.length mc')).set 12 (.string jr)).set 13 (.int .i64 sy)
 obtain ⟨c0,c1,c2,c3,c4,c5,c6,c7,c8,c9,c10,c11,c12,c13,y0,y1,y2,y3,y4,y5,y6,y7,y8,y9,y10,y11,y12,y13⟩:=Jz.of HF
 have s0:=HS0.out
 have hpo:PO WF w.heap.size m ra' va' ma' rc' vc' mc':=(HP1.out.kept KF (fun b hb=>by have:=(HP1.out.ge (.inl hb)).1;omega) (fun b hb=>by have:=(HP1.out.ge (.inr (.inl hb))).1;omega) (fun b hb=>by have:=(HP1.out.ge (.inr (.inr hb))).1;omega)).mono (by omega)
 have fb:Below w.heap.size w WF:=HB1.out.trans (KF.below (fun b hb=>by omega) HB1.out.size)
 clear hWF HF KF
 refine bodyPost_ret (v:=jval st m jr sy ra' va' ma' rc' vc' mc') (by simp [results,Tryz.results65,go_sem,c0,c1,c2,c3,c4,c5,c6,c7,c8,c9,c10,c11,c12,c13]) rfl ⟨_,_,_,_,_,_,rfl,hpo,fb⟩
theorem sJCopy (w:World) (st:Int) (m:Mc) (jr:ByteArray) (sy:Int) (ra va ma:Option Addr) (rc vc mc:Nat) (hR:Mr w m ra va ma) (hr:m.row.length<=1048576) (hv:m.vals.length<=1048576) (hm:m.memo.length<=1048576) :
 Calls Tryz.prog 22 #[jval st m jr sy ra va ma rc vc mc] w fun e w'=>∃ ra' va' ma' rc' vc' mc',e=.returned (jval st m jr sy ra' va' ma' rc' vc' mc')/\PO w' w.heap.size m ra' va' ma' rc' vc' mc'/\Below w.heap.size w w':=by
 have HR:Hid (Mr w m ra va ma):=hR
 clear hR
 obtain ⟨W0,hW0⟩:∃ W0,W0=((w.alloc (.cells #[.int .i64 st,.slice ra m.row.length rc,.int .i64 m.N,.string m.S,.int .i64 m.room,.slice va m.vals.length vc,.int .i64 m.ret,.bool m.over,.int .i64 m.steps,.int .i64 m.looks,.int .i64 m.hits,.slice ma m.memo.length mc,.string jr,.int .i64 sy] 37)).alloc (.cells #[.int .i64 0,.slice none 0 0,.int .i64 0,.string ⟨#[]⟩,.int .i64 0,.slice none 0 0,.int .i64 0,.bool false,.int .i64 0,.int .i64 0,.int .i64 0,.slice none 0 0,.string ⟨#[]⟩,.int .i64 0] 37)):=⟨_,rfl⟩
 have HE0:Hid (((w.alloc (.cells #[.int .i64 st,.slice ra m.row.length rc,.int .i64 m.N,.string m.S,.int .i64 m.room,.slice va m.vals.length vc,.int .i64 m.ret,.bool m.over,.int .i64 m.steps,.int .i64 m.looks,.int .i64 m.hits,.slice ma m.memo.length mc,.string jr,.int .i64 sy] 37)).alloc (.cells #[.int .i64 0,.slice none 0 0,.int .i64 0,.string ⟨#[]⟩,.int .i64 0,.slice none 0 0,.int .i64 0,.bool false,.int .i64 0,.int .i64 0,.int .i64 0,.slice none 0 0,.string ⟨#[]⟩,.int .i64 0] 37))=W0):=hW0.symm
 have HB0:Hid (Below w.heap.size w W0):=by rw [hW0];exact ((Below.refl _ _).alloc (Nat.le_refl _) _).alloc (by simp) _
 have HA0:Hid (Mf W0 w.heap.size [.int .i64 st,.slice ra m.row.length rc,.int .i64 m.N,.string m.S,.int .i64 m.room,.slice va m.vals.length vc,.int .i64 m.ret,.bool m.over,.int .i64 m.steps,.int .i64 m.looks,.int .i64 m.hits,.slice ma m.memo.length mc,.string jr,.int .i64 sy]):=by rw [hW0];exact (Mf.made _ _ _).alloc _
 have HZ0:Hid (Mf W0 (w.heap.size+1) [.int .i64 0,.slice none 0 0,.int .i64 0,.string ⟨#[]⟩,.int .i64 0,.slice none 0 0,.int .i64 0,.bool false,.int .i64 0,.int .i64 0,.int .i64 0,.slice none 0 0,.string ⟨#[]⟩,.int .i64 0]):=by
  have h1:=Mf.made (w.alloc (.cells #[.int .i64 st,.slice ra m.row.length rc,.int .i64 m.N,.string m.S,.int .i64 m.room,.slice va m.vals.length vc,.int .i64 m.ret,.bool m.over,.int .i64 m.steps,.int .i64 m.looks,.int .i64 m.hits,.slice ma m.memo.length mc,.string jr,.int .i64 sy] 37)) #[.int .i64 0,.slice none 0 0,.int .i64 0,.string ⟨#[]⟩,.int .i64 0,.slice none 0 0,.int .i64 0,.bool false,.int .i64 0,.int .i64 0,.int .i64 0,.slice none 0 0,.string ⟨#[]⟩,.int .i64 0] 37
  have h2:(w.alloc (.cells #[.int .i64 st,.slice ra m.row.length rc,.int .i64 m.N,.string m.S,.int .i64 m.room,.slice va m.vals.length vc,.int .i64 m.ret,.bool m.over,.int .i64 m.steps,.int .i64 m.looks,.int .i64 m.hits,.slice ma m.memo.length mc,.string jr,.int .i64 sy] 37)).heap.size=w.heap.size+1:=by simp
  rw [h2,<- hW0] at h1
  exact h1
 have HS0:Hid (W0.heap.size=w.heap.size+2):=by show _=_;rw [hW0];simp
 clear hW0
 go_enter Tryz.func22,Tryz.ntmps22
 go_upto_region 1 with fail
 rw [HE0.out]
 clear HE0
 obtain ⟨c0,c1,c2,c3,c4,c5,c6,c7,c8,c9,c10,c11,c12,c13,y0,y1,y2,y3,y4,y5,y6,y7,y8,y9,y10,y11,y12,y13⟩:=Jz.of HA0.out
 go_wp2_with fail
 clear c0 c1 c2 c3 c4 c5 c6 c7 c8 c9 c10 c11 c12 c13 y0 y1 y2 y3 y4 y5 y6 y7 y8 y9 y10 y11 y12 y13
 refine (sCopyO _ m _ _ _ _ _ _ (HR.out.below HB0.out) hr hv hm).mono ?_
 rintro e x1 ⟨ra',va',ma',rc',vc',mc',rfl,hp,hb⟩
 have HA1:Hid (Mf x1 w.heap.size [.int .i64 st,.slice ra m.row.length rc,.int .i64 m.N,.string m.S,.int .i64 m.room,.slice va m.vals.length vc,.int .i64 m.ret,.bool m.over,.int .i64 m.steps,.int .i64 m.looks,.int .i64 m.hits,.slice ma m.memo.length mc,.string jr,.int .i64 sy]):=HA0.out.below hb
 have HZ1:Hid (Mf x1 (w.heap.size+1) [.int .i64 0,.slice none 0 0,.int .i64 0,.string ⟨#[]⟩,.int .i64 0,.slice none 0 0,.int .i64 0,.bool false,.int .i64 0,.int .i64 0,.int .i64 0,.slice none 0 0,.string ⟨#[]⟩,.int .i64 0]):=HZ0.out.below hb
 have HP1:Hid (PO x1 W0.heap.size m ra' va' ma' rc' vc' mc'):=hp
 have HB1:Hid (Below w.heap.size w x1):=HB0.out.trans (hb.mono HB0.out.size)
 have HS1:Hid (W0.heap.size<=x1.heap.size):=hb.size
 clear hb hp HA0 HZ0
 obtain ⟨c0,c1,c2,c3,c4,c5,c6,c7,c8,c9,c10,c11,c12,c13,y0,y1,y2,y3,y4,y5,y6,y7,y8,y9,y10,y11,y12,y13⟩:=Jz.of HA1.out
 obtain ⟨d0,d1,d2,d3,d4,d5,d6,d7,d8,d9,d10,d11,d12,d13,z0,z1,z2,z3,z4,z5,z6,z7,z8,z9,z10,z11,z12,z13⟩:=Jz.of HZ1.out
 go_wp2
 clear c0 c1 c2 c3 c4 c5 c6 c7 c8 c9 c10 c11 c12 c13 y0 y1 y2 y3 y4 y5 y6 y7 y8 y9 y10 y11 y12 y13 d0 d1 d2 d3 d4 d5 d6 d7 d8 d9 d10 d11 d12 d13 z0 z1 z2 z3 z4 z5 z6 z7 z8 z9 z10 z11 z12 z13
 obtain ⟨WF,hWF⟩:∃ WF,WF=(((((((((((((((((((((((((x1).setCell ⟨w.heap.size,1,none⟩ (.slice ra' m.row.length rc')).setCell ⟨w.heap.size,2,none⟩ (.int .i64 m.N)).setCell ⟨w.heap.size,3,none⟩ (.string m.S)).setCell ⟨w.heap.size,4,none⟩ (.int .i64 m.room)).setCell ⟨w.heap.size,5,none⟩ (.slice va' m.vals.length vc')).setCell ⟨w.heap.size,6,none⟩ (.int .i64 m.ret)).setCell ⟨w.heap.size,7,none⟩ (.bool m.over)).setCell ⟨w.heap.size,8,none⟩ (.int .i64 m.steps)).setCell ⟨w.heap.size,9,none⟩ (.int .i64 m.looks)).setCell ⟨w.heap.size,10,none⟩ (.int .i64 m.hits)).setCell ⟨w.heap.size,11,none⟩ (.slice ma' m.memo.length mc')).setCell ⟨w.heap.size+1,0,none⟩ (.int .i64 st)).setCell ⟨w.heap.size+1,1,none⟩ (.slice ra' m.row.length rc')).setCell ⟨w.heap.size+1,2,none⟩ (.int .i64 m.N)).setCell ⟨w.heap.size+1,3,none⟩ (.string m.S)).setCell ⟨w.heap.size+1,4,none⟩ (.int .i64 m.room)).setCell ⟨w.heap.size+1,5,none⟩ (.slice va' m.vals.length vc')).setCell ⟨w.heap.size+1,6,none⟩ (.int .i64 m.ret)).setCell ⟨w.heap.size+1,7,none⟩ (.bool m.over)).setCell ⟨w.heap.size+1,8,none⟩ (.int .i64 m.steps)).setCell ⟨w.heap.size+1,9,none⟩ (.int .i64 m.looks)).setCell ⟨w.heap.size+1,10,none⟩ (.int .i64 m.hits)).setCell ⟨w.heap.size+1,11,none⟩ (.slice ma' m.memo.length mc')).setCell ⟨w.heap.size+1,12,none⟩ (.string jr)).setCell ⟨w.heap.size+1,13,none⟩ (.int .i64 sy):=⟨_,rfl⟩
 rw [<- hWF]
 have KF:Kept (fun b=>b=w.heap.size\/b=w.heap.size+1) x1 WF:=by
  rw [hWF]
  exact (((((((((((((((((((((((((Kept.refl (fun b=>b=w.heap.size\/b=w.heap.size+1) x1).setCell (p:=⟨w.heap.size,1,none⟩) (.inl rfl) _).setCell (p:=⟨w.heap.size,2,none⟩) (.inl rfl) _).setCell (p:=⟨w.heap.size,3,none⟩) (.inl rfl) _).setCell (p:=⟨w.heap.size,4,none⟩) (.inl rfl) _).setCell (p:=⟨w.heap.size,5,none⟩) (.inl rfl) _).setCell (p:=⟨w.heap.size,6,none⟩) (.inl rfl) _).setCell (p:=⟨w.heap.size,7,none⟩) (.inl rfl) _).setCell (p:=⟨w.heap.size,8,none⟩) (.inl rfl) _).setCell (p:=⟨w.heap.size,9,none⟩) (.inl rfl) _).setCell (p:=⟨w.heap.size,10,none⟩) (.inl rfl) _).setCell (p:=⟨w.heap.size,11,none⟩) (.inl rfl) _).setCell (p:=⟨w.heap.size+1,0,none⟩) (.inr rfl) _).setCell (p:=⟨w.heap.size+1,1,none⟩) (.inr rfl) _).setCell (p:=⟨w.heap.size+1,2,none⟩) (.inr rfl) _).setCell (p:=⟨w.heap.size+1,3,none⟩) (.inr rfl) _).setCell (p:=⟨w.heap.size+1,4,none⟩) (.inr rfl) _).setCell (p:=⟨w.heap.size+1,5,none⟩) (.inr rfl) _).setCell (p:=⟨w.heap.size+1,6,none⟩) (.inr rfl) _).setCell (p:=⟨w.heap.size+1,7,none⟩) (.inr rfl) _).setCell (p:=⟨w.heap.size+1,8,none⟩) (.inr rfl) _).setCell (p:=⟨w.heap.size+1,9,none⟩) (.inr rfl) _).setCell (p:=⟨w.heap.size+1,10,none⟩) (.inr rfl) _).setCell (p:=⟨w.heap.size+1,11,none⟩) (.inr rfl) _).setCell (p:=⟨w.heap.size+1,12,none⟩) (.inr rfl) _).setCell (p:=⟨w.heap.size+1,13,none⟩) (.inr rfl) _
 have HF:Mf WF (w.heap.size+1) [.int .i64 st,.slice ra' m.row.length rc',.int .i64 m.N,.string m.S,.int .i64 m.room,.slice va' m.vals.length vc',.int .i64 m.ret,.bool m.over,.int .i64 m.steps,.int .i64 m.looks,.int .i64 m.hits,.slice ma' m.memo.length mc',.string jr,.int .i64 sy]:=by
  rw [hWF]
  have hO:Mf ((((((((((((x1).setCell ⟨w.heap.size,1,none⟩ (.slice ra' m.row.length rc')).setCell ⟨w.heap.size,2,none⟩ (.int .i64 m.N)).setCell ⟨w.heap.size,3,none⟩ (.string m.S)).setCell ⟨w.heap.size,4,none⟩ (.int .i64 m.room)).setCell ⟨w.heap.size,5,none⟩ (.slice va' m.vals.length vc')).setCell ⟨w.heap.size,6,none⟩ (.int .i64 m.ret)).setCell ⟨w.heap.size,7,none⟩ (.bool m.over)).setCell ⟨w.heap.size,8,none⟩ (.int .i64 m.steps)).setCell ⟨w.heap.size,9,none⟩ (.int .i64 m.looks)).setCell ⟨w.heap.size,10,none⟩ (.int .i64 m.hits)).setCell ⟨w.heap.size,11,none⟩ (.slice ma' m.memo.length mc')) (w.heap.size+1) [.int .i64 0,.slice none 0 0,.int .i64 0,.string ⟨#[]⟩,.int .i64 0,.slice none 0 0,.int .i64 0,.bool false,.int .i64 0,.int .i64 0,.int .i64 0,.slice none 0 0,.string ⟨#[]⟩,.int .i64 0]:=HZ1.out.kept ((((((((((((Kept.refl (fun b=>b=w.heap.size) x1).setCell (p:=⟨w.heap.size,1,none⟩) (rfl) _).setCell (p:=⟨w.heap.size,2,none⟩) (rfl) _).setCell (p:=⟨w.heap.size,3,none⟩) (rfl) _).setCell (p:=⟨w.heap.size,4,none⟩) (rfl) _).setCell (p:=⟨w.heap.size,5,none⟩) (rfl) _).setCell (p:=⟨w.heap.size,6,none⟩) (rfl) _).setCell (p:=⟨w.heap.size,7,none⟩) (rfl) _).setCell (p:=⟨w.heap.size,8,none⟩) (rfl) _).setCell (p:=⟨w.heap.size,9,none⟩) (rfl) _).setCell (p:=⟨w.heap.size,10,none⟩) (rfl) _).setCell (p:=⟨w.heap.size,11,none⟩) (rfl) _) (by omega)
  exact ((((((((((((((hO).set 0 (.int .i64 st)).set 1 (.slice ra' m.row.length rc')).set 2 (.int .i64 m.N)).set 3 (.string m.S)).set 4 (.int .i64 m.room)).set 5 (.slice va' m.vals.length vc')).set 6 (.int .i64 m.ret)).set 7 (.bool m.over)).set 8 (.int .i64 m.steps)).set 9 (.int .i64 m.looks)).set 10 (.int .i64 m.hits)).set 11 (.slice ma' m.memo.length mc')).set 12 (.string jr)).set 13 (.int .i64 sy)
 obtain ⟨c0,c1,c2,c3,c4,c5,c6,c7,c8,c9,c10,c11,c12,c13,y0,y1,y2,y3,y4,y5,y6,y7,y8,y9,y10,y11,y12,y13⟩:=Jz.of HF
 have s0:=HS0.out
 have hpo:PO WF w.heap.size m ra' va' ma' rc' vc' mc':=(HP1.out.kept KF (fun b hb=>by have:=(HP1.out.ge (.inl hb)).1;omega) (fun b hb=>by have:=(HP1.out.ge (.inr (.inl hb))).1;omega) (fun b hb=>by have:=(HP1.out.ge (.inr (.inr hb))).1;omega)).mono (by omega)
 have fb:Below w.heap.size w WF:=HB1.out.trans (KF.below (fun b hb=>by omega) HB1.out.size)
 clear hWF HF KF
 refine bodyPost_ret (v:=jval st m jr sy ra' va' ma' rc' vc' mc') (by simp [results,Tryz.results22,go_sem,c0,c1,c2,c3,c4,c5,c6,c7,c8,c9,c10,c11,c12,c13]) rfl ⟨_,_,_,_,_,_,rfl,hpo,fb⟩
/-- A block of sixteen cells, cell by cell. -/
structure Kz (W:World) (b:Nat) (v0 v1 v2 v3 v4 v5 v6 v7 v8 v9 v10 v11 v12 v13 v14 v15:Value):Prop where
 c0:W.cell? ⟨b,0,none⟩=some v0
 c1:W.cell? ⟨b,1,none⟩=some v1
 c2:W.cell? ⟨b,2,none⟩=some v2
 c3:W.cell? ⟨b,3,none⟩=some v3
 c4:W.cell? ⟨b,4,none⟩=some v4
 c5:W.cell? ⟨b,5,none⟩=some v5
 c6:W.cell? ⟨b,6,none⟩=some v6
 c7:W.cell? ⟨b,7,none⟩=some v7
 c8:W.cell? ⟨b,8,none⟩=some v8
 c9:W.cell? ⟨b,9,none⟩=some v9
 c10:W.cell? ⟨b,10,none⟩=some v10
 c11:W.cell? ⟨b,11,none⟩=some v11
 c12:W.cell? ⟨b,12,none⟩=some v12
 c13:W.cell? ⟨b,13,none⟩=some v13
 c14:W.cell? ⟨b,14,none⟩=some v14
 c15:W.cell? ⟨b,15,none⟩=some v15
 z0:W.frozen? ⟨b,0,none⟩=false
 z1:W.frozen? ⟨b,1,none⟩=false
 z2:W.frozen? ⟨b,2,none⟩=false
 z3:W.frozen? ⟨b,3,none⟩=false
 z4:W.frozen? ⟨b,4,none⟩=false
 z5:W.frozen? ⟨b,5,none⟩=false
 z6:W.frozen? ⟨b,6,none⟩=false
 z7:W.frozen? ⟨b,7,none⟩=false
 z8:W.frozen? ⟨b,8,none⟩=false
 z9:W.frozen? ⟨b,9,none⟩=false
 z10:W.frozen? ⟨b,10,none⟩=false
 z11:W.frozen? ⟨b,11,none⟩=false
 z12:W.frozen? ⟨b,12,none⟩=false
 z13:W.frozen? ⟨b,13,none⟩=false
 z14:W.frozen? ⟨b,14,none⟩=false
 z15:W.frozen? ⟨b,15,none⟩=false
theorem Kz.of {W:World} {b:Nat} {v0 v1 v2 v3 v4 v5 v6 v7 v8 v9 v10 v11 v12 v13 v14 v15:Value} (h:Mf W b [v0,v1,v2,v3,v4,v5,v6,v7,v8,v9,v10,v11,v12,v13,v14,v15]):Kz W b v0 v1 v2 v3 v4 v5 v6 v7 v8 v9 v10 v11 v12 v13 v14 v15 :=
 ⟨(h 0 (by simp)).1,(h 1 (by simp)).1,(h 2 (by simp)).1,(h 3 (by simp)).1,(h 4 (by simp)).1,(h 5 (by simp)).1,(h 6 (by simp)).1,(h 7 (by simp)).1,(h 8 (by simp)).1,(h 9 (by simp)).1,(h 10 (by simp)).1,(h 11 (by simp)).1,(h 12 (by simp)).1,(h 13 (by simp)).1,(h 14 (by simp)).1,(h 15 (by simp)).1,(h 0 (by simp)).2,(h 1 (by simp)).2,(h 2 (by simp)).2,(h 3 (by simp)).2,(h 4 (by simp)).2,(h 5 (by simp)).2,(h 6 (by simp)).2,(h 7 (by simp)).2,(h 8 (by simp)).2,(h 9 (by simp)).2,(h 10 (by simp)).2,(h 11 (by simp)).2,(h 12 (by simp)).2,(h 13 (by simp)).2,(h 14 (by simp)).2,(h 15 (by simp)).2⟩
theorem iKeep (w:World) (st:Int) (m:Mc) (jr:ByteArray) (sy:Int) (ra va ma:Option Addr) (rc vc mc:Nat) (hR:Mr w m ra va ma) (hr:m.row.length<=1048576) (hv:m.vals.length<=1048576) (hm:m.memo.length<=1048576) :
 Calls Tryz.prog 34 #[jval st m jr sy ra va ma rc vc mc] w fun e w'=>∃ p ra' va' ma' rc' vc' mc',e=.returned (.pointer (some ⟨p,0,none⟩))/\Mf w' p [.int .i32 0,.int .u32 0,.int .i64 st,.slice ra' m.row.length rc',.int .i64 m.N,.string m.S,.int .i64 m.room,.slice va' m.vals.length vc',.int .i64 m.ret,.bool m.over,.int .i64 m.steps,.int .i64 m.looks,.int .i64 m.hits,.slice ma' m.memo.length mc',.string jr,.int .i64 sy]/\(∀ W',Kept (fun b=>b=p) w' W'->Mr W' m ra' va' ma')/\w.heap.size<=p/\Below w.heap.size w w':=by
 have HR:Hid (Mr w m ra va ma):=hR
 clear hR
 obtain ⟨W0,hW0⟩:∃ W0,W0=w.alloc (.cells #[.int .i64 st,.slice ra m.row.length rc,.int .i64 m.N,.string m.S,.int .i64 m.room,.slice va m.vals.length vc,.int .i64 m.ret,.bool m.over,.int .i64 m.steps,.int .i64 m.looks,.int .i64 m.hits,.slice ma m.memo.length mc,.string jr,.int .i64 sy] 37):=⟨_,rfl⟩
 have HE0:Hid (w.alloc (.cells #[.int .i64 st,.slice ra m.row.length rc,.int .i64 m.N,.string m.S,.int .i64 m.room,.slice va m.vals.length vc,.int .i64 m.ret,.bool m.over,.int .i64 m.steps,.int .i64 m.looks,.int .i64 m.hits,.slice ma m.memo.length mc,.string jr,.int .i64 sy] 37)=W0):=hW0.symm
 have HB0:Hid (Below w.heap.size w W0):=by rw [hW0];exact (Below.refl _ _).alloc (Nat.le_refl _) _
 have HA0:Hid (Mf W0 w.heap.size [.int .i64 st,.slice ra m.row.length rc,.int .i64 m.N,.string m.S,.int .i64 m.room,.slice va m.vals.length vc,.int .i64 m.ret,.bool m.over,.int .i64 m.steps,.int .i64 m.looks,.int .i64 m.hits,.slice ma m.memo.length mc,.string jr,.int .i64 sy]):=by rw [hW0];exact Mf.made _ _ _
 clear hW0
 go_enter Tryz.func34,Tryz.ntmps34
 go_upto_region 1 with fail
 rw [HE0.out]
 clear HE0
 obtain ⟨c0,c1,c2,c3,c4,c5,c6,c7,c8,c9,c10,c11,c12,c13,y0,y1,y2,y3,y4,y5,y6,y7,y8,y9,y10,y11,y12,y13⟩:=Jz.of HA0.out
 go_wp2_with fail
 clear c0 c1 c2 c3 c4 c5 c6 c7 c8 c9 c10 c11 c12 c13 y0 y1 y2 y3 y4 y5 y6 y7 y8 y9 y10 y11 y12 y13
 refine (iJCopy _ st m jr sy _ _ _ _ _ _ (HR.out.below HB0.out) hr hv hm).mono ?_
 rintro e x1 ⟨ra',va',ma',rc',vc',mc',rfl,hp,hb⟩
 have HP1:Hid (PO x1 W0.heap.size m ra' va' ma' rc' vc' mc'):=hp
 have HB1:Hid (Below w.heap.size w x1):=HB0.out.trans (hb.mono HB0.out.size)
 clear hb hp HA0
 go_wp2
 go_ret
 have hal:Below x1.heap.size x1 (x1.alloc (.cells #[.int .i32 0,.int .u32 0,.int .i64 st,.slice ra' m.row.length rc',.int .i64 m.N,.string m.S,.int .i64 m.room,.slice va' m.vals.length vc',.int .i64 m.ret,.bool m.over,.int .i64 m.steps,.int .i64 m.looks,.int .i64 m.hits,.slice ma' m.memo.length mc',.string jr,.int .i64 sy] 112)):=(Below.refl _ _).alloc (Nat.le_refl _) _
 exact ⟨_,_,_,_,_,_,_,rfl,Mf.made _ _ _,fun W' hk=>((HP1.out.below hal).kept hk (fun b hb h=>by have:=(HP1.out.ge (.inl hb)).2;omega) (fun b hb h=>by have:=(HP1.out.ge (.inr (.inl hb))).2;omega) (fun b hb h=>by have:=(HP1.out.ge (.inr (.inr hb))).2;omega)).mr,HB1.out.size,HB1.out.trans (hal.mono HB1.out.size)⟩
end Je1
end Go.Proofs.YtladjpombohpaaaGreatDoor
