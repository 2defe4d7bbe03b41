import Derived.Test.YtladjpombohpaaaGreatDoorJe7
namespace Go.Proofs.YtladjpombohpaaaGreatDoor
set_option maxRecDepth 100000
set_option maxHeartbeats 8000000
set_option linter.unusedVariables false
namespace Jk1
open Go.RowKit
open Nd0 (Kept Ints WInts Ats At marks)
open Nd6 (Bools markB)
open Qc0 Mm0 Mx0 Mk2 Mk3 Jb0
theorem markJob (w:World) (st:Int) (m:Mc) (jr:ByteArray) (sy:Int) (ra va ma:Option Addr) (rc vc mc:Nat) (B:Nat) (h:Wm w B m.row m.vals m.memo ra va ma) (hx:Ax m.row.length m.vals.length m.memo.length ra va ma) (hr:m.row.length<=1048576) (hv:m.vals.length<=1048576) (hm:m.memo.length<=1048576) :
 Calls Tryz.prog 9 #[jval st m jr sy ra va ma rc vc mc,.int .i64 1] w fun e w'=>e=.returned (.int .i64 (lastM m:Int))/\Wm w' B (markB m.row.length 1) (marks m.vals.length ((1+m.row.length:Nat):Int)) (markS m.memo.length (1+m.row.length+m.vals.length)) ra va ma/\Kept (anyAt m.row.length m.vals.length m.memo.length ra va ma) w w':=by
 obtain ⟨W0,hW0⟩:∃ W0,W0=w.alloc (.cells #[.int .i64 st,.slice ra m.row.length rc,.int .i64 m.N,.string m.S,.int .i64 m.room,.slice va m.vals.length vc,.int .i64 m.ret,.bool m.over,.int .i64 m.steps,.int .i64 m.looks,.int .i64 m.hits,.slice ma m.memo.length mc,.string jr,.int .i64 sy] 37):=⟨_,rfl⟩
 have HE0:Hid (w.alloc (.cells #[.int .i64 st,.slice ra m.row.length rc,.int .i64 m.N,.string m.S,.int .i64 m.room,.slice va m.vals.length vc,.int .i64 m.ret,.bool m.over,.int .i64 m.steps,.int .i64 m.looks,.int .i64 m.hits,.slice ma m.memo.length mc,.string jr,.int .i64 sy] 37)=W0):=hW0.symm
 have HB0:Hid (Below w.heap.size w W0):=by rw [hW0];exact (Below.refl _ _).alloc (Nat.le_refl _) _
 have HA0:Hid (Mf W0 w.heap.size [.int .i64 st,.slice ra m.row.length rc,.int .i64 m.N,.string m.S,.int .i64 m.room,.slice va m.vals.length vc,.int .i64 m.ret,.bool m.over,.int .i64 m.steps,.int .i64 m.looks,.int .i64 m.hits,.slice ma m.memo.length mc,.string jr,.int .i64 sy]):=by rw [hW0];exact Mf.made _ _ _
 have HM0:Hid (Wm W0 B m.row m.vals m.memo ra va ma):=h.below HB0.out
 have HX:Hid (Ax m.row.length m.vals.length m.memo.length ra va ma):=hx
 clear h hx
 clear hW0
 go_enter Tryz.func9,Tryz.ntmps9
 go_upto_region 1 with fail
 rw [HE0.out]
 clear HE0
 obtain ⟨c0,c1,c2,c3,c4,c5,c6,c7,c8,c9,c10,c11,c12,c13,y0,y1,y2,y3,y4,y5,y6,y7,y8,y9,y10,y11,y12,y13⟩:=Jz.of HA0.out
 go_wp2_with fail
 clear c0 c1 c2 c3 c4 c5 c6 c7 c8 c9 c10 c11 c12 c13 y0 y1 y2 y3 y4 y5 y6 y7 y8 y9 y10 y11 y12 y13
 refine (markMachine _ m _ _ _ _ _ _ B HM0.out HX.out hr hv hm).mono ?_
 rintro e w1 ⟨rfl,hwm,hk⟩
 have HW1:Hid (Wm w1 B (markB m.row.length 1) (marks m.vals.length ((1+m.row.length:Nat):Int)) (markS m.memo.length (1+m.row.length+m.vals.length)) ra va ma):=hwm
 have HK1:Hid (Kept (anyAt m.row.length m.vals.length m.memo.length ra va ma) w w1):=(Kept.ofBelow HB0.out).trans hk
 clear hwm hk
 go_wp2
 go_ret
 exact ⟨rfl,HW1.out,HK1.out⟩
theorem heldJob (w:World) (st:Int) (m:Mc) (jr:ByteArray) (sy:Int) (ra va ma:Option Addr) (rc vc mc:Nat) (hB:Bools w ra (markB m.row.length 1)) (hI:Ints w va (marks m.vals.length ((1+m.row.length:Nat):Int))) (hM:Sns w ma (markS m.memo.length (1+m.row.length+m.vals.length))) (hr:m.row.length<=1048576) (hv:m.vals.length<=1048576) (hm:m.memo.length<=1048576) :
 Calls Tryz.prog 10 #[jval st m jr sy ra va ma rc vc mc,.int .i64 1] w fun e w'=>e=.returned (.int .i64 (lastM m:Int))/\Below w.heap.size w w':=by
 obtain ⟨W0,hW0⟩:∃ W0,W0=w.alloc (.cells #[.int .i64 st,.slice ra m.row.length rc,.int .i64 m.N,.string m.S,.int .i64 m.room,.slice va m.vals.length vc,.int .i64 m.ret,.bool m.over,.int .i64 m.steps,.int .i64 m.looks,.int .i64 m.hits,.slice ma m.memo.length mc,.string jr,.int .i64 sy] 37):=⟨_,rfl⟩
 have HE0:Hid (w.alloc (.cells #[.int .i64 st,.slice ra m.row.length rc,.int .i64 m.N,.string m.S,.int .i64 m.room,.slice va m.vals.length vc,.int .i64 m.ret,.bool m.over,.int .i64 m.steps,.int .i64 m.looks,.int .i64 m.hits,.slice ma m.memo.length mc,.string jr,.int .i64 sy] 37)=W0):=hW0.symm
 have HB0:Hid (Below w.heap.size w W0):=by rw [hW0];exact (Below.refl _ _).alloc (Nat.le_refl _) _
 have HA0:Hid (Mf W0 w.heap.size [.int .i64 st,.slice ra m.row.length rc,.int .i64 m.N,.string m.S,.int .i64 m.room,.slice va m.vals.length vc,.int .i64 m.ret,.bool m.over,.int .i64 m.steps,.int .i64 m.looks,.int .i64 m.hits,.slice ma m.memo.length mc,.string jr,.int .i64 sy]):=by rw [hW0];exact Mf.made _ _ _
 have H1:Hid (Bools W0 ra (markB m.row.length 1)):=hB.below HB0.out
 have H2:Hid (Ints W0 va (marks m.vals.length ((1+m.row.length:Nat):Int))):=hI.below HB0.out
 have H3:Hid (Sns W0 ma (markS m.memo.length (1+m.row.length+m.vals.length))):=hM.below HB0.out
 clear hB hI hM
 clear hW0
 go_enter Tryz.func10,Tryz.ntmps10
 go_upto_region 1 with fail
 rw [HE0.out]
 clear HE0
 obtain ⟨c0,c1,c2,c3,c4,c5,c6,c7,c8,c9,c10,c11,c12,c13,y0,y1,y2,y3,y4,y5,y6,y7,y8,y9,y10,y11,y12,y13⟩:=Jz.of HA0.out
 go_wp2_with fail
 clear c0 c1 c2 c3 c4 c5 c6 c7 c8 c9 c10 c11 c12 c13 y0 y1 y2 y3 y4 y5 y6 y7 y8 y9 y10 y11 y12 y13
 refine (heldMachine _ m _ _ _ _ _ _ H1.out H2.out H3.out hr hv hm).mono ?_
 rintro e w1 ⟨rfl,hb⟩
 have HB1:Hid (Below w.heap.size w w1):=HB0.out.trans (hb.mono HB0.out.size)
 have hneg:¬ (lastM m:Int) < 0:=by omega
 clear hb
 go_wp2
 go_ret
 exact ⟨rfl,HB1.out⟩
end Jk1
namespace Je8
open Go.RowKit
open Nd0 (Kept At lt_of_cell)
open Mm0 Mx0 Mu2 Mw20 Mw21 Mk3 Jb0 Jb3 Je0 Je1 Je2 Je3 Je4 Je5 Je6 Je7 Tk0
open Mm2 (mokB)
open Tc2 (sInT)
theorem sJobEndOf (w:World) (st s1:Int) (m M:Mc) (jr:ByteArray) (sy cd:Int) (ra va ma:Option Addr) (rc vc mc:Nat) (hcall:∀ W,Below w.heap.size w W->Calls Tryz.prog 12 #[jval st m jr sy ra va ma rc vc mc,.agg #[.int .i64 1,.int .i64 100000,.string ⟨#[]⟩]] W (JOut W s1 M jr sy cd)) :
 Calls Tryz.prog 5 #[jval st m jr sy ra va ma rc vc mc] w (JOut w s1 M jr sy cd):=by
 have HC:Hid (∀ W,Below w.heap.size w W->Calls Tryz.prog 12 #[jval st m jr sy ra va ma rc vc mc,.agg #[.int .i64 1,.int .i64 100000,.string ⟨#[]⟩]] W (JOut W s1 M jr sy cd)):=hcall
 clear hcall
 obtain ⟨W0,hW0⟩:∃ W0,W0=((w.alloc (.cells #[.int .i64 st,.slice ra m.row.length rc,.int .i64 m.N,.string m.S,.int .i64 m.room,.slice va m.vals.length vc,.int .i64 m.ret,.bool m.over,.int .i64 m.steps,.int .i64 m.looks,.int .i64 m.hits,.slice ma m.memo.length mc,.string jr,.int .i64 sy] 37)).alloc (.cells #[.int .i64 0,.slice none 0 0,.int .i64 0,.string ⟨#[]⟩,.int .i64 0,.slice none 0 0,.int .i64 0,.bool false,.int .i64 0,.int .i64 0,.int .i64 0,.slice none 0 0,.string ⟨#[]⟩,.int .i64 0] 37)):=⟨_,rfl⟩
 have HE0:Hid (((w.alloc (.cells #[.int .i64 st,.slice ra m.row.length rc,.int .i64 m.N,.string m.S,.int .i64 m.room,.slice va m.vals.length vc,.int .i64 m.ret,.bool m.over,.int .i64 m.steps,.int .i64 m.looks,.int .i64 m.hits,.slice ma m.memo.length mc,.string jr,.int .i64 sy] 37)).alloc (.cells #[.int .i64 0,.slice none 0 0,.int .i64 0,.string ⟨#[]⟩,.int .i64 0,.slice none 0 0,.int .i64 0,.bool false,.int .i64 0,.int .i64 0,.int .i64 0,.slice none 0 0,.string ⟨#[]⟩,.int .i64 0] 37))=W0):=hW0.symm
 have HB0:Hid (Below w.heap.size w W0):=by rw [hW0];exact ((Below.refl _ _).alloc (Nat.le_refl _) _).alloc (by simp) _
 have HA0:Hid (Mf W0 w.heap.size [.int .i64 st,.slice ra m.row.length rc,.int .i64 m.N,.string m.S,.int .i64 m.room,.slice va m.vals.length vc,.int .i64 m.ret,.bool m.over,.int .i64 m.steps,.int .i64 m.looks,.int .i64 m.hits,.slice ma m.memo.length mc,.string jr,.int .i64 sy]):=by rw [hW0];exact (Mf.made _ _ _).alloc _
 have HZ0:Hid (Mf W0 (w.heap.size+1) [.int .i64 0,.slice none 0 0,.int .i64 0,.string ⟨#[]⟩,.int .i64 0,.slice none 0 0,.int .i64 0,.bool false,.int .i64 0,.int .i64 0,.int .i64 0,.slice none 0 0,.string ⟨#[]⟩,.int .i64 0]):=by
  have h1:=Mf.made (w.alloc (.cells #[.int .i64 st,.slice ra m.row.length rc,.int .i64 m.N,.string m.S,.int .i64 m.room,.slice va m.vals.length vc,.int .i64 m.ret,.bool m.over,.int .i64 m.steps,.int .i64 m.looks,.int .i64 m.hits,.slice ma m.memo.length mc,.string jr,.int .i64 sy] 37)) #[.int .i64 0,.slice none 0 0,.int .i64 0,.string ⟨#[]⟩,.int .i64 0,.slice none 0 0,.int .i64 0,.bool false,.int .i64 0,.int .i64 0,.int .i64 0,.slice none 0 0,.string ⟨#[]⟩,.int .i64 0] 37
  have h2:(w.alloc (.cells #[.int .i64 st,.slice ra m.row.length rc,.int .i64 m.N,.string m.S,.int .i64 m.room,.slice va m.vals.length vc,.int .i64 m.ret,.bool m.over,.int .i64 m.steps,.int .i64 m.looks,.int .i64 m.hits,.slice ma m.memo.length mc,.string jr,.int .i64 sy] 37)).heap.size=w.heap.size+1:=by simp
  rw [h2,<- hW0] at h1
  exact h1
 have HS0:Hid (W0.heap.size=w.heap.size+2):=by show _=_;rw [hW0];simp
 clear hW0
 go_enter Tryz.func5,Tryz.ntmps5
 go_upto_region 1 with fail
 rw [HE0.out]
 clear HE0
 obtain ⟨c0,c1,c2,c3,c4,c5,c6,c7,c8,c9,c10,c11,c12,c13,y0,y1,y2,y3,y4,y5,y6,y7,y8,y9,y10,y11,y12,y13⟩:=Jz.of HA0.out
 go_wp2_with fail
 clear c0 c1 c2 c3 c4 c5 c6 c7 c8 c9 c10 c11 c12 c13 y0 y1 y2 y3 y4 y5 y6 y7 y8 y9 y10 y11 y12 y13 HA0
 refine (HC.out _ HB0.out).mono ?_
 rintro e y4 ⟨ta,tv,tm,tc,td,te,rfl,hg,hb⟩
 have HG4:Hid (Rg y4 W0.heap.size y4.heap.size M ta tv tm):=hg
 have HZ4:Hid (Mf y4 (w.heap.size+1) [.int .i64 0,.slice none 0 0,.int .i64 0,.string ⟨#[]⟩,.int .i64 0,.slice none 0 0,.int .i64 0,.bool false,.int .i64 0,.int .i64 0,.int .i64 0,.slice none 0 0,.string ⟨#[]⟩,.int .i64 0]):=HZ0.out.below hb
 have HB4:Hid (Below w.heap.size w y4):=HB0.out.trans (hb.mono HB0.out.size)
 clear hg hb HZ0 HB0
 obtain ⟨c0,c1,c2,c3,c4,c5,c6,c7,c8,c9,c10,c11,c12,c13,x0,x1,x2,x3,x4,x5,x6,x7,x8,x9,x10,x11,x12,x13⟩:=Jz.of HZ4.out
 go_wp2
 clear c0 c1 c2 c3 c4 c5 c6 c7 c8 c9 c10 c11 c12 c13 x0 x1 x2 x3 x4 x5 x6 x7 x8 x9 x10 x11 x12 x13
 obtain ⟨WF,hWF⟩:∃ WF,WF=((((((((((((((y4).setCell ⟨w.heap.size+1,0,none⟩ (.int .i64 s1)).setCell ⟨w.heap.size+1,1,none⟩ (.slice ta M.row.length tc)).setCell ⟨w.heap.size+1,2,none⟩ (.int .i64 M.N)).setCell ⟨w.heap.size+1,3,none⟩ (.string M.S)).setCell ⟨w.heap.size+1,4,none⟩ (.int .i64 M.room)).setCell ⟨w.heap.size+1,5,none⟩ (.slice tv M.vals.length td)).setCell ⟨w.heap.size+1,6,none⟩ (.int .i64 M.ret)).setCell ⟨w.heap.size+1,7,none⟩ (.bool M.over)).setCell ⟨w.heap.size+1,8,none⟩ (.int .i64 M.steps)).setCell ⟨w.heap.size+1,9,none⟩ (.int .i64 M.looks)).setCell ⟨w.heap.size+1,10,none⟩ (.int .i64 M.hits)).setCell ⟨w.heap.size+1,11,none⟩ (.slice tm M.memo.length te)).setCell ⟨w.heap.size+1,12,none⟩ (.string jr)).setCell ⟨w.heap.size+1,13,none⟩ (.int .i64 sy):=⟨_,rfl⟩
 rw [<- hWF]
 have KF:Kept (fun b=>b=w.heap.size+1) y4 WF:=by rw [hWF];exact ((((((((((((((Kept.refl (fun b=>b=w.heap.size+1) y4).setCell (p:=⟨w.heap.size+1,0,none⟩) (rfl) _).setCell (p:=⟨w.heap.size+1,1,none⟩) (rfl) _).setCell (p:=⟨w.heap.size+1,2,none⟩) (rfl) _).setCell (p:=⟨w.heap.size+1,3,none⟩) (rfl) _).setCell (p:=⟨w.heap.size+1,4,none⟩) (rfl) _).setCell (p:=⟨w.heap.size+1,5,none⟩) (rfl) _).setCell (p:=⟨w.heap.size+1,6,none⟩) (rfl) _).setCell (p:=⟨w.heap.size+1,7,none⟩) (rfl) _).setCell (p:=⟨w.heap.size+1,8,none⟩) (rfl) _).setCell (p:=⟨w.heap.size+1,9,none⟩) (rfl) _).setCell (p:=⟨w.heap.size+1,10,none⟩) (rfl) _).setCell (p:=⟨w.heap.size+1,11,none⟩) (rfl) _).setCell (p:=⟨w.heap.size+1,12,none⟩) (rfl) _).setCell (p:=⟨w.heap.size+1,13,none⟩) (rfl) _
 have HF:Mf WF (w.heap.size+1) [.int .i64 s1,.slice ta M.row.length tc,.int .i64 M.N,.string M.S,.int .i64 M.room,.slice tv M.vals.length td,.int .i64 M.ret,.bool M.over,.int .i64 M.steps,.int .i64 M.looks,.int .i64 M.hits,.slice tm M.memo.length te,.string jr,.int .i64 sy]:=by rw [hWF];exact ((((((((((((((HZ4.out).set 0 (.int .i64 s1)).set 1 (.slice ta M.row.length tc)).set 2 (.int .i64 M.N)).set 3 (.string M.S)).set 4 (.int .i64 M.room)).set 5 (.slice tv M.vals.length td)).set 6 (.int .i64 M.ret)).set 7 (.bool M.over)).set 8 (.int .i64 M.steps)).set 9 (.int .i64 M.looks)).set 10 (.int .i64 M.hits)).set 11 (.slice tm M.memo.length te)).set 12 (.string jr)).set 13 (.int .i64 sy)
 obtain ⟨c0,c1,c2,c3,c4,c5,c6,c7,c8,c9,c10,c11,c12,c13,x0,x1,x2,x3,x4,x5,x6,x7,x8,x9,x10,x11,x12,x13⟩:=Jz.of HF
 clear hWF HF
 have s0:=HS0.out
 have hg:=HG4.out.kept KF (fun b h1 h2 h3=>by omega)
 have fb:Below w.heap.size w WF:=HB4.out.trans (KF.below (fun b hb=>by omega) HB4.out.size)
 refine bodyPost_ret (v:=.tuple #[jval s1 M jr sy ta tv tm tc td te,.int .i64 cd]) (by simp [results,Tryz.results5,go_sem,c0,c1,c2,c3,c4,c5,c6,c7,c8,c9,c10,c11,c12,c13]) rfl ⟨_,_,_,_,_,_,rfl,rg_mono hg (by omega) KF.size,fb⟩
theorem bEnd (st:Int) (m:Mc) (jr:ByteArray) (sy:Int) (hr:m.row.length<=1048576) (hS:m.S.size<=1048576) (hv:m.vals.length<=1048576) (hm:m.memo.length<=1048576) (hk:∀ x∈m.memo,x.k.size<=maxLen) (hJ:jr.size<=1048576) :
 ∃ (s1:Int) (M:Mc) (cd:Int),Short M/\(∀ (W:World) ra va ma rc vc mc,Mr W m ra va ma->Calls Tryz.prog 5 #[jval st m jr sy ra va ma rc vc mc] W (JOut W s1 M jr sy cd)) /\
  (∀ (W:World) ra va ma rc vc mc,TabK W->Mr W m ra va ma->Calls Tryz.prog 7 #[jval st m jr sy ra va ma rc vc mc] W (JOut W s1 M jr sy cd)):=by
 by_cases h:jokB st m jr sy=true/\st=1
 ·obtain ⟨hok,rfl⟩:=h
  obtain ⟨M,hsh,hsp,him⟩:=bRun m 100000 hr hS hv hm hk
  refine ⟨if M.over then 2 else 1,M,0,hsh,fun W ra va ma rc vc mc hR=>?_,fun W ra va ma rc vc mc hT hR=>?_⟩
  ·exact sJobEndOf W 1 _ m M jr sy 0 _ _ _ _ _ _ fun V hb=>sDoGo V _ m M jr sy _ _ _ _ _ _ (hR.below hb) hr hv hm (fun U ra va ma rc vc mc hU=>by
    have:=sJobOk U 1 m jr sy ra va ma rc vc mc hU hS hJ
    rwa [hok] at this) rfl hsp
  ·exact iJobEndOf W 1 _ m M jr sy 0 _ _ _ _ _ _ fun V hb=>iJobDo V 1 _ m M jr sy 0 _ _ _ _ _ _ (hR.below hb) hr hv hm hsh (hT.below hb) fun U p ra va ma rc vc mc hT2 hT3 hf hM=>iDoB U p _ m M jr sy _ _ _ _ _ _ hf hM hS hk hJ hok hT3 rfl him
 ·refine ⟨st,m,5,⟨hr,hv,hm⟩,fun W ra va ma rc vc mc hR=>?_,fun W ra va ma rc vc mc hT hR=>?_⟩
  ·refine sJobEndOf W st _ m m jr sy 5 _ _ _ _ _ _ fun V hb=>?_
   have hjk:∀ (U:World) ra va ma rc vc mc,Mr U m ra va ma->Calls Tryz.prog 23 #[jval st m jr sy ra va ma rc vc mc] U fun e w'=>e=.returned (.bool (jokB st m jr sy))/\Below U.heap.size U w':=fun U ra va ma rc vc mc hU=>sJobOk U st m jr sy ra va ma rc vc mc hU hS hJ
   cases e:jokB st m jr sy
   ·rw [e] at hjk
    exact sDoNo V st m jr sy _ _ _ _ _ _ (hR.below hb) hr hv hm hjk
   ·rw [e] at hjk
    exact sDoNo1 V st m jr sy _ _ _ _ _ _ (hR.below hb) hr hv hm hjk (fun h2=>h ⟨e,h2⟩)
  ·exact iJobEndOf W st _ m m jr sy 5 _ _ _ _ _ _ fun V hb=>iJobDo V st _ m m jr sy 5 _ _ _ _ _ _ (hR.below hb) hr hv hm ⟨hr,hv,hm⟩ (hT.below hb) fun U p ra va ma rc vc mc hT2 hT3 hf hM=>iDoA U p st m jr sy _ _ _ _ _ _ hf hM hS hk hJ h
end Je8
end Go.Proofs.YtladjpombohpaaaGreatDoor
