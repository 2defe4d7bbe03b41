import Derived.Test.YtladjpombohpaaaGreatDoorPkJN2
namespace Go.Proofs.YtladjpombohpaaaGreatDoor
set_option maxRecDepth 100000
set_option maxHeartbeats 8000000
set_option linter.unusedVariables false
namespace Je4
open Go.RowKit
open Nd0 (Kept At lt_of_cell)
open Qc0 Mm0 Mx0 Mu2 Mw20 Mw21 Mk3 Jb0 Jb3 Je0 Je1 Je2 Je3 Jl0 Tk0
open Mm2 (mokB)
theorem wm_mono {W:World} {B B':Nat} {row:List Bool} {vals:List Int} {memo:List Sn} {ra va ma:Option Addr} (h:Wm W B row vals memo ra va ma) (hB:B'<=B):Wm W B' row vals memo ra va ma :=
 ⟨⟨h.row.1,h.row.2.imp id fun ⟨b,o,e,hb,r⟩=>⟨b,o,e,Nat.le_trans hB hb,r⟩⟩,⟨h.vals.1,h.vals.2.imp id fun ⟨b,o,e,hb,r⟩=>⟨b,o,e,Nat.le_trans hB hb,r⟩⟩,⟨h.memo.1,h.memo.2.imp id fun ⟨b,o,e,hb,r⟩=>⟨b,o,e,Nat.le_trans hB hb,r⟩⟩⟩
theorem rg_mono {W:World} {B B' U U':Nat} {m:Mc} {ra va ma:Option Addr} (h:Rg W B U m ra va ma) (hB:B'<=B) (hU:U<=U'):Rg W B' U' m ra va ma:=⟨wm_mono h.wm hB,fun b hb=>Nat.lt_of_lt_of_le (h.lt b hb) hU,h.ax⟩
/-- What a call about a job comes to. -/
def JOut (W:World) (st:Int) (M:Mc) (jr:ByteArray) (sy cd:Int) (e:Ending) (w':World):Prop:=∃ ra va ma rc vc mc,e=.returned (.tuple #[jval st M jr sy ra va ma rc vc mc,.int .i64 cd])/\Rg w' W.heap.size w'.heap.size M ra va ma/\Below W.heap.size W w'
/-- What do comes to. -/
def DoP (W:World) (p:Nat) (s1:Int) (M:Mc) (jr:ByteArray) (sy cd:Int) (e:Ending) (w':World):Prop:=∃ er wa wv wm wc wd we,e=.returned er/\(∀ V:World,Calls Tryz.prog 37 #[er] V fun e w'=>e=.returned (.int .i64 cd)/\Below V.heap.size V w')/\Mf w' p [.int .i32 0,.int .u32 0,.int .i64 s1,.slice wa M.row.length wc,.int .i64 M.N,.string M.S,.int .i64 M.room,.slice wv M.vals.length wd,.int .i64 M.ret,.bool M.over,.int .i64 M.steps,.int .i64 M.looks,.int .i64 M.hits,.slice wm M.memo.length we,.string jr,.int .i64 sy]/\(∀ W',Kept (fun b=>b=p) w' W'->Mr W' M wa wv wm)/\Kept (fun b=>b=p) W w'
theorem iDoA (w:World) (p:Nat) (st:Int) (m:Mc) (jr:ByteArray) (sy:Int) (ra va ma:Option Addr) (rc vc mc:Nat) (hK:Mf w p [.int .i32 0,.int .u32 0,.int .i64 st,.slice ra m.row.length rc,.int .i64 m.N,.string m.S,.int .i64 m.room,.slice va m.vals.length vc,.int .i64 m.ret,.bool m.over,.int .i64 m.steps,.int .i64 m.looks,.int .i64 m.hits,.slice ma m.memo.length mc,.string jr,.int .i64 sy]) (hM:(∀ W',Kept (fun b=>b=p) w W'->Mr W' m ra va ma)) (hS:m.S.size<=1048576) (hk:∀ x∈m.memo,x.k.size<=maxLen) (hJ:jr.size<=1048576) (hno:¬ (jokB st m jr sy=true/\st=1)) :
 Calls Tryz.prog 35 #[.pointer (some ⟨p,0,none⟩),.agg #[.int .i64 1,.int .i64 100000,.string ⟨#[]⟩]] w (DoP w p st m jr sy 5):=by
 have hj:∀ W:World,Kept (fun b=>b=p) w W->Calls Tryz.prog 68 #[jval st m jr sy ra va ma rc vc mc] W fun e w'=>e=.returned (.bool (jokB st m jr sy))/\Below W.heap.size W w':=fun W hb=>iJobOk W st m jr sy _ _ _ _ _ _ (hM W hb) hS hk hJ
 cases e:jokB st m jr sy
 ·rw [e] at hj
  refine (iDoNo w p st m jr sy _ _ _ _ _ _ hK hj).mono ?_
  rintro _ w' ⟨⟨x,rfl⟩,hf,hke⟩
  exact ⟨_,_,_,_,_,_,_,rfl,iCode5 x,hf,fun W' h=>hM W' (hke.trans h),hke⟩
 ·have hst:st≠1:=fun h=>hno ⟨e,h⟩
  rw [e] at hj
  refine (iDoGo (fun er L W=>(∃ x,er=rf x 5)/\L=[.int .i64 st,.slice ra m.row.length rc,.int .i64 m.N,.string m.S,.int .i64 m.room,.slice va m.vals.length vc,.int .i64 m.ret,.bool m.over,.int .i64 m.steps,.int .i64 m.looks,.int .i64 m.hits,.slice ma m.memo.length mc,.string jr,.int .i64 sy]/\∀ W',Kept (fun b=>b=p) W W'->Mr W' m ra va ma) w p st m jr sy _ _ _ _ _ _ hK hj (fun W hb hKW=>(iStepNo W p st m jr sy _ _ _ _ _ _ hKW hst).mono (by
   rintro _ w' ⟨⟨x,rfl⟩,rfl⟩
   exact ⟨_,_,rfl,⟨⟨x,rfl⟩,rfl,fun W' h=>hM W' (hb.trans h)⟩,hKW,Kept.refl _ _⟩)) (fun er L W W' h hR=>⟨hR.1,hR.2.1,fun V hV=>hR.2.2 V (h.trans hV)⟩)).mono ?_
  rintro _ w' ⟨er,L,rfl,⟨⟨x,rfl⟩,rfl,hmr⟩,hf,hke⟩
  exact ⟨_,_,_,_,_,_,_,rfl,iCode5 x,hf,hmr,hke⟩
theorem iDoB (w:World) (p:Nat) (s1:Int) (m M:Mc) (jr:ByteArray) (sy:Int) (ra va ma:Option Addr) (rc vc mc:Nat) (hK:Mf w p [.int .i32 0,.int .u32 0,.int .i64 1,.slice ra m.row.length rc,.int .i64 m.N,.string m.S,.int .i64 m.room,.slice va m.vals.length vc,.int .i64 m.ret,.bool m.over,.int .i64 m.steps,.int .i64 m.looks,.int .i64 m.hits,.slice ma m.memo.length mc,.string jr,.int .i64 sy]) (hM:(∀ W',Kept (fun b=>b=p) w W'->Mr W' m ra va ma)) (hS:m.S.size<=1048576) (hk:∀ x∈m.memo,x.k.size<=maxLen) (hJ:jr.size<=1048576) (hok:jokB 1 m jr sy=true) (hT:∀ W',Kept (fun b=>b=p) w W'->TabK W') (hs:s1=(if M.over then 2 else 1)) (hrun:(∀ (W:World) ra va ma rc vc mc,TabK W->Mr W m ra va ma->Calls Tryz.prog 115 #[mval m ra va ma rc vc mc,.int .i64 100000] W (Out W M))) :
 Calls Tryz.prog 35 #[.pointer (some ⟨p,0,none⟩),.agg #[.int .i64 1,.int .i64 100000,.string ⟨#[]⟩]] w (DoP w p s1 M jr sy 0):=by
 have hpw:p < w.heap.size:=hK.lt (by simp)
 have hj:∀ W:World,Kept (fun b=>b=p) w W->Calls Tryz.prog 68 #[jval 1 m jr sy ra va ma rc vc mc] W fun e w'=>e=.returned (.bool true)/\Below W.heap.size W w':=fun W hb=>by
  have:=iJobOk W 1 m jr sy _ _ _ rc vc mc (hM W hb) hS hk hJ
  rwa [hok] at this
 refine (iDoGo (fun er L W=>er=.nilIface/\∃ wa wv wm wc wd we,L=[.int .i64 s1,.slice wa M.row.length wc,.int .i64 M.N,.string M.S,.int .i64 M.room,.slice wv M.vals.length wd,.int .i64 M.ret,.bool M.over,.int .i64 M.steps,.int .i64 M.looks,.int .i64 M.hits,.slice wm M.memo.length we,.string jr,.int .i64 sy]/\Rg W w.heap.size W.heap.size M wa wv wm) w p 1 m jr sy _ _ _ _ _ _ hK hj (fun W hb hKW=>(iStepGo W p s1 m M jr sy _ _ _ _ _ _ hKW (hM W hb) (hT W hb) hs hrun).mono (by
  rintro _ w' ⟨rfl,⟨a,b,c,d,f,g,hf,hg⟩,hke⟩
  exact ⟨_,_,rfl,⟨rfl,a,b,c,d,f,g,rfl,rg_mono hg hb.size (Nat.le_refl _)⟩,hf,hke⟩)) (fun er L W W' h hR=>by
  obtain ⟨h1,a,b,c,d,f,g,h2,h3⟩:=hR
  exact ⟨h1,a,b,c,d,f,g,h2,rg_mono (h3.kept h (fun k q1 q2 q3=>by omega)) (Nat.le_refl _) h.size⟩)).mono ?_
 rintro _ w' ⟨er,L,rfl,⟨rfl,a,b,c,d,f,g,rfl,hg⟩,hf,hke⟩
 exact ⟨_,_,_,_,_,_,_,rfl,fun V=>(iCode0 V).mono (by rintro _ _ ⟨rfl,rfl⟩;exact ⟨rfl,Below.refl _ _⟩),hf,fun W' h=>(hg.kept h (fun k q1 q2 q3=>by omega)).wm.mr,hke⟩
theorem iJobDo (w:World) (st s1:Int) (m M:Mc) (jr:ByteArray) (sy cd:Int) (ra va ma:Option Addr) (rc vc mc:Nat) (hR:Mr w m ra va ma) (hr:m.row.length<=1048576) (hv:m.vals.length<=1048576) (hm:m.memo.length<=1048576) (hsh:Short M) (hT:TabK w)
 (hdo:∀ (W:World) p ra va ma rc vc mc,TabK W->(∀ W',Kept (fun b=>b=p) W W'->TabK W')->Mf W p [.int .i32 0,.int .u32 0,.int .i64 st,.slice ra m.row.length rc,.int .i64 m.N,.string m.S,.int .i64 m.room,.slice va m.vals.length vc,.int .i64 m.ret,.bool m.over,.int .i64 m.steps,.int .i64 m.looks,.int .i64 m.hits,.slice ma m.memo.length mc,.string jr,.int .i64 sy]->(∀ W',Kept (fun b=>b=p) W W'->Mr W' m ra va ma)->Calls Tryz.prog 35 #[.pointer (some ⟨p,0,none⟩),.agg #[.int .i64 1,.int .i64 100000,.string ⟨#[]⟩]] W (DoP W p s1 M jr sy cd)) :
 Calls Tryz.prog 14 #[jval st m jr sy ra va ma rc vc mc,.agg #[.int .i64 1,.int .i64 100000,.string ⟨#[]⟩]] w (JOut w s1 M jr sy cd):=by
 have HR:Hid (Mr w m ra va ma):=hR
 have HT:Hid (TabK w):=hT
 have HSH:Hid (Short M):=hsh
 have HDO:Hid (∀ (W:World) p ra va ma rc vc mc,TabK W->(∀ W',Kept (fun b=>b=p) W W'->TabK W')->Mf W p [.int .i32 0,.int .u32 0,.int .i64 st,.slice ra m.row.length rc,.int .i64 m.N,.string m.S,.int .i64 m.room,.slice va m.vals.length vc,.int .i64 m.ret,.bool m.over,.int .i64 m.steps,.int .i64 m.looks,.int .i64 m.hits,.slice ma m.memo.length mc,.string jr,.int .i64 sy]->(∀ W',Kept (fun b=>b=p) W W'->Mr W' m ra va ma)->Calls Tryz.prog 35 #[.pointer (some ⟨p,0,none⟩),.agg #[.int .i64 1,.int .i64 100000,.string ⟨#[]⟩]] W (DoP W p s1 M jr sy cd)):=hdo
 clear hR hT hdo hsh
 obtain ⟨y0,hy0⟩:∃ y0,y0=(((w.alloc (.cells #[.int .i64 st,.slice ra m.row.length rc,.int .i64 m.N,.string m.S,.int .i64 m.room,.slice va m.vals.length vc,.int .i64 m.ret,.bool m.over,.int .i64 m.steps,.int .i64 m.looks,.int .i64 m.hits,.slice ma m.memo.length mc,.string jr,.int .i64 sy] 37)).alloc (.cells #[.int .i64 1,.int .i64 100000,.string ⟨#[]⟩] 47)).alloc (.cells #[.int .i64 0,.slice none 0 0,.int .i64 0,.string ⟨#[]⟩,.int .i64 0,.slice none 0 0,.int .i64 0,.bool false,.int .i64 0,.int .i64 0,.int .i64 0,.slice none 0 0,.string ⟨#[]⟩,.int .i64 0] 37)):=⟨_,rfl⟩
 have HW0:Hid ((((w.alloc (.cells #[.int .i64 st,.slice ra m.row.length rc,.int .i64 m.N,.string m.S,.int .i64 m.room,.slice va m.vals.length vc,.int .i64 m.ret,.bool m.over,.int .i64 m.steps,.int .i64 m.looks,.int .i64 m.hits,.slice ma m.memo.length mc,.string jr,.int .i64 sy] 37)).alloc (.cells #[.int .i64 1,.int .i64 100000,.string ⟨#[]⟩] 47)).alloc (.cells #[.int .i64 0,.slice none 0 0,.int .i64 0,.string ⟨#[]⟩,.int .i64 0,.slice none 0 0,.int .i64 0,.bool false,.int .i64 0,.int .i64 0,.int .i64 0,.slice none 0 0,.string ⟨#[]⟩,.int .i64 0] 37))=y0):=hy0.symm
 have s1:(w.alloc (.cells #[.int .i64 st,.slice ra m.row.length rc,.int .i64 m.N,.string m.S,.int .i64 m.room,.slice va m.vals.length vc,.int .i64 m.ret,.bool m.over,.int .i64 m.steps,.int .i64 m.looks,.int .i64 m.hits,.slice ma m.memo.length mc,.string jr,.int .i64 sy] 37)).heap.size=w.heap.size+1:=by simp
 have s2:((w.alloc (.cells #[.int .i64 st,.slice ra m.row.length rc,.int .i64 m.N,.string m.S,.int .i64 m.room,.slice va m.vals.length vc,.int .i64 m.ret,.bool m.over,.int .i64 m.steps,.int .i64 m.looks,.int .i64 m.hits,.slice ma m.memo.length mc,.string jr,.int .i64 sy] 37)).alloc (.cells #[.int .i64 1,.int .i64 100000,.string ⟨#[]⟩] 47)).heap.size=w.heap.size+1+1:=by simp
 have HA0:Hid (Mf y0 w.heap.size [.int .i64 st,.slice ra m.row.length rc,.int .i64 m.N,.string m.S,.int .i64 m.room,.slice va m.vals.length vc,.int .i64 m.ret,.bool m.over,.int .i64 m.steps,.int .i64 m.looks,.int .i64 m.hits,.slice ma m.memo.length mc,.string jr,.int .i64 sy]):=by rw [hy0];exact ((Mf.made _ _ _).alloc _).alloc _
 have HO0:Hid (Mf y0 (w.heap.size+1) [.int .i64 1,.int .i64 100000,.string ⟨#[]⟩]):=by
  have h1:=(Mf.made (w.alloc (.cells #[.int .i64 st,.slice ra m.row.length rc,.int .i64 m.N,.string m.S,.int .i64 m.room,.slice va m.vals.length vc,.int .i64 m.ret,.bool m.over,.int .i64 m.steps,.int .i64 m.looks,.int .i64 m.hits,.slice ma m.memo.length mc,.string jr,.int .i64 sy] 37)) #[.int .i64 1,.int .i64 100000,.string ⟨#[]⟩] 47).alloc (.cells #[.int .i64 0,.slice none 0 0,.int .i64 0,.string ⟨#[]⟩,.int .i64 0,.slice none 0 0,.int .i64 0,.bool false,.int .i64 0,.int .i64 0,.int .i64 0,.slice none 0 0,.string ⟨#[]⟩,.int .i64 0] 37)
  rw [s1,<- hy0] at h1
  exact h1
 have HZ0:Hid (Mf y0 (w.heap.size+1+1) [.int .i64 0,.slice none 0 0,.int .i64 0,.string ⟨#[]⟩,.int .i64 0,.slice none 0 0,.int .i64 0,.bool false,.int .i64 0,.int .i64 0,.int .i64 0,.slice none 0 0,.string ⟨#[]⟩,.int .i64 0]):=by
  have h1:=Mf.made ((w.alloc (.cells #[.int .i64 st,.slice ra m.row.length rc,.int .i64 m.N,.string m.S,.int .i64 m.room,.slice va m.vals.length vc,.int .i64 m.ret,.bool m.over,.int .i64 m.steps,.int .i64 m.looks,.int .i64 m.hits,.slice ma m.memo.length mc,.string jr,.int .i64 sy] 37)).alloc (.cells #[.int .i64 1,.int .i64 100000,.string ⟨#[]⟩] 47)) #[.int .i64 0,.slice none 0 0,.int .i64 0,.string ⟨#[]⟩,.int .i64 0,.slice none 0 0,.int .i64 0,.bool false,.int .i64 0,.int .i64 0,.int .i64 0,.slice none 0 0,.string ⟨#[]⟩,.int .i64 0] 37
  rw [s2,<- hy0] at h1
  exact h1
 have HS0:Hid (y0.heap.size=w.heap.size+3):=by show _=_;rw [hy0];simp
 have HB0:Hid (Below w.heap.size w y0):=by rw [hy0];exact (((Below.refl _ _).alloc (Nat.le_refl _) _).alloc (by simp) _).alloc (by simp;omega) _
 clear hy0 s1 s2
 go_enter Tryz.func14,Tryz.ntmps14
 go_upto_region 1 with fail
 rw [HW0.out]
 clear HW0
 obtain ⟨c0,c1,c2,c3,c4,c5,c6,c7,c8,c9,c10,c11,c12,c13,x0,x1,x2,x3,x4,x5,x6,x7,x8,x9,x10,x11,x12,x13⟩:=Jz.of HA0.out
 go_wp2_with fail
 clear c0 c1 c2 c3 c4 c5 c6 c7 c8 c9 c10 c11 c12 c13 x0 x1 x2 x3 x4 x5 x6 x7 x8 x9 x10 x11 x12 x13 HA0
 refine (iKeep _ st m jr sy _ _ _ _ _ _ (HR.out.below HB0.out) hr hv hm).mono ?_
 rintro e y1 ⟨p,ra',va',ma',rc',vc',mc',rfl,hf,hmr,hp,hb⟩
 have HF1:Hid (Mf y1 p [.int .i32 0,.int .u32 0,.int .i64 st,.slice ra' m.row.length rc',.int .i64 m.N,.string m.S,.int .i64 m.room,.slice va' m.vals.length vc',.int .i64 m.ret,.bool m.over,.int .i64 m.steps,.int .i64 m.looks,.int .i64 m.hits,.slice ma' m.memo.length mc',.string jr,.int .i64 sy]):=hf
 have HM1:Hid (∀ W',Kept (fun b=>b=p) y1 W'->Mr W' m ra' va' ma'):=hmr
 have HO1:Hid (Mf y1 (w.heap.size+1) [.int .i64 1,.int .i64 100000,.string ⟨#[]⟩]):=HO0.out.below hb
 have HZ1:Hid (Mf y1 (w.heap.size+1+1) [.int .i64 0,.slice none 0 0,.int .i64 0,.string ⟨#[]⟩,.int .i64 0,.slice none 0 0,.int .i64 0,.bool false,.int .i64 0,.int .i64 0,.int .i64 0,.slice none 0 0,.string ⟨#[]⟩,.int .i64 0]):=HZ0.out.below hb
 have HB1:Hid (Below w.heap.size w y1):=HB0.out.trans (hb.mono HB0.out.size)
 have hpp:w.heap.size+3<=p:=by rw [<- HS0.out];exact hp
 clear hf hmr hp hb HO0 HZ0 HS0 HB0
 obtain ⟨o0,o1,o2⟩:y1.cell? ⟨w.heap.size+1,0,none⟩=some (.int .i64 1)/\y1.cell? ⟨w.heap.size+1,1,none⟩=some (.int .i64 100000)/\y1.cell? ⟨w.heap.size+1,2,none⟩=some (.string ⟨#[]⟩):=⟨(HO1.out 0 (by simp)).1,(HO1.out 1 (by simp)).1,(HO1.out 2 (by simp)).1⟩
 go_wp2_with fail
 clear o0 o1 o2
 refine (HDO.out y1 p _ _ _ _ _ _ (HT.out.below HB1.out) (fun W' h=>HT.out.below (HB1.out.trans (h.below (fun k hk=>by omega) HB1.out.size))) HF1.out HM1.out).mono ?_
 rintro e y2 ⟨er,wa,wv,wm,wc,wd,we,rfl,hcd,hf,hmr,hk⟩
 have HC2:Hid (∀ V:World,Calls Tryz.prog 37 #[er] V fun e w'=>e=.returned (.int .i64 cd)/\Below V.heap.size V w'):=hcd
 have HF2:Hid (Mf y2 p [.int .i32 0,.int .u32 0,.int .i64 s1,.slice wa M.row.length wc,.int .i64 M.N,.string M.S,.int .i64 M.room,.slice wv M.vals.length wd,.int .i64 M.ret,.bool M.over,.int .i64 M.steps,.int .i64 M.looks,.int .i64 M.hits,.slice wm M.memo.length we,.string jr,.int .i64 sy]):=hf
 have HM2:Hid (∀ W',Kept (fun b=>b=p) y2 W'->Mr W' M wa wv wm):=hmr
 have HZ2:Hid (Mf y2 (w.heap.size+1+1) [.int .i64 0,.slice none 0 0,.int .i64 0,.string ⟨#[]⟩,.int .i64 0,.slice none 0 0,.int .i64 0,.bool false,.int .i64 0,.int .i64 0,.int .i64 0,.slice none 0 0,.string ⟨#[]⟩,.int .i64 0]):=HZ1.out.kept hk (by omega)
 have HB2:Hid (Below w.heap.size w y2):=HB1.out.trans (hk.below (fun k hk=>by omega) HB1.out.size)
 clear hcd hf hmr hk HF1 HM1 HO1 HZ1 HB1
 go_wp2_with fail
 refine (iTold _ p s1 M jr sy _ _ _ _ _ _ HF2.out HM2.out HSH.out.1 HSH.out.2.1 HSH.out.2.2).mono ?_
 rintro e y3 ⟨ta,tv,tm,tc,td,te,rfl,hpo,hk⟩
 have HP3:Hid (PO y3 y2.heap.size M ta tv tm tc td te):=hpo
 have HZ3:Hid (Mf y3 (w.heap.size+1+1) [.int .i64 0,.slice none 0 0,.int .i64 0,.string ⟨#[]⟩,.int .i64 0,.slice none 0 0,.int .i64 0,.bool false,.int .i64 0,.int .i64 0,.int .i64 0,.slice none 0 0,.string ⟨#[]⟩,.int .i64 0]):=HZ2.out.kept hk (by omega)
 have HB3:Hid (Below w.heap.size w y3):=HB2.out.trans (hk.below (fun k hk=>by omega) HB2.out.size)
 have hs23:w.heap.size+3<=y2.heap.size:=by have:=HF2.out.lt (by simp);omega
 clear hpo hk HF2 HM2 HZ2
 go_wp2_with fail
 refine (HC2.out _).mono ?_
 rintro e y4 ⟨rfl,hb⟩
 have HP4:Hid (PO y4 y2.heap.size M ta tv tm tc td te):=HP3.out.below hb
 have HZ4:Hid (Mf y4 (w.heap.size+1+1) [.int .i64 0,.slice none 0 0,.int .i64 0,.string ⟨#[]⟩,.int .i64 0,.slice none 0 0,.int .i64 0,.bool false,.int .i64 0,.int .i64 0,.int .i64 0,.slice none 0 0,.string ⟨#[]⟩,.int .i64 0]):=HZ3.out.below hb
 have HB4:Hid (Below w.heap.size w y4):=HB3.out.trans (hb.mono HB3.out.size)
 clear hb HP3 HZ3 HB3 HB2 HC2
 obtain ⟨c0,c1,c2,c3,c4,c5,c6,c7,c8,c9,c10,c11,c12,c13,x0,x1,x2,x3,x4,x5,x6,x7,x8,x9,x10,x11,x12,x13⟩:=Jz.of HZ4.out
 go_wp2
 clear c0 c1 c2 c3 c4 c5 c6 c7 c8 c9 c10 c11 c12 c13 x0 x1 x2 x3 x4 x5 x6 x7 x8 x9 x10 x11 x12 x13
 obtain ⟨WF,hWF⟩:∃ WF,WF=((((((((((((((y4).setCell ⟨w.heap.size+1+1,0,none⟩ (.int .i64 s1)).setCell ⟨w.heap.size+1+1,1,none⟩ (.slice ta M.row.length tc)).setCell ⟨w.heap.size+1+1,2,none⟩ (.int .i64 M.N)).setCell ⟨w.heap.size+1+1,3,none⟩ (.string M.S)).setCell ⟨w.heap.size+1+1,4,none⟩ (.int .i64 M.room)).setCell ⟨w.heap.size+1+1,5,none⟩ (.slice tv M.vals.length td)).setCell ⟨w.heap.size+1+1,6,none⟩ (.int .i64 M.ret)).setCell ⟨w.heap.size+1+1,7,none⟩ (.bool M.over)).setCell ⟨w.heap.size+1+1,8,none⟩ (.int .i64 M.steps)).setCell ⟨w.heap.size+1+1,9,none⟩ (.int .i64 M.looks)).setCell ⟨w.heap.size+1+1,10,none⟩ (.int .i64 M.hits)).setCell ⟨w.heap.size+1+1,11,none⟩ (.slice tm M.memo.length te)).setCell ⟨w.heap.size+1+1,12,none⟩ (.string jr)).setCell ⟨w.heap.size+1+1,13,none⟩ (.int .i64 sy):=⟨_,rfl⟩
 rw [<- hWF]
 have KF:Kept (fun b=>b=w.heap.size+1+1) y4 WF:=by rw [hWF];exact ((((((((((((((Kept.refl (fun b=>b=w.heap.size+1+1) y4).setCell (p:=⟨w.heap.size+1+1,0,none⟩) (rfl) _).setCell (p:=⟨w.heap.size+1+1,1,none⟩) (rfl) _).setCell (p:=⟨w.heap.size+1+1,2,none⟩) (rfl) _).setCell (p:=⟨w.heap.size+1+1,3,none⟩) (rfl) _).setCell (p:=⟨w.heap.size+1+1,4,none⟩) (rfl) _).setCell (p:=⟨w.heap.size+1+1,5,none⟩) (rfl) _).setCell (p:=⟨w.heap.size+1+1,6,none⟩) (rfl) _).setCell (p:=⟨w.heap.size+1+1,7,none⟩) (rfl) _).setCell (p:=⟨w.heap.size+1+1,8,none⟩) (rfl) _).setCell (p:=⟨w.heap.size+1+1,9,none⟩) (rfl) _).setCell (p:=⟨w.heap.size+1+1,10,none⟩) (rfl) _).setCell (p:=⟨w.heap.size+1+1,11,none⟩) (rfl) _).setCell (p:=⟨w.heap.size+1+1,12,none⟩) (rfl) _).setCell (p:=⟨w.heap.size+1+1,13,none⟩) (rfl) _
 have HF:Mf WF (w.heap.size+1+1) [.int .i64 s1,.slice ta M.row.length tc,.int .i64 M.N,.string M.S,.int .i64 M.room,.slice tv M.vals.length td,.int .i64 M.ret,.bool M.over,.int .i64 M.steps,.int .i64 M.looks,.int .i64 M.hits,.slice tm M.memo.length te,.string jr,.int .i64 sy]:=by rw [hWF];exact ((((((((((((((HZ4.out).set 0 (.int .i64 s1)).set 1 (.slice ta M.row.length tc)).set 2 (.int .i64 M.N)).set 3 (.string M.S)).set 4 (.int .i64 M.room)).set 5 (.slice tv M.vals.length td)).set 6 (.int .i64 M.ret)).set 7 (.bool M.over)).set 8 (.int .i64 M.steps)).set 9 (.int .i64 M.looks)).set 10 (.int .i64 M.hits)).set 11 (.slice tm M.memo.length te)).set 12 (.string jr)).set 13 (.int .i64 sy)
 obtain ⟨c0,c1,c2,c3,c4,c5,c6,c7,c8,c9,c10,c11,c12,c13,x0,x1,x2,x3,x4,x5,x6,x7,x8,x9,x10,x11,x12,x13⟩:=Jz.of HF
 clear hWF HF
 have hpo:=HP4.out.kept KF (fun b hb h=>by have:=(HP4.out.ge (.inl hb)).1;omega) (fun b hb h=>by have:=(HP4.out.ge (.inr (.inl hb))).1;omega) (fun b hb h=>by have:=(HP4.out.ge (.inr (.inr hb))).1;omega)
 have fb:Below w.heap.size w WF:=HB4.out.trans (KF.below (fun b hb=>by omega) HB4.out.size)
 refine bodyPost_ret (v:=.tuple #[jval s1 M jr sy ta tv tm tc td te,.int .i64 cd]) (by simp [results,Tryz.results14,go_sem,c0,c1,c2,c3,c4,c5,c6,c7,c8,c9,c10,c11,c12,c13]) rfl ⟨_,_,_,_,_,_,rfl,Rg.of_po (hpo.mono (by omega)),fb⟩
theorem iJobEndOf (w:World) (st s1:Int) (m M:Mc) (jr:ByteArray) (sy cd:Int) (ra va ma:Option Addr) (rc vc mc:Nat) (hcall:∀ W,Below w.heap.size w W->Calls Tryz.prog 14 #[jval st m jr sy ra va ma rc vc mc,.agg #[.int .i64 1,.int .i64 100000,.string ⟨#[]⟩]] W (JOut W s1 M jr sy cd)) :
 Calls Tryz.prog 7 #[jval st m jr sy ra va ma rc vc mc] w (JOut w s1 M jr sy cd):=by
 have HC:Hid (∀ W,Below w.heap.size w W->Calls Tryz.prog 14 #[jval st m jr sy ra va ma rc vc mc,.agg #[.int .i64 1,.int .i64 100000,.string ⟨#[]⟩]] W (JOut W s1 M jr sy cd)):=hcall
 clear hcall
 obtain ⟨W0,hW0⟩:∃ W0,W0=((w.alloc (.cells #[.int .i64 st,.slice ra m.row.length rc,.int .i64 m.N,.string m.S,.int .i64 m.room,.slice va m.vals.length vc,.int .i64 m.ret,.bool m.over,.int .i64 m.steps,.int .i64 m.looks,.int .i64 m.hits,.slice ma m.memo.length mc,.string jr,.int .i64 sy] 37)).alloc (.cells #[.int .i64 0,.slice none 0 0,.int .i64 0,.string ⟨#[]⟩,.int .i64 0,.slice none 0 0,.int .i64 0,.bool false,.int .i64 0,.int .i64 0,.int .i64 0,.slice none 0 0,.string ⟨#[]⟩,.int .i64 0] 37)):=⟨_,rfl⟩
 have HE0:Hid (((w.alloc (.cells #[.int .i64 st,.slice ra m.row.length rc,.int .i64 m.N,.string m.S,.int .i64 m.room,.slice va m.vals.length vc,.int .i64 m.ret,.bool m.over,.int .i64 m.steps,.int .i64 m.looks,.int .i64 m.hits,.slice ma m.memo.length mc,.string jr,.int .i64 sy] 37)).alloc (.cells #[.int .i64 0,.slice none 0 0,.int .i64 0,.string ⟨#[]⟩,.int .i64 0,.slice none 0 0,.int .i64 0,.bool false,.int .i64 0,.int .i64 0,.int .i64 0,.slice none 0 0,.string ⟨#[]⟩,.int .i64 0] 37))=W0):=hW0.symm
 have HB0:Hid (Below w.heap.size w W0):=by rw [hW0];exact ((Below.refl _ _).alloc (Nat.le_refl _) _).alloc (by simp) _
 have HA0:Hid (Mf W0 w.heap.size [.int .i64 st,.slice ra m.row.length rc,.int .i64 m.N,.string m.S,.int .i64 m.room,.slice va m.vals.length vc,.int .i64 m.ret,.bool m.over,.int .i64 m.steps,.int .i64 m.looks,.int .i64 m.hits,.slice ma m.memo.length mc,.string jr,.int .i64 sy]):=by rw [hW0];exact (Mf.made _ _ _).alloc _
 have HZ0:Hid (Mf W0 (w.heap.size+1) [.int .i64 0,.slice none 0 0,.int .i64 0,.string ⟨#[]⟩,.int .i64 0,.slice none 0 0,.int .i64 0,.bool false,.int .i64 0,.int .i64 0,.int .i64 0,.slice none 0 0,.string ⟨#[]⟩,.int .i64 0]):=by
  have h1:=Mf.made (w.alloc (.cells #[.int .i64 st,.slice ra m.row.length rc,.int .i64 m.N,.string m.S,.int .i64 m.room,.slice va m.vals.length vc,.int .i64 m.ret,.bool m.over,.int .i64 m.steps,.int .i64 m.looks,.int .i64 m.hits,.slice ma m.memo.length mc,.string jr,.int .i64 sy] 37)) #[.int .i64 0,.slice none 0 0,.int .i64 0,.string ⟨#[]⟩,.int .i64 0,.slice none 0 0,.int .i64 0,.bool false,.int .i64 0,.int .i64 0,.int .i64 0,.slice none 0 0,.string ⟨#[]⟩,.int .i64 0] 37
  have h2:(w.alloc (.cells #[.int .i64 st,.slice ra m.row.length rc,.int .i64 m.N,.string m.S,.int .i64 m.room,.slice va m.vals.length vc,.int .i64 m.ret,.bool m.over,.int .i64 m.steps,.int .i64 m.looks,.int .i64 m.hits,.slice ma m.memo.length mc,.string jr,.int .i64 sy] 37)).heap.size=w.heap.size+1:=by simp
  rw [h2,<- hW0] at h1
  exact h1
 have HS0:Hid (W0.heap.size=w.heap.size+2):=by show _=_;rw [hW0];simp
 clear hW0
 go_enter Tryz.func7,Tryz.ntmps7
 go_upto_region 1 with fail
 rw [HE0.out]
 clear HE0
 obtain ⟨c0,c1,c2,c3,c4,c5,c6,c7,c8,c9,c10,c11,c12,c13,y0,y1,y2,y3,y4,y5,y6,y7,y8,y9,y10,y11,y12,y13⟩:=Jz.of HA0.out
 go_wp2_with fail
 clear c0 c1 c2 c3 c4 c5 c6 c7 c8 c9 c10 c11 c12 c13 y0 y1 y2 y3 y4 y5 y6 y7 y8 y9 y10 y11 y12 y13 HA0
 refine (HC.out _ HB0.out).mono ?_
 rintro e y4 ⟨ta,tv,tm,tc,td,te,rfl,hg,hb⟩
 have HG4:Hid (Rg y4 W0.heap.size y4.heap.size M ta tv tm):=hg
 have HZ4:Hid (Mf y4 (w.heap.size+1) [.int .i64 0,.slice none 0 0,.int .i64 0,.string ⟨#[]⟩,.int .i64 0,.slice none 0 0,.int .i64 0,.bool false,.int .i64 0,.int .i64 0,.int .i64 0,.slice none 0 0,.string ⟨#[]⟩,.int .i64 0]):=HZ0.out.below hb
 have HB4:Hid (Below w.heap.size w y4):=HB0.out.trans (hb.mono HB0.out.size)
 clear hg hb HZ0 HB0
 obtain ⟨c0,c1,c2,c3,c4,c5,c6,c7,c8,c9,c10,c11,c12,c13,x0,x1,x2,x3,x4,x5,x6,x7,x8,x9,x10,x11,x12,x13⟩:=Jz.of HZ4.out
 go_wp2
 clear c0 c1 c2 c3 c4 c5 c6 c7 c8 c9 c10 c11 c12 c13 x0 x1 x2 x3 x4 x5 x6 x7 x8 x9 x10 x11 x12 x13
 obtain ⟨WF,hWF⟩:∃ WF,WF=((((((((((((((y4).setCell ⟨w.heap.size+1,0,none⟩ (.int .i64 s1)).setCell ⟨w.heap.size+1,1,none⟩ (.slice ta M.row.length tc)).setCell ⟨w.heap.size+1,2,none⟩ (.int .i64 M.N)).setCell ⟨w.heap.size+1,3,none⟩ (.string M.S)).setCell ⟨w.heap.size+1,4,none⟩ (.int .i64 M.room)).setCell ⟨w.heap.size+1,5,none⟩ (.slice tv M.vals.length td)).setCell ⟨w.heap.size+1,6,none⟩ (.int .i64 M.ret)).setCell ⟨w.heap.size+1,7,none⟩ (.bool M.over)).setCell ⟨w.heap.size+1,8,none⟩ (.int .i64 M.steps)).setCell ⟨w.heap.size+1,9,none⟩ (.int .i64 M.looks)).setCell ⟨w.heap.size+1,10,none⟩ (.int .i64 M.hits)).setCell ⟨w.heap.size+1,11,none⟩ (.slice tm M.memo.length te)).setCell ⟨w.heap.size+1,12,none⟩ (.string jr)).setCell ⟨w.heap.size+1,13,none⟩ (.int .i64 sy):=⟨_,rfl⟩
 rw [<- hWF]
 have KF:Kept (fun b=>b=w.heap.size+1) y4 WF:=by rw [hWF];exact ((((((((((((((Kept.refl (fun b=>b=w.heap.size+1) y4).setCell (p:=⟨w.heap.size+1,0,none⟩) (rfl) _).setCell (p:=⟨w.heap.size+1,1,none⟩) (rfl) _).setCell (p:=⟨w.heap.size+1,2,none⟩) (rfl) _).setCell (p:=⟨w.heap.size+1,3,none⟩) (rfl) _).setCell (p:=⟨w.heap.size+1,4,none⟩) (rfl) _).setCell (p:=⟨w.heap.size+1,5,none⟩) (rfl) _).setCell (p:=⟨w.heap.size+1,6,none⟩) (rfl) _).setCell (p:=⟨w.heap.size+1,7,none⟩) (rfl) _).setCell (p:=⟨w.heap.size+1,8,none⟩) (rfl) _).setCell (p:=⟨w.heap.size+1,9,none⟩) (rfl) _).setCell (p:=⟨w.heap.size+1,10,none⟩) (rfl) _).setCell (p:=⟨w.heap.size+1,11,none⟩) (rfl) _).setCell (p:=⟨w.heap.size+1,12,none⟩) (rfl) _).setCell (p:=⟨w.heap.size+1,13,none⟩) (rfl) _
 have HF:Mf WF (w.heap.size+1) [.int .i64 s1,.slice ta M.row.length tc,.int .i64 M.N,.string M.S,.int .i64 M.room,.slice tv M.vals.length td,.int .i64 M.ret,.bool M.over,.int .i64 M.steps,.int .i64 M.looks,.int .i64 M.hits,.slice tm M.memo.length te,.string jr,.int .i64 sy]:=by rw [hWF];exact ((((((((((((((HZ4.out).set 0 (.int .i64 s1)).set 1 (.slice ta M.row.length tc)).set 2 (.int .i64 M.N)).set 3 (.string M.S)).set 4 (.int .i64 M.room)).set 5 (.slice tv M.vals.length td)).set 6 (.int .i64 M.ret)).set 7 (.bool M.over)).set 8 (.int .i64 M.steps)).set 9 (.int .i64 M.looks)).set 10 (.int .i64 M.hits)).set 11 (.slice tm M.memo.length te)).set 12 (.string jr)).set 13 (.int .i64 sy)
 obtain ⟨c0,c1,c2,c3,c4,c5,c6,c7,c8,c9,c10,c11,c12,c13,x0,x1,x2,x3,x4,x5,x6,x7,x8,x9,x10,x11,x12,x13⟩:=Jz.of HF
 clear hWF HF
 have s0:=HS0.out
 have hg:=HG4.out.kept KF (fun b h1 h2 h3=>by omega)
 have fb:Below w.heap.size w WF:=HB4.out.trans (KF.below (fun b hb=>by omega) HB4.out.size)
 refine bodyPost_ret (v:=.tuple #[jval s1 M jr sy ta tv tm tc td te,.int .i64 cd]) (by simp [results,Tryz.results7,go_sem,c0,c1,c2,c3,c4,c5,c6,c7,c8,c9,c10,c11,c12,c13]) rfl ⟨_,_,_,_,_,_,rfl,rg_mono hg (by omega) KF.size,fb⟩
end Je4
end Go.Proofs.YtladjpombohpaaaGreatDoor
