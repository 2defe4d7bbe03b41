import Derived.Test.YtladjpombohpaaaGreatDoorPkJN0
import Derived.Test.YtladjpombohpaaaGreatDoorJe1
import Derived.Test.YtladjpombohpaaaGreatDoorPkJE40
namespace Go.Proofs.YtladjpombohpaaaGreatDoor
set_option maxRecDepth 100000
set_option maxHeartbeats 8000000
set_option linter.unusedVariables false
namespace Je2
open Go.RowKit Go.MuLone
open Nd0 (Kept At lt_of_cell)
open Mm0 Mx0 Mu2 Mw20 Mw21 Mk3 Jb0 Jb3 Je0 Je1 Jl0 Tk0
open Mm2 (mokB)
theorem iTold (w:World) (p:Nat) (st:Int) (m:Mc) (jr:ByteArray) (sy:Int) (ra va ma:Option Addr) (rc vc mc:Nat) (hK:Mf w p [.int .i32 0,.int .u32 0,.int .i64 st,.slice ra m.row.length rc,.int .i64 m.N,.string m.S,.int .i64 m.room,.slice va m.vals.length vc,.int .i64 m.ret,.bool m.over,.int .i64 m.steps,.int .i64 m.looks,.int .i64 m.hits,.slice ma m.memo.length mc,.string jr,.int .i64 sy]) (hM:(∀ W',Kept (fun b=>b=p) w W'->Mr W' m ra va ma)) (hr:m.row.length<=1048576) (hv:m.vals.length<=1048576) (hm:m.memo.length<=1048576) :
 Calls Tryz.prog 36 #[.pointer (some ⟨p,0,none⟩)] w fun e w'=>∃ ra' va' ma' rc' vc' mc',e=.returned (jval st m jr sy ra' va' ma' rc' vc' mc')/\PO w' w.heap.size m ra' va' ma' rc' vc' mc'/\Kept (fun b=>b=p) w w':=by
 have HM:Hid (∀ W',Kept (fun b=>b=p) w W'->Mr W' m ra va ma):=hM
 have hpw:p < w.heap.size:=hK.lt (by simp)
 obtain ⟨y0,hy0⟩:∃ y0,y0=w.alloc (.cells #[.int .i64 0,.slice none 0 0,.int .i64 0,.string ⟨#[]⟩,.int .i64 0,.slice none 0 0,.int .i64 0,.bool false,.int .i64 0,.int .i64 0,.int .i64 0,.slice none 0 0,.string ⟨#[]⟩,.int .i64 0] 37):=⟨_,rfl⟩
 have HW0:Hid (w.alloc (.cells #[.int .i64 0,.slice none 0 0,.int .i64 0,.string ⟨#[]⟩,.int .i64 0,.slice none 0 0,.int .i64 0,.bool false,.int .i64 0,.int .i64 0,.int .i64 0,.slice none 0 0,.string ⟨#[]⟩,.int .i64 0] 37)=y0):=hy0.symm
 have HK0:Hid (Mf y0 p [.int .i32 0,.int .u32 0,.int .i64 st,.slice ra m.row.length rc,.int .i64 m.N,.string m.S,.int .i64 m.room,.slice va m.vals.length vc,.int .i64 m.ret,.bool m.over,.int .i64 m.steps,.int .i64 m.looks,.int .i64 m.hits,.slice ma m.memo.length mc,.string jr,.int .i64 sy]):=by rw [hy0];exact hK.alloc _
 have HZ0:Hid (Mf y0 w.heap.size [.int .i64 0,.slice none 0 0,.int .i64 0,.string ⟨#[]⟩,.int .i64 0,.slice none 0 0,.int .i64 0,.bool false,.int .i64 0,.int .i64 0,.int .i64 0,.slice none 0 0,.string ⟨#[]⟩,.int .i64 0]):=by rw [hy0];exact Mf.made _ _ _
 have HE0:Hid (Kept (fun b=>b=p) w y0):=by rw [hy0];exact (Kept.refl _ _).alloc _
 have HS0:Hid (y0.heap.size=w.heap.size+1):=by show _=_;rw [hy0];simp
 clear hy0 hK hM
 go_enter_defers Tryz.func36,Tryz.ntmps36
 obtain ⟨c0,c1,c2,c3,c4,c5,c6,c7,c8,c9,c10,c11,c12,c13,c14,c15,z0,z1,z2,z3,z4,z5,z6,z7,z8,z9,z10,z11,z12,z13,z14,z15⟩:=Kz.of HK0.out
 have c0':=c0
 rw [<- HW0.out] at c0'
 go_wp2_with fail
 rw [HW0.out]
 clear HW0 c0'
 refine (lock_free muLib ⟨p,0,none⟩ _ c0 z0).mono ?_
 rintro e y1 ⟨rfl,hy⟩
 have hk:Kept (fun b=>b=p) y0 y1:=by rw [hy];exact (Kept.refl (fun b=>b=p) y0).setCell (p:=⟨p,0,none⟩) rfl _
 have HK1:Hid (Mf y1 p [.int .i32 1,.int .u32 0,.int .i64 st,.slice ra m.row.length rc,.int .i64 m.N,.string m.S,.int .i64 m.room,.slice va m.vals.length vc,.int .i64 m.ret,.bool m.over,.int .i64 m.steps,.int .i64 m.looks,.int .i64 m.hits,.slice ma m.memo.length mc,.string jr,.int .i64 sy]):=by rw [hy];exact HK0.out.set 0 (.int .i32 1)
 have HE1:Hid (Kept (fun b=>b=p) w y1):=HE0.out.trans hk
 have HZ1:Hid (Mf y1 w.heap.size [.int .i64 0,.slice none 0 0,.int .i64 0,.string ⟨#[]⟩,.int .i64 0,.slice none 0 0,.int .i64 0,.bool false,.int .i64 0,.int .i64 0,.int .i64 0,.slice none 0 0,.string ⟨#[]⟩,.int .i64 0]):=HZ0.out.kept hk (by omega)
 have HS1:Hid (y0.heap.size<=y1.heap.size):=hk.size
 clear hk hy HE0 HK0 c0 c1 c2 c3 c4 c5 c6 c7 c8 c9 c10 c11 c12 c13 c14 c15 z0 z1 z2 z3 z4 z5 z6 z7 z8 z9 z10 z11 z12 z13 z14 z15
 obtain ⟨c0,c1,c2,c3,c4,c5,c6,c7,c8,c9,c10,c11,c12,c13,c14,c15,z0,z1,z2,z3,z4,z5,z6,z7,z8,z9,z10,z11,z12,z13,z14,z15⟩:=Kz.of HK1.out
 go_wp2_with fail
 clear c0 c1 c2 c3 c4 c5 c6 c7 c8 c9 c10 c11 c12 c13 c14 c15 z0 z1 z2 z3 z4 z5 z6 z7 z8 z9 z10 z11 z12 z13 z14 z15
 refine (iJCopy _ st m jr sy _ _ _ _ _ _ (HM.out y1 HE1.out) hr hv hm).mono ?_
 rintro e y2 ⟨ra',va',ma',rc',vc',mc',rfl,hp,hb⟩
 have HP2:Hid (PO y2 y1.heap.size m ra' va' ma' rc' vc' mc'):=hp
 have HK2:Hid (Mf y2 p [.int .i32 1,.int .u32 0,.int .i64 st,.slice ra m.row.length rc,.int .i64 m.N,.string m.S,.int .i64 m.room,.slice va m.vals.length vc,.int .i64 m.ret,.bool m.over,.int .i64 m.steps,.int .i64 m.looks,.int .i64 m.hits,.slice ma m.memo.length mc,.string jr,.int .i64 sy]):=HK1.out.below hb
 have HZ2:Hid (Mf y2 w.heap.size [.int .i64 0,.slice none 0 0,.int .i64 0,.string ⟨#[]⟩,.int .i64 0,.slice none 0 0,.int .i64 0,.bool false,.int .i64 0,.int .i64 0,.int .i64 0,.slice none 0 0,.string ⟨#[]⟩,.int .i64 0]):=HZ1.out.below hb
 have HE2:Hid (Kept (fun b=>b=p) w y2):=HE1.out.trans (Kept.ofBelow hb)
 have HS2:Hid (y1.heap.size<=y2.heap.size):=hb.size
 clear hb hp HK1 HZ1 HE1
 obtain ⟨d0,d1,d2,d3,d4,d5,d6,d7,d8,d9,d10,d11,d12,d13,x0,x1,x2,x3,x4,x5,x6,x7,x8,x9,x10,x11,x12,x13⟩:=Jz.of HZ2.out
 go_wp2_with fail
 clear d0 d1 d2 d3 d4 d5 d6 d7 d8 d9 d10 d11 d12 d13 x0 x1 x2 x3 x4 x5 x6 x7 x8 x9 x10 x11 x12 x13
 obtain ⟨y3,hy3⟩:∃ y3,y3=((((((((((((((y2).setCell ⟨w.heap.size,0,none⟩ (.int .i64 st)).setCell ⟨w.heap.size,1,none⟩ (.slice ra' m.row.length rc')).setCell ⟨w.heap.size,2,none⟩ (.int .i64 m.N)).setCell ⟨w.heap.size,3,none⟩ (.string m.S)).setCell ⟨w.heap.size,4,none⟩ (.int .i64 m.room)).setCell ⟨w.heap.size,5,none⟩ (.slice va' m.vals.length vc')).setCell ⟨w.heap.size,6,none⟩ (.int .i64 m.ret)).setCell ⟨w.heap.size,7,none⟩ (.bool m.over)).setCell ⟨w.heap.size,8,none⟩ (.int .i64 m.steps)).setCell ⟨w.heap.size,9,none⟩ (.int .i64 m.looks)).setCell ⟨w.heap.size,10,none⟩ (.int .i64 m.hits)).setCell ⟨w.heap.size,11,none⟩ (.slice ma' m.memo.length mc')).setCell ⟨w.heap.size,12,none⟩ (.string jr)).setCell ⟨w.heap.size,13,none⟩ (.int .i64 sy):=⟨_,rfl⟩
 rw [<- hy3]
 have hk3:Kept (fun b=>b=w.heap.size) y2 y3:=by rw [hy3];exact ((((((((((((((Kept.refl (fun b=>b=w.heap.size) y2).setCell (p:=⟨w.heap.size,0,none⟩) (rfl) _).setCell (p:=⟨w.heap.size,1,none⟩) (rfl) _).setCell (p:=⟨w.heap.size,2,none⟩) (rfl) _).setCell (p:=⟨w.heap.size,3,none⟩) (rfl) _).setCell (p:=⟨w.heap.size,4,none⟩) (rfl) _).setCell (p:=⟨w.heap.size,5,none⟩) (rfl) _).setCell (p:=⟨w.heap.size,6,none⟩) (rfl) _).setCell (p:=⟨w.heap.size,7,none⟩) (rfl) _).setCell (p:=⟨w.heap.size,8,none⟩) (rfl) _).setCell (p:=⟨w.heap.size,9,none⟩) (rfl) _).setCell (p:=⟨w.heap.size,10,none⟩) (rfl) _).setCell (p:=⟨w.heap.size,11,none⟩) (rfl) _).setCell (p:=⟨w.heap.size,12,none⟩) (rfl) _).setCell (p:=⟨w.heap.size,13,none⟩) (rfl) _
 have HK3:Hid (Mf y3 p [.int .i32 1,.int .u32 0,.int .i64 st,.slice ra m.row.length rc,.int .i64 m.N,.string m.S,.int .i64 m.room,.slice va m.vals.length vc,.int .i64 m.ret,.bool m.over,.int .i64 m.steps,.int .i64 m.looks,.int .i64 m.hits,.slice ma m.memo.length mc,.string jr,.int .i64 sy]):=HK2.out.kept hk3 (by omega)
 have HZ3:Hid (Mf y3 w.heap.size [.int .i64 st,.slice ra' m.row.length rc',.int .i64 m.N,.string m.S,.int .i64 m.room,.slice va' m.vals.length vc',.int .i64 m.ret,.bool m.over,.int .i64 m.steps,.int .i64 m.looks,.int .i64 m.hits,.slice ma' m.memo.length mc',.string jr,.int .i64 sy]):=by rw [hy3];exact ((((((((((((((HZ2.out).set 0 (.int .i64 st)).set 1 (.slice ra' m.row.length rc')).set 2 (.int .i64 m.N)).set 3 (.string m.S)).set 4 (.int .i64 m.room)).set 5 (.slice va' m.vals.length vc')).set 6 (.int .i64 m.ret)).set 7 (.bool m.over)).set 8 (.int .i64 m.steps)).set 9 (.int .i64 m.looks)).set 10 (.int .i64 m.hits)).set 11 (.slice ma' m.memo.length mc')).set 12 (.string jr)).set 13 (.int .i64 sy)
 have s0:=HS0.out
 have s1:=HS1.out
 have s2:=HS2.out
 have HP3:Hid (PO y3 w.heap.size m ra' va' ma' rc' vc' mc'):=(HP2.out.kept hk3 (fun b hb h=>by have:=(HP2.out.ge (.inl hb)).1;omega) (fun b hb h=>by have:=(HP2.out.ge (.inr (.inl hb))).1;omega) (fun b hb h=>by have:=(HP2.out.ge (.inr (.inr hb))).1;omega)).mono (by omega)
 have HE3:Hid (Kept (fun b=>b=p) w y3):=⟨hk3.os.trans HE2.out.os,hk3.tape.trans HE2.out.tape,hk3.output.trans HE2.out.output,Nat.le_trans HE2.out.size hk3.size,fun i hi hn=>by rw [hk3.block i (Nat.lt_of_lt_of_le hi HE2.out.size) (by omega),HE2.out.block i hi hn]⟩
 clear hy3 hk3 HK2 HZ2 HE2 HP2
 refine leaves_cons (f:=67) (args := #[.pointer (some ⟨p,0,none⟩)]) (by simp) (by simp [go_sem]) ?_
 refine (unlock_deferred muLib ⟨p,0,none⟩ .returning _ (HK3.out 0 (by simp)).1 (HK3.out 0 (by simp)).2).mono ?_
 rintro e u' y4 ⟨rfl,rfl,hy4⟩
 have hk4:Kept (fun b=>b=p) y3 y4:=by rw [hy4];exact (Kept.refl (fun b=>b=p) y3).setCell (p:=⟨p,0,none⟩) rfl _
 obtain ⟨d0,d1,d2,d3,d4,d5,d6,d7,d8,d9,d10,d11,d12,d13,x0,x1,x2,x3,x4,x5,x6,x7,x8,x9,x10,x11,x12,x13⟩:=Jz.of (HZ3.out.kept hk4 (by omega))
 have hpo:PO y4 w.heap.size m ra' va' ma' rc' vc' mc':=HP3.out.kept hk4 (fun b hb h=>by have:=(HP3.out.ge (.inl hb)).1;omega) (fun b hb h=>by have:=(HP3.out.ge (.inr (.inl hb))).1;omega) (fun b hb h=>by have:=(HP3.out.ge (.inr (.inr hb))).1;omega)
 have hke:=HE3.out.trans hk4
 clear hy4
 exact ⟨jval st m jr sy ra' va' ma' rc' vc' mc',by simp [results,Tryz.results36,go_sem,d0,d1,d2,d3,d4,d5,d6,d7,d8,d9,d10,d11,d12,d13],_,_,_,_,_,_,rfl,hpo,hke⟩
theorem iTake (w:World) (p:Nat) (st s1:Int) (m M:Mc) (jr:ByteArray) (sy:Int) (ra va ma:Option Addr) (rc vc mc:Nat) (wa wv wm:Option Addr) (wc wd we:Nat) (hs:s1=(if M.over then 2 else 1)) (hK:Mf w p [.int .i32 1,.int .u32 0,.int .i64 st,.slice ra m.row.length rc,.int .i64 m.N,.string m.S,.int .i64 m.room,.slice va m.vals.length vc,.int .i64 m.ret,.bool m.over,.int .i64 m.steps,.int .i64 m.looks,.int .i64 m.hits,.slice ma m.memo.length mc,.string jr,.int .i64 sy]) :
 Calls Tryz.prog 114 #[.pointer (some ⟨p,2,none⟩),mval M wa wv wm wc wd we] w fun e w'=>e=.returned (.tuple #[])/\Mf w' p [.int .i32 1,.int .u32 0,.int .i64 s1,.slice wa M.row.length wc,.int .i64 M.N,.string M.S,.int .i64 M.room,.slice wv M.vals.length wd,.int .i64 M.ret,.bool M.over,.int .i64 M.steps,.int .i64 M.looks,.int .i64 M.hits,.slice wm M.memo.length we,.string jr,.int .i64 sy]/\Kept (fun b=>b=p) w w':=by
 have hpw:p < w.heap.size:=hK.lt (by simp)
 obtain ⟨y0,hy0⟩:∃ y0,y0=w.alloc (.cells #[.slice wa M.row.length wc,.int .i64 M.N,.string M.S,.int .i64 M.room,.slice wv M.vals.length wd,.int .i64 M.ret,.bool M.over,.int .i64 M.steps,.int .i64 M.looks,.int .i64 M.hits,.slice wm M.memo.length we] 35):=⟨_,rfl⟩
 have HW0:Hid (w.alloc (.cells #[.slice wa M.row.length wc,.int .i64 M.N,.string M.S,.int .i64 M.room,.slice wv M.vals.length wd,.int .i64 M.ret,.bool M.over,.int .i64 M.steps,.int .i64 M.looks,.int .i64 M.hits,.slice wm M.memo.length we] 35)=y0):=hy0.symm
 have HK0:Hid (Mf y0 p [.int .i32 1,.int .u32 0,.int .i64 st,.slice ra m.row.length rc,.int .i64 m.N,.string m.S,.int .i64 m.room,.slice va m.vals.length vc,.int .i64 m.ret,.bool m.over,.int .i64 m.steps,.int .i64 m.looks,.int .i64 m.hits,.slice ma m.memo.length mc,.string jr,.int .i64 sy]):=by rw [hy0];exact hK.alloc _
 have HA0:Hid (Mf y0 w.heap.size [.slice wa M.row.length wc,.int .i64 M.N,.string M.S,.int .i64 M.room,.slice wv M.vals.length wd,.int .i64 M.ret,.bool M.over,.int .i64 M.steps,.int .i64 M.looks,.int .i64 M.hits,.slice wm M.memo.length we]):=by rw [hy0];exact Mf.made _ _ _
 have HE0:Hid (Kept (fun b=>b=p) w y0):=by rw [hy0];exact (Kept.refl _ _).alloc _
 clear hy0 hK
 go_enter Tryz.func114,Tryz.ntmps114
 go_upto_region 1 with fail
 rw [HW0.out]
 clear HW0
 obtain ⟨c0,c1,c2,c3,c4,c5,c6,c7,c8,c9,c10,c11,c12,c13,c14,c15,z0,z1,z2,z3,z4,z5,z6,z7,z8,z9,z10,z11,z12,z13,z14,z15⟩:=Kz.of HK0.out
 obtain ⟨d0,d1,d2,d3,d4,d5,d6,d7,d8,d9,d10,x0,x1,x2,x3,x4,x5,x6,x7,x8,x9,x10⟩:=HA0.out.all
 have hne:¬ w.heap.size=p:=by omega
 by_cases ho:M.over=true
 ·have hs2:=hs.trans (if_pos ho)
  clear hs
  subst hs2
  go_wp2
  obtain ⟨y1,hy1⟩:∃ y1,y1=(((((((((((((y0).setCell ⟨p,3,none⟩ (.slice wa M.row.length wc)).setCell ⟨p,4,none⟩ (.int .i64 M.N)).setCell ⟨p,5,none⟩ (.string M.S)).setCell ⟨p,6,none⟩ (.int .i64 M.room)).setCell ⟨p,7,none⟩ (.slice wv M.vals.length wd)).setCell ⟨p,8,none⟩ (.int .i64 M.ret)).setCell ⟨p,9,none⟩ (.bool true)).setCell ⟨p,10,none⟩ (.int .i64 M.steps)).setCell ⟨p,11,none⟩ (.int .i64 M.looks)).setCell ⟨p,12,none⟩ (.int .i64 M.hits)).setCell ⟨p,13,none⟩ (.slice wm M.memo.length we)).setCell ⟨p,2,none⟩ (.int .i64 1)).setCell ⟨p,2,none⟩ (.int .i64 2):=⟨_,rfl⟩
  rw [<- hy1]
  clear c0 c1 c2 c3 c4 c5 c6 c7 c8 c9 c10 c11 c12 c13 c14 c15 z0 z1 z2 z3 z4 z5 z6 z7 z8 z9 z10 z11 z12 z13 z14 z15 d0 d1 d2 d3 d4 d5 d6 d7 d8 d9 d10 x0 x1 x2 x3 x4 x5 x6 x7 x8 x9 x10
  have hk:Kept (fun b=>b=p) y0 y1:=by rw [hy1];exact (((((((((((((Kept.refl (fun b=>b=p) y0).setCell (p:=⟨p,3,none⟩) (rfl) _).setCell (p:=⟨p,4,none⟩) (rfl) _).setCell (p:=⟨p,5,none⟩) (rfl) _).setCell (p:=⟨p,6,none⟩) (rfl) _).setCell (p:=⟨p,7,none⟩) (rfl) _).setCell (p:=⟨p,8,none⟩) (rfl) _).setCell (p:=⟨p,9,none⟩) (rfl) _).setCell (p:=⟨p,10,none⟩) (rfl) _).setCell (p:=⟨p,11,none⟩) (rfl) _).setCell (p:=⟨p,12,none⟩) (rfl) _).setCell (p:=⟨p,13,none⟩) (rfl) _).setCell (p:=⟨p,2,none⟩) (rfl) _).setCell (p:=⟨p,2,none⟩) (rfl) _
  have hf:Mf y1 p [.int .i32 1,.int .u32 0,.int .i64 2,.slice wa M.row.length wc,.int .i64 M.N,.string M.S,.int .i64 M.room,.slice wv M.vals.length wd,.int .i64 M.ret,.bool true,.int .i64 M.steps,.int .i64 M.looks,.int .i64 M.hits,.slice wm M.memo.length we,.string jr,.int .i64 sy]:=by rw [hy1];exact (((((((((((((HK0.out).set 3 (.slice wa M.row.length wc)).set 4 (.int .i64 M.N)).set 5 (.string M.S)).set 6 (.int .i64 M.room)).set 7 (.slice wv M.vals.length wd)).set 8 (.int .i64 M.ret)).set 9 (.bool true)).set 10 (.int .i64 M.steps)).set 11 (.int .i64 M.looks)).set 12 (.int .i64 M.hits)).set 13 (.slice wm M.memo.length we)).set 2 (.int .i64 1)).set 2 (.int .i64 2)
  refine bodyPost_end (results_none rfl _ _ _) rfl ?_
  exact ⟨rfl,by rw [show M.over=true from ho];exact hf,HE0.out.trans hk⟩
 ·have hs2:=hs.trans (if_neg ho)
  clear hs
  subst hs2
  go_wp2
  obtain ⟨y1,hy1⟩:∃ y1,y1=((((((((((((y0).setCell ⟨p,3,none⟩ (.slice wa M.row.length wc)).setCell ⟨p,4,none⟩ (.int .i64 M.N)).setCell ⟨p,5,none⟩ (.string M.S)).setCell ⟨p,6,none⟩ (.int .i64 M.room)).setCell ⟨p,7,none⟩ (.slice wv M.vals.length wd)).setCell ⟨p,8,none⟩ (.int .i64 M.ret)).setCell ⟨p,9,none⟩ (.bool false)).setCell ⟨p,10,none⟩ (.int .i64 M.steps)).setCell ⟨p,11,none⟩ (.int .i64 M.looks)).setCell ⟨p,12,none⟩ (.int .i64 M.hits)).setCell ⟨p,13,none⟩ (.slice wm M.memo.length we)).setCell ⟨p,2,none⟩ (.int .i64 1):=⟨_,rfl⟩
  rw [<- hy1]
  clear c0 c1 c2 c3 c4 c5 c6 c7 c8 c9 c10 c11 c12 c13 c14 c15 z0 z1 z2 z3 z4 z5 z6 z7 z8 z9 z10 z11 z12 z13 z14 z15 d0 d1 d2 d3 d4 d5 d6 d7 d8 d9 d10 x0 x1 x2 x3 x4 x5 x6 x7 x8 x9 x10
  have hk:Kept (fun b=>b=p) y0 y1:=by rw [hy1];exact ((((((((((((Kept.refl (fun b=>b=p) y0).setCell (p:=⟨p,3,none⟩) (rfl) _).setCell (p:=⟨p,4,none⟩) (rfl) _).setCell (p:=⟨p,5,none⟩) (rfl) _).setCell (p:=⟨p,6,none⟩) (rfl) _).setCell (p:=⟨p,7,none⟩) (rfl) _).setCell (p:=⟨p,8,none⟩) (rfl) _).setCell (p:=⟨p,9,none⟩) (rfl) _).setCell (p:=⟨p,10,none⟩) (rfl) _).setCell (p:=⟨p,11,none⟩) (rfl) _).setCell (p:=⟨p,12,none⟩) (rfl) _).setCell (p:=⟨p,13,none⟩) (rfl) _).setCell (p:=⟨p,2,none⟩) (rfl) _
  have hf:Mf y1 p [.int .i32 1,.int .u32 0,.int .i64 1,.slice wa M.row.length wc,.int .i64 M.N,.string M.S,.int .i64 M.room,.slice wv M.vals.length wd,.int .i64 M.ret,.bool false,.int .i64 M.steps,.int .i64 M.looks,.int .i64 M.hits,.slice wm M.memo.length we,.string jr,.int .i64 sy]:=by rw [hy1];exact ((((((((((((HK0.out).set 3 (.slice wa M.row.length wc)).set 4 (.int .i64 M.N)).set 5 (.string M.S)).set 6 (.int .i64 M.room)).set 7 (.slice wv M.vals.length wd)).set 8 (.int .i64 M.ret)).set 9 (.bool false)).set 10 (.int .i64 M.steps)).set 11 (.int .i64 M.looks)).set 12 (.int .i64 M.hits)).set 13 (.slice wm M.memo.length we)).set 2 (.int .i64 1)
  refine bodyPost_end (results_none rfl _ _ _) rfl ?_
  exact ⟨rfl,by rw [Bool.eq_false_iff.2 ho];exact hf,HE0.out.trans hk⟩
end Je2
namespace Je3
open Go.RowKit Go.MuLone
open Nd0 (Kept At lt_of_cell)
open Mm0 Mx0 Mu2 Mw20 Mw21 Mk3 Jb0 Jb3 Je0 Je1 Je2 Jl0 Tk0
open Mm2 (mokB)
theorem iStepGo (w:World) (p:Nat) (s1:Int) (m M:Mc) (jr:ByteArray) (sy:Int) (ra va ma:Option Addr) (rc vc mc:Nat) (hK:Mf w p [.int .i32 1,.int .u32 0,.int .i64 1,.slice ra m.row.length rc,.int .i64 m.N,.string m.S,.int .i64 m.room,.slice va m.vals.length vc,.int .i64 m.ret,.bool m.over,.int .i64 m.steps,.int .i64 m.looks,.int .i64 m.hits,.slice ma m.memo.length mc,.string jr,.int .i64 sy]) (hM:Mr w m ra va ma) (hT:TabK w) (hs:s1=(if M.over then 2 else 1)) (hrun:(∀ (W:World) ra va ma rc vc mc,TabK W->Mr W m ra va ma->Calls Tryz.prog 115 #[mval m ra va ma rc vc mc,.int .i64 100000] W (Out W M))) :
 Calls Tryz.prog 70 #[.pointer (some ⟨p,2,none⟩),.int .i64 100000] w fun e w'=>e=.returned .nilIface/\(∃ wa wv wm wc wd we,Mf w' p [.int .i32 1,.int .u32 0,.int .i64 s1,.slice wa M.row.length wc,.int .i64 M.N,.string M.S,.int .i64 M.room,.slice wv M.vals.length wd,.int .i64 M.ret,.bool M.over,.int .i64 M.steps,.int .i64 M.looks,.int .i64 M.hits,.slice wm M.memo.length we,.string jr,.int .i64 sy]/\Rg w' w.heap.size w'.heap.size M wa wv wm)/\Kept (fun b=>b=p) w w':=by
 have hpw:p < w.heap.size:=hK.lt (by simp)
 have HK:Hid (Mf w p [.int .i32 1,.int .u32 0,.int .i64 1,.slice ra m.row.length rc,.int .i64 m.N,.string m.S,.int .i64 m.room,.slice va m.vals.length vc,.int .i64 m.ret,.bool m.over,.int .i64 m.steps,.int .i64 m.looks,.int .i64 m.hits,.slice ma m.memo.length mc,.string jr,.int .i64 sy]):=hK
 have HR:Hid (Calls Tryz.prog 115 #[mval m ra va ma rc vc mc,.int .i64 100000] w (Out w M)):=hrun _ _ _ _ _ _ _ hT hM
 have HSS:Hid (s1=(if M.over then 2 else 1)):=hs
 clear hM hT hrun hs
 obtain ⟨c0,c1,c2,c3,c4,c5,c6,c7,c8,c9,c10,c11,c12,c13,c14,c15,z0,z1,z2,z3,z4,z5,z6,z7,z8,z9,z10,z11,z12,z13,z14,z15⟩:=Kz.of hK
 clear hK
 go_enter Tryz.func70,Tryz.ntmps70
 go_wp2_with fail
 clear c0 c1 c2 c3 c4 c5 c6 c7 c8 c9 c10 c11 c12 c13 c14 c15 z0 z1 z2 z3 z4 z5 z6 z7 z8 z9 z10 z11 z12 z13 z14 z15
 refine HR.out.mono ?_
 rintro e y1 ⟨wa,wv,wm,wc,wd,we,rfl,hrg,hb⟩
 have HK1:Hid (Mf y1 p [.int .i32 1,.int .u32 0,.int .i64 1,.slice ra m.row.length rc,.int .i64 m.N,.string m.S,.int .i64 m.room,.slice va m.vals.length vc,.int .i64 m.ret,.bool m.over,.int .i64 m.steps,.int .i64 m.looks,.int .i64 m.hits,.slice ma m.memo.length mc,.string jr,.int .i64 sy]):=HK.out.below hb
 have HG1:Hid (Rg y1 w.heap.size y1.heap.size M wa wv wm):=hrg
 have HE1:Hid (Kept (fun b=>b=p) w y1):=Kept.ofBelow hb
 clear hrg hb HK
 go_wp2_with fail
 refine (iTake _ p 1 s1 m M jr sy _ _ _ _ _ _ _ _ _ _ _ _ HSS.out HK1.out).mono ?_
 rintro e y2 ⟨rfl,hf,hk⟩
 have HF2:Hid (Mf y2 p [.int .i32 1,.int .u32 0,.int .i64 s1,.slice wa M.row.length wc,.int .i64 M.N,.string M.S,.int .i64 M.room,.slice wv M.vals.length wd,.int .i64 M.ret,.bool M.over,.int .i64 M.steps,.int .i64 M.looks,.int .i64 M.hits,.slice wm M.memo.length we,.string jr,.int .i64 sy]):=hf
 have HE2:Hid (Kept (fun b=>b=p) w y2):=HE1.out.trans hk
 have g:=HG1.out.kept hk (fun b h1 h2 h3=>by omega)
 have HG2:Hid (Rg y2 w.heap.size y2.heap.size M wa wv wm):=⟨g.wm,fun b hb=>Nat.lt_of_lt_of_le (g.lt b hb) hk.size,g.ax⟩
 clear g hf hk HK1 HE1 HG1
 go_wp2
 go_ret
 exact ⟨rfl,⟨_,_,_,_,_,_,HF2.out,HG2.out⟩,HE2.out⟩
theorem iStepNo (w:World) (p:Nat) (st:Int) (m:Mc) (jr:ByteArray) (sy:Int) (ra va ma:Option Addr) (rc vc mc:Nat) (hK:Mf w p [.int .i32 1,.int .u32 0,.int .i64 st,.slice ra m.row.length rc,.int .i64 m.N,.string m.S,.int .i64 m.room,.slice va m.vals.length vc,.int .i64 m.ret,.bool m.over,.int .i64 m.steps,.int .i64 m.looks,.int .i64 m.hits,.slice ma m.memo.length mc,.string jr,.int .i64 sy]) (hst:st≠1) :
 Calls Tryz.prog 70 #[.pointer (some ⟨p,2,none⟩),.int .i64 100000] w fun e w'=>(∃ x,e=.returned (rf x 5))/\w'=w:=by
 have hs:(st != 1)=true:=bne_iff_ne.2 hst
 clear hst
 obtain ⟨c0,c1,c2,c3,c4,c5,c6,c7,c8,c9,c10,c11,c12,c13,c14,c15,z0,z1,z2,z3,z4,z5,z6,z7,z8,z9,z10,z11,z12,z13,z14,z15⟩:=Kz.of hK
 clear hK
 go_enter Tryz.func70,Tryz.ntmps70
 go_wp2
 go_ret
 exact ⟨⟨_,rfl⟩,rfl⟩
theorem iDoNo (w:World) (p:Nat) (st:Int) (m:Mc) (jr:ByteArray) (sy:Int) (ra va ma:Option Addr) (rc vc mc:Nat) (hK:Mf w p [.int .i32 0,.int .u32 0,.int .i64 st,.slice ra m.row.length rc,.int .i64 m.N,.string m.S,.int .i64 m.room,.slice va m.vals.length vc,.int .i64 m.ret,.bool m.over,.int .i64 m.steps,.int .i64 m.looks,.int .i64 m.hits,.slice ma m.memo.length mc,.string jr,.int .i64 sy]) (hj:(∀ W:World,Kept (fun b=>b=p) w W->Calls Tryz.prog 68 #[jval st m jr sy ra va ma rc vc mc] W fun e w'=>e=.returned (.bool false)/\Below W.heap.size W w')) :
 Calls Tryz.prog 35 #[.pointer (some ⟨p,0,none⟩),.agg #[.int .i64 1,.int .i64 100000,.string ⟨#[]⟩]] w fun e w'=>(∃ x,e=.returned (rf x 5))/\Mf w' p [.int .i32 0,.int .u32 0,.int .i64 st,.slice ra m.row.length rc,.int .i64 m.N,.string m.S,.int .i64 m.room,.slice va m.vals.length vc,.int .i64 m.ret,.bool m.over,.int .i64 m.steps,.int .i64 m.looks,.int .i64 m.hits,.slice ma m.memo.length mc,.string jr,.int .i64 sy]/\Kept (fun b=>b=p) w w':=by
 have HJ:Hid (∀ W:World,Kept (fun b=>b=p) w W->Calls Tryz.prog 68 #[jval st m jr sy ra va ma rc vc mc] W fun e w'=>e=.returned (.bool false)/\Below W.heap.size W w'):=hj
 have hpw:p < w.heap.size:=hK.lt (by simp)
 obtain ⟨y0,hy0⟩:∃ y0,y0=w.alloc (.cells #[.int .i64 1,.int .i64 100000,.string ⟨#[]⟩] 47):=⟨_,rfl⟩
 have HW0:Hid (w.alloc (.cells #[.int .i64 1,.int .i64 100000,.string ⟨#[]⟩] 47)=y0):=hy0.symm
 have HK0:Hid (Mf y0 p [.int .i32 0,.int .u32 0,.int .i64 st,.slice ra m.row.length rc,.int .i64 m.N,.string m.S,.int .i64 m.room,.slice va m.vals.length vc,.int .i64 m.ret,.bool m.over,.int .i64 m.steps,.int .i64 m.looks,.int .i64 m.hits,.slice ma m.memo.length mc,.string jr,.int .i64 sy]):=by rw [hy0];exact hK.alloc _
 have HO0:Hid (Mf y0 w.heap.size [.int .i64 1,.int .i64 100000,.string ⟨#[]⟩]):=by rw [hy0];exact Mf.made _ _ _
 have HE0:Hid (Kept (fun b=>b=p) w y0):=by rw [hy0];exact (Kept.refl _ _).alloc _
 clear hy0 hK hj
 go_enter_defers Tryz.func35,Tryz.ntmps35
 go_wp2_with fail
 rw [HW0.out]
 clear HW0
 obtain ⟨c0,c1,c2,c3,c4,c5,c6,c7,c8,c9,c10,c11,c12,c13,c14,c15,z0,z1,z2,z3,z4,z5,z6,z7,z8,z9,z10,z11,z12,z13,z14,z15⟩:=Kz.of HK0.out
 refine (lock_free muLib ⟨p,0,none⟩ _ c0 z0).mono ?_
 rintro e y1 ⟨rfl,hy⟩
 have hk:Kept (fun b=>b=p) y0 y1:=by rw [hy];exact (Kept.refl (fun b=>b=p) y0).setCell (p:=⟨p,0,none⟩) rfl _
 have HK1:Hid (Mf y1 p [.int .i32 1,.int .u32 0,.int .i64 st,.slice ra m.row.length rc,.int .i64 m.N,.string m.S,.int .i64 m.room,.slice va m.vals.length vc,.int .i64 m.ret,.bool m.over,.int .i64 m.steps,.int .i64 m.looks,.int .i64 m.hits,.slice ma m.memo.length mc,.string jr,.int .i64 sy]):=by rw [hy];exact HK0.out.set 0 (.int .i32 1)
 have HE1:Hid (Kept (fun b=>b=p) w y1):=HE0.out.trans hk
 have HO1:Hid (Mf y1 w.heap.size [.int .i64 1,.int .i64 100000,.string ⟨#[]⟩]):=HO0.out.kept hk (by omega)
 clear hk hy HE0 HK0 c0 c1 c2 c3 c4 c5 c6 c7 c8 c9 c10 c11 c12 c13 c14 c15 z0 z1 z2 z3 z4 z5 z6 z7 z8 z9 z10 z11 z12 z13 z14 z15
 obtain ⟨c0,c1,c2,c3,c4,c5,c6,c7,c8,c9,c10,c11,c12,c13,c14,c15,z0,z1,z2,z3,z4,z5,z6,z7,z8,z9,z10,z11,z12,z13,z14,z15⟩:=Kz.of HK1.out
 go_wp2_with fail
 clear c0 c1 c2 c3 c4 c5 c6 c7 c8 c9 c10 c11 c12 c13 c14 c15 z0 z1 z2 z3 z4 z5 z6 z7 z8 z9 z10 z11 z12 z13 z14 z15
 refine (HJ.out y1 HE1.out).mono ?_
 rintro e y2 ⟨rfl,hb⟩
 have HK2:Hid (Mf y2 p [.int .i32 1,.int .u32 0,.int .i64 st,.slice ra m.row.length rc,.int .i64 m.N,.string m.S,.int .i64 m.room,.slice va m.vals.length vc,.int .i64 m.ret,.bool m.over,.int .i64 m.steps,.int .i64 m.looks,.int .i64 m.hits,.slice ma m.memo.length mc,.string jr,.int .i64 sy]):=HK1.out.below hb
 have HO2:Hid (Mf y2 w.heap.size [.int .i64 1,.int .i64 100000,.string ⟨#[]⟩]):=HO1.out.below hb
 have HE2:Hid (Kept (fun b=>b=p) w y2):=HE1.out.trans (Kept.ofBelow hb)
 clear hb HK1 HO1 HE1 HO0
 go_wp2_with fail
 refine leaves_cons (f:=67) (args := #[.pointer (some ⟨p,0,none⟩)]) (by simp) (by simp [go_sem]) ?_
 refine (unlock_deferred muLib ⟨p,0,none⟩ .returning _ (HK2.out 0 (by simp)).1 (HK2.out 0 (by simp)).2).mono ?_
 rintro e u' y3 ⟨rfl,rfl,hy⟩
 have hk:Kept (fun b=>b=p) y2 y3:=by rw [hy];exact (Kept.refl (fun b=>b=p) y2).setCell (p:=⟨p,0,none⟩) rfl _
 have hf:Mf y3 p [.int .i32 0,.int .u32 0,.int .i64 st,.slice ra m.row.length rc,.int .i64 m.N,.string m.S,.int .i64 m.room,.slice va m.vals.length vc,.int .i64 m.ret,.bool m.over,.int .i64 m.steps,.int .i64 m.looks,.int .i64 m.hits,.slice ma m.memo.length mc,.string jr,.int .i64 sy]:=by rw [hy];exact HK2.out.set 0 (.int .i32 0)
 have hke:=HE2.out.trans hk
 clear hy
 exact ⟨_,results_tmp rfl _ _ _,⟨_,rfl⟩,hf,hke⟩
theorem iDoGo (R:Value->List Value->World->Prop) (w:World) (p:Nat) (st:Int) (m:Mc) (jr:ByteArray) (sy:Int) (ra va ma:Option Addr) (rc vc mc:Nat) (hK:Mf w p [.int .i32 0,.int .u32 0,.int .i64 st,.slice ra m.row.length rc,.int .i64 m.N,.string m.S,.int .i64 m.room,.slice va m.vals.length vc,.int .i64 m.ret,.bool m.over,.int .i64 m.steps,.int .i64 m.looks,.int .i64 m.hits,.slice ma m.memo.length mc,.string jr,.int .i64 sy]) (hj:(∀ W:World,Kept (fun b=>b=p) w W->Calls Tryz.prog 68 #[jval st m jr sy ra va ma rc vc mc] W fun e w'=>e=.returned (.bool true)/\Below W.heap.size W w'))
 (hst:∀ W,Kept (fun b=>b=p) w W->Mf W p [.int .i32 1,.int .u32 0,.int .i64 st,.slice ra m.row.length rc,.int .i64 m.N,.string m.S,.int .i64 m.room,.slice va m.vals.length vc,.int .i64 m.ret,.bool m.over,.int .i64 m.steps,.int .i64 m.looks,.int .i64 m.hits,.slice ma m.memo.length mc,.string jr,.int .i64 sy]->Calls Tryz.prog 70 #[.pointer (some ⟨p,2,none⟩),.int .i64 100000] W fun e w'=>∃ er L,e=.returned er/\R er L w'/\Mf w' p (.int .i32 1 :: .int .u32 0 :: L)/\Kept (fun b=>b=p) W w')
 (hR:∀ er L W W',Kept (fun b=>b=p) W W'->R er L W->R er L W') :
 Calls Tryz.prog 35 #[.pointer (some ⟨p,0,none⟩),.agg #[.int .i64 1,.int .i64 100000,.string ⟨#[]⟩]] w fun e w'=>∃ er L,e=.returned er/\R er L w'/\Mf w' p (.int .i32 0 :: .int .u32 0 :: L)/\Kept (fun b=>b=p) w w':=by
 have HJ:Hid (∀ W:World,Kept (fun b=>b=p) w W->Calls Tryz.prog 68 #[jval st m jr sy ra va ma rc vc mc] W fun e w'=>e=.returned (.bool true)/\Below W.heap.size W w'):=hj
 have hpw:p < w.heap.size:=hK.lt (by simp)
 obtain ⟨y0,hy0⟩:∃ y0,y0=w.alloc (.cells #[.int .i64 1,.int .i64 100000,.string ⟨#[]⟩] 47):=⟨_,rfl⟩
 have HW0:Hid (w.alloc (.cells #[.int .i64 1,.int .i64 100000,.string ⟨#[]⟩] 47)=y0):=hy0.symm
 have HK0:Hid (Mf y0 p [.int .i32 0,.int .u32 0,.int .i64 st,.slice ra m.row.length rc,.int .i64 m.N,.string m.S,.int .i64 m.room,.slice va m.vals.length vc,.int .i64 m.ret,.bool m.over,.int .i64 m.steps,.int .i64 m.looks,.int .i64 m.hits,.slice ma m.memo.length mc,.string jr,.int .i64 sy]):=by rw [hy0];exact hK.alloc _
 have HO0:Hid (Mf y0 w.heap.size [.int .i64 1,.int .i64 100000,.string ⟨#[]⟩]):=by rw [hy0];exact Mf.made _ _ _
 have HE0:Hid (Kept (fun b=>b=p) w y0):=by rw [hy0];exact (Kept.refl _ _).alloc _
 have HST:Hid (∀ W,Kept (fun b=>b=p) w W->Mf W p [.int .i32 1,.int .u32 0,.int .i64 st,.slice ra m.row.length rc,.int .i64 m.N,.string m.S,.int .i64 m.room,.slice va m.vals.length vc,.int .i64 m.ret,.bool m.over,.int .i64 m.steps,.int .i64 m.looks,.int .i64 m.hits,.slice ma m.memo.length mc,.string jr,.int .i64 sy]->Calls Tryz.prog 70 #[.pointer (some ⟨p,2,none⟩),.int .i64 100000] W fun e w'=>∃ er L,e=.returned er/\R er L w'/\Mf w' p (.int .i32 1 :: .int .u32 0 :: L)/\Kept (fun b=>b=p) W w'):=hst
 have HRR:Hid (∀ er L W W',Kept (fun b=>b=p) W W'->R er L W->R er L W'):=hR
 clear hy0 hK hj hst hR
 go_enter_defers Tryz.func35,Tryz.ntmps35
 go_wp2_with fail
 rw [HW0.out]
 clear HW0
 obtain ⟨c0,c1,c2,c3,c4,c5,c6,c7,c8,c9,c10,c11,c12,c13,c14,c15,z0,z1,z2,z3,z4,z5,z6,z7,z8,z9,z10,z11,z12,z13,z14,z15⟩:=Kz.of HK0.out
 refine (lock_free muLib ⟨p,0,none⟩ _ c0 z0).mono ?_
 rintro e y1 ⟨rfl,hy⟩
 have hk:Kept (fun b=>b=p) y0 y1:=by rw [hy];exact (Kept.refl (fun b=>b=p) y0).setCell (p:=⟨p,0,none⟩) rfl _
 have HK1:Hid (Mf y1 p [.int .i32 1,.int .u32 0,.int .i64 st,.slice ra m.row.length rc,.int .i64 m.N,.string m.S,.int .i64 m.room,.slice va m.vals.length vc,.int .i64 m.ret,.bool m.over,.int .i64 m.steps,.int .i64 m.looks,.int .i64 m.hits,.slice ma m.memo.length mc,.string jr,.int .i64 sy]):=by rw [hy];exact HK0.out.set 0 (.int .i32 1)
 have HE1:Hid (Kept (fun b=>b=p) w y1):=HE0.out.trans hk
 have HO1:Hid (Mf y1 w.heap.size [.int .i64 1,.int .i64 100000,.string ⟨#[]⟩]):=HO0.out.kept hk (by omega)
 clear hk hy HE0 HK0 c0 c1 c2 c3 c4 c5 c6 c7 c8 c9 c10 c11 c12 c13 c14 c15 z0 z1 z2 z3 z4 z5 z6 z7 z8 z9 z10 z11 z12 z13 z14 z15
 obtain ⟨c0,c1,c2,c3,c4,c5,c6,c7,c8,c9,c10,c11,c12,c13,c14,c15,z0,z1,z2,z3,z4,z5,z6,z7,z8,z9,z10,z11,z12,z13,z14,z15⟩:=Kz.of HK1.out
 go_wp2_with fail
 clear c0 c1 c2 c3 c4 c5 c6 c7 c8 c9 c10 c11 c12 c13 c14 c15 z0 z1 z2 z3 z4 z5 z6 z7 z8 z9 z10 z11 z12 z13 z14 z15
 refine (HJ.out y1 HE1.out).mono ?_
 rintro e y2 ⟨rfl,hb⟩
 have HK2:Hid (Mf y2 p [.int .i32 1,.int .u32 0,.int .i64 st,.slice ra m.row.length rc,.int .i64 m.N,.string m.S,.int .i64 m.room,.slice va m.vals.length vc,.int .i64 m.ret,.bool m.over,.int .i64 m.steps,.int .i64 m.looks,.int .i64 m.hits,.slice ma m.memo.length mc,.string jr,.int .i64 sy]):=HK1.out.below hb
 have HO2:Hid (Mf y2 w.heap.size [.int .i64 1,.int .i64 100000,.string ⟨#[]⟩]):=HO1.out.below hb
 have HE2:Hid (Kept (fun b=>b=p) w y2):=HE1.out.trans (Kept.ofBelow hb)
 clear hb HK1 HO1 HE1 HO0
 have o0:=(HO2.out 0 (by simp)).1
 have o1:=(HO2.out 1 (by simp)).1
 have O0:y2.cell? ⟨w.heap.size,0,none⟩=some (.int .i64 1):=o0
 have O1:y2.cell? ⟨w.heap.size,1,none⟩=some (.int .i64 100000):=o1
 clear o0 o1
 go_wp2_with fail
 have dd:Below y2.heap.size y2 y2.drew:=(Below.refl _ _).drew
 have LA:y2.drew.cell? ⟨w.heap.size,1,none⟩=some (.int .i64 100000):=O1
 have HKD:Hid (Mf y2.drew p [.int .i32 1,.int .u32 0,.int .i64 st,.slice ra m.row.length rc,.int .i64 m.N,.string m.S,.int .i64 m.room,.slice va m.vals.length vc,.int .i64 m.ret,.bool m.over,.int .i64 m.steps,.int .i64 m.looks,.int .i64 m.hits,.slice ma m.memo.length mc,.string jr,.int .i64 sy]):=HK2.out.below dd
 have HED:Hid (Kept (fun b=>b=p) w y2.drew):=HE2.out.drew
 have hlt:w.heap.size < y2.drew.heap.size:=lt_of_cell LA
 clear dd
 go_region_held3 (fun w'=>w'.cell? ⟨w.heap.size,1,none⟩=some (.int .i64 100000)) ((first|(with_reducible exact LA)|(with_reducible exact EA))) ((go_at_call 70;(with_reducible refine (HST.out _ HED.out HKD.out).mono ?_);rintro e yE ⟨er,L,rfl,hRE,hfE,hkE⟩;have EA:yE.cell? ⟨w.heap.size,1,none⟩=some (.int .i64 100000):=(hkE.cell (p:=⟨w.heap.size,1,none⟩) hlt (by show ¬ w.heap.size=p;omega)).trans LA;have HRE:Hid (R er L yE):=hRE;have HKE:Hid (Mf yE p (.int .i32 1 :: .int .u32 0 :: L)):=hfE;have HEE:Hid (Kept (fun b=>b=p) w yE):=HED.out.trans hkE;clear hRE hfE hkE))
 generalize yE=y3 at *
 have HK3:Hid (Mf y3 p (.int .i32 1 :: .int .u32 0 :: L)):=HKE.out
 clear LA EA hlt O0 O1 HKE HKD HED
 go_wp2_with fail
 refine leaves_cons (f:=67) (args := #[.pointer (some ⟨p,0,none⟩)]) (by simp) (by simp [go_sem]) ?_
 refine (unlock_deferred muLib ⟨p,0,none⟩ .returning _ (HK3.out 0 (by simp)).1 (HK3.out 0 (by simp)).2).mono ?_
 rintro e u' y4 ⟨rfl,rfl,hy⟩
 have hk:Kept (fun b=>b=p) y3 y4:=by rw [hy];exact (Kept.refl (fun b=>b=p) y3).setCell (p:=⟨p,0,none⟩) rfl _
 have hf:Mf y4 p (.int .i32 0 :: .int .u32 0 :: L):=by rw [hy];exact HK3.out.set 0 (.int .i32 0)
 have hr:=HRR.out _ _ _ _ hk HRE.out
 have hke:=HEE.out.trans hk
 clear hy
 exact ⟨er,by simp [results,Tryz.results35,go_sem],er,L,rfl,hr,hf,hke⟩
end Je3
end Go.Proofs.YtladjpombohpaaaGreatDoor
