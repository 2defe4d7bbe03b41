import Derived.Test.YtladjpombohpaaaGreatDoorJe4
namespace Go.Proofs.YtladjpombohpaaaGreatDoor
set_option maxRecDepth 100000
set_option maxHeartbeats 8000000
set_option linter.unusedVariables false
namespace Je5
open Go.RowKit
open Nd0 (Kept At lt_of_cell)
open Mm0 Mx0 Mu2 Mw20 Mw21 Mk3 Jb0 Jb3 Je0 Je1 Je2 Je3 Je4 Tk0
open Mm2 (mokB)
open Tc2 (sInT)
theorem sIs (w:World) (st s1:Int) (m M:Mc) (jr:ByteArray) (sy:Int) (ra va ma:Option Addr) (rc vc mc:Nat) (wa wv wm:Option Addr) (wc wd we:Nat) (hs:s1=(if M.over then 2 else 1)) :
 Calls Tryz.prog 26 #[jval st m jr sy ra va ma rc vc mc,mval M wa wv wm wc wd we] w fun e w'=>e=.returned (jval s1 M jr sy wa wv wm wc wd we)/\Below w.heap.size w w':=by
 obtain ⟨y0,hy0⟩:∃ y0,y0=(((w.alloc (.cells #[.int .i64 st,.slice ra m.row.length rc,.int .i64 m.N,.string m.S,.int .i64 m.room,.slice va m.vals.length vc,.int .i64 m.ret,.bool m.over,.int .i64 m.steps,.int .i64 m.looks,.int .i64 m.hits,.slice ma m.memo.length mc,.string jr,.int .i64 sy] 37)).alloc (.cells #[.slice wa M.row.length wc,.int .i64 M.N,.string M.S,.int .i64 M.room,.slice wv M.vals.length wd,.int .i64 M.ret,.bool M.over,.int .i64 M.steps,.int .i64 M.looks,.int .i64 M.hits,.slice wm M.memo.length we] 35)).alloc (.cells #[.int .i64 0,.slice none 0 0,.int .i64 0,.string ⟨#[]⟩,.int .i64 0,.slice none 0 0,.int .i64 0,.bool false,.int .i64 0,.int .i64 0,.int .i64 0,.slice none 0 0,.string ⟨#[]⟩,.int .i64 0] 37)):=⟨_,rfl⟩
 have HW0:Hid ((((w.alloc (.cells #[.int .i64 st,.slice ra m.row.length rc,.int .i64 m.N,.string m.S,.int .i64 m.room,.slice va m.vals.length vc,.int .i64 m.ret,.bool m.over,.int .i64 m.steps,.int .i64 m.looks,.int .i64 m.hits,.slice ma m.memo.length mc,.string jr,.int .i64 sy] 37)).alloc (.cells #[.slice wa M.row.length wc,.int .i64 M.N,.string M.S,.int .i64 M.room,.slice wv M.vals.length wd,.int .i64 M.ret,.bool M.over,.int .i64 M.steps,.int .i64 M.looks,.int .i64 M.hits,.slice wm M.memo.length we] 35)).alloc (.cells #[.int .i64 0,.slice none 0 0,.int .i64 0,.string ⟨#[]⟩,.int .i64 0,.slice none 0 0,.int .i64 0,.bool false,.int .i64 0,.int .i64 0,.int .i64 0,.slice none 0 0,.string ⟨#[]⟩,.int .i64 0] 37))=y0):=hy0.symm
 have s1:(w.alloc (.cells #[.int .i64 st,.slice ra m.row.length rc,.int .i64 m.N,.string m.S,.int .i64 m.room,.slice va m.vals.length vc,.int .i64 m.ret,.bool m.over,.int .i64 m.steps,.int .i64 m.looks,.int .i64 m.hits,.slice ma m.memo.length mc,.string jr,.int .i64 sy] 37)).heap.size=w.heap.size+1:=by simp
 have s2:((w.alloc (.cells #[.int .i64 st,.slice ra m.row.length rc,.int .i64 m.N,.string m.S,.int .i64 m.room,.slice va m.vals.length vc,.int .i64 m.ret,.bool m.over,.int .i64 m.steps,.int .i64 m.looks,.int .i64 m.hits,.slice ma m.memo.length mc,.string jr,.int .i64 sy] 37)).alloc (.cells #[.slice wa M.row.length wc,.int .i64 M.N,.string M.S,.int .i64 M.room,.slice wv M.vals.length wd,.int .i64 M.ret,.bool M.over,.int .i64 M.steps,.int .i64 M.looks,.int .i64 M.hits,.slice wm M.memo.length we] 35)).heap.size=w.heap.size+1+1:=by simp
 have HA0:Hid (Mf y0 w.heap.size [.int .i64 st,.slice ra m.row.length rc,.int .i64 m.N,.string m.S,.int .i64 m.room,.slice va m.vals.length vc,.int .i64 m.ret,.bool m.over,.int .i64 m.steps,.int .i64 m.looks,.int .i64 m.hits,.slice ma m.memo.length mc,.string jr,.int .i64 sy]):=by rw [hy0];exact ((Mf.made _ _ _).alloc _).alloc _
 have HI0:Hid (Mf y0 (w.heap.size+1) [.slice wa M.row.length wc,.int .i64 M.N,.string M.S,.int .i64 M.room,.slice wv M.vals.length wd,.int .i64 M.ret,.bool M.over,.int .i64 M.steps,.int .i64 M.looks,.int .i64 M.hits,.slice wm M.memo.length we]):=by
  have h1:=(Mf.made (w.alloc (.cells #[.int .i64 st,.slice ra m.row.length rc,.int .i64 m.N,.string m.S,.int .i64 m.room,.slice va m.vals.length vc,.int .i64 m.ret,.bool m.over,.int .i64 m.steps,.int .i64 m.looks,.int .i64 m.hits,.slice ma m.memo.length mc,.string jr,.int .i64 sy] 37)) #[.slice wa M.row.length wc,.int .i64 M.N,.string M.S,.int .i64 M.room,.slice wv M.vals.length wd,.int .i64 M.ret,.bool M.over,.int .i64 M.steps,.int .i64 M.looks,.int .i64 M.hits,.slice wm M.memo.length we] 35).alloc (.cells #[.int .i64 0,.slice none 0 0,.int .i64 0,.string ⟨#[]⟩,.int .i64 0,.slice none 0 0,.int .i64 0,.bool false,.int .i64 0,.int .i64 0,.int .i64 0,.slice none 0 0,.string ⟨#[]⟩,.int .i64 0] 37)
  rw [s1,<- hy0] at h1
  exact h1
 have HZ0:Hid (Mf y0 (w.heap.size+1+1) [.int .i64 0,.slice none 0 0,.int .i64 0,.string ⟨#[]⟩,.int .i64 0,.slice none 0 0,.int .i64 0,.bool false,.int .i64 0,.int .i64 0,.int .i64 0,.slice none 0 0,.string ⟨#[]⟩,.int .i64 0]):=by
  have h1:=Mf.made ((w.alloc (.cells #[.int .i64 st,.slice ra m.row.length rc,.int .i64 m.N,.string m.S,.int .i64 m.room,.slice va m.vals.length vc,.int .i64 m.ret,.bool m.over,.int .i64 m.steps,.int .i64 m.looks,.int .i64 m.hits,.slice ma m.memo.length mc,.string jr,.int .i64 sy] 37)).alloc (.cells #[.slice wa M.row.length wc,.int .i64 M.N,.string M.S,.int .i64 M.room,.slice wv M.vals.length wd,.int .i64 M.ret,.bool M.over,.int .i64 M.steps,.int .i64 M.looks,.int .i64 M.hits,.slice wm M.memo.length we] 35)) #[.int .i64 0,.slice none 0 0,.int .i64 0,.string ⟨#[]⟩,.int .i64 0,.slice none 0 0,.int .i64 0,.bool false,.int .i64 0,.int .i64 0,.int .i64 0,.slice none 0 0,.string ⟨#[]⟩,.int .i64 0] 37
  rw [s2,<- hy0] at h1
  exact h1
 have HB0:Hid (Below w.heap.size w y0):=by rw [hy0];exact (((Below.refl _ _).alloc (Nat.le_refl _) _).alloc (by simp) _).alloc (by simp;omega) _
 clear hy0 s1 s2
 go_enter Tryz.func26,Tryz.ntmps26
 go_upto_region 1 with fail
 rw [HW0.out]
 clear HW0
 obtain ⟨c0,c1,c2,c3,c4,c5,c6,c7,c8,c9,c10,c11,c12,c13,x0,x1,x2,x3,x4,x5,x6,x7,x8,x9,x10,x11,x12,x13⟩:=Jz.of HA0.out
 obtain ⟨d0,d1,d2,d3,d4,d5,d6,d7,d8,d9,d10,d11,d12,d13,z0,z1,z2,z3,z4,z5,z6,z7,z8,z9,z10,z11,z12,z13⟩:=Jz.of HZ0.out
 obtain ⟨e0,e1,e2,e3,e4,e5,e6,e7,e8,e9,e10,f0,f1,f2,f3,f4,f5,f6,f7,f8,f9,f10⟩:=HI0.out.all
 go_upto_region 2 with fail
 clear c0 c1 c2 c3 c4 c5 c6 c7 c8 c9 c10 c11 c12 c13 x0 x1 x2 x3 x4 x5 x6 x7 x8 x9 x10 x11 x12 x13 d0 d1 d2 d3 d4 d5 d6 d7 d8 d9 d10 d11 d12 d13 z0 z1 z2 z3 z4 z5 z6 z7 z8 z9 z10 z11 z12 z13 e0 e1 e2 e3 e4 e5 e6 e7 e8 e9 e10 f0 f1 f2 f3 f4 f5 f6 f7 f8 f9 f10
 obtain ⟨y1,hy⟩:∃ y1,y1=(((((((((((y0).setCell ⟨w.heap.size,1,none⟩ (.slice wa M.row.length wc)).setCell ⟨w.heap.size,2,none⟩ (.int .i64 M.N)).setCell ⟨w.heap.size,3,none⟩ (.string M.S)).setCell ⟨w.heap.size,4,none⟩ (.int .i64 M.room)).setCell ⟨w.heap.size,5,none⟩ (.slice wv M.vals.length wd)).setCell ⟨w.heap.size,6,none⟩ (.int .i64 M.ret)).setCell ⟨w.heap.size,7,none⟩ (.bool M.over)).setCell ⟨w.heap.size,8,none⟩ (.int .i64 M.steps)).setCell ⟨w.heap.size,9,none⟩ (.int .i64 M.looks)).setCell ⟨w.heap.size,10,none⟩ (.int .i64 M.hits)).setCell ⟨w.heap.size,11,none⟩ (.slice wm M.memo.length we):=⟨_,rfl⟩
 rw [<- hy]
 have hk:Kept (fun b=>b=w.heap.size) y0 y1:=by rw [hy];exact (((((((((((Kept.refl (fun b=>b=w.heap.size) y0).setCell (p:=⟨w.heap.size,1,none⟩) (rfl) _).setCell (p:=⟨w.heap.size,2,none⟩) (rfl) _).setCell (p:=⟨w.heap.size,3,none⟩) (rfl) _).setCell (p:=⟨w.heap.size,4,none⟩) (rfl) _).setCell (p:=⟨w.heap.size,5,none⟩) (rfl) _).setCell (p:=⟨w.heap.size,6,none⟩) (rfl) _).setCell (p:=⟨w.heap.size,7,none⟩) (rfl) _).setCell (p:=⟨w.heap.size,8,none⟩) (rfl) _).setCell (p:=⟨w.heap.size,9,none⟩) (rfl) _).setCell (p:=⟨w.heap.size,10,none⟩) (rfl) _).setCell (p:=⟨w.heap.size,11,none⟩) (rfl) _
 have HA1:Hid (Mf y1 w.heap.size [.int .i64 st,.slice wa M.row.length wc,.int .i64 M.N,.string M.S,.int .i64 M.room,.slice wv M.vals.length wd,.int .i64 M.ret,.bool M.over,.int .i64 M.steps,.int .i64 M.looks,.int .i64 M.hits,.slice wm M.memo.length we,.string jr,.int .i64 sy]):=by rw [hy];exact (((((((((((HA0.out).set 1 (.slice wa M.row.length wc)).set 2 (.int .i64 M.N)).set 3 (.string M.S)).set 4 (.int .i64 M.room)).set 5 (.slice wv M.vals.length wd)).set 6 (.int .i64 M.ret)).set 7 (.bool M.over)).set 8 (.int .i64 M.steps)).set 9 (.int .i64 M.looks)).set 10 (.int .i64 M.hits)).set 11 (.slice wm M.memo.length we)
 have HZ1:Hid (Mf y1 (w.heap.size+1+1) [.int .i64 0,.slice none 0 0,.int .i64 0,.string ⟨#[]⟩,.int .i64 0,.slice none 0 0,.int .i64 0,.bool false,.int .i64 0,.int .i64 0,.int .i64 0,.slice none 0 0,.string ⟨#[]⟩,.int .i64 0]):=HZ0.out.kept hk (by omega)
 have HI1:Hid (Mf y1 (w.heap.size+1) [.slice wa M.row.length wc,.int .i64 M.N,.string M.S,.int .i64 M.room,.slice wv M.vals.length wd,.int .i64 M.ret,.bool M.over,.int .i64 M.steps,.int .i64 M.looks,.int .i64 M.hits,.slice wm M.memo.length we]):=HI0.out.kept hk (by omega)
 have HB1:Hid (Below w.heap.size w y1):=HB0.out.trans (hk.below (fun k hk=>by omega) HB0.out.size)
 clear hy hk HA0 HZ0 HI0 HB0
 obtain ⟨c0,c1,c2,c3,c4,c5,c6,c7,c8,c9,c10,c11,c12,c13,x0,x1,x2,x3,x4,x5,x6,x7,x8,x9,x10,x11,x12,x13⟩:=Jz.of HA1.out
 obtain ⟨d0,d1,d2,d3,d4,d5,d6,d7,d8,d9,d10,d11,d12,d13,z0,z1,z2,z3,z4,z5,z6,z7,z8,z9,z10,z11,z12,z13⟩:=Jz.of HZ1.out
 have e6:y1.cell? ⟨w.heap.size+1,6,none⟩=some (.bool M.over):=(HI1.out 6 (by simp)).1
 by_cases ho:M.over=true
 ·have hs2:=hs.trans (if_pos ho)
  clear hs
  subst hs2
  go_wp2
  clear c0 c1 c2 c3 c4 c5 c6 c7 c8 c9 c10 c11 c12 c13 x0 x1 x2 x3 x4 x5 x6 x7 x8 x9 x10 x11 x12 x13 d0 d1 d2 d3 d4 d5 d6 d7 d8 d9 d10 d11 d12 d13 z0 z1 z2 z3 z4 z5 z6 z7 z8 z9 z10 z11 z12 z13 e6
  obtain ⟨WF,hWF⟩:∃ WF,WF=((((((((((((((((y1).setCell ⟨w.heap.size,0,none⟩ (.int .i64 1)).setCell ⟨w.heap.size,0,none⟩ (.int .i64 2)).setCell ⟨w.heap.size+1+1,0,none⟩ (.int .i64 2)).setCell ⟨w.heap.size+1+1,1,none⟩ (.slice wa M.row.length wc)).setCell ⟨w.heap.size+1+1,2,none⟩ (.int .i64 M.N)).setCell ⟨w.heap.size+1+1,3,none⟩ (.string M.S)).setCell ⟨w.heap.size+1+1,4,none⟩ (.int .i64 M.room)).setCell ⟨w.heap.size+1+1,5,none⟩ (.slice wv M.vals.length wd)).setCell ⟨w.heap.size+1+1,6,none⟩ (.int .i64 M.ret)).setCell ⟨w.heap.size+1+1,7,none⟩ (.bool true)).setCell ⟨w.heap.size+1+1,8,none⟩ (.int .i64 M.steps)).setCell ⟨w.heap.size+1+1,9,none⟩ (.int .i64 M.looks)).setCell ⟨w.heap.size+1+1,10,none⟩ (.int .i64 M.hits)).setCell ⟨w.heap.size+1+1,11,none⟩ (.slice wm M.memo.length we)).setCell ⟨w.heap.size+1+1,12,none⟩ (.string jr)).setCell ⟨w.heap.size+1+1,13,none⟩ (.int .i64 sy):=⟨_,rfl⟩
  rw [<- hWF]
  have KF:Kept (fun b=>b=w.heap.size\/b=w.heap.size+1+1) y1 WF:=by rw [hWF];exact ((((((((((((((((Kept.refl (fun b=>b=w.heap.size\/b=w.heap.size+1+1) y1).setCell (p:=⟨w.heap.size,0,none⟩) (.inl rfl) _).setCell (p:=⟨w.heap.size,0,none⟩) (.inl rfl) _).setCell (p:=⟨w.heap.size+1+1,0,none⟩) (.inr rfl) _).setCell (p:=⟨w.heap.size+1+1,1,none⟩) (.inr rfl) _).setCell (p:=⟨w.heap.size+1+1,2,none⟩) (.inr rfl) _).setCell (p:=⟨w.heap.size+1+1,3,none⟩) (.inr rfl) _).setCell (p:=⟨w.heap.size+1+1,4,none⟩) (.inr rfl) _).setCell (p:=⟨w.heap.size+1+1,5,none⟩) (.inr rfl) _).setCell (p:=⟨w.heap.size+1+1,6,none⟩) (.inr rfl) _).setCell (p:=⟨w.heap.size+1+1,7,none⟩) (.inr rfl) _).setCell (p:=⟨w.heap.size+1+1,8,none⟩) (.inr rfl) _).setCell (p:=⟨w.heap.size+1+1,9,none⟩) (.inr rfl) _).setCell (p:=⟨w.heap.size+1+1,10,none⟩) (.inr rfl) _).setCell (p:=⟨w.heap.size+1+1,11,none⟩) (.inr rfl) _).setCell (p:=⟨w.heap.size+1+1,12,none⟩) (.inr rfl) _).setCell (p:=⟨w.heap.size+1+1,13,none⟩) (.inr rfl) _
  have HF:Mf WF (w.heap.size+1+1) [.int .i64 2,.slice wa M.row.length wc,.int .i64 M.N,.string M.S,.int .i64 M.room,.slice wv M.vals.length wd,.int .i64 M.ret,.bool true,.int .i64 M.steps,.int .i64 M.looks,.int .i64 M.hits,.slice wm M.memo.length we,.string jr,.int .i64 sy]:=by
   rw [hWF]
   have hO:Mf (((y1).setCell ⟨w.heap.size,0,none⟩ (.int .i64 1)).setCell ⟨w.heap.size,0,none⟩ (.int .i64 2)) (w.heap.size+1+1) [.int .i64 0,.slice none 0 0,.int .i64 0,.string ⟨#[]⟩,.int .i64 0,.slice none 0 0,.int .i64 0,.bool false,.int .i64 0,.int .i64 0,.int .i64 0,.slice none 0 0,.string ⟨#[]⟩,.int .i64 0]:=HZ1.out.kept (((Kept.refl (fun b=>b=w.heap.size) y1).setCell (p:=⟨w.heap.size,0,none⟩) (rfl) _).setCell (p:=⟨w.heap.size,0,none⟩) (rfl) _) (by omega)
   exact ((((((((((((((hO).set 0 (.int .i64 2)).set 1 (.slice wa M.row.length wc)).set 2 (.int .i64 M.N)).set 3 (.string M.S)).set 4 (.int .i64 M.room)).set 5 (.slice wv M.vals.length wd)).set 6 (.int .i64 M.ret)).set 7 (.bool true)).set 8 (.int .i64 M.steps)).set 9 (.int .i64 M.looks)).set 10 (.int .i64 M.hits)).set 11 (.slice wm M.memo.length we)).set 12 (.string jr)).set 13 (.int .i64 sy)
  obtain ⟨c0,c1,c2,c3,c4,c5,c6,c7,c8,c9,c10,c11,c12,c13,x0,x1,x2,x3,x4,x5,x6,x7,x8,x9,x10,x11,x12,x13⟩:=Jz.of HF
  have fb:Below w.heap.size w WF:=HB1.out.trans (KF.below (fun b hb=>by omega) HB1.out.size)
  clear hWF HF KF
  refine bodyPost_ret (v:=.agg #[.int .i64 2,.slice wa M.row.length wc,.int .i64 M.N,.string M.S,.int .i64 M.room,.slice wv M.vals.length wd,.int .i64 M.ret,.bool true,.int .i64 M.steps,.int .i64 M.looks,.int .i64 M.hits,.slice wm M.memo.length we,.string jr,.int .i64 sy]) (by simp [results,Tryz.results26,go_sem,c0,c1,c2,c3,c4,c5,c6,c7,c8,c9,c10,c11,c12,c13]) rfl ⟨by simp [jval,ho],fb⟩
 ·have hs2:=hs.trans (if_neg ho)
  clear hs
  subst hs2
  go_wp2
  clear c0 c1 c2 c3 c4 c5 c6 c7 c8 c9 c10 c11 c12 c13 x0 x1 x2 x3 x4 x5 x6 x7 x8 x9 x10 x11 x12 x13 d0 d1 d2 d3 d4 d5 d6 d7 d8 d9 d10 d11 d12 d13 z0 z1 z2 z3 z4 z5 z6 z7 z8 z9 z10 z11 z12 z13 e6
  obtain ⟨WF,hWF⟩:∃ WF,WF=(((((((((((((((y1).setCell ⟨w.heap.size,0,none⟩ (.int .i64 1)).setCell ⟨w.heap.size+1+1,0,none⟩ (.int .i64 1)).setCell ⟨w.heap.size+1+1,1,none⟩ (.slice wa M.row.length wc)).setCell ⟨w.heap.size+1+1,2,none⟩ (.int .i64 M.N)).setCell ⟨w.heap.size+1+1,3,none⟩ (.string M.S)).setCell ⟨w.heap.size+1+1,4,none⟩ (.int .i64 M.room)).setCell ⟨w.heap.size+1+1,5,none⟩ (.slice wv M.vals.length wd)).setCell ⟨w.heap.size+1+1,6,none⟩ (.int .i64 M.ret)).setCell ⟨w.heap.size+1+1,7,none⟩ (.bool false)).setCell ⟨w.heap.size+1+1,8,none⟩ (.int .i64 M.steps)).setCell ⟨w.heap.size+1+1,9,none⟩ (.int .i64 M.looks)).setCell ⟨w.heap.size+1+1,10,none⟩ (.int .i64 M.hits)).setCell ⟨w.heap.size+1+1,11,none⟩ (.slice wm M.memo.length we)).setCell ⟨w.heap.size+1+1,12,none⟩ (.string jr)).setCell ⟨w.heap.size+1+1,13,none⟩ (.int .i64 sy):=⟨_,rfl⟩
  rw [<- hWF]
  have KF:Kept (fun b=>b=w.heap.size\/b=w.heap.size+1+1) y1 WF:=by rw [hWF];exact (((((((((((((((Kept.refl (fun b=>b=w.heap.size\/b=w.heap.size+1+1) y1).setCell (p:=⟨w.heap.size,0,none⟩) (.inl rfl) _).setCell (p:=⟨w.heap.size+1+1,0,none⟩) (.inr rfl) _).setCell (p:=⟨w.heap.size+1+1,1,none⟩) (.inr rfl) _).setCell (p:=⟨w.heap.size+1+1,2,none⟩) (.inr rfl) _).setCell (p:=⟨w.heap.size+1+1,3,none⟩) (.inr rfl) _).setCell (p:=⟨w.heap.size+1+1,4,none⟩) (.inr rfl) _).setCell (p:=⟨w.heap.size+1+1,5,none⟩) (.inr rfl) _).setCell (p:=⟨w.heap.size+1+1,6,none⟩) (.inr rfl) _).setCell (p:=⟨w.heap.size+1+1,7,none⟩) (.inr rfl) _).setCell (p:=⟨w.heap.size+1+1,8,none⟩) (.inr rfl) _).setCell (p:=⟨w.heap.size+1+1,9,none⟩) (.inr rfl) _).setCell (p:=⟨w.heap.size+1+1,10,none⟩) (.inr rfl) _).setCell (p:=⟨w.heap.size+1+1,11,none⟩) (.inr rfl) _).setCell (p:=⟨w.heap.size+1+1,12,none⟩) (.inr rfl) _).setCell (p:=⟨w.heap.size+1+1,13,none⟩) (.inr rfl) _
  have HF:Mf WF (w.heap.size+1+1) [.int .i64 1,.slice wa M.row.length wc,.int .i64 M.N,.string M.S,.int .i64 M.room,.slice wv M.vals.length wd,.int .i64 M.ret,.bool false,.int .i64 M.steps,.int .i64 M.looks,.int .i64 M.hits,.slice wm M.memo.length we,.string jr,.int .i64 sy]:=by
   rw [hWF]
   have hO:Mf ((y1).setCell ⟨w.heap.size,0,none⟩ (.int .i64 1)) (w.heap.size+1+1) [.int .i64 0,.slice none 0 0,.int .i64 0,.string ⟨#[]⟩,.int .i64 0,.slice none 0 0,.int .i64 0,.bool false,.int .i64 0,.int .i64 0,.int .i64 0,.slice none 0 0,.string ⟨#[]⟩,.int .i64 0]:=HZ1.out.kept ((Kept.refl (fun b=>b=w.heap.size) y1).setCell (p:=⟨w.heap.size,0,none⟩) (rfl) _) (by omega)
   exact ((((((((((((((hO).set 0 (.int .i64 1)).set 1 (.slice wa M.row.length wc)).set 2 (.int .i64 M.N)).set 3 (.string M.S)).set 4 (.int .i64 M.room)).set 5 (.slice wv M.vals.length wd)).set 6 (.int .i64 M.ret)).set 7 (.bool false)).set 8 (.int .i64 M.steps)).set 9 (.int .i64 M.looks)).set 10 (.int .i64 M.hits)).set 11 (.slice wm M.memo.length we)).set 12 (.string jr)).set 13 (.int .i64 sy)
  obtain ⟨c0,c1,c2,c3,c4,c5,c6,c7,c8,c9,c10,c11,c12,c13,x0,x1,x2,x3,x4,x5,x6,x7,x8,x9,x10,x11,x12,x13⟩:=Jz.of HF
  have fb:Below w.heap.size w WF:=HB1.out.trans (KF.below (fun b hb=>by omega) HB1.out.size)
  clear hWF HF KF
  refine bodyPost_ret (v:=.agg #[.int .i64 1,.slice wa M.row.length wc,.int .i64 M.N,.string M.S,.int .i64 M.room,.slice wv M.vals.length wd,.int .i64 M.ret,.bool false,.int .i64 M.steps,.int .i64 M.looks,.int .i64 M.hits,.slice wm M.memo.length we,.string jr,.int .i64 sy]) (by simp [results,Tryz.results26,go_sem,c0,c1,c2,c3,c4,c5,c6,c7,c8,c9,c10,c11,c12,c13]) rfl ⟨by simp [jval,ho],fb⟩
theorem ssOf (W:World) (b:Nat) (m:Mc) (jr:ByteArray) (sy:Int) (ra va ma:Option Addr) (rc vc mc:Nat) (h:Mf W b [.int .i64 1,.slice ra m.row.length rc,.int .i64 m.N,.string m.S,.int .i64 m.room,.slice va m.vals.length vc,.int .i64 m.ret,.bool m.over,.int .i64 m.steps,.int .i64 m.looks,.int .i64 m.hits,.slice ma m.memo.length mc,.string jr,.int .i64 sy]) (ho:Mf W (b+1) [.int .i64 1,.int .i64 100000,.string ⟨#[]⟩]):W.cell? ⟨b,0,none⟩=some (.int .i64 1)/\W.cell? ⟨b,1,none⟩=some (.slice ra m.row.length rc)/\W.cell? ⟨b,2,none⟩=some (.int .i64 m.N)/\W.cell? ⟨b,3,none⟩=some (.string m.S)/\W.cell? ⟨b,4,none⟩=some (.int .i64 m.room)/\W.cell? ⟨b,5,none⟩=some (.slice va m.vals.length vc)/\W.cell? ⟨b,6,none⟩=some (.int .i64 m.ret)/\W.cell? ⟨b,7,none⟩=some (.bool m.over)/\W.cell? ⟨b,8,none⟩=some (.int .i64 m.steps)/\W.cell? ⟨b,9,none⟩=some (.int .i64 m.looks)/\W.cell? ⟨b,10,none⟩=some (.int .i64 m.hits)/\W.cell? ⟨b,11,none⟩=some (.slice ma m.memo.length mc)/\W.cell? ⟨b,12,none⟩=some (.string jr)/\W.cell? ⟨b,13,none⟩=some (.int .i64 sy)/\W.cell? ⟨b+1,1,none⟩=some (.int .i64 100000):=by
 obtain ⟨c0,c1,c2,c3,c4,c5,c6,c7,c8,c9,c10,c11,c12,c13,x0,x1,x2,x3,x4,x5,x6,x7,x8,x9,x10,x11,x12,x13⟩:=Jz.of h
 exact ⟨c0,c1,c2,c3,c4,c5,c6,c7,c8,c9,c10,c11,c12,c13,(ho 1 (by simp)).1⟩
end Je5
namespace Je6
open Go.RowKit
open Nd0 (Kept At lt_of_cell)
open Mm0 Mx0 Mu2 Mw20 Mw21 Mk3 Jb0 Jb3 Je0 Je1 Je2 Je3 Je4 Je5 Tk0
open Mm2 (mokB)
open Tc2 (sInT)
theorem sDoNo (w:World) (st:Int) (m:Mc) (jr:ByteArray) (sy:Int) (ra va ma:Option Addr) (rc vc mc:Nat) (hR:Mr w m ra va ma) (hr:m.row.length<=1048576) (hv:m.vals.length<=1048576) (hm:m.memo.length<=1048576) (hj:(∀ (W:World) ra va ma rc vc mc,Mr W m ra va ma->Calls Tryz.prog 23 #[jval st m jr sy ra va ma rc vc mc] W fun e w'=>e=.returned (.bool false)/\Below W.heap.size W w')) :
 Calls Tryz.prog 12 #[jval st m jr sy ra va ma rc vc mc,.agg #[.int .i64 1,.int .i64 100000,.string ⟨#[]⟩]] w (JOut w st m jr sy 5):=by
 have HR:Hid (Mr w m ra va ma):=hR
 have HJ:Hid (∀ (W:World) ra va ma rc vc mc,Mr W m ra va ma->Calls Tryz.prog 23 #[jval st m jr sy ra va ma rc vc mc] W fun e w'=>e=.returned (.bool false)/\Below W.heap.size W w'):=hj
 clear hR hj
 obtain ⟨y0,hy0⟩:∃ y0,y0=(((w.alloc (.cells #[.int .i64 st,.slice ra m.row.length rc,.int .i64 m.N,.string m.S,.int .i64 m.room,.slice va m.vals.length vc,.int .i64 m.ret,.bool m.over,.int .i64 m.steps,.int .i64 m.looks,.int .i64 m.hits,.slice ma m.memo.length mc,.string jr,.int .i64 sy] 37)).alloc (.cells #[.int .i64 1,.int .i64 100000,.string ⟨#[]⟩] 47)).alloc (.cells #[.int .i64 0,.slice none 0 0,.int .i64 0,.string ⟨#[]⟩,.int .i64 0,.slice none 0 0,.int .i64 0,.bool false,.int .i64 0,.int .i64 0,.int .i64 0,.slice none 0 0,.string ⟨#[]⟩,.int .i64 0] 37)):=⟨_,rfl⟩
 have HW0:Hid ((((w.alloc (.cells #[.int .i64 st,.slice ra m.row.length rc,.int .i64 m.N,.string m.S,.int .i64 m.room,.slice va m.vals.length vc,.int .i64 m.ret,.bool m.over,.int .i64 m.steps,.int .i64 m.looks,.int .i64 m.hits,.slice ma m.memo.length mc,.string jr,.int .i64 sy] 37)).alloc (.cells #[.int .i64 1,.int .i64 100000,.string ⟨#[]⟩] 47)).alloc (.cells #[.int .i64 0,.slice none 0 0,.int .i64 0,.string ⟨#[]⟩,.int .i64 0,.slice none 0 0,.int .i64 0,.bool false,.int .i64 0,.int .i64 0,.int .i64 0,.slice none 0 0,.string ⟨#[]⟩,.int .i64 0] 37))=y0):=hy0.symm
 have s1:(w.alloc (.cells #[.int .i64 st,.slice ra m.row.length rc,.int .i64 m.N,.string m.S,.int .i64 m.room,.slice va m.vals.length vc,.int .i64 m.ret,.bool m.over,.int .i64 m.steps,.int .i64 m.looks,.int .i64 m.hits,.slice ma m.memo.length mc,.string jr,.int .i64 sy] 37)).heap.size=w.heap.size+1:=by simp
 have s2:((w.alloc (.cells #[.int .i64 st,.slice ra m.row.length rc,.int .i64 m.N,.string m.S,.int .i64 m.room,.slice va m.vals.length vc,.int .i64 m.ret,.bool m.over,.int .i64 m.steps,.int .i64 m.looks,.int .i64 m.hits,.slice ma m.memo.length mc,.string jr,.int .i64 sy] 37)).alloc (.cells #[.int .i64 1,.int .i64 100000,.string ⟨#[]⟩] 47)).heap.size=w.heap.size+1+1:=by simp
 have HA0:Hid (Mf y0 w.heap.size [.int .i64 st,.slice ra m.row.length rc,.int .i64 m.N,.string m.S,.int .i64 m.room,.slice va m.vals.length vc,.int .i64 m.ret,.bool m.over,.int .i64 m.steps,.int .i64 m.looks,.int .i64 m.hits,.slice ma m.memo.length mc,.string jr,.int .i64 sy]):=by rw [hy0];exact ((Mf.made _ _ _).alloc _).alloc _
 have HO0:Hid (Mf y0 (w.heap.size+1) [.int .i64 1,.int .i64 100000,.string ⟨#[]⟩]):=by
  have h1:=(Mf.made (w.alloc (.cells #[.int .i64 st,.slice ra m.row.length rc,.int .i64 m.N,.string m.S,.int .i64 m.room,.slice va m.vals.length vc,.int .i64 m.ret,.bool m.over,.int .i64 m.steps,.int .i64 m.looks,.int .i64 m.hits,.slice ma m.memo.length mc,.string jr,.int .i64 sy] 37)) #[.int .i64 1,.int .i64 100000,.string ⟨#[]⟩] 47).alloc (.cells #[.int .i64 0,.slice none 0 0,.int .i64 0,.string ⟨#[]⟩,.int .i64 0,.slice none 0 0,.int .i64 0,.bool false,.int .i64 0,.int .i64 0,.int .i64 0,.slice none 0 0,.string ⟨#[]⟩,.int .i64 0] 37)
  rw [s1,<- hy0] at h1
  exact h1
 have HZ0:Hid (Mf y0 (w.heap.size+1+1) [.int .i64 0,.slice none 0 0,.int .i64 0,.string ⟨#[]⟩,.int .i64 0,.slice none 0 0,.int .i64 0,.bool false,.int .i64 0,.int .i64 0,.int .i64 0,.slice none 0 0,.string ⟨#[]⟩,.int .i64 0]):=by
  have h1:=Mf.made ((w.alloc (.cells #[.int .i64 st,.slice ra m.row.length rc,.int .i64 m.N,.string m.S,.int .i64 m.room,.slice va m.vals.length vc,.int .i64 m.ret,.bool m.over,.int .i64 m.steps,.int .i64 m.looks,.int .i64 m.hits,.slice ma m.memo.length mc,.string jr,.int .i64 sy] 37)).alloc (.cells #[.int .i64 1,.int .i64 100000,.string ⟨#[]⟩] 47)) #[.int .i64 0,.slice none 0 0,.int .i64 0,.string ⟨#[]⟩,.int .i64 0,.slice none 0 0,.int .i64 0,.bool false,.int .i64 0,.int .i64 0,.int .i64 0,.slice none 0 0,.string ⟨#[]⟩,.int .i64 0] 37
  rw [s2,<- hy0] at h1
  exact h1
 have HS0:Hid (y0.heap.size=w.heap.size+3):=by show _=_;rw [hy0];simp
 have HB0:Hid (Below w.heap.size w y0):=by rw [hy0];exact (((Below.refl _ _).alloc (Nat.le_refl _) _).alloc (by simp) _).alloc (by simp;omega) _
 clear hy0 s1 s2
 go_enter Tryz.func12,Tryz.ntmps12
 go_upto_region 1 with fail
 rw [HW0.out]
 clear HW0
 obtain ⟨c0,c1,c2,c3,c4,c5,c6,c7,c8,c9,c10,c11,c12,c13,x0,x1,x2,x3,x4,x5,x6,x7,x8,x9,x10,x11,x12,x13⟩:=Jz.of HA0.out
 go_wp2_with fail
 clear c0 c1 c2 c3 c4 c5 c6 c7 c8 c9 c10 c11 c12 c13 x0 x1 x2 x3 x4 x5 x6 x7 x8 x9 x10 x11 x12 x13
 refine (sJCopy _ st m jr sy _ _ _ _ _ _ (HR.out.below HB0.out) hr hv hm).mono ?_
 rintro e y1 ⟨ra',va',ma',rc',vc',mc',rfl,hpo,hb⟩
 have HP1:Hid (PO y1 y0.heap.size m ra' va' ma' rc' vc' mc'):=hpo
 have HA1:Hid (Mf y1 w.heap.size [.int .i64 st,.slice ra m.row.length rc,.int .i64 m.N,.string m.S,.int .i64 m.room,.slice va m.vals.length vc,.int .i64 m.ret,.bool m.over,.int .i64 m.steps,.int .i64 m.looks,.int .i64 m.hits,.slice ma m.memo.length mc,.string jr,.int .i64 sy]):=HA0.out.below hb
 have HO1:Hid (Mf y1 (w.heap.size+1) [.int .i64 1,.int .i64 100000,.string ⟨#[]⟩]):=HO0.out.below hb
 have HZ1:Hid (Mf y1 (w.heap.size+1+1) [.int .i64 0,.slice none 0 0,.int .i64 0,.string ⟨#[]⟩,.int .i64 0,.slice none 0 0,.int .i64 0,.bool false,.int .i64 0,.int .i64 0,.int .i64 0,.slice none 0 0,.string ⟨#[]⟩,.int .i64 0]):=HZ0.out.below hb
 have HB1:Hid (Below w.heap.size w y1):=HB0.out.trans (hb.mono HB0.out.size)
 clear hpo hb HA0 HO0 HZ0 HB0
 obtain ⟨c0,c1,c2,c3,c4,c5,c6,c7,c8,c9,c10,c11,c12,c13,x0,x1,x2,x3,x4,x5,x6,x7,x8,x9,x10,x11,x12,x13⟩:=Jz.of HA1.out
 go_upto_region 2 with fail
 clear c0 c1 c2 c3 c4 c5 c6 c7 c8 c9 c10 c11 c12 c13 x0 x1 x2 x3 x4 x5 x6 x7 x8 x9 x10 x11 x12 x13
 obtain ⟨y2,hy⟩:∃ y2,y2=((((((((((((((y1).setCell ⟨w.heap.size,0,none⟩ (.int .i64 st)).setCell ⟨w.heap.size,1,none⟩ (.slice ra' m.row.length rc')).setCell ⟨w.heap.size,2,none⟩ (.int .i64 m.N)).setCell ⟨w.heap.size,3,none⟩ (.string m.S)).setCell ⟨w.heap.size,4,none⟩ (.int .i64 m.room)).setCell ⟨w.heap.size,5,none⟩ (.slice va' m.vals.length vc')).setCell ⟨w.heap.size,6,none⟩ (.int .i64 m.ret)).setCell ⟨w.heap.size,7,none⟩ (.bool m.over)).setCell ⟨w.heap.size,8,none⟩ (.int .i64 m.steps)).setCell ⟨w.heap.size,9,none⟩ (.int .i64 m.looks)).setCell ⟨w.heap.size,10,none⟩ (.int .i64 m.hits)).setCell ⟨w.heap.size,11,none⟩ (.slice ma' m.memo.length mc')).setCell ⟨w.heap.size,12,none⟩ (.string jr)).setCell ⟨w.heap.size,13,none⟩ (.int .i64 sy):=⟨_,rfl⟩
 rw [<- hy]
 have hk:Kept (fun b=>b=w.heap.size) y1 y2:=by rw [hy];exact ((((((((((((((Kept.refl (fun b=>b=w.heap.size) y1).setCell (p:=⟨w.heap.size,0,none⟩) (rfl) _).setCell (p:=⟨w.heap.size,1,none⟩) (rfl) _).setCell (p:=⟨w.heap.size,2,none⟩) (rfl) _).setCell (p:=⟨w.heap.size,3,none⟩) (rfl) _).setCell (p:=⟨w.heap.size,4,none⟩) (rfl) _).setCell (p:=⟨w.heap.size,5,none⟩) (rfl) _).setCell (p:=⟨w.heap.size,6,none⟩) (rfl) _).setCell (p:=⟨w.heap.size,7,none⟩) (rfl) _).setCell (p:=⟨w.heap.size,8,none⟩) (rfl) _).setCell (p:=⟨w.heap.size,9,none⟩) (rfl) _).setCell (p:=⟨w.heap.size,10,none⟩) (rfl) _).setCell (p:=⟨w.heap.size,11,none⟩) (rfl) _).setCell (p:=⟨w.heap.size,12,none⟩) (rfl) _).setCell (p:=⟨w.heap.size,13,none⟩) (rfl) _
 have s0:=HS0.out
 have HA2:Hid (Mf y2 w.heap.size [.int .i64 st,.slice ra' m.row.length rc',.int .i64 m.N,.string m.S,.int .i64 m.room,.slice va' m.vals.length vc',.int .i64 m.ret,.bool m.over,.int .i64 m.steps,.int .i64 m.looks,.int .i64 m.hits,.slice ma' m.memo.length mc',.string jr,.int .i64 sy]):=by rw [hy];exact ((((((((((((((HA1.out).set 0 (.int .i64 st)).set 1 (.slice ra' m.row.length rc')).set 2 (.int .i64 m.N)).set 3 (.string m.S)).set 4 (.int .i64 m.room)).set 5 (.slice va' m.vals.length vc')).set 6 (.int .i64 m.ret)).set 7 (.bool m.over)).set 8 (.int .i64 m.steps)).set 9 (.int .i64 m.looks)).set 10 (.int .i64 m.hits)).set 11 (.slice ma' m.memo.length mc')).set 12 (.string jr)).set 13 (.int .i64 sy)
 have HP2:Hid (PO y2 y0.heap.size m ra' va' ma' rc' vc' mc'):=HP1.out.kept hk (fun b hb h=>by have:=(HP1.out.ge (.inl hb)).1;omega) (fun b hb h=>by have:=(HP1.out.ge (.inr (.inl hb))).1;omega) (fun b hb h=>by have:=(HP1.out.ge (.inr (.inr hb))).1;omega)
 have HO2:Hid (Mf y2 (w.heap.size+1) [.int .i64 1,.int .i64 100000,.string ⟨#[]⟩]):=HO1.out.kept hk (by omega)
 have HZ2:Hid (Mf y2 (w.heap.size+1+1) [.int .i64 0,.slice none 0 0,.int .i64 0,.string ⟨#[]⟩,.int .i64 0,.slice none 0 0,.int .i64 0,.bool false,.int .i64 0,.int .i64 0,.int .i64 0,.slice none 0 0,.string ⟨#[]⟩,.int .i64 0]):=HZ1.out.kept hk (by omega)
 have HB2:Hid (Below w.heap.size w y2):=HB1.out.trans (hk.below (fun k hk=>by omega) HB1.out.size)
 clear hy hk HA1 HP1 HO1 HZ1 HB1
 obtain ⟨c0,c1,c2,c3,c4,c5,c6,c7,c8,c9,c10,c11,c12,c13,x0,x1,x2,x3,x4,x5,x6,x7,x8,x9,x10,x11,x12,x13⟩:=Jz.of HA2.out
 go_wp2_with fail
 clear c0 c1 c2 c3 c4 c5 c6 c7 c8 c9 c10 c11 c12 c13 x0 x1 x2 x3 x4 x5 x6 x7 x8 x9 x10 x11 x12 x13
 refine (HJ.out y2 _ _ _ _ _ _ HP2.out.mr).mono ?_
 rintro e y3 ⟨rfl,hb⟩
 have HA3:Hid (Mf y3 w.heap.size [.int .i64 st,.slice ra' m.row.length rc',.int .i64 m.N,.string m.S,.int .i64 m.room,.slice va' m.vals.length vc',.int .i64 m.ret,.bool m.over,.int .i64 m.steps,.int .i64 m.looks,.int .i64 m.hits,.slice ma' m.memo.length mc',.string jr,.int .i64 sy]):=HA2.out.below hb
 have HP3:Hid (PO y3 y0.heap.size m ra' va' ma' rc' vc' mc'):=HP2.out.below hb
 have HO3:Hid (Mf y3 (w.heap.size+1) [.int .i64 1,.int .i64 100000,.string ⟨#[]⟩]):=HO2.out.below hb
 have HZ3:Hid (Mf y3 (w.heap.size+1+1) [.int .i64 0,.slice none 0 0,.int .i64 0,.string ⟨#[]⟩,.int .i64 0,.slice none 0 0,.int .i64 0,.bool false,.int .i64 0,.int .i64 0,.int .i64 0,.slice none 0 0,.string ⟨#[]⟩,.int .i64 0]):=HZ2.out.below hb
 have HB3:Hid (Below w.heap.size w y3):=HB2.out.trans (hb.mono HB2.out.size)
 clear hb HA2 HP2 HO2 HZ2 HB2
 obtain ⟨c0,c1,c2,c3,c4,c5,c6,c7,c8,c9,c10,c11,c12,c13,x0,x1,x2,x3,x4,x5,x6,x7,x8,x9,x10,x11,x12,x13⟩:=Jz.of HA3.out
 obtain ⟨d0,d1,d2,d3,d4,d5,d6,d7,d8,d9,d10,d11,d12,d13,z0,z1,z2,z3,z4,z5,z6,z7,z8,z9,z10,z11,z12,z13⟩:=Jz.of HZ3.out
 go_wp2
 clear c0 c1 c2 c3 c4 c5 c6 c7 c8 c9 c10 c11 c12 c13 x0 x1 x2 x3 x4 x5 x6 x7 x8 x9 x10 x11 x12 x13 d0 d1 d2 d3 d4 d5 d6 d7 d8 d9 d10 d11 d12 d13 z0 z1 z2 z3 z4 z5 z6 z7 z8 z9 z10 z11 z12 z13
 obtain ⟨WF,hWF⟩:∃ WF,WF=((((((((((((((y3).setCell ⟨w.heap.size+1+1,0,none⟩ (.int .i64 st)).setCell ⟨w.heap.size+1+1,1,none⟩ (.slice ra' m.row.length rc')).setCell ⟨w.heap.size+1+1,2,none⟩ (.int .i64 m.N)).setCell ⟨w.heap.size+1+1,3,none⟩ (.string m.S)).setCell ⟨w.heap.size+1+1,4,none⟩ (.int .i64 m.room)).setCell ⟨w.heap.size+1+1,5,none⟩ (.slice va' m.vals.length vc')).setCell ⟨w.heap.size+1+1,6,none⟩ (.int .i64 m.ret)).setCell ⟨w.heap.size+1+1,7,none⟩ (.bool m.over)).setCell ⟨w.heap.size+1+1,8,none⟩ (.int .i64 m.steps)).setCell ⟨w.heap.size+1+1,9,none⟩ (.int .i64 m.looks)).setCell ⟨w.heap.size+1+1,10,none⟩ (.int .i64 m.hits)).setCell ⟨w.heap.size+1+1,11,none⟩ (.slice ma' m.memo.length mc')).setCell ⟨w.heap.size+1+1,12,none⟩ (.string jr)).setCell ⟨w.heap.size+1+1,13,none⟩ (.int .i64 sy):=⟨_,rfl⟩
 rw [<- hWF]
 have KF:Kept (fun b=>b=w.heap.size+1+1) y3 WF:=by rw [hWF];exact ((((((((((((((Kept.refl (fun b=>b=w.heap.size+1+1) y3).setCell (p:=⟨w.heap.size+1+1,0,none⟩) (rfl) _).setCell (p:=⟨w.heap.size+1+1,1,none⟩) (rfl) _).setCell (p:=⟨w.heap.size+1+1,2,none⟩) (rfl) _).setCell (p:=⟨w.heap.size+1+1,3,none⟩) (rfl) _).setCell (p:=⟨w.heap.size+1+1,4,none⟩) (rfl) _).setCell (p:=⟨w.heap.size+1+1,5,none⟩) (rfl) _).setCell (p:=⟨w.heap.size+1+1,6,none⟩) (rfl) _).setCell (p:=⟨w.heap.size+1+1,7,none⟩) (rfl) _).setCell (p:=⟨w.heap.size+1+1,8,none⟩) (rfl) _).setCell (p:=⟨w.heap.size+1+1,9,none⟩) (rfl) _).setCell (p:=⟨w.heap.size+1+1,10,none⟩) (rfl) _).setCell (p:=⟨w.heap.size+1+1,11,none⟩) (rfl) _).setCell (p:=⟨w.heap.size+1+1,12,none⟩) (rfl) _).setCell (p:=⟨w.heap.size+1+1,13,none⟩) (rfl) _
 have HF:Mf WF (w.heap.size+1+1) [.int .i64 st,.slice ra' m.row.length rc',.int .i64 m.N,.string m.S,.int .i64 m.room,.slice va' m.vals.length vc',.int .i64 m.ret,.bool m.over,.int .i64 m.steps,.int .i64 m.looks,.int .i64 m.hits,.slice ma' m.memo.length mc',.string jr,.int .i64 sy]:=by rw [hWF];exact ((((((((((((((HZ3.out).set 0 (.int .i64 st)).set 1 (.slice ra' m.row.length rc')).set 2 (.int .i64 m.N)).set 3 (.string m.S)).set 4 (.int .i64 m.room)).set 5 (.slice va' m.vals.length vc')).set 6 (.int .i64 m.ret)).set 7 (.bool m.over)).set 8 (.int .i64 m.steps)).set 9 (.int .i64 m.looks)).set 10 (.int .i64 m.hits)).set 11 (.slice ma' m.memo.length mc')).set 12 (.string jr)).set 13 (.int .i64 sy)
 obtain ⟨c0,c1,c2,c3,c4,c5,c6,c7,c8,c9,c10,c11,c12,c13,x0,x1,x2,x3,x4,x5,x6,x7,x8,x9,x10,x11,x12,x13⟩:=Jz.of HF
 clear hWF HF
 have s0:=HS0.out
 have hpo:=HP3.out.kept KF (fun b hb h=>by have:=(HP3.out.ge (.inl hb)).1;omega) (fun b hb h=>by have:=(HP3.out.ge (.inr (.inl hb))).1;omega) (fun b hb h=>by have:=(HP3.out.ge (.inr (.inr hb))).1;omega)
 have fb:Below w.heap.size w WF:=HB3.out.trans (KF.below (fun b hb=>by omega) HB3.out.size)
 refine bodyPost_ret (v:=.tuple #[jval st m jr sy ra' va' ma' rc' vc' mc',.int .i64 5]) (by simp [results,Tryz.results12,go_sem,c0,c1,c2,c3,c4,c5,c6,c7,c8,c9,c10,c11,c12,c13]) rfl ⟨_,_,_,_,_,_,rfl,Rg.of_po (hpo.mono (by omega)),fb⟩
theorem sDoNo1 (w:World) (st:Int) (m:Mc) (jr:ByteArray) (sy:Int) (ra va ma:Option Addr) (rc vc mc:Nat) (hR:Mr w m ra va ma) (hr:m.row.length<=1048576) (hv:m.vals.length<=1048576) (hm:m.memo.length<=1048576) (hj:(∀ (W:World) ra va ma rc vc mc,Mr W m ra va ma->Calls Tryz.prog 23 #[jval st m jr sy ra va ma rc vc mc] W fun e w'=>e=.returned (.bool true)/\Below W.heap.size W w')) (hst:st≠1) :
 Calls Tryz.prog 12 #[jval st m jr sy ra va ma rc vc mc,.agg #[.int .i64 1,.int .i64 100000,.string ⟨#[]⟩]] w (JOut w st m jr sy 5):=by
 have HR:Hid (Mr w m ra va ma):=hR
 have HJ:Hid (∀ (W:World) ra va ma rc vc mc,Mr W m ra va ma->Calls Tryz.prog 23 #[jval st m jr sy ra va ma rc vc mc] W fun e w'=>e=.returned (.bool true)/\Below W.heap.size W w'):=hj
 have HST:Hid ((st != 1)=true):=bne_iff_ne.2 hst
 clear hR hj hst
 obtain ⟨y0,hy0⟩:∃ y0,y0=(((w.alloc (.cells #[.int .i64 st,.slice ra m.row.length rc,.int .i64 m.N,.string m.S,.int .i64 m.room,.slice va m.vals.length vc,.int .i64 m.ret,.bool m.over,.int .i64 m.steps,.int .i64 m.looks,.int .i64 m.hits,.slice ma m.memo.length mc,.string jr,.int .i64 sy] 37)).alloc (.cells #[.int .i64 1,.int .i64 100000,.string ⟨#[]⟩] 47)).alloc (.cells #[.int .i64 0,.slice none 0 0,.int .i64 0,.string ⟨#[]⟩,.int .i64 0,.slice none 0 0,.int .i64 0,.bool false,.int .i64 0,.int .i64 0,.int .i64 0,.slice none 0 0,.string ⟨#[]⟩,.int .i64 0] 37)):=⟨_,rfl⟩
 have HW0:Hid ((((w.alloc (.cells #[.int .i64 st,.slice ra m.row.length rc,.int .i64 m.N,.string m.S,.int .i64 m.room,.slice va m.vals.length vc,.int .i64 m.ret,.bool m.over,.int .i64 m.steps,.int .i64 m.looks,.int .i64 m.hits,.slice ma m.memo.length mc,.string jr,.int .i64 sy] 37)).alloc (.cells #[.int .i64 1,.int .i64 100000,.string ⟨#[]⟩] 47)).alloc (.cells #[.int .i64 0,.slice none 0 0,.int .i64 0,.string ⟨#[]⟩,.int .i64 0,.slice none 0 0,.int .i64 0,.bool false,.int .i64 0,.int .i64 0,.int .i64 0,.slice none 0 0,.string ⟨#[]⟩,.int .i64 0] 37))=y0):=hy0.symm
 have s1:(w.alloc (.cells #[.int .i64 st,.slice ra m.row.length rc,.int .i64 m.N,.string m.S,.int .i64 m.room,.slice va m.vals.length vc,.int .i64 m.ret,.bool m.over,.int .i64 m.steps,.int .i64 m.looks,.int .i64 m.hits,.slice ma m.memo.length mc,.string jr,.int .i64 sy] 37)).heap.size=w.heap.size+1:=by simp
 have s2:((w.alloc (.cells #[.int .i64 st,.slice ra m.row.length rc,.int .i64 m.N,.string m.S,.int .i64 m.room,.slice va m.vals.length vc,.int .i64 m.ret,.bool m.over,.int .i64 m.steps,.int .i64 m.looks,.int .i64 m.hits,.slice ma m.memo.length mc,.string jr,.int .i64 sy] 37)).alloc (.cells #[.int .i64 1,.int .i64 100000,.string ⟨#[]⟩] 47)).heap.size=w.heap.size+1+1:=by simp
 have HA0:Hid (Mf y0 w.heap.size [.int .i64 st,.slice ra m.row.length rc,.int .i64 m.N,.string m.S,.int .i64 m.room,.slice va m.vals.length vc,.int .i64 m.ret,.bool m.over,.int .i64 m.steps,.int .i64 m.looks,.int .i64 m.hits,.slice ma m.memo.length mc,.string jr,.int .i64 sy]):=by rw [hy0];exact ((Mf.made _ _ _).alloc _).alloc _
 have HO0:Hid (Mf y0 (w.heap.size+1) [.int .i64 1,.int .i64 100000,.string ⟨#[]⟩]):=by
  have h1:=(Mf.made (w.alloc (.cells #[.int .i64 st,.slice ra m.row.length rc,.int .i64 m.N,.string m.S,.int .i64 m.room,.slice va m.vals.length vc,.int .i64 m.ret,.bool m.over,.int .i64 m.steps,.int .i64 m.looks,.int .i64 m.hits,.slice ma m.memo.length mc,.string jr,.int .i64 sy] 37)) #[.int .i64 1,.int .i64 100000,.string ⟨#[]⟩] 47).alloc (.cells #[.int .i64 0,.slice none 0 0,.int .i64 0,.string ⟨#[]⟩,.int .i64 0,.slice none 0 0,.int .i64 0,.bool false,.int .i64 0,.int .i64 0,.int .i64 0,.slice none 0 0,.string ⟨#[]⟩,.int .i64 0] 37)
  rw [s1,<- hy0] at h1
  exact h1
 have HZ0:Hid (Mf y0 (w.heap.size+1+1) [.int .i64 0,.slice none 0 0,.int .i64 0,.string ⟨#[]⟩,.int .i64 0,.slice none 0 0,.int .i64 0,.bool false,.int .i64 0,.int .i64 0,.int .i64 0,.slice none 0 0,.string ⟨#[]⟩,.int .i64 0]):=by
  have h1:=Mf.made ((w.alloc (.cells #[.int .i64 st,.slice ra m.row.length rc,.int .i64 m.N,.string m.S,.int .i64 m.room,.slice va m.vals.length vc,.int .i64 m.ret,.bool m.over,.int .i64 m.steps,.int .i64 m.looks,.int .i64 m.hits,.slice ma m.memo.length mc,.string jr,.int .i64 sy] 37)).alloc (.cells #[.int .i64 1,.int .i64 100000,.string ⟨#[]⟩] 47)) #[.int .i64 0,.slice none 0 0,.int .i64 0,.string ⟨#[]⟩,.int .i64 0,.slice none 0 0,.int .i64 0,.bool false,.int .i64 0,.int .i64 0,.int .i64 0,.slice none 0 0,.string ⟨#[]⟩,.int .i64 0] 37
  rw [s2,<- hy0] at h1
  exact h1
 have HS0:Hid (y0.heap.size=w.heap.size+3):=by show _=_;rw [hy0];simp
 have HB0:Hid (Below w.heap.size w y0):=by rw [hy0];exact (((Below.refl _ _).alloc (Nat.le_refl _) _).alloc (by simp) _).alloc (by simp;omega) _
 clear hy0 s1 s2
 go_enter Tryz.func12,Tryz.ntmps12
 go_upto_region 1 with fail
 rw [HW0.out]
 clear HW0
 obtain ⟨c0,c1,c2,c3,c4,c5,c6,c7,c8,c9,c10,c11,c12,c13,x0,x1,x2,x3,x4,x5,x6,x7,x8,x9,x10,x11,x12,x13⟩:=Jz.of HA0.out
 go_wp2_with fail
 clear c0 c1 c2 c3 c4 c5 c6 c7 c8 c9 c10 c11 c12 c13 x0 x1 x2 x3 x4 x5 x6 x7 x8 x9 x10 x11 x12 x13
 refine (sJCopy _ st m jr sy _ _ _ _ _ _ (HR.out.below HB0.out) hr hv hm).mono ?_
 rintro e y1 ⟨ra',va',ma',rc',vc',mc',rfl,hpo,hb⟩
 have HP1:Hid (PO y1 y0.heap.size m ra' va' ma' rc' vc' mc'):=hpo
 have HA1:Hid (Mf y1 w.heap.size [.int .i64 st,.slice ra m.row.length rc,.int .i64 m.N,.string m.S,.int .i64 m.room,.slice va m.vals.length vc,.int .i64 m.ret,.bool m.over,.int .i64 m.steps,.int .i64 m.looks,.int .i64 m.hits,.slice ma m.memo.length mc,.string jr,.int .i64 sy]):=HA0.out.below hb
 have HO1:Hid (Mf y1 (w.heap.size+1) [.int .i64 1,.int .i64 100000,.string ⟨#[]⟩]):=HO0.out.below hb
 have HZ1:Hid (Mf y1 (w.heap.size+1+1) [.int .i64 0,.slice none 0 0,.int .i64 0,.string ⟨#[]⟩,.int .i64 0,.slice none 0 0,.int .i64 0,.bool false,.int .i64 0,.int .i64 0,.int .i64 0,.slice none 0 0,.string ⟨#[]⟩,.int .i64 0]):=HZ0.out.below hb
 have HB1:Hid (Below w.heap.size w y1):=HB0.out.trans (hb.mono HB0.out.size)
 clear hpo hb HA0 HO0 HZ0 HB0
 obtain ⟨c0,c1,c2,c3,c4,c5,c6,c7,c8,c9,c10,c11,c12,c13,x0,x1,x2,x3,x4,x5,x6,x7,x8,x9,x10,x11,x12,x13⟩:=Jz.of HA1.out
 go_upto_region 2 with fail
 clear c0 c1 c2 c3 c4 c5 c6 c7 c8 c9 c10 c11 c12 c13 x0 x1 x2 x3 x4 x5 x6 x7 x8 x9 x10 x11 x12 x13
 obtain ⟨y2,hy⟩:∃ y2,y2=((((((((((((((y1).setCell ⟨w.heap.size,0,none⟩ (.int .i64 st)).setCell ⟨w.heap.size,1,none⟩ (.slice ra' m.row.length rc')).setCell ⟨w.heap.size,2,none⟩ (.int .i64 m.N)).setCell ⟨w.heap.size,3,none⟩ (.string m.S)).setCell ⟨w.heap.size,4,none⟩ (.int .i64 m.room)).setCell ⟨w.heap.size,5,none⟩ (.slice va' m.vals.length vc')).setCell ⟨w.heap.size,6,none⟩ (.int .i64 m.ret)).setCell ⟨w.heap.size,7,none⟩ (.bool m.over)).setCell ⟨w.heap.size,8,none⟩ (.int .i64 m.steps)).setCell ⟨w.heap.size,9,none⟩ (.int .i64 m.looks)).setCell ⟨w.heap.size,10,none⟩ (.int .i64 m.hits)).setCell ⟨w.heap.size,11,none⟩ (.slice ma' m.memo.length mc')).setCell ⟨w.heap.size,12,none⟩ (.string jr)).setCell ⟨w.heap.size,13,none⟩ (.int .i64 sy):=⟨_,rfl⟩
 rw [<- hy]
 have hk:Kept (fun b=>b=w.heap.size) y1 y2:=by rw [hy];exact ((((((((((((((Kept.refl (fun b=>b=w.heap.size) y1).setCell (p:=⟨w.heap.size,0,none⟩) (rfl) _).setCell (p:=⟨w.heap.size,1,none⟩) (rfl) _).setCell (p:=⟨w.heap.size,2,none⟩) (rfl) _).setCell (p:=⟨w.heap.size,3,none⟩) (rfl) _).setCell (p:=⟨w.heap.size,4,none⟩) (rfl) _).setCell (p:=⟨w.heap.size,5,none⟩) (rfl) _).setCell (p:=⟨w.heap.size,6,none⟩) (rfl) _).setCell (p:=⟨w.heap.size,7,none⟩) (rfl) _).setCell (p:=⟨w.heap.size,8,none⟩) (rfl) _).setCell (p:=⟨w.heap.size,9,none⟩) (rfl) _).setCell (p:=⟨w.heap.size,10,none⟩) (rfl) _).setCell (p:=⟨w.heap.size,11,none⟩) (rfl) _).setCell (p:=⟨w.heap.size,12,none⟩) (rfl) _).setCell (p:=⟨w.heap.size,13,none⟩) (rfl) _
 have s0:=HS0.out
 have HA2:Hid (Mf y2 w.heap.size [.int .i64 st,.slice ra' m.row.length rc',.int .i64 m.N,.string m.S,.int .i64 m.room,.slice va' m.vals.length vc',.int .i64 m.ret,.bool m.over,.int .i64 m.steps,.int .i64 m.looks,.int .i64 m.hits,.slice ma' m.memo.length mc',.string jr,.int .i64 sy]):=by rw [hy];exact ((((((((((((((HA1.out).set 0 (.int .i64 st)).set 1 (.slice ra' m.row.length rc')).set 2 (.int .i64 m.N)).set 3 (.string m.S)).set 4 (.int .i64 m.room)).set 5 (.slice va' m.vals.length vc')).set 6 (.int .i64 m.ret)).set 7 (.bool m.over)).set 8 (.int .i64 m.steps)).set 9 (.int .i64 m.looks)).set 10 (.int .i64 m.hits)).set 11 (.slice ma' m.memo.length mc')).set 12 (.string jr)).set 13 (.int .i64 sy)
 have HP2:Hid (PO y2 y0.heap.size m ra' va' ma' rc' vc' mc'):=HP1.out.kept hk (fun b hb h=>by have:=(HP1.out.ge (.inl hb)).1;omega) (fun b hb h=>by have:=(HP1.out.ge (.inr (.inl hb))).1;omega) (fun b hb h=>by have:=(HP1.out.ge (.inr (.inr hb))).1;omega)
 have HO2:Hid (Mf y2 (w.heap.size+1) [.int .i64 1,.int .i64 100000,.string ⟨#[]⟩]):=HO1.out.kept hk (by omega)
 have HZ2:Hid (Mf y2 (w.heap.size+1+1) [.int .i64 0,.slice none 0 0,.int .i64 0,.string ⟨#[]⟩,.int .i64 0,.slice none 0 0,.int .i64 0,.bool false,.int .i64 0,.int .i64 0,.int .i64 0,.slice none 0 0,.string ⟨#[]⟩,.int .i64 0]):=HZ1.out.kept hk (by omega)
 have HB2:Hid (Below w.heap.size w y2):=HB1.out.trans (hk.below (fun k hk=>by omega) HB1.out.size)
 clear hy hk HA1 HP1 HO1 HZ1 HB1
 obtain ⟨c0,c1,c2,c3,c4,c5,c6,c7,c8,c9,c10,c11,c12,c13,x0,x1,x2,x3,x4,x5,x6,x7,x8,x9,x10,x11,x12,x13⟩:=Jz.of HA2.out
 go_wp2_with fail
 clear c0 c1 c2 c3 c4 c5 c6 c7 c8 c9 c10 c11 c12 c13 x0 x1 x2 x3 x4 x5 x6 x7 x8 x9 x10 x11 x12 x13
 refine (HJ.out y2 _ _ _ _ _ _ HP2.out.mr).mono ?_
 rintro e y3 ⟨rfl,hb⟩
 have HA3:Hid (Mf y3 w.heap.size [.int .i64 st,.slice ra' m.row.length rc',.int .i64 m.N,.string m.S,.int .i64 m.room,.slice va' m.vals.length vc',.int .i64 m.ret,.bool m.over,.int .i64 m.steps,.int .i64 m.looks,.int .i64 m.hits,.slice ma' m.memo.length mc',.string jr,.int .i64 sy]):=HA2.out.below hb
 have HP3:Hid (PO y3 y0.heap.size m ra' va' ma' rc' vc' mc'):=HP2.out.below hb
 have HO3:Hid (Mf y3 (w.heap.size+1) [.int .i64 1,.int .i64 100000,.string ⟨#[]⟩]):=HO2.out.below hb
 have HZ3:Hid (Mf y3 (w.heap.size+1+1) [.int .i64 0,.slice none 0 0,.int .i64 0,.string ⟨#[]⟩,.int .i64 0,.slice none 0 0,.int .i64 0,.bool false,.int .i64 0,.int .i64 0,.int .i64 0,.slice none 0 0,.string ⟨#[]⟩,.int .i64 0]):=HZ2.out.below hb
 have HB3:Hid (Below w.heap.size w y3):=HB2.out.trans (hb.mono HB2.out.size)
 clear hb HA2 HP2 HO2 HZ2 HB2
 have hs1:=HST.out
 have o0:y3.cell? ⟨w.heap.size+1,0,none⟩=some (.int .i64 1):=(HO3.out 0 (by simp)).1
 obtain ⟨c0,c1,c2,c3,c4,c5,c6,c7,c8,c9,c10,c11,c12,c13,x0,x1,x2,x3,x4,x5,x6,x7,x8,x9,x10,x11,x12,x13⟩:=Jz.of HA3.out
 obtain ⟨d0,d1,d2,d3,d4,d5,d6,d7,d8,d9,d10,d11,d12,d13,z0,z1,z2,z3,z4,z5,z6,z7,z8,z9,z10,z11,z12,z13⟩:=Jz.of HZ3.out
 go_wp2
 clear c0 c1 c2 c3 c4 c5 c6 c7 c8 c9 c10 c11 c12 c13 x0 x1 x2 x3 x4 x5 x6 x7 x8 x9 x10 x11 x12 x13 d0 d1 d2 d3 d4 d5 d6 d7 d8 d9 d10 d11 d12 d13 z0 z1 z2 z3 z4 z5 z6 z7 z8 z9 z10 z11 z12 z13
 obtain ⟨WF,hWF⟩:∃ WF,WF=((((((((((((((y3).setCell ⟨w.heap.size+1+1,0,none⟩ (.int .i64 st)).setCell ⟨w.heap.size+1+1,1,none⟩ (.slice ra' m.row.length rc')).setCell ⟨w.heap.size+1+1,2,none⟩ (.int .i64 m.N)).setCell ⟨w.heap.size+1+1,3,none⟩ (.string m.S)).setCell ⟨w.heap.size+1+1,4,none⟩ (.int .i64 m.room)).setCell ⟨w.heap.size+1+1,5,none⟩ (.slice va' m.vals.length vc')).setCell ⟨w.heap.size+1+1,6,none⟩ (.int .i64 m.ret)).setCell ⟨w.heap.size+1+1,7,none⟩ (.bool m.over)).setCell ⟨w.heap.size+1+1,8,none⟩ (.int .i64 m.steps)).setCell ⟨w.heap.size+1+1,9,none⟩ (.int .i64 m.looks)).setCell ⟨w.heap.size+1+1,10,none⟩ (.int .i64 m.hits)).setCell ⟨w.heap.size+1+1,11,none⟩ (.slice ma' m.memo.length mc')).setCell ⟨w.heap.size+1+1,12,none⟩ (.string jr)).setCell ⟨w.heap.size+1+1,13,none⟩ (.int .i64 sy):=⟨_,rfl⟩
 rw [<- hWF]
 have KF:Kept (fun b=>b=w.heap.size+1+1) y3 WF:=by rw [hWF];exact ((((((((((((((Kept.refl (fun b=>b=w.heap.size+1+1) y3).setCell (p:=⟨w.heap.size+1+1,0,none⟩) (rfl) _).setCell (p:=⟨w.heap.size+1+1,1,none⟩) (rfl) _).setCell (p:=⟨w.heap.size+1+1,2,none⟩) (rfl) _).setCell (p:=⟨w.heap.size+1+1,3,none⟩) (rfl) _).setCell (p:=⟨w.heap.size+1+1,4,none⟩) (rfl) _).setCell (p:=⟨w.heap.size+1+1,5,none⟩) (rfl) _).setCell (p:=⟨w.heap.size+1+1,6,none⟩) (rfl) _).setCell (p:=⟨w.heap.size+1+1,7,none⟩) (rfl) _).setCell (p:=⟨w.heap.size+1+1,8,none⟩) (rfl) _).setCell (p:=⟨w.heap.size+1+1,9,none⟩) (rfl) _).setCell (p:=⟨w.heap.size+1+1,10,none⟩) (rfl) _).setCell (p:=⟨w.heap.size+1+1,11,none⟩) (rfl) _).setCell (p:=⟨w.heap.size+1+1,12,none⟩) (rfl) _).setCell (p:=⟨w.heap.size+1+1,13,none⟩) (rfl) _
 have HF:Mf WF (w.heap.size+1+1) [.int .i64 st,.slice ra' m.row.length rc',.int .i64 m.N,.string m.S,.int .i64 m.room,.slice va' m.vals.length vc',.int .i64 m.ret,.bool m.over,.int .i64 m.steps,.int .i64 m.looks,.int .i64 m.hits,.slice ma' m.memo.length mc',.string jr,.int .i64 sy]:=by rw [hWF];exact ((((((((((((((HZ3.out).set 0 (.int .i64 st)).set 1 (.slice ra' m.row.length rc')).set 2 (.int .i64 m.N)).set 3 (.string m.S)).set 4 (.int .i64 m.room)).set 5 (.slice va' m.vals.length vc')).set 6 (.int .i64 m.ret)).set 7 (.bool m.over)).set 8 (.int .i64 m.steps)).set 9 (.int .i64 m.looks)).set 10 (.int .i64 m.hits)).set 11 (.slice ma' m.memo.length mc')).set 12 (.string jr)).set 13 (.int .i64 sy)
 obtain ⟨c0,c1,c2,c3,c4,c5,c6,c7,c8,c9,c10,c11,c12,c13,x0,x1,x2,x3,x4,x5,x6,x7,x8,x9,x10,x11,x12,x13⟩:=Jz.of HF
 clear hWF HF
 have s0:=HS0.out
 have hpo:=HP3.out.kept KF (fun b hb h=>by have:=(HP3.out.ge (.inl hb)).1;omega) (fun b hb h=>by have:=(HP3.out.ge (.inr (.inl hb))).1;omega) (fun b hb h=>by have:=(HP3.out.ge (.inr (.inr hb))).1;omega)
 have fb:Below w.heap.size w WF:=HB3.out.trans (KF.below (fun b hb=>by omega) HB3.out.size)
 refine bodyPost_ret (v:=.tuple #[jval st m jr sy ra' va' ma' rc' vc' mc',.int .i64 5]) (by simp [results,Tryz.results12,go_sem,c0,c1,c2,c3,c4,c5,c6,c7,c8,c9,c10,c11,c12,c13]) rfl ⟨_,_,_,_,_,_,rfl,Rg.of_po (hpo.mono (by omega)),fb⟩
end Je6
end Go.Proofs.YtladjpombohpaaaGreatDoor
