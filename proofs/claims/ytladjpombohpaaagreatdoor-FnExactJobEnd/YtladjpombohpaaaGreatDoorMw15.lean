import Derived.Test.YtladjpombohpaaaGreatDoorPkJE22
namespace Go.Proofs.YtladjpombohpaaaGreatDoor
set_option maxRecDepth 100000
set_option maxHeartbeats 8000000
set_option linter.unusedVariables false
namespace Mw15
open Go.RowKit
open Nd0 (Kept Ints lt_of_cell At)
open Mm0 Mx0 Mu2 Mw0
theorem iRunLow (w:World) (n:Int) (m:Mc) (ra va ma:Option Addr) (rc vc mc:Nat) (Q:Option Addr->Option Addr->Option Addr->Nat->Nat->Nat->World->World->Prop) (hn:n < 0)
 (hR:∀ W,Below w.heap.size w W->Calls Tryz.prog 107 #[mval m ra va ma rc vc mc] W fun e w'=>∃ ra' va' ma' rc' vc' mc',e=.returned (mval m ra' va' ma' rc' vc' mc')/\Q ra' va' ma' rc' vc' mc' W w'/\Below W.heap.size W w') :
 Calls Tryz.prog 115 #[mval m ra va ma rc vc mc,.int .i64 n] w fun e w'=>∃ ra' va' ma' rc' vc' mc' W w2,e=.returned (mval m ra' va' ma' rc' vc' mc')/\Below w.heap.size w W/\w.heap.size+2<=W.heap.size/\Q ra' va' ma' rc' vc' mc' W w2/\Below W.heap.size W w2/\Kept (fun b=>b=w.heap.size+1) w2 w':=by
 have HR:Hid (∀ W,Below w.heap.size w W->Calls Tryz.prog 107 #[mval m ra va ma rc vc mc] W fun e w'=>∃ ra' va' ma' rc' vc' mc',e=.returned (mval m ra' va' ma' rc' vc' mc')/\Q ra' va' ma' rc' vc' mc' W w'/\Below W.heap.size W w'):=hR
 clear hR
 obtain ⟨W0,hW0⟩:∃ W0,W0=((w.alloc (.cells #[.slice ra m.row.length rc,.int .i64 m.N,.string m.S,.int .i64 m.room,.slice va m.vals.length vc,.int .i64 m.ret,.bool m.over,.int .i64 m.steps,.int .i64 m.looks,.int .i64 m.hits,.slice ma m.memo.length mc] 35)).alloc (.cells #[.slice none 0 0,.int .i64 0,.string ⟨#[]⟩,.int .i64 0,.slice none 0 0,.int .i64 0,.bool false,.int .i64 0,.int .i64 0,.int .i64 0,.slice none 0 0] 35)):=⟨_,rfl⟩
 have HE0:Hid (((w.alloc (.cells #[.slice ra m.row.length rc,.int .i64 m.N,.string m.S,.int .i64 m.room,.slice va m.vals.length vc,.int .i64 m.ret,.bool m.over,.int .i64 m.steps,.int .i64 m.looks,.int .i64 m.hits,.slice ma m.memo.length mc] 35)).alloc (.cells #[.slice none 0 0,.int .i64 0,.string ⟨#[]⟩,.int .i64 0,.slice none 0 0,.int .i64 0,.bool false,.int .i64 0,.int .i64 0,.int .i64 0,.slice none 0 0] 35))=W0):=hW0.symm
 have HB0:Hid (Below w.heap.size w W0):=by rw [hW0];exact ((Below.refl _ _).alloc (Nat.le_refl _) _).alloc (by simp) _
 have hs0:W0.heap.size=w.heap.size+2:=by rw [hW0];simp
 have HS0:Hid (W0.heap.size=w.heap.size+2):=hs0
 clear hs0
 have HZ0:Hid (Mf W0 (w.heap.size+1) [.slice none 0 0,.int .i64 0,.string ⟨#[]⟩,.int .i64 0,.slice none 0 0,.int .i64 0,.bool false,.int .i64 0,.int .i64 0,.int .i64 0,.slice none 0 0]):=by
  have h1:=Mf.made (w.alloc (.cells #[.slice ra m.row.length rc,.int .i64 m.N,.string m.S,.int .i64 m.room,.slice va m.vals.length vc,.int .i64 m.ret,.bool m.over,.int .i64 m.steps,.int .i64 m.looks,.int .i64 m.hits,.slice ma m.memo.length mc] 35)) #[.slice none 0 0,.int .i64 0,.string ⟨#[]⟩,.int .i64 0,.slice none 0 0,.int .i64 0,.bool false,.int .i64 0,.int .i64 0,.int .i64 0,.slice none 0 0] 35
  have h2:(w.alloc (.cells #[.slice ra m.row.length rc,.int .i64 m.N,.string m.S,.int .i64 m.room,.slice va m.vals.length vc,.int .i64 m.ret,.bool m.over,.int .i64 m.steps,.int .i64 m.looks,.int .i64 m.hits,.slice ma m.memo.length mc] 35)).heap.size=w.heap.size+1:=by simp
  rw [h2,<- hW0] at h1
  exact h1
 have HX0:Hid (Mf W0 w.heap.size [.slice ra m.row.length rc,.int .i64 m.N,.string m.S,.int .i64 m.room,.slice va m.vals.length vc,.int .i64 m.ret,.bool m.over,.int .i64 m.steps,.int .i64 m.looks,.int .i64 m.hits,.slice ma m.memo.length mc]):=by
  have h1:=(Mf.made w #[.slice ra m.row.length rc,.int .i64 m.N,.string m.S,.int .i64 m.room,.slice va m.vals.length vc,.int .i64 m.ret,.bool m.over,.int .i64 m.steps,.int .i64 m.looks,.int .i64 m.hits,.slice ma m.memo.length mc] 35).alloc (.cells #[.slice none 0 0,.int .i64 0,.string ⟨#[]⟩,.int .i64 0,.slice none 0 0,.int .i64 0,.bool false,.int .i64 0,.int .i64 0,.int .i64 0,.slice none 0 0] 35)
  rw [<- hW0] at h1
  exact h1
 clear hW0
 go_enter Tryz.func115,Tryz.ntmps115
 unfold mval
 go_upto_region 1 with fail
 rw [HE0.out]
 clear HE0
 obtain ⟨d0,d1,d2,d3,d4,d5,d6,d7,d8,d9,d10,z0,z1,z2,z3,z4,z5,z6,z7,z8,z9,z10⟩:=HX0.out.all
 have hlt:=HX0.out.lt (by simp)
 go_wp2_with fail
 clear d0 z0 d1 z1 d2 z2 d3 z3 d4 z4 d5 z5 d6 z6 d7 z7 d8 z8 d9 z9 d10 z10 hlt
 obtain ⟨WC,hWC⟩:∃ W,W=W0:=⟨_,rfl⟩
 have HBC:Hid (Below w.heap.size w WC):=by rw [hWC];exact HB0.out
 have HSC:Hid (w.heap.size+2<=WC.heap.size):=by rw [hWC];exact Nat.le_of_eq HS0.out.symm
 have HZC:Hid (Mf WC (w.heap.size+1) [.slice none 0 0,.int .i64 0,.string ⟨#[]⟩,.int .i64 0,.slice none 0 0,.int .i64 0,.bool false,.int .i64 0,.int .i64 0,.int .i64 0,.slice none 0 0]):=by rw [hWC];exact HZ0.out
 subst hWC
 refine (HR.out _ HBC.out).mono ?_
 rintro e w2 ⟨ra',va',ma',rc',vc',mc',rfl,hq,hb⟩
 have HQ:Hid (Q ra' va' ma' rc' vc' mc' WC w2):=hq
 have HB2:Hid (Below WC.heap.size WC w2):=hb
 have HZ2:Hid (Mf w2 (w.heap.size+1) [.slice none 0 0,.int .i64 0,.string ⟨#[]⟩,.int .i64 0,.slice none 0 0,.int .i64 0,.bool false,.int .i64 0,.int .i64 0,.int .i64 0,.slice none 0 0]):=HZC.out.below hb
 clear hb hq
 obtain ⟨d0,d1,d2,d3,d4,d5,d6,d7,d8,d9,d10,z0,z1,z2,z3,z4,z5,z6,z7,z8,z9,z10⟩:=HZ2.out.all
 have hlt:=HZ2.out.lt (by simp)
 unfold mval
 go_wp2
 clear d0 z0 d1 z1 d2 z2 d3 z3 d4 z4 d5 z5 d6 z6 d7 z7 d8 z8 d9 z9 d10 z10 hlt
 obtain ⟨WF,hWF⟩:∃ WF,WF=(((((((((((w2).setCell ⟨w.heap.size+1,0,none⟩ (.slice ra' m.row.length rc')).setCell ⟨w.heap.size+1,1,none⟩ (.int .i64 m.N)).setCell ⟨w.heap.size+1,2,none⟩ (.string m.S)).setCell ⟨w.heap.size+1,3,none⟩ (.int .i64 m.room)).setCell ⟨w.heap.size+1,4,none⟩ (.slice va' m.vals.length vc')).setCell ⟨w.heap.size+1,5,none⟩ (.int .i64 m.ret)).setCell ⟨w.heap.size+1,6,none⟩ (.bool m.over)).setCell ⟨w.heap.size+1,7,none⟩ (.int .i64 m.steps)).setCell ⟨w.heap.size+1,8,none⟩ (.int .i64 m.looks)).setCell ⟨w.heap.size+1,9,none⟩ (.int .i64 m.hits)).setCell ⟨w.heap.size+1,10,none⟩ (.slice ma' m.memo.length mc'):=⟨_,rfl⟩
 rw [<- hWF]
 have KF:Kept (fun b=>b=w.heap.size+1) w2 WF:=by rw [hWF];exact ((((((((((((Kept.refl (fun b=>b=w.heap.size+1) w2)).setCell (p:=⟨w.heap.size+1,0,none⟩) rfl _).setCell (p:=⟨w.heap.size+1,1,none⟩) rfl _).setCell (p:=⟨w.heap.size+1,2,none⟩) rfl _).setCell (p:=⟨w.heap.size+1,3,none⟩) rfl _).setCell (p:=⟨w.heap.size+1,4,none⟩) rfl _).setCell (p:=⟨w.heap.size+1,5,none⟩) rfl _).setCell (p:=⟨w.heap.size+1,6,none⟩) rfl _).setCell (p:=⟨w.heap.size+1,7,none⟩) rfl _).setCell (p:=⟨w.heap.size+1,8,none⟩) rfl _).setCell (p:=⟨w.heap.size+1,9,none⟩) rfl _).setCell (p:=⟨w.heap.size+1,10,none⟩) rfl _
 have HF:Mf WF (w.heap.size+1) [.slice ra' m.row.length rc',.int .i64 m.N,.string m.S,.int .i64 m.room,.slice va' m.vals.length vc',.int .i64 m.ret,.bool m.over,.int .i64 m.steps,.int .i64 m.looks,.int .i64 m.hits,.slice ma' m.memo.length mc']:=by
  rw [hWF]
  exact (((((((((((HZ2.out).set 0 (.slice ra' m.row.length rc')).set 1 (.int .i64 m.N)).set 2 (.string m.S)).set 3 (.int .i64 m.room)).set 4 (.slice va' m.vals.length vc')).set 5 (.int .i64 m.ret)).set 6 (.bool m.over)).set 7 (.int .i64 m.steps)).set 8 (.int .i64 m.looks)).set 9 (.int .i64 m.hits)).set 10 (.slice ma' m.memo.length mc')
 obtain ⟨e0,e1,e2,e3,e4,e5,e6,e7,e8,e9,e10,f0,f1,f2,f3,f4,f5,f6,f7,f8,f9,f10⟩:=HF.all
 exact bodyPost_ret (v:=mval m ra' va' ma' rc' vc' mc') (by simp [results,Tryz.results115,go_sem,mval,e0,e1,e2,e3,e4,e5,e6,e7,e8,e9,e10]) rfl ⟨ra',va',ma',rc',vc',mc',WC,w2,rfl,HBC.out,HSC.out,HQ.out,HB2.out,KF⟩
theorem iRunHigh (w:World) (n:Int) (m:Mc) (ra va ma:Option Addr) (rc vc mc:Nat) (Q:Option Addr->Option Addr->Option Addr->Nat->Nat->Nat->World->World->Prop) (hn:¬ n < 0) (hh:100000 < n)
 (hR:∀ W,Below w.heap.size w W->Calls Tryz.prog 107 #[mval m ra va ma rc vc mc] W fun e w'=>∃ ra' va' ma' rc' vc' mc',e=.returned (mval m ra' va' ma' rc' vc' mc')/\Q ra' va' ma' rc' vc' mc' W w'/\Below W.heap.size W w') :
 Calls Tryz.prog 115 #[mval m ra va ma rc vc mc,.int .i64 n] w fun e w'=>∃ ra' va' ma' rc' vc' mc' W w2,e=.returned (mval m ra' va' ma' rc' vc' mc')/\Below w.heap.size w W/\w.heap.size+2<=W.heap.size/\Q ra' va' ma' rc' vc' mc' W w2/\Below W.heap.size W w2/\Kept (fun b=>b=w.heap.size+1) w2 w':=by
 have HR:Hid (∀ W,Below w.heap.size w W->Calls Tryz.prog 107 #[mval m ra va ma rc vc mc] W fun e w'=>∃ ra' va' ma' rc' vc' mc',e=.returned (mval m ra' va' ma' rc' vc' mc')/\Q ra' va' ma' rc' vc' mc' W w'/\Below W.heap.size W w'):=hR
 clear hR
 obtain ⟨W0,hW0⟩:∃ W0,W0=((w.alloc (.cells #[.slice ra m.row.length rc,.int .i64 m.N,.string m.S,.int .i64 m.room,.slice va m.vals.length vc,.int .i64 m.ret,.bool m.over,.int .i64 m.steps,.int .i64 m.looks,.int .i64 m.hits,.slice ma m.memo.length mc] 35)).alloc (.cells #[.slice none 0 0,.int .i64 0,.string ⟨#[]⟩,.int .i64 0,.slice none 0 0,.int .i64 0,.bool false,.int .i64 0,.int .i64 0,.int .i64 0,.slice none 0 0] 35)):=⟨_,rfl⟩
 have HE0:Hid (((w.alloc (.cells #[.slice ra m.row.length rc,.int .i64 m.N,.string m.S,.int .i64 m.room,.slice va m.vals.length vc,.int .i64 m.ret,.bool m.over,.int .i64 m.steps,.int .i64 m.looks,.int .i64 m.hits,.slice ma m.memo.length mc] 35)).alloc (.cells #[.slice none 0 0,.int .i64 0,.string ⟨#[]⟩,.int .i64 0,.slice none 0 0,.int .i64 0,.bool false,.int .i64 0,.int .i64 0,.int .i64 0,.slice none 0 0] 35))=W0):=hW0.symm
 have HB0:Hid (Below w.heap.size w W0):=by rw [hW0];exact ((Below.refl _ _).alloc (Nat.le_refl _) _).alloc (by simp) _
 have hs0:W0.heap.size=w.heap.size+2:=by rw [hW0];simp
 have HS0:Hid (W0.heap.size=w.heap.size+2):=hs0
 clear hs0
 have HZ0:Hid (Mf W0 (w.heap.size+1) [.slice none 0 0,.int .i64 0,.string ⟨#[]⟩,.int .i64 0,.slice none 0 0,.int .i64 0,.bool false,.int .i64 0,.int .i64 0,.int .i64 0,.slice none 0 0]):=by
  have h1:=Mf.made (w.alloc (.cells #[.slice ra m.row.length rc,.int .i64 m.N,.string m.S,.int .i64 m.room,.slice va m.vals.length vc,.int .i64 m.ret,.bool m.over,.int .i64 m.steps,.int .i64 m.looks,.int .i64 m.hits,.slice ma m.memo.length mc] 35)) #[.slice none 0 0,.int .i64 0,.string ⟨#[]⟩,.int .i64 0,.slice none 0 0,.int .i64 0,.bool false,.int .i64 0,.int .i64 0,.int .i64 0,.slice none 0 0] 35
  have h2:(w.alloc (.cells #[.slice ra m.row.length rc,.int .i64 m.N,.string m.S,.int .i64 m.room,.slice va m.vals.length vc,.int .i64 m.ret,.bool m.over,.int .i64 m.steps,.int .i64 m.looks,.int .i64 m.hits,.slice ma m.memo.length mc] 35)).heap.size=w.heap.size+1:=by simp
  rw [h2,<- hW0] at h1
  exact h1
 have HX0:Hid (Mf W0 w.heap.size [.slice ra m.row.length rc,.int .i64 m.N,.string m.S,.int .i64 m.room,.slice va m.vals.length vc,.int .i64 m.ret,.bool m.over,.int .i64 m.steps,.int .i64 m.looks,.int .i64 m.hits,.slice ma m.memo.length mc]):=by
  have h1:=(Mf.made w #[.slice ra m.row.length rc,.int .i64 m.N,.string m.S,.int .i64 m.room,.slice va m.vals.length vc,.int .i64 m.ret,.bool m.over,.int .i64 m.steps,.int .i64 m.looks,.int .i64 m.hits,.slice ma m.memo.length mc] 35).alloc (.cells #[.slice none 0 0,.int .i64 0,.string ⟨#[]⟩,.int .i64 0,.slice none 0 0,.int .i64 0,.bool false,.int .i64 0,.int .i64 0,.int .i64 0,.slice none 0 0] 35)
  rw [<- hW0] at h1
  exact h1
 clear hW0
 go_enter Tryz.func115,Tryz.ntmps115
 unfold mval
 go_upto_region 1 with fail
 rw [HE0.out]
 clear HE0
 obtain ⟨d0,d1,d2,d3,d4,d5,d6,d7,d8,d9,d10,z0,z1,z2,z3,z4,z5,z6,z7,z8,z9,z10⟩:=HX0.out.all
 have hlt:=HX0.out.lt (by simp)
 go_wp2_with fail
 clear d0 z0 d1 z1 d2 z2 d3 z3 d4 z4 d5 z5 d6 z6 d7 z7 d8 z8 d9 z9 d10 z10 hlt
 obtain ⟨WC,hWC⟩:∃ W,W=W0:=⟨_,rfl⟩
 have HBC:Hid (Below w.heap.size w WC):=by rw [hWC];exact HB0.out
 have HSC:Hid (w.heap.size+2<=WC.heap.size):=by rw [hWC];exact Nat.le_of_eq HS0.out.symm
 have HZC:Hid (Mf WC (w.heap.size+1) [.slice none 0 0,.int .i64 0,.string ⟨#[]⟩,.int .i64 0,.slice none 0 0,.int .i64 0,.bool false,.int .i64 0,.int .i64 0,.int .i64 0,.slice none 0 0]):=by rw [hWC];exact HZ0.out
 subst hWC
 refine (HR.out _ HBC.out).mono ?_
 rintro e w2 ⟨ra',va',ma',rc',vc',mc',rfl,hq,hb⟩
 have HQ:Hid (Q ra' va' ma' rc' vc' mc' WC w2):=hq
 have HB2:Hid (Below WC.heap.size WC w2):=hb
 have HZ2:Hid (Mf w2 (w.heap.size+1) [.slice none 0 0,.int .i64 0,.string ⟨#[]⟩,.int .i64 0,.slice none 0 0,.int .i64 0,.bool false,.int .i64 0,.int .i64 0,.int .i64 0,.slice none 0 0]):=HZC.out.below hb
 clear hb hq
 obtain ⟨d0,d1,d2,d3,d4,d5,d6,d7,d8,d9,d10,z0,z1,z2,z3,z4,z5,z6,z7,z8,z9,z10⟩:=HZ2.out.all
 have hlt:=HZ2.out.lt (by simp)
 unfold mval
 go_wp2
 clear d0 z0 d1 z1 d2 z2 d3 z3 d4 z4 d5 z5 d6 z6 d7 z7 d8 z8 d9 z9 d10 z10 hlt
 obtain ⟨WF,hWF⟩:∃ WF,WF=(((((((((((w2).setCell ⟨w.heap.size+1,0,none⟩ (.slice ra' m.row.length rc')).setCell ⟨w.heap.size+1,1,none⟩ (.int .i64 m.N)).setCell ⟨w.heap.size+1,2,none⟩ (.string m.S)).setCell ⟨w.heap.size+1,3,none⟩ (.int .i64 m.room)).setCell ⟨w.heap.size+1,4,none⟩ (.slice va' m.vals.length vc')).setCell ⟨w.heap.size+1,5,none⟩ (.int .i64 m.ret)).setCell ⟨w.heap.size+1,6,none⟩ (.bool m.over)).setCell ⟨w.heap.size+1,7,none⟩ (.int .i64 m.steps)).setCell ⟨w.heap.size+1,8,none⟩ (.int .i64 m.looks)).setCell ⟨w.heap.size+1,9,none⟩ (.int .i64 m.hits)).setCell ⟨w.heap.size+1,10,none⟩ (.slice ma' m.memo.length mc'):=⟨_,rfl⟩
 rw [<- hWF]
 have KF:Kept (fun b=>b=w.heap.size+1) w2 WF:=by rw [hWF];exact ((((((((((((Kept.refl (fun b=>b=w.heap.size+1) w2)).setCell (p:=⟨w.heap.size+1,0,none⟩) rfl _).setCell (p:=⟨w.heap.size+1,1,none⟩) rfl _).setCell (p:=⟨w.heap.size+1,2,none⟩) rfl _).setCell (p:=⟨w.heap.size+1,3,none⟩) rfl _).setCell (p:=⟨w.heap.size+1,4,none⟩) rfl _).setCell (p:=⟨w.heap.size+1,5,none⟩) rfl _).setCell (p:=⟨w.heap.size+1,6,none⟩) rfl _).setCell (p:=⟨w.heap.size+1,7,none⟩) rfl _).setCell (p:=⟨w.heap.size+1,8,none⟩) rfl _).setCell (p:=⟨w.heap.size+1,9,none⟩) rfl _).setCell (p:=⟨w.heap.size+1,10,none⟩) rfl _
 have HF:Mf WF (w.heap.size+1) [.slice ra' m.row.length rc',.int .i64 m.N,.string m.S,.int .i64 m.room,.slice va' m.vals.length vc',.int .i64 m.ret,.bool m.over,.int .i64 m.steps,.int .i64 m.looks,.int .i64 m.hits,.slice ma' m.memo.length mc']:=by
  rw [hWF]
  exact (((((((((((HZ2.out).set 0 (.slice ra' m.row.length rc')).set 1 (.int .i64 m.N)).set 2 (.string m.S)).set 3 (.int .i64 m.room)).set 4 (.slice va' m.vals.length vc')).set 5 (.int .i64 m.ret)).set 6 (.bool m.over)).set 7 (.int .i64 m.steps)).set 8 (.int .i64 m.looks)).set 9 (.int .i64 m.hits)).set 10 (.slice ma' m.memo.length mc')
 obtain ⟨e0,e1,e2,e3,e4,e5,e6,e7,e8,e9,e10,f0,f1,f2,f3,f4,f5,f6,f7,f8,f9,f10⟩:=HF.all
 exact bodyPost_ret (v:=mval m ra' va' ma' rc' vc' mc') (by simp [results,Tryz.results115,go_sem,mval,e0,e1,e2,e3,e4,e5,e6,e7,e8,e9,e10]) rfl ⟨ra',va',ma',rc',vc',mc',WC,w2,rfl,HBC.out,HSC.out,HQ.out,HB2.out,KF⟩
theorem iRunNot (w:World) (n:Int) (m:Mc) (ra va ma:Option Addr) (rc vc mc:Nat) (Q:Option Addr->Option Addr->Option Addr->Nat->Nat->Nat->World->World->Prop) (hn:¬ n < 0) (hh:¬ 100000 < n) (hO:∀ W,Below w.heap.size w W->Calls Tryz.prog 111 #[mval m ra va ma rc vc mc] W fun e w'=>e=.returned (.bool false)/\Below W.heap.size W w')
 (hR:∀ W,Below w.heap.size w W->Calls Tryz.prog 107 #[mval m ra va ma rc vc mc] W fun e w'=>∃ ra' va' ma' rc' vc' mc',e=.returned (mval m ra' va' ma' rc' vc' mc')/\Q ra' va' ma' rc' vc' mc' W w'/\Below W.heap.size W w') :
 Calls Tryz.prog 115 #[mval m ra va ma rc vc mc,.int .i64 n] w fun e w'=>∃ ra' va' ma' rc' vc' mc' W w2,e=.returned (mval m ra' va' ma' rc' vc' mc')/\Below w.heap.size w W/\w.heap.size+2<=W.heap.size/\Q ra' va' ma' rc' vc' mc' W w2/\Below W.heap.size W w2/\Kept (fun b=>b=w.heap.size+1) w2 w':=by
 have HR:Hid (∀ W,Below w.heap.size w W->Calls Tryz.prog 107 #[mval m ra va ma rc vc mc] W fun e w'=>∃ ra' va' ma' rc' vc' mc',e=.returned (mval m ra' va' ma' rc' vc' mc')/\Q ra' va' ma' rc' vc' mc' W w'/\Below W.heap.size W w'):=hR
 have HO:Hid (∀ W,Below w.heap.size w W->Calls Tryz.prog 111 #[mval m ra va ma rc vc mc] W fun e w'=>e=.returned (.bool false)/\Below W.heap.size W w'):=hO
 clear hO
 clear hR
 obtain ⟨W0,hW0⟩:∃ W0,W0=((w.alloc (.cells #[.slice ra m.row.length rc,.int .i64 m.N,.string m.S,.int .i64 m.room,.slice va m.vals.length vc,.int .i64 m.ret,.bool m.over,.int .i64 m.steps,.int .i64 m.looks,.int .i64 m.hits,.slice ma m.memo.length mc] 35)).alloc (.cells #[.slice none 0 0,.int .i64 0,.string ⟨#[]⟩,.int .i64 0,.slice none 0 0,.int .i64 0,.bool false,.int .i64 0,.int .i64 0,.int .i64 0,.slice none 0 0] 35)):=⟨_,rfl⟩
 have HE0:Hid (((w.alloc (.cells #[.slice ra m.row.length rc,.int .i64 m.N,.string m.S,.int .i64 m.room,.slice va m.vals.length vc,.int .i64 m.ret,.bool m.over,.int .i64 m.steps,.int .i64 m.looks,.int .i64 m.hits,.slice ma m.memo.length mc] 35)).alloc (.cells #[.slice none 0 0,.int .i64 0,.string ⟨#[]⟩,.int .i64 0,.slice none 0 0,.int .i64 0,.bool false,.int .i64 0,.int .i64 0,.int .i64 0,.slice none 0 0] 35))=W0):=hW0.symm
 have HB0:Hid (Below w.heap.size w W0):=by rw [hW0];exact ((Below.refl _ _).alloc (Nat.le_refl _) _).alloc (by simp) _
 have hs0:W0.heap.size=w.heap.size+2:=by rw [hW0];simp
 have HS0:Hid (W0.heap.size=w.heap.size+2):=hs0
 clear hs0
 have HZ0:Hid (Mf W0 (w.heap.size+1) [.slice none 0 0,.int .i64 0,.string ⟨#[]⟩,.int .i64 0,.slice none 0 0,.int .i64 0,.bool false,.int .i64 0,.int .i64 0,.int .i64 0,.slice none 0 0]):=by
  have h1:=Mf.made (w.alloc (.cells #[.slice ra m.row.length rc,.int .i64 m.N,.string m.S,.int .i64 m.room,.slice va m.vals.length vc,.int .i64 m.ret,.bool m.over,.int .i64 m.steps,.int .i64 m.looks,.int .i64 m.hits,.slice ma m.memo.length mc] 35)) #[.slice none 0 0,.int .i64 0,.string ⟨#[]⟩,.int .i64 0,.slice none 0 0,.int .i64 0,.bool false,.int .i64 0,.int .i64 0,.int .i64 0,.slice none 0 0] 35
  have h2:(w.alloc (.cells #[.slice ra m.row.length rc,.int .i64 m.N,.string m.S,.int .i64 m.room,.slice va m.vals.length vc,.int .i64 m.ret,.bool m.over,.int .i64 m.steps,.int .i64 m.looks,.int .i64 m.hits,.slice ma m.memo.length mc] 35)).heap.size=w.heap.size+1:=by simp
  rw [h2,<- hW0] at h1
  exact h1
 have HX0:Hid (Mf W0 w.heap.size [.slice ra m.row.length rc,.int .i64 m.N,.string m.S,.int .i64 m.room,.slice va m.vals.length vc,.int .i64 m.ret,.bool m.over,.int .i64 m.steps,.int .i64 m.looks,.int .i64 m.hits,.slice ma m.memo.length mc]):=by
  have h1:=(Mf.made w #[.slice ra m.row.length rc,.int .i64 m.N,.string m.S,.int .i64 m.room,.slice va m.vals.length vc,.int .i64 m.ret,.bool m.over,.int .i64 m.steps,.int .i64 m.looks,.int .i64 m.hits,.slice ma m.memo.length mc] 35).alloc (.cells #[.slice none 0 0,.int .i64 0,.string ⟨#[]⟩,.int .i64 0,.slice none 0 0,.int .i64 0,.bool false,.int .i64 0,.int .i64 0,.int .i64 0,.slice none 0 0] 35)
  rw [<- hW0] at h1
  exact h1
 clear hW0
 go_enter Tryz.func115,Tryz.ntmps115
 unfold mval
 go_upto_region 1 with fail
 rw [HE0.out]
 clear HE0
 obtain ⟨d0,d1,d2,d3,d4,d5,d6,d7,d8,d9,d10,z0,z1,z2,z3,z4,z5,z6,z7,z8,z9,z10⟩:=HX0.out.all
 have hlt:=HX0.out.lt (by simp)
 go_wp2_with fail
 clear d0 z0 d1 z1 d2 z2 d3 z3 d4 z4 d5 z5 d6 z6 d7 z7 d8 z8 d9 z9 d10 z10 hlt
 refine (HO.out _ HB0.out).mono ?_
 rintro e WC ⟨rfl,hb⟩
 have HBC:Hid (Below w.heap.size w WC):=HB0.out.trans (hb.mono HB0.out.size)
 have HSC:Hid (w.heap.size+2<=WC.heap.size):=Nat.le_trans (Nat.le_of_eq HS0.out.symm) hb.size
 have HZC:Hid (Mf WC (w.heap.size+1) [.slice none 0 0,.int .i64 0,.string ⟨#[]⟩,.int .i64 0,.slice none 0 0,.int .i64 0,.bool false,.int .i64 0,.int .i64 0,.int .i64 0,.slice none 0 0]):=HZ0.out.below hb
 have HXC:Hid (Mf WC w.heap.size [.slice ra m.row.length rc,.int .i64 m.N,.string m.S,.int .i64 m.room,.slice va m.vals.length vc,.int .i64 m.ret,.bool m.over,.int .i64 m.steps,.int .i64 m.looks,.int .i64 m.hits,.slice ma m.memo.length mc]):=HX0.out.below hb
 clear hb
 obtain ⟨d0,d1,d2,d3,d4,d5,d6,d7,d8,d9,d10,z0,z1,z2,z3,z4,z5,z6,z7,z8,z9,z10⟩:=HXC.out.all
 have hlt:=HXC.out.lt (by simp)
 go_wp2_with fail
 clear d0 z0 d1 z1 d2 z2 d3 z3 d4 z4 d5 z5 d6 z6 d7 z7 d8 z8 d9 z9 d10 z10 hlt
 refine (HR.out _ HBC.out).mono ?_
 rintro e w2 ⟨ra',va',ma',rc',vc',mc',rfl,hq,hb⟩
 have HQ:Hid (Q ra' va' ma' rc' vc' mc' WC w2):=hq
 have HB2:Hid (Below WC.heap.size WC w2):=hb
 have HZ2:Hid (Mf w2 (w.heap.size+1) [.slice none 0 0,.int .i64 0,.string ⟨#[]⟩,.int .i64 0,.slice none 0 0,.int .i64 0,.bool false,.int .i64 0,.int .i64 0,.int .i64 0,.slice none 0 0]):=HZC.out.below hb
 clear hb hq
 obtain ⟨d0,d1,d2,d3,d4,d5,d6,d7,d8,d9,d10,z0,z1,z2,z3,z4,z5,z6,z7,z8,z9,z10⟩:=HZ2.out.all
 have hlt:=HZ2.out.lt (by simp)
 unfold mval
 go_wp2
 clear d0 z0 d1 z1 d2 z2 d3 z3 d4 z4 d5 z5 d6 z6 d7 z7 d8 z8 d9 z9 d10 z10 hlt
 obtain ⟨WF,hWF⟩:∃ WF,WF=(((((((((((w2).setCell ⟨w.heap.size+1,0,none⟩ (.slice ra' m.row.length rc')).setCell ⟨w.heap.size+1,1,none⟩ (.int .i64 m.N)).setCell ⟨w.heap.size+1,2,none⟩ (.string m.S)).setCell ⟨w.heap.size+1,3,none⟩ (.int .i64 m.room)).setCell ⟨w.heap.size+1,4,none⟩ (.slice va' m.vals.length vc')).setCell ⟨w.heap.size+1,5,none⟩ (.int .i64 m.ret)).setCell ⟨w.heap.size+1,6,none⟩ (.bool m.over)).setCell ⟨w.heap.size+1,7,none⟩ (.int .i64 m.steps)).setCell ⟨w.heap.size+1,8,none⟩ (.int .i64 m.looks)).setCell ⟨w.heap.size+1,9,none⟩ (.int .i64 m.hits)).setCell ⟨w.heap.size+1,10,none⟩ (.slice ma' m.memo.length mc'):=⟨_,rfl⟩
 rw [<- hWF]
 have KF:Kept (fun b=>b=w.heap.size+1) w2 WF:=by rw [hWF];exact ((((((((((((Kept.refl (fun b=>b=w.heap.size+1) w2)).setCell (p:=⟨w.heap.size+1,0,none⟩) rfl _).setCell (p:=⟨w.heap.size+1,1,none⟩) rfl _).setCell (p:=⟨w.heap.size+1,2,none⟩) rfl _).setCell (p:=⟨w.heap.size+1,3,none⟩) rfl _).setCell (p:=⟨w.heap.size+1,4,none⟩) rfl _).setCell (p:=⟨w.heap.size+1,5,none⟩) rfl _).setCell (p:=⟨w.heap.size+1,6,none⟩) rfl _).setCell (p:=⟨w.heap.size+1,7,none⟩) rfl _).setCell (p:=⟨w.heap.size+1,8,none⟩) rfl _).setCell (p:=⟨w.heap.size+1,9,none⟩) rfl _).setCell (p:=⟨w.heap.size+1,10,none⟩) rfl _
 have HF:Mf WF (w.heap.size+1) [.slice ra' m.row.length rc',.int .i64 m.N,.string m.S,.int .i64 m.room,.slice va' m.vals.length vc',.int .i64 m.ret,.bool m.over,.int .i64 m.steps,.int .i64 m.looks,.int .i64 m.hits,.slice ma' m.memo.length mc']:=by
  rw [hWF]
  exact (((((((((((HZ2.out).set 0 (.slice ra' m.row.length rc')).set 1 (.int .i64 m.N)).set 2 (.string m.S)).set 3 (.int .i64 m.room)).set 4 (.slice va' m.vals.length vc')).set 5 (.int .i64 m.ret)).set 6 (.bool m.over)).set 7 (.int .i64 m.steps)).set 8 (.int .i64 m.looks)).set 9 (.int .i64 m.hits)).set 10 (.slice ma' m.memo.length mc')
 obtain ⟨e0,e1,e2,e3,e4,e5,e6,e7,e8,e9,e10,f0,f1,f2,f3,f4,f5,f6,f7,f8,f9,f10⟩:=HF.all
 exact bodyPost_ret (v:=mval m ra' va' ma' rc' vc' mc') (by simp [results,Tryz.results115,go_sem,mval,e0,e1,e2,e3,e4,e5,e6,e7,e8,e9,e10]) rfl ⟨ra',va',ma',rc',vc',mc',WC,w2,rfl,HBC.out,HSC.out,HQ.out,HB2.out,KF⟩
end Mw15
end Go.Proofs.YtladjpombohpaaaGreatDoor
