import Derived.ArgAppend
import Derived.Test.YtladjpombohpaaaGreatDoorPkJE22
namespace Go.Proofs.YtladjpombohpaaaGreatDoor
set_option maxRecDepth 100000
set_option maxHeartbeats 8000000
set_option linter.unusedVariables false
namespace Mw16
open Go.RowKit
open Nd0 (Kept Ints lt_of_cell At)
open Mm0 Mx0 Mu2 Mw0
def RunPost (w:World) (n:Nat) (I:World->Nat->Nat->World->Prop) (st:Nat->Bool) (M:Nat->Mc) (e:Ending) (w':World):Prop :=
 ∃ k p ra' va' ma' rc' vc' mc' bm W1 w2,e=.returned (mval (M k) ra' va' ma' rc' vc' mc')/\Below w.heap.size w W1/\w.heap.size+2<=W1.heap.size/\k<=n/\(k=n\/st k=true)/\(∀ t,t < k->st t=false)/\I W1 p k w2/\Sb w2 p (M k) ra' va' ma' rc' vc' mc' bm/\Kept (fun b=>b=w.heap.size+1) w2 w'
theorem iRunOk (w:World) (n:Nat) (hn:n<=100000) (m:Mc) (ra va ma:Option Addr) (rc vc mc:Nat) (I:World->Nat->Nat->World->Prop) (st:Nat->Bool) (M:Nat->Mc)
 (hO:∀ W,Below w.heap.size w W->Calls Tryz.prog 111 #[mval m ra va ma rc vc mc] W fun e w'=>e=.returned (.bool true)/\Below W.heap.size W w')
 (hN:∀ W,Below w.heap.size w W->Calls Tryz.prog 162 #[mval m ra va ma rc vc mc] W fun e w'=>∃ p,e=.returned (.pointer (some ⟨p,0,none⟩))/\I W p 0 w')
 (hK:∀ W1 p i W,I W1 p i W->Below W1.heap.size W1 W)
 (hS:∀ W1 p i W,I W1 p i W->Calls Tryz.prog 163 #[.pointer (some ⟨p,0,none⟩)] W fun e w'=>e=.returned (.bool (st i))/\I W1 p i w')
 (hT:∀ W1 p i W,I W1 p i W->st i=false->Calls Tryz.prog 164 #[.pointer (some ⟨p,0,none⟩)] W fun e w'=>e=.returned (.tuple #[])/\I W1 p (i+1) w')
 (hE:∀ W1 p i W,I W1 p i W->∃ ra' va' ma' rc' vc' mc' bm,Sb W p (M i) ra' va' ma' rc' vc' mc' bm) :
 Calls Tryz.prog 115 #[mval m ra va ma rc vc mc,.int .i64 n] w (RunPost w n I st M):=by
 have HO:Hid (∀ W,Below w.heap.size w W->Calls Tryz.prog 111 #[mval m ra va ma rc vc mc] W fun e w'=>e=.returned (.bool true)/\Below W.heap.size W w'):=hO
 have HN:Hid (∀ W,Below w.heap.size w W->Calls Tryz.prog 162 #[mval m ra va ma rc vc mc] W fun e w'=>∃ p,e=.returned (.pointer (some ⟨p,0,none⟩))/\I W p 0 w'):=hN
 have HK:Hid (∀ W1 p i W,I W1 p i W->Below W1.heap.size W1 W):=hK
 have HS:Hid (∀ W1 p i W,I W1 p i W->Calls Tryz.prog 163 #[.pointer (some ⟨p,0,none⟩)] W fun e w'=>e=.returned (.bool (st i))/\I W1 p i w'):=hS
 have HT:Hid (∀ W1 p i W,I W1 p i W->st i=false->Calls Tryz.prog 164 #[.pointer (some ⟨p,0,none⟩)] W fun e w'=>e=.returned (.tuple #[])/\I W1 p (i+1) w'):=hT
 have HE:Hid (∀ W1 p i W,I W1 p i W->∃ ra' va' ma' rc' vc' mc' bm,Sb W p (M i) ra' va' ma' rc' vc' mc' bm):=hE
 clear hO hN hK hS hT hE
 obtain ⟨W0,hW0⟩:∃ W0,W0=((w.alloc (.cells #[.slice ra m.row.length rc,.int .i64 m.N,.string m.S,.int .i64 m.room,.slice va m.vals.length vc,.int .i64 m.ret,.bool m.over,.int .i64 m.steps,.int .i64 m.looks,.int .i64 m.hits,.slice ma m.memo.length mc] 35)).alloc (.cells #[.slice none 0 0,.int .i64 0,.string ⟨#[]⟩,.int .i64 0,.slice none 0 0,.int .i64 0,.bool false,.int .i64 0,.int .i64 0,.int .i64 0,.slice none 0 0] 35)):=⟨_,rfl⟩
 have HE0:Hid (((w.alloc (.cells #[.slice ra m.row.length rc,.int .i64 m.N,.string m.S,.int .i64 m.room,.slice va m.vals.length vc,.int .i64 m.ret,.bool m.over,.int .i64 m.steps,.int .i64 m.looks,.int .i64 m.hits,.slice ma m.memo.length mc] 35)).alloc (.cells #[.slice none 0 0,.int .i64 0,.string ⟨#[]⟩,.int .i64 0,.slice none 0 0,.int .i64 0,.bool false,.int .i64 0,.int .i64 0,.int .i64 0,.slice none 0 0] 35))=W0):=hW0.symm
 have HB0:Hid (Below w.heap.size w W0):=by rw [hW0];exact ((Below.refl _ _).alloc (Nat.le_refl _) _).alloc (by simp) _
 have hs0:W0.heap.size=w.heap.size+2:=by rw [hW0];simp
 have HS0:Hid (W0.heap.size=w.heap.size+2):=hs0
 clear hs0
 have HZ0:Hid (Mf W0 (w.heap.size+1) [.slice none 0 0,.int .i64 0,.string ⟨#[]⟩,.int .i64 0,.slice none 0 0,.int .i64 0,.bool false,.int .i64 0,.int .i64 0,.int .i64 0,.slice none 0 0]):=by
  have h1:=Mf.made (w.alloc (.cells #[.slice ra m.row.length rc,.int .i64 m.N,.string m.S,.int .i64 m.room,.slice va m.vals.length vc,.int .i64 m.ret,.bool m.over,.int .i64 m.steps,.int .i64 m.looks,.int .i64 m.hits,.slice ma m.memo.length mc] 35)) #[.slice none 0 0,.int .i64 0,.string ⟨#[]⟩,.int .i64 0,.slice none 0 0,.int .i64 0,.bool false,.int .i64 0,.int .i64 0,.int .i64 0,.slice none 0 0] 35
  have h2:(w.alloc (.cells #[.slice ra m.row.length rc,.int .i64 m.N,.string m.S,.int .i64 m.room,.slice va m.vals.length vc,.int .i64 m.ret,.bool m.over,.int .i64 m.steps,.int .i64 m.looks,.int .i64 m.hits,.slice ma m.memo.length mc] 35)).heap.size=w.heap.size+1:=by simp
  rw [h2,<- hW0] at h1
  exact h1
 have HX0:Hid (Mf W0 w.heap.size [.slice ra m.row.length rc,.int .i64 m.N,.string m.S,.int .i64 m.room,.slice va m.vals.length vc,.int .i64 m.ret,.bool m.over,.int .i64 m.steps,.int .i64 m.looks,.int .i64 m.hits,.slice ma m.memo.length mc]):=by
  have h1:=(Mf.made w #[.slice ra m.row.length rc,.int .i64 m.N,.string m.S,.int .i64 m.room,.slice va m.vals.length vc,.int .i64 m.ret,.bool m.over,.int .i64 m.steps,.int .i64 m.looks,.int .i64 m.hits,.slice ma m.memo.length mc] 35).alloc (.cells #[.slice none 0 0,.int .i64 0,.string ⟨#[]⟩,.int .i64 0,.slice none 0 0,.int .i64 0,.bool false,.int .i64 0,.int .i64 0,.int .i64 0,.slice none 0 0] 35)
  rw [<- hW0] at h1
  exact h1
 clear hW0
 have hn0:¬ (n:Int) < 0:=by omega
 have hn1:¬ (100000:Int) < (n:Int):=by omega
 go_enter Tryz.func115,Tryz.ntmps115
 unfold mval
 go_upto_region 1 with fail
 rw [HE0.out]
 clear HE0
 obtain ⟨d0,d1,d2,d3,d4,d5,d6,d7,d8,d9,d10,z0,z1,z2,z3,z4,z5,z6,z7,z8,z9,z10⟩:=HX0.out.all
 have hlt:=HX0.out.lt (by simp)
 go_wp2_with fail
 clear d0 z0 d1 z1 d2 z2 d3 z3 d4 z4 d5 z5 d6 z6 d7 z7 d8 z8 d9 z9 d10 z10 hlt
 refine (HO.out _ HB0.out).mono ?_
 rintro e WC ⟨rfl,hb⟩
 have HBC:Hid (Below w.heap.size w WC):=HB0.out.trans (hb.mono HB0.out.size)
 have HSC:Hid (w.heap.size+2<=WC.heap.size):=Nat.le_trans (Nat.le_of_eq HS0.out.symm) hb.size
 have HZC:Hid (Mf WC (w.heap.size+1) [.slice none 0 0,.int .i64 0,.string ⟨#[]⟩,.int .i64 0,.slice none 0 0,.int .i64 0,.bool false,.int .i64 0,.int .i64 0,.int .i64 0,.slice none 0 0]):=HZ0.out.below hb
 have HXC:Hid (Mf WC w.heap.size [.slice ra m.row.length rc,.int .i64 m.N,.string m.S,.int .i64 m.room,.slice va m.vals.length vc,.int .i64 m.ret,.bool m.over,.int .i64 m.steps,.int .i64 m.looks,.int .i64 m.hits,.slice ma m.memo.length mc]):=HX0.out.below hb
 clear hb
 obtain ⟨d0,d1,d2,d3,d4,d5,d6,d7,d8,d9,d10,z0,z1,z2,z3,z4,z5,z6,z7,z8,z9,z10⟩:=HXC.out.all
 have hlt:=HXC.out.lt (by simp)
 go_wp2_with fail
 clear d0 z0 d1 z1 d2 z2 d3 z3 d4 z4 d5 z5 d6 z6 d7 z7 d8 z8 d9 z9 d10 z10 hlt hn0 hn1
 refine (HN.out _ HBC.out).mono ?_
 rintro e w1 ⟨p,rfl,hi⟩
 have HI1:Hid (I WC p 0 w1):=hi
 clear hi
 go_wp2_with fail
 go_loopw [6] (fun i wr=>∃ j:Nat,j<=n/\i=.int .i64 j/\(∀ t,t < j->st t=false)/\I WC p j wr) (fun i _=>n - (intOf i).toNat)
 case atStart=>exact ⟨0,Nat.zero_le _,rfl,fun t ht=>absurd ht (Nat.not_lt_zero _),HI1.out⟩
 case round =>
  obtain ⟨j,hj,rfl,hpast,hi⟩:=hrel
  have HPAST:Hid (∀ t,t < j->st t=false):=hpast
  have HIW:Hid (I WC p j wr):=hi
  clear hpast hi
  by_cases hlt:j < n
  ·have hjz:(j:Int) < (n:Int):=by omega
   go_wp2_with fail
   refine (HS.out _ _ _ _ HIW.out).mono ?_
   rintro e w2 ⟨rfl,hi⟩
   have HIx:Hid (I WC p j w2):=hi
   clear hi
   cases hst:st j
   ·have HST:Hid (st j=false):=hst
    clear hst
    go_wp2_with fail
    refine (HT.out _ _ _ _ HIx.out HST.out).mono ?_
    rintro e w3 ⟨rfl,hi⟩
    have HI3:Hid (I WC p (j+1) w3):=hi
    clear hi
    go_wp2
    go_roundw
    case rel=>exact ⟨j+1,by omega,by go_num,fun t ht=>by rcases Nat.lt_or_eq_of_le (Nat.le_of_lt_succ ht) with h|h;(exact HPAST.out t h);(rw [h];exact HST.out),HI3.out⟩
    case measure=>simp [intOf];omega
   have HSTOP:Hid (j=n\/st j=true):=.inr hst
   clear hst
   obtain ⟨ra',va',ma',rc',vc',mc',bm,hSb⟩:=HE.out _ _ _ _ HIx.out
   have HSB:Hid (Sb w2 p (M j) ra' va' ma' rc' vc' mc' bm):=hSb
   clear hSb
   obtain ⟨c0,c1,c2,c3,c4,c5,c6,c7,c8,c9,c10,c11,y0,y1,y2,y3,y4,y5,y6,y7,y8,y9,y10,y11⟩:=HSB.out.all
   have hpl:=HSB.out.lt
   have HZ2:Hid (Mf w2 (w.heap.size+1) [.slice none 0 0,.int .i64 0,.string ⟨#[]⟩,.int .i64 0,.slice none 0 0,.int .i64 0,.bool false,.int .i64 0,.int .i64 0,.int .i64 0,.slice none 0 0]):=HZC.out.below (HK.out _ _ _ _ HIx.out)
   obtain ⟨d0,d1,d2,d3,d4,d5,d6,d7,d8,d9,d10,z0,z1,z2,z3,z4,z5,z6,z7,z8,z9,z10⟩:=HZ2.out.all
   have hlt:=HZ2.out.lt (by simp)
   go_wp2
   clear d0 z0 d1 z1 d2 z2 d3 z3 d4 z4 d5 z5 d6 z6 d7 z7 d8 z8 d9 z9 d10 z10 hlt c0 c1 c2 c3 c4 c5 c6 c7 c8 c9 c10 c11 y0 y1 y2 y3 y4 y5 y6 y7 y8 y9 y10 y11
   obtain ⟨WF,hWF⟩:∃ WF,WF=(((((((((((w2).setCell ⟨w.heap.size+1,0,none⟩ (.slice ra' (M j).row.length rc')).setCell ⟨w.heap.size+1,1,none⟩ (.int .i64 (M j).N)).setCell ⟨w.heap.size+1,2,none⟩ (.string (M j).S)).setCell ⟨w.heap.size+1,3,none⟩ (.int .i64 (M j).room)).setCell ⟨w.heap.size+1,4,none⟩ (.slice va' (M j).vals.length vc')).setCell ⟨w.heap.size+1,5,none⟩ (.int .i64 (M j).ret)).setCell ⟨w.heap.size+1,6,none⟩ (.bool (M j).over)).setCell ⟨w.heap.size+1,7,none⟩ (.int .i64 (M j).steps)).setCell ⟨w.heap.size+1,8,none⟩ (.int .i64 (M j).looks)).setCell ⟨w.heap.size+1,9,none⟩ (.int .i64 (M j).hits)).setCell ⟨w.heap.size+1,10,none⟩ (.slice ma' (M j).memo.length mc'):=⟨_,rfl⟩
   rw [<- hWF]
   have KF:Kept (fun b=>b=w.heap.size+1) w2 WF:=by rw [hWF];exact ((((((((((((Kept.refl (fun b=>b=w.heap.size+1) w2)).setCell (p:=⟨w.heap.size+1,0,none⟩) rfl _).setCell (p:=⟨w.heap.size+1,1,none⟩) rfl _).setCell (p:=⟨w.heap.size+1,2,none⟩) rfl _).setCell (p:=⟨w.heap.size+1,3,none⟩) rfl _).setCell (p:=⟨w.heap.size+1,4,none⟩) rfl _).setCell (p:=⟨w.heap.size+1,5,none⟩) rfl _).setCell (p:=⟨w.heap.size+1,6,none⟩) rfl _).setCell (p:=⟨w.heap.size+1,7,none⟩) rfl _).setCell (p:=⟨w.heap.size+1,8,none⟩) rfl _).setCell (p:=⟨w.heap.size+1,9,none⟩) rfl _).setCell (p:=⟨w.heap.size+1,10,none⟩) rfl _
   have HF:Mf WF (w.heap.size+1) [.slice ra' (M j).row.length rc',.int .i64 (M j).N,.string (M j).S,.int .i64 (M j).room,.slice va' (M j).vals.length vc',.int .i64 (M j).ret,.bool (M j).over,.int .i64 (M j).steps,.int .i64 (M j).looks,.int .i64 (M j).hits,.slice ma' (M j).memo.length mc']:=by
    rw [hWF]
    exact (((((((((((HZ2.out).set 0 (.slice ra' (M j).row.length rc')).set 1 (.int .i64 (M j).N)).set 2 (.string (M j).S)).set 3 (.int .i64 (M j).room)).set 4 (.slice va' (M j).vals.length vc')).set 5 (.int .i64 (M j).ret)).set 6 (.bool (M j).over)).set 7 (.int .i64 (M j).steps)).set 8 (.int .i64 (M j).looks)).set 9 (.int .i64 (M j).hits)).set 10 (.slice ma' (M j).memo.length mc')
   obtain ⟨e0,e1,e2,e3,e4,e5,e6,e7,e8,e9,e10,f0,f1,f2,f3,f4,f5,f6,f7,f8,f9,f10⟩:=HF.all
   exact bodyPost_ret (v:=mval (M j) ra' va' ma' rc' vc' mc') (by simp [results,Tryz.results115,go_sem,mval,e0,e1,e2,e3,e4,e5,e6,e7,e8,e9,e10]) rfl ⟨j,p,ra',va',ma',rc',vc',mc',bm,WC,w2,rfl,HBC.out,HSC.out,hj,HSTOP.out,HPAST.out,HIx.out,HSB.out,KF⟩
  ·have hjz:¬ (j:Int) < (n:Int):=by omega
   have HSTOP:Hid (j=n\/st j=true):=.inl (by omega)
   obtain ⟨w2,hw2⟩:∃ w2,w2=wr:=⟨_,rfl⟩
   subst hw2
   have HIx:Hid (I WC p j w2):=HIW.out
   obtain ⟨ra',va',ma',rc',vc',mc',bm,hSb⟩:=HE.out _ _ _ _ HIx.out
   have HSB:Hid (Sb w2 p (M j) ra' va' ma' rc' vc' mc' bm):=hSb
   clear hSb
   obtain ⟨c0,c1,c2,c3,c4,c5,c6,c7,c8,c9,c10,c11,y0,y1,y2,y3,y4,y5,y6,y7,y8,y9,y10,y11⟩:=HSB.out.all
   have hpl:=HSB.out.lt
   have HZ2:Hid (Mf w2 (w.heap.size+1) [.slice none 0 0,.int .i64 0,.string ⟨#[]⟩,.int .i64 0,.slice none 0 0,.int .i64 0,.bool false,.int .i64 0,.int .i64 0,.int .i64 0,.slice none 0 0]):=HZC.out.below (HK.out _ _ _ _ HIx.out)
   obtain ⟨d0,d1,d2,d3,d4,d5,d6,d7,d8,d9,d10,z0,z1,z2,z3,z4,z5,z6,z7,z8,z9,z10⟩:=HZ2.out.all
   have hlt:=HZ2.out.lt (by simp)
   go_wp2
   clear d0 z0 d1 z1 d2 z2 d3 z3 d4 z4 d5 z5 d6 z6 d7 z7 d8 z8 d9 z9 d10 z10 hlt c0 c1 c2 c3 c4 c5 c6 c7 c8 c9 c10 c11 y0 y1 y2 y3 y4 y5 y6 y7 y8 y9 y10 y11
   obtain ⟨WF,hWF⟩:∃ WF,WF=(((((((((((w2).setCell ⟨w.heap.size+1,0,none⟩ (.slice ra' (M j).row.length rc')).setCell ⟨w.heap.size+1,1,none⟩ (.int .i64 (M j).N)).setCell ⟨w.heap.size+1,2,none⟩ (.string (M j).S)).setCell ⟨w.heap.size+1,3,none⟩ (.int .i64 (M j).room)).setCell ⟨w.heap.size+1,4,none⟩ (.slice va' (M j).vals.length vc')).setCell ⟨w.heap.size+1,5,none⟩ (.int .i64 (M j).ret)).setCell ⟨w.heap.size+1,6,none⟩ (.bool (M j).over)).setCell ⟨w.heap.size+1,7,none⟩ (.int .i64 (M j).steps)).setCell ⟨w.heap.size+1,8,none⟩ (.int .i64 (M j).looks)).setCell ⟨w.heap.size+1,9,none⟩ (.int .i64 (M j).hits)).setCell ⟨w.heap.size+1,10,none⟩ (.slice ma' (M j).memo.length mc'):=⟨_,rfl⟩
   rw [<- hWF]
   have KF:Kept (fun b=>b=w.heap.size+1) w2 WF:=by rw [hWF];exact ((((((((((((Kept.refl (fun b=>b=w.heap.size+1) w2)).setCell (p:=⟨w.heap.size+1,0,none⟩) rfl _).setCell (p:=⟨w.heap.size+1,1,none⟩) rfl _).setCell (p:=⟨w.heap.size+1,2,none⟩) rfl _).setCell (p:=⟨w.heap.size+1,3,none⟩) rfl _).setCell (p:=⟨w.heap.size+1,4,none⟩) rfl _).setCell (p:=⟨w.heap.size+1,5,none⟩) rfl _).setCell (p:=⟨w.heap.size+1,6,none⟩) rfl _).setCell (p:=⟨w.heap.size+1,7,none⟩) rfl _).setCell (p:=⟨w.heap.size+1,8,none⟩) rfl _).setCell (p:=⟨w.heap.size+1,9,none⟩) rfl _).setCell (p:=⟨w.heap.size+1,10,none⟩) rfl _
   have HF:Mf WF (w.heap.size+1) [.slice ra' (M j).row.length rc',.int .i64 (M j).N,.string (M j).S,.int .i64 (M j).room,.slice va' (M j).vals.length vc',.int .i64 (M j).ret,.bool (M j).over,.int .i64 (M j).steps,.int .i64 (M j).looks,.int .i64 (M j).hits,.slice ma' (M j).memo.length mc']:=by
    rw [hWF]
    exact (((((((((((HZ2.out).set 0 (.slice ra' (M j).row.length rc')).set 1 (.int .i64 (M j).N)).set 2 (.string (M j).S)).set 3 (.int .i64 (M j).room)).set 4 (.slice va' (M j).vals.length vc')).set 5 (.int .i64 (M j).ret)).set 6 (.bool (M j).over)).set 7 (.int .i64 (M j).steps)).set 8 (.int .i64 (M j).looks)).set 9 (.int .i64 (M j).hits)).set 10 (.slice ma' (M j).memo.length mc')
   obtain ⟨e0,e1,e2,e3,e4,e5,e6,e7,e8,e9,e10,f0,f1,f2,f3,f4,f5,f6,f7,f8,f9,f10⟩:=HF.all
   exact bodyPost_ret (v:=mval (M j) ra' va' ma' rc' vc' mc') (by simp [results,Tryz.results115,go_sem,mval,e0,e1,e2,e3,e4,e5,e6,e7,e8,e9,e10]) rfl ⟨j,p,ra',va',ma',rc',vc',mc',bm,WC,w2,rfl,HBC.out,HSC.out,hj,HSTOP.out,HPAST.out,HIx.out,HSB.out,KF⟩
end Mw16
namespace Mw9
open Go.RowKit
open Nd0 Qc0 Qc2
/-- The Seens l lie from cell o of block g on, with room for cap of them. -/
structure Lie (w:World) (g o cap:Nat) (l:List Sn):Prop where
 lt:g < w.heap.size
 le:l.length<=cap
 max:cap<=maxLen
 cell:∀ j,j < l.length*2->w.cell? ⟨g,o+j,none⟩=(flatSn l)[j]?
 has:∀ j,j < cap*2->(w.cell? ⟨g,o+j,none⟩).isSome=true
 free:∀ j,j < cap*2->w.frozen? ⟨g,o+j,none⟩=false
def OwSo (w:World) (B:Nat) (v:Value) (l:List Sn):Prop :=
 (v=.slice none 0 0/\l=[])\/∃ g o cap,v=.slice (some ⟨g,o,none⟩) l.length cap/\B<=g/\Lie w g o cap l
theorem OwSo.of {w:World} {B:Nat} {v:Value} {l:List Sn} (h:OwSn w B v l):OwSo w B v l:=by
 obtain ⟨h1,h2⟩:=h
 rcases h2 with ⟨rfl,h0⟩|⟨g,cap,cur,rfl,hb,hg,hn,hm,hs,ht⟩
 ·exact .inl ⟨rfl,List.eq_nil_of_length_eq_zero h0⟩
 ·have hcell:∀ j,w.cell? ⟨g,j,none⟩=cur[j]? := fun j=>cell_of_row w g j cur _ _ hg
  refine .inr ⟨g,0,cap,rfl,hb,(Array.getElem?_eq_some_iff.1 hg).1,hn,hm,fun j hj=>?_,fun j hj=>?_,fun j hj=>?_⟩
  ·rw [Nat.zero_add,hcell,<- ht,List.getElem?_take_of_lt hj]
   simp
  ·rw [Nat.zero_add,hcell,Array.getElem?_eq_getElem (by omega)]
   rfl
  ·rw [Nat.zero_add]
   simp [World.frozen?,hg]
theorem OwSo.form {w:World} {B:Nat} {v:Value} {l:List Sn} (h:OwSo w B v l):∃ a c,v=.slice a l.length c/\WSns w B a l/\l.length<=c:=by
 rcases h with ⟨rfl,rfl⟩|⟨g,o,cap,rfl,hb,H⟩
 ·exact ⟨none,0,rfl,⟨Nat.zero_le _,.inl rfl⟩,Nat.zero_le _⟩
 ·have h1:=H.le
  have h2:=H.max
  refine ⟨_,_,rfl,⟨by omega,.inr ⟨g,o,rfl,hb,fun i hi=>?_,fun j hj=>?_⟩⟩,H.le⟩
  ·have hf:=flatSn_get l i hi
   exact ⟨by rw [H.cell _ (by omega)];exact hf 0 (by omega),by rw [Nat.add_assoc,H.cell _ (by omega)];exact hf 1 (by omega)⟩
  ·exact H.free j (by omega)
theorem OwSo.lt {w:World} {B:Nat} {v:Value} {l:List Sn} (h:OwSo w B v l):∀ g o n c,v=.slice (some ⟨g,o,none⟩) n c->B<=g/\g < w.heap.size:=by
 intro g o n c e
 rcases h with ⟨rfl,rfl⟩|⟨g',o',cap,rfl,hb,H⟩
 ·cases e
 ·cases e
  exact ⟨hb,H.lt⟩
theorem Lie.kept {w w':World} {g o cap:Nat} {l:List Sn} (h:Lie w g o cap l) {S:Nat->Prop} (k:Kept S w w') (hs:¬ S g):Lie w' g o cap l :=
 ⟨Nat.lt_of_lt_of_le h.lt k.size,h.le,h.max,fun j hj=>(k.cell (p:=⟨g,o+j,none⟩) h.lt hs).trans (h.cell j hj),fun j hj=>by rw [k.cell (p:=⟨g,o+j,none⟩) h.lt hs];exact h.has j hj,fun j hj=>(k.frozen (p:=⟨g,o+j,none⟩) h.lt hs).trans (h.free j hj)⟩
theorem OwSo.kept {w w':World} {B:Nat} {v:Value} {l:List Sn} (h:OwSo w B v l) {S:Nat->Prop} (k:Kept S w w') (hs:∀ g o n c,v=.slice (some ⟨g,o,none⟩) n c->¬ S g):OwSo w' B v l:=by
 rcases h with h|⟨g,o,cap,rfl,hb,H⟩
 ·exact .inl h
 ·exact .inr ⟨g,o,cap,rfl,hb,H.kept k (hs g o _ _ rfl)⟩
/-- One less at the front. -/
theorem Lie.tail {w:World} {g o cap:Nat} {x:Sn} {l:List Sn} (h:Lie w g o cap (x :: l)):Lie w g (o+2) (cap - 1) l:=by
 have h1:=h.le
 have h2:=h.max
 rw [List.length_cons] at h1
 refine ⟨h.lt,by omega,by omega,fun j hj=>?_,fun j hj=>?_,fun j hj=>?_⟩
 ·rw [Nat.add_assoc,h.cell (2+j) (by rw [List.length_cons];omega)]
  show (x.cells++flatSn l)[2+j]? = _
  rw [List.getElem?_append_right (by rw [cellsSn_length];omega),cellsSn_length,Nat.add_sub_cancel_left]
 ·rw [Nat.add_assoc];exact h.has _ (by omega)
 ·rw [Nat.add_assoc];exact h.free _ (by omega)
theorem kept_two (w:World) (g o:Nat) (y:Sn):Kept (fun k=>k=g) w (w.setCells g o y.cells) :=
 ((Kept.refl (fun k=>k=g) w).setCell (p:=⟨g,o,none⟩) rfl (.string y.k)).setCell (p:=⟨g,o+1,none⟩) rfl (.int .i64 y.r)
theorem flat_len (l:List Sn):(flatSn l).length=l.length*2:=by
 induction l with
 | nil=>rfl
 | cons n l ih=>show (n.cells++flatSn l).length=_;rw [List.length_append,ih,cellsSn_length,List.length_cons];omega
/-- One more where there is room. -/
theorem Lie.room {w:World} {g o cap:Nat} {l:List Sn} (h:Lie w g o cap l) (y:Sn) (hr:l.length+1<=cap):Lie (w.setCells g (o+l.length*2) y.cells) g o cap (l++[y]):=by
 have hcl:y.cells.length=2:=rfl
 have hfl:=flat_len l
 have hin:∀ j,j < y.cells.length->(w.cell? ⟨g,o+l.length*2+j,none⟩).isSome=true:=fun j hj=>by
  rw [Nat.add_assoc];exact h.has _ (by omega)
 have hlo:∀ j,j < l.length*2\/l.length*2+2<=j->(w.setCells g (o+l.length*2) y.cells).cell? ⟨g,o+j,none⟩=w.cell? ⟨g,o+j,none⟩:=fun j hj =>
  World.cell?_setCells_out g _ _ _ _ (fun _ _=>by show o+j < o+l.length*2\/o+l.length*2+y.cells.length<=o+j;omega)
 have hmid:∀ j (hj:j < y.cells.length),(w.setCells g (o+l.length*2) y.cells).cell? ⟨g,o+(l.length*2+j),none⟩=some y.cells[j]:=fun j hj=>by
  rw [<- Nat.add_assoc];exact World.cell?_setCells_in g _ _ _ hin j hj
 refine ⟨Nat.lt_of_lt_of_le h.lt (kept_two w g _ y).size,by rw [List.length_append];exact hr,h.max,fun j hj=>?_,fun j hj=>?_,fun j hj=>?_⟩
 ·rw [List.length_append,List.length_singleton] at hj
  rw [flatSn_snoc]
  by_cases hc:j < l.length*2
  ·rw [hlo j (.inl hc),h.cell j hc,List.getElem?_append_left (by omega)]
  ·obtain ⟨k,rfl⟩:∃ k,j=l.length*2+k:=⟨j - l.length*2,by omega⟩
   rw [hmid k (by omega),List.getElem?_append_right (by omega),hfl,Nat.add_sub_cancel_left,List.getElem?_eq_getElem]
 ·by_cases hc:j < l.length*2\/l.length*2+2<=j
  ·rw [hlo j hc];exact h.has j hj
  ·obtain ⟨k,rfl⟩:∃ k,j=l.length*2+k:=⟨j - l.length*2,by omega⟩
   rw [hmid k (by omega)];rfl
 ·rw [World.frozen?_setCells];exact h.free j hj
/-- One more, in either arm. -/
theorem run_so (W:World) (ty:TypeId) (B:Nat) (ao:Option Addr) (c:Nat) (l:List Sn) (y:Sn) (G:Nat) (hy0:W.cell? ⟨G,0,none⟩=some (.string y.k)) (hy1:W.cell? ⟨G,1,none⟩=some (.int .i64 y.r))
 (hown:OwSo W B (.slice ao l.length c) l) (hB:B<=W.heap.size) (hlen:l.length<=1048576) :
 ∃ g o cap w',(Builtin.append_ #[33,33] ty #[.slice ao l.length c,.slice (some ⟨G,0,none⟩) 1 1]).run Tryz.prog W=.ok (.slice (some ⟨g,o,none⟩) (l.length+1) cap) w' /\
  OwSo w' B (.slice (some ⟨g,o,none⟩) (l.length+1) cap) (l++[y])/\Kept (At ao) W w'/\(At ao g\/W.heap.size<=g):=by
 obtain ⟨i,hi,hzz⟩:=Option.map_eq_some_iff.1 infoASn
 simp only [Prod.mk.injEq] at hzz
 obtain ⟨hz,hsz,hb⟩:=hzz
 have hnews:∀ j u,y.cells[j]? = some u->W.cell? ((⟨G,0,none⟩:Addr).add j)=some u:=by
  intro j u hu
  have hj:j < 2:=(List.getElem?_eq_some_iff.1 hu).1
  have hadd:(⟨G,0,none⟩:Addr).add j=⟨G,j,none⟩:=by unfold Addr.add;split<;>simp_all
  rw [hadd]
  match j,hj with
  | 0,_=>rw [hy0];exact hu
  | 1,_=>rw [hy1];exact hu
 have h1:∀ u∈y.cells,u.oneCell'=true:=by
  intro u hu
  simp [Sn.cells] at hu
  rcases hu with rfl|rfl<;>rfl
 have hll:(l++[y]).length=l.length+1:=by rw [List.length_append];rfl
 have end_own:∀ v' w',w'.ownsRow W.heap.size 102 2 v' (l.length+1) (flatSn l++y.cells)->W.grownBy w' none ->
  ∃ g o cap,v'=.slice (some ⟨g,o,none⟩) (l.length+1) cap/\OwSo w' B (.slice (some ⟨g,o,none⟩) (l.length+1) cap) (l++[y])/\Kept (At ao) W w'/\(At ao g\/W.heap.size<=g):=by
  intro v' w' r1 r2
  have r1':OwSn w' W.heap.size v' (l++[y]):=by
   unfold OwSn
   rw [flatSn_snoc,hll]
   exact r1
  rcases OwSo.of r1' with ⟨_,e⟩|⟨g,o,cap,rfl,hg,H⟩
  ·exact absurd e (by simp)
  ·rw [hll]
   exact ⟨g,o,cap,rfl,.inr ⟨g,o,cap,by rw [hll],Nat.le_trans hB hg,H⟩,⟨r2.os,r2.tape,r2.output,r2.size,fun k hk _=>r2.block k hk (by simp)⟩,.inr hg⟩
 rcases hown with ⟨e1,rfl⟩|⟨g,o,cap,e1,hBg,H⟩
 ·cases e1
  obtain ⟨v',w',hrun,r1,r2,_⟩:=run_append_own (P:=Tryz.prog) W W.heap.size 33 ty 102 i _ 2 24 Tryz.underlying33 hi hz hsz hb rfl (by omega) (.slice none 0 0) 0 [] (World.ownsRow_nil W _ 102 2) ⟨G,0,none⟩ 1 1 y.cells rfl hnews h1 (by unfold maxLen;omega) (by omega) (Nat.le_refl _)
  obtain ⟨g,o,cap,rfl,q1,q2,q3⟩:=end_own v' w' r1 r2
  exact ⟨g,o,cap,w',hrun,q1,q2,q3⟩
 ·cases e1
  by_cases hr:l.length+1<=c
  ·have hrun:=run_append_room_cells (P:=Tryz.prog) W 33 ty 102 i Tryz.underlying33 hi g o l.length c ⟨G,0,none⟩ 1 1 y.cells (by rw [hsz];rfl) hnews h1 hr
    (fun j hj=>by have hj2:j < 2:=hj;rw [hsz,Nat.add_assoc];exact H.has _ (by omega)) (fun j hj=>by have hj2:j < 2:=hj;rw [hsz,Nat.add_assoc];exact H.free _ (by omega))
   rw [hsz] at hrun
   exact ⟨g,o,c,_,hrun,.inr ⟨g,o,c,by rw [hll],hBg,H.room y hr⟩,(kept_two W g _ y).mono (fun k hk=>⟨_,rfl,hk⟩),.inl ⟨_,rfl,rfl⟩⟩
  ·obtain ⟨v',w',hrun,r1,r2⟩:=run_append_arg_grows (P:=Tryz.prog) W 33 ty 102 i _ 2 24 Tryz.underlying33 hi hz hsz hb rfl (by omega) ⟨g,o,none⟩ l.length c (flatSn l) (flat_len l)
    (fun j u hu=>by rw [Addr.add_lit,H.cell j (by have:=(List.getElem?_eq_some_iff.1 hu).1;rw [flat_len] at this;exact this)];exact hu) ⟨G,0,none⟩ 1 1 y.cells rfl hnews (by omega) (by unfold maxLen;omega) (by omega)
   obtain ⟨g',o',cap',rfl,q1,q2,q3⟩:=end_own v' w' r1 r2
   exact ⟨g',o',cap',w',hrun,q1,q2,q3⟩
/-- The same at a step of a region that draws. -/
theorem step_so {ops:Array Oper} {o:Oper} {a:Act} {K:Act->World->Prop} {Q:Exit->Act->World->Prop} {E:Prop} (W:World) (hgd:o.guard=none) (s x:Operand)
 (ho:o.op=.call { callee:=.builtin .append,args := #[s,x],argTypes := #[33,33] })
 (B:Nat) (ao:Option Addr) (c:Nat) (l:List Sn) (y:Sn) (hs:a.eval s=.slice ao l.length c) (G:Nat) (hx:a.eval x=.slice (some ⟨G,0,none⟩) 1 1)
 (hy0:W.cell? ⟨G,0,none⟩=some (.string y.k)) (hy1:W.cell? ⟨G,1,none⟩=some (.int .i64 y.r))
 (hown:OwSo W B (.slice ao l.length c) l) (hB:B<=W.heap.size) (hlen:l.length<=1048576)
 (h:∀ g q cap w',OwSo w' B (.slice (some ⟨g,q,none⟩) (l.length+1) cap) (l++[y])->Kept (At ao) W w'->(At ao g\/W.heap.size<=g)->K (a.put o.dst (.slice (some ⟨g,q,none⟩) (l.length+1) cap)) w') :
 if Region.wanted o (yielded ops a.tmps)=true then Oper.wp Tryz.prog o a W K Q else E:=by
 have hw:Region.wanted o (yielded ops a.tmps)=true:=by simp [Region.wanted,hgd]
 rw [if_pos hw]
 obtain ⟨g,q,cap,w',hrun,q1,q2,q3⟩:=run_so W o.type B ao c l y G hy0 hy1 hown hB hlen
 unfold Oper.wp
 simp [execOp,ho,resolve,invoke,builtin,hs,hx,hrun,Result.andThen]
 exact h g q cap w' q1 q2 q3
end Mw9
end Go.Proofs.YtladjpombohpaaaGreatDoor
