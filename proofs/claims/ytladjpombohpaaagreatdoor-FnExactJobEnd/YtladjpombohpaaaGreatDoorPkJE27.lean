import Derived.Test.YtladjpombohpaaaGreatDoorPkJE26
namespace Go.Proofs.YtladjpombohpaaaGreatDoor
set_option maxRecDepth 100000
set_option maxHeartbeats 8000000
set_option linter.unusedVariables false
namespace Cp0
open Go.RowKit
open Nd0 (Kept Ints lt_of_cell)
open Nd6 (Bools)
open Ap0 Ap1 Qc0 Qc2 Cl0 Mm0 Mx0
theorem own_mono {w:World} {B B':Nat} {v:Value} {l:List Bool} (h:Owb w B v l) (hB:B'<=B):Owb w B' v l:=by
 refine ⟨h.1,?_⟩
 rcases h.2 with e|⟨g,cap,cur,e,hb,r⟩
 ·exact .inl e
 ·exact .inr ⟨g,cap,cur,e,by omega,r⟩
theorem iCopied (w:World) (m:Mc) (ra va ma:Option Addr) (rc vc mc:Nat) (h:Mr w m ra va ma) (hr:m.row.length<=1048576) (hv:m.vals.length<=1048576) (hm:m.memo.length<=1048576) :
 Calls Tryz.prog 107 #[mval m ra va ma rc vc mc] w fun e w'=>∃ ra' va' ma' rc' vc' mc' U1 U2,e=.returned (mval m ra' va' ma' rc' vc' mc')/\w.heap.size<=U1/\U1<=U2/\U2<=w'.heap.size/\Owb w' w.heap.size (.slice ra' m.row.length rc') m.row/\(∀ x,ra'=some x->x.block < U1)/\Ows w' U1 (.slice va' m.vals.length vc') m.vals/\(∀ x,va'=some x->x.block < U2)/\OwSn w' U2 (.slice ma' m.memo.length mc') m.memo/\Below w.heap.size w w':=by
 have H:Hid (Mr w m ra va ma):=h
 clear h
 obtain ⟨W0,hW0⟩:∃ W0,W0=((w.alloc (.cells #[.slice ra m.row.length rc,.int .i64 m.N,.string m.S,.int .i64 m.room,.slice va m.vals.length vc,.int .i64 m.ret,.bool m.over,.int .i64 m.steps,.int .i64 m.looks,.int .i64 m.hits,.slice ma m.memo.length mc] 35)).alloc (.cells #[.slice none 0 0,.int .i64 0,.string ⟨#[]⟩,.int .i64 0,.slice none 0 0,.int .i64 0,.bool false,.int .i64 0,.int .i64 0,.int .i64 0,.slice none 0 0] 35)):=⟨_,rfl⟩
 have HE0:Hid (((w.alloc (.cells #[.slice ra m.row.length rc,.int .i64 m.N,.string m.S,.int .i64 m.room,.slice va m.vals.length vc,.int .i64 m.ret,.bool m.over,.int .i64 m.steps,.int .i64 m.looks,.int .i64 m.hits,.slice ma m.memo.length mc] 35)).alloc (.cells #[.slice none 0 0,.int .i64 0,.string ⟨#[]⟩,.int .i64 0,.slice none 0 0,.int .i64 0,.bool false,.int .i64 0,.int .i64 0,.int .i64 0,.slice none 0 0] 35))=W0):=hW0.symm
 have HB0:Hid (Below w.heap.size w W0):=by rw [hW0];exact ((Below.refl _ _).alloc (Nat.le_refl _) _).alloc (by simp) _
 have HA0:Hid (Mf W0 w.heap.size [.slice ra m.row.length rc,.int .i64 m.N,.string m.S,.int .i64 m.room,.slice va m.vals.length vc,.int .i64 m.ret,.bool m.over,.int .i64 m.steps,.int .i64 m.looks,.int .i64 m.hits,.slice ma m.memo.length mc]):=by rw [hW0];exact (Mf.made _ _ _).alloc _
 have HR0:Hid (Mf W0 (w.heap.size+1) [.slice none 0 0,.int .i64 0,.string ⟨#[]⟩,.int .i64 0,.slice none 0 0,.int .i64 0,.bool false,.int .i64 0,.int .i64 0,.int .i64 0,.slice none 0 0]):=by
  have h1:=Mf.made (w.alloc (.cells #[.slice ra m.row.length rc,.int .i64 m.N,.string m.S,.int .i64 m.room,.slice va m.vals.length vc,.int .i64 m.ret,.bool m.over,.int .i64 m.steps,.int .i64 m.looks,.int .i64 m.hits,.slice ma m.memo.length mc] 35)) #[.slice none 0 0,.int .i64 0,.string ⟨#[]⟩,.int .i64 0,.slice none 0 0,.int .i64 0,.bool false,.int .i64 0,.int .i64 0,.int .i64 0,.slice none 0 0] 35
  have h2:(w.alloc (.cells #[.slice ra m.row.length rc,.int .i64 m.N,.string m.S,.int .i64 m.room,.slice va m.vals.length vc,.int .i64 m.ret,.bool m.over,.int .i64 m.steps,.int .i64 m.looks,.int .i64 m.hits,.slice ma m.memo.length mc] 35)).heap.size=w.heap.size+1:=by simp
  rw [h2,<- hW0] at h1
  exact h1
 have HS0:Hid (W0.heap.size=w.heap.size+2):=by show _=_;rw [hW0];simp
 clear hW0
 go_enter Tryz.func107,Tryz.ntmps107
 go_upto_region 1 with fail
 rw [HE0.out]
 clear HE0
 have dd:Below W0.heap.size W0 W0.drew:=(Below.refl _ _).drew
 have HBD:Hid (Below w.heap.size w W0.drew):=HB0.out.drew
 have HAD:Hid (Mf W0.drew w.heap.size [.slice ra m.row.length rc,.int .i64 m.N,.string m.S,.int .i64 m.room,.slice va m.vals.length vc,.int .i64 m.ret,.bool m.over,.int .i64 m.steps,.int .i64 m.looks,.int .i64 m.hits,.slice ma m.memo.length mc]):=HA0.out.below dd
 have HRD:Hid (Mf W0.drew (w.heap.size+1) [.slice none 0 0,.int .i64 0,.string ⟨#[]⟩,.int .i64 0,.slice none 0 0,.int .i64 0,.bool false,.int .i64 0,.int .i64 0,.int .i64 0,.slice none 0 0]):=HR0.out.below dd
 have a0:W0.cell? ⟨w.heap.size,0,none⟩=some (.slice ra m.row.length rc):=(HA0.out 0 (by simp)).1
 have a4:W0.cell? ⟨w.heap.size,4,none⟩=some (.slice va m.vals.length vc):=(HA0.out 4 (by simp)).1
 have a10:W0.cell? ⟨w.heap.size,10,none⟩=some (.slice ma m.memo.length mc):=(HA0.out 10 (by simp)).1
 clear dd HA0 HR0 HB0
 go_region_with ((first|(go_at_call 138;refine (iCloneBs _ ra m.row rc (H.out.row.below HBD.out) hr).mono ?_;rintro e x1 ⟨rv,rfl,ho1,hb1⟩;obtain ⟨ra1,rc1,hrv,_⟩:=ho1.form;subst hrv;have HB1:Hid (Below w.heap.size w x1):=HBD.out.trans (hb1.mono HBD.out.size);have HA1:Hid (Mf x1 w.heap.size [.slice ra m.row.length rc,.int .i64 m.N,.string m.S,.int .i64 m.room,.slice va m.vals.length vc,.int .i64 m.ret,.bool m.over,.int .i64 m.steps,.int .i64 m.looks,.int .i64 m.hits,.slice ma m.memo.length mc]):=HAD.out.below hb1;have HR1:Hid (Mf x1 (w.heap.size+1) [.slice none 0 0,.int .i64 0,.string ⟨#[]⟩,.int .i64 0,.slice none 0 0,.int .i64 0,.bool false,.int .i64 0,.int .i64 0,.int .i64 0,.slice none 0 0]):=HRD.out.below hb1;have HX1:Hid (W0.drew.heap.size<=x1.heap.size):=hb1.size;have HO1:Hid (Owb x1 W0.drew.heap.size (.slice ra1 m.row.length rc1) m.row):=ho1;clear hb1 ho1;have n4:x1.cell? ⟨w.heap.size,4,none⟩=some (.slice va m.vals.length vc):=(HA1.out 4 (by simp)).1;have n10:x1.cell? ⟨w.heap.size,10,none⟩=some (.slice ma m.memo.length mc):=(HA1.out 10 (by simp)).1)|(go_at_call 139;refine (iCloneIs _ va m.vals vc (H.out.vals.below HB1.out) hv).mono ?_;rintro e x2 ⟨vv,rfl,ho2,hb2⟩;obtain ⟨va1,vc1,hvv,_⟩:=ho2.form;subst hvv;have HB2:Hid (Below w.heap.size w x2):=HB1.out.trans (hb2.mono HB1.out.size);have HA2:Hid (Mf x2 w.heap.size [.slice ra m.row.length rc,.int .i64 m.N,.string m.S,.int .i64 m.room,.slice va m.vals.length vc,.int .i64 m.ret,.bool m.over,.int .i64 m.steps,.int .i64 m.looks,.int .i64 m.hits,.slice ma m.memo.length mc]):=HA1.out.below hb2;have HR2:Hid (Mf x2 (w.heap.size+1) [.slice none 0 0,.int .i64 0,.string ⟨#[]⟩,.int .i64 0,.slice none 0 0,.int .i64 0,.bool false,.int .i64 0,.int .i64 0,.int .i64 0,.slice none 0 0]):=HR1.out.below hb2;have HP2:Hid (Below x1.heap.size x1 x2):=hb2;have HO2:Hid (Ows x2 x1.heap.size (.slice va1 m.vals.length vc1) m.vals):=ho2;clear hb2 ho2;have p10:x2.cell? ⟨w.heap.size,10,none⟩=some (.slice ma m.memo.length mc):=(HA2.out 10 (by simp)).1)|(go_at_call 140;refine (iCloneSs _ ma m.memo mc (H.out.memo.below HB2.out) hm).mono ?_;rintro e x3 ⟨mv,rfl,ho3,hb3⟩;obtain ⟨ma1,mc1,hmv,_⟩:=ho3.form;subst hmv;have HB3:Hid (Below w.heap.size w x3):=HB2.out.trans (hb3.mono HB2.out.size);have HA3:Hid (Mf x3 w.heap.size [.slice ra m.row.length rc,.int .i64 m.N,.string m.S,.int .i64 m.room,.slice va m.vals.length vc,.int .i64 m.ret,.bool m.over,.int .i64 m.steps,.int .i64 m.looks,.int .i64 m.hits,.slice ma m.memo.length mc]):=HA2.out.below hb3;have HR3:Hid (Mf x3 (w.heap.size+1) [.slice none 0 0,.int .i64 0,.string ⟨#[]⟩,.int .i64 0,.slice none 0 0,.int .i64 0,.bool false,.int .i64 0,.int .i64 0,.int .i64 0,.slice none 0 0]):=HR2.out.below hb3;have HP3:Hid (Below x2.heap.size x2 x3):=hb3;have HO3:Hid (OwSn x3 x2.heap.size (.slice ma1 m.memo.length mc1) m.memo):=ho3;clear hb3 ho3;have q0:x3.cell? ⟨w.heap.size,0,none⟩=some (.slice ra m.row.length rc):=(HA3.out 0 (by simp)).1;have t0:x3.frozen? ⟨w.heap.size,0,none⟩=false:=(HA3.out 0 (by simp)).2;have q4:x3.cell? ⟨w.heap.size,4,none⟩=some (.slice va m.vals.length vc):=(HA3.out 4 (by simp)).1;have t4:x3.frozen? ⟨w.heap.size,4,none⟩=false:=(HA3.out 4 (by simp)).2;have q10:x3.cell? ⟨w.heap.size,10,none⟩=some (.slice ma m.memo.length mc):=(HA3.out 10 (by simp)).1;have t10:x3.frozen? ⟨w.heap.size,10,none⟩=false:=(HA3.out 10 (by simp)).2)))
 all_goals
  clear a0 a4 a10 n4 n10 p10 q0 q4 q10 t0 t4 t10
  obtain ⟨W4,hW4⟩:∃ W4,W4=((x3.setCell ⟨w.heap.size,0,none⟩ (.slice ra1 m.row.length rc1)).setCell ⟨w.heap.size,4,none⟩ (.slice va1 m.vals.length vc1)).setCell ⟨w.heap.size,10,none⟩ (.slice ma1 m.memo.length mc1):=⟨_,rfl⟩
  rw [<- hW4]
  have K4:Kept (fun b=>b=w.heap.size) x3 W4:=by
   rw [hW4]
   exact (((Kept.refl (fun b=>b=w.heap.size) x3).setCell (p:=⟨w.heap.size,0,none⟩) rfl _).setCell (p:=⟨w.heap.size,4,none⟩) rfl _).setCell (p:=⟨w.heap.size,10,none⟩) rfl _
  have HA4:Mf W4 w.heap.size [.slice ra1 m.row.length rc1,.int .i64 m.N,.string m.S,.int .i64 m.room,.slice va1 m.vals.length vc1,.int .i64 m.ret,.bool m.over,.int .i64 m.steps,.int .i64 m.looks,.int .i64 m.hits,.slice ma1 m.memo.length mc1]:=by
   rw [hW4]
   exact ((HA3.out.set 0 (.slice ra1 m.row.length rc1)).set 4 (.slice va1 m.vals.length vc1)).set 10 (.slice ma1 m.memo.length mc1)
  have HR4:Hid (Mf W4 (w.heap.size+1) [.slice none 0 0,.int .i64 0,.string ⟨#[]⟩,.int .i64 0,.slice none 0 0,.int .i64 0,.bool false,.int .i64 0,.int .i64 0,.int .i64 0,.slice none 0 0]):=HR3.out.kept K4 (by omega)
  have HK4:Hid (Kept (fun b=>b=w.heap.size) x3 W4):=K4
  obtain ⟨c0,c1,c2,c3,c4,c5,c6,c7,c8,c9,c10,y0,y1,y2,y3,y4,y5,y6,y7,y8,y9,y10⟩:=HA4.all
  obtain ⟨d0,d1,d2,d3,d4,d5,d6,d7,d8,d9,d10,z0,z1,z2,z3,z4,z5,z6,z7,z8,z9,z10⟩:=HR4.out.all
  clear HA4 hW4 K4
  go_wp2
  clear c0 y0 d0 z0 c1 y1 d1 z1 c2 y2 d2 z2 c3 y3 d3 z3 c4 y4 d4 z4 c5 y5 d5 z5 c6 y6 d6 z6 c7 y7 d7 z7 c8 y8 d8 z8 c9 y9 d9 z9 c10 y10 d10 z10
  obtain ⟨WF,hWF⟩:∃ WF,WF=(((((((((((W4).setCell ⟨w.heap.size+1,0,none⟩ (.slice ra1 m.row.length rc1)).setCell ⟨w.heap.size+1,1,none⟩ (.int .i64 m.N)).setCell ⟨w.heap.size+1,2,none⟩ (.string m.S)).setCell ⟨w.heap.size+1,3,none⟩ (.int .i64 m.room)).setCell ⟨w.heap.size+1,4,none⟩ (.slice va1 m.vals.length vc1)).setCell ⟨w.heap.size+1,5,none⟩ (.int .i64 m.ret)).setCell ⟨w.heap.size+1,6,none⟩ (.bool m.over)).setCell ⟨w.heap.size+1,7,none⟩ (.int .i64 m.steps)).setCell ⟨w.heap.size+1,8,none⟩ (.int .i64 m.looks)).setCell ⟨w.heap.size+1,9,none⟩ (.int .i64 m.hits)).setCell ⟨w.heap.size+1,10,none⟩ (.slice ma1 m.memo.length mc1):=⟨_,rfl⟩
  rw [<- hWF]
  have KF:Kept (fun b=>b=w.heap.size\/b=w.heap.size+1) x3 WF:=by
   rw [hWF]
   exact ((((((((((((HK4.out.mono (fun b hb=>.inl hb):Kept (fun b=>b=w.heap.size\/b=w.heap.size+1) x3 W4)).setCell (p:=⟨w.heap.size+1,0,none⟩) (.inr rfl) _).setCell (p:=⟨w.heap.size+1,1,none⟩) (.inr rfl) _).setCell (p:=⟨w.heap.size+1,2,none⟩) (.inr rfl) _).setCell (p:=⟨w.heap.size+1,3,none⟩) (.inr rfl) _).setCell (p:=⟨w.heap.size+1,4,none⟩) (.inr rfl) _).setCell (p:=⟨w.heap.size+1,5,none⟩) (.inr rfl) _).setCell (p:=⟨w.heap.size+1,6,none⟩) (.inr rfl) _).setCell (p:=⟨w.heap.size+1,7,none⟩) (.inr rfl) _).setCell (p:=⟨w.heap.size+1,8,none⟩) (.inr rfl) _).setCell (p:=⟨w.heap.size+1,9,none⟩) (.inr rfl) _).setCell (p:=⟨w.heap.size+1,10,none⟩) (.inr rfl) _
  have HF:Mf WF (w.heap.size+1) [.slice ra1 m.row.length rc1,.int .i64 m.N,.string m.S,.int .i64 m.room,.slice va1 m.vals.length vc1,.int .i64 m.ret,.bool m.over,.int .i64 m.steps,.int .i64 m.looks,.int .i64 m.hits,.slice ma1 m.memo.length mc1]:=by
   rw [hWF]
   exact (((((((((((HR4.out.set 0 (.slice ra1 m.row.length rc1)).set 1 (.int .i64 m.N)).set 2 (.string m.S)).set 3 (.int .i64 m.room)).set 4 (.slice va1 m.vals.length vc1)).set 5 (.int .i64 m.ret)).set 6 (.bool m.over)).set 7 (.int .i64 m.steps)).set 8 (.int .i64 m.looks)).set 9 (.int .i64 m.hits)).set 10 (.slice ma1 m.memo.length mc1))
  obtain ⟨c0,c1,c2,c3,c4,c5,c6,c7,c8,c9,c10,y0,y1,y2,y3,y4,y5,y6,y7,y8,y9,y10⟩:=HF.all
  have s0:=HS0.out
  have s2:=HP2.out.size
  have s3:=HP3.out.size
  have sF:=KF.size
  have sD:W0.drew.heap.size=W0.heap.size:=rfl
  have l1:=HO1.out.lt
  have l2:=HO2.out.lt
  have l3:=HO3.out.lt
  have f1:Owb WF W0.drew.heap.size (.slice ra1 m.row.length rc1) m.row:=(((HO1.out.kept (S:=fun _=>False) (Kept.ofBelow HP2.out) (fun _ _ h=>h)).kept (S:=fun _=>False) (Kept.ofBelow HP3.out) (fun _ _ h=>h)).kept KF (fun k hk h=>by have:=l1 k hk;omega))
  have f2:Ows WF x1.heap.size (.slice va1 m.vals.length vc1) m.vals:=((HO2.out.kept (S:=fun _=>False) (Kept.ofBelow HP3.out) (fun _ _ h=>h)).kept KF (fun k hk h=>by have:=l2 k hk;have:=HX1.out;omega))
  have f3:OwSn WF x2.heap.size (.slice ma1 m.memo.length mc1) m.memo:=HO3.out.kept KF (fun k hk h=>by have:=l3 k hk;have:=HX1.out;omega)
  have fb:Below w.heap.size w WF:=HB3.out.trans (KF.below (fun b hb=>by omega) HB3.out.size)
  refine bodyPost_ret (v:=mval m ra1 va1 ma1 rc1 vc1 mc1) (by simp [results,Tryz.results107,go_sem,c0,c1,c2,c3,c4,c5,c6,c7,c8,c9,c10]) rfl ⟨ra1,va1,ma1,rc1,vc1,mc1,x1.heap.size,x2.heap.size,rfl,by have:=HX1.out;omega,by omega,by omega,own_mono f1 (by omega),fun x hx=>by subst hx;exact (l1 _ rfl).2,f2,fun x hx=>by subst hx;exact (l2 _ rfl).2,f3,fb⟩
end Cp0
namespace Mw7
open Go.RowKit
open Nd0 (Kept Ints lt_of_cell At)
open Ap0 Ap1 Qc0 Qc2 Cl0 Cp0 Mm0 Mx0 Mu2 Mw0 Ms0 Mi1
/-- Where a machine at work lies: apart from its lists and its map. -/
structure Sx (B p bm:Nat) (ra va ma:Option Addr):Prop where
 hp:B<=p
 hb:B<=bm
 hn:p≠bm
 r:∀ x,ra=some x->x.block≠p/\x.block≠bm
 v:∀ x,va=some x->x.block≠p/\x.block≠bm
 mm:∀ x,ma=some x->x.block≠p/\x.block≠bm
theorem iNew (w:World) (m:Mc) (ra va ma:Option Addr) (rc vc mc:Nat) (h:Mr w m ra va ma) (hr:m.row.length<=1048576) (hv:m.vals.length<=1048576) (hm:m.memo.length<=1048576) (hk:∀ x∈m.memo,x.k.size<=maxLen) (hb:∀ x∈m.memo,0<=x.r/\x.r<=1) :
 Calls Tryz.prog 162 #[mval m ra va ma rc vc mc] w fun e w'=>∃ p ra' va' ma' rc' vc' mc' bm,e=.returned (.pointer (some ⟨p,0,none⟩))/\Sb w' p m ra' va' ma' rc' vc' mc' bm/\MO w' w.heap.size m ra' va' ma' rc' vc' mc'/\Ms w' bm (cnt m.memo m.memo.length) (says m.memo m.memo.length)/\Sx w.heap.size p bm ra' va' ma'/\Below w.heap.size w w':=by
 have H:Hid (Mr w m ra va ma):=h
 have HK:Hid (∀ x∈m.memo,x.k.size<=maxLen):=hk
 have HBT:Hid (∀ x∈m.memo,0<=x.r/\x.r<=1):=hb
 clear h hk hb
 obtain ⟨X0,hX0⟩:∃ X0,X0=w.alloc (.cells #[.slice ra m.row.length rc,.int .i64 m.N,.string m.S,.int .i64 m.room,.slice va m.vals.length vc,.int .i64 m.ret,.bool m.over,.int .i64 m.steps,.int .i64 m.looks,.int .i64 m.hits,.slice ma m.memo.length mc] 35):=⟨_,rfl⟩
 have HE0:Hid (w.alloc (.cells #[.slice ra m.row.length rc,.int .i64 m.N,.string m.S,.int .i64 m.room,.slice va m.vals.length vc,.int .i64 m.ret,.bool m.over,.int .i64 m.steps,.int .i64 m.looks,.int .i64 m.hits,.slice ma m.memo.length mc] 35)=X0):=hX0.symm
 have HBD:Hid (Below w.heap.size w X0.drew):=by rw [hX0];exact ((Below.refl _ _).alloc (Nat.le_refl _) _).drew
 have HAD:Hid (Mf X0.drew w.heap.size [.slice ra m.row.length rc,.int .i64 m.N,.string m.S,.int .i64 m.room,.slice va m.vals.length vc,.int .i64 m.ret,.bool m.over,.int .i64 m.steps,.int .i64 m.looks,.int .i64 m.hits,.slice ma m.memo.length mc]):=by rw [hX0];exact (Mf.made _ _ _).below (Below.refl _ _).drew
 have HSD:Hid (w.heap.size+1<=X0.drew.heap.size):=by show _<=_;rw [hX0];simp
 clear hX0
 go_enter Tryz.func162,Tryz.ntmps162
 go_upto_region 1 with fail
 rw [HE0.out]
 clear HE0
 go_region_held3 (fun w'=>w'.cell? ⟨w.heap.size,0,none⟩=some (.slice ra m.row.length rc)/\w'.cell? ⟨w.heap.size,1,none⟩=some (.int .i64 m.N)/\w'.cell? ⟨w.heap.size,2,none⟩=some (.string m.S)/\w'.cell? ⟨w.heap.size,3,none⟩=some (.int .i64 m.room)/\w'.cell? ⟨w.heap.size,4,none⟩=some (.slice va m.vals.length vc)/\w'.cell? ⟨w.heap.size,5,none⟩=some (.int .i64 m.ret)/\w'.cell? ⟨w.heap.size,6,none⟩=some (.bool m.over)/\w'.cell? ⟨w.heap.size,7,none⟩=some (.int .i64 m.steps)/\w'.cell? ⟨w.heap.size,8,none⟩=some (.int .i64 m.looks)/\w'.cell? ⟨w.heap.size,9,none⟩=some (.int .i64 m.hits)/\w'.cell? ⟨w.heap.size,10,none⟩=some (.slice ma m.memo.length mc)) ((first|(with_reducible exact ⟨(HAD.out.mb:Mb _ _ m ra va ma rc vc mc).c0,(HAD.out.mb:Mb _ _ m ra va ma rc vc mc).c1,(HAD.out.mb:Mb _ _ m ra va ma rc vc mc).c2,(HAD.out.mb:Mb _ _ m ra va ma rc vc mc).c3,(HAD.out.mb:Mb _ _ m ra va ma rc vc mc).c4,(HAD.out.mb:Mb _ _ m ra va ma rc vc mc).c5,(HAD.out.mb:Mb _ _ m ra va ma rc vc mc).c6,(HAD.out.mb:Mb _ _ m ra va ma rc vc mc).c7,(HAD.out.mb:Mb _ _ m ra va ma rc vc mc).c8,(HAD.out.mb:Mb _ _ m ra va ma rc vc mc).c9,(HAD.out.mb:Mb _ _ m ra va ma rc vc mc).c10⟩)|(with_reducible exact ⟨((HA2.out.alloc _).mb:Mb _ _ m ra va ma rc vc mc).c0,((HA2.out.alloc _).mb:Mb _ _ m ra va ma rc vc mc).c1,((HA2.out.alloc _).mb:Mb _ _ m ra va ma rc vc mc).c2,((HA2.out.alloc _).mb:Mb _ _ m ra va ma rc vc mc).c3,((HA2.out.alloc _).mb:Mb _ _ m ra va ma rc vc mc).c4,((HA2.out.alloc _).mb:Mb _ _ m ra va ma rc vc mc).c5,((HA2.out.alloc _).mb:Mb _ _ m ra va ma rc vc mc).c6,((HA2.out.alloc _).mb:Mb _ _ m ra va ma rc vc mc).c7,((HA2.out.alloc _).mb:Mb _ _ m ra va ma rc vc mc).c8,((HA2.out.alloc _).mb:Mb _ _ m ra va ma rc vc mc).c9,((HA2.out.alloc _).mb:Mb _ _ m ra va ma rc vc mc).c10⟩)|exact ⟨(HA2.out.mb:Mb _ _ m ra va ma rc vc mc).c0,(HA2.out.mb:Mb _ _ m ra va ma rc vc mc).c1,(HA2.out.mb:Mb _ _ m ra va ma rc vc mc).c2,(HA2.out.mb:Mb _ _ m ra va ma rc vc mc).c3,(HA2.out.mb:Mb _ _ m ra va ma rc vc mc).c4,(HA2.out.mb:Mb _ _ m ra va ma rc vc mc).c5,(HA2.out.mb:Mb _ _ m ra va ma rc vc mc).c6,(HA2.out.mb:Mb _ _ m ra va ma rc vc mc).c7,(HA2.out.mb:Mb _ _ m ra va ma rc vc mc).c8,(HA2.out.mb:Mb _ _ m ra va ma rc vc mc).c9,(HA2.out.mb:Mb _ _ m ra va ma rc vc mc).c10⟩|exact ⟨(HA1.out.mb:Mb _ _ m ra va ma rc vc mc).c0,(HA1.out.mb:Mb _ _ m ra va ma rc vc mc).c1,(HA1.out.mb:Mb _ _ m ra va ma rc vc mc).c2,(HA1.out.mb:Mb _ _ m ra va ma rc vc mc).c3,(HA1.out.mb:Mb _ _ m ra va ma rc vc mc).c4,(HA1.out.mb:Mb _ _ m ra va ma rc vc mc).c5,(HA1.out.mb:Mb _ _ m ra va ma rc vc mc).c6,(HA1.out.mb:Mb _ _ m ra va ma rc vc mc).c7,(HA1.out.mb:Mb _ _ m ra va ma rc vc mc).c8,(HA1.out.mb:Mb _ _ m ra va ma rc vc mc).c9,(HA1.out.mb:Mb _ _ m ra va ma rc vc mc).c10⟩|exact ⟨(HAD.out.mb:Mb _ _ m ra va ma rc vc mc).c0,(HAD.out.mb:Mb _ _ m ra va ma rc vc mc).c1,(HAD.out.mb:Mb _ _ m ra va ma rc vc mc).c2,(HAD.out.mb:Mb _ _ m ra va ma rc vc mc).c3,(HAD.out.mb:Mb _ _ m ra va ma rc vc mc).c4,(HAD.out.mb:Mb _ _ m ra va ma rc vc mc).c5,(HAD.out.mb:Mb _ _ m ra va ma rc vc mc).c6,(HAD.out.mb:Mb _ _ m ra va ma rc vc mc).c7,(HAD.out.mb:Mb _ _ m ra va ma rc vc mc).c8,(HAD.out.mb:Mb _ _ m ra va ma rc vc mc).c9,(HAD.out.mb:Mb _ _ m ra va ma rc vc mc).c10⟩)) ((first|(go_at_call 107;(with_reducible refine (iCopied _ m ra va ma rc vc mc (H.out.below HBD.out) hr hv hm).mono ?_);rintro _ x1 ⟨ra',va',ma',rc',vc',mc',U1,U2,rfl,hu0,hu1,hu2,ho1,hl1,ho2,hl2,ho3,hb1⟩;have HB1:Hid (Below w.heap.size w x1):=HBD.out.trans (hb1.mono HBD.out.size);have HA1:Hid (Mf x1 w.heap.size [.slice ra m.row.length rc,.int .i64 m.N,.string m.S,.int .i64 m.room,.slice va m.vals.length vc,.int .i64 m.ret,.bool m.over,.int .i64 m.steps,.int .i64 m.looks,.int .i64 m.hits,.slice ma m.memo.length mc]):=HAD.out.below hb1;have HU:Hid (X0.drew.heap.size<=U1/\U1<=U2/\U2<=x1.heap.size):=⟨hu0,hu1,hu2⟩;have HO1:Hid (Owb x1 X0.drew.heap.size (.slice ra' m.row.length rc') m.row):=ho1;have HL1:Hid (∀ x,ra'=some x->x.block < U1):=hl1;have HO2:Hid (Ows x1 U1 (.slice va' m.vals.length vc') m.vals):=ho2;have HL2:Hid (∀ x,va'=some x->x.block < U2):=hl2;have HO3:Hid (OwSn x1 U2 (.slice ma' m.memo.length mc') m.memo):=ho3;clear hu0 hu1 hu2 ho1 hl1 ho2 hl2 ho3 hb1)|(go_at_call 182;(with_reducible refine (iSays _ ma m.memo mc hm (H.out.memo.below HB1.out) HK.out HBT.out).mono ?_);rintro _ x2 ⟨rfl,hms,hb2⟩;have HB2:Hid (Below w.heap.size w x2):=HB1.out.trans (hb2.mono HB1.out.size);have HA2:Hid (Mf x2 w.heap.size [.slice ra m.row.length rc,.int .i64 m.N,.string m.S,.int .i64 m.room,.slice va m.vals.length vc,.int .i64 m.ret,.bool m.over,.int .i64 m.steps,.int .i64 m.looks,.int .i64 m.hits,.slice ma m.memo.length mc]):=HA1.out.below hb2;have HMS:Hid (Ms x2 x1.heap.size (cnt m.memo m.memo.length) (says m.memo m.memo.length)):=hms;have HP2:Hid (Below x1.heap.size x1 x2):=hb2;clear hms hb2)))
 go_wp2
 go_ret
 have hu:=HU.out
 have hsd:=HSD.out
 have hs2:=HP2.out.size
 have l1:=HO1.out.lt
 have l2:=HO2.out.lt
 have l3:=HO3.out.lt
 have hb2:=HP2.out
 have hal:Below x2.heap.size x2 (x2.alloc (.cells #[.slice ra' m.row.length rc',.int .i64 m.N,.string m.S,.int .i64 m.room,.slice va' m.vals.length vc',.int .i64 m.ret,.bool m.over,.int .i64 m.steps,.int .i64 m.looks,.int .i64 m.hits,.slice ma' m.memo.length mc',.map (some x1.heap.size)] 200)):=(Below.refl _ _).alloc (Nat.le_refl _) _
 have hms:=HMS.out.lt
 have n1:∀ x,ra'=some x->x.block < x1.heap.size:=fun x hx=>by have:=HL1.out x hx;omega
 have n2:∀ x,va'=some x->x.block < x1.heap.size:=fun x hx=>by have:=HL2.out x hx;omega
 have n3:∀ x,ma'=some x->x.block < x1.heap.size:=fun x hx=>by subst hx;exact (l3 _ own_of).2
 have mo:MO x1 w.heap.size m ra' va' ma' rc' vc' mc':=⟨ob_mono HO1.out (by omega),oi_mono HO2.out (by omega),os_mono HO3.out (by omega),fun x y hx hy e=>by
  subst hy
  have a:=HL1.out x hx
  have b:=l2 _ own_of
  omega,fun x y hx hy e=>by
  subst hy
  have a:=HL1.out x hx
  have b:=l3 _ own_of
  omega,fun x y hx hy e=>by
  subst hy
  have a:=HL2.out x hx
  have b:=l3 _ own_of
  omega⟩
 exact ⟨x2.heap.size,ra',va',ma',rc',vc',mc',x1.heap.size,rfl,Mf.made _ _ _,(mo.below hb2).below hal,HMS.out.below hal,⟨by omega,by omega,by omega,fun x hx=>by have:=n1 x hx;omega,fun x hx=>by have:=n2 x hx;omega,fun x hx=>by have:=n3 x hx;omega⟩,HB2.out.trans (hal.mono HB2.out.size)⟩
end Mw7
end Go.Proofs.YtladjpombohpaaaGreatDoor
