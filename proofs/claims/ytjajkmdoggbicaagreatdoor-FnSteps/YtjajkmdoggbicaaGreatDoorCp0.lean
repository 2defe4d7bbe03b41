import Derived.Deep.RegionHeld3
import Derived.Deep.CutBlock
import Derived.Deep.CutRange
import Derived.Test.YtjajkmdoggbicaaGreatDoorPkST1
import Derived.Test.YtjajkmdoggbicaaGreatDoorPkST5
namespace Go.Proofs.YtjajkmdoggbicaaGreatDoor
set_option maxRecDepth 100000
set_option maxHeartbeats 8000000
set_option linter.unusedVariables false
namespace Cp0
open Go.RowKit
open Nd0 (Kept Ints lt_of_cell)
open Nd6 (Bools)
open Ap0 Ap1 Qc0 Qc2 Cl0 Mm0 Mx0
theorem own_mono {w:World} {B B':Nat} {v:Value} {l:List Bool} (h:Owb w B v l) (hB:B'<=B):Owb w B' v l:=by
 refine ⟨h.1,?_⟩
 rcases h.2 with e|⟨g,cap,cur,e,hb,r⟩
 ·exact .inl e
 ·exact .inr ⟨g,cap,cur,e,by omega,r⟩
theorem iCopied (w:World) (m:Mc) (ra va ma:Option Addr) (rc vc mc:Nat) (h:Mr w m ra va ma) (hr:m.row.length<=1048576) (hv:m.vals.length<=1048576) (hm:m.memo.length<=1048576) :
 Calls Tryz.prog 23 #[mval m ra va ma rc vc mc] w fun e w'=>∃ ra' va' ma' rc' vc' mc' U1 U2,e=.returned (mval m ra' va' ma' rc' vc' mc')/\w.heap.size<=U1/\U1<=U2/\U2<=w'.heap.size/\Owb w' w.heap.size (.slice ra' m.row.length rc') m.row/\(∀ x,ra'=some x->x.block < U1)/\Ows w' U1 (.slice va' m.vals.length vc') m.vals/\(∀ x,va'=some x->x.block < U2)/\OwSn w' U2 (.slice ma' m.memo.length mc') m.memo/\Below w.heap.size w w':=by
 have H:Hid (Mr w m ra va ma):=h
 clear h
 obtain ⟨W0,hW0⟩:∃ W0,W0=((w.alloc (.cells #[.slice ra m.row.length rc,.int .i64 m.N,.string m.S,.int .i64 m.room,.slice va m.vals.length vc,.int .i64 m.ret,.bool m.over,.int .i64 m.steps,.int .i64 m.looks,.int .i64 m.hits,.slice ma m.memo.length mc] 30)).alloc (.cells #[.slice none 0 0,.int .i64 0,.string ⟨#[]⟩,.int .i64 0,.slice none 0 0,.int .i64 0,.bool false,.int .i64 0,.int .i64 0,.int .i64 0,.slice none 0 0] 30)):=⟨_,rfl⟩
 have HE0:Hid (((w.alloc (.cells #[.slice ra m.row.length rc,.int .i64 m.N,.string m.S,.int .i64 m.room,.slice va m.vals.length vc,.int .i64 m.ret,.bool m.over,.int .i64 m.steps,.int .i64 m.looks,.int .i64 m.hits,.slice ma m.memo.length mc] 30)).alloc (.cells #[.slice none 0 0,.int .i64 0,.string ⟨#[]⟩,.int .i64 0,.slice none 0 0,.int .i64 0,.bool false,.int .i64 0,.int .i64 0,.int .i64 0,.slice none 0 0] 30))=W0):=hW0.symm
 have HB0:Hid (Below w.heap.size w W0):=by rw [hW0];exact ((Below.refl _ _).alloc (Nat.le_refl _) _).alloc (by simp) _
 have HA0:Hid (Mf W0 w.heap.size [.slice ra m.row.length rc,.int .i64 m.N,.string m.S,.int .i64 m.room,.slice va m.vals.length vc,.int .i64 m.ret,.bool m.over,.int .i64 m.steps,.int .i64 m.looks,.int .i64 m.hits,.slice ma m.memo.length mc]):=by rw [hW0];exact (Mf.made _ _ _).alloc _
 have HR0:Hid (Mf W0 (w.heap.size+1) [.slice none 0 0,.int .i64 0,.string ⟨#[]⟩,.int .i64 0,.slice none 0 0,.int .i64 0,.bool false,.int .i64 0,.int .i64 0,.int .i64 0,.slice none 0 0]):=by
  have h1:=Mf.made (w.alloc (.cells #[.slice ra m.row.length rc,.int .i64 m.N,.string m.S,.int .i64 m.room,.slice va m.vals.length vc,.int .i64 m.ret,.bool m.over,.int .i64 m.steps,.int .i64 m.looks,.int .i64 m.hits,.slice ma m.memo.length mc] 30)) #[.slice none 0 0,.int .i64 0,.string ⟨#[]⟩,.int .i64 0,.slice none 0 0,.int .i64 0,.bool false,.int .i64 0,.int .i64 0,.int .i64 0,.slice none 0 0] 30
  have h2:(w.alloc (.cells #[.slice ra m.row.length rc,.int .i64 m.N,.string m.S,.int .i64 m.room,.slice va m.vals.length vc,.int .i64 m.ret,.bool m.over,.int .i64 m.steps,.int .i64 m.looks,.int .i64 m.hits,.slice ma m.memo.length mc] 30)).heap.size=w.heap.size+1:=by simp
  rw [h2,<- hW0] at h1
  exact h1
 have HS0:Hid (W0.heap.size=w.heap.size+2):=by show _=_;rw [hW0];simp
 clear hW0
 go_enter Tryz.func23,Tryz.ntmps23
 go_upto_region 1 with fail
 rw [HE0.out]
 clear HE0
 have dd:Below W0.heap.size W0 W0.drew:=(Below.refl _ _).drew
 have HBD:Hid (Below w.heap.size w W0.drew):=HB0.out.drew
 have HAD:Hid (Mf W0.drew w.heap.size [.slice ra m.row.length rc,.int .i64 m.N,.string m.S,.int .i64 m.room,.slice va m.vals.length vc,.int .i64 m.ret,.bool m.over,.int .i64 m.steps,.int .i64 m.looks,.int .i64 m.hits,.slice ma m.memo.length mc]):=HA0.out.below dd
 have HRD:Hid (Mf W0.drew (w.heap.size+1) [.slice none 0 0,.int .i64 0,.string ⟨#[]⟩,.int .i64 0,.slice none 0 0,.int .i64 0,.bool false,.int .i64 0,.int .i64 0,.int .i64 0,.slice none 0 0]):=HR0.out.below dd
 have a0:W0.cell? ⟨w.heap.size,0,none⟩=some (.slice ra m.row.length rc):=(HA0.out 0 (by simp)).1
 have a4:W0.cell? ⟨w.heap.size,4,none⟩=some (.slice va m.vals.length vc):=(HA0.out 4 (by simp)).1
 have a10:W0.cell? ⟨w.heap.size,10,none⟩=some (.slice ma m.memo.length mc):=(HA0.out 10 (by simp)).1
 clear dd HA0 HR0 HB0
 go_region_with ((first|(go_at_call 56;refine (iCloneBs _ ra m.row rc (H.out.row.below HBD.out) hr).mono ?_;rintro e x1 ⟨rv,rfl,ho1,hb1⟩;obtain ⟨ra1,rc1,hrv,_⟩:=ho1.form;subst hrv;have HB1:Hid (Below w.heap.size w x1):=HBD.out.trans (hb1.mono HBD.out.size);have HA1:Hid (Mf x1 w.heap.size [.slice ra m.row.length rc,.int .i64 m.N,.string m.S,.int .i64 m.room,.slice va m.vals.length vc,.int .i64 m.ret,.bool m.over,.int .i64 m.steps,.int .i64 m.looks,.int .i64 m.hits,.slice ma m.memo.length mc]):=HAD.out.below hb1;have HR1:Hid (Mf x1 (w.heap.size+1) [.slice none 0 0,.int .i64 0,.string ⟨#[]⟩,.int .i64 0,.slice none 0 0,.int .i64 0,.bool false,.int .i64 0,.int .i64 0,.int .i64 0,.slice none 0 0]):=HRD.out.below hb1;have HX1:Hid (W0.drew.heap.size<=x1.heap.size):=hb1.size;have HO1:Hid (Owb x1 W0.drew.heap.size (.slice ra1 m.row.length rc1) m.row):=ho1;clear hb1 ho1;have n4:x1.cell? ⟨w.heap.size,4,none⟩=some (.slice va m.vals.length vc):=(HA1.out 4 (by simp)).1;have n10:x1.cell? ⟨w.heap.size,10,none⟩=some (.slice ma m.memo.length mc):=(HA1.out 10 (by simp)).1)|(go_at_call 57;refine (iCloneIs _ va m.vals vc (H.out.vals.below HB1.out) hv).mono ?_;rintro e x2 ⟨vv,rfl,ho2,hb2⟩;obtain ⟨va1,vc1,hvv,_⟩:=ho2.form;subst hvv;have HB2:Hid (Below w.heap.size w x2):=HB1.out.trans (hb2.mono HB1.out.size);have HA2:Hid (Mf x2 w.heap.size [.slice ra m.row.length rc,.int .i64 m.N,.string m.S,.int .i64 m.room,.slice va m.vals.length vc,.int .i64 m.ret,.bool m.over,.int .i64 m.steps,.int .i64 m.looks,.int .i64 m.hits,.slice ma m.memo.length mc]):=HA1.out.below hb2;have HR2:Hid (Mf x2 (w.heap.size+1) [.slice none 0 0,.int .i64 0,.string ⟨#[]⟩,.int .i64 0,.slice none 0 0,.int .i64 0,.bool false,.int .i64 0,.int .i64 0,.int .i64 0,.slice none 0 0]):=HR1.out.below hb2;have HP2:Hid (Below x1.heap.size x1 x2):=hb2;have HO2:Hid (Ows x2 x1.heap.size (.slice va1 m.vals.length vc1) m.vals):=ho2;clear hb2 ho2;have p10:x2.cell? ⟨w.heap.size,10,none⟩=some (.slice ma m.memo.length mc):=(HA2.out 10 (by simp)).1)|(go_at_call 58;refine (iCloneSs _ ma m.memo mc (H.out.memo.below HB2.out) hm).mono ?_;rintro e x3 ⟨mv,rfl,ho3,hb3⟩;obtain ⟨ma1,mc1,hmv,_⟩:=ho3.form;subst hmv;have HB3:Hid (Below w.heap.size w x3):=HB2.out.trans (hb3.mono HB2.out.size);have HA3:Hid (Mf x3 w.heap.size [.slice ra m.row.length rc,.int .i64 m.N,.string m.S,.int .i64 m.room,.slice va m.vals.length vc,.int .i64 m.ret,.bool m.over,.int .i64 m.steps,.int .i64 m.looks,.int .i64 m.hits,.slice ma m.memo.length mc]):=HA2.out.below hb3;have HR3:Hid (Mf x3 (w.heap.size+1) [.slice none 0 0,.int .i64 0,.string ⟨#[]⟩,.int .i64 0,.slice none 0 0,.int .i64 0,.bool false,.int .i64 0,.int .i64 0,.int .i64 0,.slice none 0 0]):=HR2.out.below hb3;have HP3:Hid (Below x2.heap.size x2 x3):=hb3;have HO3:Hid (OwSn x3 x2.heap.size (.slice ma1 m.memo.length mc1) m.memo):=ho3;clear hb3 ho3;have q0:x3.cell? ⟨w.heap.size,0,none⟩=some (.slice ra m.row.length rc):=(HA3.out 0 (by simp)).1;have t0:x3.frozen? ⟨w.heap.size,0,none⟩=false:=(HA3.out 0 (by simp)).2;have q4:x3.cell? ⟨w.heap.size,4,none⟩=some (.slice va m.vals.length vc):=(HA3.out 4 (by simp)).1;have t4:x3.frozen? ⟨w.heap.size,4,none⟩=false:=(HA3.out 4 (by simp)).2;have q10:x3.cell? ⟨w.heap.size,10,none⟩=some (.slice ma m.memo.length mc):=(HA3.out 10 (by simp)).1;have t10:x3.frozen? ⟨w.heap.size,10,none⟩=false:=(HA3.out 10 (by simp)).2)))
 all_goals
  clear a0 a4 a10 n4 n10 p10 q0 q4 q10 t0 t4 t10
  obtain ⟨W4,hW4⟩:∃ W4,W4=((x3.setCell ⟨w.heap.size,0,none⟩ (.slice ra1 m.row.length rc1)).setCell ⟨w.heap.size,4,none⟩ (.slice va1 m.vals.length vc1)).setCell ⟨w.heap.size,10,none⟩ (.slice ma1 m.memo.length mc1):=⟨_,rfl⟩
  rw [<- hW4]
  have K4:Kept (fun b=>b=w.heap.size) x3 W4:=by
   rw [hW4]
   exact (((Kept.refl (fun b=>b=w.heap.size) x3).setCell (p:=⟨w.heap.size,0,none⟩) rfl _).setCell (p:=⟨w.heap.size,4,none⟩) rfl _).setCell (p:=⟨w.heap.size,10,none⟩) rfl _
  have HA4:Mf W4 w.heap.size [.slice ra1 m.row.length rc1,.int .i64 m.N,.string m.S,.int .i64 m.room,.slice va1 m.vals.length vc1,.int .i64 m.ret,.bool m.over,.int .i64 m.steps,.int .i64 m.looks,.int .i64 m.hits,.slice ma1 m.memo.length mc1]:=by
   rw [hW4]
   exact ((HA3.out.set 0 (.slice ra1 m.row.length rc1)).set 4 (.slice va1 m.vals.length vc1)).set 10 (.slice ma1 m.memo.length mc1)
  have HR4:Hid (Mf W4 (w.heap.size+1) [.slice none 0 0,.int .i64 0,.string ⟨#[]⟩,.int .i64 0,.slice none 0 0,.int .i64 0,.bool false,.int .i64 0,.int .i64 0,.int .i64 0,.slice none 0 0]):=HR3.out.kept K4 (by omega)
  have HK4:Hid (Kept (fun b=>b=w.heap.size) x3 W4):=K4
  obtain ⟨c0,c1,c2,c3,c4,c5,c6,c7,c8,c9,c10,y0,y1,y2,y3,y4,y5,y6,y7,y8,y9,y10⟩:=HA4.all
  obtain ⟨d0,d1,d2,d3,d4,d5,d6,d7,d8,d9,d10,z0,z1,z2,z3,z4,z5,z6,z7,z8,z9,z10⟩:=HR4.out.all
  clear HA4 hW4 K4
  go_wp2
  clear c0 y0 d0 z0 c1 y1 d1 z1 c2 y2 d2 z2 c3 y3 d3 z3 c4 y4 d4 z4 c5 y5 d5 z5 c6 y6 d6 z6 c7 y7 d7 z7 c8 y8 d8 z8 c9 y9 d9 z9 c10 y10 d10 z10
  obtain ⟨WF,hWF⟩:∃ WF,WF=(((((((((((W4).setCell ⟨w.heap.size+1,0,none⟩ (.slice ra1 m.row.length rc1)).setCell ⟨w.heap.size+1,1,none⟩ (.int .i64 m.N)).setCell ⟨w.heap.size+1,2,none⟩ (.string m.S)).setCell ⟨w.heap.size+1,3,none⟩ (.int .i64 m.room)).setCell ⟨w.heap.size+1,4,none⟩ (.slice va1 m.vals.length vc1)).setCell ⟨w.heap.size+1,5,none⟩ (.int .i64 m.ret)).setCell ⟨w.heap.size+1,6,none⟩ (.bool m.over)).setCell ⟨w.heap.size+1,7,none⟩ (.int .i64 m.steps)).setCell ⟨w.heap.size+1,8,none⟩ (.int .i64 m.looks)).setCell ⟨w.heap.size+1,9,none⟩ (.int .i64 m.hits)).setCell ⟨w.heap.size+1,10,none⟩ (.slice ma1 m.memo.length mc1):=⟨_,rfl⟩
  rw [<- hWF]
  have KF:Kept (fun b=>b=w.heap.size\/b=w.heap.size+1) x3 WF:=by
   rw [hWF]
   exact ((((((((((((HK4.out.mono (fun b hb=>.inl hb):Kept (fun b=>b=w.heap.size\/b=w.heap.size+1) x3 W4)).setCell (p:=⟨w.heap.size+1,0,none⟩) (.inr rfl) _).setCell (p:=⟨w.heap.size+1,1,none⟩) (.inr rfl) _).setCell (p:=⟨w.heap.size+1,2,none⟩) (.inr rfl) _).setCell (p:=⟨w.heap.size+1,3,none⟩) (.inr rfl) _).setCell (p:=⟨w.heap.size+1,4,none⟩) (.inr rfl) _).setCell (p:=⟨w.heap.size+1,5,none⟩) (.inr rfl) _).setCell (p:=⟨w.heap.size+1,6,none⟩) (.inr rfl) _).setCell (p:=⟨w.heap.size+1,7,none⟩) (.inr rfl) _).setCell (p:=⟨w.heap.size+1,8,none⟩) (.inr rfl) _).setCell (p:=⟨w.heap.size+1,9,none⟩) (.inr rfl) _).setCell (p:=⟨w.heap.size+1,10,none⟩) (.inr rfl) _
  have HF:Mf WF (w.heap.size+1) [.slice ra1 m.row.length rc1,.int .i64 m.N,.string m.S,.int .i64 m.room,.slice va1 m.vals.length vc1,.int .i64 m.ret,.bool m.over,.int .i64 m.steps,.int .i64 m.looks,.int .i64 m.hits,.slice ma1 m.memo.length mc1]:=by
   rw [hWF]
   exact (((((((((((HR4.out.set 0 (.slice ra1 m.row.length rc1)).set 1 (.int .i64 m.N)).set 2 (.string m.S)).set 3 (.int .i64 m.room)).set 4 (.slice va1 m.vals.length vc1)).set 5 (.int .i64 m.ret)).set 6 (.bool m.over)).set 7 (.int .i64 m.steps)).set 8 (.int .i64 m.looks)).set 9 (.int .i64 m.hits)).set 10 (.slice ma1 m.memo.length mc1))
  obtain ⟨c0,c1,c2,c3,c4,c5,c6,c7,c8,c9,c10,y0,y1,y2,y3,y4,y5,y6,y7,y8,y9,y10⟩:=HF.all
  have s0:=HS0.out
  have s2:=HP2.out.size
  have s3:=HP3.out.size
  have sF:=KF.size
  have sD:W0.drew.heap.size=W0.heap.size:=rfl
  have l1:=HO1.out.lt
  have l2:=HO2.out.lt
  have l3:=HO3.out.lt
  have f1:Owb WF W0.drew.heap.size (.slice ra1 m.row.length rc1) m.row:=(((HO1.out.kept (S:=fun _=>False) (Kept.ofBelow HP2.out) (fun _ _ h=>h)).kept (S:=fun _=>False) (Kept.ofBelow HP3.out) (fun _ _ h=>h)).kept KF (fun k hk h=>by have:=l1 k hk;omega))
  have f2:Ows WF x1.heap.size (.slice va1 m.vals.length vc1) m.vals:=((HO2.out.kept (S:=fun _=>False) (Kept.ofBelow HP3.out) (fun _ _ h=>h)).kept KF (fun k hk h=>by have:=l2 k hk;have:=HX1.out;omega))
  have f3:OwSn WF x2.heap.size (.slice ma1 m.memo.length mc1) m.memo:=HO3.out.kept KF (fun k hk h=>by have:=l3 k hk;have:=HX1.out;omega)
  have fb:Below w.heap.size w WF:=HB3.out.trans (KF.below (fun b hb=>by omega) HB3.out.size)
  refine bodyPost_ret (v:=mval m ra1 va1 ma1 rc1 vc1 mc1) (by simp [results,Tryz.results23,go_sem,c0,c1,c2,c3,c4,c5,c6,c7,c8,c9,c10]) rfl ⟨ra1,va1,ma1,rc1,vc1,mc1,x1.heap.size,x2.heap.size,rfl,by have:=HX1.out;omega,by omega,by omega,own_mono f1 (by omega),fun x hx=>by subst hx;exact (l1 _ rfl).2,f2,fun x hx=>by subst hx;exact (l2 _ rfl).2,f3,fb⟩
end Cp0
end Go.Proofs.YtjajkmdoggbicaaGreatDoor
