import Derived.Test.YtladjpombohpaaaGreatDoorPkJE21
namespace Go.Proofs.YtladjpombohpaaaGreatDoor
set_option maxRecDepth 100000
set_option maxHeartbeats 8000000
set_option linter.unusedVariables false
namespace Mu2
open Go.RowKit
open Nd0 (Kept Ints lt_of_cell At)
open Nd6 (Bools)
open Ap0 Ap1 Qc0 Qc2 Cl0 Mm0 Mx0 Mu1
/-- A machine whose lists lie in blocks of its own, from B on. -/
structure MO (W:World) (B:Nat) (m:Mc) (ra va ma:Option Addr) (rc vc mc:Nat):Prop where
 row:Owb W B (.slice ra m.row.length rc) m.row
 vals:Ows W B (.slice va m.vals.length vc) m.vals
 memo:OwSn W B (.slice ma m.memo.length mc) m.memo
 rv:∀ x y,ra=some x->va=some y->x.block≠y.block
 rm:∀ x y,ra=some x->ma=some y->x.block≠y.block
 vm:∀ x y,va=some x->ma=some y->x.block≠y.block
theorem MO.mr {W:World} {B:Nat} {m:Mc} {ra va ma:Option Addr} {rc vc mc:Nat} (h:MO W B m ra va ma rc vc mc):Mr W m ra va ma:=by
 obtain ⟨a1,c1,e1,f1⟩:=h.row.form
 obtain ⟨a2,c2,e2,f2⟩:=h.vals.form
 obtain ⟨a3,c3,e3,f3,_⟩:=h.memo.form
 cases e1
 cases e2
 cases e3
 exact ⟨Nd6.WBools.plain f1,f2.ints,f3.plain⟩
theorem MO.kept {W W':World} {B:Nat} {m:Mc} {ra va ma:Option Addr} {rc vc mc:Nat} (h:MO W B m ra va ma rc vc mc) {S:Nat->Prop} (k:Kept S W W') (h1:∀ x,ra=some x->¬ S x.block) (h2:∀ x,va=some x->¬ S x.block) (h3:∀ x,ma=some x->¬ S x.block):MO W' B m ra va ma rc vc mc :=
 ⟨h.row.kept k (fun i hi=>by cases ra with|none=>cases hi|some x=>exact (by have:=h1 x rfl;simp [Value.ownBlock] at hi;rw [<- hi];exact this)),h.vals.kept k (fun i hi=>by cases va with|none=>cases hi|some x=>exact (by have:=h2 x rfl;simp [Value.ownBlock] at hi;rw [<- hi];exact this)),h.memo.kept k (fun i hi=>by cases ma with|none=>cases hi|some x=>exact (by have:=h3 x rfl;simp [Value.ownBlock] at hi;rw [<- hi];exact this)),h.rv,h.rm,h.vm⟩
theorem MO.below {W W':World} {B:Nat} {m:Mc} {ra va ma:Option Addr} {rc vc mc:Nat} (h:MO W B m ra va ma rc vc mc) (k:Below W.heap.size W W'):MO W' B m ra va ma rc vc mc:=h.kept (S:=fun _=>False) (Kept.ofBelow k) (fun _ _ h=>h) (fun _ _ h=>h) (fun _ _ h=>h)
/-- Where the lists of a machine lie behind a step: where they lay, or in new memory. -/
structure FR (w:World) (ra va ma ra' va' ma':Option Addr):Prop where
 r:ra'=ra
 v:∀ x,va'=some x->At va x.block\/w.heap.size<=x.block
 m:∀ x,ma'=some x->At ma x.block\/w.heap.size<=x.block
theorem FR.refl (w:World) (ra va ma:Option Addr):FR w ra va ma ra va ma:=⟨rfl,fun x hx=>.inl ⟨x,hx,rfl⟩,fun x hx=>.inl ⟨x,hx,rfl⟩⟩
theorem ob_mono {w:World} {B B':Nat} {v:Value} {l:List Bool} (h:Owb w B v l) (hB:B'<=B):Owb w B' v l:=by
 refine ⟨h.1,?_⟩
 rcases h.2 with e|⟨g,cap,cur,e,hb,r⟩
 ·exact .inl e
 ·exact .inr ⟨g,cap,cur,e,by omega,r⟩
theorem oi_mono {w:World} {B B':Nat} {v:Value} {l:List Int} (h:Ows w B v l) (hB:B'<=B):Ows w B' v l:=by
 refine ⟨h.1,?_⟩
 rcases h.2 with e|⟨g,cap,cur,e,hb,r⟩
 ·exact .inl e
 ·exact .inr ⟨g,cap,cur,e,by omega,r⟩
theorem os_mono {w:World} {B B':Nat} {v:Value} {l:List Sn} (h:OwSn w B v l) (hB:B'<=B):OwSn w B' v l:=by
 refine ⟨h.1,?_⟩
 rcases h.2 with e|⟨g,cap,cur,e,hb,r⟩
 ·exact .inl e
 ·exact .inr ⟨g,cap,cur,e,by omega,r⟩
theorem own_of {x:Addr} {n c:Nat}:(Value.slice (some x) n c).ownBlock=some x.block:=rfl
theorem sCopy (w:World) (m:Mc) (ra va ma:Option Addr) (rc vc mc:Nat) (h:Mr w m ra va ma) (hr:m.row.length<=1048576) (hv:m.vals.length<=1048576) (hm:m.memo.length<=1048576) :
 Calls Tryz.prog 49 #[mval m ra va ma rc vc mc] w fun e w'=>∃ ra' va' ma' rc' vc' mc',e=.returned (mval m ra' va' ma' rc' vc' mc')/\MO w' w.heap.size m ra' va' ma' rc' vc' mc'/\Below w.heap.size w w':=by
 have H:Hid (Mr w m ra va ma):=h
 clear h
 obtain ⟨X0,hX0⟩:∃ X0,X0=((w.alloc (.cells #[.slice ra m.row.length rc,.int .i64 m.N,.string m.S,.int .i64 m.room,.slice va m.vals.length vc,.int .i64 m.ret,.bool m.over,.int .i64 m.steps,.int .i64 m.looks,.int .i64 m.hits,.slice ma m.memo.length mc] 35)).alloc (.cells #[.slice none 0 0,.int .i64 0,.string ⟨#[]⟩,.int .i64 0,.slice none 0 0,.int .i64 0,.bool false,.int .i64 0,.int .i64 0,.int .i64 0,.slice none 0 0] 35)):=⟨_,rfl⟩
 have HE0:Hid (((w.alloc (.cells #[.slice ra m.row.length rc,.int .i64 m.N,.string m.S,.int .i64 m.room,.slice va m.vals.length vc,.int .i64 m.ret,.bool m.over,.int .i64 m.steps,.int .i64 m.looks,.int .i64 m.hits,.slice ma m.memo.length mc] 35)).alloc (.cells #[.slice none 0 0,.int .i64 0,.string ⟨#[]⟩,.int .i64 0,.slice none 0 0,.int .i64 0,.bool false,.int .i64 0,.int .i64 0,.int .i64 0,.slice none 0 0] 35))=X0):=hX0.symm
 have HB0:Hid (Below w.heap.size w X0):=by rw [hX0];exact ((Below.refl _ _).alloc (Nat.le_refl _) _).alloc (by simp) _
 have HA0:Hid (Mf X0 (w.heap.size) [.slice ra m.row.length rc,.int .i64 m.N,.string m.S,.int .i64 m.room,.slice va m.vals.length vc,.int .i64 m.ret,.bool m.over,.int .i64 m.steps,.int .i64 m.looks,.int .i64 m.hits,.slice ma m.memo.length mc]):=by rw [hX0];exact (Mf.made _ _ _).alloc _
 have HZ0:Hid (Mf X0 (w.heap.size+1) [.slice none 0 0,.int .i64 0,.string ⟨#[]⟩,.int .i64 0,.slice none 0 0,.int .i64 0,.bool false,.int .i64 0,.int .i64 0,.int .i64 0,.slice none 0 0]):=by
  have h1:=Mf.made (w.alloc (.cells #[.slice ra m.row.length rc,.int .i64 m.N,.string m.S,.int .i64 m.room,.slice va m.vals.length vc,.int .i64 m.ret,.bool m.over,.int .i64 m.steps,.int .i64 m.looks,.int .i64 m.hits,.slice ma m.memo.length mc] 35)) #[.slice none 0 0,.int .i64 0,.string ⟨#[]⟩,.int .i64 0,.slice none 0 0,.int .i64 0,.bool false,.int .i64 0,.int .i64 0,.int .i64 0,.slice none 0 0] 35
  have h2:(w.alloc (.cells #[.slice ra m.row.length rc,.int .i64 m.N,.string m.S,.int .i64 m.room,.slice va m.vals.length vc,.int .i64 m.ret,.bool m.over,.int .i64 m.steps,.int .i64 m.looks,.int .i64 m.hits,.slice ma m.memo.length mc] 35)).heap.size=w.heap.size+1:=by simp
  rw [h2,<- hX0] at h1
  exact h1
 have HS0:Hid (w.heap.size+2<=X0.heap.size):=by show _<=_;rw [hX0];simp
 clear hX0
 go_enter Tryz.func49,Tryz.ntmps49
 go_upto_region 1 with fail
 rw [HE0.out]
 clear HE0
 have e1a:(X0.alloc (.cells #[] 4)).cell? ⟨w.heap.size,0,none⟩=some (.slice ra m.row.length rc):=(HA0.out.alloc (.cells #[] 4) 0 (by simp)).1
 have HPa1:Hid (Below X0.heap.size X0 (X0.alloc (.cells #[] 4))):=(Below.refl _ _).alloc (Nat.le_refl _) _
 go_upto_region 2 with (at_builtin;go_must (refine allBs X0 rfl _ _ rfl m.row ra rc X0.heap.size rfl rfl rfl (H.out.row.below HB0.out) hr ?_;intro v1 y1 ho1 hb1;obtain ⟨ra1,rc1,hv1,_⟩:=ho1.form;subst hv1;have HOW1:Hid (Owb y1 X0.heap.size (.slice ra1 m.row.length rc1) m.row):=ho1;have HBy1:Hid (Below X0.heap.size X0 y1):=hb1;have HAy1:Hid (Mf y1 (w.heap.size) [.slice ra m.row.length rc,.int .i64 m.N,.string m.S,.int .i64 m.room,.slice va m.vals.length vc,.int .i64 m.ret,.bool m.over,.int .i64 m.steps,.int .i64 m.looks,.int .i64 m.hits,.slice ma m.memo.length mc]):=HA0.out.below hb1;have e1b:y1.cell? ⟨w.heap.size,0,none⟩=some (.slice ra m.row.length rc):=(HAy1.out 0 (by simp)).1;have e1c:y1.frozen? ⟨w.heap.size,0,none⟩=false:=(HAy1.out 0 (by simp)).2;clear ho1 hb1))
 clear e1a e1b e1c HPa1
 obtain ⟨X1,hX1⟩:∃ X,X=y1.setCell ⟨w.heap.size,0,none⟩ (.slice ra1 m.row.length rc1):=⟨_,rfl⟩
 rw [<- hX1]
 have HK1:Hid (Kept (fun b=>b=w.heap.size) y1 X1):=by rw [hX1];exact (Kept.refl (fun b=>b=w.heap.size) y1).setCell (p:=⟨w.heap.size,0,none⟩) rfl _
 have HA1:Hid (Mf X1 (w.heap.size) [.slice ra1 m.row.length rc1,.int .i64 m.N,.string m.S,.int .i64 m.room,.slice va m.vals.length vc,.int .i64 m.ret,.bool m.over,.int .i64 m.steps,.int .i64 m.looks,.int .i64 m.hits,.slice ma m.memo.length mc]):=by rw [hX1];exact HAy1.out.set 0 (.slice ra1 m.row.length rc1)
 have HZ1:Hid (Mf X1 (w.heap.size+1) [.slice none 0 0,.int .i64 0,.string ⟨#[]⟩,.int .i64 0,.slice none 0 0,.int .i64 0,.bool false,.int .i64 0,.int .i64 0,.int .i64 0,.slice none 0 0]):=(HZ0.out.below HBy1.out).kept HK1.out (by omega)
 have HB1:Hid (Below w.heap.size w X1):=(HB0.out.trans (HBy1.out.mono HB0.out.size)).trans (HK1.out.below (fun b hb=>by omega) (Nat.le_trans HB0.out.size HBy1.out.size))
 have HS1:Hid (X0.heap.size<=X1.heap.size):=Nat.le_trans HBy1.out.size HK1.out.size
 have HG1:Hid (X0.heap.size<=y1.heap.size/\y1.heap.size<=X1.heap.size):=⟨HBy1.out.size,HK1.out.size⟩
 have HO1:Hid (Owb X1 X0.heap.size (.slice ra1 m.row.length rc1) m.row):=HOW1.out.kept HK1.out (fun i hi h=>by have:=HOW1.out.lt i hi;have:=HS0.out;omega)
 clear hX1 HAy1
 have e2a:(X1.alloc (.cells #[] 3)).cell? ⟨w.heap.size,4,none⟩=some (.slice va m.vals.length vc):=(HA1.out.alloc (.cells #[] 3) 4 (by simp)).1
 have HPa2:Hid (Below X1.heap.size X1 (X1.alloc (.cells #[] 3))):=(Below.refl _ _).alloc (Nat.le_refl _) _
 go_upto_region 3 with (at_builtin;go_must (refine allIs X1 rfl _ _ rfl m.vals va vc X1.heap.size rfl rfl rfl (H.out.vals.below HB1.out) hv ?_;intro v2 y2 ho2 hb2;obtain ⟨va1,vc1,hv2,_⟩:=ho2.form;subst hv2;have HOW2:Hid (Ows y2 X1.heap.size (.slice va1 m.vals.length vc1) m.vals):=ho2;have HBy2:Hid (Below X1.heap.size X1 y2):=hb2;have HAy2:Hid (Mf y2 (w.heap.size) [.slice ra1 m.row.length rc1,.int .i64 m.N,.string m.S,.int .i64 m.room,.slice va m.vals.length vc,.int .i64 m.ret,.bool m.over,.int .i64 m.steps,.int .i64 m.looks,.int .i64 m.hits,.slice ma m.memo.length mc]):=HA1.out.below hb2;have e2b:y2.cell? ⟨w.heap.size,4,none⟩=some (.slice va m.vals.length vc):=(HAy2.out 4 (by simp)).1;have e2c:y2.frozen? ⟨w.heap.size,4,none⟩=false:=(HAy2.out 4 (by simp)).2;clear ho2 hb2))
 clear e2a e2b e2c HPa2
 obtain ⟨X2,hX2⟩:∃ X,X=y2.setCell ⟨w.heap.size,4,none⟩ (.slice va1 m.vals.length vc1):=⟨_,rfl⟩
 rw [<- hX2]
 have HK2:Hid (Kept (fun b=>b=w.heap.size) y2 X2):=by rw [hX2];exact (Kept.refl (fun b=>b=w.heap.size) y2).setCell (p:=⟨w.heap.size,4,none⟩) rfl _
 have HA2:Hid (Mf X2 (w.heap.size) [.slice ra1 m.row.length rc1,.int .i64 m.N,.string m.S,.int .i64 m.room,.slice va1 m.vals.length vc1,.int .i64 m.ret,.bool m.over,.int .i64 m.steps,.int .i64 m.looks,.int .i64 m.hits,.slice ma m.memo.length mc]):=by rw [hX2];exact HAy2.out.set 4 (.slice va1 m.vals.length vc1)
 have HZ2:Hid (Mf X2 (w.heap.size+1) [.slice none 0 0,.int .i64 0,.string ⟨#[]⟩,.int .i64 0,.slice none 0 0,.int .i64 0,.bool false,.int .i64 0,.int .i64 0,.int .i64 0,.slice none 0 0]):=(HZ1.out.below HBy2.out).kept HK2.out (by omega)
 have HB2:Hid (Below w.heap.size w X2):=(HB1.out.trans (HBy2.out.mono HB1.out.size)).trans (HK2.out.below (fun b hb=>by omega) (Nat.le_trans HB1.out.size HBy2.out.size))
 have HS2:Hid (X1.heap.size<=X2.heap.size):=Nat.le_trans HBy2.out.size HK2.out.size
 have HG2:Hid (X1.heap.size<=y2.heap.size/\y2.heap.size<=X2.heap.size):=⟨HBy2.out.size,HK2.out.size⟩
 have HO2:Hid (Ows X2 X1.heap.size (.slice va1 m.vals.length vc1) m.vals):=HOW2.out.kept HK2.out (fun i hi h=>by have:=HOW2.out.lt i hi;have:=HS0.out;have:=HS1.out;omega)
 have HO1_2:Hid (Owb X2 X0.heap.size (.slice ra1 m.row.length rc1) m.row):=((HO1.out.kept (S:=fun _=>False) (Kept.ofBelow HBy2.out) (fun _ _ h=>h)).kept HK2.out (fun i hi h=>by have:=HO1.out.lt i hi;have:=HS0.out;have:=HS1.out;have:=HS2.out;omega))
 clear hX2 HAy2
 have e3a:(X2.alloc (.cells #[] 102)).cell? ⟨w.heap.size,10,none⟩=some (.slice ma m.memo.length mc):=(HA2.out.alloc (.cells #[] 102) 10 (by simp)).1
 have HPa3:Hid (Below X2.heap.size X2 (X2.alloc (.cells #[] 102))):=(Below.refl _ _).alloc (Nat.le_refl _) _
 go_upto_region 4 with (at_builtin;go_must (refine allSs X2 rfl _ _ rfl m.memo ma mc X2.heap.size rfl rfl rfl (H.out.memo.below HB2.out) hm ?_;intro v3 y3 ho3 hb3;obtain ⟨ma1,mc1,hv3,_,_⟩:=ho3.form;subst hv3;have HOW3:Hid (OwSn y3 X2.heap.size (.slice ma1 m.memo.length mc1) m.memo):=ho3;have HBy3:Hid (Below X2.heap.size X2 y3):=hb3;have HAy3:Hid (Mf y3 (w.heap.size) [.slice ra1 m.row.length rc1,.int .i64 m.N,.string m.S,.int .i64 m.room,.slice va1 m.vals.length vc1,.int .i64 m.ret,.bool m.over,.int .i64 m.steps,.int .i64 m.looks,.int .i64 m.hits,.slice ma m.memo.length mc]):=HA2.out.below hb3;have e3b:y3.cell? ⟨w.heap.size,10,none⟩=some (.slice ma m.memo.length mc):=(HAy3.out 10 (by simp)).1;have e3c:y3.frozen? ⟨w.heap.size,10,none⟩=false:=(HAy3.out 10 (by simp)).2;clear ho3 hb3))
 clear e3a e3b e3c HPa3
 obtain ⟨X3,hX3⟩:∃ X,X=y3.setCell ⟨w.heap.size,10,none⟩ (.slice ma1 m.memo.length mc1):=⟨_,rfl⟩
 rw [<- hX3]
 have HK3:Hid (Kept (fun b=>b=w.heap.size) y3 X3):=by rw [hX3];exact (Kept.refl (fun b=>b=w.heap.size) y3).setCell (p:=⟨w.heap.size,10,none⟩) rfl _
 have HA3:Hid (Mf X3 (w.heap.size) [.slice ra1 m.row.length rc1,.int .i64 m.N,.string m.S,.int .i64 m.room,.slice va1 m.vals.length vc1,.int .i64 m.ret,.bool m.over,.int .i64 m.steps,.int .i64 m.looks,.int .i64 m.hits,.slice ma1 m.memo.length mc1]):=by rw [hX3];exact HAy3.out.set 10 (.slice ma1 m.memo.length mc1)
 have HZ3:Hid (Mf X3 (w.heap.size+1) [.slice none 0 0,.int .i64 0,.string ⟨#[]⟩,.int .i64 0,.slice none 0 0,.int .i64 0,.bool false,.int .i64 0,.int .i64 0,.int .i64 0,.slice none 0 0]):=(HZ2.out.below HBy3.out).kept HK3.out (by omega)
 have HB3:Hid (Below w.heap.size w X3):=(HB2.out.trans (HBy3.out.mono HB2.out.size)).trans (HK3.out.below (fun b hb=>by omega) (Nat.le_trans HB2.out.size HBy3.out.size))
 have HS3:Hid (X2.heap.size<=X3.heap.size):=Nat.le_trans HBy3.out.size HK3.out.size
 have HG3:Hid (X2.heap.size<=y3.heap.size/\y3.heap.size<=X3.heap.size):=⟨HBy3.out.size,HK3.out.size⟩
 have HO3:Hid (OwSn X3 X2.heap.size (.slice ma1 m.memo.length mc1) m.memo):=HOW3.out.kept HK3.out (fun i hi h=>by have:=HOW3.out.lt i hi;have:=HS0.out;have:=HS1.out;have:=HS2.out;omega)
 have HO1_3:Hid (Owb X3 X0.heap.size (.slice ra1 m.row.length rc1) m.row):=((HO1_2.out.kept (S:=fun _=>False) (Kept.ofBelow HBy3.out) (fun _ _ h=>h)).kept HK3.out (fun i hi h=>by have:=HO1_2.out.lt i hi;have:=HS0.out;have:=HS1.out;have:=HS2.out;have:=HS3.out;omega))
 have HO2_3:Hid (Ows X3 X1.heap.size (.slice va1 m.vals.length vc1) m.vals):=((HO2.out.kept (S:=fun _=>False) (Kept.ofBelow HBy3.out) (fun _ _ h=>h)).kept HK3.out (fun i hi h=>by have:=HO2.out.lt i hi;have:=HS0.out;have:=HS1.out;have:=HS2.out;have:=HS3.out;omega))
 clear hX3 HAy3
 obtain ⟨c0,c1,c2,c3,c4,c5,c6,c7,c8,c9,c10,y0,y1,y2,y3,y4,y5,y6,y7,y8,y9,y10⟩:=HA3.out.all
 obtain ⟨d0,d1,d2,d3,d4,d5,d6,d7,d8,d9,d10,z0,z1,z2,z3,z4,z5,z6,z7,z8,z9,z10⟩:=HZ3.out.all
 go_wp2
 clear c0 y0 d0 z0 c1 y1 d1 z1 c2 y2 d2 z2 c3 y3 d3 z3 c4 y4 d4 z4 c5 y5 d5 z5 c6 y6 d6 z6 c7 y7 d7 z7 c8 y8 d8 z8 c9 y9 d9 z9 c10 y10 d10 z10
 obtain ⟨WF,hWF⟩:∃ WF,WF=(((((((((((X3).setCell ⟨w.heap.size+1,0,none⟩ (.slice ra1 m.row.length rc1)).setCell ⟨w.heap.size+1,1,none⟩ (.int .i64 m.N)).setCell ⟨w.heap.size+1,2,none⟩ (.string m.S)).setCell ⟨w.heap.size+1,3,none⟩ (.int .i64 m.room)).setCell ⟨w.heap.size+1,4,none⟩ (.slice va1 m.vals.length vc1)).setCell ⟨w.heap.size+1,5,none⟩ (.int .i64 m.ret)).setCell ⟨w.heap.size+1,6,none⟩ (.bool m.over)).setCell ⟨w.heap.size+1,7,none⟩ (.int .i64 m.steps)).setCell ⟨w.heap.size+1,8,none⟩ (.int .i64 m.looks)).setCell ⟨w.heap.size+1,9,none⟩ (.int .i64 m.hits)).setCell ⟨w.heap.size+1,10,none⟩ (.slice ma1 m.memo.length mc1):=⟨_,rfl⟩
 rw [<- hWF]
 have KF:Kept (fun b=>b=w.heap.size+1) X3 WF:=by rw [hWF];exact ((((((((((((Kept.refl (fun b=>b=w.heap.size+1) X3)).setCell (p:=⟨w.heap.size+1,0,none⟩) rfl _).setCell (p:=⟨w.heap.size+1,1,none⟩) rfl _).setCell (p:=⟨w.heap.size+1,2,none⟩) rfl _).setCell (p:=⟨w.heap.size+1,3,none⟩) rfl _).setCell (p:=⟨w.heap.size+1,4,none⟩) rfl _).setCell (p:=⟨w.heap.size+1,5,none⟩) rfl _).setCell (p:=⟨w.heap.size+1,6,none⟩) rfl _).setCell (p:=⟨w.heap.size+1,7,none⟩) rfl _).setCell (p:=⟨w.heap.size+1,8,none⟩) rfl _).setCell (p:=⟨w.heap.size+1,9,none⟩) rfl _).setCell (p:=⟨w.heap.size+1,10,none⟩) rfl _
 have HF:Mf WF (w.heap.size+1) [.slice ra1 m.row.length rc1,.int .i64 m.N,.string m.S,.int .i64 m.room,.slice va1 m.vals.length vc1,.int .i64 m.ret,.bool m.over,.int .i64 m.steps,.int .i64 m.looks,.int .i64 m.hits,.slice ma1 m.memo.length mc1]:=by
  rw [hWF]
  exact (((((((((((HZ3.out.set 0 (.slice ra1 m.row.length rc1)).set 1 (.int .i64 m.N)).set 2 (.string m.S)).set 3 (.int .i64 m.room)).set 4 (.slice va1 m.vals.length vc1)).set 5 (.int .i64 m.ret)).set 6 (.bool m.over)).set 7 (.int .i64 m.steps)).set 8 (.int .i64 m.looks)).set 9 (.int .i64 m.hits)).set 10 (.slice ma1 m.memo.length mc1))
 obtain ⟨c0,c1,c2,c3,c4,c5,c6,c7,c8,c9,c10,y0,y1,y2,y3,y4,y5,y6,y7,y8,y9,y10⟩:=HF.all
 have s0:=HS0.out
 have s1:=HS1.out
 have s2:=HS2.out
 have s3:=HS3.out
 have g1:=HG1.out
 have g2:=HG2.out
 have g3:=HG3.out
 have l1:=HOW1.out.lt
 have l2:=HOW2.out.lt
 have l3:=HOW3.out.lt
 have f1:=HO1_3.out.kept KF (fun k hk h=>by have:=l1 k hk;omega)
 have f2:=HO2_3.out.kept KF (fun k hk h=>by have:=l2 k hk;omega)
 have f3:=HO3.out.kept KF (fun k hk h=>by have:=l3 k hk;omega)
 refine bodyPost_ret (v:=mval m ra1 va1 ma1 rc1 vc1 mc1) (by simp [results,Tryz.results49,go_sem,c0,c1,c2,c3,c4,c5,c6,c7,c8,c9,c10]) rfl ⟨ra1,va1,ma1,rc1,vc1,mc1,rfl,⟨ob_mono f1 (by omega),oi_mono f2 (by omega),os_mono f3 (by omega),?_,?_,?_⟩,HB3.out.trans (KF.below (fun b hb=>by omega) HB3.out.size)⟩
 ·intro x y hx hy e
  subst hx hy
  have a:=l1 _ own_of
  have b:=l2 _ own_of
  omega
 ·intro x y hx hy e
  subst hx hy
  have a:=l1 _ own_of
  have b:=l3 _ own_of
  omega
 ·intro x y hx hy e
  subst hx hy
  have a:=l2 _ own_of
  have b:=l3 _ own_of
  omega
end Mu2
namespace Mw0
open Go.RowKit
open Nd0 (Kept Ints lt_of_cell set_same set_other)
open Mm0 Mx0 Mu2 Mi5 Te1
open Ta1 Tc2 Td1 Mc0 Mm1
open Ss0 (bs)
/-- A machine at work lies in the block p: the machine's eleven cells and its map. -/
def Sb (W:World) (p:Nat) (m:Mc) (ra va ma:Option Addr) (rc vc mc bm:Nat):Prop:=Mf W p [.slice ra m.row.length rc,.int .i64 m.N,.string m.S,.int .i64 m.room,.slice va m.vals.length vc,.int .i64 m.ret,.bool m.over,.int .i64 m.steps,.int .i64 m.looks,.int .i64 m.hits,.slice ma m.memo.length mc,.map (some bm)]
structure Sz (W:World) (p:Nat) (m:Mc) (ra va ma:Option Addr) (rc vc mc bm:Nat):Prop where
 c0:W.cell? ⟨p,0,none⟩=some (.slice ra m.row.length rc)
 c1:W.cell? ⟨p,1,none⟩=some (.int .i64 m.N)
 c2:W.cell? ⟨p,2,none⟩=some (.string m.S)
 c3:W.cell? ⟨p,3,none⟩=some (.int .i64 m.room)
 c4:W.cell? ⟨p,4,none⟩=some (.slice va m.vals.length vc)
 c5:W.cell? ⟨p,5,none⟩=some (.int .i64 m.ret)
 c6:W.cell? ⟨p,6,none⟩=some (.bool m.over)
 c7:W.cell? ⟨p,7,none⟩=some (.int .i64 m.steps)
 c8:W.cell? ⟨p,8,none⟩=some (.int .i64 m.looks)
 c9:W.cell? ⟨p,9,none⟩=some (.int .i64 m.hits)
 c10:W.cell? ⟨p,10,none⟩=some (.slice ma m.memo.length mc)
 c11:W.cell? ⟨p,11,none⟩=some (.map (some bm))
 z0:W.frozen? ⟨p,0,none⟩=false
 z1:W.frozen? ⟨p,1,none⟩=false
 z2:W.frozen? ⟨p,2,none⟩=false
 z3:W.frozen? ⟨p,3,none⟩=false
 z4:W.frozen? ⟨p,4,none⟩=false
 z5:W.frozen? ⟨p,5,none⟩=false
 z6:W.frozen? ⟨p,6,none⟩=false
 z7:W.frozen? ⟨p,7,none⟩=false
 z8:W.frozen? ⟨p,8,none⟩=false
 z9:W.frozen? ⟨p,9,none⟩=false
 z10:W.frozen? ⟨p,10,none⟩=false
 z11:W.frozen? ⟨p,11,none⟩=false
theorem Sb.all {W:World} {p:Nat} {m:Mc} {ra va ma:Option Addr} {rc vc mc bm:Nat} (h:Sb W p m ra va ma rc vc mc bm):Sz W p m ra va ma rc vc mc bm :=
 ⟨(h 0 (by simp)).1,(h 1 (by simp)).1,(h 2 (by simp)).1,(h 3 (by simp)).1,(h 4 (by simp)).1,(h 5 (by simp)).1,(h 6 (by simp)).1,(h 7 (by simp)).1,(h 8 (by simp)).1,(h 9 (by simp)).1,(h 10 (by simp)).1,(h 11 (by simp)).1,(h 0 (by simp)).2,(h 1 (by simp)).2,(h 2 (by simp)).2,(h 3 (by simp)).2,(h 4 (by simp)).2,(h 5 (by simp)).2,(h 6 (by simp)).2,(h 7 (by simp)).2,(h 8 (by simp)).2,(h 9 (by simp)).2,(h 10 (by simp)).2,(h 11 (by simp)).2⟩
theorem Sb.kept {W W':World} {p:Nat} {m:Mc} {ra va ma:Option Addr} {rc vc mc bm:Nat} (h:Sb W p m ra va ma rc vc mc bm) {S:Nat->Prop} (k:Kept S W W') (hs:¬ S p):Sb W' p m ra va ma rc vc mc bm:=Mf.kept h k hs
theorem Sb.below {W W':World} {p:Nat} {m:Mc} {ra va ma:Option Addr} {rc vc mc bm:Nat} (h:Sb W p m ra va ma rc vc mc bm) (k:Below W.heap.size W W'):Sb W' p m ra va ma rc vc mc bm:=Mf.below h k
theorem Sb.lt {W:World} {p:Nat} {m:Mc} {ra va ma:Option Addr} {rc vc mc bm:Nat} (h:Sb W p m ra va ma rc vc mc bm):p < W.heap.size:=Mf.lt h (by simp)
theorem iEnd (w:World) (p:Nat) (m:Mc) (ra va ma:Option Addr) (rc vc mc bm:Nat) (h:Sb w p m ra va ma rc vc mc bm) :
 Calls Tryz.prog 205 #[.pointer (some ⟨p,0,none⟩)] w fun e w'=>e=.returned (.tuple #[])/\Sb w' p { m with over:=true } ra va ma rc vc mc bm/\Kept (fun b=>b=p) w w':=by
 have H:Hid (Sb w p m ra va ma rc vc mc bm):=h
 obtain ⟨c0,c1,c2,c3,c4,c5,c6,c7,c8,c9,c10,c11,z0,z1,z2,z3,z4,z5,z6,z7,z8,z9,z10,z11⟩:=h.all
 clear h
 have hp:=H.out.lt
 go_enter Tryz.func205,Tryz.ntmps205
 go_wp2
 clear c0 c1 c2 c3 c4 c5 c6 c7 c8 c9 c10 c11 z0 z1 z2 z3 z4 z5 z6 z7 z8 z9 z10 z11
 exact bodyPost_end (v:=.tuple #[]) (by simp [results,Tryz.results205,go_sem]) rfl ⟨rfl,H.out.set 6 (.bool true),(Kept.refl (fun b=>b=p) w).setCell (p:=⟨p,6,none⟩) rfl _⟩
theorem iLook (n:Nat) (F:Nat->Bool) (vb:List Bool) (w:World) (p:Nat) (m:Mc) (ra va ma:Option Addr) (rc vc mc bm:Nat) (hn:n<=12) (hN:m.N=(n:Int)) (hS:m.S=bs (tab n F)) (hv:m.vals=vb.map bi) (hk:vb.length<=n) (hlo:0<=m.looks/\m.looks<=1000000000) (hI:Ints w va m.vals) (h:Sb w p m ra va ma rc vc mc bm) :
 Calls Tryz.prog 202 #[.pointer (some ⟨p,0,none⟩)] w fun e w'=>e=.returned (.tuple #[])/\Sb w' p { m with ret:=knw (n - vb.length) (lft n F vb),looks:=m.looks+1 } ra va ma rc vc mc bm/\Kept (fun b=>b=p) w w':=by
 have H:Hid (Sb w p m ra va ma rc vc mc bm):=h
 have HLF:Hid (∀ W,Below w.heap.size w W->Calls Tryz.prog 258 #[mval m ra va ma rc vc mc] W fun e w'=>e=.returned (tv ((n - vb.length:Nat):Int) (bs (tab (n - vb.length) (lft n F vb))))/\Below W.heap.size W w'):=fun W hb=>iLeft n F vb m ra va ma rc vc mc W hn hN hS hv hk (hI.below hb)
 have HKN:Hid (∀ W,Calls Tryz.prog 257 #[tv ((n - vb.length:Nat):Int) (bs (tab (n - vb.length) (lft n F vb)))] W fun e w'=>e=.returned (.int .i64 (knw (n - vb.length) (lft n F vb)))/\Below W.heap.size W w'):=fun W=>iKnown _ _ W (by omega)
 clear hN hS hv hk hI hn
 generalize knw (n - vb.length) (lft n F vb)=kn at *
 generalize tv ((n - vb.length:Nat):Int) (bs (tab (n - vb.length) (lft n F vb)))=TT at *
 obtain ⟨c0,c1,c2,c3,c4,c5,c6,c7,c8,c9,c10,c11,z0,z1,z2,z3,z4,z5,z6,z7,z8,z9,z10,z11⟩:=h.all
 clear h
 have hp:=H.out.lt
 go_enter Tryz.func202,Tryz.ntmps202
 go_wp2_with fail
 clear c0 c1 c2 c3 c4 c5 c6 c7 c8 c9 c10 c11 z0 z1 z2 z3 z4 z5 z6 z7 z8 z9 z10 z11 hp
 refine (HLF.out _ (Below.refl _ _)).mono ?_
 rintro _ x1 ⟨rfl,hb⟩
 have H1:Hid (Sb x1 p m ra va ma rc vc mc bm):=H.out.below hb
 have HB1:Hid (Below w.heap.size w x1):=hb
 clear hb
 go_wp2_with fail
 refine (HKN.out _).mono ?_
 rintro _ x2 ⟨rfl,hb⟩
 have H2:Hid (Sb x2 p m ra va ma rc vc mc bm):=H1.out.below hb
 have HB2:Hid (Below w.heap.size w x2):=HB1.out.trans (hb.mono HB1.out.size)
 clear hb
 obtain ⟨c0,c1,c2,c3,c4,c5,c6,c7,c8,c9,c10,c11,z0,z1,z2,z3,z4,z5,z6,z7,z8,z9,z10,z11⟩:=H2.out.all
 go_wp2
 clear c0 c1 c2 c3 c4 c5 c6 c7 c8 c9 c10 c11 z0 z1 z2 z3 z4 z5 z6 z7 z8 z9 z10 z11
 exact bodyPost_end (v:=.tuple #[]) (by simp [results,Tryz.results202,go_sem]) rfl ⟨rfl,(H2.out.set 5 (.int .i64 kn)).set 8 (.int .i64 (m.looks+1)),((Kept.ofBelow HB2.out:Kept (fun b=>b=p) w x2).setCell (p:=⟨p,5,none⟩) rfl _).setCell (p:=⟨p,8,none⟩) rfl _⟩
end Mw0
end Go.Proofs.YtladjpombohpaaaGreatDoor
