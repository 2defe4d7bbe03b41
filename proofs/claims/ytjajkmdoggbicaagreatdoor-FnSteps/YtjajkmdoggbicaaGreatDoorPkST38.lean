import Derived.Deep.RegionHeld3
import Derived.Laws.EntriesVeiled
import Derived.Test.YtjajkmdoggbicaaGreatDoorPkST36
import Derived.Test.YtjajkmdoggbicaaGreatDoorCp0
namespace Go.Proofs.YtjajkmdoggbicaaGreatDoor
set_option maxRecDepth 100000
set_option maxHeartbeats 8000000
set_option linter.unusedVariables false
namespace Mw7
open Go.RowKit
open Nd0 (Kept Ints lt_of_cell At)
open Ap0 Ap1 Qc0 Qc2 Cl0 Cp0 Mm0 Mx0 Mu2 Mw0 Ms0 Mi1
/-- Where a machine at work lies: apart from its lists and its map. -/
structure Sx (B p bm:Nat) (ra va ma:Option Addr):Prop where
 hp:B<=p
 hb:B<=bm
 hn:p≠bm
 r:∀ x,ra=some x->x.block≠p/\x.block≠bm
 v:∀ x,va=some x->x.block≠p/\x.block≠bm
 mm:∀ x,ma=some x->x.block≠p/\x.block≠bm
theorem iNew (w:World) (m:Mc) (ra va ma:Option Addr) (rc vc mc:Nat) (h:Mr w m ra va ma) (hr:m.row.length<=1048576) (hv:m.vals.length<=1048576) (hm:m.memo.length<=1048576) (hk:∀ x∈m.memo,x.k.size<=maxLen) (hb:∀ x∈m.memo,0<=x.r/\x.r<=1) :
 Calls Tryz.prog 24 #[mval m ra va ma rc vc mc] w fun e w'=>∃ p ra' va' ma' rc' vc' mc' bm,e=.returned (.pointer (some ⟨p,0,none⟩))/\Sb w' p m ra' va' ma' rc' vc' mc' bm/\MO w' w.heap.size m ra' va' ma' rc' vc' mc'/\Ms w' bm (cnt m.memo m.memo.length) (says m.memo m.memo.length)/\Sx w.heap.size p bm ra' va' ma'/\Below w.heap.size w w':=by
 have H:Hid (Mr w m ra va ma):=h
 have HK:Hid (∀ x∈m.memo,x.k.size<=maxLen):=hk
 have HBT:Hid (∀ x∈m.memo,0<=x.r/\x.r<=1):=hb
 clear h hk hb
 obtain ⟨X0,hX0⟩:∃ X0,X0=w.alloc (.cells #[.slice ra m.row.length rc,.int .i64 m.N,.string m.S,.int .i64 m.room,.slice va m.vals.length vc,.int .i64 m.ret,.bool m.over,.int .i64 m.steps,.int .i64 m.looks,.int .i64 m.hits,.slice ma m.memo.length mc] 30):=⟨_,rfl⟩
 have HE0:Hid (w.alloc (.cells #[.slice ra m.row.length rc,.int .i64 m.N,.string m.S,.int .i64 m.room,.slice va m.vals.length vc,.int .i64 m.ret,.bool m.over,.int .i64 m.steps,.int .i64 m.looks,.int .i64 m.hits,.slice ma m.memo.length mc] 30)=X0):=hX0.symm
 have HBD:Hid (Below w.heap.size w X0.drew):=by rw [hX0];exact ((Below.refl _ _).alloc (Nat.le_refl _) _).drew
 have HAD:Hid (Mf X0.drew w.heap.size [.slice ra m.row.length rc,.int .i64 m.N,.string m.S,.int .i64 m.room,.slice va m.vals.length vc,.int .i64 m.ret,.bool m.over,.int .i64 m.steps,.int .i64 m.looks,.int .i64 m.hits,.slice ma m.memo.length mc]):=by rw [hX0];exact (Mf.made _ _ _).below (Below.refl _ _).drew
 have HSD:Hid (w.heap.size+1<=X0.drew.heap.size):=by show _<=_;rw [hX0];simp
 clear hX0
 go_enter Tryz.func24,Tryz.ntmps24
 go_upto_region 1 with fail
 rw [HE0.out]
 clear HE0
 go_region_held3 (fun w'=>w'.cell? ⟨w.heap.size,0,none⟩=some (.slice ra m.row.length rc)/\w'.cell? ⟨w.heap.size,1,none⟩=some (.int .i64 m.N)/\w'.cell? ⟨w.heap.size,2,none⟩=some (.string m.S)/\w'.cell? ⟨w.heap.size,3,none⟩=some (.int .i64 m.room)/\w'.cell? ⟨w.heap.size,4,none⟩=some (.slice va m.vals.length vc)/\w'.cell? ⟨w.heap.size,5,none⟩=some (.int .i64 m.ret)/\w'.cell? ⟨w.heap.size,6,none⟩=some (.bool m.over)/\w'.cell? ⟨w.heap.size,7,none⟩=some (.int .i64 m.steps)/\w'.cell? ⟨w.heap.size,8,none⟩=some (.int .i64 m.looks)/\w'.cell? ⟨w.heap.size,9,none⟩=some (.int .i64 m.hits)/\w'.cell? ⟨w.heap.size,10,none⟩=some (.slice ma m.memo.length mc)) ((first|(with_reducible exact ⟨(HAD.out.mb:Mb _ _ m ra va ma rc vc mc).c0,(HAD.out.mb:Mb _ _ m ra va ma rc vc mc).c1,(HAD.out.mb:Mb _ _ m ra va ma rc vc mc).c2,(HAD.out.mb:Mb _ _ m ra va ma rc vc mc).c3,(HAD.out.mb:Mb _ _ m ra va ma rc vc mc).c4,(HAD.out.mb:Mb _ _ m ra va ma rc vc mc).c5,(HAD.out.mb:Mb _ _ m ra va ma rc vc mc).c6,(HAD.out.mb:Mb _ _ m ra va ma rc vc mc).c7,(HAD.out.mb:Mb _ _ m ra va ma rc vc mc).c8,(HAD.out.mb:Mb _ _ m ra va ma rc vc mc).c9,(HAD.out.mb:Mb _ _ m ra va ma rc vc mc).c10⟩)|(with_reducible exact ⟨((HA2.out.alloc _).mb:Mb _ _ m ra va ma rc vc mc).c0,((HA2.out.alloc _).mb:Mb _ _ m ra va ma rc vc mc).c1,((HA2.out.alloc _).mb:Mb _ _ m ra va ma rc vc mc).c2,((HA2.out.alloc _).mb:Mb _ _ m ra va ma rc vc mc).c3,((HA2.out.alloc _).mb:Mb _ _ m ra va ma rc vc mc).c4,((HA2.out.alloc _).mb:Mb _ _ m ra va ma rc vc mc).c5,((HA2.out.alloc _).mb:Mb _ _ m ra va ma rc vc mc).c6,((HA2.out.alloc _).mb:Mb _ _ m ra va ma rc vc mc).c7,((HA2.out.alloc _).mb:Mb _ _ m ra va ma rc vc mc).c8,((HA2.out.alloc _).mb:Mb _ _ m ra va ma rc vc mc).c9,((HA2.out.alloc _).mb:Mb _ _ m ra va ma rc vc mc).c10⟩)|exact ⟨(HA2.out.mb:Mb _ _ m ra va ma rc vc mc).c0,(HA2.out.mb:Mb _ _ m ra va ma rc vc mc).c1,(HA2.out.mb:Mb _ _ m ra va ma rc vc mc).c2,(HA2.out.mb:Mb _ _ m ra va ma rc vc mc).c3,(HA2.out.mb:Mb _ _ m ra va ma rc vc mc).c4,(HA2.out.mb:Mb _ _ m ra va ma rc vc mc).c5,(HA2.out.mb:Mb _ _ m ra va ma rc vc mc).c6,(HA2.out.mb:Mb _ _ m ra va ma rc vc mc).c7,(HA2.out.mb:Mb _ _ m ra va ma rc vc mc).c8,(HA2.out.mb:Mb _ _ m ra va ma rc vc mc).c9,(HA2.out.mb:Mb _ _ m ra va ma rc vc mc).c10⟩|exact ⟨(HA1.out.mb:Mb _ _ m ra va ma rc vc mc).c0,(HA1.out.mb:Mb _ _ m ra va ma rc vc mc).c1,(HA1.out.mb:Mb _ _ m ra va ma rc vc mc).c2,(HA1.out.mb:Mb _ _ m ra va ma rc vc mc).c3,(HA1.out.mb:Mb _ _ m ra va ma rc vc mc).c4,(HA1.out.mb:Mb _ _ m ra va ma rc vc mc).c5,(HA1.out.mb:Mb _ _ m ra va ma rc vc mc).c6,(HA1.out.mb:Mb _ _ m ra va ma rc vc mc).c7,(HA1.out.mb:Mb _ _ m ra va ma rc vc mc).c8,(HA1.out.mb:Mb _ _ m ra va ma rc vc mc).c9,(HA1.out.mb:Mb _ _ m ra va ma rc vc mc).c10⟩|exact ⟨(HAD.out.mb:Mb _ _ m ra va ma rc vc mc).c0,(HAD.out.mb:Mb _ _ m ra va ma rc vc mc).c1,(HAD.out.mb:Mb _ _ m ra va ma rc vc mc).c2,(HAD.out.mb:Mb _ _ m ra va ma rc vc mc).c3,(HAD.out.mb:Mb _ _ m ra va ma rc vc mc).c4,(HAD.out.mb:Mb _ _ m ra va ma rc vc mc).c5,(HAD.out.mb:Mb _ _ m ra va ma rc vc mc).c6,(HAD.out.mb:Mb _ _ m ra va ma rc vc mc).c7,(HAD.out.mb:Mb _ _ m ra va ma rc vc mc).c8,(HAD.out.mb:Mb _ _ m ra va ma rc vc mc).c9,(HAD.out.mb:Mb _ _ m ra va ma rc vc mc).c10⟩)) ((first|(go_at_call 23;(with_reducible refine (iCopied _ m ra va ma rc vc mc (H.out.below HBD.out) hr hv hm).mono ?_);rintro _ x1 ⟨ra',va',ma',rc',vc',mc',U1,U2,rfl,hu0,hu1,hu2,ho1,hl1,ho2,hl2,ho3,hb1⟩;have HB1:Hid (Below w.heap.size w x1):=HBD.out.trans (hb1.mono HBD.out.size);have HA1:Hid (Mf x1 w.heap.size [.slice ra m.row.length rc,.int .i64 m.N,.string m.S,.int .i64 m.room,.slice va m.vals.length vc,.int .i64 m.ret,.bool m.over,.int .i64 m.steps,.int .i64 m.looks,.int .i64 m.hits,.slice ma m.memo.length mc]):=HAD.out.below hb1;have HU:Hid (X0.drew.heap.size<=U1/\U1<=U2/\U2<=x1.heap.size):=⟨hu0,hu1,hu2⟩;have HO1:Hid (Owb x1 X0.drew.heap.size (.slice ra' m.row.length rc') m.row):=ho1;have HL1:Hid (∀ x,ra'=some x->x.block < U1):=hl1;have HO2:Hid (Ows x1 U1 (.slice va' m.vals.length vc') m.vals):=ho2;have HL2:Hid (∀ x,va'=some x->x.block < U2):=hl2;have HO3:Hid (OwSn x1 U2 (.slice ma' m.memo.length mc') m.memo):=ho3;clear hu0 hu1 hu2 ho1 hl1 ho2 hl2 ho3 hb1)|(go_at_call 59;(with_reducible refine (iSays _ ma m.memo mc hm (H.out.memo.below HB1.out) HK.out HBT.out).mono ?_);rintro _ x2 ⟨rfl,hms,hb2⟩;have HB2:Hid (Below w.heap.size w x2):=HB1.out.trans (hb2.mono HB1.out.size);have HA2:Hid (Mf x2 w.heap.size [.slice ra m.row.length rc,.int .i64 m.N,.string m.S,.int .i64 m.room,.slice va m.vals.length vc,.int .i64 m.ret,.bool m.over,.int .i64 m.steps,.int .i64 m.looks,.int .i64 m.hits,.slice ma m.memo.length mc]):=HA1.out.below hb2;have HMS:Hid (Ms x2 x1.heap.size (cnt m.memo m.memo.length) (says m.memo m.memo.length)):=hms;have HP2:Hid (Below x1.heap.size x1 x2):=hb2;clear hms hb2)))
 go_wp2
 go_ret
 have hu:=HU.out
 have hsd:=HSD.out
 have hs2:=HP2.out.size
 have l1:=HO1.out.lt
 have l2:=HO2.out.lt
 have l3:=HO3.out.lt
 have hb2:=HP2.out
 have hal:Below x2.heap.size x2 (x2.alloc (.cells #[.slice ra' m.row.length rc',.int .i64 m.N,.string m.S,.int .i64 m.room,.slice va' m.vals.length vc',.int .i64 m.ret,.bool m.over,.int .i64 m.steps,.int .i64 m.looks,.int .i64 m.hits,.slice ma' m.memo.length mc',.map (some x1.heap.size)] 60)):=(Below.refl _ _).alloc (Nat.le_refl _) _
 have hms:=HMS.out.lt
 have n1:∀ x,ra'=some x->x.block < x1.heap.size:=fun x hx=>by have:=HL1.out x hx;omega
 have n2:∀ x,va'=some x->x.block < x1.heap.size:=fun x hx=>by have:=HL2.out x hx;omega
 have n3:∀ x,ma'=some x->x.block < x1.heap.size:=fun x hx=>by subst hx;exact (l3 _ own_of).2
 have mo:MO x1 w.heap.size m ra' va' ma' rc' vc' mc':=⟨ob_mono HO1.out (by omega),oi_mono HO2.out (by omega),os_mono HO3.out (by omega),fun x y hx hy e=>by
  subst hy
  have a:=HL1.out x hx
  have b:=l2 _ own_of
  omega,fun x y hx hy e=>by
  subst hy
  have a:=HL1.out x hx
  have b:=l3 _ own_of
  omega,fun x y hx hy e=>by
  subst hy
  have a:=HL2.out x hx
  have b:=l3 _ own_of
  omega⟩
 exact ⟨x2.heap.size,ra',va',ma',rc',vc',mc',x1.heap.size,rfl,Mf.made _ _ _,(mo.below hb2).below hal,HMS.out.below hal,⟨by omega,by omega,by omega,fun x hx=>by have:=n1 x hx;omega,fun x hx=>by have:=n2 x hx;omega,fun x hx=>by have:=n3 x hx;omega⟩,HB2.out.trans (hal.mono HB2.out.size)⟩
end Mw7
namespace Mw8
open Go.RowKit
open Nd0 (Kept Ints lt_of_cell)
open Mm0 Mx0 Mw0
theorem step_look (w:World) (p:Nat) (m:Mc) (ra va ma:Option Addr) (rc vc mc bm:Nat) (R:World->Prop) (hst:0<=m.steps/\m.steps<=1000000000) (h:Sb w p m ra va ma rc vc mc bm)
 (hat:∀ W,Kept (fun b=>b=p) w W->Sb W p { m with steps:=m.steps+1 } ra va ma rc vc mc bm->Calls Tryz.prog 68 #[.pointer (some ⟨p,0,none⟩)] W fun e w'=>e=.returned (.int .i64 0)/\Below W.heap.size W w')
 (hf:∀ W,Kept (fun b=>b=p) w W->Sb W p { m with steps:=m.steps+1 } ra va ma rc vc mc bm->Calls Tryz.prog 62 #[.pointer (some ⟨p,0,none⟩)] W fun e w'=>e=.returned (.tuple #[])/\R w') :
 Calls Tryz.prog 26 #[.pointer (some ⟨p,0,none⟩)] w fun e w'=>e=.returned (.tuple #[])/\R w':=by
 have H:Hid (Sb w p m ra va ma rc vc mc bm):=h
 have HAT:Hid _:=hat
 have HF:Hid _:=hf
 have hp:=h.lt
 clear h hat hf
 go_enter Tryz.func26,Tryz.ntmps26
 go_upto_region 1 with fail
 obtain ⟨X0,hX0⟩:∃ X,X=w.alloc (.cells #[.func (.func 62) #[] #[],.func (.func 63) #[] #[],.func (.func 64) #[] #[],.func (.func 65) #[] #[],.func (.func 66) #[] #[],.func (.func 67) #[] #[]] 103):=⟨_,rfl⟩
 obtain ⟨q,hq⟩:∃ q,q=w.heap.size:=⟨_,rfl⟩
 have K0:Kept (fun b=>b=p) w X0:=by rw [hX0];exact (Kept.refl _ _).alloc _
 have HK0:Hid (Kept (fun b=>b=p) w X0):=K0
 have H0:Hid (Sb X0 p m ra va ma rc vc mc bm):=by rw [hX0];exact Mf.alloc H.out _
 have HC0:Hid (X0.cell? ⟨q,0,none⟩=some (.func (.func 62) #[] #[])):=by show _=_;rw [hX0,hq,World.cell?_alloc_new];rfl
 have HQP:Hid (q≠p):=by show _≠_;rw [hq];omega
 rw [<- hX0,<- hq]
 clear hX0 hq K0 hp
 have c7:X0.cell? ⟨p,7,none⟩=some (.int .i64 m.steps):=H0.out.all.c7
 have z7:X0.frozen? ⟨p,7,none⟩=false:=H0.out.all.z7
 have hp:=H0.out.lt
 go_upto_region 2 with fail
 clear c7 z7 hp
 obtain ⟨Y,hY⟩:∃ Y,Y=X0.setCell ⟨p,7,none⟩ (.int .i64 (m.steps+1)):=⟨_,rfl⟩
 rw [<- hY]
 have KY:Kept (fun b=>b=p) X0 Y:=by rw [hY];exact (Kept.refl (fun b=>b=p) X0).setCell (p:=⟨p,7,none⟩) rfl _
 have HY:Hid (Sb Y p { m with steps:=m.steps+1 } ra va ma rc vc mc bm):=by rw [hY];exact H0.out.set 7 (.int .i64 (m.steps+1))
 have HKY:Hid (Kept (fun b=>b=p) w Y):=HK0.out.trans KY
 have HCY:Hid (Y.cell? ⟨q,0,none⟩=some (.func (.func 62) #[] #[])):=by
  have h1:X0.cell? ⟨q,0,none⟩=some (.func (.func 62) #[] #[]):=HC0.out
  show _=_
  rw [KY.cell (p:=⟨q,0,none⟩) (lt_of_cell h1) HQP.out]
  exact h1
 clear hY KY H0 HC0 HK0
 go_wp2_with fail
 refine Calls.mono (HAT.out Y HKY.out HY.out) ?_
 rintro _ x1 ⟨rfl,hb⟩
 have H1:Hid (Sb x1 p { m with steps:=m.steps+1 } ra va ma rc vc mc bm):=HY.out.below hb
 have HK1:Hid (Kept (fun b=>b=p) w x1):=HKY.out.trans (Kept.ofBelow hb)
 have d0:x1.cell? ⟨q,0,none⟩=some (.func (.func 62) #[] #[]):=by rw [hb.cell (p:=⟨q,0,none⟩) (lt_of_cell HCY.out)];exact HCY.out
 have hq:=lt_of_cell d0
 clear hb
 go_wp2_with fail
 refine Calls.mono (HF.out x1 HK1.out H1.out) ?_
 rintro _ x2 ⟨rfl,hr⟩
 have HR:Hid (R x2):=hr
 clear hr d0 hq
 go_wp2
 exact bodyPost_end (v:=.tuple #[]) (by simp [results,Tryz.results26,go_sem]) rfl ⟨rfl,HR.out⟩
theorem step_recall (w:World) (p:Nat) (m:Mc) (ra va ma:Option Addr) (rc vc mc bm:Nat) (R:World->Prop) (hst:0<=m.steps/\m.steps<=1000000000) (h:Sb w p m ra va ma rc vc mc bm)
 (hat:∀ W,Kept (fun b=>b=p) w W->Sb W p { m with steps:=m.steps+1 } ra va ma rc vc mc bm->Calls Tryz.prog 68 #[.pointer (some ⟨p,0,none⟩)] W fun e w'=>e=.returned (.int .i64 1)/\Below W.heap.size W w')
 (hf:∀ W,Kept (fun b=>b=p) w W->Sb W p { m with steps:=m.steps+1 } ra va ma rc vc mc bm->Calls Tryz.prog 63 #[.pointer (some ⟨p,0,none⟩)] W fun e w'=>e=.returned (.tuple #[])/\R w') :
 Calls Tryz.prog 26 #[.pointer (some ⟨p,0,none⟩)] w fun e w'=>e=.returned (.tuple #[])/\R w':=by
 have H:Hid (Sb w p m ra va ma rc vc mc bm):=h
 have HAT:Hid _:=hat
 have HF:Hid _:=hf
 have hp:=h.lt
 clear h hat hf
 go_enter Tryz.func26,Tryz.ntmps26
 go_upto_region 1 with fail
 obtain ⟨X0,hX0⟩:∃ X,X=w.alloc (.cells #[.func (.func 62) #[] #[],.func (.func 63) #[] #[],.func (.func 64) #[] #[],.func (.func 65) #[] #[],.func (.func 66) #[] #[],.func (.func 67) #[] #[]] 103):=⟨_,rfl⟩
 obtain ⟨q,hq⟩:∃ q,q=w.heap.size:=⟨_,rfl⟩
 have K0:Kept (fun b=>b=p) w X0:=by rw [hX0];exact (Kept.refl _ _).alloc _
 have HK0:Hid (Kept (fun b=>b=p) w X0):=K0
 have H0:Hid (Sb X0 p m ra va ma rc vc mc bm):=by rw [hX0];exact Mf.alloc H.out _
 have HC0:Hid (X0.cell? ⟨q,1,none⟩=some (.func (.func 63) #[] #[])):=by show _=_;rw [hX0,hq,World.cell?_alloc_new];rfl
 have HQP:Hid (q≠p):=by show _≠_;rw [hq];omega
 rw [<- hX0,<- hq]
 clear hX0 hq K0 hp
 have c7:X0.cell? ⟨p,7,none⟩=some (.int .i64 m.steps):=H0.out.all.c7
 have z7:X0.frozen? ⟨p,7,none⟩=false:=H0.out.all.z7
 have hp:=H0.out.lt
 go_upto_region 2 with fail
 clear c7 z7 hp
 obtain ⟨Y,hY⟩:∃ Y,Y=X0.setCell ⟨p,7,none⟩ (.int .i64 (m.steps+1)):=⟨_,rfl⟩
 rw [<- hY]
 have KY:Kept (fun b=>b=p) X0 Y:=by rw [hY];exact (Kept.refl (fun b=>b=p) X0).setCell (p:=⟨p,7,none⟩) rfl _
 have HY:Hid (Sb Y p { m with steps:=m.steps+1 } ra va ma rc vc mc bm):=by rw [hY];exact H0.out.set 7 (.int .i64 (m.steps+1))
 have HKY:Hid (Kept (fun b=>b=p) w Y):=HK0.out.trans KY
 have HCY:Hid (Y.cell? ⟨q,1,none⟩=some (.func (.func 63) #[] #[])):=by
  have h1:X0.cell? ⟨q,1,none⟩=some (.func (.func 63) #[] #[]):=HC0.out
  show _=_
  rw [KY.cell (p:=⟨q,1,none⟩) (lt_of_cell h1) HQP.out]
  exact h1
 clear hY KY H0 HC0 HK0
 go_wp2_with fail
 refine Calls.mono (HAT.out Y HKY.out HY.out) ?_
 rintro _ x1 ⟨rfl,hb⟩
 have H1:Hid (Sb x1 p { m with steps:=m.steps+1 } ra va ma rc vc mc bm):=HY.out.below hb
 have HK1:Hid (Kept (fun b=>b=p) w x1):=HKY.out.trans (Kept.ofBelow hb)
 have d0:x1.cell? ⟨q,1,none⟩=some (.func (.func 63) #[] #[]):=by rw [hb.cell (p:=⟨q,1,none⟩) (lt_of_cell HCY.out)];exact HCY.out
 have hq:=lt_of_cell d0
 clear hb
 go_wp2_with fail
 refine Calls.mono (HF.out x1 HK1.out H1.out) ?_
 rintro _ x2 ⟨rfl,hr⟩
 have HR:Hid (R x2):=hr
 clear hr d0 hq
 go_wp2
 exact bodyPost_end (v:=.tuple #[]) (by simp [results,Tryz.results26,go_sem]) rfl ⟨rfl,HR.out⟩
theorem step_goDown (w:World) (p:Nat) (m:Mc) (ra va ma:Option Addr) (rc vc mc bm:Nat) (R:World->Prop) (hst:0<=m.steps/\m.steps<=1000000000) (h:Sb w p m ra va ma rc vc mc bm)
 (hat:∀ W,Kept (fun b=>b=p) w W->Sb W p { m with steps:=m.steps+1 } ra va ma rc vc mc bm->Calls Tryz.prog 68 #[.pointer (some ⟨p,0,none⟩)] W fun e w'=>e=.returned (.int .i64 2)/\Below W.heap.size W w')
 (hf:∀ W,Kept (fun b=>b=p) w W->Sb W p { m with steps:=m.steps+1 } ra va ma rc vc mc bm->Calls Tryz.prog 64 #[.pointer (some ⟨p,0,none⟩)] W fun e w'=>e=.returned (.tuple #[])/\R w') :
 Calls Tryz.prog 26 #[.pointer (some ⟨p,0,none⟩)] w fun e w'=>e=.returned (.tuple #[])/\R w':=by
 have H:Hid (Sb w p m ra va ma rc vc mc bm):=h
 have HAT:Hid _:=hat
 have HF:Hid _:=hf
 have hp:=h.lt
 clear h hat hf
 go_enter Tryz.func26,Tryz.ntmps26
 go_upto_region 1 with fail
 obtain ⟨X0,hX0⟩:∃ X,X=w.alloc (.cells #[.func (.func 62) #[] #[],.func (.func 63) #[] #[],.func (.func 64) #[] #[],.func (.func 65) #[] #[],.func (.func 66) #[] #[],.func (.func 67) #[] #[]] 103):=⟨_,rfl⟩
 obtain ⟨q,hq⟩:∃ q,q=w.heap.size:=⟨_,rfl⟩
 have K0:Kept (fun b=>b=p) w X0:=by rw [hX0];exact (Kept.refl _ _).alloc _
 have HK0:Hid (Kept (fun b=>b=p) w X0):=K0
 have H0:Hid (Sb X0 p m ra va ma rc vc mc bm):=by rw [hX0];exact Mf.alloc H.out _
 have HC0:Hid (X0.cell? ⟨q,2,none⟩=some (.func (.func 64) #[] #[])):=by show _=_;rw [hX0,hq,World.cell?_alloc_new];rfl
 have HQP:Hid (q≠p):=by show _≠_;rw [hq];omega
 rw [<- hX0,<- hq]
 clear hX0 hq K0 hp
 have c7:X0.cell? ⟨p,7,none⟩=some (.int .i64 m.steps):=H0.out.all.c7
 have z7:X0.frozen? ⟨p,7,none⟩=false:=H0.out.all.z7
 have hp:=H0.out.lt
 go_upto_region 2 with fail
 clear c7 z7 hp
 obtain ⟨Y,hY⟩:∃ Y,Y=X0.setCell ⟨p,7,none⟩ (.int .i64 (m.steps+1)):=⟨_,rfl⟩
 rw [<- hY]
 have KY:Kept (fun b=>b=p) X0 Y:=by rw [hY];exact (Kept.refl (fun b=>b=p) X0).setCell (p:=⟨p,7,none⟩) rfl _
 have HY:Hid (Sb Y p { m with steps:=m.steps+1 } ra va ma rc vc mc bm):=by rw [hY];exact H0.out.set 7 (.int .i64 (m.steps+1))
 have HKY:Hid (Kept (fun b=>b=p) w Y):=HK0.out.trans KY
 have HCY:Hid (Y.cell? ⟨q,2,none⟩=some (.func (.func 64) #[] #[])):=by
  have h1:X0.cell? ⟨q,2,none⟩=some (.func (.func 64) #[] #[]):=HC0.out
  show _=_
  rw [KY.cell (p:=⟨q,2,none⟩) (lt_of_cell h1) HQP.out]
  exact h1
 clear hY KY H0 HC0 HK0
 go_wp2_with fail
 refine Calls.mono (HAT.out Y HKY.out HY.out) ?_
 rintro _ x1 ⟨rfl,hb⟩
 have H1:Hid (Sb x1 p { m with steps:=m.steps+1 } ra va ma rc vc mc bm):=HY.out.below hb
 have HK1:Hid (Kept (fun b=>b=p) w x1):=HKY.out.trans (Kept.ofBelow hb)
 have d0:x1.cell? ⟨q,2,none⟩=some (.func (.func 64) #[] #[]):=by rw [hb.cell (p:=⟨q,2,none⟩) (lt_of_cell HCY.out)];exact HCY.out
 have hq:=lt_of_cell d0
 clear hb
 go_wp2_with fail
 refine Calls.mono (HF.out x1 HK1.out H1.out) ?_
 rintro _ x2 ⟨rfl,hr⟩
 have HR:Hid (R x2):=hr
 clear hr d0 hq
 go_wp2
 exact bodyPost_end (v:=.tuple #[]) (by simp [results,Tryz.results26,go_sem]) rfl ⟨rfl,HR.out⟩
theorem step_end (w:World) (p:Nat) (m:Mc) (ra va ma:Option Addr) (rc vc mc bm:Nat) (R:World->Prop) (hst:0<=m.steps/\m.steps<=1000000000) (h:Sb w p m ra va ma rc vc mc bm)
 (hat:∀ W,Kept (fun b=>b=p) w W->Sb W p { m with steps:=m.steps+1 } ra va ma rc vc mc bm->Calls Tryz.prog 68 #[.pointer (some ⟨p,0,none⟩)] W fun e w'=>e=.returned (.int .i64 3)/\Below W.heap.size W w')
 (hf:∀ W,Kept (fun b=>b=p) w W->Sb W p { m with steps:=m.steps+1 } ra va ma rc vc mc bm->Calls Tryz.prog 65 #[.pointer (some ⟨p,0,none⟩)] W fun e w'=>e=.returned (.tuple #[])/\R w') :
 Calls Tryz.prog 26 #[.pointer (some ⟨p,0,none⟩)] w fun e w'=>e=.returned (.tuple #[])/\R w':=by
 have H:Hid (Sb w p m ra va ma rc vc mc bm):=h
 have HAT:Hid _:=hat
 have HF:Hid _:=hf
 have hp:=h.lt
 clear h hat hf
 go_enter Tryz.func26,Tryz.ntmps26
 go_upto_region 1 with fail
 obtain ⟨X0,hX0⟩:∃ X,X=w.alloc (.cells #[.func (.func 62) #[] #[],.func (.func 63) #[] #[],.func (.func 64) #[] #[],.func (.func 65) #[] #[],.func (.func 66) #[] #[],.func (.func 67) #[] #[]] 103):=⟨_,rfl⟩
 obtain ⟨q,hq⟩:∃ q,q=w.heap.size:=⟨_,rfl⟩
 have K0:Kept (fun b=>b=p) w X0:=by rw [hX0];exact (Kept.refl _ _).alloc _
 have HK0:Hid (Kept (fun b=>b=p) w X0):=K0
 have H0:Hid (Sb X0 p m ra va ma rc vc mc bm):=by rw [hX0];exact Mf.alloc H.out _
 have HC0:Hid (X0.cell? ⟨q,3,none⟩=some (.func (.func 65) #[] #[])):=by show _=_;rw [hX0,hq,World.cell?_alloc_new];rfl
 have HQP:Hid (q≠p):=by show _≠_;rw [hq];omega
 rw [<- hX0,<- hq]
 clear hX0 hq K0 hp
 have c7:X0.cell? ⟨p,7,none⟩=some (.int .i64 m.steps):=H0.out.all.c7
 have z7:X0.frozen? ⟨p,7,none⟩=false:=H0.out.all.z7
 have hp:=H0.out.lt
 go_upto_region 2 with fail
 clear c7 z7 hp
 obtain ⟨Y,hY⟩:∃ Y,Y=X0.setCell ⟨p,7,none⟩ (.int .i64 (m.steps+1)):=⟨_,rfl⟩
 rw [<- hY]
 have KY:Kept (fun b=>b=p) X0 Y:=by rw [hY];exact (Kept.refl (fun b=>b=p) X0).setCell (p:=⟨p,7,none⟩) rfl _
 have HY:Hid (Sb Y p { m with steps:=m.steps+1 } ra va ma rc vc mc bm):=by rw [hY];exact H0.out.set 7 (.int .i64 (m.steps+1))
 have HKY:Hid (Kept (fun b=>b=p) w Y):=HK0.out.trans KY
 have HCY:Hid (Y.cell? ⟨q,3,none⟩=some (.func (.func 65) #[] #[])):=by
  have h1:X0.cell? ⟨q,3,none⟩=some (.func (.func 65) #[] #[]):=HC0.out
  show _=_
  rw [KY.cell (p:=⟨q,3,none⟩) (lt_of_cell h1) HQP.out]
  exact h1
 clear hY KY H0 HC0 HK0
 go_wp2_with fail
 refine Calls.mono (HAT.out Y HKY.out HY.out) ?_
 rintro _ x1 ⟨rfl,hb⟩
 have H1:Hid (Sb x1 p { m with steps:=m.steps+1 } ra va ma rc vc mc bm):=HY.out.below hb
 have HK1:Hid (Kept (fun b=>b=p) w x1):=HKY.out.trans (Kept.ofBelow hb)
 have d0:x1.cell? ⟨q,3,none⟩=some (.func (.func 65) #[] #[]):=by rw [hb.cell (p:=⟨q,3,none⟩) (lt_of_cell HCY.out)];exact HCY.out
 have hq:=lt_of_cell d0
 clear hb
 go_wp2_with fail
 refine Calls.mono (HF.out x1 HK1.out H1.out) ?_
 rintro _ x2 ⟨rfl,hr⟩
 have HR:Hid (R x2):=hr
 clear hr d0 hq
 go_wp2
 exact bodyPost_end (v:=.tuple #[]) (by simp [results,Tryz.results26,go_sem]) rfl ⟨rfl,HR.out⟩
theorem step_goUp (w:World) (p:Nat) (m:Mc) (ra va ma:Option Addr) (rc vc mc bm:Nat) (R:World->Prop) (hst:0<=m.steps/\m.steps<=1000000000) (h:Sb w p m ra va ma rc vc mc bm)
 (hat:∀ W,Kept (fun b=>b=p) w W->Sb W p { m with steps:=m.steps+1 } ra va ma rc vc mc bm->Calls Tryz.prog 68 #[.pointer (some ⟨p,0,none⟩)] W fun e w'=>e=.returned (.int .i64 4)/\Below W.heap.size W w')
 (hf:∀ W,Kept (fun b=>b=p) w W->Sb W p { m with steps:=m.steps+1 } ra va ma rc vc mc bm->Calls Tryz.prog 66 #[.pointer (some ⟨p,0,none⟩)] W fun e w'=>e=.returned (.tuple #[])/\R w') :
 Calls Tryz.prog 26 #[.pointer (some ⟨p,0,none⟩)] w fun e w'=>e=.returned (.tuple #[])/\R w':=by
 have H:Hid (Sb w p m ra va ma rc vc mc bm):=h
 have HAT:Hid _:=hat
 have HF:Hid _:=hf
 have hp:=h.lt
 clear h hat hf
 go_enter Tryz.func26,Tryz.ntmps26
 go_upto_region 1 with fail
 obtain ⟨X0,hX0⟩:∃ X,X=w.alloc (.cells #[.func (.func 62) #[] #[],.func (.func 63) #[] #[],.func (.func 64) #[] #[],.func (.func 65) #[] #[],.func (.func 66) #[] #[],.func (.func 67) #[] #[]] 103):=⟨_,rfl⟩
 obtain ⟨q,hq⟩:∃ q,q=w.heap.size:=⟨_,rfl⟩
 have K0:Kept (fun b=>b=p) w X0:=by rw [hX0];exact (Kept.refl _ _).alloc _
 have HK0:Hid (Kept (fun b=>b=p) w X0):=K0
 have H0:Hid (Sb X0 p m ra va ma rc vc mc bm):=by rw [hX0];exact Mf.alloc H.out _
 have HC0:Hid (X0.cell? ⟨q,4,none⟩=some (.func (.func 66) #[] #[])):=by show _=_;rw [hX0,hq,World.cell?_alloc_new];rfl
 have HQP:Hid (q≠p):=by show _≠_;rw [hq];omega
 rw [<- hX0,<- hq]
 clear hX0 hq K0 hp
 have c7:X0.cell? ⟨p,7,none⟩=some (.int .i64 m.steps):=H0.out.all.c7
 have z7:X0.frozen? ⟨p,7,none⟩=false:=H0.out.all.z7
 have hp:=H0.out.lt
 go_upto_region 2 with fail
 clear c7 z7 hp
 obtain ⟨Y,hY⟩:∃ Y,Y=X0.setCell ⟨p,7,none⟩ (.int .i64 (m.steps+1)):=⟨_,rfl⟩
 rw [<- hY]
 have KY:Kept (fun b=>b=p) X0 Y:=by rw [hY];exact (Kept.refl (fun b=>b=p) X0).setCell (p:=⟨p,7,none⟩) rfl _
 have HY:Hid (Sb Y p { m with steps:=m.steps+1 } ra va ma rc vc mc bm):=by rw [hY];exact H0.out.set 7 (.int .i64 (m.steps+1))
 have HKY:Hid (Kept (fun b=>b=p) w Y):=HK0.out.trans KY
 have HCY:Hid (Y.cell? ⟨q,4,none⟩=some (.func (.func 66) #[] #[])):=by
  have h1:X0.cell? ⟨q,4,none⟩=some (.func (.func 66) #[] #[]):=HC0.out
  show _=_
  rw [KY.cell (p:=⟨q,4,none⟩) (lt_of_cell h1) HQP.out]
  exact h1
 clear hY KY H0 HC0 HK0
 go_wp2_with fail
 refine Calls.mono (HAT.out Y HKY.out HY.out) ?_
 rintro _ x1 ⟨rfl,hb⟩
 have H1:Hid (Sb x1 p { m with steps:=m.steps+1 } ra va ma rc vc mc bm):=HY.out.below hb
 have HK1:Hid (Kept (fun b=>b=p) w x1):=HKY.out.trans (Kept.ofBelow hb)
 have d0:x1.cell? ⟨q,4,none⟩=some (.func (.func 66) #[] #[]):=by rw [hb.cell (p:=⟨q,4,none⟩) (lt_of_cell HCY.out)];exact HCY.out
 have hq:=lt_of_cell d0
 clear hb
 go_wp2_with fail
 refine Calls.mono (HF.out x1 HK1.out H1.out) ?_
 rintro _ x2 ⟨rfl,hr⟩
 have HR:Hid (R x2):=hr
 clear hr d0 hq
 go_wp2
 exact bodyPost_end (v:=.tuple #[]) (by simp [results,Tryz.results26,go_sem]) rfl ⟨rfl,HR.out⟩
theorem step_turn (w:World) (p:Nat) (m:Mc) (ra va ma:Option Addr) (rc vc mc bm:Nat) (R:World->Prop) (hst:0<=m.steps/\m.steps<=1000000000) (h:Sb w p m ra va ma rc vc mc bm)
 (hat:∀ W,Kept (fun b=>b=p) w W->Sb W p { m with steps:=m.steps+1 } ra va ma rc vc mc bm->Calls Tryz.prog 68 #[.pointer (some ⟨p,0,none⟩)] W fun e w'=>e=.returned (.int .i64 5)/\Below W.heap.size W w')
 (hf:∀ W,Kept (fun b=>b=p) w W->Sb W p { m with steps:=m.steps+1 } ra va ma rc vc mc bm->Calls Tryz.prog 67 #[.pointer (some ⟨p,0,none⟩)] W fun e w'=>e=.returned (.tuple #[])/\R w') :
 Calls Tryz.prog 26 #[.pointer (some ⟨p,0,none⟩)] w fun e w'=>e=.returned (.tuple #[])/\R w':=by
 have H:Hid (Sb w p m ra va ma rc vc mc bm):=h
 have HAT:Hid _:=hat
 have HF:Hid _:=hf
 have hp:=h.lt
 clear h hat hf
 go_enter Tryz.func26,Tryz.ntmps26
 go_upto_region 1 with fail
 obtain ⟨X0,hX0⟩:∃ X,X=w.alloc (.cells #[.func (.func 62) #[] #[],.func (.func 63) #[] #[],.func (.func 64) #[] #[],.func (.func 65) #[] #[],.func (.func 66) #[] #[],.func (.func 67) #[] #[]] 103):=⟨_,rfl⟩
 obtain ⟨q,hq⟩:∃ q,q=w.heap.size:=⟨_,rfl⟩
 have K0:Kept (fun b=>b=p) w X0:=by rw [hX0];exact (Kept.refl _ _).alloc _
 have HK0:Hid (Kept (fun b=>b=p) w X0):=K0
 have H0:Hid (Sb X0 p m ra va ma rc vc mc bm):=by rw [hX0];exact Mf.alloc H.out _
 have HC0:Hid (X0.cell? ⟨q,5,none⟩=some (.func (.func 67) #[] #[])):=by show _=_;rw [hX0,hq,World.cell?_alloc_new];rfl
 have HQP:Hid (q≠p):=by show _≠_;rw [hq];omega
 rw [<- hX0,<- hq]
 clear hX0 hq K0 hp
 have c7:X0.cell? ⟨p,7,none⟩=some (.int .i64 m.steps):=H0.out.all.c7
 have z7:X0.frozen? ⟨p,7,none⟩=false:=H0.out.all.z7
 have hp:=H0.out.lt
 go_upto_region 2 with fail
 clear c7 z7 hp
 obtain ⟨Y,hY⟩:∃ Y,Y=X0.setCell ⟨p,7,none⟩ (.int .i64 (m.steps+1)):=⟨_,rfl⟩
 rw [<- hY]
 have KY:Kept (fun b=>b=p) X0 Y:=by rw [hY];exact (Kept.refl (fun b=>b=p) X0).setCell (p:=⟨p,7,none⟩) rfl _
 have HY:Hid (Sb Y p { m with steps:=m.steps+1 } ra va ma rc vc mc bm):=by rw [hY];exact H0.out.set 7 (.int .i64 (m.steps+1))
 have HKY:Hid (Kept (fun b=>b=p) w Y):=HK0.out.trans KY
 have HCY:Hid (Y.cell? ⟨q,5,none⟩=some (.func (.func 67) #[] #[])):=by
  have h1:X0.cell? ⟨q,5,none⟩=some (.func (.func 67) #[] #[]):=HC0.out
  show _=_
  rw [KY.cell (p:=⟨q,5,none⟩) (lt_of_cell h1) HQP.out]
  exact h1
 clear hY KY H0 HC0 HK0
 go_wp2_with fail
 refine Calls.mono (HAT.out Y HKY.out HY.out) ?_
 rintro _ x1 ⟨rfl,hb⟩
 have H1:Hid (Sb x1 p { m with steps:=m.steps+1 } ra va ma rc vc mc bm):=HY.out.below hb
 have HK1:Hid (Kept (fun b=>b=p) w x1):=HKY.out.trans (Kept.ofBelow hb)
 have d0:x1.cell? ⟨q,5,none⟩=some (.func (.func 67) #[] #[]):=by rw [hb.cell (p:=⟨q,5,none⟩) (lt_of_cell HCY.out)];exact HCY.out
 have hq:=lt_of_cell d0
 clear hb
 go_wp2_with fail
 refine Calls.mono (HF.out x1 HK1.out H1.out) ?_
 rintro _ x2 ⟨rfl,hr⟩
 have HR:Hid (R x2):=hr
 clear hr d0 hq
 go_wp2
 exact bodyPost_end (v:=.tuple #[]) (by simp [results,Tryz.results26,go_sem]) rfl ⟨rfl,HR.out⟩
end Mw8
end Go.Proofs.YtjajkmdoggbicaaGreatDoor
