import Derived.Test.YtladjpombohpaaaGreatDoorMu3
namespace Go.Proofs.YtladjpombohpaaaGreatDoor
set_option maxRecDepth 100000
set_option maxHeartbeats 8000000
set_option linter.unusedVariables false
namespace Mu4
open Go.RowKit
open Nd0 (Kept Ints lt_of_cell At)
open Ap0 Ap1 Qc0 Qc2 Cl0 Mm0 Mx0 Mu1 Mu2
open Ta0 Ta1 Ta2 Ta3 Tc2 Tc5 Td1 Td2 Td4 Mc0 Mm1
open Tk0 (keyL sKey)
open Ss0 (bs bs_size)
theorem sUpEnd (m:Mc) (ra va ma:Option Addr) (rc vc mc:Nat) (B:Nat) (w:World) (hv:m.vals=[]) (h:MO w B m ra va ma rc vc mc) :
 Calls Tryz.prog 93 #[mval m ra va ma rc vc mc] w fun e w'=>∃ ra' va' ma' rc' vc' mc',e=.returned (mval { m with over:=true } ra' va' ma' rc' vc' mc')/\MO w' B { m with over:=true } ra' va' ma' rc' vc' mc'/\Kept (fun b=>At va b\/At ma b) w w'/\FR w ra va ma ra' va' ma':=by
 have HM0:Hid (MO w B m ra va ma rc vc mc):=h
 have HQ:Hid ((∀ x,ra=some x->x.block < w.heap.size)/\(∀ x,va=some x->x.block < w.heap.size)/\(∀ x,ma=some x->x.block < w.heap.size)):=Mu3.MO.lts h
 have HVL:Hid (m.vals.length=0):=by show _=_;rw [hv];rfl
 clear h hv
 obtain ⟨X0,hX0⟩:∃ X0,X0=((w.alloc (.cells #[.slice ra m.row.length rc,.int .i64 m.N,.string m.S,.int .i64 m.room,.slice va m.vals.length vc,.int .i64 m.ret,.bool m.over,.int .i64 m.steps,.int .i64 m.looks,.int .i64 m.hits,.slice ma m.memo.length mc] 35)).alloc (.cells #[.slice none 0 0,.int .i64 0,.string ⟨#[]⟩,.int .i64 0,.slice none 0 0,.int .i64 0,.bool false,.int .i64 0,.int .i64 0,.int .i64 0,.slice none 0 0] 35)):=⟨_,rfl⟩
 have HE0:Hid (((w.alloc (.cells #[.slice ra m.row.length rc,.int .i64 m.N,.string m.S,.int .i64 m.room,.slice va m.vals.length vc,.int .i64 m.ret,.bool m.over,.int .i64 m.steps,.int .i64 m.looks,.int .i64 m.hits,.slice ma m.memo.length mc] 35)).alloc (.cells #[.slice none 0 0,.int .i64 0,.string ⟨#[]⟩,.int .i64 0,.slice none 0 0,.int .i64 0,.bool false,.int .i64 0,.int .i64 0,.int .i64 0,.slice none 0 0] 35))=X0):=hX0.symm
 have HB0:Hid (Below w.heap.size w X0):=by rw [hX0];exact ((Below.refl _ _).alloc (Nat.le_refl _) _).alloc (by simp) _
 have HA0:Hid (Mf X0 (w.heap.size) [.slice ra m.row.length rc,.int .i64 m.N,.string m.S,.int .i64 m.room,.slice va m.vals.length vc,.int .i64 m.ret,.bool m.over,.int .i64 m.steps,.int .i64 m.looks,.int .i64 m.hits,.slice ma m.memo.length mc]):=by rw [hX0];exact (Mf.made _ _ _).alloc _
 have HZ0:Hid (Mf X0 (w.heap.size+1) [.slice none 0 0,.int .i64 0,.string ⟨#[]⟩,.int .i64 0,.slice none 0 0,.int .i64 0,.bool false,.int .i64 0,.int .i64 0,.int .i64 0,.slice none 0 0]):=by
  have h1:=Mf.made (w.alloc (.cells #[.slice ra m.row.length rc,.int .i64 m.N,.string m.S,.int .i64 m.room,.slice va m.vals.length vc,.int .i64 m.ret,.bool m.over,.int .i64 m.steps,.int .i64 m.looks,.int .i64 m.hits,.slice ma m.memo.length mc] 35)) #[.slice none 0 0,.int .i64 0,.string ⟨#[]⟩,.int .i64 0,.slice none 0 0,.int .i64 0,.bool false,.int .i64 0,.int .i64 0,.int .i64 0,.slice none 0 0] 35
  have h2:(w.alloc (.cells #[.slice ra m.row.length rc,.int .i64 m.N,.string m.S,.int .i64 m.room,.slice va m.vals.length vc,.int .i64 m.ret,.bool m.over,.int .i64 m.steps,.int .i64 m.looks,.int .i64 m.hits,.slice ma m.memo.length mc] 35)).heap.size=w.heap.size+1:=by simp
  rw [h2,<- hX0] at h1
  exact h1
 have HS0:Hid (w.heap.size+2<=X0.heap.size):=by show _<=_;rw [hX0];simp
 clear hX0
 have HB_X0:Hid (Below w.heap.size w X0):=HB0.out
 have HA_X0:Hid (Mf X0 (w.heap.size) [.slice ra m.row.length rc,.int .i64 m.N,.string m.S,.int .i64 m.room,.slice va m.vals.length vc,.int .i64 m.ret,.bool m.over,.int .i64 m.steps,.int .i64 m.looks,.int .i64 m.hits,.slice ma m.memo.length mc]):=HA0.out
 have HZ_X0:Hid (Mf X0 (w.heap.size+1) [.slice none 0 0,.int .i64 0,.string ⟨#[]⟩,.int .i64 0,.slice none 0 0,.int .i64 0,.bool false,.int .i64 0,.int .i64 0,.int .i64 0,.slice none 0 0]):=HZ0.out
 have HM_X0:Hid (MO X0 B m ra va ma rc vc mc):=HM0.out.below HB0.out
 clear HB0 HA0 HZ0
 go_enter Tryz.func93,Tryz.ntmps93
 go_upto_region 1 with fail
 rw [HE0.out]
 clear HE0
 obtain ⟨c0,c1,c2,c3,c4,c5,c6,c7,c8,c9,c10,y0,y1,y2,y3,y4,y5,y6,y7,y8,y9,y10⟩:=HA_X0.out.all
 rw [HVL.out] at c4
 go_upto_region 4 with fail
 clear c0 c1 c2 c3 c4 c5 c6 c7 c8 c9 c10 y0 y1 y2 y3 y4 y5 y6 y7 y8 y9 y10
 obtain ⟨Y,hY⟩:∃ Y,Y=(X0).setCell ⟨w.heap.size,6,none⟩ (.bool true):=⟨_,rfl⟩
 rw [<- hY]
 have KY:Kept (fun b=>b=w.heap.size) X0 Y:=by rw [hY];exact ((Kept.refl (fun b=>b=w.heap.size) X0)).setCell (p:=⟨w.heap.size,6,none⟩) rfl _
 have HAY:Mf Y (w.heap.size) [.slice ra m.row.length rc,.int .i64 m.N,.string m.S,.int .i64 m.room,.slice va m.vals.length vc,.int .i64 m.ret,.bool true,.int .i64 m.steps,.int .i64 m.looks,.int .i64 m.hits,.slice ma m.memo.length mc]:=by
  rw [hY]
  exact (HA_X0.out.set 6 (.bool true))
 have HZY:Hid (Mf Y (w.heap.size+1) [.slice none 0 0,.int .i64 0,.string ⟨#[]⟩,.int .i64 0,.slice none 0 0,.int .i64 0,.bool false,.int .i64 0,.int .i64 0,.int .i64 0,.slice none 0 0]):=HZ_X0.out.kept KY (by omega)
 have HKY:Hid (Kept (fun b=>b=w.heap.size) X0 Y):=KY
 obtain ⟨c0,c1,c2,c3,c4,c5,c6,c7,c8,c9,c10,y0,y1,y2,y3,y4,y5,y6,y7,y8,y9,y10⟩:=HAY.all
 obtain ⟨d0,d1,d2,d3,d4,d5,d6,d7,d8,d9,d10,z0,z1,z2,z3,z4,z5,z6,z7,z8,z9,z10⟩:=HZY.out.all
 clear HAY hY KY
 go_wp2
 clear c0 c1 c2 c3 c4 c5 c6 c7 c8 c9 c10 y0 y1 y2 y3 y4 y5 y6 y7 y8 y9 y10 d0 d1 d2 d3 d4 d5 d6 d7 d8 d9 d10 z0 z1 z2 z3 z4 z5 z6 z7 z8 z9 z10
 obtain ⟨WF,hWF⟩:∃ WF,WF=(((((((((((Y).setCell ⟨w.heap.size+1,0,none⟩ (.slice ra m.row.length rc)).setCell ⟨w.heap.size+1,1,none⟩ (.int .i64 m.N)).setCell ⟨w.heap.size+1,2,none⟩ (.string m.S)).setCell ⟨w.heap.size+1,3,none⟩ (.int .i64 m.room)).setCell ⟨w.heap.size+1,4,none⟩ (.slice va m.vals.length vc)).setCell ⟨w.heap.size+1,5,none⟩ (.int .i64 m.ret)).setCell ⟨w.heap.size+1,6,none⟩ (.bool true)).setCell ⟨w.heap.size+1,7,none⟩ (.int .i64 m.steps)).setCell ⟨w.heap.size+1,8,none⟩ (.int .i64 m.looks)).setCell ⟨w.heap.size+1,9,none⟩ (.int .i64 m.hits)).setCell ⟨w.heap.size+1,10,none⟩ (.slice ma m.memo.length mc):=⟨_,rfl⟩
 rw [<- hWF]
 have KF:Kept (fun b=>b=w.heap.size\/b=w.heap.size+1) X0 WF:=by rw [hWF];exact ((((((((((((HKY.out.mono (fun b hb=>.inl hb):Kept (fun b=>b=w.heap.size\/b=w.heap.size+1) X0 Y)).setCell (p:=⟨w.heap.size+1,0,none⟩) (.inr rfl) _).setCell (p:=⟨w.heap.size+1,1,none⟩) (.inr rfl) _).setCell (p:=⟨w.heap.size+1,2,none⟩) (.inr rfl) _).setCell (p:=⟨w.heap.size+1,3,none⟩) (.inr rfl) _).setCell (p:=⟨w.heap.size+1,4,none⟩) (.inr rfl) _).setCell (p:=⟨w.heap.size+1,5,none⟩) (.inr rfl) _).setCell (p:=⟨w.heap.size+1,6,none⟩) (.inr rfl) _).setCell (p:=⟨w.heap.size+1,7,none⟩) (.inr rfl) _).setCell (p:=⟨w.heap.size+1,8,none⟩) (.inr rfl) _).setCell (p:=⟨w.heap.size+1,9,none⟩) (.inr rfl) _).setCell (p:=⟨w.heap.size+1,10,none⟩) (.inr rfl) _
 have HF:Mf WF (w.heap.size+1) [.slice ra m.row.length rc,.int .i64 m.N,.string m.S,.int .i64 m.room,.slice va m.vals.length vc,.int .i64 m.ret,.bool true,.int .i64 m.steps,.int .i64 m.looks,.int .i64 m.hits,.slice ma m.memo.length mc]:=by
  rw [hWF]
  exact (((((((((((HZY.out.set 0 (.slice ra m.row.length rc)).set 1 (.int .i64 m.N)).set 2 (.string m.S)).set 3 (.int .i64 m.room)).set 4 (.slice va m.vals.length vc)).set 5 (.int .i64 m.ret)).set 6 (.bool true)).set 7 (.int .i64 m.steps)).set 8 (.int .i64 m.looks)).set 9 (.int .i64 m.hits)).set 10 (.slice ma m.memo.length mc))
 obtain ⟨c0,c1,c2,c3,c4,c5,c6,c7,c8,c9,c10,y0,y1,y2,y3,y4,y5,y6,y7,y8,y9,y10⟩:=HF.all
 clear hWF
 have hq:=HQ.out
 have mo:MO WF B m ra va ma rc vc mc:=HM_X0.out.kept KF (fun x hx h=>by have:=hq.1 x hx;omega) (fun x hx h=>by have:=hq.2.1 x hx;omega) (fun x hx h=>by have:=hq.2.2 x hx;omega)
 have fb:Below w.heap.size w WF:=HB_X0.out.trans (KF.below (fun b hb=>by omega) HB_X0.out.size)
 refine bodyPost_ret (v:=mval ({ m with over:=true }) ra va ma rc vc mc) (by simp [results,Tryz.results93,go_sem,c0,c1,c2,c3,c4,c5,c6,c7,c8,c9,c10]) rfl ?_
 exact ⟨ra,va,ma,rc,vc,mc,rfl,⟨mo.row,mo.vals,mo.memo,mo.rv,mo.rm,mo.vm⟩,Kept.ofBelow fb,FR.refl _ _ _ _⟩
/-- A shorter list of one's own; one of its numbers written. -/
theorem ows_take {w:World} {B g c:Nat} {l:List Int} (h:Ows w B (.slice (some ⟨g,0,none⟩) l.length c) l) (d:Nat) (hd:d<=l.length):Ows w B (.slice (some ⟨g,0,none⟩) (l.take d).length c) (l.take d):=by
 have hl:(l.take d).length=d:=by rw [List.length_take];omega
 refine ⟨by rw [List.length_map,Nat.mul_one],?_⟩
 rcases h.2 with ⟨e,_⟩|⟨g',cap,cur,e,hb,hg,hn,hm,hs,ht⟩
 ·cases e
 ·cases e
  refine .inr ⟨g,c,cur,rfl,hb,hg,by omega,hm,hs,?_⟩
  rw [Nat.mul_one] at ht ⊢
  rw [hl,List.map_take,<- ht,List.take_take,Nat.min_eq_left hd]
theorem ows_set {w:World} {B g c:Nat} {l:List Int} (h:Ows w B (.slice (some ⟨g,0,none⟩) l.length c) l) (j:Nat) (x:Int):Ows (w.setCell ⟨g,j,none⟩ (.int .i64 x)) B (.slice (some ⟨g,0,none⟩) (l.set j x).length c) (l.set j x):=by
 have h1:=(World.ownsRow.stored h j (.int .i64 x)).1
 unfold Ows
 rw [List.map_set,List.length_set]
 exact h1
theorem ows_cap {w:World} {B g c:Nat} {l:List Int} (h:Ows w B (.slice (some ⟨g,0,none⟩) l.length c) l):l.length<=c:=by
 rcases h.2 with ⟨e,_⟩|⟨g',cap,cur,e,hb,hg,hn,_⟩
 ·cases e
 ·cases e;exact hn
theorem sUpTurn (vl:List Int) (d:Bool) (m:Mc) (ra va ma:Option Addr) (rc vc mc:Nat) (B:Nat) (w:World) (hv:m.vals=vl++[0]) (hl:vl.length<=12) (hrl:vl.length < m.row.length) (hd:m.row[vl.length]=d) (ht:(m.ret==0) = !d) (h:MO w B m ra va ma rc vc mc) :
 Calls Tryz.prog 93 #[mval m ra va ma rc vc mc] w fun e w'=>∃ ra' va' ma' rc' vc' mc',e=.returned (mval { m with vals:=vl++[1],ret := -1 } ra' va' ma' rc' vc' mc')/\MO w' B { m with vals:=vl++[1],ret := -1 } ra' va' ma' rc' vc' mc'/\Kept (fun b=>At va b\/At ma b) w w'/\FR w ra va ma ra' va' ma':=by
 have HM0:Hid (MO w B m ra va ma rc vc mc):=h
 have HQ:Hid ((∀ x,ra=some x->x.block < w.heap.size)/\(∀ x,va=some x->x.block < w.heap.size)/\(∀ x,ma=some x->x.block < w.heap.size)):=Mu3.MO.lts h
 have hvl:m.vals.length=vl.length+1:=by rw [hv,List.length_append];rfl
 obtain ⟨g,c0v,hva⟩:∃ g c0v,Value.slice va m.vals.length vc=.slice (some ⟨g,0,none⟩) m.vals.length c0v:=by
  rcases h.vals.2 with ⟨e,e2⟩|⟨g,cap,cur,e,_⟩
  ·omega
  ·exact ⟨g,cap,e⟩
 have hva1:va=some ⟨g,0,none⟩:=by cases hva;rfl
 clear hva
 have hov:=h.vals
 rw [hva1] at hov
 have hcell:=(World.ownsRow.cellAt (w:=w) hov vl.length (by omega)).trans (by rw [hv];simp:_=some (.int .i64 0))
 obtain ⟨xb,xo,hra,hrc⟩:∃ xb xo,ra=some ⟨xb,xo,none⟩/\w.cell? ⟨xb,xo+vl.length,none⟩=some (.bool d):=by
  rcases h.mr.row.2 with e|⟨xb,xo,e,hc⟩
  ·omega
  ·exact ⟨xb,xo,e,by rw [<- hd];exact hc _ hrl⟩
 have HVA:Hid (va=some ⟨g,0,none⟩):=hva1
 have HRA:Hid (ra=some ⟨xb,xo,none⟩):=hra
 have HVV:Hid (m.vals=vl++[0]):=hv
 have HVLN:Hid (m.vals.length=vl.length+1):=hvl
 have hzz:w.frozen? ⟨g,vl.length,none⟩=false:=World.ownsRow.frozenAt hov _
 have HCL:Hid (∀ W,Below w.heap.size w W->W.cell? ⟨g,vl.length,none⟩=some (.int .i64 0)/\W.frozen? ⟨g,vl.length,none⟩=false/\W.cell? ⟨xb,xo+vl.length,none⟩=some (.bool d)):=fun W hb=>⟨by rw [hb.cell (lt_of_cell hcell)];exact hcell,by rw [hb.frozen (p:=⟨g,vl.length,none⟩) (lt_of_cell hcell)];exact hzz,by rw [hb.cell (lt_of_cell hrc)];exact hrc⟩
 clear h hcell hrc hzz hd hov hva1 hra hv hvl
 obtain ⟨X0,hX0⟩:∃ X0,X0=((w.alloc (.cells #[.slice ra m.row.length rc,.int .i64 m.N,.string m.S,.int .i64 m.room,.slice va m.vals.length vc,.int .i64 m.ret,.bool m.over,.int .i64 m.steps,.int .i64 m.looks,.int .i64 m.hits,.slice ma m.memo.length mc] 35)).alloc (.cells #[.slice none 0 0,.int .i64 0,.string ⟨#[]⟩,.int .i64 0,.slice none 0 0,.int .i64 0,.bool false,.int .i64 0,.int .i64 0,.int .i64 0,.slice none 0 0] 35)):=⟨_,rfl⟩
 have HE0:Hid (((w.alloc (.cells #[.slice ra m.row.length rc,.int .i64 m.N,.string m.S,.int .i64 m.room,.slice va m.vals.length vc,.int .i64 m.ret,.bool m.over,.int .i64 m.steps,.int .i64 m.looks,.int .i64 m.hits,.slice ma m.memo.length mc] 35)).alloc (.cells #[.slice none 0 0,.int .i64 0,.string ⟨#[]⟩,.int .i64 0,.slice none 0 0,.int .i64 0,.bool false,.int .i64 0,.int .i64 0,.int .i64 0,.slice none 0 0] 35))=X0):=hX0.symm
 have HB0:Hid (Below w.heap.size w X0):=by rw [hX0];exact ((Below.refl _ _).alloc (Nat.le_refl _) _).alloc (by simp) _
 have HA0:Hid (Mf X0 (w.heap.size) [.slice ra m.row.length rc,.int .i64 m.N,.string m.S,.int .i64 m.room,.slice va m.vals.length vc,.int .i64 m.ret,.bool m.over,.int .i64 m.steps,.int .i64 m.looks,.int .i64 m.hits,.slice ma m.memo.length mc]):=by rw [hX0];exact (Mf.made _ _ _).alloc _
 have HZ0:Hid (Mf X0 (w.heap.size+1) [.slice none 0 0,.int .i64 0,.string ⟨#[]⟩,.int .i64 0,.slice none 0 0,.int .i64 0,.bool false,.int .i64 0,.int .i64 0,.int .i64 0,.slice none 0 0]):=by
  have h1:=Mf.made (w.alloc (.cells #[.slice ra m.row.length rc,.int .i64 m.N,.string m.S,.int .i64 m.room,.slice va m.vals.length vc,.int .i64 m.ret,.bool m.over,.int .i64 m.steps,.int .i64 m.looks,.int .i64 m.hits,.slice ma m.memo.length mc] 35)) #[.slice none 0 0,.int .i64 0,.string ⟨#[]⟩,.int .i64 0,.slice none 0 0,.int .i64 0,.bool false,.int .i64 0,.int .i64 0,.int .i64 0,.slice none 0 0] 35
  have h2:(w.alloc (.cells #[.slice ra m.row.length rc,.int .i64 m.N,.string m.S,.int .i64 m.room,.slice va m.vals.length vc,.int .i64 m.ret,.bool m.over,.int .i64 m.steps,.int .i64 m.looks,.int .i64 m.hits,.slice ma m.memo.length mc] 35)).heap.size=w.heap.size+1:=by simp
  rw [h2,<- hX0] at h1
  exact h1
 have HS0:Hid (w.heap.size+2<=X0.heap.size):=by show _<=_;rw [hX0];simp
 clear hX0
 have HB_X0:Hid (Below w.heap.size w X0):=HB0.out
 have HA_X0:Hid (Mf X0 (w.heap.size) [.slice ra m.row.length rc,.int .i64 m.N,.string m.S,.int .i64 m.room,.slice va m.vals.length vc,.int .i64 m.ret,.bool m.over,.int .i64 m.steps,.int .i64 m.looks,.int .i64 m.hits,.slice ma m.memo.length mc]):=HA0.out
 have HZ_X0:Hid (Mf X0 (w.heap.size+1) [.slice none 0 0,.int .i64 0,.string ⟨#[]⟩,.int .i64 0,.slice none 0 0,.int .i64 0,.bool false,.int .i64 0,.int .i64 0,.int .i64 0,.slice none 0 0]):=HZ0.out
 have HM_X0:Hid (MO X0 B m ra va ma rc vc mc):=HM0.out.below HB0.out
 clear HB0 HA0 HZ0
 go_enter Tryz.func93,Tryz.ntmps93
 go_upto_region 1 with fail
 rw [HE0.out]
 clear HE0
 obtain ⟨c0,c1,c2,c3,c4,c5,c6,c7,c8,c9,c10,y0,y1,y2,y3,y4,y5,y6,y7,y8,y9,y10⟩:=HA_X0.out.all
 obtain ⟨k1,k2,k3⟩:=HCL.out X0 HB_X0.out
 rw [HVLN.out,HVA.out] at c4
 rw [HRA.out] at c0
 have hgl:g < X0.heap.size:=lt_of_cell k1
 have hgw:g < w.heap.size:=HQ.out.2.1 _ HVA.out
 have hgn:¬ g=w.heap.size:=by omega
 have hgn2:¬ w.heap.size=g:=by omega
 have hrz:(vl.length:Int) < (m.row.length:Int):=by omega
 cases d
 all_goals
  simp only [Bool.not_true,Bool.not_false] at ht
  go_wp2
  go_quiet (fail)
  go_upto_region 8 with fail
  clear c0 c1 c2 c3 c4 c5 c6 c7 c8 c9 c10 y0 y1 y2 y3 y4 y5 y6 y7 y8 y9 y10 k1 k2 k3 ht hgl hgn hgn2 hrz
  obtain ⟨Y0,hY0⟩:∃ Y,Y=(X0.drewN nq).setCell ⟨g,vl.length,none⟩ (.int .i64 1):=⟨_,rfl⟩
  rw [<- hY0]
  have KD:Kept (fun b=>b=g) X0 (X0.drewN nq):=(Kept.refl _ _).drewN nq
  have K0:Kept (fun b=>b=g) X0 Y0:=by rw [hY0];exact KD.setCell (p:=⟨g,vl.length,none⟩) rfl _
  have HA_Y0:Hid (Mf Y0 (w.heap.size) [.slice ra m.row.length rc,.int .i64 m.N,.string m.S,.int .i64 m.room,.slice va m.vals.length vc,.int .i64 m.ret,.bool m.over,.int .i64 m.steps,.int .i64 m.looks,.int .i64 m.hits,.slice ma m.memo.length mc]):=HA_X0.out.kept K0 (by omega)
  have HZ_Y0:Hid (Mf Y0 (w.heap.size+1) [.slice none 0 0,.int .i64 0,.string ⟨#[]⟩,.int .i64 0,.slice none 0 0,.int .i64 0,.bool false,.int .i64 0,.int .i64 0,.int .i64 0,.slice none 0 0]):=HZ_X0.out.kept K0 (by omega)
  have HK0:Hid (Kept (fun b=>b=g) X0 Y0):=K0
  have HOV:Hid (Ows Y0 B (.slice va (vl++[1]).length vc) (vl++[1])):=by
   have hs:m.vals.set vl.length 1=vl++[1]:=by rw [HVV.out];simp
   have h1:=HM_X0.out.vals
   rw [HVA.out] at h1
   have h2:Ows (X0.drewN nq) B (.slice (some ⟨g,0,none⟩) m.vals.length vc) m.vals:=h1.kept (S:=fun _=>False) ((Kept.refl _ _).drewN nq) (fun _ _ h=>h)
   have h3:=ows_set h2 vl.length 1
   rw [hs] at h3
   rw [HVA.out,hY0]
   exact h3
  clear K0 KD hY0
  obtain ⟨Y,hY⟩:∃ Y,Y=(Y0).setCell ⟨w.heap.size,5,none⟩ (.int .i64 (-1)):=⟨_,rfl⟩
  rw [<- hY]
  have KY:Kept (fun b=>b=w.heap.size) Y0 Y:=by rw [hY];exact ((Kept.refl (fun b=>b=w.heap.size) Y0)).setCell (p:=⟨w.heap.size,5,none⟩) rfl _
  have HAY:Mf Y (w.heap.size) [.slice ra m.row.length rc,.int .i64 m.N,.string m.S,.int .i64 m.room,.slice va m.vals.length vc,.int .i64 (-1),.bool m.over,.int .i64 m.steps,.int .i64 m.looks,.int .i64 m.hits,.slice ma m.memo.length mc]:=by
   rw [hY]
   exact (HA_Y0.out.set 5 (.int .i64 (-1)))
  have HZY:Hid (Mf Y (w.heap.size+1) [.slice none 0 0,.int .i64 0,.string ⟨#[]⟩,.int .i64 0,.slice none 0 0,.int .i64 0,.bool false,.int .i64 0,.int .i64 0,.int .i64 0,.slice none 0 0]):=HZ_Y0.out.kept KY (by omega)
  have HKY:Hid (Kept (fun b=>b=w.heap.size) Y0 Y):=KY
  obtain ⟨c0,c1,c2,c3,c4,c5,c6,c7,c8,c9,c10,y0,y1,y2,y3,y4,y5,y6,y7,y8,y9,y10⟩:=HAY.all
  obtain ⟨d0,d1,d2,d3,d4,d5,d6,d7,d8,d9,d10,z0,z1,z2,z3,z4,z5,z6,z7,z8,z9,z10⟩:=HZY.out.all
  clear HAY hY KY
  go_wp2
  clear c0 c1 c2 c3 c4 c5 c6 c7 c8 c9 c10 y0 y1 y2 y3 y4 y5 y6 y7 y8 y9 y10 d0 d1 d2 d3 d4 d5 d6 d7 d8 d9 d10 z0 z1 z2 z3 z4 z5 z6 z7 z8 z9 z10
  obtain ⟨WF,hWF⟩:∃ WF,WF=(((((((((((Y).setCell ⟨w.heap.size+1,0,none⟩ (.slice ra m.row.length rc)).setCell ⟨w.heap.size+1,1,none⟩ (.int .i64 m.N)).setCell ⟨w.heap.size+1,2,none⟩ (.string m.S)).setCell ⟨w.heap.size+1,3,none⟩ (.int .i64 m.room)).setCell ⟨w.heap.size+1,4,none⟩ (.slice va m.vals.length vc)).setCell ⟨w.heap.size+1,5,none⟩ (.int .i64 (-1))).setCell ⟨w.heap.size+1,6,none⟩ (.bool m.over)).setCell ⟨w.heap.size+1,7,none⟩ (.int .i64 m.steps)).setCell ⟨w.heap.size+1,8,none⟩ (.int .i64 m.looks)).setCell ⟨w.heap.size+1,9,none⟩ (.int .i64 m.hits)).setCell ⟨w.heap.size+1,10,none⟩ (.slice ma m.memo.length mc):=⟨_,rfl⟩
  rw [<- hWF]
  have KF:Kept (fun b=>b=w.heap.size\/b=w.heap.size+1) Y0 WF:=by rw [hWF];exact ((((((((((((HKY.out.mono (fun b hb=>.inl hb):Kept (fun b=>b=w.heap.size\/b=w.heap.size+1) Y0 Y)).setCell (p:=⟨w.heap.size+1,0,none⟩) (.inr rfl) _).setCell (p:=⟨w.heap.size+1,1,none⟩) (.inr rfl) _).setCell (p:=⟨w.heap.size+1,2,none⟩) (.inr rfl) _).setCell (p:=⟨w.heap.size+1,3,none⟩) (.inr rfl) _).setCell (p:=⟨w.heap.size+1,4,none⟩) (.inr rfl) _).setCell (p:=⟨w.heap.size+1,5,none⟩) (.inr rfl) _).setCell (p:=⟨w.heap.size+1,6,none⟩) (.inr rfl) _).setCell (p:=⟨w.heap.size+1,7,none⟩) (.inr rfl) _).setCell (p:=⟨w.heap.size+1,8,none⟩) (.inr rfl) _).setCell (p:=⟨w.heap.size+1,9,none⟩) (.inr rfl) _).setCell (p:=⟨w.heap.size+1,10,none⟩) (.inr rfl) _
  have HF:Mf WF (w.heap.size+1) [.slice ra m.row.length rc,.int .i64 m.N,.string m.S,.int .i64 m.room,.slice va m.vals.length vc,.int .i64 (-1),.bool m.over,.int .i64 m.steps,.int .i64 m.looks,.int .i64 m.hits,.slice ma m.memo.length mc]:=by
   rw [hWF]
   exact (((((((((((HZY.out.set 0 (.slice ra m.row.length rc)).set 1 (.int .i64 m.N)).set 2 (.string m.S)).set 3 (.int .i64 m.room)).set 4 (.slice va m.vals.length vc)).set 5 (.int .i64 (-1))).set 6 (.bool m.over)).set 7 (.int .i64 m.steps)).set 8 (.int .i64 m.looks)).set 9 (.int .i64 m.hits)).set 10 (.slice ma m.memo.length mc))
  obtain ⟨c0,c1,c2,c3,c4,c5,c6,c7,c8,c9,c10,y0,y1,y2,y3,y4,y5,y6,y7,y8,y9,y10⟩:=HF.all
  clear hWF
  have hq:=HQ.out
  have k0:=HK0.out
  have hva:=HVA.out
  have hs0:=k0.size
  have fv:Ows WF B (.slice va (vl++[1]).length vc) (vl++[1]):=HOV.out.kept KF (fun i hi h=>by
   have h9:g < w.heap.size:=hq.2.1 _ hva
   rw [hva] at hi
   simp [Value.ownBlock] at hi
   omega)
  have fr:Owb WF B (.slice ra m.row.length rc) m.row:=(HM_X0.out.row.kept k0 (fun i hi h=>by
   cases ra with
   | none=>cases hi
   | some x =>
     simp [Value.ownBlock] at hi
     exact HM_X0.out.rv x _ rfl hva (by show x.block=g;omega))).kept KF (fun i hi h=>by
   cases ra with
   | none=>cases hi
   | some x =>
     have:=hq.1 x rfl
     simp [Value.ownBlock] at hi
     omega)
  have fm:OwSn WF B (.slice ma m.memo.length mc) m.memo:=(HM_X0.out.memo.kept k0 (fun i hi h=>by
   cases ma with
   | none=>cases hi
   | some x =>
     simp [Value.ownBlock] at hi
     exact HM_X0.out.vm _ x hva rfl (by show g=x.block;omega))).kept KF (fun i hi h=>by
   cases ma with
   | none=>cases hi
   | some x =>
     have:=hq.2.2 x rfl
     simp [Value.ownBlock] at hi
     omega)
  have k3:Kept (fun b=>At va b\/At ma b) w Y0:=(Kept.ofBelow HB_X0.out).trans (k0.mono (fun b hb=>.inl ⟨_,hva,hb⟩))
  refine bodyPost_ret (v:=mval ({ m with vals:=vl++[1],ret := -1 }) ra va ma rc vc mc) (by simp [results,Tryz.results93,go_sem,HVLN.out,c0,c1,c2,c3,c4,c5,c6,c7,c8,c9,c10]) rfl ?_
  exact ⟨ra,va,ma,rc,vc,mc,rfl,⟨fr,fv,fm,HM_X0.out.rv,HM_X0.out.rm,HM_X0.out.vm⟩,⟨KF.os.trans k3.os,KF.tape.trans k3.tape,KF.output.trans k3.output,Nat.le_trans k3.size KF.size,fun i hi hne=>(KF.block i (Nat.lt_of_lt_of_le hi k3.size) (fun h=>by omega)).trans (k3.block i hi hne)⟩,FR.refl _ _ _ _⟩
end Mu4
namespace Mw1
open Go.RowKit
open Nd0 (Kept Ints lt_of_cell At)
open Ap0 Mm0 Mx0 Mu2 Mu4 Mw0
theorem iTurn (vl:List Int) (w:World) (p B g:Nat) (m:Mc) (ra va ma:Option Addr) (rc vc mc bm:Nat) (hv:m.vals=vl++[0]) (hl:vl.length<=12) (hva:va=some ⟨g,0,none⟩) (hpg:p≠g) (ho:Ows w B (.slice va m.vals.length vc) m.vals) (h:Sb w p m ra va ma rc vc mc bm) :
 Calls Tryz.prog 207 #[.pointer (some ⟨p,0,none⟩)] w fun e w'=>e=.returned (.tuple #[])/\Sb w' p { m with vals:=vl++[1],ret := -1 } ra va ma rc vc mc bm/\Ows w' B (.slice va (vl++[1]).length vc) (vl++[1])/\Kept (fun b=>b=p\/b=g) w w':=by
 have H:Hid (Sb w p m ra va ma rc vc mc bm):=h
 have hvl:m.vals.length=vl.length+1:=by rw [hv,List.length_append];rfl
 have ho2:=ho
 rw [hva] at ho2
 have hcell:=(World.ownsRow.cellAt (w:=w) ho2 vl.length (by omega)).trans (by rw [hv];simp:_=some (.int .i64 0))
 have hzz:w.frozen? ⟨g,vl.length,none⟩=false:=World.ownsRow.frozenAt ho2 _
 have HO:Hid (Ows w B (.slice (some ⟨g,0,none⟩) m.vals.length vc) m.vals):=ho2
 have HVV:Hid (m.vals=vl++[0]):=hv
 have HVLN:Hid (m.vals.length=vl.length+1):=hvl
 have HVA:Hid (va=some ⟨g,0,none⟩):=hva
 obtain ⟨c0,c1,c2,c3,c4,c5,c6,c7,c8,c9,c10,c11,z0,z1,z2,z3,z4,z5,z6,z7,z8,z9,z10,z11⟩:=h.all
 rw [hvl,hva] at c4
 have hp:=H.out.lt
 have hg:=lt_of_cell hcell
 have hgp:¬ g=p:=fun e=>hpg e.symm
 have hpg2:¬ p=g:=hpg
 clear h ho ho2 hv hvl hva
 clear c0 c1 c2 c3 c6 c7 c8 c9 c10 c11 z0 z1 z2 z3 z4 z6 z7 z8 z9 z10 z11
 go_enter Tryz.func207,Tryz.ntmps207
 go_wp2_with fail
 go_region
 obtain ⟨Y,hY⟩:∃ Y,Y=(w.setCell ⟨g,vl.length,none⟩ (.int .i64 1)).drew:=⟨_,rfl⟩
 have KY:Kept (fun b=>b=g) w Y:=by rw [hY];exact ((Kept.refl (fun b=>b=g) w).setCell (p:=⟨g,vl.length,none⟩) rfl _).drew
 rw [<- hY]
 have HY:Hid (Sb Y p m ra va ma rc vc mc bm):=H.out.kept KY (fun e=>hpg e)
 have HKY:Hid (Kept (fun b=>b=g) w Y):=KY
 have HOY:Hid (Ows Y B (.slice va (vl++[1]).length vc) (vl++[1])):=by
  have hs:m.vals.set vl.length 1=vl++[1]:=by rw [HVV.out];simp
  have h3:=ows_set HO.out vl.length 1
  rw [hs] at h3
  rw [HVA.out,hY]
  exact h3.kept (S:=fun _=>False) (Kept.refl _ _).drew (fun _ _ h=>h)
 clear KY hY c4 c5 z5 hcell hzz hg
 obtain ⟨c0,c1,c2,c3,c4,c5,c6,c7,c8,c9,c10,c11,z0,z1,z2,z3,z4,z5,z6,z7,z8,z9,z10,z11⟩:=HY.out.all
 have hp2:=HY.out.lt
 clear c0 c1 c2 c3 c4 c6 c7 c8 c9 c10 c11 z0 z1 z2 z3 z4 z6 z7 z8 z9 z10 z11
 go_wp2
 have K2:Kept (fun b=>b=p\/b=g) Y (Y.setCell ⟨p,5,none⟩ (.int .i64 (-1))):=(Kept.refl (fun b=>b=p\/b=g) Y).setCell (p:=⟨p,5,none⟩) (.inl rfl) _
 have K3:Kept (fun b=>b=p) Y (Y.setCell ⟨p,5,none⟩ (.int .i64 (-1))):=(Kept.refl (fun b=>b=p) Y).setCell (p:=⟨p,5,none⟩) rfl _
 refine bodyPost_end (v:=.tuple #[]) (by simp [results,Tryz.results207,go_sem]) rfl ⟨rfl,?_,HOY.out.kept K3 (fun i hi e=>?_),(HKY.out.mono (fun b hb=>.inr hb)).trans K2⟩
 ·have h1:=HY.out.set 5 (.int .i64 (-1))
  have e:(vl++[1]).length=m.vals.length:=by rw [HVLN.out,List.length_append];rfl
  show Mf _ _ _
  rw [e]
  exact h1
 ·rw [HVA.out] at hi
  have:g=i:=by simpa [Value.ownBlock] using hi
  omega
theorem iGoDown (w:World) (p B:Nat) (m:Mc) (ra va ma:Option Addr) (rc vc mc bm:Nat) (hl:m.vals.length<=12) (hB:B<=w.heap.size) (hpv:∀ x,va=some x->x.block≠p) (ho:Ows w B (.slice va m.vals.length vc) m.vals) (h:Sb w p m ra va ma rc vc mc bm) :
 Calls Tryz.prog 204 #[.pointer (some ⟨p,0,none⟩)] w fun e w'=>e=.returned (.tuple #[])/\∃ g cp,Sb w' p { m with vals:=m.vals++[0] } ra (some ⟨g,0,none⟩) ma rc cp mc bm/\Ows w' B (.slice (some ⟨g,0,none⟩) (m.vals++[0]).length cp) (m.vals++[0])/\Kept (fun b=>b=p\/At va b) w w'/\(At va g\/w.heap.size<=g):=by
 have H:Hid (Sb w p m ra va ma rc vc mc bm):=h
 have HO:Hid (Ows w B (.slice va m.vals.length vc) m.vals):=ho
 have hp:=h.lt
 have c4:w.cell? ⟨p,4,none⟩=some (.slice va m.vals.length vc):=h.all.c4
 have HVP:Hid (∀ x,va=some x->x.block≠p):=hpv
 have HNP:Hid (∀ k,((.slice va m.vals.length vc):Value).ownBlock=some k->k≠p):=fun k hk=>by
  cases va with
  | none=>cases hk
  | some x =>
    have:=hpv x rfl
    simp [Value.ownBlock] at hk
    omega
 clear h ho hpv
 go_enter Tryz.func204,Tryz.ntmps204
 go_wp2_with (at_builtin;go_must (refine app_int w rfl _ _ rfl B (.slice va m.vals.length vc) m.vals 0 rfl rfl HO.out hB (by omega) ?_;intro g5 cp5 w5 ho5 hk5 hg5;have HO5:Hid (Ows w5 B (.slice (some ⟨g5,0,none⟩) (m.vals.length+1) cp5) (m.vals++[0])):=ho5;have HK5:Hid (Kept (fun k=>((.slice va m.vals.length vc):Value).ownBlock=some k) w w5):=hk5;have HG5:Hid (((.slice va m.vals.length vc):Value).ownBlock=some g5\/w.heap.size<=g5):=hg5;have H5:Hid (Sb w5 p m ra va ma rc vc mc bm):=H.out.kept hk5 (fun e=>HNP.out _ e rfl);have d4:w5.cell? ⟨p,4,none⟩=some (.slice va m.vals.length vc):=H5.out.all.c4;have z4:w5.frozen? ⟨p,4,none⟩=false:=H5.out.all.z4;clear ho5 hk5 hg5))
 have K2:Kept (fun b=>b=p) w5 (w5.setCell ⟨p,4,none⟩ (.slice (some ⟨g5,0,none⟩) (m.vals.length+1) cp5)):=(Kept.refl (fun b=>b=p) w5).setCell (p:=⟨p,4,none⟩) rfl _
 have hat:∀ k,((.slice va m.vals.length vc):Value).ownBlock=some k->At va k:=fun k hk=>by
  cases va with
  | none=>cases hk
  | some x=>exact ⟨x,rfl,by simpa [Value.ownBlock] using hk.symm⟩
 have hgp:g5≠p:=by
  rcases HG5.out with e|e
  ·exact HNP.out _ e
  ·omega
 refine bodyPost_end (v:=.tuple #[]) (by simp [results,Tryz.results204,go_sem]) rfl ⟨rfl,g5,cp5,?_,?_,(HK5.out.mono (fun b hb=>.inr (hat b hb))).trans (K2.mono (fun b hb=>.inl hb)),?_⟩
 ·have h1:=H5.out.set 4 (.slice (some ⟨g5,0,none⟩) (m.vals.length+1) cp5)
  have e:(m.vals++[0]).length=m.vals.length+1:=by rw [List.length_append];rfl
  show Mf _ _ _
  rw [e]
  exact h1
 ·rw [List.length_append]
  exact HO5.out.kept K2 (fun i hi e=>by
   have:g5=i:=by simpa [Value.ownBlock] using hi
   omega)
 ·rcases HG5.out with e|e
  ·exact .inl (hat _ e)
  ·exact .inr e
end Mw1
end Go.Proofs.YtladjpombohpaaaGreatDoor
