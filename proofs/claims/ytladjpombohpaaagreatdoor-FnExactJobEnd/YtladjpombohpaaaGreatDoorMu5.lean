import Derived.Test.YtladjpombohpaaaGreatDoorPkJE25
namespace Go.Proofs.YtladjpombohpaaaGreatDoor
set_option maxRecDepth 100000
set_option maxHeartbeats 8000000
set_option linter.unusedVariables false
namespace Mu5
open Go.RowKit
open Nd0 (Kept Ints lt_of_cell At)
open Ap0 Ap1 Qc0 Qc2 Cl0 Mm0 Mx0 Mu1 Mu2 Mu4
open Ta0 Ta1 Ta2 Ta3 Tc2 Tc5 Td1 Td2 Td4 Mc0 Mm1
open Tk0 (keyL sKey)
open Ss0 (bs bs_size)
/-- What is remembered of one more. -/
def keepM (room:Int) (l:List Sn) (k:ByteArray) (r:Int):List Sn :=
 if 0 < room/\fnd l k < 0 then (if room < ((l++[(⟨k,r⟩:Sn)]).length:Int) then (l++[(⟨k,r⟩:Sn)]).drop 1 else l++[(⟨k,r⟩:Sn)]) else l
theorem slI (b o n c k:Nat) (h:k<=c) (w:World) :
 (Instr.slice 25 (.slice (some ⟨b,o,none⟩) n c) none (some (.int .i64 (k:Int))) none).run Tryz.prog w=.ok (.slice (some ⟨b,o,none⟩) k c) w:=by
 rw [run_slice_h w 25 _ _ _ Tryz.underlying25 .i64 (k:Int) (by omega) (by omega)]
 by_cases e:c=0
 ·simp [go_sem,e,sliced]
 ·simp [go_sem,e,sliced]
theorem slS (b n c:Nat) (h:n+1<=c) (hn:1<=n) (w:World) :
 (Instr.slice 33 (.slice (some ⟨b,0,none⟩) (n+1) c) (some (.int .i64 1)) none none).run Tryz.prog w=.ok (.slice (some ⟨b,2,none⟩) n (c - 1)) w:=by
 rw [run_slice_l w 33 _ _ _ Tryz.underlying33 .i64 1 (by omega) (by omega)]
 have e:¬ c=1:=by omega
 simp [go_sem,e,sliced]
theorem mo_pop {W:World} {B g c0:Nat} {m:Mc} {ra va ma:Option Addr} {rc vc mc:Nat} {vl:List Int} {x:Int} (h:MO W B m ra va ma rc vc mc) (hv:m.vals=vl++[x]) (hva:va=some ⟨g,0,none⟩):MO W B { m with vals:=vl } ra va ma rc vc mc:=by
 refine ⟨h.row,?_,h.memo,h.rv,h.rm,h.vm⟩
 have h1:=h.vals
 rw [hva] at h1 ⊢
 have h2:=ows_take h1 vl.length (by rw [hv,List.length_append];omega)
 have e:m.vals.take vl.length=vl:=by rw [hv];simp
 rw [e] at h2
 exact h2
theorem sUpPop (n:Nat) (F:Nat->Bool) (vs:List Bool) (vl:List Int) (x:Int) (d:Bool) (m:Mc) (ra va ma:Option Addr) (rc vc mc:Nat) (B:Nat) (w:World) (hn:n<=12) (hN:m.N=(n:Int)) (hS:m.S=bs (tab n F)) (hvl:vl=vs.map bi) (hk:vs.length<=n) (hv:m.vals=vl++[x]) (hrl:vl.length < m.row.length) (hd:m.row[vl.length]=d) (hc:(m.ret==0)=d\/(x==0)=false) (hml:m.memo.length<=100) (hB:B<=w.heap.size) (h:MO w B m ra va ma rc vc mc) :
 Calls Tryz.prog 93 #[mval m ra va ma rc vc mc] w fun e w'=>∃ ra' va' ma' rc' vc' mc',e=.returned (mval { m with vals:=vl,memo:=keepM m.room m.memo (bs (keyL (n - vs.length) (tab (n - vs.length) (lft n F vs)))) m.ret } ra' va' ma' rc' vc' mc')/\MO w' B { m with vals:=vl,memo:=keepM m.room m.memo (bs (keyL (n - vs.length) (tab (n - vs.length) (lft n F vs)))) m.ret } ra' va' ma' rc' vc' mc'/\Kept (fun b=>At va b\/At ma b) w w'/\FR w ra va ma ra' va' ma':=by
 have HM0:Hid (MO w B m ra va ma rc vc mc):=h
 have HQ:Hid ((∀ x,ra=some x->x.block < w.heap.size)/\(∀ x,va=some x->x.block < w.heap.size)/\(∀ x,ma=some x->x.block < w.heap.size)):=Mu3.MO.lts h
 have hvn:m.vals.length=vl.length+1:=by rw [hv,List.length_append];rfl
 have hl:vl.length<=12:=by rw [hvl,List.length_map];omega
 obtain ⟨g,c0v,hva⟩:∃ g c0v,Value.slice va m.vals.length vc=.slice (some ⟨g,0,none⟩) m.vals.length c0v:=by
  rcases h.vals.2 with ⟨e,e2⟩|⟨g,cap,cur,e,_⟩
  ·omega
  ·exact ⟨g,cap,e⟩
 have hva1:va=some ⟨g,0,none⟩:=by cases hva;rfl
 clear hva
 have hov:=h.vals
 rw [hva1] at hov
 have hcap:=ows_cap hov
 have hcell:=(World.ownsRow.cellAt (w:=w) hov vl.length (by omega)).trans (by rw [hv];simp:_=some (.int .i64 x))
 obtain ⟨xb,xo,hra,hrc⟩:∃ xb xo,ra=some ⟨xb,xo,none⟩/\w.cell? ⟨xb,xo+vl.length,none⟩=some (.bool d):=by
  rcases h.mr.row.2 with e|⟨xb,xo,e,hc⟩
  ·omega
  ·exact ⟨xb,xo,e,by rw [<- hd];exact hc _ hrl⟩
 have HVA:Hid (va=some ⟨g,0,none⟩):=hva1
 have HRA:Hid (ra=some ⟨xb,xo,none⟩):=hra
 have HVV:Hid (m.vals=vl++[x]):=hv
 have HVLN:Hid (m.vals.length=vl.length+1):=hvn
 have hcap2:vl.length<=vc:=by omega
 have HCL:Hid (∀ W,Below w.heap.size w W->W.cell? ⟨g,vl.length,none⟩=some (.int .i64 x)/\W.cell? ⟨xb,xo+vl.length,none⟩=some (.bool d)):=fun W hb=>⟨by rw [hb.cell (lt_of_cell hcell)];exact hcell,by rw [hb.cell (lt_of_cell hrc)];exact hrc⟩
 have HLF:Hid (∀ W,Below w.heap.size w W->Calls Tryz.prog 133 #[mval { m with vals:=vl } ra va ma rc vc mc] W fun e w'=>e=.returned (tv ((n - vs.length:Nat):Int) (bs (tab (n - vs.length) (lft n F vs))))/\Below W.heap.size W w'):=fun W hb=>sLeft n F vs { m with vals:=vl } ra va ma rc vc mc W hn hN hS hvl hk ((mo_pop (c0:=0) h hv hva1).mr.vals.below hb)
 have HKY:Hid (∀ W,Calls Tryz.prog 95 #[tv ((n - vs.length:Nat):Int) (bs (tab (n - vs.length) (lft n F vs)))] W fun e w'=>e=.returned (.string (bs (keyL (n - vs.length) (tab (n - vs.length) (lft n F vs)))))/\Below W.heap.size W w'):=fun W=>sKey _ _ W (by omega)
 have HFD:Hid (∀ (W:World) (key:ByteArray),Below w.heap.size w W->Calls Tryz.prog 135 #[.slice ma m.memo.length mc,.string key] W fun e w'=>e=.returned (.int .i64 (fnd m.memo key))/\w'=W):=fun W key hb=>sFind W ma m.memo mc key (h.mr.memo.below hb)
 have hsl:=fun W=>slI g 0 (vl.length+1) vc vl.length hcap2 W
 have HSL:Hid _:=hsl
 clear h hcell hrc hd hov hva1 hra hv hvn hcap hcap2 hN hS hvl hk hsl
 generalize bs (keyL (n - vs.length) (tab (n - vs.length) (lft n F vs)))=KEY at *
 generalize bs (tab (n - vs.length) (lft n F vs))=T at *
 generalize n - vs.length=e at *
 obtain ⟨KM,hKM⟩:∃ KM,KM=keepM m.room m.memo KEY m.ret:=⟨_,rfl⟩
 have HKM:Hid (KM=keepM m.room m.memo KEY m.ret):=hKM
 rw [<- hKM]
 clear hKM
 obtain ⟨X0,hX0⟩:∃ X0,X0=((w.alloc (.cells #[.slice ra m.row.length rc,.int .i64 m.N,.string m.S,.int .i64 m.room,.slice va m.vals.length vc,.int .i64 m.ret,.bool m.over,.int .i64 m.steps,.int .i64 m.looks,.int .i64 m.hits,.slice ma m.memo.length mc] 35)).alloc (.cells #[.slice none 0 0,.int .i64 0,.string ⟨#[]⟩,.int .i64 0,.slice none 0 0,.int .i64 0,.bool false,.int .i64 0,.int .i64 0,.int .i64 0,.slice none 0 0] 35)):=⟨_,rfl⟩
 have HE0:Hid (((w.alloc (.cells #[.slice ra m.row.length rc,.int .i64 m.N,.string m.S,.int .i64 m.room,.slice va m.vals.length vc,.int .i64 m.ret,.bool m.over,.int .i64 m.steps,.int .i64 m.looks,.int .i64 m.hits,.slice ma m.memo.length mc] 35)).alloc (.cells #[.slice none 0 0,.int .i64 0,.string ⟨#[]⟩,.int .i64 0,.slice none 0 0,.int .i64 0,.bool false,.int .i64 0,.int .i64 0,.int .i64 0,.slice none 0 0] 35))=X0):=hX0.symm
 have HB0:Hid (Below w.heap.size w X0):=by rw [hX0];exact ((Below.refl _ _).alloc (Nat.le_refl _) _).alloc (by simp) _
 have HA0:Hid (Mf X0 (w.heap.size) [.slice ra m.row.length rc,.int .i64 m.N,.string m.S,.int .i64 m.room,.slice va m.vals.length vc,.int .i64 m.ret,.bool m.over,.int .i64 m.steps,.int .i64 m.looks,.int .i64 m.hits,.slice ma m.memo.length mc]):=by rw [hX0];exact (Mf.made _ _ _).alloc _
 have HZ0:Hid (Mf X0 (w.heap.size+1) [.slice none 0 0,.int .i64 0,.string ⟨#[]⟩,.int .i64 0,.slice none 0 0,.int .i64 0,.bool false,.int .i64 0,.int .i64 0,.int .i64 0,.slice none 0 0]):=by
  have h1:=Mf.made (w.alloc (.cells #[.slice ra m.row.length rc,.int .i64 m.N,.string m.S,.int .i64 m.room,.slice va m.vals.length vc,.int .i64 m.ret,.bool m.over,.int .i64 m.steps,.int .i64 m.looks,.int .i64 m.hits,.slice ma m.memo.length mc] 35)) #[.slice none 0 0,.int .i64 0,.string ⟨#[]⟩,.int .i64 0,.slice none 0 0,.int .i64 0,.bool false,.int .i64 0,.int .i64 0,.int .i64 0,.slice none 0 0] 35
  have h2:(w.alloc (.cells #[.slice ra m.row.length rc,.int .i64 m.N,.string m.S,.int .i64 m.room,.slice va m.vals.length vc,.int .i64 m.ret,.bool m.over,.int .i64 m.steps,.int .i64 m.looks,.int .i64 m.hits,.slice ma m.memo.length mc] 35)).heap.size=w.heap.size+1:=by simp
  rw [h2,<- hX0] at h1
  exact h1
 have HS0:Hid (w.heap.size+2<=X0.heap.size):=by show _<=_;rw [hX0];simp
 clear hX0
 have HB_X0:Hid (Below w.heap.size w X0):=HB0.out
 have HA_X0:Hid (Mf X0 (w.heap.size) [.slice ra m.row.length rc,.int .i64 m.N,.string m.S,.int .i64 m.room,.slice va m.vals.length vc,.int .i64 m.ret,.bool m.over,.int .i64 m.steps,.int .i64 m.looks,.int .i64 m.hits,.slice ma m.memo.length mc]):=HA0.out
 have HZ_X0:Hid (Mf X0 (w.heap.size+1) [.slice none 0 0,.int .i64 0,.string ⟨#[]⟩,.int .i64 0,.slice none 0 0,.int .i64 0,.bool false,.int .i64 0,.int .i64 0,.int .i64 0,.slice none 0 0]):=HZ0.out
 have HM_X0:Hid (MO X0 B m ra va ma rc vc mc):=HM0.out.below HB0.out
 clear HB0 HA0 HZ0
 go_enter Tryz.func93,Tryz.ntmps93
 go_upto_region 1 with fail
 rw [HE0.out]
 clear HE0
 obtain ⟨c0,c1,c2,c3,c4,c5,c6,c7,c8,c9,c10,y0,y1,y2,y3,y4,y5,y6,y7,y8,y9,y10⟩:=HA_X0.out.all
 obtain ⟨k1,k3⟩:=HCL.out X0 HB_X0.out
 rw [HVLN.out,HVA.out] at c4
 rw [HRA.out] at c0
 have hrz:(vl.length:Int) < (m.row.length:Int):=by omega
 go_upto_region 5 with fail
 go_cut [29] from 13 to 29 (fun s wc=>s=.bool false/\∃ q,wc=X0.drewN q)
 case first =>
  rcases hc with ht|hx
  ·cases d
   all_goals
    go_wp2
    go_quiet (fail)
    go_wp2_with fail
    go_meet
    case rel=>exact ⟨rfl,_,rfl⟩
  ·cases ht:(m.ret==0)<;>cases d
   all_goals
    go_wp2
    go_quiet (fail)
    go_wp2_with fail
    go_meet
    case rel=>exact ⟨rfl,_,rfl⟩
 case rest =>
  obtain ⟨rfl,q,rfl⟩:=hcut
  clear c0 c1 c2 c3 c4 c5 c6 c7 c8 c9 c10 y0 y1 y2 y3 y4 y5 y6 y7 y8 y9 y10 k1 k3 hrz hc
  have hdn:Below X0.heap.size X0 (X0.drewN q):=Mm2.dnb _ _ _
  obtain ⟨XD,hXD⟩:∃ X,X=X0.drewN q:=⟨_,rfl⟩
  rw [<- hXD] at hdn ⊢
  have HB_XD:Hid (Below w.heap.size w XD):=HB_X0.out.trans (hdn.mono HB_X0.out.size)
  have HA_XD:Hid (Mf XD (w.heap.size) [.slice ra m.row.length rc,.int .i64 m.N,.string m.S,.int .i64 m.room,.slice va m.vals.length vc,.int .i64 m.ret,.bool m.over,.int .i64 m.steps,.int .i64 m.looks,.int .i64 m.hits,.slice ma m.memo.length mc]):=HA_X0.out.below hdn
  have HZ_XD:Hid (Mf XD (w.heap.size+1) [.slice none 0 0,.int .i64 0,.string ⟨#[]⟩,.int .i64 0,.slice none 0 0,.int .i64 0,.bool false,.int .i64 0,.int .i64 0,.int .i64 0,.slice none 0 0]):=HZ_X0.out.below hdn
  have HM_XD:Hid (MO XD B m ra va ma rc vc mc):=HM_X0.out.below hdn
  clear hdn hXD HB_X0 HA_X0 HZ_X0 HM_X0 HCL
  obtain ⟨c0,c1,c2,c3,c4,c5,c6,c7,c8,c9,c10,y0,y1,y2,y3,y4,y5,y6,y7,y8,y9,y10⟩:=HA_XD.out.all
  rw [HVLN.out,HVA.out] at c4
  have hsl:=HSL.out
  go_upto_region 10 with fail
  clear c0 c1 c2 c3 c4 c5 c6 c7 c8 c9 c10 y0 y1 y2 y3 y4 y5 y6 y7 y8 y9 y10 hsl
  obtain ⟨Y1,hY1⟩:∃ Y,Y=XD.setCell ⟨w.heap.size,4,none⟩ (.slice (some ⟨g,0,none⟩) vl.length vc):=⟨_,rfl⟩
  rw [<- hY1]
  have K1:Kept (fun b=>b=w.heap.size) XD Y1:=by rw [hY1];exact (Kept.refl (fun b=>b=w.heap.size) XD).setCell (p:=⟨w.heap.size,4,none⟩) rfl _
  have HA_Y1:Hid (Mf Y1 (w.heap.size) [.slice ra m.row.length rc,.int .i64 m.N,.string m.S,.int .i64 m.room,.slice va vl.length vc,.int .i64 m.ret,.bool m.over,.int .i64 m.steps,.int .i64 m.looks,.int .i64 m.hits,.slice ma m.memo.length mc]):=by
   rw [hY1]
   have:=HA_XD.out.set 4 (.slice (some ⟨g,0,none⟩) vl.length vc)
   rw [<- HVA.out] at this ⊢
   exact this
  have HZ_Y1:Hid (Mf Y1 (w.heap.size+1) [.slice none 0 0,.int .i64 0,.string ⟨#[]⟩,.int .i64 0,.slice none 0 0,.int .i64 0,.bool false,.int .i64 0,.int .i64 0,.int .i64 0,.slice none 0 0]):=HZ_XD.out.kept K1 (by omega)
  have HB_Y1:Hid (Below w.heap.size w Y1):=HB_XD.out.trans (K1.below (fun b hb=>by omega) HB_XD.out.size)
  have HM_Y1:Hid (MO Y1 B { m with vals:=vl } ra va ma rc vc mc):=(mo_pop (c0:=0) HM_XD.out HVV.out HVA.out).kept K1 (fun x hx h=>by have:=HQ.out.1 x hx;omega) (fun x hx h=>by have:=HQ.out.2.1 x hx;omega) (fun x hx h=>by have:=HQ.out.2.2 x hx;omega)
  clear K1 hY1 HB_XD HA_XD HZ_XD HM_XD HSL
  obtain ⟨c0,c1,c2,c3,c4,c5,c6,c7,c8,c9,c10,y0,y1,y2,y3,y4,y5,y6,y7,y8,y9,y10⟩:=HA_Y1.out.all
  go_wp2_with fail
  clear c0 c1 c2 c3 c4 c5 c6 c7 c8 c9 c10 y0 y1 y2 y3 y4 y5 y6 y7 y8 y9 y10
  refine (HLF.out _ HB_Y1.out).mono ?_
  rintro _ x1 ⟨rfl,hb⟩
  have HB_x1:Hid (Below w.heap.size w x1):=HB_Y1.out.trans (hb.mono HB_Y1.out.size)
  have HA_x1:Hid (Mf x1 (w.heap.size) [.slice ra m.row.length rc,.int .i64 m.N,.string m.S,.int .i64 m.room,.slice va vl.length vc,.int .i64 m.ret,.bool m.over,.int .i64 m.steps,.int .i64 m.looks,.int .i64 m.hits,.slice ma m.memo.length mc]):=HA_Y1.out.below hb
  have HZ_x1:Hid (Mf x1 (w.heap.size+1) [.slice none 0 0,.int .i64 0,.string ⟨#[]⟩,.int .i64 0,.slice none 0 0,.int .i64 0,.bool false,.int .i64 0,.int .i64 0,.int .i64 0,.slice none 0 0]):=HZ_Y1.out.below hb
  have HM_x1:Hid (MO x1 B { m with vals:=vl } ra va ma rc vc mc):=HM_Y1.out.below hb
  clear hb HB_Y1 HA_Y1 HZ_Y1 HM_Y1
  go_wp2_with fail
  refine (HKY.out _).mono ?_
  rintro _ x2 ⟨rfl,hb⟩
  have HB_x2:Hid (Below w.heap.size w x2):=HB_x1.out.trans (hb.mono HB_x1.out.size)
  have HA_x2:Hid (Mf x2 (w.heap.size) [.slice ra m.row.length rc,.int .i64 m.N,.string m.S,.int .i64 m.room,.slice va vl.length vc,.int .i64 m.ret,.bool m.over,.int .i64 m.steps,.int .i64 m.looks,.int .i64 m.hits,.slice ma m.memo.length mc]):=HA_x1.out.below hb
  have HZ_x2:Hid (Mf x2 (w.heap.size+1) [.slice none 0 0,.int .i64 0,.string ⟨#[]⟩,.int .i64 0,.slice none 0 0,.int .i64 0,.bool false,.int .i64 0,.int .i64 0,.int .i64 0,.slice none 0 0]):=HZ_x1.out.below hb
  have HM_x2:Hid (MO x2 B { m with vals:=vl } ra va ma rc vc mc):=HM_x1.out.below hb
  clear hb HB_x1 HA_x1 HZ_x1 HM_x1 HLF HKY
  by_cases hroom:0 < m.room
  rotate_left
  ·have HD:Hid (KM=m.memo):=by show _=_;rw [HKM.out];unfold keepM;exact if_neg (fun k=>hroom k.1)
   have hrb:decide (0 < m.room)=false:=decide_eq_false hroom
   have c3:x2.cell? ⟨w.heap.size,3,none⟩=some (.int .i64 m.room):=(HA_x2.out 3 (by simp)).1
   go_upto_region 15 with fail
   clear c3
   obtain ⟨Y,hY⟩:∃ Y,Y=x2:=⟨_,rfl⟩
   rw [<- hY]
   have KY:Kept (fun b=>b=w.heap.size) x2 Y:=by rw [hY];exact (Kept.refl (fun b=>b=w.heap.size) x2)
   have HAY:Mf Y (w.heap.size) [.slice ra m.row.length rc,.int .i64 m.N,.string m.S,.int .i64 m.room,.slice va vl.length vc,.int .i64 m.ret,.bool m.over,.int .i64 m.steps,.int .i64 m.looks,.int .i64 m.hits,.slice ma m.memo.length mc]:=by
    rw [hY]
    exact HA_x2.out
   have HZY:Hid (Mf Y (w.heap.size+1) [.slice none 0 0,.int .i64 0,.string ⟨#[]⟩,.int .i64 0,.slice none 0 0,.int .i64 0,.bool false,.int .i64 0,.int .i64 0,.int .i64 0,.slice none 0 0]):=HZ_x2.out.kept KY (by omega)
   have HKY:Hid (Kept (fun b=>b=w.heap.size) x2 Y):=KY
   obtain ⟨c0,c1,c2,c3,c4,c5,c6,c7,c8,c9,c10,y0,y1,y2,y3,y4,y5,y6,y7,y8,y9,y10⟩:=HAY.all
   obtain ⟨d0,d1,d2,d3,d4,d5,d6,d7,d8,d9,d10,z0,z1,z2,z3,z4,z5,z6,z7,z8,z9,z10⟩:=HZY.out.all
   clear HAY hY KY
   go_wp2
   clear c0 c1 c2 c3 c4 c5 c6 c7 c8 c9 c10 y0 y1 y2 y3 y4 y5 y6 y7 y8 y9 y10 d0 d1 d2 d3 d4 d5 d6 d7 d8 d9 d10 z0 z1 z2 z3 z4 z5 z6 z7 z8 z9 z10
   obtain ⟨WF,hWF⟩:∃ WF,WF=(((((((((((Y).setCell ⟨w.heap.size+1,0,none⟩ (.slice ra m.row.length rc)).setCell ⟨w.heap.size+1,1,none⟩ (.int .i64 m.N)).setCell ⟨w.heap.size+1,2,none⟩ (.string m.S)).setCell ⟨w.heap.size+1,3,none⟩ (.int .i64 m.room)).setCell ⟨w.heap.size+1,4,none⟩ (.slice va vl.length vc)).setCell ⟨w.heap.size+1,5,none⟩ (.int .i64 m.ret)).setCell ⟨w.heap.size+1,6,none⟩ (.bool m.over)).setCell ⟨w.heap.size+1,7,none⟩ (.int .i64 m.steps)).setCell ⟨w.heap.size+1,8,none⟩ (.int .i64 m.looks)).setCell ⟨w.heap.size+1,9,none⟩ (.int .i64 m.hits)).setCell ⟨w.heap.size+1,10,none⟩ (.slice ma m.memo.length mc):=⟨_,rfl⟩
   rw [<- hWF]
   have KF:Kept (fun b=>b=w.heap.size\/b=w.heap.size+1) x2 WF:=by rw [hWF];exact ((((((((((((HKY.out.mono (fun b hb=>.inl hb):Kept (fun b=>b=w.heap.size\/b=w.heap.size+1) x2 Y)).setCell (p:=⟨w.heap.size+1,0,none⟩) (.inr rfl) _).setCell (p:=⟨w.heap.size+1,1,none⟩) (.inr rfl) _).setCell (p:=⟨w.heap.size+1,2,none⟩) (.inr rfl) _).setCell (p:=⟨w.heap.size+1,3,none⟩) (.inr rfl) _).setCell (p:=⟨w.heap.size+1,4,none⟩) (.inr rfl) _).setCell (p:=⟨w.heap.size+1,5,none⟩) (.inr rfl) _).setCell (p:=⟨w.heap.size+1,6,none⟩) (.inr rfl) _).setCell (p:=⟨w.heap.size+1,7,none⟩) (.inr rfl) _).setCell (p:=⟨w.heap.size+1,8,none⟩) (.inr rfl) _).setCell (p:=⟨w.heap.size+1,9,none⟩) (.inr rfl) _).setCell (p:=⟨w.heap.size+1,10,none⟩) (.inr rfl) _
   have HF:Mf WF (w.heap.size+1) [.slice ra m.row.length rc,.int .i64 m.N,.string m.S,.int .i64 m.room,.slice va vl.length vc,.int .i64 m.ret,.bool m.over,.int .i64 m.steps,.int .i64 m.looks,.int .i64 m.hits,.slice ma m.memo.length mc]:=by
    rw [hWF]
    exact (((((((((((HZY.out.set 0 (.slice ra m.row.length rc)).set 1 (.int .i64 m.N)).set 2 (.string m.S)).set 3 (.int .i64 m.room)).set 4 (.slice va vl.length vc)).set 5 (.int .i64 m.ret)).set 6 (.bool m.over)).set 7 (.int .i64 m.steps)).set 8 (.int .i64 m.looks)).set 9 (.int .i64 m.hits)).set 10 (.slice ma m.memo.length mc))
   obtain ⟨c0,c1,c2,c3,c4,c5,c6,c7,c8,c9,c10,y0,y1,y2,y3,y4,y5,y6,y7,y8,y9,y10⟩:=HF.all
   clear hWF
   have hq:=HQ.out
   have mo:MO WF B { m with vals:=vl } ra va ma rc vc mc:=HM_x2.out.kept KF (fun x hx h=>by have:=hq.1 x hx;omega) (fun x hx h=>by have:=hq.2.1 x hx;omega) (fun x hx h=>by have:=hq.2.2 x hx;omega)
   have fb:Below w.heap.size w WF:=HB_x2.out.trans (KF.below (fun b hb=>by omega) HB_x2.out.size)
   refine bodyPost_ret (v:=mval ({ m with vals:=vl,memo:=KM }) ra va ma rc vc mc) (by simp [results,Tryz.results93,go_sem,HD.out,c0,c1,c2,c3,c4,c5,c6,c7,c8,c9,c10]) rfl ?_
   exact ⟨ra,va,ma,rc,vc,mc,rfl,⟨mo.row,mo.vals,by rw [HD.out];exact mo.memo,mo.rv,mo.rm,mo.vm⟩,Kept.ofBelow fb,FR.refl _ _ _ _⟩
  have hrb:decide (0 < m.room)=true:=decide_eq_true hroom
  have c3:x2.cell? ⟨w.heap.size,3,none⟩=some (.int .i64 m.room):=(HA_x2.out 3 (by simp)).1
  have c10:x2.cell? ⟨w.heap.size,10,none⟩=some (.slice ma m.memo.length mc):=(HA_x2.out 10 (by simp)).1
  go_wp2_with fail
  refine (HFD.out _ KEY HB_x2.out).mono ?_
  rintro _ x3 ⟨rfl,hw3⟩
  have hw3':=hw3.symm
  clear hw3
  subst hw3'
  clear HFD
  by_cases hf:fnd m.memo KEY < 0
  rotate_left
  ·have HD:Hid (KM=m.memo):=by show _=_;rw [HKM.out];unfold keepM;exact if_neg (fun k=>hf k.2)
   have hfb:decide (fnd m.memo KEY < 0)=false:=decide_eq_false hf
   generalize fnd m.memo KEY=fk at *
   go_upto_region 15 with fail
   clear c3 c10
   obtain ⟨Y,hY⟩:∃ Y,Y=x2:=⟨_,rfl⟩
   rw [<- hY]
   have KY:Kept (fun b=>b=w.heap.size) x2 Y:=by rw [hY];exact (Kept.refl (fun b=>b=w.heap.size) x2)
   have HAY:Mf Y (w.heap.size) [.slice ra m.row.length rc,.int .i64 m.N,.string m.S,.int .i64 m.room,.slice va vl.length vc,.int .i64 m.ret,.bool m.over,.int .i64 m.steps,.int .i64 m.looks,.int .i64 m.hits,.slice ma m.memo.length mc]:=by
    rw [hY]
    exact HA_x2.out
   have HZY:Hid (Mf Y (w.heap.size+1) [.slice none 0 0,.int .i64 0,.string ⟨#[]⟩,.int .i64 0,.slice none 0 0,.int .i64 0,.bool false,.int .i64 0,.int .i64 0,.int .i64 0,.slice none 0 0]):=HZ_x2.out.kept KY (by omega)
   have HKY:Hid (Kept (fun b=>b=w.heap.size) x2 Y):=KY
   obtain ⟨c0,c1,c2,c3,c4,c5,c6,c7,c8,c9,c10,y0,y1,y2,y3,y4,y5,y6,y7,y8,y9,y10⟩:=HAY.all
   obtain ⟨d0,d1,d2,d3,d4,d5,d6,d7,d8,d9,d10,z0,z1,z2,z3,z4,z5,z6,z7,z8,z9,z10⟩:=HZY.out.all
   clear HAY hY KY
   go_wp2
   clear c0 c1 c2 c3 c4 c5 c6 c7 c8 c9 c10 y0 y1 y2 y3 y4 y5 y6 y7 y8 y9 y10 d0 d1 d2 d3 d4 d5 d6 d7 d8 d9 d10 z0 z1 z2 z3 z4 z5 z6 z7 z8 z9 z10
   obtain ⟨WF,hWF⟩:∃ WF,WF=(((((((((((Y).setCell ⟨w.heap.size+1,0,none⟩ (.slice ra m.row.length rc)).setCell ⟨w.heap.size+1,1,none⟩ (.int .i64 m.N)).setCell ⟨w.heap.size+1,2,none⟩ (.string m.S)).setCell ⟨w.heap.size+1,3,none⟩ (.int .i64 m.room)).setCell ⟨w.heap.size+1,4,none⟩ (.slice va vl.length vc)).setCell ⟨w.heap.size+1,5,none⟩ (.int .i64 m.ret)).setCell ⟨w.heap.size+1,6,none⟩ (.bool m.over)).setCell ⟨w.heap.size+1,7,none⟩ (.int .i64 m.steps)).setCell ⟨w.heap.size+1,8,none⟩ (.int .i64 m.looks)).setCell ⟨w.heap.size+1,9,none⟩ (.int .i64 m.hits)).setCell ⟨w.heap.size+1,10,none⟩ (.slice ma m.memo.length mc):=⟨_,rfl⟩
   rw [<- hWF]
   have KF:Kept (fun b=>b=w.heap.size\/b=w.heap.size+1) x2 WF:=by rw [hWF];exact ((((((((((((HKY.out.mono (fun b hb=>.inl hb):Kept (fun b=>b=w.heap.size\/b=w.heap.size+1) x2 Y)).setCell (p:=⟨w.heap.size+1,0,none⟩) (.inr rfl) _).setCell (p:=⟨w.heap.size+1,1,none⟩) (.inr rfl) _).setCell (p:=⟨w.heap.size+1,2,none⟩) (.inr rfl) _).setCell (p:=⟨w.heap.size+1,3,none⟩) (.inr rfl) _).setCell (p:=⟨w.heap.size+1,4,none⟩) (.inr rfl) _).setCell (p:=⟨w.heap.size+1,5,none⟩) (.inr rfl) _).setCell (p:=⟨w.heap.size+1,6,none⟩) (.inr rfl) _).setCell (p:=⟨w.heap.size+1,7,none⟩) (.inr rfl) _).setCell (p:=⟨w.heap.size+1,8,none⟩) (.inr rfl) _).setCell (p:=⟨w.heap.size+1,9,none⟩) (.inr rfl) _).setCell (p:=⟨w.heap.size+1,10,none⟩) (.inr rfl) _
   have HF:Mf WF (w.heap.size+1) [.slice ra m.row.length rc,.int .i64 m.N,.string m.S,.int .i64 m.room,.slice va vl.length vc,.int .i64 m.ret,.bool m.over,.int .i64 m.steps,.int .i64 m.looks,.int .i64 m.hits,.slice ma m.memo.length mc]:=by
    rw [hWF]
    exact (((((((((((HZY.out.set 0 (.slice ra m.row.length rc)).set 1 (.int .i64 m.N)).set 2 (.string m.S)).set 3 (.int .i64 m.room)).set 4 (.slice va vl.length vc)).set 5 (.int .i64 m.ret)).set 6 (.bool m.over)).set 7 (.int .i64 m.steps)).set 8 (.int .i64 m.looks)).set 9 (.int .i64 m.hits)).set 10 (.slice ma m.memo.length mc))
   obtain ⟨c0,c1,c2,c3,c4,c5,c6,c7,c8,c9,c10,y0,y1,y2,y3,y4,y5,y6,y7,y8,y9,y10⟩:=HF.all
   clear hWF
   have hq:=HQ.out
   have mo:MO WF B { m with vals:=vl } ra va ma rc vc mc:=HM_x2.out.kept KF (fun x hx h=>by have:=hq.1 x hx;omega) (fun x hx h=>by have:=hq.2.1 x hx;omega) (fun x hx h=>by have:=hq.2.2 x hx;omega)
   have fb:Below w.heap.size w WF:=HB_x2.out.trans (KF.below (fun b hb=>by omega) HB_x2.out.size)
   refine bodyPost_ret (v:=mval ({ m with vals:=vl,memo:=KM }) ra va ma rc vc mc) (by simp [results,Tryz.results93,go_sem,HD.out,c0,c1,c2,c3,c4,c5,c6,c7,c8,c9,c10]) rfl ?_
   exact ⟨ra,va,ma,rc,vc,mc,rfl,⟨mo.row,mo.vals,by rw [HD.out];exact mo.memo,mo.rv,mo.rm,mo.vm⟩,Kept.ofBelow fb,FR.refl _ _ _ _⟩
  have hfb:decide (fnd m.memo KEY < 0)=true:=decide_eq_true hf
  have HKM2:Hid (KM=if m.room < ((m.memo++[(⟨KEY,m.ret⟩:Sn)]).length:Int) then (m.memo++[(⟨KEY,m.ret⟩:Sn)]).drop 1 else m.memo++[(⟨KEY,m.ret⟩:Sn)]):=by show _=_;rw [HKM.out];unfold keepM;exact if_pos ⟨hroom,hf⟩
  clear HKM
  generalize fnd m.memo KEY=fk at *
  clear c3 c10
  have c5:x2.cell? ⟨w.heap.size,5,none⟩=some (.int .i64 m.ret):=(HA_x2.out 5 (by simp)).1
  have c10:x2.cell? ⟨w.heap.size,10,none⟩=some (.slice ma m.memo.length mc):=(HA_x2.out 10 (by simp)).1
  have HBX2:Hid (B<=x2.heap.size):=Nat.le_trans hB HB_x2.out.size
  have HZL:Hid (w.heap.size+1 < x2.heap.size):=HZ_x2.out.lt (by simp)
  have HMQ:Hid (∀ k,((.slice ma m.memo.length mc):Value).ownBlock=some k->k < w.heap.size):=fun k h=>by
   cases ma with
   | none=>cases h
   | some z =>
     have:=HQ.out.2.2 z rfl
     simp [Value.ownBlock] at h
     omega
  go_upto_region 13 with (at_builtin;go_must (refine appSn x2 rfl _ _ rfl B (.slice ma m.memo.length mc) m.memo ⟨KEY,m.ret⟩ rfl x2.heap.size rfl rfl HM_x2.out.memo HBX2.out (by omega) ?_;intro g6 cp6 w6 ho6 hk6 hg6;have HO6:Hid (OwSn w6 B (.slice (some ⟨g6,0,none⟩) (m.memo.length+1) cp6) (m.memo++[(⟨KEY,m.ret⟩:Sn)])):=ho6;have HK6:Hid (Kept (fun k=>((.slice ma m.memo.length mc):Value).ownBlock=some k) x2 w6):=hk6;have HG6:Hid (((.slice ma m.memo.length mc):Value).ownBlock=some g6\/x2.heap.size<=g6):=hg6;have HA6:Hid (Mf w6 (w.heap.size) [.slice ra m.row.length rc,.int .i64 m.N,.string m.S,.int .i64 m.room,.slice va vl.length vc,.int .i64 m.ret,.bool m.over,.int .i64 m.steps,.int .i64 m.looks,.int .i64 m.hits,.slice ma m.memo.length mc]):=HA_x2.out.kept hk6 (fun h=>by have:=HMQ.out _ h;omega);have d10:w6.cell? ⟨w.heap.size,10,none⟩=some (.slice ma m.memo.length mc):=(HA6.out 10 (by simp)).1;have z10:w6.frozen? ⟨w.heap.size,10,none⟩=false:=(HA6.out 10 (by simp)).2;clear ho6 hk6 hg6))
  clear c5 c10 d10 z10 hfb hrb
  obtain ⟨Y2,hY2⟩:∃ Y,Y=w6.setCell ⟨w.heap.size,10,none⟩ (.slice (some ⟨g6,0,none⟩) (m.memo.length+1) cp6):=⟨_,rfl⟩
  rw [<- hY2]
  have K2:Kept (fun b=>b=w.heap.size) w6 Y2:=by rw [hY2];exact (Kept.refl (fun b=>b=w.heap.size) w6).setCell (p:=⟨w.heap.size,10,none⟩) rfl _
  have HK2:Hid (Kept (fun b=>b=w.heap.size) w6 Y2):=K2
  have HA_Y2:Hid (Mf Y2 (w.heap.size) [.slice ra m.row.length rc,.int .i64 m.N,.string m.S,.int .i64 m.room,.slice va vl.length vc,.int .i64 m.ret,.bool m.over,.int .i64 m.steps,.int .i64 m.looks,.int .i64 m.hits,.slice (some ⟨g6,0,none⟩) (m.memo.length+1) cp6]):=by rw [hY2];exact HA6.out.set 10 (.slice (some ⟨g6,0,none⟩) (m.memo.length+1) cp6)
  have HZ_Y2:Hid (Mf Y2 (w.heap.size+1) [.slice none 0 0,.int .i64 0,.string ⟨#[]⟩,.int .i64 0,.slice none 0 0,.int .i64 0,.bool false,.int .i64 0,.int .i64 0,.int .i64 0,.slice none 0 0]):=(HZ_x2.out.kept HK6.out (fun h=>by have:=HMQ.out _ h;omega)).kept K2 (by omega)
  have g6q:g6 < w.heap.size\/x2.heap.size<=g6:=by
   rcases HG6.out with e|e
   ·exact .inl (HMQ.out _ e)
   ·exact .inr e
  have HGQ:Hid (g6 < w.heap.size\/x2.heap.size<=g6):=g6q
  have HO2:Hid (OwSn Y2 B (.slice (some ⟨g6,0,none⟩) (m.memo.length+1) cp6) (m.memo++[(⟨KEY,m.ret⟩:Sn)])):=HO6.out.kept K2 (fun i hi h=>by
   have e:g6=i:=by simpa [Value.ownBlock] using hi
   have:=HZL.out
   omega)
  have HRW2:Hid (Owb Y2 B (.slice ra m.row.length rc) m.row):=(HM_x2.out.row.kept HK6.out (fun i hi h=>by
   cases ra with
   | none=>cases hi
   | some x=>cases ma with
     | none=>cases h
     | some y =>
       simp [Value.ownBlock] at hi h
       exact HM_x2.out.rm x y rfl rfl (by omega))).kept K2 (fun i hi h=>by
   cases ra with
   | none=>cases hi
   | some x =>
     have:=HQ.out.1 x rfl
     simp [Value.ownBlock] at hi
     omega)
  have HVL2:Hid (Ows Y2 B (.slice va vl.length vc) vl):=(HM_x2.out.vals.kept HK6.out (fun i hi h=>by
   cases va with
   | none=>cases hi
   | some x=>cases ma with
     | none=>cases h
     | some y =>
       simp [Value.ownBlock] at hi h
       exact HM_x2.out.vm x y rfl rfl (by omega))).kept K2 (fun i hi h=>by
   cases va with
   | none=>cases hi
   | some x =>
     have:=HQ.out.2.1 x rfl
     simp [Value.ownBlock] at hi
     omega)
  have HKW:Hid (∀ i,i < w.heap.size->¬ (At va i\/At ma i)->Y2.heap[i]? = w.heap[i]?):=by
   intro i hi hne
   rw [K2.block i (Nat.lt_of_lt_of_le hi (Nat.le_trans HB_x2.out.size HK6.out.size)) (by omega),HK6.out.block i (Nat.lt_of_lt_of_le hi HB_x2.out.size) (fun h=>hne (.inr (by
    cases ma with
    | none=>cases h
    | some z=>exact ⟨z,rfl,by simpa [Value.ownBlock] using h.symm⟩)))]
   exact HB_x2.out.block i hi
  have HKO:Hid (Y2.os=w.os/\Y2.tape=w.tape/\Y2.output=w.output):=⟨(K2.os.trans HK6.out.os).trans HB_x2.out.os,(K2.tape.trans HK6.out.tape).trans HB_x2.out.tape,(K2.output.trans HK6.out.output).trans HB_x2.out.output⟩
  have HS2:Hid (x2.heap.size<=Y2.heap.size/\w.heap.size<=x2.heap.size):=⟨Nat.le_trans HK6.out.size K2.size,HB_x2.out.size⟩
  have HFR:Hid (At ma g6\/w.heap.size<=g6):=by
   rcases HG6.out with e|e
   ·exact .inl (by
     cases ma with
     | none=>cases e
     | some z=>exact ⟨z,rfl,by simpa [Value.ownBlock] using e.symm⟩)
   ·exact .inr (Nat.le_trans HB_x2.out.size e)
  have HRV:Hid (∀ x y,ra=some x->va=some y->x.block≠y.block):=HM_x2.out.rv
  have HRM:Hid (∀ x,ra=some x->x.block≠g6):=fun x hx=>by
   rcases HG6.out with e|e
   ·cases ma with
    | none=>cases e
    | some z =>
      have:=HM_x2.out.rm x z hx rfl
      simp [Value.ownBlock] at e
      omega
   ·have:=HQ.out.1 x hx
    have:=HZL.out
    omega
  have HVM:Hid (∀ x,va=some x->x.block≠g6):=fun x hx=>by
   rcases HG6.out with e|e
   ·cases ma with
    | none=>cases e
    | some z =>
      have:=HM_x2.out.vm x z hx rfl
      simp [Value.ownBlock] at e
      omega
   ·have:=HQ.out.2.1 x hx
    have:=HZL.out
    omega
  clear K2 hY2 g6q HA6 HK6 HG6 HA_x2 HZ_x2 HM_x2 HB_x2 HO6
  have e3:Y2.cell? ⟨w.heap.size,3,none⟩=some (.int .i64 m.room):=(HA_Y2.out 3 (by simp)).1
  have e10:Y2.cell? ⟨w.heap.size,10,none⟩=some (.slice (some ⟨g6,0,none⟩) (m.memo.length+1) cp6):=(HA_Y2.out 10 (by simp)).1
  by_cases hlen:m.room < (m.memo.length:Int)+1
  rotate_left
  ·have HD:Hid (KM=m.memo++[(⟨KEY,m.ret⟩:Sn)]):=by
    show _=_
    rw [HKM2.out,if_neg]
    rw [List.length_append]
    simp
    omega
   have hlb:decide (m.room < (m.memo.length:Int)+1)=false:=decide_eq_false hlen
   go_upto_region 15 with fail
   clear e3 e10
   obtain ⟨Y,hY⟩:∃ Y,Y=Y2:=⟨_,rfl⟩
   rw [<- hY]
   have KY:Kept (fun b=>b=w.heap.size) Y2 Y:=by rw [hY];exact (Kept.refl (fun b=>b=w.heap.size) Y2)
   have HAY:Mf Y (w.heap.size) [.slice ra m.row.length rc,.int .i64 m.N,.string m.S,.int .i64 m.room,.slice va vl.length vc,.int .i64 m.ret,.bool m.over,.int .i64 m.steps,.int .i64 m.looks,.int .i64 m.hits,.slice (some ⟨g6,0,none⟩) (m.memo.length+1) cp6]:=by
    rw [hY]
    exact HA_Y2.out
   have HZY:Hid (Mf Y (w.heap.size+1) [.slice none 0 0,.int .i64 0,.string ⟨#[]⟩,.int .i64 0,.slice none 0 0,.int .i64 0,.bool false,.int .i64 0,.int .i64 0,.int .i64 0,.slice none 0 0]):=HZ_Y2.out.kept KY (by omega)
   have HKY:Hid (Kept (fun b=>b=w.heap.size) Y2 Y):=KY
   obtain ⟨c0,c1,c2,c3,c4,c5,c6,c7,c8,c9,c10,y0,y1,y2,y3,y4,y5,y6,y7,y8,y9,y10⟩:=HAY.all
   obtain ⟨d0,d1,d2,d3,d4,d5,d6,d7,d8,d9,d10,z0,z1,z2,z3,z4,z5,z6,z7,z8,z9,z10⟩:=HZY.out.all
   clear HAY hY KY
   go_wp2
   clear c0 c1 c2 c3 c4 c5 c6 c7 c8 c9 c10 y0 y1 y2 y3 y4 y5 y6 y7 y8 y9 y10 d0 d1 d2 d3 d4 d5 d6 d7 d8 d9 d10 z0 z1 z2 z3 z4 z5 z6 z7 z8 z9 z10
   obtain ⟨WF,hWF⟩:∃ WF,WF=(((((((((((Y).setCell ⟨w.heap.size+1,0,none⟩ (.slice ra m.row.length rc)).setCell ⟨w.heap.size+1,1,none⟩ (.int .i64 m.N)).setCell ⟨w.heap.size+1,2,none⟩ (.string m.S)).setCell ⟨w.heap.size+1,3,none⟩ (.int .i64 m.room)).setCell ⟨w.heap.size+1,4,none⟩ (.slice va vl.length vc)).setCell ⟨w.heap.size+1,5,none⟩ (.int .i64 m.ret)).setCell ⟨w.heap.size+1,6,none⟩ (.bool m.over)).setCell ⟨w.heap.size+1,7,none⟩ (.int .i64 m.steps)).setCell ⟨w.heap.size+1,8,none⟩ (.int .i64 m.looks)).setCell ⟨w.heap.size+1,9,none⟩ (.int .i64 m.hits)).setCell ⟨w.heap.size+1,10,none⟩ (.slice (some ⟨g6,0,none⟩) (m.memo.length+1) cp6):=⟨_,rfl⟩
   rw [<- hWF]
   have KF:Kept (fun b=>b=w.heap.size\/b=w.heap.size+1) Y2 WF:=by rw [hWF];exact ((((((((((((HKY.out.mono (fun b hb=>.inl hb):Kept (fun b=>b=w.heap.size\/b=w.heap.size+1) Y2 Y)).setCell (p:=⟨w.heap.size+1,0,none⟩) (.inr rfl) _).setCell (p:=⟨w.heap.size+1,1,none⟩) (.inr rfl) _).setCell (p:=⟨w.heap.size+1,2,none⟩) (.inr rfl) _).setCell (p:=⟨w.heap.size+1,3,none⟩) (.inr rfl) _).setCell (p:=⟨w.heap.size+1,4,none⟩) (.inr rfl) _).setCell (p:=⟨w.heap.size+1,5,none⟩) (.inr rfl) _).setCell (p:=⟨w.heap.size+1,6,none⟩) (.inr rfl) _).setCell (p:=⟨w.heap.size+1,7,none⟩) (.inr rfl) _).setCell (p:=⟨w.heap.size+1,8,none⟩) (.inr rfl) _).setCell (p:=⟨w.heap.size+1,9,none⟩) (.inr rfl) _).setCell (p:=⟨w.heap.size+1,10,none⟩) (.inr rfl) _
   have HF:Mf WF (w.heap.size+1) [.slice ra m.row.length rc,.int .i64 m.N,.string m.S,.int .i64 m.room,.slice va vl.length vc,.int .i64 m.ret,.bool m.over,.int .i64 m.steps,.int .i64 m.looks,.int .i64 m.hits,.slice (some ⟨g6,0,none⟩) (m.memo.length+1) cp6]:=by
    rw [hWF]
    exact (((((((((((HZY.out.set 0 (.slice ra m.row.length rc)).set 1 (.int .i64 m.N)).set 2 (.string m.S)).set 3 (.int .i64 m.room)).set 4 (.slice va vl.length vc)).set 5 (.int .i64 m.ret)).set 6 (.bool m.over)).set 7 (.int .i64 m.steps)).set 8 (.int .i64 m.looks)).set 9 (.int .i64 m.hits)).set 10 (.slice (some ⟨g6,0,none⟩) (m.memo.length+1) cp6))
   obtain ⟨c0,c1,c2,c3,c4,c5,c6,c7,c8,c9,c10,y0,y1,y2,y3,y4,y5,y6,y7,y8,y9,y10⟩:=HF.all
   clear hWF
   have hq:=HQ.out
   have hs2:=HS2.out
   have hgq:=HGQ.out
   have hzl:=HZL.out
   have fr:Owb WF B (.slice ra m.row.length rc) m.row:=HRW2.out.kept KF (fun i hi h=>by
    cases ra with
    | none=>cases hi
    | some x =>
      have:=hq.1 x rfl
      simp [Value.ownBlock] at hi
      omega)
   have fv:Ows WF B (.slice va vl.length vc) vl:=HVL2.out.kept KF (fun i hi h=>by
    cases va with
    | none=>cases hi
    | some x =>
      have:=hq.2.1 x rfl
      simp [Value.ownBlock] at hi
      omega)
   have fm:OwSn WF B (.slice (some ⟨g6,0,none⟩) (m.memo.length+1) cp6) (m.memo++[(⟨KEY,m.ret⟩:Sn)]):=HO2.out.kept KF (fun i hi h=>by
    have e:g6=i:=by simpa [Value.ownBlock] using hi
    omega)
   have hbr:=Below.refl Y2.heap.size Y2
   refine bodyPost_ret (v:=mval ({ m with vals:=vl,memo:=KM }) ra va (some ⟨g6,0,none⟩) rc vc cp6) (by simp [results,Tryz.results93,go_sem,HD.out,c0,c1,c2,c3,c4,c5,c6,c7,c8,c9,c10]) rfl ?_
   refine ⟨ra,va,some ⟨g6,0,none⟩,rc,vc,cp6,rfl,⟨fr,fv,by rw [HD.out,List.length_append];exact fm,HRV.out,fun x y hx hy=>by cases hy;exact HRM.out x hx,fun x y hx hy=>by cases hy;exact HVM.out x hx⟩,?_,⟨rfl,fun x hx=>.inl ⟨x,hx,rfl⟩,fun x hx=>by cases hx;exact HFR.out⟩⟩
   exact ⟨(KF.os.trans hbr.os).trans HKO.out.1,(KF.tape.trans hbr.tape).trans HKO.out.2.1,(KF.output.trans hbr.output).trans HKO.out.2.2,Nat.le_trans (Nat.le_trans HS2.out.2 HS2.out.1) (Nat.le_trans hbr.size KF.size),fun i hi hne=>(KF.block i (by have:=HS2.out;have:=hbr.size;omega) (fun h=>by omega)).trans ((hbr.block i (by have:=HS2.out;omega)).trans (HKW.out i hi hne))⟩
  have hlb:decide (m.room < (m.memo.length:Int)+1)=true:=decide_eq_true hlen
  obtain ⟨DL,hDL⟩:∃ DL,DL=(m.memo++[(⟨KEY,m.ret⟩:Sn)]).drop 1:=⟨_,rfl⟩
  have hDn:DL.length=m.memo.length:=by rw [hDL,List.length_drop,List.length_append];simp
  have HD:Hid (KM=DL):=by
   show _=_
   rw [HKM2.out,if_pos,hDL]
   rw [List.length_append]
   simp
   omega
  have hcap:m.memo.length+1<=cp6:=by
   rcases HO2.out.2 with ⟨e,_⟩|⟨g',cap,cur,e,hb,hg,hn,_⟩
   ·cases e
   ·injection e with e1 e2 e3
    subst e3
    simpa using hn
  have hsl2:∀ W:World,(Instr.slice 33 (.slice (some ⟨g6,0,none⟩) (m.memo.length+1) cp6) (some (.int .i64 1)) none none).run Tryz.prog W=.ok (.slice (some ⟨g6,2,none⟩) DL.length (cp6 - 1)) W:=fun W=>by rw [hDn];exact slS g6 m.memo.length cp6 hcap (by omega) W
  have HSN:Hid (Sns Y2 (some ⟨g6,2,none⟩) DL):=by
   have h1:Sns Y2 (some ⟨g6,0,none⟩) (m.memo++[(⟨KEY,m.ret⟩:Sn)]):=by
    obtain ⟨a3,c3,e3,f3,_⟩:=HO2.out.form
    injection e3 with e1 e2 e4
    subst e1
    exact f3.plain
   refine ⟨by rw [hDn];unfold maxLen;omega,?_⟩
   rcases h1.2 with e|⟨b,o,hb,hcs⟩
   ·simp at e
   ·cases hb
    refine .inr ⟨g6,2,rfl,fun i hi=>?_⟩
    have h2:=hcs (i+1) (by rw [List.length_append];simp;omega)
    have e:DL[i]=(m.memo++[(⟨KEY,m.ret⟩:Sn)])[i+1]'(by rw [List.length_append];simp;omega):=by
     subst hDL
     rw [List.getElem_drop]
     congr 1
     omega
    rw [e]
    rw [show 0+(i+1)*2=2+i*2 by omega] at h2
    exact h2
  have HDL1:Hid (DL.length<=1048576):=by show _<=_;omega
  clear hDL hDn hcap HKM2
  have f10:(Y2.alloc (.cells #[] 102)).cell? ⟨w.heap.size,10,none⟩=some (.slice (some ⟨g6,0,none⟩) (m.memo.length+1) cp6):=(HA_Y2.out.alloc (.cells #[] 102) 10 (by simp)).1
  go_upto_region 15 with (at_builtin;go_must (refine allSs Y2 rfl _ _ rfl DL (some ⟨g6,2,none⟩) (cp6 - 1) Y2.heap.size rfl rfl rfl HSN.out HDL1.out ?_;intro v7 w7 ho7 hb7;obtain ⟨ma7,mc7,hv7,_,_⟩:=ho7.form;subst hv7;have HO7:Hid (OwSn w7 Y2.heap.size (.slice ma7 DL.length mc7) DL):=ho7;have HB7:Hid (Below Y2.heap.size Y2 w7):=hb7;have HA_w7:Hid (Mf w7 (w.heap.size) [.slice ra m.row.length rc,.int .i64 m.N,.string m.S,.int .i64 m.room,.slice va vl.length vc,.int .i64 m.ret,.bool m.over,.int .i64 m.steps,.int .i64 m.looks,.int .i64 m.hits,.slice (some ⟨g6,0,none⟩) (m.memo.length+1) cp6]):=HA_Y2.out.below hb7;have n10:w7.cell? ⟨w.heap.size,10,none⟩=some (.slice (some ⟨g6,0,none⟩) (m.memo.length+1) cp6):=(HA_w7.out 10 (by simp)).1;have r10:w7.frozen? ⟨w.heap.size,10,none⟩=false:=(HA_w7.out 10 (by simp)).2;clear ho7 hb7))
  clear e3 e10 f10 n10 r10 hsl2
  have HZ_w7:Hid (Mf w7 (w.heap.size+1) [.slice none 0 0,.int .i64 0,.string ⟨#[]⟩,.int .i64 0,.slice none 0 0,.int .i64 0,.bool false,.int .i64 0,.int .i64 0,.int .i64 0,.slice none 0 0]):=HZ_Y2.out.below HB7.out
  obtain ⟨Y,hY⟩:∃ Y,Y=(w7).setCell ⟨w.heap.size,10,none⟩ (.slice ma7 DL.length mc7):=⟨_,rfl⟩
  rw [<- hY]
  have KY:Kept (fun b=>b=w.heap.size) w7 Y:=by rw [hY];exact ((Kept.refl (fun b=>b=w.heap.size) w7)).setCell (p:=⟨w.heap.size,10,none⟩) rfl _
  have HAY:Mf Y (w.heap.size) [.slice ra m.row.length rc,.int .i64 m.N,.string m.S,.int .i64 m.room,.slice va vl.length vc,.int .i64 m.ret,.bool m.over,.int .i64 m.steps,.int .i64 m.looks,.int .i64 m.hits,.slice ma7 DL.length mc7]:=by
   rw [hY]
   exact (HA_w7.out.set 10 (.slice ma7 DL.length mc7))
  have HZY:Hid (Mf Y (w.heap.size+1) [.slice none 0 0,.int .i64 0,.string ⟨#[]⟩,.int .i64 0,.slice none 0 0,.int .i64 0,.bool false,.int .i64 0,.int .i64 0,.int .i64 0,.slice none 0 0]):=HZ_w7.out.kept KY (by omega)
  have HKY:Hid (Kept (fun b=>b=w.heap.size) w7 Y):=KY
  obtain ⟨c0,c1,c2,c3,c4,c5,c6,c7,c8,c9,c10,y0,y1,y2,y3,y4,y5,y6,y7,y8,y9,y10⟩:=HAY.all
  obtain ⟨d0,d1,d2,d3,d4,d5,d6,d7,d8,d9,d10,z0,z1,z2,z3,z4,z5,z6,z7,z8,z9,z10⟩:=HZY.out.all
  clear HAY hY KY
  go_wp2
  clear c0 c1 c2 c3 c4 c5 c6 c7 c8 c9 c10 y0 y1 y2 y3 y4 y5 y6 y7 y8 y9 y10 d0 d1 d2 d3 d4 d5 d6 d7 d8 d9 d10 z0 z1 z2 z3 z4 z5 z6 z7 z8 z9 z10
  obtain ⟨WF,hWF⟩:∃ WF,WF=(((((((((((Y).setCell ⟨w.heap.size+1,0,none⟩ (.slice ra m.row.length rc)).setCell ⟨w.heap.size+1,1,none⟩ (.int .i64 m.N)).setCell ⟨w.heap.size+1,2,none⟩ (.string m.S)).setCell ⟨w.heap.size+1,3,none⟩ (.int .i64 m.room)).setCell ⟨w.heap.size+1,4,none⟩ (.slice va vl.length vc)).setCell ⟨w.heap.size+1,5,none⟩ (.int .i64 m.ret)).setCell ⟨w.heap.size+1,6,none⟩ (.bool m.over)).setCell ⟨w.heap.size+1,7,none⟩ (.int .i64 m.steps)).setCell ⟨w.heap.size+1,8,none⟩ (.int .i64 m.looks)).setCell ⟨w.heap.size+1,9,none⟩ (.int .i64 m.hits)).setCell ⟨w.heap.size+1,10,none⟩ (.slice ma7 DL.length mc7):=⟨_,rfl⟩
  rw [<- hWF]
  have KF:Kept (fun b=>b=w.heap.size\/b=w.heap.size+1) w7 WF:=by rw [hWF];exact ((((((((((((HKY.out.mono (fun b hb=>.inl hb):Kept (fun b=>b=w.heap.size\/b=w.heap.size+1) w7 Y)).setCell (p:=⟨w.heap.size+1,0,none⟩) (.inr rfl) _).setCell (p:=⟨w.heap.size+1,1,none⟩) (.inr rfl) _).setCell (p:=⟨w.heap.size+1,2,none⟩) (.inr rfl) _).setCell (p:=⟨w.heap.size+1,3,none⟩) (.inr rfl) _).setCell (p:=⟨w.heap.size+1,4,none⟩) (.inr rfl) _).setCell (p:=⟨w.heap.size+1,5,none⟩) (.inr rfl) _).setCell (p:=⟨w.heap.size+1,6,none⟩) (.inr rfl) _).setCell (p:=⟨w.heap.size+1,7,none⟩) (.inr rfl) _).setCell (p:=⟨w.heap.size+1,8,none⟩) (.inr rfl) _).setCell (p:=⟨w.heap.size+1,9,none⟩) (.inr rfl) _).setCell (p:=⟨w.heap.size+1,10,none⟩) (.inr rfl) _
  have HF:Mf WF (w.heap.size+1) [.slice ra m.row.length rc,.int .i64 m.N,.string m.S,.int .i64 m.room,.slice va vl.length vc,.int .i64 m.ret,.bool m.over,.int .i64 m.steps,.int .i64 m.looks,.int .i64 m.hits,.slice ma7 DL.length mc7]:=by
   rw [hWF]
   exact (((((((((((HZY.out.set 0 (.slice ra m.row.length rc)).set 1 (.int .i64 m.N)).set 2 (.string m.S)).set 3 (.int .i64 m.room)).set 4 (.slice va vl.length vc)).set 5 (.int .i64 m.ret)).set 6 (.bool m.over)).set 7 (.int .i64 m.steps)).set 8 (.int .i64 m.looks)).set 9 (.int .i64 m.hits)).set 10 (.slice ma7 DL.length mc7))
  obtain ⟨c0,c1,c2,c3,c4,c5,c6,c7,c8,c9,c10,y0,y1,y2,y3,y4,y5,y6,y7,y8,y9,y10⟩:=HF.all
  clear hWF
  have hq:=HQ.out
  have hs2:=HS2.out
  have hzl:=HZL.out
  have hs7:=HB7.out.size
  have l7:=HO7.out.lt
  have fr:Owb WF B (.slice ra m.row.length rc) m.row:=(HRW2.out.kept (S:=fun _=>False) (Kept.ofBelow HB7.out) (fun _ _ h=>h)).kept KF (fun i hi h=>by
   cases ra with
   | none=>cases hi
   | some x =>
     have:=hq.1 x rfl
     simp [Value.ownBlock] at hi
     omega)
  have fv:Ows WF B (.slice va vl.length vc) vl:=(HVL2.out.kept (S:=fun _=>False) (Kept.ofBelow HB7.out) (fun _ _ h=>h)).kept KF (fun i hi h=>by
   cases va with
   | none=>cases hi
   | some x =>
     have:=hq.2.1 x rfl
     simp [Value.ownBlock] at hi
     omega)
  have fm:OwSn WF Y2.heap.size (.slice ma7 DL.length mc7) DL:=HO7.out.kept KF (fun i hi h=>by have:=l7 i hi;omega)
  have hbr:=HB7.out
  refine bodyPost_ret (v:=mval ({ m with vals:=vl,memo:=KM }) ra va ma7 rc vc mc7) (by simp [results,Tryz.results93,go_sem,HD.out,c0,c1,c2,c3,c4,c5,c6,c7,c8,c9,c10]) rfl ?_
  refine ⟨ra,va,ma7,rc,vc,mc7,by rw [HD.out],⟨fr,fv,by rw [HD.out];exact os_mono fm (by omega),HRV.out,fun x y hx hy=>?_,fun x y hx hy=>?_⟩,?_,⟨rfl,fun x hx=>.inl ⟨x,hx,rfl⟩,fun x hx=>.inr (by subst hx;have:=l7 _ own_of;omega)⟩⟩
  ·subst hy
   have a:=l7 _ own_of
   have b:=hq.1 x hx
   omega
  ·subst hy
   have a:=l7 _ own_of
   have b:=hq.2.1 x hx
   omega
  exact ⟨(KF.os.trans hbr.os).trans HKO.out.1,(KF.tape.trans hbr.tape).trans HKO.out.2.1,(KF.output.trans hbr.output).trans HKO.out.2.2,Nat.le_trans (Nat.le_trans HS2.out.2 HS2.out.1) (Nat.le_trans hbr.size KF.size),fun i hi hne=>(KF.block i (by have:=HS2.out;have:=hbr.size;omega) (fun h=>by omega)).trans ((hbr.block i (by have:=HS2.out;omega)).trans (HKW.out i hi hne))⟩
end Mu5
end Go.Proofs.YtladjpombohpaaaGreatDoor
