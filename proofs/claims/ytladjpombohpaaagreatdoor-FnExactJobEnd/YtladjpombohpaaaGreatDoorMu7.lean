import Derived.Test.YtladjpombohpaaaGreatDoorPkJE32
namespace Go.Proofs.YtladjpombohpaaaGreatDoor
set_option maxRecDepth 100000
set_option maxHeartbeats 8000000
set_option linter.unusedVariables false
namespace Mu7
open Go.RowKit
open Nd0 (Kept Ints lt_of_cell At)
open Ap0 Ap1 Qc0 Qc2 Cl0 Mm0 Mx0 Mu1 Mu2 Mu3 Mu4 Mu5 Mu6
open Ta0 Ta1 Ta2 Ta3 Tc2 Tc5 Td1 Td2 Td4 Mc0 Mm1
open Tk0 (keyL sKey)
open Ss0 (bs bs_size)
theorem getD_lt {l:List Bool} {k:Nat} (h:k < l.length):l.getD k false=l[k]:=by simp [List.getD,h]
theorem sUp (n:Nat) (F:Nat->Bool) (m:Mc) (ra va ma:Option Addr) (rc vc mc:Nat) (B:Nat) (w:World) (hn:n<=12) (hN:m.N=(n:Int)) (hS:m.S=bs (tab n F)) (hr:(m.row.length:Int)=m.N) (hv:(m.vals.length:Int)<=m.N) (hb:∀ x∈m.vals,0<=x/\x<=1) (hml:m.memo.length<=100) (hB:B<=w.heap.size) (h:MO w B m ra va ma rc vc mc) :
 Calls Tryz.prog 93 #[mval m ra va ma rc vc mc] w fun e w'=>∃ ra' va' ma' rc' vc' mc',e=.returned (mval (upM n F m) ra' va' ma' rc' vc' mc')/\MO w' B (upM n F m) ra' va' ma' rc' vc' mc'/\Kept (fun b=>At va b\/At ma b) w w'/\FR w ra va ma ra' va' ma':=by
 unfold upM
 by_cases he:m.vals=[]
 ·rw [if_pos he]
  exact sUpEnd m ra va ma rc vc mc B w he h
 rw [if_neg he]
 have hd:=drop_last he
 have hdl:m.vals.dropLast.length+1=m.vals.length:=by
  have:=congrArg List.length hd
  rw [List.length_append,List.length_singleton] at this
  omega
 have hrl:m.vals.dropLast.length < m.row.length:=by omega
 have hgd:m.row.getD m.vals.dropLast.length false=m.row[m.vals.dropLast.length]:=getD_lt hrl
 rw [hgd]
 have hbd:∀ x∈m.vals.dropLast,0<=x/\x<=1:=fun x hx=>hb x (List.dropLast_subset _ hx)
 by_cases hc:(m.row[m.vals.dropLast.length] != (m.ret==0)&&m.vals.getLastD 0==0)=true
 ·rw [if_pos hc]
  rw [Bool.and_eq_true] at hc
  have h0:m.vals.getLastD 0=0:=by simpa using hc.2
  rw [h0] at hd
  refine sUpTurn m.vals.dropLast m.row[m.vals.dropLast.length] m ra va ma rc vc mc B w hd (by omega) hrl rfl ?_ h
  have h1:=hc.1
  revert h1
  cases m.row[m.vals.dropLast.length]<;>cases (m.ret==0)<;>simp
 ·rw [if_neg hc]
  have hl:=bools_len m.vals.dropLast
  refine sUpPop n F (bools m.vals.dropLast) m.vals.dropLast (m.vals.getLastD 0) m.row[m.vals.dropLast.length] m ra va ma rc vc mc B w hn hN hS (bools_bi hbd) (by omega) hd hrl rfl ?_ hml hB h
  revert hc
  cases m.row[m.vals.dropLast.length]<;>cases (m.ret==0)<;>cases (m.vals.getLastD 0==0)<;>simp
theorem sStep (n:Nat) (F:Nat->Bool) (m:Mc) (ra va ma:Option Addr) (rc vc mc:Nat) (B:Nat) (w:World) (hn:n<=12) (hN:m.N=(n:Int)) (hS:m.S=bs (tab n F)) (hok:Mok m) (hB:B<=w.heap.size) (h:MO w B m ra va ma rc vc mc) :
 Calls Tryz.prog 57 #[mval m ra va ma rc vc mc] w fun e w'=>∃ ra' va' ma' rc' vc' mc',e=.returned (mval (stepM n F m) ra' va' ma' rc' vc' mc')/\MO w' B (stepM n F m) ra' va' ma' rc' vc' mc'/\Kept (fun b=>At va b\/At ma b) w w'/\FR w ra va ma ra' va' ma':=by
 have HM0:Hid (MO w B m ra va ma rc vc mc):=h
 have HQ:Hid ((∀ x,ra=some x->x.block < w.heap.size)/\(∀ x,va=some x->x.block < w.heap.size)/\(∀ x,ma=some x->x.block < w.heap.size)):=Mu3.MO.lts h
 have HD1:Hid (m.over=true\/1000000000<=m.steps->stepM n F m=m):=fun k=>by unfold stepM;exact if_pos k
 have HD2:Hid (¬ (m.over=true\/1000000000<=m.steps)->m.ret < 0->stepM n F m=downM n F (bools m.vals) { m with steps:=m.steps+1 }):=fun k k2=>by unfold stepM;rw [if_neg k,if_pos k2]
 have HD3:Hid (¬ (m.over=true\/1000000000<=m.steps)->¬ m.ret < 0->stepM n F m=upM n F { m with steps:=m.steps+1 }):=fun k k2=>by unfold stepM;rw [if_neg k,if_neg k2]
 have HDN:Hid (∀ W,MO W B { m with steps:=m.steps+1 } ra va ma rc vc mc->B<=W.heap.size->Calls Tryz.prog 92 #[mval { m with steps:=m.steps+1 } ra va ma rc vc mc] W fun e w'=>∃ ra' va' ma' rc' vc' mc',e=.returned (mval (downM n F (bools m.vals) { m with steps:=m.steps+1 }) ra' va' ma' rc' vc' mc')/\MO w' B (downM n F (bools m.vals) { m with steps:=m.steps+1 }) ra' va' ma' rc' vc' mc'/\Kept (fun b=>At va b\/At ma b) W w'/\FR W ra va ma ra' va' ma'):=fun W k1 k2=>by
  have hl:=bools_len m.vals
  have h5:=hok.vals
  exact sDown n F (bools m.vals) { m with steps:=m.steps+1 } ra va ma rc vc mc B W hn hN hS (bools_bi hok.bits) (by omega) hok.looks hok.hits k2 k1
 have HUP:Hid (∀ W,MO W B { m with steps:=m.steps+1 } ra va ma rc vc mc->B<=W.heap.size->Calls Tryz.prog 93 #[mval { m with steps:=m.steps+1 } ra va ma rc vc mc] W fun e w'=>∃ ra' va' ma' rc' vc' mc',e=.returned (mval (upM n F { m with steps:=m.steps+1 }) ra' va' ma' rc' vc' mc')/\MO w' B (upM n F { m with steps:=m.steps+1 }) ra' va' ma' rc' vc' mc'/\Kept (fun b=>At va b\/At ma b) W w'/\FR W ra va ma ra' va' ma'):=fun W k1 k2=>sUp n F { m with steps:=m.steps+1 } ra va ma rc vc mc B W hn hN hS hok.row hok.vals hok.bits (by
  have h4:=hok.memo
  have h3:=hok.room
  show m.memo.length<=100
  omega) k2 k1
 have hst:=hok.steps
 clear h hok hN hS hn
 generalize stepM n F m=SM at *
 generalize downM n F (bools m.vals) { m with steps:=m.steps+1 }=DM at *
 generalize upM n F { m with steps:=m.steps+1 }=UM at *
 obtain ⟨X0,hX0⟩:∃ X0,X0=((w.alloc (.cells #[.slice ra m.row.length rc,.int .i64 m.N,.string m.S,.int .i64 m.room,.slice va m.vals.length vc,.int .i64 m.ret,.bool m.over,.int .i64 m.steps,.int .i64 m.looks,.int .i64 m.hits,.slice ma m.memo.length mc] 35)).alloc (.cells #[.slice none 0 0,.int .i64 0,.string ⟨#[]⟩,.int .i64 0,.slice none 0 0,.int .i64 0,.bool false,.int .i64 0,.int .i64 0,.int .i64 0,.slice none 0 0] 35)):=⟨_,rfl⟩
 have HE0:Hid (((w.alloc (.cells #[.slice ra m.row.length rc,.int .i64 m.N,.string m.S,.int .i64 m.room,.slice va m.vals.length vc,.int .i64 m.ret,.bool m.over,.int .i64 m.steps,.int .i64 m.looks,.int .i64 m.hits,.slice ma m.memo.length mc] 35)).alloc (.cells #[.slice none 0 0,.int .i64 0,.string ⟨#[]⟩,.int .i64 0,.slice none 0 0,.int .i64 0,.bool false,.int .i64 0,.int .i64 0,.int .i64 0,.slice none 0 0] 35))=X0):=hX0.symm
 have HB0:Hid (Below w.heap.size w X0):=by rw [hX0];exact ((Below.refl _ _).alloc (Nat.le_refl _) _).alloc (by simp) _
 have HA0:Hid (Mf X0 (w.heap.size) [.slice ra m.row.length rc,.int .i64 m.N,.string m.S,.int .i64 m.room,.slice va m.vals.length vc,.int .i64 m.ret,.bool m.over,.int .i64 m.steps,.int .i64 m.looks,.int .i64 m.hits,.slice ma m.memo.length mc]):=by rw [hX0];exact (Mf.made _ _ _).alloc _
 have HZ0:Hid (Mf X0 (w.heap.size+1) [.slice none 0 0,.int .i64 0,.string ⟨#[]⟩,.int .i64 0,.slice none 0 0,.int .i64 0,.bool false,.int .i64 0,.int .i64 0,.int .i64 0,.slice none 0 0]):=by
  have h1:=Mf.made (w.alloc (.cells #[.slice ra m.row.length rc,.int .i64 m.N,.string m.S,.int .i64 m.room,.slice va m.vals.length vc,.int .i64 m.ret,.bool m.over,.int .i64 m.steps,.int .i64 m.looks,.int .i64 m.hits,.slice ma m.memo.length mc] 35)) #[.slice none 0 0,.int .i64 0,.string ⟨#[]⟩,.int .i64 0,.slice none 0 0,.int .i64 0,.bool false,.int .i64 0,.int .i64 0,.int .i64 0,.slice none 0 0] 35
  have h2:(w.alloc (.cells #[.slice ra m.row.length rc,.int .i64 m.N,.string m.S,.int .i64 m.room,.slice va m.vals.length vc,.int .i64 m.ret,.bool m.over,.int .i64 m.steps,.int .i64 m.looks,.int .i64 m.hits,.slice ma m.memo.length mc] 35)).heap.size=w.heap.size+1:=by simp
  rw [h2,<- hX0] at h1
  exact h1
 have HS0:Hid (w.heap.size+2<=X0.heap.size):=by show _<=_;rw [hX0];simp
 clear hX0
 have HB_X0:Hid (Below w.heap.size w X0):=HB0.out
 have HA_X0:Hid (Mf X0 (w.heap.size) [.slice ra m.row.length rc,.int .i64 m.N,.string m.S,.int .i64 m.room,.slice va m.vals.length vc,.int .i64 m.ret,.bool m.over,.int .i64 m.steps,.int .i64 m.looks,.int .i64 m.hits,.slice ma m.memo.length mc]):=HA0.out
 have HZ_X0:Hid (Mf X0 (w.heap.size+1) [.slice none 0 0,.int .i64 0,.string ⟨#[]⟩,.int .i64 0,.slice none 0 0,.int .i64 0,.bool false,.int .i64 0,.int .i64 0,.int .i64 0,.slice none 0 0]):=HZ0.out
 have HM_X0:Hid (MO X0 B m ra va ma rc vc mc):=HM0.out.below HB0.out
 clear HB0 HA0 HZ0
 cases ho:m.over
 rotate_left
 ·have HD:Hid (SM=m):=HD1.out (.inl ho)
  have HOV:Hid (m.over=true):=ho
  clear ho HD1 HD2 HD3 HDN HUP
  go_enter Tryz.func57,Tryz.ntmps57
  go_upto_region 1 with fail
  rw [HE0.out]
  clear HE0
  obtain ⟨c0,c1,c2,c3,c4,c5,c6,c7,c8,c9,c10,y0,y1,y2,y3,y4,y5,y6,y7,y8,y9,y10⟩:=HA_X0.out.all
  rw [HOV.out] at c6
  go_upto_region 2 with fail
  clear c0 c1 c2 c3 c4 c5 c6 c7 c8 c9 c10 y0 y1 y2 y3 y4 y5 y6 y7 y8 y9 y10
  obtain ⟨Y,hY⟩:∃ Y,Y=X0:=⟨_,rfl⟩
  rw [<- hY]
  have KY:Kept (fun b=>b=w.heap.size) X0 Y:=by rw [hY];exact (Kept.refl (fun b=>b=w.heap.size) X0)
  have HAY:Mf Y (w.heap.size) [.slice ra m.row.length rc,.int .i64 m.N,.string m.S,.int .i64 m.room,.slice va m.vals.length vc,.int .i64 m.ret,.bool m.over,.int .i64 m.steps,.int .i64 m.looks,.int .i64 m.hits,.slice ma m.memo.length mc]:=by
   rw [hY]
   exact HA_X0.out
  have HZY:Hid (Mf Y (w.heap.size+1) [.slice none 0 0,.int .i64 0,.string ⟨#[]⟩,.int .i64 0,.slice none 0 0,.int .i64 0,.bool false,.int .i64 0,.int .i64 0,.int .i64 0,.slice none 0 0]):=HZ_X0.out.kept KY (by omega)
  have HKY:Hid (Kept (fun b=>b=w.heap.size) X0 Y):=KY
  obtain ⟨c0,c1,c2,c3,c4,c5,c6,c7,c8,c9,c10,y0,y1,y2,y3,y4,y5,y6,y7,y8,y9,y10⟩:=HAY.all
  obtain ⟨d0,d1,d2,d3,d4,d5,d6,d7,d8,d9,d10,z0,z1,z2,z3,z4,z5,z6,z7,z8,z9,z10⟩:=HZY.out.all
  clear HAY hY KY
  go_wp2
  clear c0 c1 c2 c3 c4 c5 c6 c7 c8 c9 c10 y0 y1 y2 y3 y4 y5 y6 y7 y8 y9 y10 d0 d1 d2 d3 d4 d5 d6 d7 d8 d9 d10 z0 z1 z2 z3 z4 z5 z6 z7 z8 z9 z10
  obtain ⟨WF,hWF⟩:∃ WF,WF=(((((((((((Y).setCell ⟨w.heap.size+1,0,none⟩ (.slice ra m.row.length rc)).setCell ⟨w.heap.size+1,1,none⟩ (.int .i64 m.N)).setCell ⟨w.heap.size+1,2,none⟩ (.string m.S)).setCell ⟨w.heap.size+1,3,none⟩ (.int .i64 m.room)).setCell ⟨w.heap.size+1,4,none⟩ (.slice va m.vals.length vc)).setCell ⟨w.heap.size+1,5,none⟩ (.int .i64 m.ret)).setCell ⟨w.heap.size+1,6,none⟩ (.bool m.over)).setCell ⟨w.heap.size+1,7,none⟩ (.int .i64 m.steps)).setCell ⟨w.heap.size+1,8,none⟩ (.int .i64 m.looks)).setCell ⟨w.heap.size+1,9,none⟩ (.int .i64 m.hits)).setCell ⟨w.heap.size+1,10,none⟩ (.slice ma m.memo.length mc):=⟨_,rfl⟩
  rw [<- hWF]
  have KF:Kept (fun b=>b=w.heap.size\/b=w.heap.size+1) X0 WF:=by rw [hWF];exact ((((((((((((HKY.out.mono (fun b hb=>.inl hb):Kept (fun b=>b=w.heap.size\/b=w.heap.size+1) X0 Y)).setCell (p:=⟨w.heap.size+1,0,none⟩) (.inr rfl) _).setCell (p:=⟨w.heap.size+1,1,none⟩) (.inr rfl) _).setCell (p:=⟨w.heap.size+1,2,none⟩) (.inr rfl) _).setCell (p:=⟨w.heap.size+1,3,none⟩) (.inr rfl) _).setCell (p:=⟨w.heap.size+1,4,none⟩) (.inr rfl) _).setCell (p:=⟨w.heap.size+1,5,none⟩) (.inr rfl) _).setCell (p:=⟨w.heap.size+1,6,none⟩) (.inr rfl) _).setCell (p:=⟨w.heap.size+1,7,none⟩) (.inr rfl) _).setCell (p:=⟨w.heap.size+1,8,none⟩) (.inr rfl) _).setCell (p:=⟨w.heap.size+1,9,none⟩) (.inr rfl) _).setCell (p:=⟨w.heap.size+1,10,none⟩) (.inr rfl) _
  have HF:Mf WF (w.heap.size+1) [.slice ra m.row.length rc,.int .i64 m.N,.string m.S,.int .i64 m.room,.slice va m.vals.length vc,.int .i64 m.ret,.bool m.over,.int .i64 m.steps,.int .i64 m.looks,.int .i64 m.hits,.slice ma m.memo.length mc]:=by
   rw [hWF]
   exact (((((((((((HZY.out.set 0 (.slice ra m.row.length rc)).set 1 (.int .i64 m.N)).set 2 (.string m.S)).set 3 (.int .i64 m.room)).set 4 (.slice va m.vals.length vc)).set 5 (.int .i64 m.ret)).set 6 (.bool m.over)).set 7 (.int .i64 m.steps)).set 8 (.int .i64 m.looks)).set 9 (.int .i64 m.hits)).set 10 (.slice ma m.memo.length mc))
  obtain ⟨c0,c1,c2,c3,c4,c5,c6,c7,c8,c9,c10,y0,y1,y2,y3,y4,y5,y6,y7,y8,y9,y10⟩:=HF.all
  clear hWF
  have hq:=HQ.out
  have mo:MO WF B m ra va ma rc vc mc:=HM_X0.out.kept KF (fun x hx h=>by have:=hq.1 x hx;omega) (fun x hx h=>by have:=hq.2.1 x hx;omega) (fun x hx h=>by have:=hq.2.2 x hx;omega)
  have fb:Below w.heap.size w WF:=HB_X0.out.trans (KF.below (fun b hb=>by omega) HB_X0.out.size)
  refine bodyPost_ret (v:=mval (m) ra va ma rc vc mc) (by simp [results,Tryz.results57,go_sem,c0,c1,c2,c3,c4,c5,c6,c7,c8,c9,c10]) rfl ?_
  rw [HD.out]
  exact ⟨ra,va,ma,rc,vc,mc,rfl,mo,Kept.ofBelow fb,FR.refl _ _ _ _⟩
 have HOV:Hid (m.over=false):=ho
 clear ho
 by_cases hs:1000000000<=m.steps
 ·have HD:Hid (SM=m):=HD1.out (.inr hs)
  have hsb:decide (1000000000<=m.steps)=true:=decide_eq_true hs
  clear HD1 HD2 HD3 HDN HUP
  go_enter Tryz.func57,Tryz.ntmps57
  go_upto_region 1 with fail
  rw [HE0.out]
  clear HE0
  obtain ⟨c0,c1,c2,c3,c4,c5,c6,c7,c8,c9,c10,y0,y1,y2,y3,y4,y5,y6,y7,y8,y9,y10⟩:=HA_X0.out.all
  rw [HOV.out] at c6
  go_upto_region 2 with fail
  clear c0 c1 c2 c3 c4 c5 c6 c7 c8 c9 c10 y0 y1 y2 y3 y4 y5 y6 y7 y8 y9 y10
  obtain ⟨Y,hY⟩:∃ Y,Y=X0:=⟨_,rfl⟩
  rw [<- hY]
  have KY:Kept (fun b=>b=w.heap.size) X0 Y:=by rw [hY];exact (Kept.refl (fun b=>b=w.heap.size) X0)
  have HAY:Mf Y (w.heap.size) [.slice ra m.row.length rc,.int .i64 m.N,.string m.S,.int .i64 m.room,.slice va m.vals.length vc,.int .i64 m.ret,.bool m.over,.int .i64 m.steps,.int .i64 m.looks,.int .i64 m.hits,.slice ma m.memo.length mc]:=by
   rw [hY]
   exact HA_X0.out
  have HZY:Hid (Mf Y (w.heap.size+1) [.slice none 0 0,.int .i64 0,.string ⟨#[]⟩,.int .i64 0,.slice none 0 0,.int .i64 0,.bool false,.int .i64 0,.int .i64 0,.int .i64 0,.slice none 0 0]):=HZ_X0.out.kept KY (by omega)
  have HKY:Hid (Kept (fun b=>b=w.heap.size) X0 Y):=KY
  obtain ⟨c0,c1,c2,c3,c4,c5,c6,c7,c8,c9,c10,y0,y1,y2,y3,y4,y5,y6,y7,y8,y9,y10⟩:=HAY.all
  obtain ⟨d0,d1,d2,d3,d4,d5,d6,d7,d8,d9,d10,z0,z1,z2,z3,z4,z5,z6,z7,z8,z9,z10⟩:=HZY.out.all
  clear HAY hY KY
  go_wp2
  clear c0 c1 c2 c3 c4 c5 c6 c7 c8 c9 c10 y0 y1 y2 y3 y4 y5 y6 y7 y8 y9 y10 d0 d1 d2 d3 d4 d5 d6 d7 d8 d9 d10 z0 z1 z2 z3 z4 z5 z6 z7 z8 z9 z10
  obtain ⟨WF,hWF⟩:∃ WF,WF=(((((((((((Y).setCell ⟨w.heap.size+1,0,none⟩ (.slice ra m.row.length rc)).setCell ⟨w.heap.size+1,1,none⟩ (.int .i64 m.N)).setCell ⟨w.heap.size+1,2,none⟩ (.string m.S)).setCell ⟨w.heap.size+1,3,none⟩ (.int .i64 m.room)).setCell ⟨w.heap.size+1,4,none⟩ (.slice va m.vals.length vc)).setCell ⟨w.heap.size+1,5,none⟩ (.int .i64 m.ret)).setCell ⟨w.heap.size+1,6,none⟩ (.bool m.over)).setCell ⟨w.heap.size+1,7,none⟩ (.int .i64 m.steps)).setCell ⟨w.heap.size+1,8,none⟩ (.int .i64 m.looks)).setCell ⟨w.heap.size+1,9,none⟩ (.int .i64 m.hits)).setCell ⟨w.heap.size+1,10,none⟩ (.slice ma m.memo.length mc):=⟨_,rfl⟩
  rw [<- hWF]
  have KF:Kept (fun b=>b=w.heap.size\/b=w.heap.size+1) X0 WF:=by rw [hWF];exact ((((((((((((HKY.out.mono (fun b hb=>.inl hb):Kept (fun b=>b=w.heap.size\/b=w.heap.size+1) X0 Y)).setCell (p:=⟨w.heap.size+1,0,none⟩) (.inr rfl) _).setCell (p:=⟨w.heap.size+1,1,none⟩) (.inr rfl) _).setCell (p:=⟨w.heap.size+1,2,none⟩) (.inr rfl) _).setCell (p:=⟨w.heap.size+1,3,none⟩) (.inr rfl) _).setCell (p:=⟨w.heap.size+1,4,none⟩) (.inr rfl) _).setCell (p:=⟨w.heap.size+1,5,none⟩) (.inr rfl) _).setCell (p:=⟨w.heap.size+1,6,none⟩) (.inr rfl) _).setCell (p:=⟨w.heap.size+1,7,none⟩) (.inr rfl) _).setCell (p:=⟨w.heap.size+1,8,none⟩) (.inr rfl) _).setCell (p:=⟨w.heap.size+1,9,none⟩) (.inr rfl) _).setCell (p:=⟨w.heap.size+1,10,none⟩) (.inr rfl) _
  have HF:Mf WF (w.heap.size+1) [.slice ra m.row.length rc,.int .i64 m.N,.string m.S,.int .i64 m.room,.slice va m.vals.length vc,.int .i64 m.ret,.bool m.over,.int .i64 m.steps,.int .i64 m.looks,.int .i64 m.hits,.slice ma m.memo.length mc]:=by
   rw [hWF]
   exact (((((((((((HZY.out.set 0 (.slice ra m.row.length rc)).set 1 (.int .i64 m.N)).set 2 (.string m.S)).set 3 (.int .i64 m.room)).set 4 (.slice va m.vals.length vc)).set 5 (.int .i64 m.ret)).set 6 (.bool m.over)).set 7 (.int .i64 m.steps)).set 8 (.int .i64 m.looks)).set 9 (.int .i64 m.hits)).set 10 (.slice ma m.memo.length mc))
  obtain ⟨c0,c1,c2,c3,c4,c5,c6,c7,c8,c9,c10,y0,y1,y2,y3,y4,y5,y6,y7,y8,y9,y10⟩:=HF.all
  clear hWF
  have hq:=HQ.out
  have mo:MO WF B m ra va ma rc vc mc:=HM_X0.out.kept KF (fun x hx h=>by have:=hq.1 x hx;omega) (fun x hx h=>by have:=hq.2.1 x hx;omega) (fun x hx h=>by have:=hq.2.2 x hx;omega)
  have fb:Below w.heap.size w WF:=HB_X0.out.trans (KF.below (fun b hb=>by omega) HB_X0.out.size)
  refine bodyPost_ret (v:=mval (m) ra va ma rc vc mc) (by simp [results,Tryz.results57,go_sem,c0,c1,c2,c3,c4,c5,c6,c7,c8,c9,c10]) rfl ?_
  rw [HD.out]
  exact ⟨ra,va,ma,rc,vc,mc,rfl,mo,Kept.ofBelow fb,FR.refl _ _ _ _⟩
 have hsb:decide (1000000000<=m.steps)=false:=decide_eq_false hs
 have HNO:Hid (¬ (m.over=true\/1000000000<=m.steps)):=by
  rintro (e|e)
  ·rw [HOV.out] at e;cases e
  ·exact hs e
 by_cases hr:m.ret < 0
 ·have HE:Hid (SM=DM):=HD2.out HNO.out hr
  have hrb:decide (m.ret < 0)=true:=decide_eq_true hr
  clear HD1 HD2 HD3 HUP HNO
  rw [<- HE.out] at HDN
  clear HE
  go_enter Tryz.func57,Tryz.ntmps57
  go_upto_region 1 with fail
  rw [HE0.out]
  clear HE0
  obtain ⟨c0,c1,c2,c3,c4,c5,c6,c7,c8,c9,c10,y0,y1,y2,y3,y4,y5,y6,y7,y8,y9,y10⟩:=HA_X0.out.all
  rw [HOV.out] at c6
  go_upto_region 4 with fail
  clear c0 c1 c2 c3 c4 c5 c6 c7 c8 c9 c10 y0 y1 y2 y3 y4 y5 y6 y7 y8 y9 y10
  obtain ⟨Y1,hY1⟩:∃ Y,Y=X0.setCell ⟨w.heap.size,7,none⟩ (.int .i64 (m.steps+1)):=⟨_,rfl⟩
  rw [<- hY1]
  have K1:Kept (fun b=>b=w.heap.size) X0 Y1:=by rw [hY1];exact (Kept.refl (fun b=>b=w.heap.size) X0).setCell (p:=⟨w.heap.size,7,none⟩) rfl _
  have HA_Y1:Hid (Mf Y1 (w.heap.size) [.slice ra m.row.length rc,.int .i64 m.N,.string m.S,.int .i64 m.room,.slice va m.vals.length vc,.int .i64 m.ret,.bool m.over,.int .i64 (m.steps+1),.int .i64 m.looks,.int .i64 m.hits,.slice ma m.memo.length mc]):=by rw [hY1];exact HA_X0.out.set 7 (.int .i64 (m.steps+1))
  have HZ_Y1:Hid (Mf Y1 (w.heap.size+1) [.slice none 0 0,.int .i64 0,.string ⟨#[]⟩,.int .i64 0,.slice none 0 0,.int .i64 0,.bool false,.int .i64 0,.int .i64 0,.int .i64 0,.slice none 0 0]):=HZ_X0.out.kept K1 (by omega)
  have HB_Y1:Hid (Below w.heap.size w Y1):=HB_X0.out.trans (K1.below (fun b hb=>by omega) HB_X0.out.size)
  have HM_Y1:Hid (MO Y1 B { m with steps:=m.steps+1 } ra va ma rc vc mc):=by
   have mo:=HM_X0.out.kept K1 (fun x hx h=>by have:=HQ.out.1 x hx;omega) (fun x hx h=>by have:=HQ.out.2.1 x hx;omega) (fun x hx h=>by have:=HQ.out.2.2 x hx;omega)
   exact ⟨mo.row,mo.vals,mo.memo,mo.rv,mo.rm,mo.vm⟩
  have HBS:Hid (B<=Y1.heap.size):=Nat.le_trans hB HB_Y1.out.size
  clear K1 hY1 HB_X0 HA_X0 HZ_X0 HM_X0
  obtain ⟨c0,c1,c2,c3,c4,c5,c6,c7,c8,c9,c10,y0,y1,y2,y3,y4,y5,y6,y7,y8,y9,y10⟩:=HA_Y1.out.all
  go_wp2_with fail
  clear c0 c1 c2 c3 c4 c5 c6 c7 c8 c9 c10 y0 y1 y2 y3 y4 y5 y6 y7 y8 y9 y10
  refine (HDN.out Y1 HM_Y1.out HBS.out).mono ?_
  rintro _ x1 ⟨ra',va',ma',rc',vc',mc',rfl,hmo,hk,hfr⟩
  have HMO:Hid (MO x1 B SM ra' va' ma' rc' vc' mc'):=hmo
  have HKX:Hid (Kept (fun b=>At va b\/At ma b) Y1 x1):=hk
  have HFR:Hid (FR Y1 ra va ma ra' va' ma'):=hfr
  have HZ1:Hid (Mf x1 (w.heap.size+1) [.slice none 0 0,.int .i64 0,.string ⟨#[]⟩,.int .i64 0,.slice none 0 0,.int .i64 0,.bool false,.int .i64 0,.int .i64 0,.int .i64 0,.slice none 0 0]):=HZ_Y1.out.kept hk (fun h=>by
   rcases h with ⟨x,hx,e⟩|⟨x,hx,e⟩
   ·have:=HQ.out.2.1 x hx;omega
   ·have:=HQ.out.2.2 x hx;omega)
  clear hmo hk hfr
  obtain ⟨d0,d1,d2,d3,d4,d5,d6,d7,d8,d9,d10,z0,z1,z2,z3,z4,z5,z6,z7,z8,z9,z10⟩:=HZ1.out.all
  go_wp2
  clear d0 d1 d2 d3 d4 d5 d6 d7 d8 d9 d10 z0 z1 z2 z3 z4 z5 z6 z7 z8 z9 z10
  obtain ⟨WF,hWF⟩:∃ WF,WF=(((((((((((x1).setCell ⟨w.heap.size+1,0,none⟩ (.slice ra' SM.row.length rc')).setCell ⟨w.heap.size+1,1,none⟩ (.int .i64 SM.N)).setCell ⟨w.heap.size+1,2,none⟩ (.string SM.S)).setCell ⟨w.heap.size+1,3,none⟩ (.int .i64 SM.room)).setCell ⟨w.heap.size+1,4,none⟩ (.slice va' SM.vals.length vc')).setCell ⟨w.heap.size+1,5,none⟩ (.int .i64 SM.ret)).setCell ⟨w.heap.size+1,6,none⟩ (.bool SM.over)).setCell ⟨w.heap.size+1,7,none⟩ (.int .i64 SM.steps)).setCell ⟨w.heap.size+1,8,none⟩ (.int .i64 SM.looks)).setCell ⟨w.heap.size+1,9,none⟩ (.int .i64 SM.hits)).setCell ⟨w.heap.size+1,10,none⟩ (.slice ma' SM.memo.length mc'):=⟨_,rfl⟩
  rw [<- hWF]
  have KF:Kept (fun b=>b=w.heap.size+1) x1 WF:=by rw [hWF];exact ((((((((((((Kept.refl (fun b=>b=w.heap.size+1) x1)).setCell (p:=⟨w.heap.size+1,0,none⟩) rfl _).setCell (p:=⟨w.heap.size+1,1,none⟩) rfl _).setCell (p:=⟨w.heap.size+1,2,none⟩) rfl _).setCell (p:=⟨w.heap.size+1,3,none⟩) rfl _).setCell (p:=⟨w.heap.size+1,4,none⟩) rfl _).setCell (p:=⟨w.heap.size+1,5,none⟩) rfl _).setCell (p:=⟨w.heap.size+1,6,none⟩) rfl _).setCell (p:=⟨w.heap.size+1,7,none⟩) rfl _).setCell (p:=⟨w.heap.size+1,8,none⟩) rfl _).setCell (p:=⟨w.heap.size+1,9,none⟩) rfl _).setCell (p:=⟨w.heap.size+1,10,none⟩) rfl _
  have HF:Mf WF (w.heap.size+1) [.slice ra' SM.row.length rc',.int .i64 SM.N,.string SM.S,.int .i64 SM.room,.slice va' SM.vals.length vc',.int .i64 SM.ret,.bool SM.over,.int .i64 SM.steps,.int .i64 SM.looks,.int .i64 SM.hits,.slice ma' SM.memo.length mc']:=by
   rw [hWF]
   exact (((((((((((HZ1.out.set 0 (.slice ra' SM.row.length rc')).set 1 (.int .i64 SM.N)).set 2 (.string SM.S)).set 3 (.int .i64 SM.room)).set 4 (.slice va' SM.vals.length vc')).set 5 (.int .i64 SM.ret)).set 6 (.bool SM.over)).set 7 (.int .i64 SM.steps)).set 8 (.int .i64 SM.looks)).set 9 (.int .i64 SM.hits)).set 10 (.slice ma' SM.memo.length mc'))
  obtain ⟨c0,c1,c2,c3,c4,c5,c6,c7,c8,c9,c10,y0,y1,y2,y3,y4,y5,y6,y7,y8,y9,y10⟩:=HF.all
  clear hWF
  have hq:=HQ.out
  have hkx:=HKX.out
  have hfr:=HFR.out
  have hq2:=HZ_Y1.out.lt (by simp)
  have hwy:=HB_Y1.out.size
  have n1:∀ x,ra'=some x->x.block < w.heap.size\/Y1.heap.size<=x.block:=fun x hx=>.inl (hq.1 x (by rw [<- hfr.r];exact hx))
  have n2:∀ x,va'=some x->x.block < w.heap.size\/Y1.heap.size<=x.block:=fun x hx=>by
   rcases hfr.v x hx with ⟨y,hy,e⟩|e
   ·exact .inl (by rw [e];exact hq.2.1 y hy)
   ·exact .inr e
  have n3:∀ x,ma'=some x->x.block < w.heap.size\/Y1.heap.size<=x.block:=fun x hx=>by
   rcases hfr.m x hx with ⟨y,hy,e⟩|e
   ·exact .inl (by rw [e];exact hq.2.2 y hy)
   ·exact .inr e
  have k3:Kept (fun b=>At va b\/At ma b) w Y1:=Kept.ofBelow HB_Y1.out
  have k4:=k3.trans hkx
  exact bodyPost_ret (v:=mval SM ra' va' ma' rc' vc' mc') (by simp [results,Tryz.results57,go_sem,c0,c1,c2,c3,c4,c5,c6,c7,c8,c9,c10]) rfl ⟨ra',va',ma',rc',vc',mc',rfl,HMO.out.kept KF (fun x hx h=>by have:=n1 x hx;omega) (fun x hx h=>by have:=n2 x hx;omega) (fun x hx h=>by have:=n3 x hx;omega),⟨KF.os.trans k4.os,KF.tape.trans k4.tape,KF.output.trans k4.output,Nat.le_trans k4.size KF.size,fun i hi hne=>(KF.block i (Nat.lt_of_lt_of_le hi k4.size) (by omega)).trans (k4.block i hi hne)⟩,⟨hfr.r,fun x hx=>by
   rcases hfr.v x hx with e|e
   ·exact .inl e
   ·exact .inr (Nat.le_trans hwy e),fun x hx=>by
   rcases hfr.m x hx with e|e
   ·exact .inl e
   ·exact .inr (Nat.le_trans hwy e)⟩⟩
 ·have HE:Hid (SM=UM):=HD3.out HNO.out hr
  have hrb:decide (m.ret < 0)=false:=decide_eq_false hr
  clear HD1 HD2 HD3 HDN HNO
  rw [<- HE.out] at HUP
  clear HE
  go_enter Tryz.func57,Tryz.ntmps57
  go_upto_region 1 with fail
  rw [HE0.out]
  clear HE0
  obtain ⟨c0,c1,c2,c3,c4,c5,c6,c7,c8,c9,c10,y0,y1,y2,y3,y4,y5,y6,y7,y8,y9,y10⟩:=HA_X0.out.all
  rw [HOV.out] at c6
  go_upto_region 4 with fail
  clear c0 c1 c2 c3 c4 c5 c6 c7 c8 c9 c10 y0 y1 y2 y3 y4 y5 y6 y7 y8 y9 y10
  obtain ⟨Y1,hY1⟩:∃ Y,Y=X0.setCell ⟨w.heap.size,7,none⟩ (.int .i64 (m.steps+1)):=⟨_,rfl⟩
  rw [<- hY1]
  have K1:Kept (fun b=>b=w.heap.size) X0 Y1:=by rw [hY1];exact (Kept.refl (fun b=>b=w.heap.size) X0).setCell (p:=⟨w.heap.size,7,none⟩) rfl _
  have HA_Y1:Hid (Mf Y1 (w.heap.size) [.slice ra m.row.length rc,.int .i64 m.N,.string m.S,.int .i64 m.room,.slice va m.vals.length vc,.int .i64 m.ret,.bool m.over,.int .i64 (m.steps+1),.int .i64 m.looks,.int .i64 m.hits,.slice ma m.memo.length mc]):=by rw [hY1];exact HA_X0.out.set 7 (.int .i64 (m.steps+1))
  have HZ_Y1:Hid (Mf Y1 (w.heap.size+1) [.slice none 0 0,.int .i64 0,.string ⟨#[]⟩,.int .i64 0,.slice none 0 0,.int .i64 0,.bool false,.int .i64 0,.int .i64 0,.int .i64 0,.slice none 0 0]):=HZ_X0.out.kept K1 (by omega)
  have HB_Y1:Hid (Below w.heap.size w Y1):=HB_X0.out.trans (K1.below (fun b hb=>by omega) HB_X0.out.size)
  have HM_Y1:Hid (MO Y1 B { m with steps:=m.steps+1 } ra va ma rc vc mc):=by
   have mo:=HM_X0.out.kept K1 (fun x hx h=>by have:=HQ.out.1 x hx;omega) (fun x hx h=>by have:=HQ.out.2.1 x hx;omega) (fun x hx h=>by have:=HQ.out.2.2 x hx;omega)
   exact ⟨mo.row,mo.vals,mo.memo,mo.rv,mo.rm,mo.vm⟩
  have HBS:Hid (B<=Y1.heap.size):=Nat.le_trans hB HB_Y1.out.size
  clear K1 hY1 HB_X0 HA_X0 HZ_X0 HM_X0
  obtain ⟨c0,c1,c2,c3,c4,c5,c6,c7,c8,c9,c10,y0,y1,y2,y3,y4,y5,y6,y7,y8,y9,y10⟩:=HA_Y1.out.all
  go_wp2_with fail
  clear c0 c1 c2 c3 c4 c5 c6 c7 c8 c9 c10 y0 y1 y2 y3 y4 y5 y6 y7 y8 y9 y10
  refine (HUP.out Y1 HM_Y1.out HBS.out).mono ?_
  rintro _ x1 ⟨ra',va',ma',rc',vc',mc',rfl,hmo,hk,hfr⟩
  have HMO:Hid (MO x1 B SM ra' va' ma' rc' vc' mc'):=hmo
  have HKX:Hid (Kept (fun b=>At va b\/At ma b) Y1 x1):=hk
  have HFR:Hid (FR Y1 ra va ma ra' va' ma'):=hfr
  have HZ1:Hid (Mf x1 (w.heap.size+1) [.slice none 0 0,.int .i64 0,.string ⟨#[]⟩,.int .i64 0,.slice none 0 0,.int .i64 0,.bool false,.int .i64 0,.int .i64 0,.int .i64 0,.slice none 0 0]):=HZ_Y1.out.kept hk (fun h=>by
   rcases h with ⟨x,hx,e⟩|⟨x,hx,e⟩
   ·have:=HQ.out.2.1 x hx;omega
   ·have:=HQ.out.2.2 x hx;omega)
  clear hmo hk hfr
  obtain ⟨d0,d1,d2,d3,d4,d5,d6,d7,d8,d9,d10,z0,z1,z2,z3,z4,z5,z6,z7,z8,z9,z10⟩:=HZ1.out.all
  go_wp2
  clear d0 d1 d2 d3 d4 d5 d6 d7 d8 d9 d10 z0 z1 z2 z3 z4 z5 z6 z7 z8 z9 z10
  obtain ⟨WF,hWF⟩:∃ WF,WF=(((((((((((x1).setCell ⟨w.heap.size+1,0,none⟩ (.slice ra' SM.row.length rc')).setCell ⟨w.heap.size+1,1,none⟩ (.int .i64 SM.N)).setCell ⟨w.heap.size+1,2,none⟩ (.string SM.S)).setCell ⟨w.heap.size+1,3,none⟩ (.int .i64 SM.room)).setCell ⟨w.heap.size+1,4,none⟩ (.slice va' SM.vals.length vc')).setCell ⟨w.heap.size+1,5,none⟩ (.int .i64 SM.ret)).setCell ⟨w.heap.size+1,6,none⟩ (.bool SM.over)).setCell ⟨w.heap.size+1,7,none⟩ (.int .i64 SM.steps)).setCell ⟨w.heap.size+1,8,none⟩ (.int .i64 SM.looks)).setCell ⟨w.heap.size+1,9,none⟩ (.int .i64 SM.hits)).setCell ⟨w.heap.size+1,10,none⟩ (.slice ma' SM.memo.length mc'):=⟨_,rfl⟩
  rw [<- hWF]
  have KF:Kept (fun b=>b=w.heap.size+1) x1 WF:=by rw [hWF];exact ((((((((((((Kept.refl (fun b=>b=w.heap.size+1) x1)).setCell (p:=⟨w.heap.size+1,0,none⟩) rfl _).setCell (p:=⟨w.heap.size+1,1,none⟩) rfl _).setCell (p:=⟨w.heap.size+1,2,none⟩) rfl _).setCell (p:=⟨w.heap.size+1,3,none⟩) rfl _).setCell (p:=⟨w.heap.size+1,4,none⟩) rfl _).setCell (p:=⟨w.heap.size+1,5,none⟩) rfl _).setCell (p:=⟨w.heap.size+1,6,none⟩) rfl _).setCell (p:=⟨w.heap.size+1,7,none⟩) rfl _).setCell (p:=⟨w.heap.size+1,8,none⟩) rfl _).setCell (p:=⟨w.heap.size+1,9,none⟩) rfl _).setCell (p:=⟨w.heap.size+1,10,none⟩) rfl _
  have HF:Mf WF (w.heap.size+1) [.slice ra' SM.row.length rc',.int .i64 SM.N,.string SM.S,.int .i64 SM.room,.slice va' SM.vals.length vc',.int .i64 SM.ret,.bool SM.over,.int .i64 SM.steps,.int .i64 SM.looks,.int .i64 SM.hits,.slice ma' SM.memo.length mc']:=by
   rw [hWF]
   exact (((((((((((HZ1.out.set 0 (.slice ra' SM.row.length rc')).set 1 (.int .i64 SM.N)).set 2 (.string SM.S)).set 3 (.int .i64 SM.room)).set 4 (.slice va' SM.vals.length vc')).set 5 (.int .i64 SM.ret)).set 6 (.bool SM.over)).set 7 (.int .i64 SM.steps)).set 8 (.int .i64 SM.looks)).set 9 (.int .i64 SM.hits)).set 10 (.slice ma' SM.memo.length mc'))
  obtain ⟨c0,c1,c2,c3,c4,c5,c6,c7,c8,c9,c10,y0,y1,y2,y3,y4,y5,y6,y7,y8,y9,y10⟩:=HF.all
  clear hWF
  have hq:=HQ.out
  have hkx:=HKX.out
  have hfr:=HFR.out
  have hq2:=HZ_Y1.out.lt (by simp)
  have hwy:=HB_Y1.out.size
  have n1:∀ x,ra'=some x->x.block < w.heap.size\/Y1.heap.size<=x.block:=fun x hx=>.inl (hq.1 x (by rw [<- hfr.r];exact hx))
  have n2:∀ x,va'=some x->x.block < w.heap.size\/Y1.heap.size<=x.block:=fun x hx=>by
   rcases hfr.v x hx with ⟨y,hy,e⟩|e
   ·exact .inl (by rw [e];exact hq.2.1 y hy)
   ·exact .inr e
  have n3:∀ x,ma'=some x->x.block < w.heap.size\/Y1.heap.size<=x.block:=fun x hx=>by
   rcases hfr.m x hx with ⟨y,hy,e⟩|e
   ·exact .inl (by rw [e];exact hq.2.2 y hy)
   ·exact .inr e
  have k3:Kept (fun b=>At va b\/At ma b) w Y1:=Kept.ofBelow HB_Y1.out
  have k4:=k3.trans hkx
  exact bodyPost_ret (v:=mval SM ra' va' ma' rc' vc' mc') (by simp [results,Tryz.results57,go_sem,c0,c1,c2,c3,c4,c5,c6,c7,c8,c9,c10]) rfl ⟨ra',va',ma',rc',vc',mc',rfl,HMO.out.kept KF (fun x hx h=>by have:=n1 x hx;omega) (fun x hx h=>by have:=n2 x hx;omega) (fun x hx h=>by have:=n3 x hx;omega),⟨KF.os.trans k4.os,KF.tape.trans k4.tape,KF.output.trans k4.output,Nat.le_trans k4.size KF.size,fun i hi hne=>(KF.block i (Nat.lt_of_lt_of_le hi k4.size) (by omega)).trans (k4.block i hi hne)⟩,⟨hfr.r,fun x hx=>by
   rcases hfr.v x hx with e|e
   ·exact .inl e
   ·exact .inr (Nat.le_trans hwy e),fun x hx=>by
   rcases hfr.m x hx with e|e
   ·exact .inl e
   ·exact .inr (Nat.le_trans hwy e)⟩⟩
end Mu7
end Go.Proofs.YtladjpombohpaaaGreatDoor
