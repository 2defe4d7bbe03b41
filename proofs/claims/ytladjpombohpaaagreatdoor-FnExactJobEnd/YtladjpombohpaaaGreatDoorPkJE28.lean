import Derived.Laws.EntriesVeiled
import Derived.Test.YtladjpombohpaaaGreatDoorPkJE27
namespace Go.Proofs.YtladjpombohpaaaGreatDoor
set_option maxRecDepth 100000
set_option maxHeartbeats 8000000
set_option linter.unusedVariables false
namespace Mw8
open Go.RowKit
open Nd0 (Kept Ints lt_of_cell)
open Mm0 Mx0 Mw0
theorem step_look (w:World) (p:Nat) (m:Mc) (ra va ma:Option Addr) (rc vc mc bm:Nat) (R:World->Prop) (hst:0<=m.steps/\m.steps<=1000000000) (h:Sb w p m ra va ma rc vc mc bm)
 (hat:∀ W,Kept (fun b=>b=p) w W->Sb W p { m with steps:=m.steps+1 } ra va ma rc vc mc bm->Calls Tryz.prog 208 #[.pointer (some ⟨p,0,none⟩)] W fun e w'=>e=.returned (.int .i64 0)/\Below W.heap.size W w')
 (hf:∀ W,Kept (fun b=>b=p) w W->Sb W p { m with steps:=m.steps+1 } ra va ma rc vc mc bm->Calls Tryz.prog 202 #[.pointer (some ⟨p,0,none⟩)] W fun e w'=>e=.returned (.tuple #[])/\R w') :
 Calls Tryz.prog 164 #[.pointer (some ⟨p,0,none⟩)] w fun e w'=>e=.returned (.tuple #[])/\R w':=by
 have H:Hid (Sb w p m ra va ma rc vc mc bm):=h
 have HAT:Hid _:=hat
 have HF:Hid _:=hf
 have hp:=h.lt
 clear h hat hf
 go_enter Tryz.func164,Tryz.ntmps164
 go_upto_region 1 with fail
 obtain ⟨X0,hX0⟩:∃ X,X=w.alloc (.cells #[.func (.func 202) #[] #[],.func (.func 203) #[] #[],.func (.func 204) #[] #[],.func (.func 205) #[] #[],.func (.func 206) #[] #[],.func (.func 207) #[] #[]] 261):=⟨_,rfl⟩
 obtain ⟨q,hq⟩:∃ q,q=w.heap.size:=⟨_,rfl⟩
 have K0:Kept (fun b=>b=p) w X0:=by rw [hX0];exact (Kept.refl _ _).alloc _
 have HK0:Hid (Kept (fun b=>b=p) w X0):=K0
 have H0:Hid (Sb X0 p m ra va ma rc vc mc bm):=by rw [hX0];exact Mf.alloc H.out _
 have HC0:Hid (X0.cell? ⟨q,0,none⟩=some (.func (.func 202) #[] #[])):=by show _=_;rw [hX0,hq,World.cell?_alloc_new];rfl
 have HQP:Hid (q≠p):=by show _≠_;rw [hq];omega
 rw [<- hX0,<- hq]
 clear hX0 hq K0 hp
 have c7:X0.cell? ⟨p,7,none⟩=some (.int .i64 m.steps):=H0.out.all.c7
 have z7:X0.frozen? ⟨p,7,none⟩=false:=H0.out.all.z7
 have hp:=H0.out.lt
 go_upto_region 2 with fail
 clear c7 z7 hp
 obtain ⟨Y,hY⟩:∃ Y,Y=X0.setCell ⟨p,7,none⟩ (.int .i64 (m.steps+1)):=⟨_,rfl⟩
 rw [<- hY]
 have KY:Kept (fun b=>b=p) X0 Y:=by rw [hY];exact (Kept.refl (fun b=>b=p) X0).setCell (p:=⟨p,7,none⟩) rfl _
 have HY:Hid (Sb Y p { m with steps:=m.steps+1 } ra va ma rc vc mc bm):=by rw [hY];exact H0.out.set 7 (.int .i64 (m.steps+1))
 have HKY:Hid (Kept (fun b=>b=p) w Y):=HK0.out.trans KY
 have HCY:Hid (Y.cell? ⟨q,0,none⟩=some (.func (.func 202) #[] #[])):=by
  have h1:X0.cell? ⟨q,0,none⟩=some (.func (.func 202) #[] #[]):=HC0.out
  show _=_
  rw [KY.cell (p:=⟨q,0,none⟩) (lt_of_cell h1) HQP.out]
  exact h1
 clear hY KY H0 HC0 HK0
 go_wp2_with fail
 refine Calls.mono (HAT.out Y HKY.out HY.out) ?_
 rintro _ x1 ⟨rfl,hb⟩
 have H1:Hid (Sb x1 p { m with steps:=m.steps+1 } ra va ma rc vc mc bm):=HY.out.below hb
 have HK1:Hid (Kept (fun b=>b=p) w x1):=HKY.out.trans (Kept.ofBelow hb)
 have d0:x1.cell? ⟨q,0,none⟩=some (.func (.func 202) #[] #[]):=by rw [hb.cell (p:=⟨q,0,none⟩) (lt_of_cell HCY.out)];exact HCY.out
 have hq:=lt_of_cell d0
 clear hb
 go_wp2_with fail
 refine Calls.mono (HF.out x1 HK1.out H1.out) ?_
 rintro _ x2 ⟨rfl,hr⟩
 have HR:Hid (R x2):=hr
 clear hr d0 hq
 go_wp2
 exact bodyPost_end (v:=.tuple #[]) (by simp [results,Tryz.results164,go_sem]) rfl ⟨rfl,HR.out⟩
theorem step_recall (w:World) (p:Nat) (m:Mc) (ra va ma:Option Addr) (rc vc mc bm:Nat) (R:World->Prop) (hst:0<=m.steps/\m.steps<=1000000000) (h:Sb w p m ra va ma rc vc mc bm)
 (hat:∀ W,Kept (fun b=>b=p) w W->Sb W p { m with steps:=m.steps+1 } ra va ma rc vc mc bm->Calls Tryz.prog 208 #[.pointer (some ⟨p,0,none⟩)] W fun e w'=>e=.returned (.int .i64 1)/\Below W.heap.size W w')
 (hf:∀ W,Kept (fun b=>b=p) w W->Sb W p { m with steps:=m.steps+1 } ra va ma rc vc mc bm->Calls Tryz.prog 203 #[.pointer (some ⟨p,0,none⟩)] W fun e w'=>e=.returned (.tuple #[])/\R w') :
 Calls Tryz.prog 164 #[.pointer (some ⟨p,0,none⟩)] w fun e w'=>e=.returned (.tuple #[])/\R w':=by
 have H:Hid (Sb w p m ra va ma rc vc mc bm):=h
 have HAT:Hid _:=hat
 have HF:Hid _:=hf
 have hp:=h.lt
 clear h hat hf
 go_enter Tryz.func164,Tryz.ntmps164
 go_upto_region 1 with fail
 obtain ⟨X0,hX0⟩:∃ X,X=w.alloc (.cells #[.func (.func 202) #[] #[],.func (.func 203) #[] #[],.func (.func 204) #[] #[],.func (.func 205) #[] #[],.func (.func 206) #[] #[],.func (.func 207) #[] #[]] 261):=⟨_,rfl⟩
 obtain ⟨q,hq⟩:∃ q,q=w.heap.size:=⟨_,rfl⟩
 have K0:Kept (fun b=>b=p) w X0:=by rw [hX0];exact (Kept.refl _ _).alloc _
 have HK0:Hid (Kept (fun b=>b=p) w X0):=K0
 have H0:Hid (Sb X0 p m ra va ma rc vc mc bm):=by rw [hX0];exact Mf.alloc H.out _
 have HC0:Hid (X0.cell? ⟨q,1,none⟩=some (.func (.func 203) #[] #[])):=by show _=_;rw [hX0,hq,World.cell?_alloc_new];rfl
 have HQP:Hid (q≠p):=by show _≠_;rw [hq];omega
 rw [<- hX0,<- hq]
 clear hX0 hq K0 hp
 have c7:X0.cell? ⟨p,7,none⟩=some (.int .i64 m.steps):=H0.out.all.c7
 have z7:X0.frozen? ⟨p,7,none⟩=false:=H0.out.all.z7
 have hp:=H0.out.lt
 go_upto_region 2 with fail
 clear c7 z7 hp
 obtain ⟨Y,hY⟩:∃ Y,Y=X0.setCell ⟨p,7,none⟩ (.int .i64 (m.steps+1)):=⟨_,rfl⟩
 rw [<- hY]
 have KY:Kept (fun b=>b=p) X0 Y:=by rw [hY];exact (Kept.refl (fun b=>b=p) X0).setCell (p:=⟨p,7,none⟩) rfl _
 have HY:Hid (Sb Y p { m with steps:=m.steps+1 } ra va ma rc vc mc bm):=by rw [hY];exact H0.out.set 7 (.int .i64 (m.steps+1))
 have HKY:Hid (Kept (fun b=>b=p) w Y):=HK0.out.trans KY
 have HCY:Hid (Y.cell? ⟨q,1,none⟩=some (.func (.func 203) #[] #[])):=by
  have h1:X0.cell? ⟨q,1,none⟩=some (.func (.func 203) #[] #[]):=HC0.out
  show _=_
  rw [KY.cell (p:=⟨q,1,none⟩) (lt_of_cell h1) HQP.out]
  exact h1
 clear hY KY H0 HC0 HK0
 go_wp2_with fail
 refine Calls.mono (HAT.out Y HKY.out HY.out) ?_
 rintro _ x1 ⟨rfl,hb⟩
 have H1:Hid (Sb x1 p { m with steps:=m.steps+1 } ra va ma rc vc mc bm):=HY.out.below hb
 have HK1:Hid (Kept (fun b=>b=p) w x1):=HKY.out.trans (Kept.ofBelow hb)
 have d0:x1.cell? ⟨q,1,none⟩=some (.func (.func 203) #[] #[]):=by rw [hb.cell (p:=⟨q,1,none⟩) (lt_of_cell HCY.out)];exact HCY.out
 have hq:=lt_of_cell d0
 clear hb
 go_wp2_with fail
 refine Calls.mono (HF.out x1 HK1.out H1.out) ?_
 rintro _ x2 ⟨rfl,hr⟩
 have HR:Hid (R x2):=hr
 clear hr d0 hq
 go_wp2
 exact bodyPost_end (v:=.tuple #[]) (by simp [results,Tryz.results164,go_sem]) rfl ⟨rfl,HR.out⟩
theorem step_goDown (w:World) (p:Nat) (m:Mc) (ra va ma:Option Addr) (rc vc mc bm:Nat) (R:World->Prop) (hst:0<=m.steps/\m.steps<=1000000000) (h:Sb w p m ra va ma rc vc mc bm)
 (hat:∀ W,Kept (fun b=>b=p) w W->Sb W p { m with steps:=m.steps+1 } ra va ma rc vc mc bm->Calls Tryz.prog 208 #[.pointer (some ⟨p,0,none⟩)] W fun e w'=>e=.returned (.int .i64 2)/\Below W.heap.size W w')
 (hf:∀ W,Kept (fun b=>b=p) w W->Sb W p { m with steps:=m.steps+1 } ra va ma rc vc mc bm->Calls Tryz.prog 204 #[.pointer (some ⟨p,0,none⟩)] W fun e w'=>e=.returned (.tuple #[])/\R w') :
 Calls Tryz.prog 164 #[.pointer (some ⟨p,0,none⟩)] w fun e w'=>e=.returned (.tuple #[])/\R w':=by
 have H:Hid (Sb w p m ra va ma rc vc mc bm):=h
 have HAT:Hid _:=hat
 have HF:Hid _:=hf
 have hp:=h.lt
 clear h hat hf
 go_enter Tryz.func164,Tryz.ntmps164
 go_upto_region 1 with fail
 obtain ⟨X0,hX0⟩:∃ X,X=w.alloc (.cells #[.func (.func 202) #[] #[],.func (.func 203) #[] #[],.func (.func 204) #[] #[],.func (.func 205) #[] #[],.func (.func 206) #[] #[],.func (.func 207) #[] #[]] 261):=⟨_,rfl⟩
 obtain ⟨q,hq⟩:∃ q,q=w.heap.size:=⟨_,rfl⟩
 have K0:Kept (fun b=>b=p) w X0:=by rw [hX0];exact (Kept.refl _ _).alloc _
 have HK0:Hid (Kept (fun b=>b=p) w X0):=K0
 have H0:Hid (Sb X0 p m ra va ma rc vc mc bm):=by rw [hX0];exact Mf.alloc H.out _
 have HC0:Hid (X0.cell? ⟨q,2,none⟩=some (.func (.func 204) #[] #[])):=by show _=_;rw [hX0,hq,World.cell?_alloc_new];rfl
 have HQP:Hid (q≠p):=by show _≠_;rw [hq];omega
 rw [<- hX0,<- hq]
 clear hX0 hq K0 hp
 have c7:X0.cell? ⟨p,7,none⟩=some (.int .i64 m.steps):=H0.out.all.c7
 have z7:X0.frozen? ⟨p,7,none⟩=false:=H0.out.all.z7
 have hp:=H0.out.lt
 go_upto_region 2 with fail
 clear c7 z7 hp
 obtain ⟨Y,hY⟩:∃ Y,Y=X0.setCell ⟨p,7,none⟩ (.int .i64 (m.steps+1)):=⟨_,rfl⟩
 rw [<- hY]
 have KY:Kept (fun b=>b=p) X0 Y:=by rw [hY];exact (Kept.refl (fun b=>b=p) X0).setCell (p:=⟨p,7,none⟩) rfl _
 have HY:Hid (Sb Y p { m with steps:=m.steps+1 } ra va ma rc vc mc bm):=by rw [hY];exact H0.out.set 7 (.int .i64 (m.steps+1))
 have HKY:Hid (Kept (fun b=>b=p) w Y):=HK0.out.trans KY
 have HCY:Hid (Y.cell? ⟨q,2,none⟩=some (.func (.func 204) #[] #[])):=by
  have h1:X0.cell? ⟨q,2,none⟩=some (.func (.func 204) #[] #[]):=HC0.out
  show _=_
  rw [KY.cell (p:=⟨q,2,none⟩) (lt_of_cell h1) HQP.out]
  exact h1
 clear hY KY H0 HC0 HK0
 go_wp2_with fail
 refine Calls.mono (HAT.out Y HKY.out HY.out) ?_
 rintro _ x1 ⟨rfl,hb⟩
 have H1:Hid (Sb x1 p { m with steps:=m.steps+1 } ra va ma rc vc mc bm):=HY.out.below hb
 have HK1:Hid (Kept (fun b=>b=p) w x1):=HKY.out.trans (Kept.ofBelow hb)
 have d0:x1.cell? ⟨q,2,none⟩=some (.func (.func 204) #[] #[]):=by rw [hb.cell (p:=⟨q,2,none⟩) (lt_of_cell HCY.out)];exact HCY.out
 have hq:=lt_of_cell d0
 clear hb
 go_wp2_with fail
 refine Calls.mono (HF.out x1 HK1.out H1.out) ?_
 rintro _ x2 ⟨rfl,hr⟩
 have HR:Hid (R x2):=hr
 clear hr d0 hq
 go_wp2
 exact bodyPost_end (v:=.tuple #[]) (by simp [results,Tryz.results164,go_sem]) rfl ⟨rfl,HR.out⟩
theorem step_end (w:World) (p:Nat) (m:Mc) (ra va ma:Option Addr) (rc vc mc bm:Nat) (R:World->Prop) (hst:0<=m.steps/\m.steps<=1000000000) (h:Sb w p m ra va ma rc vc mc bm)
 (hat:∀ W,Kept (fun b=>b=p) w W->Sb W p { m with steps:=m.steps+1 } ra va ma rc vc mc bm->Calls Tryz.prog 208 #[.pointer (some ⟨p,0,none⟩)] W fun e w'=>e=.returned (.int .i64 3)/\Below W.heap.size W w')
 (hf:∀ W,Kept (fun b=>b=p) w W->Sb W p { m with steps:=m.steps+1 } ra va ma rc vc mc bm->Calls Tryz.prog 205 #[.pointer (some ⟨p,0,none⟩)] W fun e w'=>e=.returned (.tuple #[])/\R w') :
 Calls Tryz.prog 164 #[.pointer (some ⟨p,0,none⟩)] w fun e w'=>e=.returned (.tuple #[])/\R w':=by
 have H:Hid (Sb w p m ra va ma rc vc mc bm):=h
 have HAT:Hid _:=hat
 have HF:Hid _:=hf
 have hp:=h.lt
 clear h hat hf
 go_enter Tryz.func164,Tryz.ntmps164
 go_upto_region 1 with fail
 obtain ⟨X0,hX0⟩:∃ X,X=w.alloc (.cells #[.func (.func 202) #[] #[],.func (.func 203) #[] #[],.func (.func 204) #[] #[],.func (.func 205) #[] #[],.func (.func 206) #[] #[],.func (.func 207) #[] #[]] 261):=⟨_,rfl⟩
 obtain ⟨q,hq⟩:∃ q,q=w.heap.size:=⟨_,rfl⟩
 have K0:Kept (fun b=>b=p) w X0:=by rw [hX0];exact (Kept.refl _ _).alloc _
 have HK0:Hid (Kept (fun b=>b=p) w X0):=K0
 have H0:Hid (Sb X0 p m ra va ma rc vc mc bm):=by rw [hX0];exact Mf.alloc H.out _
 have HC0:Hid (X0.cell? ⟨q,3,none⟩=some (.func (.func 205) #[] #[])):=by show _=_;rw [hX0,hq,World.cell?_alloc_new];rfl
 have HQP:Hid (q≠p):=by show _≠_;rw [hq];omega
 rw [<- hX0,<- hq]
 clear hX0 hq K0 hp
 have c7:X0.cell? ⟨p,7,none⟩=some (.int .i64 m.steps):=H0.out.all.c7
 have z7:X0.frozen? ⟨p,7,none⟩=false:=H0.out.all.z7
 have hp:=H0.out.lt
 go_upto_region 2 with fail
 clear c7 z7 hp
 obtain ⟨Y,hY⟩:∃ Y,Y=X0.setCell ⟨p,7,none⟩ (.int .i64 (m.steps+1)):=⟨_,rfl⟩
 rw [<- hY]
 have KY:Kept (fun b=>b=p) X0 Y:=by rw [hY];exact (Kept.refl (fun b=>b=p) X0).setCell (p:=⟨p,7,none⟩) rfl _
 have HY:Hid (Sb Y p { m with steps:=m.steps+1 } ra va ma rc vc mc bm):=by rw [hY];exact H0.out.set 7 (.int .i64 (m.steps+1))
 have HKY:Hid (Kept (fun b=>b=p) w Y):=HK0.out.trans KY
 have HCY:Hid (Y.cell? ⟨q,3,none⟩=some (.func (.func 205) #[] #[])):=by
  have h1:X0.cell? ⟨q,3,none⟩=some (.func (.func 205) #[] #[]):=HC0.out
  show _=_
  rw [KY.cell (p:=⟨q,3,none⟩) (lt_of_cell h1) HQP.out]
  exact h1
 clear hY KY H0 HC0 HK0
 go_wp2_with fail
 refine Calls.mono (HAT.out Y HKY.out HY.out) ?_
 rintro _ x1 ⟨rfl,hb⟩
 have H1:Hid (Sb x1 p { m with steps:=m.steps+1 } ra va ma rc vc mc bm):=HY.out.below hb
 have HK1:Hid (Kept (fun b=>b=p) w x1):=HKY.out.trans (Kept.ofBelow hb)
 have d0:x1.cell? ⟨q,3,none⟩=some (.func (.func 205) #[] #[]):=by rw [hb.cell (p:=⟨q,3,none⟩) (lt_of_cell HCY.out)];exact HCY.out
 have hq:=lt_of_cell d0
 clear hb
 go_wp2_with fail
 refine Calls.mono (HF.out x1 HK1.out H1.out) ?_
 rintro _ x2 ⟨rfl,hr⟩
 have HR:Hid (R x2):=hr
 clear hr d0 hq
 go_wp2
 exact bodyPost_end (v:=.tuple #[]) (by simp [results,Tryz.results164,go_sem]) rfl ⟨rfl,HR.out⟩
theorem step_goUp (w:World) (p:Nat) (m:Mc) (ra va ma:Option Addr) (rc vc mc bm:Nat) (R:World->Prop) (hst:0<=m.steps/\m.steps<=1000000000) (h:Sb w p m ra va ma rc vc mc bm)
 (hat:∀ W,Kept (fun b=>b=p) w W->Sb W p { m with steps:=m.steps+1 } ra va ma rc vc mc bm->Calls Tryz.prog 208 #[.pointer (some ⟨p,0,none⟩)] W fun e w'=>e=.returned (.int .i64 4)/\Below W.heap.size W w')
 (hf:∀ W,Kept (fun b=>b=p) w W->Sb W p { m with steps:=m.steps+1 } ra va ma rc vc mc bm->Calls Tryz.prog 206 #[.pointer (some ⟨p,0,none⟩)] W fun e w'=>e=.returned (.tuple #[])/\R w') :
 Calls Tryz.prog 164 #[.pointer (some ⟨p,0,none⟩)] w fun e w'=>e=.returned (.tuple #[])/\R w':=by
 have H:Hid (Sb w p m ra va ma rc vc mc bm):=h
 have HAT:Hid _:=hat
 have HF:Hid _:=hf
 have hp:=h.lt
 clear h hat hf
 go_enter Tryz.func164,Tryz.ntmps164
 go_upto_region 1 with fail
 obtain ⟨X0,hX0⟩:∃ X,X=w.alloc (.cells #[.func (.func 202) #[] #[],.func (.func 203) #[] #[],.func (.func 204) #[] #[],.func (.func 205) #[] #[],.func (.func 206) #[] #[],.func (.func 207) #[] #[]] 261):=⟨_,rfl⟩
 obtain ⟨q,hq⟩:∃ q,q=w.heap.size:=⟨_,rfl⟩
 have K0:Kept (fun b=>b=p) w X0:=by rw [hX0];exact (Kept.refl _ _).alloc _
 have HK0:Hid (Kept (fun b=>b=p) w X0):=K0
 have H0:Hid (Sb X0 p m ra va ma rc vc mc bm):=by rw [hX0];exact Mf.alloc H.out _
 have HC0:Hid (X0.cell? ⟨q,4,none⟩=some (.func (.func 206) #[] #[])):=by show _=_;rw [hX0,hq,World.cell?_alloc_new];rfl
 have HQP:Hid (q≠p):=by show _≠_;rw [hq];omega
 rw [<- hX0,<- hq]
 clear hX0 hq K0 hp
 have c7:X0.cell? ⟨p,7,none⟩=some (.int .i64 m.steps):=H0.out.all.c7
 have z7:X0.frozen? ⟨p,7,none⟩=false:=H0.out.all.z7
 have hp:=H0.out.lt
 go_upto_region 2 with fail
 clear c7 z7 hp
 obtain ⟨Y,hY⟩:∃ Y,Y=X0.setCell ⟨p,7,none⟩ (.int .i64 (m.steps+1)):=⟨_,rfl⟩
 rw [<- hY]
 have KY:Kept (fun b=>b=p) X0 Y:=by rw [hY];exact (Kept.refl (fun b=>b=p) X0).setCell (p:=⟨p,7,none⟩) rfl _
 have HY:Hid (Sb Y p { m with steps:=m.steps+1 } ra va ma rc vc mc bm):=by rw [hY];exact H0.out.set 7 (.int .i64 (m.steps+1))
 have HKY:Hid (Kept (fun b=>b=p) w Y):=HK0.out.trans KY
 have HCY:Hid (Y.cell? ⟨q,4,none⟩=some (.func (.func 206) #[] #[])):=by
  have h1:X0.cell? ⟨q,4,none⟩=some (.func (.func 206) #[] #[]):=HC0.out
  show _=_
  rw [KY.cell (p:=⟨q,4,none⟩) (lt_of_cell h1) HQP.out]
  exact h1
 clear hY KY H0 HC0 HK0
 go_wp2_with fail
 refine Calls.mono (HAT.out Y HKY.out HY.out) ?_
 rintro _ x1 ⟨rfl,hb⟩
 have H1:Hid (Sb x1 p { m with steps:=m.steps+1 } ra va ma rc vc mc bm):=HY.out.below hb
 have HK1:Hid (Kept (fun b=>b=p) w x1):=HKY.out.trans (Kept.ofBelow hb)
 have d0:x1.cell? ⟨q,4,none⟩=some (.func (.func 206) #[] #[]):=by rw [hb.cell (p:=⟨q,4,none⟩) (lt_of_cell HCY.out)];exact HCY.out
 have hq:=lt_of_cell d0
 clear hb
 go_wp2_with fail
 refine Calls.mono (HF.out x1 HK1.out H1.out) ?_
 rintro _ x2 ⟨rfl,hr⟩
 have HR:Hid (R x2):=hr
 clear hr d0 hq
 go_wp2
 exact bodyPost_end (v:=.tuple #[]) (by simp [results,Tryz.results164,go_sem]) rfl ⟨rfl,HR.out⟩
theorem step_turn (w:World) (p:Nat) (m:Mc) (ra va ma:Option Addr) (rc vc mc bm:Nat) (R:World->Prop) (hst:0<=m.steps/\m.steps<=1000000000) (h:Sb w p m ra va ma rc vc mc bm)
 (hat:∀ W,Kept (fun b=>b=p) w W->Sb W p { m with steps:=m.steps+1 } ra va ma rc vc mc bm->Calls Tryz.prog 208 #[.pointer (some ⟨p,0,none⟩)] W fun e w'=>e=.returned (.int .i64 5)/\Below W.heap.size W w')
 (hf:∀ W,Kept (fun b=>b=p) w W->Sb W p { m with steps:=m.steps+1 } ra va ma rc vc mc bm->Calls Tryz.prog 207 #[.pointer (some ⟨p,0,none⟩)] W fun e w'=>e=.returned (.tuple #[])/\R w') :
 Calls Tryz.prog 164 #[.pointer (some ⟨p,0,none⟩)] w fun e w'=>e=.returned (.tuple #[])/\R w':=by
 have H:Hid (Sb w p m ra va ma rc vc mc bm):=h
 have HAT:Hid _:=hat
 have HF:Hid _:=hf
 have hp:=h.lt
 clear h hat hf
 go_enter Tryz.func164,Tryz.ntmps164
 go_upto_region 1 with fail
 obtain ⟨X0,hX0⟩:∃ X,X=w.alloc (.cells #[.func (.func 202) #[] #[],.func (.func 203) #[] #[],.func (.func 204) #[] #[],.func (.func 205) #[] #[],.func (.func 206) #[] #[],.func (.func 207) #[] #[]] 261):=⟨_,rfl⟩
 obtain ⟨q,hq⟩:∃ q,q=w.heap.size:=⟨_,rfl⟩
 have K0:Kept (fun b=>b=p) w X0:=by rw [hX0];exact (Kept.refl _ _).alloc _
 have HK0:Hid (Kept (fun b=>b=p) w X0):=K0
 have H0:Hid (Sb X0 p m ra va ma rc vc mc bm):=by rw [hX0];exact Mf.alloc H.out _
 have HC0:Hid (X0.cell? ⟨q,5,none⟩=some (.func (.func 207) #[] #[])):=by show _=_;rw [hX0,hq,World.cell?_alloc_new];rfl
 have HQP:Hid (q≠p):=by show _≠_;rw [hq];omega
 rw [<- hX0,<- hq]
 clear hX0 hq K0 hp
 have c7:X0.cell? ⟨p,7,none⟩=some (.int .i64 m.steps):=H0.out.all.c7
 have z7:X0.frozen? ⟨p,7,none⟩=false:=H0.out.all.z7
 have hp:=H0.out.lt
 go_upto_region 2 with fail
 clear c7 z7 hp
 obtain ⟨Y,hY⟩:∃ Y,Y=X0.setCell ⟨p,7,none⟩ (.int .i64 (m.steps+1)):=⟨_,rfl⟩
 rw [<- hY]
 have KY:Kept (fun b=>b=p) X0 Y:=by rw [hY];exact (Kept.refl (fun b=>b=p) X0).setCell (p:=⟨p,7,none⟩) rfl _
 have HY:Hid (Sb Y p { m with steps:=m.steps+1 } ra va ma rc vc mc bm):=by rw [hY];exact H0.out.set 7 (.int .i64 (m.steps+1))
 have HKY:Hid (Kept (fun b=>b=p) w Y):=HK0.out.trans KY
 have HCY:Hid (Y.cell? ⟨q,5,none⟩=some (.func (.func 207) #[] #[])):=by
  have h1:X0.cell? ⟨q,5,none⟩=some (.func (.func 207) #[] #[]):=HC0.out
  show _=_
  rw [KY.cell (p:=⟨q,5,none⟩) (lt_of_cell h1) HQP.out]
  exact h1
 clear hY KY H0 HC0 HK0
 go_wp2_with fail
 refine Calls.mono (HAT.out Y HKY.out HY.out) ?_
 rintro _ x1 ⟨rfl,hb⟩
 have H1:Hid (Sb x1 p { m with steps:=m.steps+1 } ra va ma rc vc mc bm):=HY.out.below hb
 have HK1:Hid (Kept (fun b=>b=p) w x1):=HKY.out.trans (Kept.ofBelow hb)
 have d0:x1.cell? ⟨q,5,none⟩=some (.func (.func 207) #[] #[]):=by rw [hb.cell (p:=⟨q,5,none⟩) (lt_of_cell HCY.out)];exact HCY.out
 have hq:=lt_of_cell d0
 clear hb
 go_wp2_with fail
 refine Calls.mono (HF.out x1 HK1.out H1.out) ?_
 rintro _ x2 ⟨rfl,hr⟩
 have HR:Hid (R x2):=hr
 clear hr d0 hq
 go_wp2
 exact bodyPost_end (v:=.tuple #[]) (by simp [results,Tryz.results164,go_sem]) rfl ⟨rfl,HR.out⟩
end Mw8
namespace Mw10
open Go.RowKit
open Nd0 (Kept Ints lt_of_cell At)
open Ap0 Mm0 Mx0 Mu2 Mu4 Mw0
theorem iGoUp (vl:List Int) (z:Int) (w:World) (p g:Nat) (m:Mc) (ra va ma:Option Addr) (rc vc mc bm:Nat) (hv:m.vals=vl++[z]) (hl:vl.length<=12) (hva:va=some ⟨g,0,none⟩) (hvc:vl.length+1<=vc) (h:Sb w p m ra va ma rc vc mc bm) (R:World->Prop)
 (HR:∀ W,Sb W p { m with vals:=vl } ra va ma rc vc mc bm->Kept (fun b=>b=p) w W->Calls Tryz.prog 260 #[.pointer (some ⟨p,0,none⟩)] W fun e w'=>e=.returned (.tuple #[])/\R w') :
 Calls Tryz.prog 206 #[.pointer (some ⟨p,0,none⟩)] w fun e w'=>e=.returned (.tuple #[])/\R w':=by
 have H:Hid (Sb w p m ra va ma rc vc mc bm):=h
 have hvl:m.vals.length=vl.length+1:=by rw [hv,List.length_append];rfl
 have HVA:Hid (va=some ⟨g,0,none⟩):=hva
 have HHR:Hid (∀ W,Sb W p { m with vals:=vl } ra va ma rc vc mc bm->Kept (fun b=>b=p) w W->Calls Tryz.prog 260 #[.pointer (some ⟨p,0,none⟩)] W fun e w'=>e=.returned (.tuple #[])/\R w'):=HR
 have c4:=h.all.c4
 have z4:=h.all.z4
 rw [hvl,hva] at c4
 have hp:=H.out.lt
 clear h hv hvl hva HR
 go_enter Tryz.func206,Tryz.ntmps206
 go_wp2_with fail
 go_region
 obtain ⟨Y,hY⟩:∃ Y,Y=(w.setCell ⟨p,4,none⟩ (.slice (some ⟨g,0,none⟩) vl.length vc)).drew:=⟨_,rfl⟩
 have KY:Kept (fun b=>b=p) w Y:=by rw [hY];exact ((Kept.refl (fun b=>b=p) w).setCell (p:=⟨p,4,none⟩) rfl _).drew
 rw [<- hY]
 have HY:Hid (Sb Y p { m with vals:=vl } ra va ma rc vc mc bm):=by
  have h1:=H.out.set 4 (.slice (some ⟨g,0,none⟩) vl.length vc)
  rw [<- HVA.out] at h1
  have h2:=Mf.kept h1 (S:=fun _=>False) (Kept.refl _ _).drew (fun h=>h)
  rw [hY,<- HVA.out]
  exact h2
 have HKY:Hid (Kept (fun b=>b=p) w Y):=KY
 clear KY hY c4 z4
 go_wp2_with (go_at_call 260;refine (HHR.out _ HY.out HKY.out).mono ?_;rintro _ x1 ⟨rfl,hr⟩)
 exact bodyPost_end (v:=.tuple #[]) (by simp [results,Tryz.results206,go_sem]) rfl ⟨rfl,hr⟩
end Mw10
end Go.Proofs.YtladjpombohpaaaGreatDoor
