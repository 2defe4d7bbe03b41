import Derived.Deep.RegionLaw
import Derived.Test.YtladjpombohpaaaGreatDoorPkJE26
import Derived.Test.YtladjpombohpaaaGreatDoorPkJE29
namespace Go.Proofs.YtladjpombohpaaaGreatDoor
set_option maxRecDepth 100000
set_option maxHeartbeats 8000000
set_option linter.unusedVariables false
namespace Mw11
open Go.RowKit Go.Maps Go.WideMaps Go.ChangeMaps
open Nd0 (Kept Ints lt_of_cell At)
open Mm0 Mx0 Mu2 Mw0 Mw2 Mw3 Mw4 Mw5 Mw9 Ms0 Mi5 Te1 Tk0 Qc0 Qc2
open Ta1 Ta2 Tc2 Tc5 Td1 Mc0 Mm1
open Ss0 (bs)
theorem iRemSeen (n:Nat) (F:Nat->Bool) (vb:List Bool) (w:World) (p c:Nat) (f:ByteArray->Option Int) (m:Mc) (ra va ma:Option Addr) (rc vc mc bm:Nat) (hn:n<=12) (hN:m.N=(n:Int)) (hS:m.S=bs (tab n F)) (hv:m.vals=vb.map bi) (hk:vb.length<=n) (hks:(bs (keyL (n - vb.length) (tab (n - vb.length) (lft n F vb)))).size<=maxLen) (hI:Ints w va m.vals) (hM:Ms w bm c f) (hT:TabK w) (h:Sb w p m ra va ma rc vc mc bm) (hf:(f (bs (keyL (n - vb.length) (tab (n - vb.length) (lft n F vb))))).isSome=true) :
 Calls Tryz.prog 260 #[.pointer (some ⟨p,0,none⟩)] w fun e w'=>e=.returned (.tuple #[])/\Below w.heap.size w w':=by
 have H_w:Hid (Sb w p m ra va ma rc vc mc bm):=h
 have HMS_w:Hid (Ms w bm c f):=hM
 have HT_w:Hid (TabK w):=hT
 have HLF:Hid (∀ W,Below w.heap.size w W->Calls Tryz.prog 258 #[mval m ra va ma rc vc mc] W fun e w'=>e=.returned (tv ((n - vb.length:Nat):Int) (bs (tab (n - vb.length) (lft n F vb))))/\Below W.heap.size W w'):=fun W hb=>iLeft n F vb m ra va ma rc vc mc W hn hN hS hv hk (hI.below hb)
 have HKY:Hid (∀ W,TabK W->Calls Tryz.prog 259 #[tv ((n - vb.length:Nat):Int) (bs (tab (n - vb.length) (lft n F vb)))] W fun e w'=>e=.returned (.string (bs (keyL (n - vb.length) (tab (n - vb.length) (lft n F vb)))))/\Below W.heap.size W w'):=fun W ht=>iKey _ _ W (by omega) ht
 have HKS:Hid ((bs (keyL (n - vb.length) (tab (n - vb.length) (lft n F vb)))).size<=maxLen):=hks
 have HF:Hid ((f (bs (keyL (n - vb.length) (tab (n - vb.length) (lft n F vb))))).isSome=true):=hf
 clear hf
 clear h hM hT hN hS hv hk hI hn hks
 generalize bs (keyL (n - vb.length) (tab (n - vb.length) (lft n F vb)))=KEY at *
 generalize tv ((n - vb.length:Nat):Int) (bs (tab (n - vb.length) (lft n F vb)))=TT at *
 obtain ⟨c0,c1,c2,c3,c4,c5,c6,c7,c8,c9,c10,c11,z0,z1,z2,z3,z4,z5,z6,z7,z8,z9,z10,z11⟩:=H_w.out.all
 have hp:=H_w.out.lt
 go_enter Tryz.func260,Tryz.ntmps260
 go_wp2_with fail
 clear c0 c1 c2 c3 c4 c5 c6 c7 c8 c9 c10 c11 z0 z1 z2 z3 z4 z5 z6 z7 z8 z9 z10 z11 hp
 refine (HLF.out _ (Below.refl _ _)).mono ?_
 rintro _ x1 ⟨rfl,hb⟩
 have HB_x1:Hid (Below w.heap.size w x1):=hb
 have HT_x1:Hid (TabK x1):=HT_w.out.below hb
 clear hb
 go_wp2_with fail
 refine (HKY.out _ HT_x1.out).mono ?_
 rintro _ x2 ⟨rfl,hb⟩
 have HB_x2:Hid (Below w.heap.size w x2):=HB_x1.out.trans (hb.mono HB_x1.out.size)
 have H_x2:Hid (Sb x2 p m ra va ma rc vc mc bm):=H_w.out.below HB_x2.out
 have HMS_x2:Hid (Ms x2 bm c f):=HMS_w.out.below HB_x2.out
 clear hb
 have c11:=H_x2.out.all.c11
 have c3:=H_x2.out.all.c3
 have hlk:=HMS_x2.out.look HKS.out
 have hp:=H_x2.out.lt
 rw [HF.out] at hlk
 go_wp2_with fail
 (try simp only [Exit.inBlock,Exit.then])
 refine bodyPost_ret (results_none rfl _ _ _) rfl ?_
 exact ⟨rfl,HB_x2.out⟩
theorem iRemNoRoom (n:Nat) (F:Nat->Bool) (vb:List Bool) (w:World) (p c:Nat) (f:ByteArray->Option Int) (m:Mc) (ra va ma:Option Addr) (rc vc mc bm:Nat) (hn:n<=12) (hN:m.N=(n:Int)) (hS:m.S=bs (tab n F)) (hv:m.vals=vb.map bi) (hk:vb.length<=n) (hks:(bs (keyL (n - vb.length) (tab (n - vb.length) (lft n F vb)))).size<=maxLen) (hI:Ints w va m.vals) (hM:Ms w bm c f) (hT:TabK w) (h:Sb w p m ra va ma rc vc mc bm) (hf:f (bs (keyL (n - vb.length) (tab (n - vb.length) (lft n F vb))))=none) (hr:m.room=0) :
 Calls Tryz.prog 260 #[.pointer (some ⟨p,0,none⟩)] w fun e w'=>e=.returned (.tuple #[])/\Below w.heap.size w w':=by
 have H_w:Hid (Sb w p m ra va ma rc vc mc bm):=h
 have HMS_w:Hid (Ms w bm c f):=hM
 have HT_w:Hid (TabK w):=hT
 have HLF:Hid (∀ W,Below w.heap.size w W->Calls Tryz.prog 258 #[mval m ra va ma rc vc mc] W fun e w'=>e=.returned (tv ((n - vb.length:Nat):Int) (bs (tab (n - vb.length) (lft n F vb))))/\Below W.heap.size W w'):=fun W hb=>iLeft n F vb m ra va ma rc vc mc W hn hN hS hv hk (hI.below hb)
 have HKY:Hid (∀ W,TabK W->Calls Tryz.prog 259 #[tv ((n - vb.length:Nat):Int) (bs (tab (n - vb.length) (lft n F vb)))] W fun e w'=>e=.returned (.string (bs (keyL (n - vb.length) (tab (n - vb.length) (lft n F vb)))))/\Below W.heap.size W w'):=fun W ht=>iKey _ _ W (by omega) ht
 have HKS:Hid ((bs (keyL (n - vb.length) (tab (n - vb.length) (lft n F vb)))).size<=maxLen):=hks
 have HF:Hid (f (bs (keyL (n - vb.length) (tab (n - vb.length) (lft n F vb))))=none):=hf
 have HRM:Hid (m.room=0):=hr
 clear hf hr
 clear h hM hT hN hS hv hk hI hn hks
 generalize bs (keyL (n - vb.length) (tab (n - vb.length) (lft n F vb)))=KEY at *
 generalize tv ((n - vb.length:Nat):Int) (bs (tab (n - vb.length) (lft n F vb)))=TT at *
 obtain ⟨c0,c1,c2,c3,c4,c5,c6,c7,c8,c9,c10,c11,z0,z1,z2,z3,z4,z5,z6,z7,z8,z9,z10,z11⟩:=H_w.out.all
 have hp:=H_w.out.lt
 go_enter Tryz.func260,Tryz.ntmps260
 go_wp2_with fail
 clear c0 c1 c2 c3 c4 c5 c6 c7 c8 c9 c10 c11 z0 z1 z2 z3 z4 z5 z6 z7 z8 z9 z10 z11 hp
 refine (HLF.out _ (Below.refl _ _)).mono ?_
 rintro _ x1 ⟨rfl,hb⟩
 have HB_x1:Hid (Below w.heap.size w x1):=hb
 have HT_x1:Hid (TabK x1):=HT_w.out.below hb
 clear hb
 go_wp2_with fail
 refine (HKY.out _ HT_x1.out).mono ?_
 rintro _ x2 ⟨rfl,hb⟩
 have HB_x2:Hid (Below w.heap.size w x2):=HB_x1.out.trans (hb.mono HB_x1.out.size)
 have H_x2:Hid (Sb x2 p m ra va ma rc vc mc bm):=H_w.out.below HB_x2.out
 have HMS_x2:Hid (Ms x2 bm c f):=HMS_w.out.below HB_x2.out
 clear hb
 have c11:=H_x2.out.all.c11
 have c3:=H_x2.out.all.c3
 have hlk:=HMS_x2.out.look HKS.out
 have hp:=H_x2.out.lt
 rw [HF.out] at hlk
 rw [HRM.out] at c3
 simp only [Option.getD_none,Option.isSome_none] at hlk
 go_wp2_with fail
 (try simp only [Exit.inBlock,Exit.then])
 refine bodyPost_ret (results_none rfl _ _ _) rfl ?_
 exact ⟨rfl,HB_x2.out⟩
end Mw11
namespace Mw12
open Go.RowKit Go.Maps Go.WideMaps Go.ChangeMaps
open Nd0 (Kept Ints lt_of_cell At)
open Mm0 Mx0 Mu2 Mw0 Mw2 Mw3 Mw4 Mw5 Mw9 Ms0 Mi5 Te1 Tk0 Qc0 Qc2
open Ta1 Ta2 Tc2 Tc5 Td1 Mc0 Mm1
open Ss0 (bs)
theorem iRemMore (n:Nat) (F:Nat->Bool) (vb:List Bool) (w:World) (p c:Nat) (f:ByteArray->Option Int) (m:Mc) (ra va ma:Option Addr) (rc vc mc bm:Nat) (hn:n<=12) (hN:m.N=(n:Int)) (hS:m.S=bs (tab n F)) (hv:m.vals=vb.map bi) (hk:vb.length<=n) (hks:(bs (keyL (n - vb.length) (tab (n - vb.length) (lft n F vb)))).size<=maxLen) (hI:Ints w va m.vals) (hM:Ms w bm c f) (hT:TabK w) (h:Sb w p m ra va ma rc vc mc bm) (B:Nat) (hB:B<=w.heap.size) (hf:f (bs (keyL (n - vb.length) (tab (n - vb.length) (lft n F vb))))=none) (hr:¬ m.room=0) (hne:¬ (m.memo.length:Int)=m.room) (hrt:0<=m.ret/\m.ret<=1) (hc:c<=1048576) (hml:m.memo.length<=1048576) (hO:OwSo w B (.slice ma m.memo.length mc) m.memo) (hpb:¬ p=bm) (hpa:¬ At ma p) (hba:¬ At ma bm) :
 Calls Tryz.prog 260 #[.pointer (some ⟨p,0,none⟩)] w fun e w'=>e=.returned (.tuple #[])/\∃ g q cp,Sb w' p { m with memo:=m.memo++[⟨bs (keyL (n - vb.length) (tab (n - vb.length) (lft n F vb))),m.ret⟩] } ra va (some ⟨g,q,none⟩) rc vc cp bm/\Ms w' bm (if (f (bs (keyL (n - vb.length) (tab (n - vb.length) (lft n F vb))))).isSome then c else c+1) (putF (f) (bs (keyL (n - vb.length) (tab (n - vb.length) (lft n F vb)))) m.ret)/\OwSo w' B (.slice (some ⟨g,q,none⟩) (m.memo.length+1) cp) (m.memo++[⟨bs (keyL (n - vb.length) (tab (n - vb.length) (lft n F vb))),m.ret⟩])/\Kept (fun b=>b=p\/b=bm\/At ma b) w w'/\(At ma g\/w.heap.size<=g)/\¬ g=p/\¬ g=bm:=by
 have H_w:Hid (Sb w p m ra va ma rc vc mc bm):=h
 have HMS_w:Hid (Ms w bm c f):=hM
 have HT_w:Hid (TabK w):=hT
 have HLF:Hid (∀ W,Below w.heap.size w W->Calls Tryz.prog 258 #[mval m ra va ma rc vc mc] W fun e w'=>e=.returned (tv ((n - vb.length:Nat):Int) (bs (tab (n - vb.length) (lft n F vb))))/\Below W.heap.size W w'):=fun W hb=>iLeft n F vb m ra va ma rc vc mc W hn hN hS hv hk (hI.below hb)
 have HKY:Hid (∀ W,TabK W->Calls Tryz.prog 259 #[tv ((n - vb.length:Nat):Int) (bs (tab (n - vb.length) (lft n F vb)))] W fun e w'=>e=.returned (.string (bs (keyL (n - vb.length) (tab (n - vb.length) (lft n F vb)))))/\Below W.heap.size W w'):=fun W ht=>iKey _ _ W (by omega) ht
 have HKS:Hid ((bs (keyL (n - vb.length) (tab (n - vb.length) (lft n F vb)))).size<=maxLen):=hks
 have HF:Hid (f (bs (keyL (n - vb.length) (tab (n - vb.length) (lft n F vb))))=none):=hf
 have HRM:Hid (¬ m.room=0):=hr
 have HNE:Hid (¬ (m.memo.length:Int)=m.room):=hne
 have HRT:Hid (0<=m.ret/\m.ret<=1):=hrt
 have HCC:Hid (c<=1048576):=hc
 have HML:Hid (m.memo.length<=1048576):=hml
 have HOW:Hid (OwSo w B (.slice ma m.memo.length mc) m.memo):=hO
 have HPB:Hid (¬ p=bm):=hpb
 have HPA:Hid (¬ At ma p):=hpa
 have HBA:Hid (¬ At ma bm):=hba
 have HAA:Hid (∀ b,At ma b->At ma b):=fun b h=>h
 have HB0:Hid (B<=w.heap.size):=hB
 clear hf hr hne hrt hc hml hO hpb hpa hba hB
 clear h hM hT hN hS hv hk hI hn hks
 generalize bs (keyL (n - vb.length) (tab (n - vb.length) (lft n F vb)))=KEY at *
 generalize tv ((n - vb.length:Nat):Int) (bs (tab (n - vb.length) (lft n F vb)))=TT at *
 obtain ⟨c0,c1,c2,c3,c4,c5,c6,c7,c8,c9,c10,c11,z0,z1,z2,z3,z4,z5,z6,z7,z8,z9,z10,z11⟩:=H_w.out.all
 have hp:=H_w.out.lt
 go_enter Tryz.func260,Tryz.ntmps260
 go_wp2_with fail
 clear c0 c1 c2 c3 c4 c5 c6 c7 c8 c9 c10 c11 z0 z1 z2 z3 z4 z5 z6 z7 z8 z9 z10 z11 hp
 refine (HLF.out _ (Below.refl _ _)).mono ?_
 rintro _ x1 ⟨rfl,hb⟩
 have HB_x1:Hid (Below w.heap.size w x1):=hb
 have HT_x1:Hid (TabK x1):=HT_w.out.below hb
 clear hb
 go_wp2_with fail
 refine (HKY.out _ HT_x1.out).mono ?_
 rintro _ x2 ⟨rfl,hb⟩
 have HB_x2:Hid (Below w.heap.size w x2):=HB_x1.out.trans (hb.mono HB_x1.out.size)
 have H_x2:Hid (Sb x2 p m ra va ma rc vc mc bm):=H_w.out.below HB_x2.out
 have HMS_x2:Hid (Ms x2 bm c f):=HMS_w.out.below HB_x2.out
 clear hb
 have c11:=H_x2.out.all.c11
 have c3:=H_x2.out.all.c3
 have hlk:=HMS_x2.out.look HKS.out
 have hp:=H_x2.out.lt
 rw [HF.out] at hlk
 simp only [Option.getD_none,Option.isSome_none] at hlk
 have hr:=HRM.out
 have hne:=HNE.out
 have c10:=H_x2.out.all.c10
 go_wp2_with fail
 go_region
 clear c3 c10 c11 hlk hp hr
 obtain ⟨Y0,hY0⟩:∃ Y,Y=x2.drew:=⟨_,rfl⟩
 rw [<- hY0]
 have HB_Y0:Hid (Below w.heap.size w Y0):=by rw [hY0];exact HB_x2.out.drew
 clear hY0
 have H0:Hid (Sb Y0 p m ra va ma rc vc mc bm):=H_w.out.below HB_Y0.out
 have HM0:Hid (Ms Y0 bm c f):=HMS_w.out.below HB_Y0.out
 have HK0:Hid (Kept (fun b=>b=p\/b=bm\/At ma b) w Y0):=Kept.ofBelow HB_Y0.out
 have HO0:Hid (OwSo Y0 B (.slice ma m.memo.length mc) m.memo):=HOW.out.kept (S:=fun _=>False) (Kept.ofBelow HB_Y0.out) (fun _ _ _ _ _ h=>h)
 have c11:=H0.out.all.c11
 have c5:Y0.cell? ⟨p,5,none⟩=some (.int .i64 m.ret):=H0.out.all.c5
 have hp:=H0.out.lt
 obtain ⟨Y1,hup,hm1,hk1⟩:=(HM0.out.kept (S:=fun _=>False) (Kept.refl _ _).drew (fun h=>h)).store HKS.out (Ms0.wf_bit (by have:=HRT.out.1;omega) HRT.out.2) (v:=m.ret) HCC.out
 have HM1:Hid (Ms Y1 bm (if (f KEY).isSome then c else c+1) (putF f KEY m.ret)):=hm1
 have HK1:Hid (Kept (fun k=>k=bm) Y0 Y1):=(Kept.refl _ _).drew.trans hk1
 clear hm1 hk1
 go_wp2_with fail
 go_region
 clear hup c11 c5 hp
 have HB1:Hid (Sb Y1 p m ra va ma rc vc mc bm):=H0.out.kept HK1.out HPB.out
 have HO1:Hid (OwSo Y1 B (.slice ma m.memo.length mc) m.memo):=HO0.out.kept HK1.out (fun g o n c e h=>HBA.out ⟨_,(Value.slice.inj e).1,h.symm⟩)
 have HOA:Hid (∀ o,OwSo (Y1.drew.alloc o) B (.slice ma m.memo.length mc) m.memo):=fun o=>HO1.out.kept (S:=fun _=>False) ((Kept.refl _ _).drew.alloc o) (fun _ _ _ _ _ h=>h)
 have HBS:Hid (∀ o,B<=(Y1.drew.alloc o).heap.size):=fun o=>Nat.le_trans HB0.out (Nat.le_trans HK0.out.size (Nat.le_trans HK1.out.size ((Kept.refl (fun _=>False) Y1).drew.alloc o).size))
 have HSA:Hid (∀ o,Sb (Y1.drew.alloc o) p m ra va ma rc vc mc bm):=fun o=>HB1.out.kept (S:=fun _=>False) ((Kept.refl _ _).drew.alloc o) (fun h=>h)
 have HMQ:Hid (∀ o,Ms (Y1.drew.alloc o) bm (if (f KEY).isSome then c else c+1) (putF f KEY m.ret)):=fun o=>HM1.out.kept (S:=fun _=>False) ((Kept.refl _ _).drew.alloc o) (fun h=>h)
 have HKA:Hid (∀ o,Kept (fun b=>b=p\/b=bm\/At ma b) w (Y1.drew.alloc o)):=fun o=>(HK0.out.trans (HK1.out.mono (fun b hb=>.inr (.inl hb)))).drew.alloc o
 have c10:Y1.cell? ⟨p,10,none⟩=some (.slice ma m.memo.length mc):=HB1.out.all.c10
 have c5:Y1.cell? ⟨p,5,none⟩=some (.int .i64 m.ret):=HB1.out.all.c5
 have z10:=HB1.out.all.z10
 have hp:=HB1.out.lt
 go_wp2_with fail
 go_region_law ((refine step_so _ (by rfl) _ _ (by rfl) B ma mc m.memo ⟨KEY,m.ret⟩ (by rfl) _ (by rfl) (by simp) (by simp) (HOA.out _) (HBS.out _) HML.out ?_;intro g9 q9 cp9 w9 hO9 hK9 hg9;have HO9:Hid (OwSo w9 B (.slice (some ⟨g9,q9,none⟩) (m.memo.length+1) cp9) (m.memo++[⟨KEY,m.ret⟩])):=hO9;have H9:Hid (Sb w9 p m ra va ma rc vc mc bm):=(HSA.out _).kept hK9 HPA.out;have HM9:Hid (Ms w9 bm (if (f KEY).isSome then c else c+1) (putF f KEY m.ret)):=(HMQ.out _).kept hK9 HBA.out;have HK9:Hid (Kept (fun b=>b=p\/b=bm\/At ma b) w w9):=(HKA.out _).trans (hK9.mono (fun b hb=>.inr (.inr (HAA.out b hb))));have HG9:Hid (At ma g9\/w.heap.size<=g9):=hg9.elim (fun h=>.inl (HAA.out _ h)) (fun h=>.inr (Nat.le_trans (HKA.out _).size h));have HGP:Hid (¬ g9=p):=(fun e=>hg9.elim (fun h=>HPA.out (e ▸ h)) (fun h=>by have h1:=(HSA.out (.map #[] 0)).lt;simp at h1 h;omega));have HGB:Hid (¬ g9=bm):=(fun e=>hg9.elim (fun h=>HBA.out (e ▸ h)) (fun h=>by have h1:=(HMQ.out (.map #[] 0)).lt;simp at h1 h;omega));have c109:w9.cell? ⟨p,10,none⟩=some (.slice ma m.memo.length mc):=H9.out.all.c10;have z109:=H9.out.all.z10;have hp9:=H9.out.lt;clear hO9 hK9 hg9))
 all_goals
  have K9:Kept (fun b=>b=p) w9 (w9.setCell ⟨p,10,none⟩ (.slice (some ⟨g9,q9,none⟩) (m.memo.length+1) cp9)):=(Kept.refl (fun b=>b=p) w9).setCell (p:=⟨p,10,none⟩) rfl _
  have hll:(m.memo++[(⟨KEY,m.ret⟩:Sn)]).length=m.memo.length+1:=by rw [List.length_append];rfl
  refine bodyPost_end (results_none rfl _ _ _) rfl ⟨rfl,g9,q9,cp9,?_,HM9.out.kept K9 (fun e=>HPB.out e.symm),HO9.out.kept K9 (fun g o n c e h=>HGP.out (by cases e;exact h)),HK9.out.trans (K9.mono (fun b hb=>.inl hb)),HG9.out,HGP.out,HGB.out⟩
  have h1:=H9.out.set 10 (.slice (some ⟨g9,q9,none⟩) (m.memo.length+1) cp9)
  show Mf _ _ _
  rw [hll]
  exact h1
end Mw12
namespace Mw13
open Go.RowKit Go.Maps Go.WideMaps Go.ChangeMaps
open Nd0 (Kept Ints lt_of_cell At)
open Mm0 Mx0 Mu2 Mw0 Mw2 Mw3 Mw4 Mw5 Mw9 Ms0 Mi5 Te1 Tk0 Qc0 Qc2
open Ta1 Ta2 Tc2 Tc5 Td1 Mc0 Mm1
open Ss0 (bs)
theorem iRemFull (n:Nat) (F:Nat->Bool) (vb:List Bool) (w:World) (p c:Nat) (x:Sn) (l:List Sn) (f:ByteArray->Option Int) (m:Mc) (ra va ma:Option Addr) (rc vc mc bm:Nat) (hn:n<=12) (hN:m.N=(n:Int)) (hS:m.S=bs (tab n F)) (hv:m.vals=vb.map bi) (hk:vb.length<=n) (hks:(bs (keyL (n - vb.length) (tab (n - vb.length) (lft n F vb)))).size<=maxLen) (hI:Ints w va m.vals) (hM:Ms w bm (c+1) f) (hT:TabK w) (h:Sb w p m ra va ma rc vc mc bm) (B:Nat) (hB:B<=w.heap.size) (hf:f (bs (keyL (n - vb.length) (tab (n - vb.length) (lft n F vb))))=none) (hr:¬ m.room=0) (hm:m.memo=x :: l) (hne:(m.memo.length:Int)=m.room) (hxk:x.k.size<=maxLen) (hxf:(f x.k).isSome=true) (hrt:0<=m.ret/\m.ret<=1) (hc:c<=1048576) (hml:l.length<=1048576) (hO:OwSo w B (.slice ma m.memo.length mc) m.memo) (hpb:¬ p=bm) (hpa:¬ At ma p) (hba:¬ At ma bm) :
 Calls Tryz.prog 260 #[.pointer (some ⟨p,0,none⟩)] w fun e w'=>e=.returned (.tuple #[])/\∃ g q cp,Sb w' p { m with memo:=l++[⟨bs (keyL (n - vb.length) (tab (n - vb.length) (lft n F vb))),m.ret⟩] } ra va (some ⟨g,q,none⟩) rc vc cp bm/\Ms w' bm (if ((delF f x.k) (bs (keyL (n - vb.length) (tab (n - vb.length) (lft n F vb))))).isSome then c else c+1) (putF ((delF f x.k)) (bs (keyL (n - vb.length) (tab (n - vb.length) (lft n F vb)))) m.ret)/\OwSo w' B (.slice (some ⟨g,q,none⟩) (l.length+1) cp) (l++[⟨bs (keyL (n - vb.length) (tab (n - vb.length) (lft n F vb))),m.ret⟩])/\Kept (fun b=>b=p\/b=bm\/At ma b) w w'/\(At ma g\/w.heap.size<=g)/\¬ g=p/\¬ g=bm:=by
 obtain ⟨g0,o0,hma,hBg,hlie⟩:∃ g0 o0,ma=some ⟨g0,o0,none⟩/\B<=g0/\Lie w g0 o0 mc (x :: l):=by
  rcases hO with ⟨_,e⟩|⟨g,o,cap,e,hb,H⟩
  ·rw [hm] at e;cases e
  ·cases e
   rw [hm] at H
   exact ⟨g,o,rfl,hb,H⟩
 subst hma
 obtain ⟨o1,ho1⟩:∃ o1,o1=if mc=1 then o0 else o0+2:=⟨_,rfl⟩
 have HO1:Hid (o1=if mc=1 then o0 else o0+2):=ho1
 clear ho1
 have H_w:Hid (Sb w p m ra va (some ⟨g0,o0,none⟩) rc vc mc bm):=h
 have HMS_w:Hid (Ms w bm (c+1) f):=hM
 have HT_w:Hid (TabK w):=hT
 have HLF:Hid (∀ W,Below w.heap.size w W->Calls Tryz.prog 258 #[mval m ra va (some ⟨g0,o0,none⟩) rc vc mc] W fun e w'=>e=.returned (tv ((n - vb.length:Nat):Int) (bs (tab (n - vb.length) (lft n F vb))))/\Below W.heap.size W w'):=fun W hb=>iLeft n F vb m ra va (some ⟨g0,o0,none⟩) rc vc mc W hn hN hS hv hk (hI.below hb)
 have HKY:Hid (∀ W,TabK W->Calls Tryz.prog 259 #[tv ((n - vb.length:Nat):Int) (bs (tab (n - vb.length) (lft n F vb)))] W fun e w'=>e=.returned (.string (bs (keyL (n - vb.length) (tab (n - vb.length) (lft n F vb)))))/\Below W.heap.size W w'):=fun W ht=>iKey _ _ W (by omega) ht
 have HKS:Hid ((bs (keyL (n - vb.length) (tab (n - vb.length) (lft n F vb)))).size<=maxLen):=hks
 have HF:Hid (f (bs (keyL (n - vb.length) (tab (n - vb.length) (lft n F vb))))=none):=hf
 have HRM:Hid (¬ m.room=0):=hr
 have HMM:Hid (m.memo=x :: l):=hm
 have HXK:Hid (x.k.size<=maxLen):=hxk
 have HXF:Hid ((f x.k).isSome=true):=hxf
 have HNE:Hid ((l.length:Int)+1=m.room):=by rw [hm,List.length_cons] at hne;exact_mod_cast hne
 have HRT:Hid (0<=m.ret/\m.ret<=1):=hrt
 have HCC:Hid (c<=1048576):=hc
 have HML:Hid (l.length<=1048576):=hml
 have HLIE:Hid (Lie w g0 o0 mc (x :: l)):=hlie
 have HBG:Hid (B<=g0):=hBg
 have HPB:Hid (¬ p=bm):=hpb
 have HPA0:Hid (¬ g0=p):=fun e=>hpa ⟨_,rfl,e.symm⟩
 have HBA0:Hid (¬ g0=bm):=fun e=>hba ⟨_,rfl,e.symm⟩
 have HPA:Hid (¬ At (some ⟨g0,o1,none⟩) p):=fun h=>by obtain ⟨y,hy,e⟩:=h;cases hy;exact HPA0.out e.symm
 have HBA:Hid (¬ At (some ⟨g0,o1,none⟩) bm):=fun h=>by obtain ⟨y,hy,e⟩:=h;cases hy;exact HBA0.out e.symm
 have HAA:Hid (∀ b,At (some ⟨g0,o1,none⟩) b->At (some ⟨g0,o0,none⟩) b):=fun b h=>by obtain ⟨y,hy,e⟩:=h;cases hy;exact ⟨_,rfl,e⟩
 have HB0:Hid (B<=w.heap.size):=hB
 clear hf hr hne hrt hc hml hO hpb hpa hba hB hm hxk hxf hlie hBg
 clear h hM hT hN hS hv hk hI hn hks
 generalize bs (keyL (n - vb.length) (tab (n - vb.length) (lft n F vb)))=KEY at *
 generalize tv ((n - vb.length:Nat):Int) (bs (tab (n - vb.length) (lft n F vb)))=TT at *
 obtain ⟨c0,c1,c2,c3,c4,c5,c6,c7,c8,c9,c10,c11,z0,z1,z2,z3,z4,z5,z6,z7,z8,z9,z10,z11⟩:=H_w.out.all
 have hp:=H_w.out.lt
 go_enter Tryz.func260,Tryz.ntmps260
 go_wp2_with fail
 clear c0 c1 c2 c3 c4 c5 c6 c7 c8 c9 c10 c11 z0 z1 z2 z3 z4 z5 z6 z7 z8 z9 z10 z11 hp
 refine (HLF.out _ (Below.refl _ _)).mono ?_
 rintro _ x1 ⟨rfl,hb⟩
 have HB_x1:Hid (Below w.heap.size w x1):=hb
 have HT_x1:Hid (TabK x1):=HT_w.out.below hb
 clear hb
 go_wp2_with fail
 refine (HKY.out _ HT_x1.out).mono ?_
 rintro _ x2 ⟨rfl,hb⟩
 have HB_x2:Hid (Below w.heap.size w x2):=HB_x1.out.trans (hb.mono HB_x1.out.size)
 have H_x2:Hid (Sb x2 p m ra va (some ⟨g0,o0,none⟩) rc vc mc bm):=H_w.out.below HB_x2.out
 have HMS_x2:Hid (Ms x2 bm (c+1) f):=HMS_w.out.below HB_x2.out
 clear hb
 have c11:=H_x2.out.all.c11
 have c3:=H_x2.out.all.c3
 have hlk:=HMS_x2.out.look HKS.out
 have hp:=H_x2.out.lt
 rw [HF.out] at hlk
 simp only [Option.getD_none,Option.isSome_none] at hlk
 have hr:=HRM.out
 have hne:=HNE.out
 have c10:x2.cell? ⟨p,10,none⟩=some (.slice (some ⟨g0,o0,none⟩) (l.length+1) mc):=by rw [H_x2.out.all.c10,HMM.out];rfl
 go_wp2_with fail
 go_region
 clear c3 c10 c11 hlk hp hr
 obtain ⟨Y9,hY9⟩:∃ Y,Y=x2.drew:=⟨_,rfl⟩
 rw [<- hY9]
 have HB_Y9:Hid (Below w.heap.size w Y9):=by rw [hY9];exact HB_x2.out.drew
 clear hY9
 have H9:Hid (Sb Y9 p m ra va (some ⟨g0,o0,none⟩) rc vc mc bm):=H_w.out.below HB_Y9.out
 have HM9:Hid (Ms Y9 bm (c+1) f):=HMS_w.out.below HB_Y9.out
 have HL9:Hid (Lie Y9 g0 o0 mc (x :: l)):=HLIE.out.kept (S:=fun _=>False) (Kept.ofBelow HB_Y9.out) (fun h=>h)
 have c10:Y9.cell? ⟨p,10,none⟩=some (.slice (some ⟨g0,o0,none⟩) (l.length+1) mc):=by rw [H9.out.all.c10,HMM.out];rfl
 have c11:=H9.out.all.c11
 have hp:=H9.out.lt
 have cx:Y9.cell? ⟨g0,o0,none⟩=some (.string x.k):=HL9.out.cell 0 (by rw [List.length_cons];omega)
 obtain ⟨Y8,hdl,hm8,hk8⟩:=Mw5.Ms.drop (HM9.out.kept (S:=fun _=>False) (Kept.refl _ _).drew (fun h=>h)) HXK.out HXF.out 0
 have HM8:Hid (Ms Y8 bm c (delF f x.k)):=hm8
 have HK8:Hid (Kept (fun k=>k=bm) Y9 Y8):=(Kept.refl _ _).drew.trans hk8
 clear hm8 hk8
 go_wp2_with fail
 go_region
 clear c10 c11 hp cx hdl
 have H8:Hid (Sb Y8 p m ra va (some ⟨g0,o0,none⟩) rc vc mc bm):=H9.out.kept HK8.out HPB.out
 have HL8:Hid (Lie Y8 g0 o0 mc (x :: l)):=HL9.out.kept HK8.out HBA0.out
 have c10:Y8.cell? ⟨p,10,none⟩=some (.slice (some ⟨g0,o0,none⟩) (l.length+1) mc):=by rw [H8.out.all.c10,HMM.out];rfl
 have z10:=H8.out.all.z10
 have hp:=H8.out.lt
 have hmc:l.length+1<=mc:=HL8.out.le
 go_upto_region 6 with fail
 have hif:(if mc=1 then some (⟨g0,o0,none⟩:Addr) else some ⟨g0,o0+2,none⟩)=some ⟨g0,o1,none⟩:=by rw [HO1.out];split<;>rfl
 rw [hif]
 clear hif
 obtain ⟨Y0,hY0⟩:∃ Y,Y=Y8.setCell ⟨p,10,none⟩ (.slice (some ⟨g0,o1,none⟩) l.length (mc - 1)):=⟨_,rfl⟩
 rw [<- hY0]
 have K80:Kept (fun b=>b=p) Y8 Y0:=by rw [hY0];exact (Kept.refl (fun b=>b=p) Y8).setCell (p:=⟨p,10,none⟩) rfl _
 have H0:Hid (Sb Y0 p { m with memo:=l } ra va (some ⟨g0,o1,none⟩) rc vc (mc - 1) bm):=by rw [hY0];exact H8.out.set 10 (.slice (some ⟨g0,o1,none⟩) l.length (mc - 1))
 have HM0:Hid (Ms Y0 bm c (delF f x.k)):=HM8.out.kept K80 (fun e=>HPB.out e.symm)
 have HK0:Hid (Kept (fun b=>b=p\/b=bm\/At (some ⟨g0,o0,none⟩) b) w Y0):=((Kept.ofBelow HB_Y9.out).trans (HK8.out.mono (fun b hb=>.inr (.inl hb)))).trans (K80.mono (fun b hb=>.inl hb))
 have HO0:Hid (OwSo Y0 B (.slice (some ⟨g0,o1,none⟩) l.length (mc - 1)) l):=.inr ⟨g0,o1,mc - 1,rfl,HBG.out,by
  have hL:=HL8.out.kept K80 HPA0.out
  have h1:=hL.le
  rw [List.length_cons] at h1
  rw [HO1.out]
  split
  ·subst mc
   obtain rfl:l=[]:=List.eq_nil_of_length_eq_zero (by omega)
   exact ⟨hL.lt,Nat.le_refl _,by unfold maxLen;omega,fun j hj=>by simp at hj,fun j hj=>by simp at hj,fun j hj=>by simp at hj⟩
  ·exact hL.tail⟩
 clear K80 hY0 c10 z10 hp
 have c11:=H0.out.all.c11
 have c5:Y0.cell? ⟨p,5,none⟩=some (.int .i64 m.ret):=H0.out.all.c5
 have hp:=H0.out.lt
 obtain ⟨Y1,hup,hm1,hk1⟩:=(HM0.out.kept (S:=fun _=>False) (Kept.refl _ _).drew (fun h=>h)).store HKS.out (Ms0.wf_bit (by have:=HRT.out.1;omega) HRT.out.2) (v:=m.ret) HCC.out
 have HM1:Hid (Ms Y1 bm (if ((delF f x.k) KEY).isSome then c else c+1) (putF (delF f x.k) KEY m.ret)):=hm1
 have HK1:Hid (Kept (fun k=>k=bm) Y0 Y1):=(Kept.refl _ _).drew.trans hk1
 clear hm1 hk1
 go_wp2_with fail
 go_region
 clear hup c11 c5 hp
 have HB1:Hid (Sb Y1 p { m with memo:=l } ra va (some ⟨g0,o1,none⟩) rc vc (mc - 1) bm):=H0.out.kept HK1.out HPB.out
 have HO1:Hid (OwSo Y1 B (.slice (some ⟨g0,o1,none⟩) l.length (mc - 1)) l):=HO0.out.kept HK1.out (fun g o n c e h=>HBA.out ⟨_,(Value.slice.inj e).1,h.symm⟩)
 have HOA:Hid (∀ o,OwSo (Y1.drew.alloc o) B (.slice (some ⟨g0,o1,none⟩) l.length (mc - 1)) l):=fun o=>HO1.out.kept (S:=fun _=>False) ((Kept.refl _ _).drew.alloc o) (fun _ _ _ _ _ h=>h)
 have HBS:Hid (∀ o,B<=(Y1.drew.alloc o).heap.size):=fun o=>Nat.le_trans HB0.out (Nat.le_trans HK0.out.size (Nat.le_trans HK1.out.size ((Kept.refl (fun _=>False) Y1).drew.alloc o).size))
 have HSA:Hid (∀ o,Sb (Y1.drew.alloc o) p { m with memo:=l } ra va (some ⟨g0,o1,none⟩) rc vc (mc - 1) bm):=fun o=>HB1.out.kept (S:=fun _=>False) ((Kept.refl _ _).drew.alloc o) (fun h=>h)
 have HMQ:Hid (∀ o,Ms (Y1.drew.alloc o) bm (if ((delF f x.k) KEY).isSome then c else c+1) (putF (delF f x.k) KEY m.ret)):=fun o=>HM1.out.kept (S:=fun _=>False) ((Kept.refl _ _).drew.alloc o) (fun h=>h)
 have HKA:Hid (∀ o,Kept (fun b=>b=p\/b=bm\/At (some ⟨g0,o0,none⟩) b) w (Y1.drew.alloc o)):=fun o=>(HK0.out.trans (HK1.out.mono (fun b hb=>.inr (.inl hb)))).drew.alloc o
 have c10:Y1.cell? ⟨p,10,none⟩=some (.slice (some ⟨g0,o1,none⟩) l.length (mc - 1)):=HB1.out.all.c10
 have c5:Y1.cell? ⟨p,5,none⟩=some (.int .i64 m.ret):=HB1.out.all.c5
 have z10:=HB1.out.all.z10
 have hp:=HB1.out.lt
 go_wp2_with fail
 go_region_law ((refine step_so _ (by rfl) _ _ (by rfl) B (some ⟨g0,o1,none⟩) (mc - 1) l ⟨KEY,m.ret⟩ (by rfl) _ (by rfl) (by simp) (by simp) (HOA.out _) (HBS.out _) HML.out ?_;intro g9 q9 cp9 w9 hO9 hK9 hg9;have HO9:Hid (OwSo w9 B (.slice (some ⟨g9,q9,none⟩) (l.length+1) cp9) (l++[⟨KEY,m.ret⟩])):=hO9;have H9:Hid (Sb w9 p { m with memo:=l } ra va (some ⟨g0,o1,none⟩) rc vc (mc - 1) bm):=(HSA.out _).kept hK9 HPA.out;have HM9:Hid (Ms w9 bm (if ((delF f x.k) KEY).isSome then c else c+1) (putF (delF f x.k) KEY m.ret)):=(HMQ.out _).kept hK9 HBA.out;have HK9:Hid (Kept (fun b=>b=p\/b=bm\/At (some ⟨g0,o0,none⟩) b) w w9):=(HKA.out _).trans (hK9.mono (fun b hb=>.inr (.inr (HAA.out b hb))));have HG9:Hid (At (some ⟨g0,o0,none⟩) g9\/w.heap.size<=g9):=hg9.elim (fun h=>.inl (HAA.out _ h)) (fun h=>.inr (Nat.le_trans (HKA.out _).size h));have HGP:Hid (¬ g9=p):=(fun e=>hg9.elim (fun h=>HPA.out (e ▸ h)) (fun h=>by have h1:=(HSA.out (.map #[] 0)).lt;simp at h1 h;omega));have HGB:Hid (¬ g9=bm):=(fun e=>hg9.elim (fun h=>HBA.out (e ▸ h)) (fun h=>by have h1:=(HMQ.out (.map #[] 0)).lt;simp at h1 h;omega));have c109:w9.cell? ⟨p,10,none⟩=some (.slice (some ⟨g0,o1,none⟩) l.length (mc - 1)):=H9.out.all.c10;have z109:=H9.out.all.z10;have hp9:=H9.out.lt;clear hO9 hK9 hg9))
 all_goals
  have K9:Kept (fun b=>b=p) w9 (w9.setCell ⟨p,10,none⟩ (.slice (some ⟨g9,q9,none⟩) (l.length+1) cp9)):=(Kept.refl (fun b=>b=p) w9).setCell (p:=⟨p,10,none⟩) rfl _
  have hll:(l++[(⟨KEY,m.ret⟩:Sn)]).length=l.length+1:=by rw [List.length_append];rfl
  refine bodyPost_end (results_none rfl _ _ _) rfl ⟨rfl,g9,q9,cp9,?_,HM9.out.kept K9 (fun e=>HPB.out e.symm),HO9.out.kept K9 (fun g o n c e h=>HGP.out (by cases e;exact h)),HK9.out.trans (K9.mono (fun b hb=>.inl hb)),HG9.out,HGP.out,HGB.out⟩
  have h1:=H9.out.set 10 (.slice (some ⟨g9,q9,none⟩) (l.length+1) cp9)
  show Mf _ _ _
  rw [hll]
  exact h1
end Mw13
end Go.Proofs.YtladjpombohpaaaGreatDoor
