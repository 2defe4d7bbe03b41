import Derived.Test.YtladjpombohpaaaGreatDoorPkJE17
namespace Go.Proofs.YtladjpombohpaaaGreatDoor
set_option maxRecDepth 100000
set_option maxHeartbeats 8000000
set_option linter.unusedVariables false
namespace Mi4
open Go.RowKit
open Ta0 Ta1 Ta2 Tc2 Te1 Mm0 Mm2 Mx0 Ms0 Mi1 Mi2 Mi3
open Nd0 (Kept Ints set_other set_same lt_of_cell)
open Qc0 (Sn Sns SnAt)
open Ss1 (tl)
theorem bit_iff (x:Int):bitB x=true↔0<=x/\x<=1:=by
 unfold bitB
 rw [decide_eq_true_eq]
 omega
theorem ok_iff (m:Mc):mokB m=true↔tokB m.N (tl m.S)=true/\(m.row.length:Int)=m.N/\memB m.memo m.room=true/\valB m.vals m.N=true/\retB m=true/\countsB m=true:=by
 have hv:valB m.vals m.N=true↔(∀ x∈m.vals,0<=x/\x<=1)/\(m.vals.length:Int)<=m.N:=by
  unfold valB allB
  rw [Bool.and_eq_true,List.all_eq_true,decide_eq_true_eq]
  constructor
  ·rintro ⟨h,k⟩
   exact ⟨fun x hx=>(bit_iff x).1 (h x hx),k⟩
  ·rintro ⟨h,k⟩
   exact ⟨fun x hx=>(bit_iff x).2 (h x hx),k⟩
 have hc:countsB m=true↔(0<=m.steps/\m.steps<=1000000000)/\(0<=m.looks/\m.looks<=1000000000)/\(0<=m.hits/\m.hits<=1000000000):=by
  unfold countsB ctB
  rw [Bool.and_eq_true,Bool.and_eq_true,decide_eq_true_eq,decide_eq_true_eq,decide_eq_true_eq,and_assoc]
 have hr:retB m=true↔(-1<=m.ret/\m.ret<=1)/\(m.over=true->0<=m.ret/\m.vals.length=0):=by
  unfold retB
  by_cases h1:m.ret = -1
  ·rw [if_pos h1]
   cases m.over
   ·simp;omega
   ·simp;omega
  ·rw [if_neg h1,Bool.and_eq_true,bit_iff]
   cases m.over
   ·simp;omega
   ·simp only [Bool.not_true,Bool.false_or,decide_eq_true_eq,true_implies]
    omega
 have hm:mokB m=true↔Mok m:=by unfold mokB;simp
 rw [hm,hv,hc,hr,memB_iff]
 constructor
 ·rintro ⟨h1,h2,h3,h4,h5,h6,h7,h8,h9,h10,h11,h12,h13⟩
  exact ⟨h1,h2,⟨h3,h4,h12,h13⟩,⟨h11,h5⟩,⟨h6,h7⟩,h8,h9,h10⟩
 ·rintro ⟨h1,h2,⟨h3,h4,h12,h13⟩,⟨h11,h5⟩,⟨h6,h7⟩,h8,h9,h10⟩
  exact ⟨h1,h2,h3,h4,h5,h6,h7,h8,h9,h10,h11,h12,h13⟩
theorem iMachineOk (m:Mc) (ra va ma:Option Addr) (rc vc mc:Nat) (w:World) (hS:m.S.size<=1048576) (hR:Mr w m ra va ma) (hk:∀ x∈m.memo,x.k.size<=maxLen) :
 Calls Tryz.prog 111 #[mval m ra va ma rc vc mc] w fun e w'=>e=.returned (.bool (mokB m))/\Below w.heap.size w w':=by
 have HX0:Hid (Mb (w.alloc (.cells #[.slice ra m.row.length rc,.int .i64 m.N,.string m.S,.int .i64 m.room,.slice va m.vals.length vc,.int .i64 m.ret,.bool m.over,.int .i64 m.steps,.int .i64 m.looks,.int .i64 m.hits,.slice ma m.memo.length mc] 35)) w.heap.size m ra va ma rc vc mc):=Mb.made _ _ _ _ _ _ _ _ _
 have HB0:Hid (Below w.heap.size w (w.alloc (.cells #[.slice ra m.row.length rc,.int .i64 m.N,.string m.S,.int .i64 m.room,.slice va m.vals.length vc,.int .i64 m.ret,.bool m.over,.int .i64 m.steps,.int .i64 m.looks,.int .i64 m.hits,.slice ma m.memo.length mc] 35))):=(Below.refl _ _).alloc (Nat.le_refl _) _
 have hlr:=hR.row.1
 unfold maxLen at hlr
 have HT:Hid (∀ W,Calls Tryz.prog 150 #[tv m.N m.S] W fun e w'=>e=.returned (.bool (tokB m.N (tl m.S)))/\Below W.heap.size W w'):=fun W=>iTableOk m.N m.S W hS
 have HM:Hid (∀ W,Below w.heap.size w W->Calls Tryz.prog 151 #[.slice ma m.memo.length mc,.int .i64 m.room] W fun e w'=>e=.returned (.bool (memB m.memo m.room))/\Below W.heap.size W w'):=fun W hb=>iMemo W ma m.memo mc m.room (hR.memo.below hb) hk
 have HV:Hid (∀ W,Below w.heap.size w W->Calls Tryz.prog 152 #[.slice va m.vals.length vc,.int .i64 m.N] W fun e w'=>e=.returned (.bool (valB m.vals m.N))/\Below W.heap.size W w'):=fun W hb=>(iVals va m.vals vc m.N W (hR.vals.below hb)).mono fun e w' h=>⟨h.1,by rw [h.2];exact Below.refl _ _⟩
 have HR:Hid (∀ W,Below w.heap.size w W->Calls Tryz.prog 153 #[mval m ra va ma rc vc mc] W fun e w'=>e=.returned (.bool (retB m))/\Below W.heap.size W w'):=fun W hb=>iRet W m ra va ma rc vc mc
 have HC:Hid (∀ W,Below w.heap.size w W->Calls Tryz.prog 154 #[mval m ra va ma rc vc mc] W fun e w'=>e=.returned (.bool (countsB m))/\Below W.heap.size W w'):=fun W hb=>iCountsOk W m ra va ma rc vc mc
 have HI:Hid (mokB m=true↔tokB m.N (tl m.S)=true/\(m.row.length:Int)=m.N/\memB m.memo m.room=true/\valB m.vals m.N=true/\retB m=true/\countsB m=true):=ok_iff m
 have HNO:Hid (¬ (tokB m.N (tl m.S)=true/\(m.row.length:Int)=m.N/\memB m.memo m.room=true/\valB m.vals m.N=true/\retB m=true/\countsB m=true)->mokB m=false):=fun h=>Bool.eq_false_iff.2 fun e=>h (HI.out.1 e)
 clear hS hR hk
 cases h1:tokB m.N (tl m.S)
 ·have HF:Hid (mokB m=false):=HNO.out fun k=>by rw [h1] at k;simp at k
  rw [h1] at HT
  clear h1
  go_enter Tryz.func111,Tryz.ntmps111
  go_wp2_with fail
  refine (HT.out _).mono ?_
  rintro e w1 ⟨rfl,hb1⟩
  have HB1:Hid (Below w.heap.size w w1):=HB0.out.trans (hb1.mono HB0.out.size)
  have HX1:Hid (Mb w1 w.heap.size m ra va ma rc vc mc):=HX0.out.below hb1
  clear hb1
  obtain ⟨m0,m1,m2,m3,m4,m5,m6,m7,m8,m9,m10⟩:=HX1.out
  go_wp2
  go_ret
  exact ⟨ret_bool HF.out.symm,HB1.out⟩
 by_cases h2:(m.row.length:Int)=m.N
 rotate_left
 ·have HF:Hid (mokB m=false):=HNO.out fun k=>h2 k.2.1
  have h2b:((m.row.length:Int)==m.N)=false:=beq_eq_false_iff_ne.2 h2
  rw [h1] at HT
  clear h1 h2
  go_enter Tryz.func111,Tryz.ntmps111
  go_wp2_with fail
  refine (HT.out _).mono ?_
  rintro e w1 ⟨rfl,hb1⟩
  have HB1:Hid (Below w.heap.size w w1):=HB0.out.trans (hb1.mono HB0.out.size)
  have HX1:Hid (Mb w1 w.heap.size m ra va ma rc vc mc):=HX0.out.below hb1
  clear hb1
  obtain ⟨m0,m1,m2,m3,m4,m5,m6,m7,m8,m9,m10⟩:=HX1.out
  go_wp2
  go_ret
  exact ⟨ret_bool HF.out.symm,HB1.out⟩
 have h2b:((m.row.length:Int)==m.N)=true:=beq_iff_eq.2 h2
 have H2:Hid ((m.row.length:Int)=m.N):=h2
 clear h2
 have H1:Hid (tokB m.N (tl m.S)=true):=h1
 rw [h1] at HT
 clear h1
 cases h3:memB m.memo m.room
 ·have HF:Hid (mokB m=false):=HNO.out fun k=>by rw [h3] at k;simp at k
  rw [h3] at HM
  clear h3
  go_enter Tryz.func111,Tryz.ntmps111
  go_wp2_with fail
  refine (HT.out _).mono ?_
  rintro e w1 ⟨rfl,hb1⟩
  have HB1:Hid (Below w.heap.size w w1):=HB0.out.trans (hb1.mono HB0.out.size)
  have HX1:Hid (Mb w1 w.heap.size m ra va ma rc vc mc):=HX0.out.below hb1
  clear hb1
  obtain ⟨m0,m1,m2,m3,m4,m5,m6,m7,m8,m9,m10⟩:=HX1.out
  go_wp2_with fail
  refine (HM.out w1 HB1.out).mono ?_
  rintro e w2 ⟨rfl,hb2⟩
  have HB2:Hid (Below w.heap.size w w2):=HB1.out.trans (hb2.mono HB1.out.size)
  have HX2:Hid (Mb w2 w.heap.size m ra va ma rc vc mc):=HX1.out.below hb2
  clear hb2 m0 m1 m2 m3 m4 m5 m6 m7 m8 m9 m10
  obtain ⟨m0,m1,m2,m3,m4,m5,m6,m7,m8,m9,m10⟩:=HX2.out
  go_wp2
  go_ret
  exact ⟨ret_bool HF.out.symm,HB2.out⟩
 have H3:Hid (memB m.memo m.room=true):=h3
 rw [h3] at HM
 clear h3
 cases h4:valB m.vals m.N
 ·have HF:Hid (mokB m=false):=HNO.out fun k=>by rw [h4] at k;simp at k
  rw [h4] at HV
  clear h4
  go_enter Tryz.func111,Tryz.ntmps111
  go_wp2_with fail
  refine (HT.out _).mono ?_
  rintro e w1 ⟨rfl,hb1⟩
  have HB1:Hid (Below w.heap.size w w1):=HB0.out.trans (hb1.mono HB0.out.size)
  have HX1:Hid (Mb w1 w.heap.size m ra va ma rc vc mc):=HX0.out.below hb1
  clear hb1
  obtain ⟨m0,m1,m2,m3,m4,m5,m6,m7,m8,m9,m10⟩:=HX1.out
  go_wp2_with fail
  refine (HM.out w1 HB1.out).mono ?_
  rintro e w2 ⟨rfl,hb2⟩
  have HB2:Hid (Below w.heap.size w w2):=HB1.out.trans (hb2.mono HB1.out.size)
  have HX2:Hid (Mb w2 w.heap.size m ra va ma rc vc mc):=HX1.out.below hb2
  clear hb2 m0 m1 m2 m3 m4 m5 m6 m7 m8 m9 m10
  obtain ⟨m0,m1,m2,m3,m4,m5,m6,m7,m8,m9,m10⟩:=HX2.out
  go_wp2_with fail
  refine (HV.out w2 HB2.out).mono ?_
  rintro e w3 ⟨rfl,hb3⟩
  have HB3:Hid (Below w.heap.size w w3):=HB2.out.trans (hb3.mono HB2.out.size)
  have HX3:Hid (Mb w3 w.heap.size m ra va ma rc vc mc):=HX2.out.below hb3
  clear hb3 m0 m1 m2 m3 m4 m5 m6 m7 m8 m9 m10
  obtain ⟨m0,m1,m2,m3,m4,m5,m6,m7,m8,m9,m10⟩:=HX3.out
  go_wp2
  go_ret
  exact ⟨ret_bool HF.out.symm,HB3.out⟩
 have H4:Hid (valB m.vals m.N=true):=h4
 rw [h4] at HV
 clear h4
 cases h5:retB m
 ·have HF:Hid (mokB m=false):=HNO.out fun k=>by rw [h5] at k;simp at k
  rw [h5] at HR
  clear h5
  go_enter Tryz.func111,Tryz.ntmps111
  go_wp2_with fail
  refine (HT.out _).mono ?_
  rintro e w1 ⟨rfl,hb1⟩
  have HB1:Hid (Below w.heap.size w w1):=HB0.out.trans (hb1.mono HB0.out.size)
  have HX1:Hid (Mb w1 w.heap.size m ra va ma rc vc mc):=HX0.out.below hb1
  clear hb1
  obtain ⟨m0,m1,m2,m3,m4,m5,m6,m7,m8,m9,m10⟩:=HX1.out
  go_wp2_with fail
  refine (HM.out w1 HB1.out).mono ?_
  rintro e w2 ⟨rfl,hb2⟩
  have HB2:Hid (Below w.heap.size w w2):=HB1.out.trans (hb2.mono HB1.out.size)
  have HX2:Hid (Mb w2 w.heap.size m ra va ma rc vc mc):=HX1.out.below hb2
  clear hb2 m0 m1 m2 m3 m4 m5 m6 m7 m8 m9 m10
  obtain ⟨m0,m1,m2,m3,m4,m5,m6,m7,m8,m9,m10⟩:=HX2.out
  go_wp2_with fail
  refine (HV.out w2 HB2.out).mono ?_
  rintro e w3 ⟨rfl,hb3⟩
  have HB3:Hid (Below w.heap.size w w3):=HB2.out.trans (hb3.mono HB2.out.size)
  have HX3:Hid (Mb w3 w.heap.size m ra va ma rc vc mc):=HX2.out.below hb3
  clear hb3 m0 m1 m2 m3 m4 m5 m6 m7 m8 m9 m10
  obtain ⟨m0,m1,m2,m3,m4,m5,m6,m7,m8,m9,m10⟩:=HX3.out
  go_wp2_with fail
  refine (HR.out w3 HB3.out).mono ?_
  rintro e w4 ⟨rfl,hb4⟩
  have HB4:Hid (Below w.heap.size w w4):=HB3.out.trans (hb4.mono HB3.out.size)
  have HX4:Hid (Mb w4 w.heap.size m ra va ma rc vc mc):=HX3.out.below hb4
  clear hb4 m0 m1 m2 m3 m4 m5 m6 m7 m8 m9 m10
  obtain ⟨m0,m1,m2,m3,m4,m5,m6,m7,m8,m9,m10⟩:=HX4.out
  go_wp2
  go_ret
  exact ⟨ret_bool HF.out.symm,HB4.out⟩
 have H5:Hid (retB m=true):=h5
 rw [h5] at HR
 clear h5
 cases h6:countsB m
 ·have HF:Hid (mokB m=false):=HNO.out fun k=>by rw [h6] at k;simp at k
  rw [h6] at HC
  clear h6
  go_enter Tryz.func111,Tryz.ntmps111
  go_wp2_with fail
  refine (HT.out _).mono ?_
  rintro e w1 ⟨rfl,hb1⟩
  have HB1:Hid (Below w.heap.size w w1):=HB0.out.trans (hb1.mono HB0.out.size)
  have HX1:Hid (Mb w1 w.heap.size m ra va ma rc vc mc):=HX0.out.below hb1
  clear hb1
  obtain ⟨m0,m1,m2,m3,m4,m5,m6,m7,m8,m9,m10⟩:=HX1.out
  go_wp2_with fail
  refine (HM.out w1 HB1.out).mono ?_
  rintro e w2 ⟨rfl,hb2⟩
  have HB2:Hid (Below w.heap.size w w2):=HB1.out.trans (hb2.mono HB1.out.size)
  have HX2:Hid (Mb w2 w.heap.size m ra va ma rc vc mc):=HX1.out.below hb2
  clear hb2 m0 m1 m2 m3 m4 m5 m6 m7 m8 m9 m10
  obtain ⟨m0,m1,m2,m3,m4,m5,m6,m7,m8,m9,m10⟩:=HX2.out
  go_wp2_with fail
  refine (HV.out w2 HB2.out).mono ?_
  rintro e w3 ⟨rfl,hb3⟩
  have HB3:Hid (Below w.heap.size w w3):=HB2.out.trans (hb3.mono HB2.out.size)
  have HX3:Hid (Mb w3 w.heap.size m ra va ma rc vc mc):=HX2.out.below hb3
  clear hb3 m0 m1 m2 m3 m4 m5 m6 m7 m8 m9 m10
  obtain ⟨m0,m1,m2,m3,m4,m5,m6,m7,m8,m9,m10⟩:=HX3.out
  go_wp2_with fail
  refine (HR.out w3 HB3.out).mono ?_
  rintro e w4 ⟨rfl,hb4⟩
  have HB4:Hid (Below w.heap.size w w4):=HB3.out.trans (hb4.mono HB3.out.size)
  have HX4:Hid (Mb w4 w.heap.size m ra va ma rc vc mc):=HX3.out.below hb4
  clear hb4 m0 m1 m2 m3 m4 m5 m6 m7 m8 m9 m10
  obtain ⟨m0,m1,m2,m3,m4,m5,m6,m7,m8,m9,m10⟩:=HX4.out
  go_wp2_with fail
  refine (HC.out w4 HB4.out).mono ?_
  rintro e w5 ⟨rfl,hb5⟩
  have HB5:Hid (Below w.heap.size w w5):=HB4.out.trans (hb5.mono HB4.out.size)
  have HX5:Hid (Mb w5 w.heap.size m ra va ma rc vc mc):=HX4.out.below hb5
  clear hb5 m0 m1 m2 m3 m4 m5 m6 m7 m8 m9 m10
  obtain ⟨m0,m1,m2,m3,m4,m5,m6,m7,m8,m9,m10⟩:=HX5.out
  go_wp2
  go_ret
  exact ⟨ret_bool HF.out.symm,HB5.out⟩
 have HF:Hid (mokB m=true):=HI.out.2 ⟨H1.out,H2.out,H3.out,H4.out,H5.out,h6⟩
 rw [h6] at HC
 clear h6
 go_enter Tryz.func111,Tryz.ntmps111
 go_wp2_with fail
 refine (HT.out _).mono ?_
 rintro e w1 ⟨rfl,hb1⟩
 have HB1:Hid (Below w.heap.size w w1):=HB0.out.trans (hb1.mono HB0.out.size)
 have HX1:Hid (Mb w1 w.heap.size m ra va ma rc vc mc):=HX0.out.below hb1
 clear hb1
 obtain ⟨m0,m1,m2,m3,m4,m5,m6,m7,m8,m9,m10⟩:=HX1.out
 go_wp2_with fail
 refine (HM.out w1 HB1.out).mono ?_
 rintro e w2 ⟨rfl,hb2⟩
 have HB2:Hid (Below w.heap.size w w2):=HB1.out.trans (hb2.mono HB1.out.size)
 have HX2:Hid (Mb w2 w.heap.size m ra va ma rc vc mc):=HX1.out.below hb2
 clear hb2 m0 m1 m2 m3 m4 m5 m6 m7 m8 m9 m10
 obtain ⟨m0,m1,m2,m3,m4,m5,m6,m7,m8,m9,m10⟩:=HX2.out
 go_wp2_with fail
 refine (HV.out w2 HB2.out).mono ?_
 rintro e w3 ⟨rfl,hb3⟩
 have HB3:Hid (Below w.heap.size w w3):=HB2.out.trans (hb3.mono HB2.out.size)
 have HX3:Hid (Mb w3 w.heap.size m ra va ma rc vc mc):=HX2.out.below hb3
 clear hb3 m0 m1 m2 m3 m4 m5 m6 m7 m8 m9 m10
 obtain ⟨m0,m1,m2,m3,m4,m5,m6,m7,m8,m9,m10⟩:=HX3.out
 go_wp2_with fail
 refine (HR.out w3 HB3.out).mono ?_
 rintro e w4 ⟨rfl,hb4⟩
 have HB4:Hid (Below w.heap.size w w4):=HB3.out.trans (hb4.mono HB3.out.size)
 have HX4:Hid (Mb w4 w.heap.size m ra va ma rc vc mc):=HX3.out.below hb4
 clear hb4 m0 m1 m2 m3 m4 m5 m6 m7 m8 m9 m10
 obtain ⟨m0,m1,m2,m3,m4,m5,m6,m7,m8,m9,m10⟩:=HX4.out
 go_wp2_with fail
 refine (HC.out w4 HB4.out).mono ?_
 rintro e w5 ⟨rfl,hb5⟩
 have HB5:Hid (Below w.heap.size w w5):=HB4.out.trans (hb5.mono HB4.out.size)
 have HX5:Hid (Mb w5 w.heap.size m ra va ma rc vc mc):=HX4.out.below hb5
 clear hb5 m0 m1 m2 m3 m4 m5 m6 m7 m8 m9 m10
 obtain ⟨m0,m1,m2,m3,m4,m5,m6,m7,m8,m9,m10⟩:=HX5.out
 go_wp2
 go_ret
 exact ⟨ret_bool HF.out.symm,HB5.out⟩
/-- The verdict of a machine. -/
noncomputable def verV (m:Mc):Int × Bool:=if mokB m=true/\m.over=true then (m.ret,true) else (0,false)
end Mi4
namespace Jb2
open Go.RowKit
open Mm0 Mm2 Mx0 Mi3
open Tc2 (ret_bool)
/-- The zero value. -/
structure Bare (m:Mc):Prop where
 row:m.row=[]
 N:m.N=0
 S:m.S=⟨#[]⟩
 room:m.room=0
 vals:m.vals=[]
 ret:m.ret=0
 over:m.over=false
 steps:m.steps=0
 looks:m.looks=0
 hits:m.hits=0
 memo:m.memo=[]
open Classical in
noncomputable def bareB (m:Mc):Bool:=decide (Bare m)
theorem bare_no {m:Mc} (h:¬ Bare m):bareB m=false:=by unfold bareB;simp [h]
theorem bare_yes:bareB ⟨[],0,⟨#[]⟩,0,[],0,false,0,0,0,[]⟩=true:=by unfold bareB;simp;exact ⟨rfl,rfl,rfl,rfl,rfl,rfl,rfl,rfl,rfl,rfl,rfl⟩
theorem sBare (m:Mc) (ra va ma:Option Addr) (rc vc mc:Nat) (w:World) (hR:Mr w m ra va ma) :
 Calls Tryz.prog 50 #[mval m ra va ma rc vc mc] w fun e w'=>e=.returned (.bool (bareB m))/\Below w.heap.size w w':=by
 have hl1:=hR.row.1
 have hl2:=hR.vals.1
 have hl3:=hR.memo.1
 unfold maxLen at hl1 hl2 hl3
 clear hR
 obtain ⟨row,N,S,room,vals,ret,over,steps,looks,hits,memo⟩:=m
 dsimp only [mval] at hl1 hl2 hl3 ⊢
 by_cases h:row=[]
 rotate_left
 ·have hF:bareB ⟨row,N,S,room,vals,ret,over,steps,looks,hits,memo⟩=false:=bare_no (fun k=>h k.row)
  have hb:((row.length:Int)==0)=false:=beq_eq_false_iff_ne.2 (fun e=>h (List.length_eq_zero_iff.1 (by omega)))
  clear h
  have HF:Hid (bareB _=false):=hF
  clear hF
  have HB0:Hid (Below w.heap.size w (w.alloc (.cells #[.slice ra row.length rc,.int .i64 N,.string S,.int .i64 room,.slice va vals.length vc,.int .i64 ret,.bool over,.int .i64 steps,.int .i64 looks,.int .i64 hits,.slice ma memo.length mc] 35))):=(Below.refl _ _).alloc (Nat.le_refl _) _
  go_enter Tryz.func50,Tryz.ntmps50
  go_wp2
  go_ret
  exact ⟨ret_bool HF.out.symm,HB0.out⟩
 subst h
 by_cases h:N=0
 rotate_left
 ·have hF:bareB ⟨[],N,S,room,vals,ret,over,steps,looks,hits,memo⟩=false:=bare_no (fun k=>h k.N)
  have hb:(N==0)=false:=beq_eq_false_iff_ne.2 h
  clear h
  have HF:Hid (bareB _=false):=hF
  clear hF
  have HB0:Hid (Below w.heap.size w (w.alloc (.cells #[.slice ra 0 rc,.int .i64 N,.string S,.int .i64 room,.slice va vals.length vc,.int .i64 ret,.bool over,.int .i64 steps,.int .i64 looks,.int .i64 hits,.slice ma memo.length mc] 35))):=(Below.refl _ _).alloc (Nat.le_refl _) _
  go_enter Tryz.func50,Tryz.ntmps50
  go_wp2
  go_ret
  exact ⟨ret_bool HF.out.symm,HB0.out⟩
 subst h
 by_cases h:S=⟨#[]⟩
 rotate_left
 ·have hF:bareB ⟨[],0,S,room,vals,ret,over,steps,looks,hits,memo⟩=false:=bare_no (fun k=>h k.S)
  have hb2:(S.toList==ByteArray.toList ⟨#[]⟩)=false:=Ss1.eqb_false fun k=>h (Ss1.tl_inj k)
  have hb:(S.toList==[])=false:=Ss1.eql_false fun k=>h (Ss1.tl_inj (T:=⟨#[]⟩) (k.trans (by rfl)))
  clear h
  have HF:Hid (bareB _=false):=hF
  clear hF
  have HB0:Hid (Below w.heap.size w (w.alloc (.cells #[.slice ra 0 rc,.int .i64 0,.string S,.int .i64 room,.slice va vals.length vc,.int .i64 ret,.bool over,.int .i64 steps,.int .i64 looks,.int .i64 hits,.slice ma memo.length mc] 35))):=(Below.refl _ _).alloc (Nat.le_refl _) _
  go_enter Tryz.func50,Tryz.ntmps50
  go_wp2
  go_ret
  exact ⟨ret_bool HF.out.symm,HB0.out⟩
 subst h
 by_cases h:room=0
 rotate_left
 ·have hF:bareB ⟨[],0,⟨#[]⟩,room,vals,ret,over,steps,looks,hits,memo⟩=false:=bare_no (fun k=>h k.room)
  have hb:(room==0)=false:=beq_eq_false_iff_ne.2 h
  clear h
  have HF:Hid (bareB _=false):=hF
  clear hF
  have HB0:Hid (Below w.heap.size w (w.alloc (.cells #[.slice ra 0 rc,.int .i64 0,.string ⟨#[]⟩,.int .i64 room,.slice va vals.length vc,.int .i64 ret,.bool over,.int .i64 steps,.int .i64 looks,.int .i64 hits,.slice ma memo.length mc] 35))):=(Below.refl _ _).alloc (Nat.le_refl _) _
  go_enter Tryz.func50,Tryz.ntmps50
  go_wp2
  go_ret
  exact ⟨ret_bool HF.out.symm,HB0.out⟩
 subst h
 by_cases h:vals=[]
 rotate_left
 ·have hF:bareB ⟨[],0,⟨#[]⟩,0,vals,ret,over,steps,looks,hits,memo⟩=false:=bare_no (fun k=>h k.vals)
  have hb:((vals.length:Int)==0)=false:=beq_eq_false_iff_ne.2 (fun e=>h (List.length_eq_zero_iff.1 (by omega)))
  clear h
  have HF:Hid (bareB _=false):=hF
  clear hF
  have HB0:Hid (Below w.heap.size w (w.alloc (.cells #[.slice ra 0 rc,.int .i64 0,.string ⟨#[]⟩,.int .i64 0,.slice va vals.length vc,.int .i64 ret,.bool over,.int .i64 steps,.int .i64 looks,.int .i64 hits,.slice ma memo.length mc] 35))):=(Below.refl _ _).alloc (Nat.le_refl _) _
  go_enter Tryz.func50,Tryz.ntmps50
  go_wp2
  go_ret
  exact ⟨ret_bool HF.out.symm,HB0.out⟩
 subst h
 by_cases h:ret=0
 rotate_left
 ·have hF:bareB ⟨[],0,⟨#[]⟩,0,[],ret,over,steps,looks,hits,memo⟩=false:=bare_no (fun k=>h k.ret)
  have hb:(ret==0)=false:=beq_eq_false_iff_ne.2 h
  clear h
  have HF:Hid (bareB _=false):=hF
  clear hF
  have HB0:Hid (Below w.heap.size w (w.alloc (.cells #[.slice ra 0 rc,.int .i64 0,.string ⟨#[]⟩,.int .i64 0,.slice va 0 vc,.int .i64 ret,.bool over,.int .i64 steps,.int .i64 looks,.int .i64 hits,.slice ma memo.length mc] 35))):=(Below.refl _ _).alloc (Nat.le_refl _) _
  go_enter Tryz.func50,Tryz.ntmps50
  go_wp2
  go_ret
  exact ⟨ret_bool HF.out.symm,HB0.out⟩
 subst h
 rcases over with _|_
 rotate_left
 ·have hF:bareB ⟨[],0,⟨#[]⟩,0,[],0,true,steps,looks,hits,memo⟩=false:=bare_no (fun h=>by cases h.over)
  have HF:Hid (bareB _=false):=hF
  clear hF
  have HB0:Hid (Below w.heap.size w (w.alloc (.cells #[.slice ra 0 rc,.int .i64 0,.string ⟨#[]⟩,.int .i64 0,.slice va 0 vc,.int .i64 0,.bool true,.int .i64 steps,.int .i64 looks,.int .i64 hits,.slice ma memo.length mc] 35))):=(Below.refl _ _).alloc (Nat.le_refl _) _
  go_enter Tryz.func50,Tryz.ntmps50
  go_wp2
  go_ret
  exact ⟨ret_bool HF.out.symm,HB0.out⟩
 by_cases h:steps=0
 rotate_left
 ·have hF:bareB ⟨[],0,⟨#[]⟩,0,[],0,false,steps,looks,hits,memo⟩=false:=bare_no (fun k=>h k.steps)
  have hb:(steps==0)=false:=beq_eq_false_iff_ne.2 h
  clear h
  have HF:Hid (bareB _=false):=hF
  clear hF
  have HB0:Hid (Below w.heap.size w (w.alloc (.cells #[.slice ra 0 rc,.int .i64 0,.string ⟨#[]⟩,.int .i64 0,.slice va 0 vc,.int .i64 0,.bool false,.int .i64 steps,.int .i64 looks,.int .i64 hits,.slice ma memo.length mc] 35))):=(Below.refl _ _).alloc (Nat.le_refl _) _
  go_enter Tryz.func50,Tryz.ntmps50
  go_wp2
  go_ret
  exact ⟨ret_bool HF.out.symm,HB0.out⟩
 subst h
 by_cases h:looks=0
 rotate_left
 ·have hF:bareB ⟨[],0,⟨#[]⟩,0,[],0,false,0,looks,hits,memo⟩=false:=bare_no (fun k=>h k.looks)
  have hb:(looks==0)=false:=beq_eq_false_iff_ne.2 h
  clear h
  have HF:Hid (bareB _=false):=hF
  clear hF
  have HB0:Hid (Below w.heap.size w (w.alloc (.cells #[.slice ra 0 rc,.int .i64 0,.string ⟨#[]⟩,.int .i64 0,.slice va 0 vc,.int .i64 0,.bool false,.int .i64 0,.int .i64 looks,.int .i64 hits,.slice ma memo.length mc] 35))):=(Below.refl _ _).alloc (Nat.le_refl _) _
  go_enter Tryz.func50,Tryz.ntmps50
  go_wp2
  go_ret
  exact ⟨ret_bool HF.out.symm,HB0.out⟩
 subst h
 by_cases h:hits=0
 rotate_left
 ·have hF:bareB ⟨[],0,⟨#[]⟩,0,[],0,false,0,0,hits,memo⟩=false:=bare_no (fun k=>h k.hits)
  have hb:(hits==0)=false:=beq_eq_false_iff_ne.2 h
  clear h
  have HF:Hid (bareB _=false):=hF
  clear hF
  have HB0:Hid (Below w.heap.size w (w.alloc (.cells #[.slice ra 0 rc,.int .i64 0,.string ⟨#[]⟩,.int .i64 0,.slice va 0 vc,.int .i64 0,.bool false,.int .i64 0,.int .i64 0,.int .i64 hits,.slice ma memo.length mc] 35))):=(Below.refl _ _).alloc (Nat.le_refl _) _
  go_enter Tryz.func50,Tryz.ntmps50
  go_wp2
  go_ret
  exact ⟨ret_bool HF.out.symm,HB0.out⟩
 subst h
 by_cases h:memo=[]
 rotate_left
 ·have hF:bareB ⟨[],0,⟨#[]⟩,0,[],0,false,0,0,0,memo⟩=false:=bare_no (fun k=>h k.memo)
  have hb:((memo.length:Int)==0)=false:=beq_eq_false_iff_ne.2 (fun e=>h (List.length_eq_zero_iff.1 (by omega)))
  clear h
  have HF:Hid (bareB _=false):=hF
  clear hF
  have HB0:Hid (Below w.heap.size w (w.alloc (.cells #[.slice ra 0 rc,.int .i64 0,.string ⟨#[]⟩,.int .i64 0,.slice va 0 vc,.int .i64 0,.bool false,.int .i64 0,.int .i64 0,.int .i64 0,.slice ma memo.length mc] 35))):=(Below.refl _ _).alloc (Nat.le_refl _) _
  go_enter Tryz.func50,Tryz.ntmps50
  go_wp2
  go_ret
  exact ⟨ret_bool HF.out.symm,HB0.out⟩
 subst h
 have HF:Hid (bareB ⟨[],0,⟨#[]⟩,0,[],0,false,0,0,0,[]⟩=true):=bare_yes
 have HB0:Hid (Below w.heap.size w (w.alloc (.cells #[.slice ra 0 rc,.int .i64 0,.string ⟨#[]⟩,.int .i64 0,.slice va 0 vc,.int .i64 0,.bool false,.int .i64 0,.int .i64 0,.int .i64 0,.slice ma 0 mc] 35))):=(Below.refl _ _).alloc (Nat.le_refl _) _
 go_enter Tryz.func50,Tryz.ntmps50
 go_wp2
 go_ret
 exact ⟨ret_bool HF.out.symm,HB0.out⟩
end Jb2
end Go.Proofs.YtladjpombohpaaaGreatDoor
