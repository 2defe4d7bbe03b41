import Derived.Test.YtjajkmdoggbicaaGreatDoorPkST17
namespace Go.Proofs.YtjajkmdoggbicaaGreatDoor
set_option maxRecDepth 100000
set_option maxHeartbeats 8000000
set_option linter.unusedVariables false
namespace Mi3
open Go.RowKit
open Ta0 Ta1 Ta2 Tc2 Te1 Mm0 Mm2 Mx0 Ms0 Mi1 Mi2
open Nd0 (Kept Ints set_other set_same lt_of_cell)
open Qc0 (Sn Sns SnAt)
open Ss1 (tl)
/-- Of a verdict. -/
def retB (m:Mc):Bool:=if m.ret = -1 then !m.over else bitB m.ret&&(!m.over||decide (m.vals.length=0))
theorem iRet (w:World) (m:Mc) (ra va ma:Option Addr) (rc vc mc:Nat) :
 Calls Tryz.prog 42 #[mval m ra va ma rc vc mc] w fun e w'=>e=.returned (.bool (retB m))/\Below w.heap.size w w':=by
 have HB0:Hid (Below w.heap.size w (w.alloc (.cells #[.slice ra m.row.length rc,.int .i64 m.N,.string m.S,.int .i64 m.room,.slice va m.vals.length vc,.int .i64 m.ret,.bool m.over,.int .i64 m.steps,.int .i64 m.looks,.int .i64 m.hits,.slice ma m.memo.length mc] 30))):=(Below.refl _ _).alloc (Nat.le_refl _) _
 have HIB:Hid (∀ W:World,Calls Tryz.prog 78 #[.int .i64 m.ret] W fun e w'=>e=.returned (.bool (bitB m.ret))/\w'=W):=fun W=>iBitOk m.ret W
 by_cases h1:m.ret = -1
 ·have h1b:(m.ret == -1)=true:=by rw [h1];rfl
  have HF:Hid (retB m = !m.over):=if_pos h1
  clear h1
  go_enter Tryz.func42,Tryz.ntmps42
  go_wp2_with (go_at_call 78;refine (HIB.out _).mono ?_;rintro e w9 ⟨rfl,hw9⟩;(have hw8:=hw9.symm);clear hw9;subst hw8)
  go_ret
  exact ⟨ret_bool HF.out.symm,HB0.out⟩
 have h1b:(m.ret == -1)=false:=beq_eq_false_iff_ne.2 h1
 cases hB:bitB m.ret
 ·rw [hB] at HIB
  have HF:Hid (retB m=false):=by show _=_;unfold retB;rw [if_neg h1,hB];rfl
  clear h1 hB
  go_enter Tryz.func42,Tryz.ntmps42
  go_wp2_with (go_at_call 78;refine (HIB.out _).mono ?_;rintro e w9 ⟨rfl,hw9⟩;(have hw8:=hw9.symm);clear hw9;subst hw8)
  go_ret
  exact ⟨ret_bool HF.out.symm,HB0.out⟩
 rw [hB] at HIB
 cases ho:m.over
 ·have HF:Hid (retB m=true):=by show _=_;unfold retB;rw [if_neg h1,hB,ho];rfl
  rw [ho] at HB0
  clear h1 hB
  go_enter Tryz.func42,Tryz.ntmps42
  go_wp2_with (go_at_call 78;refine (HIB.out _).mono ?_;rintro e w9 ⟨rfl,hw9⟩;(have hw8:=hw9.symm);clear hw9;subst hw8)
  go_ret
  exact ⟨ret_bool HF.out.symm,HB0.out⟩
 rw [ho] at HB0
 by_cases hv:m.vals.length=0
 ·have HF:Hid (retB m=true):=by show _=_;unfold retB;rw [if_neg h1,hB,ho,decide_eq_true hv];rfl
  rw [hv] at HB0
  have hve:m.vals=[]:=List.eq_nil_of_length_eq_zero hv
  clear h1 hB hv
  go_enter Tryz.func42,Tryz.ntmps42
  go_wp2_with (go_at_call 78;refine (HIB.out _).mono ?_;rintro e w9 ⟨rfl,hw9⟩;(have hw8:=hw9.symm);clear hw9;subst hw8)
  go_ret
  exact ⟨ret_bool HF.out.symm,HB0.out⟩
 ·have HF:Hid (retB m=false):=by show _=_;unfold retB;rw [if_neg h1,hB,ho,decide_eq_false hv];rfl
  have hvn:¬ m.vals=[]:=fun e=>hv (by rw [e];rfl)
  have hvb:((m.vals.length:Int)==0)=false:=beq_eq_false_iff_ne.2 (by omega)
  clear h1 hB hv
  go_enter Tryz.func42,Tryz.ntmps42
  go_wp2_with (go_at_call 78;refine (HIB.out _).mono ?_;rintro e w9 ⟨rfl,hw9⟩;(have hw8:=hw9.symm);clear hw9;subst hw8)
  go_ret
  exact ⟨ret_bool HF.out.symm,HB0.out⟩
theorem iCounts (w:World) (m:Mc) (ra va ma:Option Addr) (rc vc mc:Nat) :
 Calls Tryz.prog 60 #[mval m ra va ma rc vc mc] w fun e w'=>e=.returned (.agg #[.int .i64 m.steps,.int .i64 m.looks,.int .i64 m.hits])/\Below w.heap.size w w':=by
 go_enter Tryz.func60,Tryz.ntmps60
 go_wp2
 refine bodyPost_ret (v:=.agg #[.int .i64 m.steps,.int .i64 m.looks,.int .i64 m.hits]) (by simp [results,Tryz.results60,go_sem]) rfl ⟨rfl,?_⟩
 repeat (first|exact Below.refl _ _|refine Below.setCell ?_ (by simp<;>omega) _|refine Below.alloc ?_ (by simp<;>omega) _)
theorem idx3 (f:Nat->Int) {v:Nat} (hv:v < 3) (w:World):(Instr.index 100 (.agg #[.int .i64 (f 0),.int .i64 (f 1),.int .i64 (f 2)]) (.int .i64 (v:Int))).run Tryz.prog w=.ok (.int .i64 (f v)) w:=by
 rcases (show v=0\/v=1\/v=2 by omega) with h|h|h<;>subst h<;>simp [Instr.index,run_underlying Tryz.underlying100,asIntOf,go_sem]
/-- A count. -/
def ctB (x:Int):Bool:=decide (0<=x/\x<=1000000000)
def countsB (m:Mc):Bool:=ctB m.steps&&ctB m.looks&&ctB m.hits
theorem iCountsOk (w:World) (m:Mc) (ra va ma:Option Addr) (rc vc mc:Nat) :
 Calls Tryz.prog 43 #[mval m ra va ma rc vc mc] w fun e w'=>e=.returned (.bool (countsB m))/\Below w.heap.size w w':=by
 have HB0:Hid (Below w.heap.size w (w.alloc (.cells #[.slice ra m.row.length rc,.int .i64 m.N,.string m.S,.int .i64 m.room,.slice va m.vals.length vc,.int .i64 m.ret,.bool m.over,.int .i64 m.steps,.int .i64 m.looks,.int .i64 m.hits,.slice ma m.memo.length mc] 30))):=(Below.refl _ _).alloc (Nat.le_refl _) _
 have HX0:Hid (Mb (w.alloc (.cells #[.slice ra m.row.length rc,.int .i64 m.N,.string m.S,.int .i64 m.room,.slice va m.vals.length vc,.int .i64 m.ret,.bool m.over,.int .i64 m.steps,.int .i64 m.looks,.int .i64 m.hits,.slice ma m.memo.length mc] 30)) w.heap.size m ra va ma rc vc mc):=Mb.made _ _ _ _ _ _ _ _ _
 obtain ⟨f,hf⟩:∃ f:Nat->Int,f=fun k=>if k=0 then m.steps else if k=1 then m.looks else m.hits:=⟨_,rfl⟩
 have HC:Hid (∀ j,j < 3->ctB (f j)=false->countsB m=false):=fun j hj h=>by
  rw [hf] at h
  unfold countsB
  have:j=0\/j=1\/j=2:=by omega
  rcases this with rfl|rfl|rfl
  ·rw [show ctB m.steps=false from h];rfl
  ·rw [show ctB m.looks=false from h];simp
  ·rw [show ctB m.hits=false from h];simp
 have HD:Hid ((∀ j,j < 3->ctB (f j)=true)->countsB m=true):=fun h=>by
  unfold countsB
  have a0:=h 0 (by omega)
  have a1:=h 1 (by omega)
  have a2:=h 2 (by omega)
  rw [hf] at a0 a1 a2
  rw [show ctB m.steps=true from a0,show ctB m.looks=true from a1,show ctB m.hits=true from a2]
  rfl
 have HS:Hid (f 0=m.steps/\f 1=m.looks/\f 2=m.hits):=by rw [hf];exact ⟨rfl,rfl,rfl⟩
 clear hf
 go_enter Tryz.func43,Tryz.ntmps43
 go_wp2_with fail
 refine (iCounts _ m ra va ma rc vc mc).mono ?_
 rintro e w1 ⟨rfl,hb1⟩
 have HB1:Hid (Below w.heap.size w w1):=HB0.out.trans (hb1.mono HB0.out.size)
 clear hb1 HX0 HB0
 rw [<- HS.out.1,<- HS.out.2.1,<- HS.out.2.2]
 clear HS
 go_wp2
 go_loopw [7] (fun i wr=>∃ j:Nat,j<=3/\i=.int .i64 j/\wr=w1/\∀ t,t < j->ctB (f t)=true) (fun i _=>3 - (intOf i).toNat)
 case atStart=>exact ⟨0,Nat.zero_le _,rfl,rfl,fun t h=>by omega⟩
 case round =>
  obtain ⟨j,hj,rfl,hwr,hbt⟩:=hrel
  have hwr':=hwr.symm
  clear hwr
  subst hwr'
  have HBT:Hid (∀ t,t < j->ctB (f t)=true):=hbt
  clear hbt
  by_cases hlt:j < 3
  ·have hX:=fun w=>idx3 f hlt w
   have hjz:(j:Int) < 3:=by omega
   cases hq:ctB (f j)
   ·have HF:Hid (countsB m=false):=HC.out j hlt hq
    have hr:=of_decide_eq_false hq
    clear hq
    generalize f j=x at *
    by_cases h0:x < 0
    ·have h0b:decide (x < 0)=true:=decide_eq_true h0
     clear hr
     go_wp2
     go_ret
     exact ⟨ret_bool HF.out.symm,HB1.out⟩
    ·have h0b:decide (x < 0)=false:=decide_eq_false h0
     have h1b:decide (1000000000 < x)=true:=decide_eq_true (by omega)
     clear hr
     go_wp2
     go_ret
     exact ⟨ret_bool HF.out.symm,HB1.out⟩
   ·have hr:=of_decide_eq_true hq
    have HN:Hid (∀ t,t < j+1->ctB (f t)=true):=fun t ht=>by
     by_cases e:t=j
     ·rw [e];exact hq
     ·exact HBT.out t (by omega)
    clear hq
    generalize f j=x at *
    have h0b:decide (x < 0)=false:=decide_eq_false (by omega)
    have h1b:decide (1000000000 < x)=false:=decide_eq_false (by omega)
    clear hr
    go_wp2
    go_roundw
    case rel=>exact ⟨j+1,by omega,by go_num,(by first|trivial|rfl),HN.out⟩
    case measure=>simp [intOf];omega
  ·have HF:Hid (countsB m=true):=HD.out fun t ht=>HBT.out t (by omega)
   have hjz:¬ (j:Int) < 3:=by omega
   go_wp2
   go_ret
   exact ⟨ret_bool HF.out.symm,HB1.out⟩
end Mi3
namespace Mi4
open Go.RowKit
open Ta0 Ta1 Ta2 Tc2 Te1 Mm0 Mm2 Mx0 Ms0 Mi1 Mi2 Mi3
open Nd0 (Kept Ints set_other set_same lt_of_cell)
open Qc0 (Sn Sns SnAt)
open Ss1 (tl)
theorem bit_iff (x:Int):bitB x=true↔0<=x/\x<=1:=by
 unfold bitB
 rw [decide_eq_true_eq]
 omega
theorem ok_iff (m:Mc):mokB m=true↔tokB m.N (tl m.S)=true/\(m.row.length:Int)=m.N/\memB m.memo m.room=true/\valB m.vals m.N=true/\retB m=true/\countsB m=true:=by
 have hv:valB m.vals m.N=true↔(∀ x∈m.vals,0<=x/\x<=1)/\(m.vals.length:Int)<=m.N:=by
  unfold valB allB
  rw [Bool.and_eq_true,List.all_eq_true,decide_eq_true_eq]
  constructor
  ·rintro ⟨h,k⟩
   exact ⟨fun x hx=>(bit_iff x).1 (h x hx),k⟩
  ·rintro ⟨h,k⟩
   exact ⟨fun x hx=>(bit_iff x).2 (h x hx),k⟩
 have hc:countsB m=true↔(0<=m.steps/\m.steps<=1000000000)/\(0<=m.looks/\m.looks<=1000000000)/\(0<=m.hits/\m.hits<=1000000000):=by
  unfold countsB ctB
  rw [Bool.and_eq_true,Bool.and_eq_true,decide_eq_true_eq,decide_eq_true_eq,decide_eq_true_eq,and_assoc]
 have hr:retB m=true↔(-1<=m.ret/\m.ret<=1)/\(m.over=true->0<=m.ret/\m.vals.length=0):=by
  unfold retB
  by_cases h1:m.ret = -1
  ·rw [if_pos h1]
   cases m.over
   ·simp;omega
   ·simp;omega
  ·rw [if_neg h1,Bool.and_eq_true,bit_iff]
   cases m.over
   ·simp;omega
   ·simp only [Bool.not_true,Bool.false_or,decide_eq_true_eq,true_implies]
    omega
 have hm:mokB m=true↔Mok m:=by unfold mokB;simp
 rw [hm,hv,hc,hr,memB_iff]
 constructor
 ·rintro ⟨h1,h2,h3,h4,h5,h6,h7,h8,h9,h10,h11,h12,h13⟩
  exact ⟨h1,h2,⟨h3,h4,h12,h13⟩,⟨h11,h5⟩,⟨h6,h7⟩,h8,h9,h10⟩
 ·rintro ⟨h1,h2,⟨h3,h4,h12,h13⟩,⟨h11,h5⟩,⟨h6,h7⟩,h8,h9,h10⟩
  exact ⟨h1,h2,h3,h4,h5,h6,h7,h8,h9,h10,h11,h12,h13⟩
theorem iMachineOk (m:Mc) (ra va ma:Option Addr) (rc vc mc:Nat) (w:World) (hS:m.S.size<=1048576) (hR:Mr w m ra va ma) (hk:∀ x∈m.memo,x.k.size<=maxLen) :
 Calls Tryz.prog 12 #[mval m ra va ma rc vc mc] w fun e w'=>e=.returned (.bool (mokB m))/\Below w.heap.size w w':=by
 have HX0:Hid (Mb (w.alloc (.cells #[.slice ra m.row.length rc,.int .i64 m.N,.string m.S,.int .i64 m.room,.slice va m.vals.length vc,.int .i64 m.ret,.bool m.over,.int .i64 m.steps,.int .i64 m.looks,.int .i64 m.hits,.slice ma m.memo.length mc] 30)) w.heap.size m ra va ma rc vc mc):=Mb.made _ _ _ _ _ _ _ _ _
 have HB0:Hid (Below w.heap.size w (w.alloc (.cells #[.slice ra m.row.length rc,.int .i64 m.N,.string m.S,.int .i64 m.room,.slice va m.vals.length vc,.int .i64 m.ret,.bool m.over,.int .i64 m.steps,.int .i64 m.looks,.int .i64 m.hits,.slice ma m.memo.length mc] 30))):=(Below.refl _ _).alloc (Nat.le_refl _) _
 have hlr:=hR.row.1
 unfold maxLen at hlr
 have HT:Hid (∀ W,Calls Tryz.prog 39 #[tv m.N m.S] W fun e w'=>e=.returned (.bool (tokB m.N (tl m.S)))/\Below W.heap.size W w'):=fun W=>iTableOk m.N m.S W hS
 have HM:Hid (∀ W,Below w.heap.size w W->Calls Tryz.prog 40 #[.slice ma m.memo.length mc,.int .i64 m.room] W fun e w'=>e=.returned (.bool (memB m.memo m.room))/\Below W.heap.size W w'):=fun W hb=>iMemo W ma m.memo mc m.room (hR.memo.below hb) hk
 have HV:Hid (∀ W,Below w.heap.size w W->Calls Tryz.prog 41 #[.slice va m.vals.length vc,.int .i64 m.N] W fun e w'=>e=.returned (.bool (valB m.vals m.N))/\Below W.heap.size W w'):=fun W hb=>(iVals va m.vals vc m.N W (hR.vals.below hb)).mono fun e w' h=>⟨h.1,by rw [h.2];exact Below.refl _ _⟩
 have HR:Hid (∀ W,Below w.heap.size w W->Calls Tryz.prog 42 #[mval m ra va ma rc vc mc] W fun e w'=>e=.returned (.bool (retB m))/\Below W.heap.size W w'):=fun W hb=>iRet W m ra va ma rc vc mc
 have HC:Hid (∀ W,Below w.heap.size w W->Calls Tryz.prog 43 #[mval m ra va ma rc vc mc] W fun e w'=>e=.returned (.bool (countsB m))/\Below W.heap.size W w'):=fun W hb=>iCountsOk W m ra va ma rc vc mc
 have HI:Hid (mokB m=true↔tokB m.N (tl m.S)=true/\(m.row.length:Int)=m.N/\memB m.memo m.room=true/\valB m.vals m.N=true/\retB m=true/\countsB m=true):=ok_iff m
 have HNO:Hid (¬ (tokB m.N (tl m.S)=true/\(m.row.length:Int)=m.N/\memB m.memo m.room=true/\valB m.vals m.N=true/\retB m=true/\countsB m=true)->mokB m=false):=fun h=>Bool.eq_false_iff.2 fun e=>h (HI.out.1 e)
 clear hS hR hk
 cases h1:tokB m.N (tl m.S)
 ·have HF:Hid (mokB m=false):=HNO.out fun k=>by rw [h1] at k;simp at k
  rw [h1] at HT
  clear h1
  go_enter Tryz.func12,Tryz.ntmps12
  go_wp2_with fail
  refine (HT.out _).mono ?_
  rintro e w1 ⟨rfl,hb1⟩
  have HB1:Hid (Below w.heap.size w w1):=HB0.out.trans (hb1.mono HB0.out.size)
  have HX1:Hid (Mb w1 w.heap.size m ra va ma rc vc mc):=HX0.out.below hb1
  clear hb1
  obtain ⟨m0,m1,m2,m3,m4,m5,m6,m7,m8,m9,m10⟩:=HX1.out
  go_wp2
  go_ret
  exact ⟨ret_bool HF.out.symm,HB1.out⟩
 by_cases h2:(m.row.length:Int)=m.N
 rotate_left
 ·have HF:Hid (mokB m=false):=HNO.out fun k=>h2 k.2.1
  have h2b:((m.row.length:Int)==m.N)=false:=beq_eq_false_iff_ne.2 h2
  rw [h1] at HT
  clear h1 h2
  go_enter Tryz.func12,Tryz.ntmps12
  go_wp2_with fail
  refine (HT.out _).mono ?_
  rintro e w1 ⟨rfl,hb1⟩
  have HB1:Hid (Below w.heap.size w w1):=HB0.out.trans (hb1.mono HB0.out.size)
  have HX1:Hid (Mb w1 w.heap.size m ra va ma rc vc mc):=HX0.out.below hb1
  clear hb1
  obtain ⟨m0,m1,m2,m3,m4,m5,m6,m7,m8,m9,m10⟩:=HX1.out
  go_wp2
  go_ret
  exact ⟨ret_bool HF.out.symm,HB1.out⟩
 have h2b:((m.row.length:Int)==m.N)=true:=beq_iff_eq.2 h2
 have H2:Hid ((m.row.length:Int)=m.N):=h2
 clear h2
 have H1:Hid (tokB m.N (tl m.S)=true):=h1
 rw [h1] at HT
 clear h1
 cases h3:memB m.memo m.room
 ·have HF:Hid (mokB m=false):=HNO.out fun k=>by rw [h3] at k;simp at k
  rw [h3] at HM
  clear h3
  go_enter Tryz.func12,Tryz.ntmps12
  go_wp2_with fail
  refine (HT.out _).mono ?_
  rintro e w1 ⟨rfl,hb1⟩
  have HB1:Hid (Below w.heap.size w w1):=HB0.out.trans (hb1.mono HB0.out.size)
  have HX1:Hid (Mb w1 w.heap.size m ra va ma rc vc mc):=HX0.out.below hb1
  clear hb1
  obtain ⟨m0,m1,m2,m3,m4,m5,m6,m7,m8,m9,m10⟩:=HX1.out
  go_wp2_with fail
  refine (HM.out w1 HB1.out).mono ?_
  rintro e w2 ⟨rfl,hb2⟩
  have HB2:Hid (Below w.heap.size w w2):=HB1.out.trans (hb2.mono HB1.out.size)
  have HX2:Hid (Mb w2 w.heap.size m ra va ma rc vc mc):=HX1.out.below hb2
  clear hb2 m0 m1 m2 m3 m4 m5 m6 m7 m8 m9 m10
  obtain ⟨m0,m1,m2,m3,m4,m5,m6,m7,m8,m9,m10⟩:=HX2.out
  go_wp2
  go_ret
  exact ⟨ret_bool HF.out.symm,HB2.out⟩
 have H3:Hid (memB m.memo m.room=true):=h3
 rw [h3] at HM
 clear h3
 cases h4:valB m.vals m.N
 ·have HF:Hid (mokB m=false):=HNO.out fun k=>by rw [h4] at k;simp at k
  rw [h4] at HV
  clear h4
  go_enter Tryz.func12,Tryz.ntmps12
  go_wp2_with fail
  refine (HT.out _).mono ?_
  rintro e w1 ⟨rfl,hb1⟩
  have HB1:Hid (Below w.heap.size w w1):=HB0.out.trans (hb1.mono HB0.out.size)
  have HX1:Hid (Mb w1 w.heap.size m ra va ma rc vc mc):=HX0.out.below hb1
  clear hb1
  obtain ⟨m0,m1,m2,m3,m4,m5,m6,m7,m8,m9,m10⟩:=HX1.out
  go_wp2_with fail
  refine (HM.out w1 HB1.out).mono ?_
  rintro e w2 ⟨rfl,hb2⟩
  have HB2:Hid (Below w.heap.size w w2):=HB1.out.trans (hb2.mono HB1.out.size)
  have HX2:Hid (Mb w2 w.heap.size m ra va ma rc vc mc):=HX1.out.below hb2
  clear hb2 m0 m1 m2 m3 m4 m5 m6 m7 m8 m9 m10
  obtain ⟨m0,m1,m2,m3,m4,m5,m6,m7,m8,m9,m10⟩:=HX2.out
  go_wp2_with fail
  refine (HV.out w2 HB2.out).mono ?_
  rintro e w3 ⟨rfl,hb3⟩
  have HB3:Hid (Below w.heap.size w w3):=HB2.out.trans (hb3.mono HB2.out.size)
  have HX3:Hid (Mb w3 w.heap.size m ra va ma rc vc mc):=HX2.out.below hb3
  clear hb3 m0 m1 m2 m3 m4 m5 m6 m7 m8 m9 m10
  obtain ⟨m0,m1,m2,m3,m4,m5,m6,m7,m8,m9,m10⟩:=HX3.out
  go_wp2
  go_ret
  exact ⟨ret_bool HF.out.symm,HB3.out⟩
 have H4:Hid (valB m.vals m.N=true):=h4
 rw [h4] at HV
 clear h4
 cases h5:retB m
 ·have HF:Hid (mokB m=false):=HNO.out fun k=>by rw [h5] at k;simp at k
  rw [h5] at HR
  clear h5
  go_enter Tryz.func12,Tryz.ntmps12
  go_wp2_with fail
  refine (HT.out _).mono ?_
  rintro e w1 ⟨rfl,hb1⟩
  have HB1:Hid (Below w.heap.size w w1):=HB0.out.trans (hb1.mono HB0.out.size)
  have HX1:Hid (Mb w1 w.heap.size m ra va ma rc vc mc):=HX0.out.below hb1
  clear hb1
  obtain ⟨m0,m1,m2,m3,m4,m5,m6,m7,m8,m9,m10⟩:=HX1.out
  go_wp2_with fail
  refine (HM.out w1 HB1.out).mono ?_
  rintro e w2 ⟨rfl,hb2⟩
  have HB2:Hid (Below w.heap.size w w2):=HB1.out.trans (hb2.mono HB1.out.size)
  have HX2:Hid (Mb w2 w.heap.size m ra va ma rc vc mc):=HX1.out.below hb2
  clear hb2 m0 m1 m2 m3 m4 m5 m6 m7 m8 m9 m10
  obtain ⟨m0,m1,m2,m3,m4,m5,m6,m7,m8,m9,m10⟩:=HX2.out
  go_wp2_with fail
  refine (HV.out w2 HB2.out).mono ?_
  rintro e w3 ⟨rfl,hb3⟩
  have HB3:Hid (Below w.heap.size w w3):=HB2.out.trans (hb3.mono HB2.out.size)
  have HX3:Hid (Mb w3 w.heap.size m ra va ma rc vc mc):=HX2.out.below hb3
  clear hb3 m0 m1 m2 m3 m4 m5 m6 m7 m8 m9 m10
  obtain ⟨m0,m1,m2,m3,m4,m5,m6,m7,m8,m9,m10⟩:=HX3.out
  go_wp2_with fail
  refine (HR.out w3 HB3.out).mono ?_
  rintro e w4 ⟨rfl,hb4⟩
  have HB4:Hid (Below w.heap.size w w4):=HB3.out.trans (hb4.mono HB3.out.size)
  have HX4:Hid (Mb w4 w.heap.size m ra va ma rc vc mc):=HX3.out.below hb4
  clear hb4 m0 m1 m2 m3 m4 m5 m6 m7 m8 m9 m10
  obtain ⟨m0,m1,m2,m3,m4,m5,m6,m7,m8,m9,m10⟩:=HX4.out
  go_wp2
  go_ret
  exact ⟨ret_bool HF.out.symm,HB4.out⟩
 have H5:Hid (retB m=true):=h5
 rw [h5] at HR
 clear h5
 cases h6:countsB m
 ·have HF:Hid (mokB m=false):=HNO.out fun k=>by rw [h6] at k;simp at k
  rw [h6] at HC
  clear h6
  go_enter Tryz.func12,Tryz.ntmps12
  go_wp2_with fail
  refine (HT.out _).mono ?_
  rintro e w1 ⟨rfl,hb1⟩
  have HB1:Hid (Below w.heap.size w w1):=HB0.out.trans (hb1.mono HB0.out.size)
  have HX1:Hid (Mb w1 w.heap.size m ra va ma rc vc mc):=HX0.out.below hb1
  clear hb1
  obtain ⟨m0,m1,m2,m3,m4,m5,m6,m7,m8,m9,m10⟩:=HX1.out
  go_wp2_with fail
  refine (HM.out w1 HB1.out).mono ?_
  rintro e w2 ⟨rfl,hb2⟩
  have HB2:Hid (Below w.heap.size w w2):=HB1.out.trans (hb2.mono HB1.out.size)
  have HX2:Hid (Mb w2 w.heap.size m ra va ma rc vc mc):=HX1.out.below hb2
  clear hb2 m0 m1 m2 m3 m4 m5 m6 m7 m8 m9 m10
  obtain ⟨m0,m1,m2,m3,m4,m5,m6,m7,m8,m9,m10⟩:=HX2.out
  go_wp2_with fail
  refine (HV.out w2 HB2.out).mono ?_
  rintro e w3 ⟨rfl,hb3⟩
  have HB3:Hid (Below w.heap.size w w3):=HB2.out.trans (hb3.mono HB2.out.size)
  have HX3:Hid (Mb w3 w.heap.size m ra va ma rc vc mc):=HX2.out.below hb3
  clear hb3 m0 m1 m2 m3 m4 m5 m6 m7 m8 m9 m10
  obtain ⟨m0,m1,m2,m3,m4,m5,m6,m7,m8,m9,m10⟩:=HX3.out
  go_wp2_with fail
  refine (HR.out w3 HB3.out).mono ?_
  rintro e w4 ⟨rfl,hb4⟩
  have HB4:Hid (Below w.heap.size w w4):=HB3.out.trans (hb4.mono HB3.out.size)
  have HX4:Hid (Mb w4 w.heap.size m ra va ma rc vc mc):=HX3.out.below hb4
  clear hb4 m0 m1 m2 m3 m4 m5 m6 m7 m8 m9 m10
  obtain ⟨m0,m1,m2,m3,m4,m5,m6,m7,m8,m9,m10⟩:=HX4.out
  go_wp2_with fail
  refine (HC.out w4 HB4.out).mono ?_
  rintro e w5 ⟨rfl,hb5⟩
  have HB5:Hid (Below w.heap.size w w5):=HB4.out.trans (hb5.mono HB4.out.size)
  have HX5:Hid (Mb w5 w.heap.size m ra va ma rc vc mc):=HX4.out.below hb5
  clear hb5 m0 m1 m2 m3 m4 m5 m6 m7 m8 m9 m10
  obtain ⟨m0,m1,m2,m3,m4,m5,m6,m7,m8,m9,m10⟩:=HX5.out
  go_wp2
  go_ret
  exact ⟨ret_bool HF.out.symm,HB5.out⟩
 have HF:Hid (mokB m=true):=HI.out.2 ⟨H1.out,H2.out,H3.out,H4.out,H5.out,h6⟩
 rw [h6] at HC
 clear h6
 go_enter Tryz.func12,Tryz.ntmps12
 go_wp2_with fail
 refine (HT.out _).mono ?_
 rintro e w1 ⟨rfl,hb1⟩
 have HB1:Hid (Below w.heap.size w w1):=HB0.out.trans (hb1.mono HB0.out.size)
 have HX1:Hid (Mb w1 w.heap.size m ra va ma rc vc mc):=HX0.out.below hb1
 clear hb1
 obtain ⟨m0,m1,m2,m3,m4,m5,m6,m7,m8,m9,m10⟩:=HX1.out
 go_wp2_with fail
 refine (HM.out w1 HB1.out).mono ?_
 rintro e w2 ⟨rfl,hb2⟩
 have HB2:Hid (Below w.heap.size w w2):=HB1.out.trans (hb2.mono HB1.out.size)
 have HX2:Hid (Mb w2 w.heap.size m ra va ma rc vc mc):=HX1.out.below hb2
 clear hb2 m0 m1 m2 m3 m4 m5 m6 m7 m8 m9 m10
 obtain ⟨m0,m1,m2,m3,m4,m5,m6,m7,m8,m9,m10⟩:=HX2.out
 go_wp2_with fail
 refine (HV.out w2 HB2.out).mono ?_
 rintro e w3 ⟨rfl,hb3⟩
 have HB3:Hid (Below w.heap.size w w3):=HB2.out.trans (hb3.mono HB2.out.size)
 have HX3:Hid (Mb w3 w.heap.size m ra va ma rc vc mc):=HX2.out.below hb3
 clear hb3 m0 m1 m2 m3 m4 m5 m6 m7 m8 m9 m10
 obtain ⟨m0,m1,m2,m3,m4,m5,m6,m7,m8,m9,m10⟩:=HX3.out
 go_wp2_with fail
 refine (HR.out w3 HB3.out).mono ?_
 rintro e w4 ⟨rfl,hb4⟩
 have HB4:Hid (Below w.heap.size w w4):=HB3.out.trans (hb4.mono HB3.out.size)
 have HX4:Hid (Mb w4 w.heap.size m ra va ma rc vc mc):=HX3.out.below hb4
 clear hb4 m0 m1 m2 m3 m4 m5 m6 m7 m8 m9 m10
 obtain ⟨m0,m1,m2,m3,m4,m5,m6,m7,m8,m9,m10⟩:=HX4.out
 go_wp2_with fail
 refine (HC.out w4 HB4.out).mono ?_
 rintro e w5 ⟨rfl,hb5⟩
 have HB5:Hid (Below w.heap.size w w5):=HB4.out.trans (hb5.mono HB4.out.size)
 have HX5:Hid (Mb w5 w.heap.size m ra va ma rc vc mc):=HX4.out.below hb5
 clear hb5 m0 m1 m2 m3 m4 m5 m6 m7 m8 m9 m10
 obtain ⟨m0,m1,m2,m3,m4,m5,m6,m7,m8,m9,m10⟩:=HX5.out
 go_wp2
 go_ret
 exact ⟨ret_bool HF.out.symm,HB5.out⟩
/-- The verdict of a machine. -/
noncomputable def verV (m:Mc):Int × Bool:=if mokB m=true/\m.over=true then (m.ret,true) else (0,false)
end Mi4
end Go.Proofs.YtjajkmdoggbicaaGreatDoor
