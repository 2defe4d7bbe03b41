import Derived.Test.YtladjpombohpaaaGreatDoorPkJE16
namespace Go.Proofs.YtladjpombohpaaaGreatDoor
set_option maxRecDepth 100000
set_option maxHeartbeats 8000000
set_option linter.unusedVariables false
namespace Mi2
open Go.RowKit
open Ta0 Ta1 Ta2 Tc2 Te1 Mm0 Mm2 Mx0 Ms0 Mi1
open Nd0 (Kept Ints set_other set_same lt_of_cell)
open Qc0 (Sn Sns SnAt)
open Classical in
noncomputable def memB (l:List Sn) (room:Int):Bool:=decide ((0<=room/\room<=40)/\(l.length:Int)<=room/\(∀ x∈l,0<=x.r/\x.r<=1)/\apart l)
theorem memB_iff {l:List Sn} {room:Int}:memB l room=true↔(0<=room/\room<=40)/\(l.length:Int)<=room/\(∀ x∈l,0<=x.r/\x.r<=1)/\apart l:=by unfold memB;simp
theorem memB_no {l:List Sn} {room:Int} (h:¬ ((0<=room/\room<=40)/\(l.length:Int)<=room/\(∀ x∈l,0<=x.r/\x.r<=1)/\apart l)):memB l room=false:=Bool.eq_false_iff.2 fun e=>h (memB_iff.1 e)
theorem memB_yes {l:List Sn} {room:Int} (h:((0<=room/\room<=40)/\(l.length:Int)<=room/\(∀ x∈l,0<=x.r/\x.r<=1)/\apart l)):memB l room=true:=memB_iff.2 h
theorem iMemo (w:World) (a:Option Addr) (l:List Sn) (c:Nat) (room:Int) (h:Sns w a l) (hk:∀ x∈l,x.k.size<=maxLen) :
 Calls Tryz.prog 151 #[.slice a l.length c,.int .i64 room] w fun e w'=>e=.returned (.bool (memB l room))/\Below w.heap.size w w':=by
 have H:Hid (Sns w a l):=h
 have HK:Hid (∀ x∈l,x.k.size<=maxLen):=hk
 have hm:=h.1
 unfold maxLen at hm
 clear h hk
 by_cases h1:room < 0
 ·have h1b:decide (room < 0)=true:=decide_eq_true h1
  have HF:Hid (memB l room=false):=memB_no fun k=>by omega
  go_enter Tryz.func151,Tryz.ntmps151
  go_wp2
  go_ret
  exact ⟨ret_bool HF.out.symm,Below.refl _ _⟩
 have h1b:decide (room < 0)=false:=decide_eq_false h1
 by_cases h2:40 < room
 ·have h2b:decide (40 < room)=true:=decide_eq_true h2
  have HF:Hid (memB l room=false):=memB_no fun k=>by omega
  go_enter Tryz.func151,Tryz.ntmps151
  go_wp2
  go_ret
  exact ⟨ret_bool HF.out.symm,Below.refl _ _⟩
 have h2b:decide (40 < room)=false:=decide_eq_false h2
 by_cases h3:room < (l.length:Int)
 ·have h3b:decide (room < (l.length:Int))=true:=decide_eq_true h3
  have HF:Hid (memB l room=false):=memB_no fun k=>by omega
  go_enter Tryz.func151,Tryz.ntmps151
  go_wp2
  go_ret
  exact ⟨ret_bool HF.out.symm,Below.refl _ _⟩
 have h3b:decide (room < (l.length:Int))=false:=decide_eq_false h3
 go_enter Tryz.func151,Tryz.ntmps151
 go_wp2
 go_loopw [21] (fun i wr=>∃ j:Nat,j<=l.length/\i=.int .i64 j/\(∀ t (ht:t < l.length),t < j->0<=l[t].r/\l[t].r<=1)/\Below w.heap.size w wr) (fun i _=>l.length - (intOf i).toNat)
 case atStart=>exact ⟨0,Nat.zero_le _,rfl,fun t _ h=>by omega,Below.refl _ _⟩
 case round =>
  obtain ⟨j,hj,rfl,hbt,hb⟩:=hrel
  have HBT:Hid (∀ t (ht:t < l.length),t < j->0<=l[t].r/\l[t].r<=1):=hbt
  have HB:Hid (Below w.heap.size w wr):=hb
  clear hbt hb
  by_cases hlt:j < l.length
  ·have hjz:(j:Int) < (l.length:Int):=by omega
   have hN:=H.out.below HB.out
   rcases hN.2 with h0|⟨xb,xo,rfl,hc⟩
   ·omega
   obtain ⟨p0,p1⟩:=hc j hlt
   clear hc hN
   have HNO:Hid (¬ (0<=l[j].r/\l[j].r<=1)->memB l room=false):=fun h=>memB_no fun k=>h (k.2.2.1 _ (List.getElem_mem hlt))
   have HYE:Hid (0<=l[j].r/\l[j].r<=1->∀ t (ht:t < l.length),t < j+1->0<=l[t].r/\l[t].r<=1):=fun h t ht h2=>by
    by_cases e:t=j
    ·subst e;exact h
    ·exact HBT.out t ht (by omega)
   generalize l[j]=x at *
   have HIB:Hid (∀ W:World,Calls Tryz.prog 181 #[.int .i64 x.r] W fun e w'=>e=.returned (.bool (bitB x.r))/\w'=W):=fun W=>iBitOk x.r W
   have HBA:Hid (Below w.heap.size w (wr.alloc (.cells #[.string x.k,.int .i64 x.r] 102))):=HB.out.alloc HB.out.size _
   cases hB:bitB x.r
   ·have HF:Hid (memB l room=false):=HNO.out fun h=>by
     have:=of_decide_eq_false hB
     omega
    rw [hB] at HIB
    clear hB
    go_wp2_with (go_at_call 181;refine (HIB.out _).mono ?_;rintro e w9 ⟨rfl,hw9⟩;(have hw8:=hw9.symm);clear hw9;subst hw8)
    go_ret
    exact ⟨ret_bool HF.out.symm,HBA.out⟩
   ·have HT:=HYE.out (by have:=of_decide_eq_true hB;omega)
    have HT2:Hid (∀ t (ht:t < l.length),t < j+1->0<=l[t].r/\l[t].r<=1):=HT
    rw [hB] at HIB
    clear hB HT
    go_wp2_with (go_at_call 181;refine (HIB.out _).mono ?_;rintro e w9 ⟨rfl,hw9⟩;(have hw8:=hw9.symm);clear hw9;subst hw8)
    go_roundw
    case rel=>exact ⟨j+1,by omega,by go_num,HT2.out,HBA.out⟩
    case measure=>simp [intOf];omega
  ·have hjz:¬ (j:Int) < (l.length:Int):=by omega
   have HBI:Hid (∀ x∈l,0<=x.r/\x.r<=1):=fun x hx=>by
    obtain ⟨t,ht,rfl⟩:=List.getElem_of_mem hx
    exact HBT.out t ht (by omega)
   clear HBT
   go_wp2_with fail
   refine (iSays _ a l c (by omega) (H.out.below HB.out) HK.out HBI.out).mono ?_
   rintro e w2 ⟨rfl,hms,hb2⟩
   have HB2:Hid (Below w.heap.size w w2):=HB.out.trans (hb2.mono HB.out.size)
   have hlen:=fun ty=>hms.len ty
   clear hms hb2
   have hcl:=cnt_le l l.length
   by_cases hap:cnt l l.length=l.length
   ·have HT:Hid (memB l room=true):=memB_yes ⟨⟨by omega,by omega⟩,by omega,HBI.out,(cnt_apart l).1 hap⟩
    have hq:((cnt l l.length:Int)==(l.length:Int))=true:=by rw [hap];simp
    clear hap
    generalize cnt l l.length=cc at *
    go_wp2
    go_ret
    exact ⟨ret_bool HT.out.symm,HB2.out⟩
   ·have HT:Hid (memB l room=false):=memB_no fun k=>hap ((cnt_apart l).2 k.2.2.2)
    have hq:((cnt l l.length:Int)==(l.length:Int))=false:=beq_eq_false_iff_ne.2 (by omega)
    clear hap
    generalize cnt l l.length=cc at *
    go_wp2
    go_ret
    exact ⟨ret_bool HT.out.symm,HB2.out⟩
/-- Whether all are bits. -/
def allB (l:List Int):Bool:=l.all bitB
theorem allB_no {l:List Int} {k:Nat} (h:k < l.length) (hb:bitB l[k]=false):allB l=false:=by
 unfold allB
 rw [List.all_eq_false]
 exact ⟨_,List.getElem_mem h,by rw [hb];simp⟩
theorem iPlaceAny (a:Option Addr) (l:List Int) (c:Nat) (w:World) (hI:Ints w a l) :
 Calls Tryz.prog 183 #[.slice a l.length c] w fun e w'=>(∃ p:Int,e=.returned (.tuple #[.int .i64 p,.bool (allB l)]))/\w'=w:=by
 have HI1:Hid (Ints w a l):=hI
 have hm:=hI.1
 unfold maxLen at hm
 clear hI
 go_enter Tryz.func183,Tryz.ntmps183
 go_wp2
 go_loop [4,9] (fun p i=>∃ (k:Nat) (y:Int),k<=l.length/\i=.int .i64 k/\p=.int .i64 y/\∀ j (hj:j < l.length),j < k->bitB l[j]=true) (fun _ i=>l.length - (intOf i).toNat)
 case atStart=>exact ⟨0,0,Nat.zero_le _,rfl,rfl,fun j _ hj=>by omega⟩
 case round =>
  obtain ⟨k,y,hk,rfl,rfl,hbt⟩:=hrel
  have HBT:Hid (∀ j (hj:j < l.length),j < k->bitB l[j]=true):=hbt
  clear hbt
  by_cases hlt:k < l.length
  ·have hkz:(k:Int) < (l.length:Int):=by omega
   rcases HI1.out.2 with h0|⟨xb,xo,rfl,hc⟩
   ·omega
   have p0:=hc k hlt
   clear hc
   have HN:Hid (bitB l[k]=false->allB l=false):=allB_no hlt
   have HY:Hid (bitB l[k]=true->∀ j (hj:j < l.length),j < k+1->bitB l[j]=true):=fun h j hj h2=>by
    by_cases e:j=k
    ·subst e;exact h
    ·exact HBT.out j hj (by omega)
   generalize l[k]=x at *
   have HIC:Hid (∀ W,Calls Tryz.prog 181 #[.int .i64 x] W fun e w'=>e=.returned (.bool (bitB x))/\w'=W):=fun W=>iBitOk x W
   cases hB:bitB x
   ·have HBd:Hid (allB l=false):=HN.out hB
    rw [hB] at HIC
    clear hB
    go_wp2_with (go_at_call 181;refine (HIC.out _).mono ?_;rintro e w' ⟨rfl,rfl⟩)
    go_ret2
    exact ⟨⟨0,by rw [HBd.out];rfl⟩,rfl⟩
   ·have HT:=HY.out hB
    have HT2:Hid (∀ j (hj:j < l.length),j < k+1->bitB l[j]=true):=HT
    rw [hB] at HIC
    clear hB HT
    go_wp2_with (go_at_call 181;refine (HIC.out _).mono ?_;rintro e w' ⟨rfl,rfl⟩)
    go_round
    case rel=>exact ⟨k+1,_,by omega,by go_num,rfl,HT2.out⟩
    case measure=>simp [intOf];omega
  ·have HT:Hid (allB l=true):=by
    show _=_
    unfold allB
    rw [List.all_eq_true]
    intro x hx
    obtain ⟨t,ht,rfl⟩:=List.getElem_of_mem hx
    exact HBT.out t ht (by omega)
   go_wp2
   go_ret2
   exact ⟨⟨y,by rw [HT.out];rfl⟩,rfl⟩
/-- At most n bits. -/
def valB (l:List Int) (n:Int):Bool:=allB l&&decide ((l.length:Int)<=n)
theorem iVals (a:Option Addr) (l:List Int) (c:Nat) (n:Int) (w:World) (hI:Ints w a l) :
 Calls Tryz.prog 152 #[.slice a l.length c,.int .i64 n] w fun e w'=>e=.returned (.bool (valB l n))/\w'=w:=by
 have HI1:Hid (Ints w a l):=hI
 clear hI
 cases hA:allB l
 ·have HF:Hid (valB l n=false):=by show _=_;unfold valB;rw [hA];rfl
  go_enter Tryz.func152,Tryz.ntmps152
  go_wp2_with fail
  refine (iPlaceAny a l c _ HI1.out).mono ?_
  rw [hA]
  rintro e w2 ⟨⟨p,rfl⟩,rfl⟩
  clear hA
  go_wp2
  go_ret
  exact ⟨ret_bool HF.out.symm,rfl⟩
 ·by_cases hn:(l.length:Int)<=n
  ·have HF:Hid (valB l n=true):=by show _=_;unfold valB;rw [hA,decide_eq_true hn];rfl
   have hnb:decide ((l.length:Int)<=n)=true:=decide_eq_true hn
   go_enter Tryz.func152,Tryz.ntmps152
   go_wp2_with fail
   refine (iPlaceAny a l c _ HI1.out).mono ?_
   rw [hA]
   rintro e w2 ⟨⟨p,rfl⟩,rfl⟩
   clear hA
   go_wp2
   go_ret
   exact ⟨ret_bool HF.out.symm,rfl⟩
  ·have HF:Hid (valB l n=false):=by show _=_;unfold valB;rw [decide_eq_false hn];simp
   have hnb:decide ((l.length:Int)<=n)=false:=decide_eq_false hn
   go_enter Tryz.func152,Tryz.ntmps152
   go_wp2_with fail
   refine (iPlaceAny a l c _ HI1.out).mono ?_
   rw [hA]
   rintro e w2 ⟨⟨p,rfl⟩,rfl⟩
   clear hA
   go_wp2
   go_ret
   exact ⟨ret_bool HF.out.symm,rfl⟩
end Mi2
namespace Mi3
open Go.RowKit
open Ta0 Ta1 Ta2 Tc2 Te1 Mm0 Mm2 Mx0 Ms0 Mi1 Mi2
open Nd0 (Kept Ints set_other set_same lt_of_cell)
open Qc0 (Sn Sns SnAt)
open Ss1 (tl)
/-- Of a verdict. -/
def retB (m:Mc):Bool:=if m.ret = -1 then !m.over else bitB m.ret&&(!m.over||decide (m.vals.length=0))
theorem iRet (w:World) (m:Mc) (ra va ma:Option Addr) (rc vc mc:Nat) :
 Calls Tryz.prog 153 #[mval m ra va ma rc vc mc] w fun e w'=>e=.returned (.bool (retB m))/\Below w.heap.size w w':=by
 have HB0:Hid (Below w.heap.size w (w.alloc (.cells #[.slice ra m.row.length rc,.int .i64 m.N,.string m.S,.int .i64 m.room,.slice va m.vals.length vc,.int .i64 m.ret,.bool m.over,.int .i64 m.steps,.int .i64 m.looks,.int .i64 m.hits,.slice ma m.memo.length mc] 35))):=(Below.refl _ _).alloc (Nat.le_refl _) _
 have HIB:Hid (∀ W:World,Calls Tryz.prog 181 #[.int .i64 m.ret] W fun e w'=>e=.returned (.bool (bitB m.ret))/\w'=W):=fun W=>iBitOk m.ret W
 by_cases h1:m.ret = -1
 ·have h1b:(m.ret == -1)=true:=by rw [h1];rfl
  have HF:Hid (retB m = !m.over):=if_pos h1
  clear h1
  go_enter Tryz.func153,Tryz.ntmps153
  go_wp2_with (go_at_call 181;refine (HIB.out _).mono ?_;rintro e w9 ⟨rfl,hw9⟩;(have hw8:=hw9.symm);clear hw9;subst hw8)
  go_ret
  exact ⟨ret_bool HF.out.symm,HB0.out⟩
 have h1b:(m.ret == -1)=false:=beq_eq_false_iff_ne.2 h1
 cases hB:bitB m.ret
 ·rw [hB] at HIB
  have HF:Hid (retB m=false):=by show _=_;unfold retB;rw [if_neg h1,hB];rfl
  clear h1 hB
  go_enter Tryz.func153,Tryz.ntmps153
  go_wp2_with (go_at_call 181;refine (HIB.out _).mono ?_;rintro e w9 ⟨rfl,hw9⟩;(have hw8:=hw9.symm);clear hw9;subst hw8)
  go_ret
  exact ⟨ret_bool HF.out.symm,HB0.out⟩
 rw [hB] at HIB
 cases ho:m.over
 ·have HF:Hid (retB m=true):=by show _=_;unfold retB;rw [if_neg h1,hB,ho];rfl
  rw [ho] at HB0
  clear h1 hB
  go_enter Tryz.func153,Tryz.ntmps153
  go_wp2_with (go_at_call 181;refine (HIB.out _).mono ?_;rintro e w9 ⟨rfl,hw9⟩;(have hw8:=hw9.symm);clear hw9;subst hw8)
  go_ret
  exact ⟨ret_bool HF.out.symm,HB0.out⟩
 rw [ho] at HB0
 by_cases hv:m.vals.length=0
 ·have HF:Hid (retB m=true):=by show _=_;unfold retB;rw [if_neg h1,hB,ho,decide_eq_true hv];rfl
  rw [hv] at HB0
  have hve:m.vals=[]:=List.eq_nil_of_length_eq_zero hv
  clear h1 hB hv
  go_enter Tryz.func153,Tryz.ntmps153
  go_wp2_with (go_at_call 181;refine (HIB.out _).mono ?_;rintro e w9 ⟨rfl,hw9⟩;(have hw8:=hw9.symm);clear hw9;subst hw8)
  go_ret
  exact ⟨ret_bool HF.out.symm,HB0.out⟩
 ·have HF:Hid (retB m=false):=by show _=_;unfold retB;rw [if_neg h1,hB,ho,decide_eq_false hv];rfl
  have hvn:¬ m.vals=[]:=fun e=>hv (by rw [e];rfl)
  have hvb:((m.vals.length:Int)==0)=false:=beq_eq_false_iff_ne.2 (by omega)
  clear h1 hB hv
  go_enter Tryz.func153,Tryz.ntmps153
  go_wp2_with (go_at_call 181;refine (HIB.out _).mono ?_;rintro e w9 ⟨rfl,hw9⟩;(have hw8:=hw9.symm);clear hw9;subst hw8)
  go_ret
  exact ⟨ret_bool HF.out.symm,HB0.out⟩
theorem iCounts (w:World) (m:Mc) (ra va ma:Option Addr) (rc vc mc:Nat) :
 Calls Tryz.prog 149 #[mval m ra va ma rc vc mc] w fun e w'=>e=.returned (.agg #[.int .i64 m.steps,.int .i64 m.looks,.int .i64 m.hits])/\Below w.heap.size w w':=by
 go_enter Tryz.func149,Tryz.ntmps149
 go_wp2
 refine bodyPost_ret (v:=.agg #[.int .i64 m.steps,.int .i64 m.looks,.int .i64 m.hits]) (by simp [results,Tryz.results149,go_sem]) rfl ⟨rfl,?_⟩
 repeat (first|exact Below.refl _ _|refine Below.setCell ?_ (by simp<;>omega) _|refine Below.alloc ?_ (by simp<;>omega) _)
theorem idx3 (f:Nat->Int) {v:Nat} (hv:v < 3) (w:World):(Instr.index 192 (.agg #[.int .i64 (f 0),.int .i64 (f 1),.int .i64 (f 2)]) (.int .i64 (v:Int))).run Tryz.prog w=.ok (.int .i64 (f v)) w:=by
 rcases (show v=0\/v=1\/v=2 by omega) with h|h|h<;>subst h<;>simp [Instr.index,run_underlying Tryz.underlying192,asIntOf,go_sem]
/-- A count. -/
def ctB (x:Int):Bool:=decide (0<=x/\x<=1000000000)
def countsB (m:Mc):Bool:=ctB m.steps&&ctB m.looks&&ctB m.hits
theorem iCountsOk (w:World) (m:Mc) (ra va ma:Option Addr) (rc vc mc:Nat) :
 Calls Tryz.prog 154 #[mval m ra va ma rc vc mc] w fun e w'=>e=.returned (.bool (countsB m))/\Below w.heap.size w w':=by
 have HB0:Hid (Below w.heap.size w (w.alloc (.cells #[.slice ra m.row.length rc,.int .i64 m.N,.string m.S,.int .i64 m.room,.slice va m.vals.length vc,.int .i64 m.ret,.bool m.over,.int .i64 m.steps,.int .i64 m.looks,.int .i64 m.hits,.slice ma m.memo.length mc] 35))):=(Below.refl _ _).alloc (Nat.le_refl _) _
 have HX0:Hid (Mb (w.alloc (.cells #[.slice ra m.row.length rc,.int .i64 m.N,.string m.S,.int .i64 m.room,.slice va m.vals.length vc,.int .i64 m.ret,.bool m.over,.int .i64 m.steps,.int .i64 m.looks,.int .i64 m.hits,.slice ma m.memo.length mc] 35)) w.heap.size m ra va ma rc vc mc):=Mb.made _ _ _ _ _ _ _ _ _
 obtain ⟨f,hf⟩:∃ f:Nat->Int,f=fun k=>if k=0 then m.steps else if k=1 then m.looks else m.hits:=⟨_,rfl⟩
 have HC:Hid (∀ j,j < 3->ctB (f j)=false->countsB m=false):=fun j hj h=>by
  rw [hf] at h
  unfold countsB
  have:j=0\/j=1\/j=2:=by omega
  rcases this with rfl|rfl|rfl
  ·rw [show ctB m.steps=false from h];rfl
  ·rw [show ctB m.looks=false from h];simp
  ·rw [show ctB m.hits=false from h];simp
 have HD:Hid ((∀ j,j < 3->ctB (f j)=true)->countsB m=true):=fun h=>by
  unfold countsB
  have a0:=h 0 (by omega)
  have a1:=h 1 (by omega)
  have a2:=h 2 (by omega)
  rw [hf] at a0 a1 a2
  rw [show ctB m.steps=true from a0,show ctB m.looks=true from a1,show ctB m.hits=true from a2]
  rfl
 have HS:Hid (f 0=m.steps/\f 1=m.looks/\f 2=m.hits):=by rw [hf];exact ⟨rfl,rfl,rfl⟩
 clear hf
 go_enter Tryz.func154,Tryz.ntmps154
 go_wp2_with fail
 refine (iCounts _ m ra va ma rc vc mc).mono ?_
 rintro e w1 ⟨rfl,hb1⟩
 have HB1:Hid (Below w.heap.size w w1):=HB0.out.trans (hb1.mono HB0.out.size)
 clear hb1 HX0 HB0
 rw [<- HS.out.1,<- HS.out.2.1,<- HS.out.2.2]
 clear HS
 go_wp2
 go_loopw [7] (fun i wr=>∃ j:Nat,j<=3/\i=.int .i64 j/\wr=w1/\∀ t,t < j->ctB (f t)=true) (fun i _=>3 - (intOf i).toNat)
 case atStart=>exact ⟨0,Nat.zero_le _,rfl,rfl,fun t h=>by omega⟩
 case round =>
  obtain ⟨j,hj,rfl,hwr,hbt⟩:=hrel
  have hwr':=hwr.symm
  clear hwr
  subst hwr'
  have HBT:Hid (∀ t,t < j->ctB (f t)=true):=hbt
  clear hbt
  by_cases hlt:j < 3
  ·have hX:=fun w=>idx3 f hlt w
   have hjz:(j:Int) < 3:=by omega
   cases hq:ctB (f j)
   ·have HF:Hid (countsB m=false):=HC.out j hlt hq
    have hr:=of_decide_eq_false hq
    clear hq
    generalize f j=x at *
    by_cases h0:x < 0
    ·have h0b:decide (x < 0)=true:=decide_eq_true h0
     clear hr
     go_wp2
     go_ret
     exact ⟨ret_bool HF.out.symm,HB1.out⟩
    ·have h0b:decide (x < 0)=false:=decide_eq_false h0
     have h1b:decide (1000000000 < x)=true:=decide_eq_true (by omega)
     clear hr
     go_wp2
     go_ret
     exact ⟨ret_bool HF.out.symm,HB1.out⟩
   ·have hr:=of_decide_eq_true hq
    have HN:Hid (∀ t,t < j+1->ctB (f t)=true):=fun t ht=>by
     by_cases e:t=j
     ·rw [e];exact hq
     ·exact HBT.out t (by omega)
    clear hq
    generalize f j=x at *
    have h0b:decide (x < 0)=false:=decide_eq_false (by omega)
    have h1b:decide (1000000000 < x)=false:=decide_eq_false (by omega)
    clear hr
    go_wp2
    go_roundw
    case rel=>exact ⟨j+1,by omega,by go_num,(by first|trivial|rfl),HN.out⟩
    case measure=>simp [intOf];omega
  ·have HF:Hid (countsB m=true):=HD.out fun t ht=>HBT.out t (by omega)
   have hjz:¬ (j:Int) < 3:=by omega
   go_wp2
   go_ret
   exact ⟨ret_bool HF.out.symm,HB1.out⟩
end Mi3
end Go.Proofs.YtladjpombohpaaaGreatDoor
