import Derived.Test.YtladjpombohpaaaGreatDoorPkJE13
namespace Go.Proofs.YtladjpombohpaaaGreatDoor
set_option maxRecDepth 100000
set_option maxHeartbeats 8000000
set_option linter.unusedVariables false
namespace Mm2
open Go.RowKit
open Ta0 Ta1 Ta2 Ta3 Tc2 Tc5 Td1 Td2 Td4 Mm0 Mm1 Dm1
open Nd0 (Kept Ints set_other set_same lt_of_cell)
open Qc0 (Sn Sns)
open Ss0 (bs bs_size)
open Ss1 (tl bs_tl)
/-- The verdicts of the first j are bits. -/
def rOk (m:Mc) (j:Nat):Prop:=∀ t (ht:t < m.memo.length),t < j->0<=m.memo[t].r/\m.memo[t].r<=1
/-- No two of the first j keys are alike. -/
def kOk (m:Mc) (j:Nat):Prop:=∀ t s (ht:t < m.memo.length) (hs:s < m.memo.length),t < j->s < t->m.memo[s].k≠m.memo[t].k
theorem rOk.next {m:Mc} {j:Nat} (h:rOk m j) {hj:j < m.memo.length} (hx:0<=m.memo[j].r/\m.memo[j].r<=1):rOk m (j+1):=fun t ht h2=>by
 by_cases e:t=j
 ·subst e;exact hx
 ·exact h t ht (by omega)
theorem kOk.next {m:Mc} {j:Nat} (h:kOk m j) (hj:j < m.memo.length) (hx:∀ s (hs:s < m.memo.length),s < j->m.memo[s].k≠m.memo[j].k):kOk m (j+1):=fun t s ht hs h2 h3=>by
 by_cases e:t=j
 ·subst e;exact hx s hs h3
 ·exact h t s ht hs (by omega) h3
theorem dnb (B:Nat) (w:World) (n:Nat):Below B w (w.drewN n):=⟨rfl,rfl,rfl,Nat.le_refl _,fun _ _=>rfl⟩
open Classical in
noncomputable def mokB (m:Mc):Bool:=decide (Mok m)
theorem mok_no {m:Mc} (h:¬ Mok m):mokB m=false:=by unfold mokB;simp [h]
theorem mok_yes {m:Mc} (h:Mok m):mokB m=true:=by unfold mokB;simp [h]
theorem okAny (ra:Option Addr) (L rc:Nat) (N:Int) (S:ByteArray) (hS:S.size<=1048576):∃ b:Bool,(b=true↔tokB N (tl S)=true/\(L:Int)=N)/\∀ W,Calls Tryz.prog 78 #[.slice ra L rc,tv N S] W fun e w'=>e=.returned (.bool b)/\Below W.heap.size W w':=by
 by_cases h:tokB N (tl S)=true/\(L:Int)=N
 ·refine ⟨true,⟨fun _=>h,fun _=>rfl⟩,fun W=>?_⟩
  obtain ⟨n,F,hn,rfl,h3⟩:=tok_tab h.1
  have e:S=bs (tab n F):=by rw [<- bs_tl S,h3]
  have hL:L=n:=by have:=h.2;omega
  rw [e,hL]
  exact sOkR n F ra rc W hn
 ·exact ⟨false,⟨(fun e=>by cases e),(fun e=>absurd e h)⟩,fun W=>sOkR0 ra L rc W hS h⟩
theorem sMachineOk (m:Mc) (ra va ma:Option Addr) (rc vc mc:Nat) (w:World) (hS:m.S.size<=1048576) (hR:Mr w m ra va ma) :
 Calls Tryz.prog 51 #[mval m ra va ma rc vc mc] w fun e w'=>e=.returned (.bool (mokB m))/\Below w.heap.size w w':=by
 have HR:Hid (Mr w m ra va ma):=hR
 have HX0:Hid (Mb (w.alloc (.cells #[.slice ra m.row.length rc,.int .i64 m.N,.string m.S,.int .i64 m.room,.slice va m.vals.length vc,.int .i64 m.ret,.bool m.over,.int .i64 m.steps,.int .i64 m.looks,.int .i64 m.hits,.slice ma m.memo.length mc] 35)) w.heap.size m ra va ma rc vc mc):=Mb.made _ _ _ _ _ _ _ _ _
 have HB0:Hid (Below w.heap.size w (w.alloc (.cells #[.slice ra m.row.length rc,.int .i64 m.N,.string m.S,.int .i64 m.room,.slice va m.vals.length vc,.int .i64 m.ret,.bool m.over,.int .i64 m.steps,.int .i64 m.looks,.int .i64 m.hits,.slice ma m.memo.length mc] 35))):=(Below.refl _ _).alloc (Nat.le_refl _) _
 have hlm:=hR.memo.1
 have hlv:=hR.vals.1
 unfold maxLen at hlm hlv
 obtain ⟨b1,hb1,hok⟩:=okAny ra m.row.length rc m.N m.S hS
 have HOK:Hid _:=hok
 clear hR hok
 cases b1
 ·have HF:Hid (mokB m=false):=mok_no fun k=>by have:=hb1.2 ⟨k.tab,k.row⟩;simp at this
  clear hb1
  go_enter Tryz.func51,Tryz.ntmps51
  go_wp2_with fail
  refine (HOK.out _).mono ?_
  rintro e w1 ⟨rfl,hb⟩
  have HB1:Hid (Below w.heap.size w w1):=HB0.out.trans (hb.mono HB0.out.size)
  obtain ⟨m0,m1,m2,m3,m4,m5,m6,m7,m8,m9,m10⟩:=HX0.out.below hb
  clear hb
  go_wp2
  go_ret
  exact ⟨ret_bool HF.out.symm,HB1.out⟩
 have h1:=hb1.1 rfl
 clear hb1
 by_cases h2:0<=m.room/\m.room<=40
 rotate_left
 ·have H2:Hid (∀ W:World,Calls Tryz.prog 25 #[.int .i64 m.room,.int .i64 0,.int .i64 40] W fun e w'=>e=.returned (.bool false)/\w'=W):=fun W=>sInF W (by omega)
  have HF:Hid (mokB m=false):=mok_no fun k=>h2 k.room
  clear h2
  go_enter Tryz.func51,Tryz.ntmps51
  go_wp2_with fail
  refine (HOK.out _).mono ?_
  rintro e w1 ⟨rfl,hb⟩
  have HB1:Hid (Below w.heap.size w w1):=HB0.out.trans (hb.mono HB0.out.size)
  obtain ⟨m0,m1,m2,m3,m4,m5,m6,m7,m8,m9,m10⟩:=HX0.out.below hb
  clear hb
  go_wp2_with (go_at_call 25;(first|with_reducible refine (H2.out _).mono ?_);rintro e w9 ⟨rfl,hw9⟩;(have hw8:=hw9.symm);clear hw9;subst hw8)
  go_ret
  exact ⟨ret_bool HF.out.symm,HB1.out⟩
 have H2:Hid (∀ W:World,Calls Tryz.prog 25 #[.int .i64 m.room,.int .i64 0,.int .i64 40] W fun e w'=>e=.returned (.bool true)/\w'=W):=fun W=>sInT W (by omega)
 by_cases h3:(m.memo.length:Int)<=m.room
 rotate_left
 ·have h3d:(m.room < (m.memo.length:Int)):=by omega
  have h3b:decide (m.room < (m.memo.length:Int))=true:=decide_eq_true h3d
  have HF:Hid (mokB m=false):=mok_no fun k=>h3 k.memo
  clear h3
  go_enter Tryz.func51,Tryz.ntmps51
  go_wp2_with fail
  refine (HOK.out _).mono ?_
  rintro e w1 ⟨rfl,hb⟩
  have HB1:Hid (Below w.heap.size w w1):=HB0.out.trans (hb.mono HB0.out.size)
  obtain ⟨m0,m1,m2,m3,m4,m5,m6,m7,m8,m9,m10⟩:=HX0.out.below hb
  clear hb
  go_wp2_with (go_at_call 25;(first|with_reducible refine (H2.out _).mono ?_);rintro e w9 ⟨rfl,hw9⟩;(have hw8:=hw9.symm);clear hw9;subst hw8)
  go_ret
  exact ⟨ret_bool HF.out.symm,HB1.out⟩
 have h3d:¬ (m.room < (m.memo.length:Int)):=by omega
 have h3b:decide (m.room < (m.memo.length:Int))=false:=decide_eq_false h3d
 by_cases h4:(m.vals.length:Int)<=m.N
 rotate_left
 ·have h4d:(m.N < (m.vals.length:Int)):=by omega
  have h4b:decide (m.N < (m.vals.length:Int))=true:=decide_eq_true h4d
  have HF:Hid (mokB m=false):=mok_no fun k=>h4 k.vals
  clear h4
  go_enter Tryz.func51,Tryz.ntmps51
  go_wp2_with fail
  refine (HOK.out _).mono ?_
  rintro e w1 ⟨rfl,hb⟩
  have HB1:Hid (Below w.heap.size w w1):=HB0.out.trans (hb.mono HB0.out.size)
  obtain ⟨m0,m1,m2,m3,m4,m5,m6,m7,m8,m9,m10⟩:=HX0.out.below hb
  clear hb
  go_wp2_with (go_at_call 25;(first|with_reducible refine (H2.out _).mono ?_);rintro e w9 ⟨rfl,hw9⟩;(have hw8:=hw9.symm);clear hw9;subst hw8)
  go_ret
  exact ⟨ret_bool HF.out.symm,HB1.out⟩
 have h4d:¬ (m.N < (m.vals.length:Int)):=by omega
 have h4b:decide (m.N < (m.vals.length:Int))=false:=decide_eq_false h4d
 by_cases h5 : -1<=m.ret/\m.ret<=1
 rotate_left
 ·have H5:Hid (∀ W:World,Calls Tryz.prog 25 #[.int .i64 m.ret,.int .i64 (-1),.int .i64 1] W fun e w'=>e=.returned (.bool false)/\w'=W):=fun W=>sInF W (by omega)
  have HF:Hid (mokB m=false):=mok_no fun k=>h5 k.ret
  clear h5
  go_enter Tryz.func51,Tryz.ntmps51
  go_wp2_with fail
  refine (HOK.out _).mono ?_
  rintro e w1 ⟨rfl,hb⟩
  have HB1:Hid (Below w.heap.size w w1):=HB0.out.trans (hb.mono HB0.out.size)
  obtain ⟨m0,m1,m2,m3,m4,m5,m6,m7,m8,m9,m10⟩:=HX0.out.below hb
  clear hb
  go_wp2_with (go_at_call 25;(first|with_reducible refine (H2.out _).mono ?_|with_reducible refine (H5.out _).mono ?_);rintro e w9 ⟨rfl,hw9⟩;(have hw8:=hw9.symm);clear hw9;subst hw8)
  go_ret
  exact ⟨ret_bool HF.out.symm,HB1.out⟩
 have H5:Hid (∀ W:World,Calls Tryz.prog 25 #[.int .i64 m.ret,.int .i64 (-1),.int .i64 1] W fun e w'=>e=.returned (.bool true)/\w'=W):=fun W=>sInT W (by omega)
 by_cases h6:(m.over=true->0<=m.ret/\m.vals.length=0)
 rotate_left
 ·have hov:m.over=true:=by
   cases h:m.over
   ·exact absurd (fun e=>by rw [h] at e;cases e) h6
   ·rfl
  have hrv:m.ret < 0\/(¬ m.ret < 0/\(0:Int) < (m.vals.length:Int)):=by
   by_cases e:m.ret < 0
   ·exact .inl e
   ·refine .inr ⟨e,?_⟩
    apply Classical.byContradiction
    intro e2
    exact h6 fun _=>⟨by omega,by omega⟩
  have HF:Hid (mokB m=false):=mok_no fun k=>h6 k.over
  clear h6
  rw [hov] at HB0 HX0
  rcases hrv with hr0|⟨hr0,hr1⟩
  ·have hr0b:decide (m.ret < 0)=true:=decide_eq_true hr0
   go_enter Tryz.func51,Tryz.ntmps51
   go_wp2_with fail
   refine (HOK.out _).mono ?_
   rintro e w1 ⟨rfl,hb⟩
   have HB1:Hid (Below w.heap.size w w1):=HB0.out.trans (hb.mono HB0.out.size)
   obtain ⟨m0,m1,m2,m3,m4,m5,m6,m7,m8,m9,m10⟩:=HX0.out.below hb
   clear hb
   go_wp2_with (go_at_call 25;(first|with_reducible refine (H2.out _).mono ?_|with_reducible refine (H5.out _).mono ?_);rintro e w9 ⟨rfl,hw9⟩;(have hw8:=hw9.symm);clear hw9;subst hw8)
   go_ret
   exact ⟨ret_bool HF.out.symm,HB1.out⟩
  ·have hr0b:decide (m.ret < 0)=false:=decide_eq_false hr0
   have hvn:¬ m.vals=[]:=fun e=>by rw [e] at hr1;simp at hr1
   have hvnb:decide (m.vals=[])=false:=decide_eq_false hvn
   go_enter Tryz.func51,Tryz.ntmps51
   go_wp2_with fail
   refine (HOK.out _).mono ?_
   rintro e w1 ⟨rfl,hb⟩
   have HB1:Hid (Below w.heap.size w w1):=HB0.out.trans (hb.mono HB0.out.size)
   obtain ⟨m0,m1,m2,m3,m4,m5,m6,m7,m8,m9,m10⟩:=HX0.out.below hb
   clear hb
   go_wp2_with (go_at_call 25;(first|with_reducible refine (H2.out _).mono ?_|with_reducible refine (H5.out _).mono ?_);rintro e w9 ⟨rfl,hw9⟩;(have hw8:=hw9.symm);clear hw9;subst hw8)
   go_ret
   exact ⟨ret_bool HF.out.symm,HB1.out⟩
 have hov:m.over=false\/(m.over=true/\¬ m.ret < 0/\¬ (0:Int) < (m.vals.length:Int)):=by
  cases h:m.over
  ·exact .inl rfl
  ·have:=h6 h
   exact .inr ⟨rfl,by omega,by omega⟩
 have H6:Hid (m.over=true->0<=m.ret/\m.vals.length=0):=h6
 clear h6
 rcases hov with hov|⟨hov,hr0,hv0⟩
 ·rw [hov] at HB0 HX0
  by_cases h7:0<=m.steps/\m.steps<=1000000000
  rotate_left
  ·have H7:Hid (∀ W:World,Calls Tryz.prog 25 #[.int .i64 m.steps,.int .i64 0,.int .i64 1000000000] W fun e w'=>e=.returned (.bool false)/\w'=W):=fun W=>sInF W (by omega)
   have HF:Hid (mokB m=false):=mok_no fun k=>h7 k.steps
   clear h7
   go_enter Tryz.func51,Tryz.ntmps51
   go_wp2_with fail
   refine (HOK.out _).mono ?_
   rintro e w1 ⟨rfl,hb⟩
   have HB1:Hid (Below w.heap.size w w1):=HB0.out.trans (hb.mono HB0.out.size)
   obtain ⟨m0,m1,m2,m3,m4,m5,m6,m7,m8,m9,m10⟩:=HX0.out.below hb
   clear hb
   go_wp2_with (go_at_call 25;(first|with_reducible refine (H2.out _).mono ?_|with_reducible refine (H5.out _).mono ?_|with_reducible refine (H7.out _).mono ?_);rintro e w9 ⟨rfl,hw9⟩;(have hw8:=hw9.symm);clear hw9;subst hw8)
   go_ret
   exact ⟨ret_bool HF.out.symm,HB1.out⟩
  have H7:Hid (∀ W:World,Calls Tryz.prog 25 #[.int .i64 m.steps,.int .i64 0,.int .i64 1000000000] W fun e w'=>e=.returned (.bool true)/\w'=W):=fun W=>sInT W (by omega)
  by_cases h8:0<=m.looks/\m.looks<=1000000000
  rotate_left
  ·have H8:Hid (∀ W:World,Calls Tryz.prog 25 #[.int .i64 m.looks,.int .i64 0,.int .i64 1000000000] W fun e w'=>e=.returned (.bool false)/\w'=W):=fun W=>sInF W (by omega)
   have HF:Hid (mokB m=false):=mok_no fun k=>h8 k.looks
   clear h8
   go_enter Tryz.func51,Tryz.ntmps51
   go_wp2_with fail
   refine (HOK.out _).mono ?_
   rintro e w1 ⟨rfl,hb⟩
   have HB1:Hid (Below w.heap.size w w1):=HB0.out.trans (hb.mono HB0.out.size)
   obtain ⟨m0,m1,m2,m3,m4,m5,m6,m7,m8,m9,m10⟩:=HX0.out.below hb
   clear hb
   go_wp2_with (go_at_call 25;(first|with_reducible refine (H2.out _).mono ?_|with_reducible refine (H5.out _).mono ?_|with_reducible refine (H7.out _).mono ?_|with_reducible refine (H8.out _).mono ?_);rintro e w9 ⟨rfl,hw9⟩;(have hw8:=hw9.symm);clear hw9;subst hw8)
   go_ret
   exact ⟨ret_bool HF.out.symm,HB1.out⟩
  have H8:Hid (∀ W:World,Calls Tryz.prog 25 #[.int .i64 m.looks,.int .i64 0,.int .i64 1000000000] W fun e w'=>e=.returned (.bool true)/\w'=W):=fun W=>sInT W (by omega)
  by_cases h9:0<=m.hits/\m.hits<=1000000000
  rotate_left
  ·have H9:Hid (∀ W:World,Calls Tryz.prog 25 #[.int .i64 m.hits,.int .i64 0,.int .i64 1000000000] W fun e w'=>e=.returned (.bool false)/\w'=W):=fun W=>sInF W (by omega)
   have HF:Hid (mokB m=false):=mok_no fun k=>h9 k.hits
   clear h9
   go_enter Tryz.func51,Tryz.ntmps51
   go_wp2_with fail
   refine (HOK.out _).mono ?_
   rintro e w1 ⟨rfl,hb⟩
   have HB1:Hid (Below w.heap.size w w1):=HB0.out.trans (hb.mono HB0.out.size)
   obtain ⟨m0,m1,m2,m3,m4,m5,m6,m7,m8,m9,m10⟩:=HX0.out.below hb
   clear hb
   go_wp2_with (go_at_call 25;(first|with_reducible refine (H2.out _).mono ?_|with_reducible refine (H5.out _).mono ?_|with_reducible refine (H7.out _).mono ?_|with_reducible refine (H8.out _).mono ?_|with_reducible refine (H9.out _).mono ?_);rintro e w9 ⟨rfl,hw9⟩;(have hw8:=hw9.symm);clear hw9;subst hw8)
   go_ret
   exact ⟨ret_bool HF.out.symm,HB1.out⟩
  have H9:Hid (∀ W:World,Calls Tryz.prog 25 #[.int .i64 m.hits,.int .i64 0,.int .i64 1000000000] W fun e w'=>e=.returned (.bool true)/\w'=W):=fun W=>sInT W (by omega)
  go_enter Tryz.func51,Tryz.ntmps51
  go_wp2_with fail
  refine (HOK.out _).mono ?_
  rintro e w1 ⟨rfl,hb⟩
  have HB1:Hid (Below w.heap.size w w1):=HB0.out.trans (hb.mono HB0.out.size)
  obtain ⟨m0,m1,m2,m3,m4,m5,m6,m7,m8,m9,m10⟩:=HX0.out.below hb
  clear hb
  have HM1:Hid (Mb w1 w.heap.size m ra va ma rc vc mc):=⟨m0,m1,m2,m3,m4,m5,m6,m7,m8,m9,m10⟩
  go_wp2_with (go_at_call 25;(first|with_reducible refine (H2.out _).mono ?_|with_reducible refine (H5.out _).mono ?_|with_reducible refine (H7.out _).mono ?_|with_reducible refine (H8.out _).mono ?_|with_reducible refine (H9.out _).mono ?_);rintro e w9 ⟨rfl,hw9⟩;(have hw8:=hw9.symm);clear hw9;subst hw8)
  go_loopw [3] (fun i wr=>∃ j:Nat,j<=m.vals.length/\i=.int .i64 j/\wr=w1/\∀ t (ht:t < m.vals.length),t < j->0<=m.vals[t]/\m.vals[t]<=1) (fun i _=>m.vals.length - (intOf i).toNat)
  case atStart=>exact ⟨0,Nat.zero_le _,rfl,rfl,fun t _ h=>by omega⟩
  case round =>
   obtain ⟨j,hj,rfl,hwr,hbt⟩:=hrel
   have hwr':=hwr.symm
   clear hwr
   subst hwr'
   have HBT:Hid (∀ t (ht:t < m.vals.length),t < j->0<=m.vals[t]/\m.vals[t]<=1):=hbt
   clear hbt
   by_cases hlt:j < m.vals.length
   ·have hjz:(j:Int) < (m.vals.length:Int):=by omega
    have hI:=HR.out.vals.below HB1.out
    rcases hI.2 with h0|⟨vx,vo,rfl,hc⟩
    ·omega
    have p0:=hc j hlt
    clear hc hI
    have HNB:Hid (¬ (0<=m.vals[j]/\m.vals[j]<=1)->mokB m=false):=fun h=>mok_no fun k=>h (k.bits _ (List.getElem_mem hlt))
    have HJ:Hid (0<=m.vals[j]/\m.vals[j]<=1->∀ t (ht:t < m.vals.length),t < j+1->0<=m.vals[t]/\m.vals[t]<=1):=fun h t ht h2=>by
     by_cases e:t=j
     ·subst e;exact h
     ·exact HBT.out t ht (by omega)
    generalize m.vals[j]=x at *
    by_cases hx:0<=x/\x<=1
    ·have HIx:Hid (∀ W:World,Calls Tryz.prog 25 #[.int .i64 x,.int .i64 0,.int .i64 1] W fun e w'=>e=.returned (.bool true)/\w'=W):=fun W=>sInT W hx
     have HJ2:=HJ.out hx
     have HJ3:Hid (∀ t (ht:t < m.vals.length),t < j+1->0<=m.vals[t]/\m.vals[t]<=1):=HJ2
     clear hx HJ2
     go_wp2_with (go_at_call 25;refine (HIx.out _).mono ?_;rintro e w9 ⟨rfl,hw9⟩;(have hw8:=hw9.symm);clear hw9;subst hw8)
     go_roundw
     case rel=>exact ⟨j+1,by omega,by go_num,(by first|trivial|rfl),HJ3.out⟩
     case measure=>simp [intOf];omega
    ·have HIx:Hid (∀ W:World,Calls Tryz.prog 25 #[.int .i64 x,.int .i64 0,.int .i64 1] W fun e w'=>e=.returned (.bool false)/\w'=W):=fun W=>sInF W hx
     have HF:Hid (mokB m=false):=HNB.out hx
     clear hx
     go_wp2_with (go_at_call 25;refine (HIx.out _).mono ?_;rintro e w9 ⟨rfl,hw9⟩;(have hw8:=hw9.symm);clear hw9;subst hw8)
     go_ret
     exact ⟨ret_bool HF.out.symm,HB1.out⟩
   ·have hjz:¬ (j:Int) < (m.vals.length:Int):=by omega
    have HBI:Hid (∀ x∈m.vals,0<=x/\x<=1):=fun x hx=>by
     obtain ⟨t,ht,rfl⟩:=List.getElem_of_mem hx
     exact HBT.out t ht (by omega)
    clear HBT
    go_wp2_with fail
    go_loopw [4] (fun i wr=>∃ j:Nat,j<=m.memo.length/\i=.int .i64 j/\(∃ q,wr=w1.drewN q)/\rOk m j/\kOk m j) (fun i _=>m.memo.length - (intOf i).toNat)
    case atStart=>exact ⟨0,Nat.zero_le _,rfl,⟨0,rfl⟩,fun t _ h=>by omega,fun t s _ _ h=>by omega⟩
    case round =>
     obtain ⟨j2,hj2,rfl,⟨q,rfl⟩,hr2,hk2⟩:=hrel
     have HRO:Hid (rOk m j2):=hr2
     have HKO:Hid (kOk m j2):=hk2
     clear hr2 hk2
     by_cases hlt2:j2 < m.memo.length
     ·have hjz2:(j2:Int) < (m.memo.length:Int):=by omega
      have hI:=HR.out.memo.below HB1.out
      rcases hI.2 with h0|⟨vx,vo,hma,hc⟩
      ·omega
      rw [hma] at m10
      have HC:Hid (∀ i (h:i < m.memo.length),Qc0.SnAt w1 vx (vo+i*2) m.memo[i]):=hc
      obtain ⟨p0,p1⟩:=hc j2 hlt2
      clear hc hI
      have HNB:Hid (¬ (0<=m.memo[j2].r/\m.memo[j2].r<=1)->mokB m=false):=fun h=>mok_no fun k=>h (k.seen _ (List.getElem_mem hlt2))
      have HJR:Hid (0<=m.memo[j2].r/\m.memo[j2].r<=1->rOk m (j2+1)):=fun h=>HRO.out.next h
      have HJK:Hid ((∀ s (hs:s < m.memo.length),s < j2->m.memo[s].k≠m.memo[j2].k)->kOk m (j2+1)):=fun h=>HKO.out.next hlt2 h
      have HNK:Hid (∀ s (hs:s < m.memo.length),s < j2->m.memo[s].k=m.memo[j2].k->mokB m=false):=fun s hs h1 h2=>mok_no fun k=>k.keys j2 s hlt2 hs h1 h2
      generalize m.memo[j2]=x at *
      by_cases hx:0<=x.r/\x.r<=1
      rotate_left
      ·have HIx:Hid (∀ W:World,Calls Tryz.prog 25 #[.int .i64 x.r,.int .i64 0,.int .i64 1] W fun e w'=>e=.returned (.bool false)/\w'=W):=fun W=>sInF W hx
       have HF:Hid (mokB m=false):=HNB.out hx
       clear hx
       go_wp2_with (go_at_call 25;refine (HIx.out _).mono ?_;rintro e w9 ⟨rfl,hw9⟩;(have hw8:=hw9.symm);clear hw9;subst hw8)
       go_ret
       exact ⟨ret_bool HF.out.symm,HB1.out.trans (by first|exact dnb _ _ _|exact (dnb _ _ _).trans (dnb _ _ _))⟩
      have HIx:Hid (∀ W:World,Calls Tryz.prog 25 #[.int .i64 x.r,.int .i64 0,.int .i64 1] W fun e w'=>e=.returned (.bool true)/\w'=W):=fun W=>sInT W hx
      have HJ3:Hid (rOk m (j2+1)):=HJR.out hx
      clear hx
      go_wp2_with (go_at_call 25;refine (HIx.out _).mono ?_;rintro e w9 ⟨rfl,hw9⟩;(have hw8:=hw9.symm);clear hw9;subst hw8)
      go_loopw [5] (fun i wr=>∃ k:Nat,k<=j2/\i=.int .i64 k/\(∃ q,wr=w1.drewN q)/\∀ s (hs:s < m.memo.length),s < k->m.memo[s].k≠x.k) (fun i _=>j2 - (intOf i).toNat)
      case atStart=>exact ⟨0,Nat.zero_le _,rfl,⟨_,rfl⟩,fun s _ h=>by omega⟩
      case round =>
       obtain ⟨k,hk,rfl,⟨q2,rfl⟩,hkk⟩:=hrel
       have HKK:Hid (∀ s (hs:s < m.memo.length),s < k->m.memo[s].k≠x.k):=hkk
       clear hkk
       by_cases hlt3:k < j2
       ·have hkz:(k:Int) < (j2:Int):=by omega
        have hkl:k < m.memo.length:=by omega
        have hkz2:(k:Int) < (m.memo.length:Int):=by omega
        obtain ⟨r0,r1⟩:=HC.out k hkl
        have HN1:Hid (m.memo[k].k=x.k->mokB m=false):=HNK.out k hkl hlt3
        have HN2:Hid (m.memo[k].k≠x.k->∀ s (hs:s < m.memo.length),s < k+1->m.memo[s].k≠x.k):=fun h s hs h1=>by
         by_cases e:s=k
         ·subst e;exact h
         ·exact HKK.out s hs (by omega)
        generalize m.memo[k]=y at *
        by_cases hyx:y.k=x.k
        ·have hq:(y.k.toList==x.k.toList)=true:=Ss1.eqb_true (by rw [hyx])
         have HF:Hid (mokB m=false):=HN1.out hyx
         clear hyx
         go_wp2
         go_quiet (fail)
         go_wp2
         go_ret
         exact ⟨ret_bool HF.out.symm,HB1.out.trans (by first|exact dnb _ _ _|exact (dnb _ _ _).trans (dnb _ _ _))⟩
        ·have hq:(y.k.toList==x.k.toList)=false:=Ss1.eqb_false fun e=>hyx (Ss1.tl_inj e)
         have HN3:Hid (∀ s (hs:s < m.memo.length),s < k+1->m.memo[s].k≠x.k):=HN2.out hyx
         clear hyx
         go_wp2
         go_quiet (fail)
         go_wp2
         go_roundw
         case rel=>exact ⟨k+1,by omega,by go_num,⟨_,rfl⟩,HN3.out⟩
         case measure=>simp [intOf];omega
       ·have hkz:¬ (k:Int) < (j2:Int):=by omega
        have HJ4:Hid (kOk m (j2+1)):=HJK.out fun s hs h=>HKK.out s hs (by omega)
        go_wp2
        go_roundw
        case rel=>exact ⟨j2+1,by omega,by go_num,⟨_,rfl⟩,HJ3.out,HJ4.out⟩
        case measure=>simp [intOf];omega
     ·have hjz2:¬ (j2:Int) < (m.memo.length:Int):=by omega
      have HT:Hid (mokB m=true):=mok_yes ⟨h1.1,h1.2,h2,h3,h4,h5,H6.out,h7,h8,h9,HBI.out,fun x hx=>by
       obtain ⟨t,ht,rfl⟩:=List.getElem_of_mem hx
       exact HRO.out t ht (by omega),fun t s ht hs hst=>HKO.out t s ht hs (by omega) hst⟩
      go_wp2
      go_ret
      exact ⟨ret_bool HT.out.symm,HB1.out.trans (by first|exact dnb _ _ _|exact (dnb _ _ _).trans (dnb _ _ _))⟩
 ·rw [hov] at HB0 HX0
  have hr0b:decide (m.ret < 0)=false:=decide_eq_false hr0
  have hvl:m.vals.length=0:=by omega
  rw [hvl] at HB0 HX0
  have hve:m.vals=[]:=List.eq_nil_of_length_eq_zero hvl
  clear hvl
  by_cases h7:0<=m.steps/\m.steps<=1000000000
  rotate_left
  ·have H7:Hid (∀ W:World,Calls Tryz.prog 25 #[.int .i64 m.steps,.int .i64 0,.int .i64 1000000000] W fun e w'=>e=.returned (.bool false)/\w'=W):=fun W=>sInF W (by omega)
   have HF:Hid (mokB m=false):=mok_no fun k=>h7 k.steps
   clear h7
   go_enter Tryz.func51,Tryz.ntmps51
   go_wp2_with fail
   refine (HOK.out _).mono ?_
   rintro e w1 ⟨rfl,hb⟩
   have HB1:Hid (Below w.heap.size w w1):=HB0.out.trans (hb.mono HB0.out.size)
   obtain ⟨m0,m1,m2,m3,m4,m5,m6,m7,m8,m9,m10⟩:=HX0.out.below hb
   clear hb
   go_wp2_with (go_at_call 25;(first|with_reducible refine (H2.out _).mono ?_|with_reducible refine (H5.out _).mono ?_|with_reducible refine (H7.out _).mono ?_);rintro e w9 ⟨rfl,hw9⟩;(have hw8:=hw9.symm);clear hw9;subst hw8)
   go_ret
   exact ⟨ret_bool HF.out.symm,HB1.out⟩
  have H7:Hid (∀ W:World,Calls Tryz.prog 25 #[.int .i64 m.steps,.int .i64 0,.int .i64 1000000000] W fun e w'=>e=.returned (.bool true)/\w'=W):=fun W=>sInT W (by omega)
  by_cases h8:0<=m.looks/\m.looks<=1000000000
  rotate_left
  ·have H8:Hid (∀ W:World,Calls Tryz.prog 25 #[.int .i64 m.looks,.int .i64 0,.int .i64 1000000000] W fun e w'=>e=.returned (.bool false)/\w'=W):=fun W=>sInF W (by omega)
   have HF:Hid (mokB m=false):=mok_no fun k=>h8 k.looks
   clear h8
   go_enter Tryz.func51,Tryz.ntmps51
   go_wp2_with fail
   refine (HOK.out _).mono ?_
   rintro e w1 ⟨rfl,hb⟩
   have HB1:Hid (Below w.heap.size w w1):=HB0.out.trans (hb.mono HB0.out.size)
   obtain ⟨m0,m1,m2,m3,m4,m5,m6,m7,m8,m9,m10⟩:=HX0.out.below hb
   clear hb
   go_wp2_with (go_at_call 25;(first|with_reducible refine (H2.out _).mono ?_|with_reducible refine (H5.out _).mono ?_|with_reducible refine (H7.out _).mono ?_|with_reducible refine (H8.out _).mono ?_);rintro e w9 ⟨rfl,hw9⟩;(have hw8:=hw9.symm);clear hw9;subst hw8)
   go_ret
   exact ⟨ret_bool HF.out.symm,HB1.out⟩
  have H8:Hid (∀ W:World,Calls Tryz.prog 25 #[.int .i64 m.looks,.int .i64 0,.int .i64 1000000000] W fun e w'=>e=.returned (.bool true)/\w'=W):=fun W=>sInT W (by omega)
  by_cases h9:0<=m.hits/\m.hits<=1000000000
  rotate_left
  ·have H9:Hid (∀ W:World,Calls Tryz.prog 25 #[.int .i64 m.hits,.int .i64 0,.int .i64 1000000000] W fun e w'=>e=.returned (.bool false)/\w'=W):=fun W=>sInF W (by omega)
   have HF:Hid (mokB m=false):=mok_no fun k=>h9 k.hits
   clear h9
   go_enter Tryz.func51,Tryz.ntmps51
   go_wp2_with fail
   refine (HOK.out _).mono ?_
   rintro e w1 ⟨rfl,hb⟩
   have HB1:Hid (Below w.heap.size w w1):=HB0.out.trans (hb.mono HB0.out.size)
   obtain ⟨m0,m1,m2,m3,m4,m5,m6,m7,m8,m9,m10⟩:=HX0.out.below hb
   clear hb
   go_wp2_with (go_at_call 25;(first|with_reducible refine (H2.out _).mono ?_|with_reducible refine (H5.out _).mono ?_|with_reducible refine (H7.out _).mono ?_|with_reducible refine (H8.out _).mono ?_|with_reducible refine (H9.out _).mono ?_);rintro e w9 ⟨rfl,hw9⟩;(have hw8:=hw9.symm);clear hw9;subst hw8)
   go_ret
   exact ⟨ret_bool HF.out.symm,HB1.out⟩
  have H9:Hid (∀ W:World,Calls Tryz.prog 25 #[.int .i64 m.hits,.int .i64 0,.int .i64 1000000000] W fun e w'=>e=.returned (.bool true)/\w'=W):=fun W=>sInT W (by omega)
  go_enter Tryz.func51,Tryz.ntmps51
  go_wp2_with fail
  refine (HOK.out _).mono ?_
  rintro e w1 ⟨rfl,hb⟩
  have HB1:Hid (Below w.heap.size w w1):=HB0.out.trans (hb.mono HB0.out.size)
  obtain ⟨m0,m1,m2,m3,m4,m5,m6,m7,m8,m9,m10⟩:=HX0.out.below hb
  clear hb
  have HM1:Hid (Mb w1 w.heap.size m ra va ma rc vc mc):=⟨m0,m1,m2,m3,m4,m5,m6,m7,m8,m9,m10⟩
  go_wp2_with (go_at_call 25;(first|with_reducible refine (H2.out _).mono ?_|with_reducible refine (H5.out _).mono ?_|with_reducible refine (H7.out _).mono ?_|with_reducible refine (H8.out _).mono ?_|with_reducible refine (H9.out _).mono ?_);rintro e w9 ⟨rfl,hw9⟩;(have hw8:=hw9.symm);clear hw9;subst hw8)
  go_loopw [3] (fun i wr=>∃ j:Nat,j<=m.vals.length/\i=.int .i64 j/\wr=w1/\∀ t (ht:t < m.vals.length),t < j->0<=m.vals[t]/\m.vals[t]<=1) (fun i _=>m.vals.length - (intOf i).toNat)
  case atStart=>exact ⟨0,Nat.zero_le _,rfl,rfl,fun t _ h=>by omega⟩
  case round =>
   obtain ⟨j,hj,rfl,hwr,hbt⟩:=hrel
   have hwr':=hwr.symm
   clear hwr
   subst hwr'
   have HBT:Hid (∀ t (ht:t < m.vals.length),t < j->0<=m.vals[t]/\m.vals[t]<=1):=hbt
   clear hbt
   by_cases hlt:j < m.vals.length
   ·exfalso
    have h0:=congrArg List.length hve
    simp only [List.length_nil] at h0
    omega
   ·have hjz:¬ (j:Int) < (m.vals.length:Int):=by omega
    have HBI:Hid (∀ x∈m.vals,0<=x/\x<=1):=fun x hx=>by
     obtain ⟨t,ht,rfl⟩:=List.getElem_of_mem hx
     exact HBT.out t ht (by omega)
    clear HBT
    go_wp2_with fail
    clear hve
    go_loopw [4] (fun i wr=>∃ j:Nat,j<=m.memo.length/\i=.int .i64 j/\(∃ q,wr=w1.drewN q)/\rOk m j/\kOk m j) (fun i _=>m.memo.length - (intOf i).toNat)
    case atStart=>exact ⟨0,Nat.zero_le _,rfl,⟨0,rfl⟩,fun t _ h=>by omega,fun t s _ _ h=>by omega⟩
    case round =>
     obtain ⟨j2,hj2,rfl,⟨q,rfl⟩,hr2,hk2⟩:=hrel
     have HRO:Hid (rOk m j2):=hr2
     have HKO:Hid (kOk m j2):=hk2
     clear hr2 hk2
     by_cases hlt2:j2 < m.memo.length
     ·have hjz2:(j2:Int) < (m.memo.length:Int):=by omega
      have hI:=HR.out.memo.below HB1.out
      rcases hI.2 with h0|⟨vx,vo,hma,hc⟩
      ·omega
      rw [hma] at m10
      have HC:Hid (∀ i (h:i < m.memo.length),Qc0.SnAt w1 vx (vo+i*2) m.memo[i]):=hc
      obtain ⟨p0,p1⟩:=hc j2 hlt2
      clear hc hI
      have HNB:Hid (¬ (0<=m.memo[j2].r/\m.memo[j2].r<=1)->mokB m=false):=fun h=>mok_no fun k=>h (k.seen _ (List.getElem_mem hlt2))
      have HJR:Hid (0<=m.memo[j2].r/\m.memo[j2].r<=1->rOk m (j2+1)):=fun h=>HRO.out.next h
      have HJK:Hid ((∀ s (hs:s < m.memo.length),s < j2->m.memo[s].k≠m.memo[j2].k)->kOk m (j2+1)):=fun h=>HKO.out.next hlt2 h
      have HNK:Hid (∀ s (hs:s < m.memo.length),s < j2->m.memo[s].k=m.memo[j2].k->mokB m=false):=fun s hs h1 h2=>mok_no fun k=>k.keys j2 s hlt2 hs h1 h2
      generalize m.memo[j2]=x at *
      by_cases hx:0<=x.r/\x.r<=1
      rotate_left
      ·have HIx:Hid (∀ W:World,Calls Tryz.prog 25 #[.int .i64 x.r,.int .i64 0,.int .i64 1] W fun e w'=>e=.returned (.bool false)/\w'=W):=fun W=>sInF W hx
       have HF:Hid (mokB m=false):=HNB.out hx
       clear hx
       go_wp2_with (go_at_call 25;refine (HIx.out _).mono ?_;rintro e w9 ⟨rfl,hw9⟩;(have hw8:=hw9.symm);clear hw9;subst hw8)
       go_ret
       exact ⟨ret_bool HF.out.symm,HB1.out.trans (by first|exact dnb _ _ _|exact (dnb _ _ _).trans (dnb _ _ _))⟩
      have HIx:Hid (∀ W:World,Calls Tryz.prog 25 #[.int .i64 x.r,.int .i64 0,.int .i64 1] W fun e w'=>e=.returned (.bool true)/\w'=W):=fun W=>sInT W hx
      have HJ3:Hid (rOk m (j2+1)):=HJR.out hx
      clear hx
      go_wp2_with (go_at_call 25;refine (HIx.out _).mono ?_;rintro e w9 ⟨rfl,hw9⟩;(have hw8:=hw9.symm);clear hw9;subst hw8)
      go_loopw [5] (fun i wr=>∃ k:Nat,k<=j2/\i=.int .i64 k/\(∃ q,wr=w1.drewN q)/\∀ s (hs:s < m.memo.length),s < k->m.memo[s].k≠x.k) (fun i _=>j2 - (intOf i).toNat)
      case atStart=>exact ⟨0,Nat.zero_le _,rfl,⟨_,rfl⟩,fun s _ h=>by omega⟩
      case round =>
       obtain ⟨k,hk,rfl,⟨q2,rfl⟩,hkk⟩:=hrel
       have HKK:Hid (∀ s (hs:s < m.memo.length),s < k->m.memo[s].k≠x.k):=hkk
       clear hkk
       by_cases hlt3:k < j2
       ·have hkz:(k:Int) < (j2:Int):=by omega
        have hkl:k < m.memo.length:=by omega
        have hkz2:(k:Int) < (m.memo.length:Int):=by omega
        obtain ⟨r0,r1⟩:=HC.out k hkl
        have HN1:Hid (m.memo[k].k=x.k->mokB m=false):=HNK.out k hkl hlt3
        have HN2:Hid (m.memo[k].k≠x.k->∀ s (hs:s < m.memo.length),s < k+1->m.memo[s].k≠x.k):=fun h s hs h1=>by
         by_cases e:s=k
         ·subst e;exact h
         ·exact HKK.out s hs (by omega)
        generalize m.memo[k]=y at *
        by_cases hyx:y.k=x.k
        ·have hq:(y.k.toList==x.k.toList)=true:=Ss1.eqb_true (by rw [hyx])
         have HF:Hid (mokB m=false):=HN1.out hyx
         clear hyx
         go_wp2
         go_quiet (fail)
         go_wp2
         go_ret
         exact ⟨ret_bool HF.out.symm,HB1.out.trans (by first|exact dnb _ _ _|exact (dnb _ _ _).trans (dnb _ _ _))⟩
        ·have hq:(y.k.toList==x.k.toList)=false:=Ss1.eqb_false fun e=>hyx (Ss1.tl_inj e)
         have HN3:Hid (∀ s (hs:s < m.memo.length),s < k+1->m.memo[s].k≠x.k):=HN2.out hyx
         clear hyx
         go_wp2
         go_quiet (fail)
         go_wp2
         go_roundw
         case rel=>exact ⟨k+1,by omega,by go_num,⟨_,rfl⟩,HN3.out⟩
         case measure=>simp [intOf];omega
       ·have hkz:¬ (k:Int) < (j2:Int):=by omega
        have HJ4:Hid (kOk m (j2+1)):=HJK.out fun s hs h=>HKK.out s hs (by omega)
        go_wp2
        go_roundw
        case rel=>exact ⟨j2+1,by omega,by go_num,⟨_,rfl⟩,HJ3.out,HJ4.out⟩
        case measure=>simp [intOf];omega
     ·have hjz2:¬ (j2:Int) < (m.memo.length:Int):=by omega
      have HT:Hid (mokB m=true):=mok_yes ⟨h1.1,h1.2,h2,h3,h4,h5,H6.out,h7,h8,h9,HBI.out,fun x hx=>by
       obtain ⟨t,ht,rfl⟩:=List.getElem_of_mem hx
       exact HRO.out t ht (by omega),fun t s ht hs hst=>HKO.out t s ht hs (by omega) hst⟩
      go_wp2
      go_ret
      exact ⟨ret_bool HT.out.symm,HB1.out.trans (by first|exact dnb _ _ _|exact (dnb _ _ _).trans (dnb _ _ _))⟩
end Mm2
end Go.Proofs.YtladjpombohpaaaGreatDoor
