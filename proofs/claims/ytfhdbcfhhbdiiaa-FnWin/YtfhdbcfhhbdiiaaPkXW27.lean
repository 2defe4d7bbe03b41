import Derived.Test.YtfhdbcfhhbdiiaaTc10
namespace Go.Proofs.Ytfhdbcfhhbdiiaa
set_option maxRecDepth 100000
set_option maxHeartbeats 8000000
set_option linter.unusedVariables false
namespace Td2
open Go.RowKit
open Ta0 Ta1 Tc2 Tc5 Ap9 Td1
open Nd0 (Kept set_other set_same lt_of_cell)
open Ss0 (bs bs_size ret_str bs_ext)
open Ss1 (tl tl_length tl_get tl_take bs_tl tl_bs tl_inj eqb)
theorem _root_.Go.Proofs.Ytfhdbcfhhbdiiaa.Ap9.Owu.text {W:World} {B:Nat} {v:Value} {l:List UInt8} (h:Owu W B v l) (hl:1<=l.length):(convert 22 9 v).run Try.prog W=.ok (.string (bs l)) W:=by
 obtain ⟨a,c,rfl,hw⟩:=h.form
 rcases hw.2 with h0|⟨b,o,rfl,_,hc⟩
 ·omega
 ·exact run_convert_bytes_back (P:=Try.prog) W 22 9 5 ⟨b,o,none⟩ c l Try.underlying22 Try.underlying5 Try.underlying9 (fun j hj=>by rw [Addr.add_lit];exact (hc j hj).1)
/-- The first k signs. -/
def tk (n:Nat) (G:Nat->Bool) (k:Nat):List UInt8:=(tab n G).take k
theorem tk_zero (n:Nat) (G:Nat->Bool):tk n G 0=[]:=rfl
theorem tk_len {n:Nat} {G:Nat->Bool} {k:Nat} (h:k<=2 ^ n):(tk n G k).length=k:=by unfold tk;rw [List.length_take,tab_length];omega
theorem tk_succ {n:Nat} {G:Nat->Bool} {k:Nat} (h:k < 2 ^ n):tk n G (k+1)=tk n G k++[sgn (G k)]:=by
 unfold tk
 rw [List.take_succ_eq_append_getElem (by rw [tab_length];exact h),tab_get]
theorem tk_all (n:Nat) (G:Nat->Bool):tk n G (2 ^ n)=tab n G:=by unfold tk;rw [List.take_of_length_le (by rw [tab_length];omega)]
/-- What stands while a table is written. -/
structure OT (w:World) (B r:Nat) (N:Int) (S:ByteArray) (v:Value) (l:List UInt8) (W:World):Prop where
 lay:Lay W B (.int .i64 N) (.string S)
 res:Lay W r (.int .i64 0) (.string ByteArray.empty)
 own:Owu W (r+1) v l
 siz:r+1<=W.heap.size
 bel:Below w.heap.size w W
theorem OT.next {w W W':World} {B r:Nat} {N:Int} {S:ByteArray} {v v':Value} {l l':List UInt8} (h:OT w B r N S v l W) (hB:B < r+1) (hw:w.heap.size<=r) (hk:Kept (fun k=>v.ownBlock=some k) W W') (ho:Owu W' (r+1) v' l'):OT w B r N S v' l' W' :=
 ⟨h.lay.kept hk (fun e=>by have:=(h.own.lt _ e).1;omega),h.res.kept hk (fun e=>by have:=(h.own.lt _ e).1;omega),ho,by have:=hk.size;have:=h.siz;omega,h.bel.trans (hk.below (fun b hb=>by have:=(h.own.lt _ hb).1;omega) h.bel.size)⟩
theorem finT {w W:World} {r:Nat} {a b:Value} (hr:Lay W r a b) (hb:Below w.heap.size w W) (hw:w.heap.size<=r) (x y:Value) :
 ∃ W',W'=(W.setCell ⟨r,0,none⟩ x).setCell ⟨r,1,none⟩ y/\Lay W' r x y/\Below w.heap.size w W':=by
 have K:Kept (fun b=>b=r) W ((W.setCell ⟨r,0,none⟩ x).setCell ⟨r,1,none⟩ y):=kset (S:=fun b=>b=r) (kset (S:=fun b=>b=r) (Kept.refl (fun b=>b=r) W) rfl _) rfl _
 exact ⟨_,rfl,hr.put x y,hb.trans (K.below (fun b hb=>by omega) hb.size)⟩
end Td2
namespace Te1
open Go.RowKit
open Ta0 Ta1 Ta2 Tc2 Tc4 Tc5 Tc6 Tc7 Tc8 Td1 Td2
open Nd0 (Kept Ints set_other set_same lt_of_cell)
open Ss0 (bs bs_size ret_str bs_ext)
open Ss1 (tl tl_length tl_get tl_take bs_tl tl_bs tl_inj eqb)
theorem iOk1 (n:Nat) (F:Nat->Bool) (w:World) (hn:n<=12) :
 Calls Try.prog 68 #[tv (n:Int) (bs (tab n F))] w fun e w'=>e=.returned (.bool true)/\Below w.heap.size w w':=by
 have:=iTableOk (n:Int) (bs (tab n F)) w (by rw [bs_size,tab_length];have:=p12 hn;omega)
 rwa [tl_bs,tab_tok F hn] at this
theorem iOk0 {N:Int} {S:ByteArray} (w:World) (hS:S.size<=1048576) (h:tokB N (tl S)=false) :
 Calls Try.prog 68 #[tv N S] w fun e w'=>e=.returned (.bool false)/\Below w.heap.size w w':=by
 have:=iTableOk N S w hS
 rwa [h] at this
/-- A table packed: what comes of it, with the frame. -/
theorem count_tab (n:Nat) (F:Nat->Bool):cnt (upto (2 ^ n) F) (64*nw n)=cnt F (2 ^ n):=cnt_past F _ _ (by unfold nw;omega)
theorem tab_upto (n:Nat) (F:Nat->Bool):tab n (upto (2 ^ n) F)=tab n F:=tab_ext fun i hi=>by simp [upto,hi]
theorem iBitOk (x:Int) (w:World):Calls Try.prog 54 #[.int .i64 x] w fun e w'=>e=.returned (.bool (bitB x))/\w'=w:=by
 by_cases h0:x=0
 ·have hb:(x==0)=true:=by rw [h0];rfl
  have HB:Hid (bitB x=true):=decide_eq_true (.inl h0)
  clear h0
  go_enter Try.func54,Try.ntmps54
  go_wp2
  go_ret
  exact ⟨ret_bool HB.out.symm,rfl⟩
 ·have hb:(x==0)=false:=beq_eq_false_iff_ne.2 h0
  by_cases h1:x=1
  ·have hb1:(x==1)=true:=by rw [h1];rfl
   have HB:Hid (bitB x=true):=decide_eq_true (.inr h1)
   clear h0 h1
   go_enter Try.func54,Try.ntmps54
   go_wp2
   go_ret
   exact ⟨ret_bool HB.out.symm,rfl⟩
  ·have hb1:(x==1)=false:=beq_eq_false_iff_ne.2 h1
   have HB:Hid (bitB x=false):=decide_eq_false (by omega)
   clear h0 h1
   go_enter Try.func54,Try.ntmps54
   go_wp2
   go_ret
   exact ⟨ret_bool HB.out.symm,rfl⟩
theorem iKnown0 {N:Int} {S:ByteArray} (w:World) (hS:S.size<=1048576) (h:tokB N (tl S)=false) :
 Calls Try.prog 59 #[tv N S] w fun e w'=>e=.returned (.int .i64 (-1))/\Below w.heap.size w w':=by
 have HO:Hid (∀ W,Calls Try.prog 68 #[tv N S] W fun e w'=>e=.returned (.bool false)/\Below W.heap.size W w'):=fun W=>iOk0 W hS h
 have HA:Hid (Below w.heap.size w (w.alloc (.cells #[.int .i64 N,.string S] 26))):=(Below.refl _ _).alloc (Nat.le_refl _) _
 clear h
 go_enter Try.func59,Try.ntmps59
 go_wp2_with fail
 refine (HO.out _).mono ?_
 rintro e w1 ⟨rfl,hb⟩
 have HB:Hid (Below w.heap.size w w1):=HA.out.trans (hb.mono HA.out.size)
 clear hb
 go_wp2
 go_ret
 exact ⟨rfl,HB.out⟩
theorem iKnown (n:Nat) (F:Nat->Bool) (w:World) (hn:n<=12) :
 Calls Try.prog 59 #[tv (n:Int) (bs (tab n F))] w fun e w'=>e=.returned (.int .i64 (knw n F))/\Below w.heap.size w w':=by
 have HO:Hid (∀ W,Calls Try.prog 68 #[tv (n:Int) (bs (tab n F))] W fun e w'=>e=.returned (.bool true)/\Below W.heap.size W w'):=fun W=>iOk1 n F W hn
 have HPK:Hid (∀ W,Calls Try.prog 69 #[tv (n:Int) (bs (tab n F))] W fun e w'=>∃ g,e=.returned (pv n (nw n) g)/\W.heap.size<=g/\Wds w' g (nw n) (upto (2 ^ n) F)/\Below W.heap.size W w'):=fun W=>pack n F W hn
 have HCT:Hid (∀ W g,Wds W g (nw n) (upto (2 ^ n) F)->Calls Try.prog 80 #[pv n (nw n) g] W fun e w'=>e=.returned (.int .i64 ((cnt F (2 ^ n):Nat):Int))/\Below W.heap.size W w'):=fun W g h=>by
  have:=count n g _ W hn h
  rwa [count_tab] at this
 have HSI:Hid (∀ W g,Calls Try.prog 81 #[pv n (nw n) g] W fun e w'=>e=.returned (.int .i64 ((2 ^ n:Nat):Int))/\Below W.heap.size W w'):=fun W g=>size n g W hn
 have hp:=(p12 hn).1
 have HK0:Hid (cnt F (2 ^ n)=0->knw n F=0):=fun h=>by show knw n F=0;unfold knw;rw [if_pos h]
 have HK1:Hid (cnt F (2 ^ n)≠0->cnt F (2 ^ n)=2 ^ n->knw n F=1):=fun h k=>by show knw n F=1;unfold knw;rw [if_neg h,if_pos k]
 have HK2:Hid (cnt F (2 ^ n)≠0->cnt F (2 ^ n)≠2 ^ n->knw n F = -1):=fun h k=>by show knw n F = -1;unfold knw;rw [if_neg h,if_neg k]
 generalize knw n F=KN at *
 generalize cnt F (2 ^ n)=C at *
 generalize bs (tab n F)=S at *
 generalize upto (2 ^ n) F=F at *
 generalize nw n=m at *
 generalize 2 ^ n=P at *
 have HL0:Hid (Lay (w.alloc (.cells #[.int .i64 (n:Int),.string S] 26)) w.heap.size (.int .i64 (n:Int)) (.string S)):=Lay.made _ _ _ _
 have HA:Hid (Below w.heap.size w (w.alloc (.cells #[.int .i64 (n:Int),.string S] 26))):=(Below.refl _ _).alloc (Nat.le_refl _) _
 go_enter Try.func59,Try.ntmps59
 go_wp2_with fail
 refine (HO.out _).mono ?_
 rintro e w1 ⟨rfl,hb⟩
 have HB1:Hid (Below w.heap.size w w1):=HA.out.trans (hb.mono HA.out.size)
 obtain ⟨x0,x1,_,_⟩:=HL0.out.below hb
 clear hb
 go_wp2_with fail
 refine (HPK.out _).mono ?_
 rintro e w2 ⟨g,rfl,hg,hw,hb⟩
 have HB2:Hid (Below w.heap.size w (w2.alloc (.cells #[.int .i64 (n:Int),.slice (some ⟨g,0,none⟩) m m] 87))):=(HB1.out.trans (hb.mono HB1.out.size)).alloc (by have:=hb.size;have:=HB1.out.size;omega) _
 have HW2:Hid (Wds (w2.alloc (.cells #[.int .i64 (n:Int),.slice (some ⟨g,0,none⟩) m m] 87)) g m F):=hw.kept (S:=fun _=>False) ((Kept.refl _ _).alloc _) (fun h=>h)
 clear hb x0 x1 hw
 go_wp2_with fail
 refine (HCT.out _ g HW2.out).mono ?_
 rintro e w3 ⟨rfl,hb⟩
 have HB3:Hid (Below w.heap.size w w3):=HB2.out.trans (hb.mono HB2.out.size)
 have HL3:Hid (Lay w3 w2.heap.size (.int .i64 (n:Int)) (.slice (some ⟨g,0,none⟩) m m)):=(Lay.made w2 _ _ _).below hb
 clear hb
 by_cases h0:C=0
 ·have hc0:((C:Int)==0)=true:=by rw [h0];rfl
  have HK:Hid (KN=0):=HK0.out h0
  clear h0
  go_wp2
  go_ret
  exact ⟨ret_int HK.out.symm,HB3.out⟩
 ·have hc0:((C:Int)==0)=false:=beq_eq_false_iff_ne.2 (by omega)
  obtain ⟨q0,q1,_,_⟩:=HL3.out
  by_cases h1:C=P
  ·have hc1:((C:Int)==(P:Int))=true:=by rw [h1];simp
   have HK:Hid (KN=1):=HK1.out h0 h1
   clear h0 h1
   go_wp2_with (go_at_call 81;refine (HSI.out _ g).mono ?_;rintro e w4 ⟨rfl,hb⟩;have HB4:Hid (Below w.heap.size w w4):=HB3.out.trans (hb.mono HB3.out.size);clear hb)
   go_ret
   exact ⟨ret_int HK.out.symm,HB4.out⟩
  ·have hc1:((C:Int)==(P:Int))=false:=beq_eq_false_iff_ne.2 (by omega)
   have HK:Hid (KN = -1):=HK2.out h0 h1
   clear h0 h1
   go_wp2_with (go_at_call 81;refine (HSI.out _ g).mono ?_;rintro e w4 ⟨rfl,hb⟩;have HB4:Hid (Below w.heap.size w w4):=HB3.out.trans (hb.mono HB3.out.size);clear hb)
   go_ret
   exact ⟨ret_int HK.out.symm,HB4.out⟩
end Te1
namespace Td3
open Go.RowKit
open Ta0 Ta1 Tc2 Tc5 Ap9 Td1 Td2
open Nd0 (Kept set_other set_same lt_of_cell)
open Ss0 (bs bs_size ret_str bs_ext)
open Ss1 (tl tl_length tl_get tl_take bs_tl tl_bs tl_inj eqb)
/-- What stands while a table is written out of two. -/
structure OB (w:World) (N:Int) (S T:ByteArray) (v:Value) (l:List UInt8) (W:World):Prop where
 lay:Lay W w.heap.size (.int .i64 N) (.string S)
 lay2:Lay W (w.heap.size+1) (.int .i64 N) (.string T)
 res:Lay W (w.heap.size+1+1) (.int .i64 0) (.string ByteArray.empty)
 own:Owu W (w.heap.size+1+1+1) v l
 siz:w.heap.size+1+1+1<=W.heap.size
 bel:Below w.heap.size w W
theorem OB.next {w W W':World} {N:Int} {S T:ByteArray} {v v':Value} {l l':List UInt8} (h:OB w N S T v l W) (hk:Kept (fun k=>v.ownBlock=some k) W W') (ho:Owu W' (w.heap.size+1+1+1) v' l'):OB w N S T v' l' W' :=
 ⟨h.lay.kept hk (fun e=>by have:=(h.own.lt _ e).1;omega),h.lay2.kept hk (fun e=>by have:=(h.own.lt _ e).1;omega),h.res.kept hk (fun e=>by have:=(h.own.lt _ e).1;omega),ho,by have:=hk.size;have:=h.siz;omega,h.bel.trans (hk.below (fun b hb=>by have:=(h.own.lt _ hb).1;omega) h.bel.size)⟩
theorem OB.drewN {w W:World} {N:Int} {S T:ByteArray} {v:Value} {l:List UInt8} (h:OB w N S T v l W) (n:Nat):OB w N S T v l (W.drewN n) :=
 ⟨h.lay.kept (S:=fun _=>False) ((Kept.refl _ _).drewN n) (fun h=>h),h.lay2.kept (S:=fun _=>False) ((Kept.refl _ _).drewN n) (fun h=>h),h.res.kept (S:=fun _=>False) ((Kept.refl _ _).drewN n) (fun h=>h),h.own.kept (S:=fun _=>False) ((Kept.refl _ _).drewN n) (fun _ _ h=>h),h.siz,below_drewN h.bel n⟩
end Td3
end Go.Proofs.Ytfhdbcfhhbdiiaa
