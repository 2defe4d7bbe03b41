import Derived.Test.YtfhdbcfhhbdiiaaTc6
namespace Go.Proofs.Ytfhdbcfhhbdiiaa
set_option maxRecDepth 100000
set_option maxHeartbeats 8000000
set_option linter.unusedVariables false
namespace Tc7
open Go.RowKit
open Ta0 Ta1 Tc2 Tc4 Tc5
open Nd0 (Kept set_other set_same lt_of_cell)
open Tc1 (ones)
theorem count (n g:Nat) (G:Nat->Bool) (w:World) (hn:n<=12) (hW:Wds w g (nw n) G) :
 Calls Try.prog 80 #[pv n (nw n) g] w fun e w'=>e=.returned (.int .i64 ((cnt G (64*nw n):Nat):Int))/\Below w.heap.size w w':=by
 have hnw:=nw_le hn
 have hgl:=hW.lt (by omega)
 have HW:Hid (∀ i,i < nw n->w.cell? ⟨g,i,none⟩=some (.int .u64 (wd G i:Int))):=fun i hi=>(hW i hi).1
 have HB:Hid (Below w.heap.size w (w.alloc (.cells #[.int .i64 (n:Int),.slice (some ⟨g,0,none⟩) (nw n) (nw n)] 87))):=(Below.refl _ _).alloc (Nat.le_refl _) _
 clear hW
 generalize nw n=m at *
 go_enter Try.func80,Try.ntmps80
 go_wp2
 go_loop [3,9] (fun c i=>∃ k:Nat,k<=m/\i=.int .i64 k/\c=.int .i64 ((cnt G (64*k):Nat):Int)) (fun _ i=>m - (intOf i).toNat)
 case atStart=>exact ⟨0,Nat.zero_le _,rfl,rfl⟩
 case round =>
  obtain ⟨k,hk,rfl,rfl⟩:=hrel
  have hc:=cnt_le G (64*k)
  by_cases hlt:k < m
  ·have hkz:(k:Int) < (m:Int):=by omega
   have c0:=HW.out k hlt
   have hwl:=wd_lt G k
   have HC:Hid (cnt G (64*(k+1))=cnt G (64*k)+cnt (wd G k).testBit 64):=cnt_wd G k
   have hc2:=cnt_le (wd G k).testBit 64
   have HO:Hid (∀ W,Calls Try.prog 89 #[.int .u64 (wd G k:Int)] W fun e w'=>e=.returned (.int .i64 (cnt (wd G k).testBit 64:Nat))/\w'=W):=fun W=>ones _ hwl W
   generalize cnt (wd G k).testBit 64=d at *
   generalize wd G k=x at *
   generalize cnt G (64*k)=y at *
   go_wp2_with (go_at_call 89;refine (HO.out _).mono ?_;rintro e w' ⟨rfl,rfl⟩)
   go_round
   case rel=>exact ⟨k+1,by omega,by go_num,by rw [HC.out];go_num⟩
   case measure=>simp [intOf];omega
  ·have HE:Hid (k=m):=by show _=_;omega
   go_wp2
   go_ret
   exact ⟨ret_int (by rw [HE.out]),HB.out⟩
theorem ret_uint {a b:Int} (h:a=b):Ending.returned (.int .u64 a)=.returned (.int .u64 b):=by rw [h]
theorem use_wrap (P:Nat):IntKind.u64.wrap (IntKind.u64.wrap ((2:Int) ^ (min P 64)) - 1)=((use P:Nat):Int):=by
 unfold use
 by_cases h:P < 64
 ·have h1:2 ^ P < 18446744073709551616:=Nat.lt_of_lt_of_le (Nat.pow_lt_pow_right (by omega) h) (by decide)
  have h2:=Nat.one_le_two_pow (n:=P)
  rw [if_pos h,Nat.min_eq_left (by omega),pcast,wrapu h1,show ((2 ^ P:Nat):Int) - 1=((2 ^ P - 1:Nat):Int) by omega,wrapu (by omega)]
 ·rw [if_neg h,Nat.min_eq_right (by omega)]
  decide
theorem inUse (n m g:Nat) (w:World) (hn:n<=12) (hm:m=nw n) :
 Calls Try.prog 88 #[pv n m g] w fun e w'=>e=.returned (.int .u64 ((use (2 ^ n):Nat):Int))/\Below w.heap.size w w':=by
 subst hm
 obtain ⟨hp,hl⟩:=p12 hn
 have HSI:Hid (∀ W,Calls Try.prog 81 #[pv n (nw n) g] W fun e w'=>e=.returned (.int .i64 ((2 ^ n:Nat):Int))/\Below W.heap.size W w'):=fun W=>size n g W hn
 have HAL:Hid (Below w.heap.size w (w.alloc (.cells #[.int .i64 (n:Int),.slice (some ⟨g,0,none⟩) (nw n) (nw n)] 87))):=(Below.refl _ _).alloc (Nat.le_refl _) _
 generalize nw n=m at *
 generalize 2 ^ n=P at *
 go_enter Try.func88,Try.ntmps88
 go_wp2_with (go_at_call 81;refine (HSI.out _).mono ?_;rintro e w1 ⟨rfl,hb⟩;have HB:Hid (Below w.heap.size w w1):=HAL.out.trans (hb.mono HAL.out.size);clear hb)
 go_ret
 exact ⟨ret_uint (use_wrap P),HB.out⟩
/-- What stands while a bit is looked for. -/
structure SN (w:World) (n m g:Nat) (G:Nat->Bool) (W:World):Prop where
 lay:Lay W w.heap.size (.int .i64 (n:Int)) (.slice (some ⟨g,0,none⟩) m m)
 wds:Wds W g m G
 bel:Below w.heap.size w W
theorem SN.below {w:World} {n m g:Nat} {G:Nat->Bool} {W W':World} (h:SN w n m g G W) (k:Below W.heap.size W W'):SN w n m g G W' :=
 ⟨h.lay.below k,h.wds.below k,h.bel.trans (k.mono h.bel.size)⟩
theorem SN.drew {w:World} {n m g:Nat} {G:Nat->Bool} {W:World} (h:SN w n m g G W):SN w n m g G W.drew :=
 ⟨h.lay.kept (S:=fun _=>False) (Kept.refl _ _).drew (fun h=>h),h.wds.kept (S:=fun _=>False) (Kept.refl _ _).drew (fun h=>h),below_drewN h.bel 1⟩
end Tc7
end Go.Proofs.Ytfhdbcfhhbdiiaa
