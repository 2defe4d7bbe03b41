import Derived.Test.YtjajkmdoggbicaaGreatDoorRows
import Derived.WalkKit
import Derived.Deep.QuietTactic
import Derived.BigQuiet
import Derived.Test.YtjajkmdoggbicaaGreatDoorPkST2
import Derived.Test.YtjajkmdoggbicaaGreatDoorPkST4
import Derived.Test.YtjajkmdoggbicaaGreatDoorPkST1
namespace Go.Proofs.YtjajkmdoggbicaaGreatDoor
set_option maxRecDepth 100000
set_option maxHeartbeats 8000000
set_option linter.unusedVariables false
namespace Tc2
open Go.RowKit
open Ta0 Ta1
open Ss0 (bs bs_size ret_str)
open Ss1 (tl tl_length tl_get tl_take bs_tl tl_bs)
theorem ret_int {k:IntKind} {a b:Int} (h:a=b):Ending.returned (.int k a)=.returned (.int k b):=by rw [h]
theorem ret_bool {a b:Bool} (h:a=b):Ending.returned (.bool a)=.returned (.bool b):=by rw [h]
theorem wsh {n:Nat} (h:n<=12):IntKind.i64.wrap ((2:Int) ^ n)=((2 ^ n:Nat):Int):=by
 have:=p12 h
 rw [pcast,IntKind.wrap_i64]<;>omega
theorem below_drewN {B:Nat} {u w:World} (h:Below B u w) (n:Nat):Below B u (w.drewN n):=⟨h.os,h.tape,h.output,h.size,h.block⟩
theorem sPow (n:Nat) (w:World) (h1:n<=12) :
 Calls Tryz.prog 89 #[.int .i64 (n:Int)] w fun e w'=>e=.returned (.int .i64 ((2 ^ n:Nat):Int))/\w'=w:=by
 go_enter Tryz.func89,Tryz.ntmps89
 go_wp2
 go_loop [3,4] (fun x i=>∃ k:Nat,k<=n/\i=.int .i64 k/\x=.int .i64 ((2 ^ k:Nat):Int)) (fun _ i=>n - (intOf i).toNat)
 case atStart=>exact ⟨0,Nat.zero_le _,rfl,rfl⟩
 case round =>
  obtain ⟨k,hk,rfl,rfl⟩:=hrel
  obtain ⟨hp,hl⟩:=p12 (n:=k) (by omega)
  have HS:Hid (2 ^ (k+1)=2*2 ^ k):=by show _=_;rw [Nat.pow_succ];omega
  generalize hP:2 ^ k=P at hp hl HS ⊢
  by_cases hlt:k < n
  ·clear hP
   go_wp2
   go_round
   case rel=>exact ⟨k+1,by omega,by go_num,by rw [HS.out];go_num⟩
   case measure=>simp [intOf];omega
  ·have HP:Hid (2 ^ k=P):=hP
   clear hP
   go_wp2
   go_ret
   have:k=n:=by omega
   subst this
   exact ⟨ret_int (by rw [pcast,HP.out]),rfl⟩
theorem sIn (x a b:Int) (w:World) :
 Calls Tryz.prog 29 #[.int .i64 x,.int .i64 a,.int .i64 b] w fun e w'=>e=.returned (.bool (decide (a<=x/\x<=b)))/\w'=w:=by
 by_cases h1:a<=x<;>by_cases h2:x<=b
 all_goals
  go_enter Tryz.func29,Tryz.ntmps29
  go_wp2
  go_ret
  exact ⟨ret_bool (by simp<;>omega),rfl⟩
theorem sInT {x a b:Int} (w:World) (h:a<=x/\x<=b) :
 Calls Tryz.prog 29 #[.int .i64 x,.int .i64 a,.int .i64 b] w fun e w'=>e=.returned (.bool true)/\w'=w:=by
 have:=sIn x a b w
 rwa [decide_eq_true h] at this
theorem sInF {x a b:Int} (w:World) (h:¬ (a<=x/\x<=b)) :
 Calls Tryz.prog 29 #[.int .i64 x,.int .i64 a,.int .i64 b] w fun e w'=>e=.returned (.bool false)/\w'=w:=by
 have:=sIn x a b w
 rwa [decide_eq_false h] at this
/-- The value of a table. -/
abbrev tv (N:Int) (S:ByteArray):Value:=.agg #[.int .i64 N,.string S]
theorem sTableOk (N:Int) (S:ByteArray) (w:World) (hS:S.size<=1048576) :
 Calls Tryz.prog 77 #[tv N S] w fun e w'=>e=.returned (.bool (tokB N (tl S)))/\Below w.heap.size w w':=by
 have HB:Hid (∀ k,Below w.heap.size w ((w.alloc (.cells #[.int .i64 N,.string S] 26)).drewN k)):=fun k=>below_drewN ((Below.refl _ _).alloc (Nat.le_refl _) _) k
 by_cases hN:0<=N/\N<=12
 ·obtain ⟨n,rfl⟩:=Int.eq_ofNat_of_zero_le hN.1
  have HI:Hid (∀ W,Calls Tryz.prog 29 #[.int .i64 (n:Int),.int .i64 0,.int .i64 12] W fun e w'=>e=.returned (.bool true)/\w'=W):=fun W=>sInT W hN
  have hn:n<=12:=by omega
  obtain ⟨hp,hl⟩:=p12 hn
  have HC:Hid (∀ W,Calls Tryz.prog 89 #[.int .i64 (n:Int)] W fun e w'=>e=.returned (.int .i64 ((2 ^ n:Nat):Int))/\w'=W):=fun W=>sPow n W hn
  have HL:Hid (S.size≠2 ^ n->tokB (n:Int) (tl S)=false):=fun h=>tok_len (by rw [tl_length,Int.toNat_natCast];exact h)
  have HT:Hid (S.size=2 ^ n->(∀ c∈tl S,c=48\/c=49)->tokB (n:Int) (tl S)=true):=fun h k=>decide_eq_true ⟨hN.1,hN.2,by rw [tl_length,Int.toNat_natCast];exact h,k⟩
  clear hN
  generalize 2 ^ n=P at hp hl HC HL HT
  by_cases hs:S.size=P
  ·have hsz:((S.size:Int) != (P:Int))=false:=by rw [hs];simp
   have HS:Hid (S.size=P):=hs
   have hS2:S.size<=4096:=by omega
   clear hs
   go_enter Tryz.func77,Tryz.ntmps77
   go_wp2_with fail
   go_quiet ((first|(go_at_call 29;exact Calls.quiet_of_same (HI.out _))|(go_at_call 89;exact Calls.quiet_of_same (HC.out _))))
   go_wp2
   go_loop [3] (fun i=>∃ k:Nat,k<=S.size/\i=.int .i64 k/\∀ c∈(tl S).take k,c=48\/c=49) (fun i=>S.size - (intOf i).toNat)
   case atStart=>exact ⟨0,Nat.zero_le _,rfl,fun c hc=>by simp at hc⟩
   case round =>
    obtain ⟨k,hk,rfl,hc⟩:=hrel
    have HK:Hid (∀ c∈(tl S).take k,c=48\/c=49):=hc
    clear hc
    by_cases hlt:k < S.size
    ·have hkz:(k:Int) < (S.size:Int):=by omega
     have HX:Hid ((tl S).take (k+1)=(tl S).take k++[S[k]]):=tl_take S k hlt
     have HM:Hid (S[k]∈tl S):=by
      show _∈_
      rw [tl_get S k hlt];exact List.getElem_mem _
     by_cases h8:S[k]=48
     ·have b8:((S[k].toNat:Int) != 48)=false:=by rw [h8];rfl
      have H8:Hid (S[k]=48\/S[k]=49):=.inl h8
      clear h8
      go_wp2
      go_round
      case rel=>exact ⟨k+1,by omega,by go_num,fun c hc=>by
       rw [HX.out] at hc
       rcases List.mem_append.1 hc with h|h
       ·exact HK.out c h
       ·rw [List.mem_singleton.1 h];exact H8.out⟩
      case measure=>simp [intOf];omega
     ·have b8:((S[k].toNat:Int) != 48)=true:=bne_iff_ne.2 fun e=>h8 (UInt8.toNat_inj.1 (by have:(48:UInt8).toNat=48:=rfl;omega))
      by_cases h9:S[k]=49
      ·have b9:((S[k].toNat:Int) != 49)=false:=by rw [h9];rfl
       have H8:Hid (S[k]=48\/S[k]=49):=.inr h9
       clear h8 h9
       go_wp2
       go_round
       case rel=>exact ⟨k+1,by omega,by go_num,fun c hc=>by
        rw [HX.out] at hc
        rcases List.mem_append.1 hc with h|h
        ·exact HK.out c h
        ·rw [List.mem_singleton.1 h];exact H8.out⟩
       case measure=>simp [intOf];omega
      ·have b9:((S[k].toNat:Int) != 49)=true:=bne_iff_ne.2 fun e=>h9 (UInt8.toNat_inj.1 (by have:(49:UInt8).toNat=49:=rfl;omega))
       have HF:Hid (tokB (n:Int) (tl S)=false):=tok_sign HM.out ⟨h8,h9⟩
       clear h8 h9
       go_wp2
       go_ret
       exact ⟨ret_bool HF.out.symm,HB.out _⟩
    ·have HF:Hid (tokB (n:Int) (tl S)=true):=HT.out HS.out (by
      have:=HK.out
      rwa [List.take_of_length_le (by rw [tl_length];omega)] at this)
     go_wp2
     go_ret
     exact ⟨ret_bool HF.out.symm,HB.out _⟩
  ·have hsz:((S.size:Int) != (P:Int))=true:=bne_iff_ne.2 (by omega)
   have HF:Hid (tokB (n:Int) (tl S)=false):=HL.out hs
   clear hs
   go_enter Tryz.func77,Tryz.ntmps77
   go_wp2_with fail
   go_quiet ((first|(go_at_call 29;exact Calls.quiet_of_same (HI.out _))|(go_at_call 89;exact Calls.quiet_of_same (HC.out _))))
   go_wp2
   go_ret
   exact ⟨ret_bool HF.out.symm,HB.out _⟩
 ·have HI:Hid (∀ W,Calls Tryz.prog 29 #[.int .i64 N,.int .i64 0,.int .i64 12] W fun e w'=>e=.returned (.bool false)/\w'=W):=fun W=>sInF W hN
  have HF:Hid (tokB N (tl S)=false):=tok_no hN
  clear hN
  go_enter Tryz.func77,Tryz.ntmps77
  go_wp2_with fail
  go_quiet ((go_at_call 29;exact Calls.quiet_of_same (HI.out _)))
  go_wp2
  go_ret
  exact ⟨ret_bool HF.out.symm,HB.out _⟩
theorem iTableOk (N:Int) (S:ByteArray) (w:World) (hS:S.size<=1048576) :
 Calls Tryz.prog 39 #[tv N S] w fun e w'=>e=.returned (.bool (tokB N (tl S)))/\Below w.heap.size w w':=by
 have HB:Hid (∀ k,Below w.heap.size w ((w.alloc (.cells #[.int .i64 N,.string S] 26)).drewN k)):=fun k=>below_drewN ((Below.refl _ _).alloc (Nat.le_refl _) _) k
 by_cases h0:N < 0
 ·have HF:Hid (tokB N (tl S)=false):=tok_no (by omega)
  go_enter Tryz.func39,Tryz.ntmps39
  go_wp2_with fail
  go_quiet (fail)
  go_wp2
  go_ret
  exact ⟨ret_bool HF.out.symm,HB.out _⟩
 by_cases h1:12 < N
 ·have HF:Hid (tokB N (tl S)=false):=tok_no (by omega)
  go_enter Tryz.func39,Tryz.ntmps39
  go_wp2_with fail
  go_quiet (fail)
  go_wp2
  go_ret
  exact ⟨ret_bool HF.out.symm,HB.out _⟩
 obtain ⟨n,rfl⟩:=Int.eq_ofNat_of_zero_le (by omega:0<=N)
 have hn:n<=12:=by omega
 obtain ⟨hp,hl⟩:=p12 hn
 have HL:Hid (S.size≠2 ^ n->tokB (n:Int) (tl S)=false):=fun h=>tok_len (by rw [tl_length,Int.toNat_natCast];exact h)
 have HT:Hid (S.size=2 ^ n->(∀ c∈tl S,c=48\/c=49)->tokB (n:Int) (tl S)=true):=fun h k=>decide_eq_true ⟨by omega,by omega,by rw [tl_length,Int.toNat_natCast];exact h,k⟩
 have hw:=wsh hn
 have hd0:decide ((n:Int) < 0)=false:=decide_eq_false (by omega)
 have hd1:decide (12 < (n:Int))=false:=decide_eq_false (by omega)
 generalize 2 ^ n=P at hp hl HL HT hw
 by_cases hs:S.size=P
 ·have hsz:((S.size:Int) != (P:Int))=false:=by rw [hs];simp
  have HS:Hid (S.size=P):=hs
  have hS2:S.size<=4096:=by omega
  clear hs
  go_enter Tryz.func39,Tryz.ntmps39
  go_wp2_with fail
  go_quiet (fail)
  go_wp2
  go_loop [24] (fun i=>∃ k:Nat,k<=S.size/\i=.int .i64 k/\∀ c∈(tl S).take k,c=48\/c=49) (fun i=>S.size - (intOf i).toNat)
  case atStart=>exact ⟨0,Nat.zero_le _,rfl,fun c hc=>by simp at hc⟩
  case round =>
   obtain ⟨k,hk,rfl,hc⟩:=hrel
   have HK:Hid (∀ c∈(tl S).take k,c=48\/c=49):=hc
   clear hc
   by_cases hlt:k < S.size
   ·have hkz:(k:Int) < (S.size:Int):=by omega
    have HX:Hid ((tl S).take (k+1)=(tl S).take k++[S[k]]):=tl_take S k hlt
    have HM:Hid (S[k]∈tl S):=by
     show _∈_
     rw [tl_get S k hlt];exact List.getElem_mem _
    by_cases h8:S[k]=48
    ·have b8:((S[k].toNat:Int) != 48)=false:=by rw [h8];rfl
     have H8:Hid (S[k]=48\/S[k]=49):=.inl h8
     clear h8
     go_wp2
     go_round
     case rel=>exact ⟨k+1,by omega,by go_num,fun c hc=>by
      rw [HX.out] at hc
      rcases List.mem_append.1 hc with h|h
      ·exact HK.out c h
      ·rw [List.mem_singleton.1 h];exact H8.out⟩
     case measure=>simp [intOf];omega
    ·have b8:((S[k].toNat:Int) != 48)=true:=bne_iff_ne.2 fun e=>h8 (UInt8.toNat_inj.1 (by have:(48:UInt8).toNat=48:=rfl;omega))
     by_cases h9:S[k]=49
     ·have b9:((S[k].toNat:Int) != 49)=false:=by rw [h9];rfl
      have H8:Hid (S[k]=48\/S[k]=49):=.inr h9
      clear h8 h9
      go_wp2
      go_round
      case rel=>exact ⟨k+1,by omega,by go_num,fun c hc=>by
       rw [HX.out] at hc
       rcases List.mem_append.1 hc with h|h
       ·exact HK.out c h
       ·rw [List.mem_singleton.1 h];exact H8.out⟩
      case measure=>simp [intOf];omega
     ·have b9:((S[k].toNat:Int) != 49)=true:=bne_iff_ne.2 fun e=>h9 (UInt8.toNat_inj.1 (by have:(49:UInt8).toNat=49:=rfl;omega))
      have HF:Hid (tokB (n:Int) (tl S)=false):=tok_sign HM.out ⟨h8,h9⟩
      clear h8 h9
      go_wp2
      go_ret
      exact ⟨ret_bool HF.out.symm,HB.out _⟩
   ·have HF:Hid (tokB (n:Int) (tl S)=true):=HT.out HS.out (by
     have:=HK.out
     rwa [List.take_of_length_le (by rw [tl_length];omega)] at this)
    go_wp2
    go_ret
    exact ⟨ret_bool HF.out.symm,HB.out _⟩
 ·have hsz:((S.size:Int) != (P:Int))=true:=bne_iff_ne.2 (by omega)
  have HF:Hid (tokB (n:Int) (tl S)=false):=HL.out hs
  clear hs
  go_enter Tryz.func39,Tryz.ntmps39
  go_wp2_with fail
  go_quiet (fail)
  go_wp2
  go_ret
  exact ⟨ret_bool HF.out.symm,HB.out _⟩
end Tc2
namespace Tc3
open Go.RowKit
open Ta0 Ta1 Tc2
open Ss0 (bs bs_size ret_str)
open Ss1 (tl tl_length tl_get tl_take bs_tl tl_bs tl_inj eqb)
/-- A table lies in the block g. -/
structure Tbx (W:World) (g:Nat) (N:Int) (S:ByteArray):Prop where
 c0:W.cell? ⟨g,0,none⟩=some (.int .i64 N)
 c1:W.cell? ⟨g,1,none⟩=some (.string S)
theorem Tbx.below {W W':World} {g:Nat} {N:Int} {S:ByteArray} (h:Tbx W g N S) (k:Below W.heap.size W W'):Tbx W' g N S:=by
 have hg:g < W.heap.size:=World.block_lt_of_cell? _ _ h.c0
 exact ⟨by rw [k.cell (p:=⟨g,0,none⟩) hg];exact h.c0,by rw [k.cell (p:=⟨g,1,none⟩) hg];exact h.c1⟩
theorem Tbx.made (w:World) (N:Int) (S:ByteArray) (T:Nat):Tbx (w.alloc (.cells #[.int .i64 N,.string S] T)) w.heap.size N S :=
 ⟨by simp,by simp⟩
theorem Tbx.alloc {W:World} {g:Nat} {N:Int} {S:ByteArray} (h:Tbx W g N S) (o:Obj):Tbx (W.alloc o) g N S :=
 h.below ((Below.refl _ _).alloc (Nat.le_refl _) _)
end Tc3
namespace Ta2
open Go.RowKit
open Ta0 Ta1
open Ss0 (bs bs_size ret_str bs_ext)
theorem half_cut (n b:Nat) (F:Nat->Bool) (hb:b<=1):((tab (n+1) F).take (b*2 ^ n+2 ^ n)).drop (b*2 ^ n)=tab n fun p=>F (b*2 ^ n+p):=by
 have hp:2 ^ (n+1)=2*2 ^ n:=by rw [Nat.pow_succ];omega
 have hle:b*2 ^ n+2 ^ n<=2 ^ (n+1):=by rcases (by omega:b=0\/b=1) with rfl|rfl<;>omega
 refine list_tab ?_ fun i hi=>?_
 ·rw [List.length_drop,List.length_take,tab_length];omega
 ·rw [List.getElem_drop,List.getElem_take,tab_get]
theorem half_text (n b:Nat) (F:Nat->Bool) (hb:b<=1):(bs (tab (n+1) F)).extract (b*2 ^ n) (b*2 ^ n+2 ^ n)=bs (tab n fun p=>F (b*2 ^ n+p)):=by
 rw [bs_ext,half_cut n b F hb]
theorem xor_add {i s:Nat} (h:i / 2 ^ s % 2=0):i ^^^ 2 ^ s=i+2 ^ s:=by
 obtain ⟨q,r,hi,hr⟩:∃ q r,i=2 ^ (s+1)*q+r/\r < 2 ^ s:=by
  refine ⟨i / 2 ^ s / 2,i % 2 ^ s,?_,Nat.mod_lt _ (Nat.two_pow_pos _)⟩
  have h1:=Nat.div_add_mod i (2 ^ s)
  have h2:2 ^ (s+1)*(i / 2 ^ s / 2)=2 ^ s*(i / 2 ^ s):=by
   rw [Nat.pow_succ,Nat.mul_assoc];congr 1;omega
  omega
 have hp:2 ^ (s+1)=2*2 ^ s:=by rw [Nat.pow_succ];omega
 have hr1:r < 2 ^ (s+1):=by omega
 have hr2:2 ^ s+r < 2 ^ (s+1):=by omega
 refine Nat.eq_of_testBit_eq fun j=>?_
 rw [Nat.testBit_xor,Nat.testBit_two_pow,hi,Nat.add_assoc,Nat.add_comm r,Nat.testBit_two_pow_mul_add q hr1,Nat.testBit_two_pow_mul_add q hr2]
 by_cases hj:j < s+1
 ·rw [if_pos hj,if_pos hj]
  by_cases e:s=j
  ·subst e
   rw [Nat.testBit_two_pow_add_eq];simp
  ·rw [Nat.testBit_two_pow_add_gt (by omega)];simp [e]
 ·rw [if_neg hj,if_neg hj]
  have:¬ s=j:=by omega
  simp [this]
theorem xor_sub {i s:Nat} (h:i / 2 ^ s % 2=1):2 ^ s<=i/\(i - 2 ^ s) / 2 ^ s % 2=0/\i ^^^ 2 ^ s=i - 2 ^ s:=by
 have hp:=Nat.two_pow_pos s
 have h1:2 ^ s<=i:=by
  rcases Nat.lt_or_ge i (2 ^ s) with h2|h2
  ·rw [Nat.div_eq_of_lt h2] at h;omega
  ·exact h2
 have h2:(i - 2 ^ s) / 2 ^ s=i / 2 ^ s - 1:=by
  have:i=(i - 2 ^ s)+2 ^ s:=by omega
  have h3:=Nat.add_div_right (i - 2 ^ s) hp
  rw [<- this] at h3
  rw [h3];simp
 have h3:(i - 2 ^ s) / 2 ^ s % 2=0:=by rw [h2];omega
 refine ⟨h1,h3,?_⟩
 have h4:=xor_add h3
 rw [show i - 2 ^ s+2 ^ s=i by omega] at h4
 rw [<- h4,Nat.xor_assoc,Nat.xor_self,Nat.xor_zero,h4]
/-- Does the table need its bit b? -/
def ndB (n:Nat) (F:Nat->Bool) (b:Nat):Bool:=(List.range (2 ^ n)).any fun p=>F p != F (p ^^^ 2 ^ (n - 1 - b))
theorem nd_yes {n b i:Nat} {F:Nat->Bool} (hi:i < 2 ^ n) (h0:i / 2 ^ (n - 1 - b) % 2=0) (h:F i≠F (i+2 ^ (n - 1 - b))):ndB n F b=true:=by
 unfold ndB
 rw [List.any_eq_true]
 refine ⟨i,List.mem_range.2 hi,?_⟩
 rw [xor_add h0]
 simpa using h
theorem nd_no {n b:Nat} {F:Nat->Bool} (hb:b < n) (h:∀ i,i < 2 ^ n->i / 2 ^ (n - 1 - b) % 2=0->F i=F (i+2 ^ (n - 1 - b))):ndB n F b=false:=by
 unfold ndB
 rw [List.any_eq_false]
 intro p hp
 have hp:=List.mem_range.1 hp
 rcases Nat.mod_two_eq_zero_or_one (p / 2 ^ (n - 1 - b)) with h0|h1
 ·rw [xor_add h0,<- h p hp h0];simp
 ·obtain ⟨h2,h3,h4⟩:=xor_sub h1
  rw [h4,h (p - 2 ^ (n - 1 - b)) (Nat.lt_of_le_of_lt (Nat.sub_le _ _) hp) h3,show p - 2 ^ (n - 1 - b)+2 ^ (n - 1 - b)=p by omega];simp
theorem nd_in {n b i:Nat} (hb:b < n) (hi:i < 2 ^ n) (h0:i / 2 ^ (n - 1 - b) % 2=0):i+2 ^ (n - 1 - b) < 2 ^ n:=by
 rw [<- xor_add h0]
 exact Nat.xor_lt_two_pow hi (Nat.pow_lt_pow_right (by omega) (by omega))
/-- The bits that it needs, of the first k. -/
def ndTo (n:Nat) (F:Nat->Bool) (k:Nat):List Int:=((List.range k).filter (ndB n F)).map fun (b:Nat)=>(b:Int)
theorem ndTo_yes {n k:Nat} {F:Nat->Bool} (h:ndB n F k=true):ndTo n F (k+1)=ndTo n F k++[(k:Int)]:=by
 unfold ndTo;rw [List.range_succ,List.filter_append];simp [h]
theorem ndTo_no {n k:Nat} {F:Nat->Bool} (h:ndB n F k=false):ndTo n F (k+1)=ndTo n F k:=by
 unfold ndTo;rw [List.range_succ,List.filter_append];simp [h]
theorem ndTo_le (n k:Nat) (F:Nat->Bool):(ndTo n F k).length<=k:=by
 unfold ndTo;rw [List.length_map];exact Nat.le_trans (List.length_filter_le _ _) (by simp)
/-- Values of bits. -/
def bitB (x:Int):Bool:=decide (x=0\/x=1)
/-- The place that the first k of them name. -/
def plc (l:List Int):Nat->Nat
 | 0=>0
 | k+1=>2*plc l k+(l.getD k 0).toNat
theorem plc_lt {l:List Int} {k:Nat} (h:∀ i,i < k->bitB (l.getD i 0)=true):plc l k < 2 ^ k:=by
 induction k with
 | zero=>exact Nat.one_pos
 | succ k ih =>
   have h1:=ih fun i hi=>h i (by omega)
   have h2:=of_decide_eq_true (h k (by omega))
   show 2*plc l k+_ < _
   rw [Nat.pow_succ]
   rcases h2 with h2|h2<;>rw [h2]<;>simp<;>omega
/-- What TableAt tells. -/
def atB (n:Nat) (F:Nat->Bool) (l:List Int):Int:=if l.length=n/\∀ i,i < l.length->bitB (l.getD i 0)=true then ((F (plc l l.length)).toNat:Int) else -1
theorem at_len {n:Nat} {F:Nat->Bool} {l:List Int} (h:l.length≠n):atB n F l = -1:=by unfold atB;rw [if_neg fun k=>h k.1]
theorem at_bad {n:Nat} {F:Nat->Bool} {l:List Int} {i:Nat} (hi:i < l.length) (h:bitB (l.getD i 0)=false):atB n F l = -1:=by
 unfold atB;rw [if_neg fun k=>by have:=k.2 i hi;rw [h] at this;cases this]
theorem at_good {n:Nat} {F:Nat->Bool} {l:List Int} (h:l.length=n) (h2:∀ i,i < l.length->bitB (l.getD i 0)=true):atB n F l=((F (plc l l.length)).toNat:Int):=by
 unfold atB;rw [if_pos ⟨h,h2⟩]
end Ta2
namespace Dqa
open Go.RowKit
open Nd0 Nd1 Nd2 Nd3 Ap1 Nd6
open Ta2 (bitB)
theorem infoBool0:(Tryz.prog.info? 4).map (fun i=>(i.zero,i.size,i.bytes))=some (some (.bool false),1,1):=by kernel_rfl
def noughtsB (n:Nat):Array Value:=madeCells #[.bool false] (n*1)
theorem noughtsB_get (n j:Nat) (h:j < n):(noughtsB n)[j]? = some (.bool false):=by
 simp only [noughtsB,madeCells,Array.getElem?_map,Array.getElem?_range]
 rw [if_pos (by omega)]
 simp only [Option.map_some]
 have e:j % 1=0:=Nat.mod_one j
 exact congrArg (fun m=>some ((#[.bool false]:Array Value)[m]!)) e
theorem makeBools0 (n:Nat) (hn:n<=1048576) (w:World) :
 (Instr.makeSlice 24 (.int .i64 (n:Int)) (.int .i64 (n:Int))).run Tryz.prog w=.ok (.slice (some ⟨w.heap.size,0,none⟩) n n) (w.alloc (.cells (noughtsB n) 4)):=by
 obtain ⟨i,hi,hzz⟩:=Option.map_eq_some_iff.1 infoBool0
 simp only [Prod.mk.injEq] at hzz
 obtain ⟨hz,hs,hb⟩:=hzz
 have h:=run_make (P:=Tryz.prog) w 24 4 i _ Tryz.underlying24 hi hz .i64 .i64 n n (by omega) (Int.le_refl _) (by rw [hb];omega) (by omega)
 rw [hs] at h
 simpa [noughtsB,Value.cells] using h
/-- The first k flags, each changed by f. -/
def mapTo (f:Bool->Bool) (l:List Bool) (k:Nat):List Bool:=(l.take k).map f
theorem mapTo_next {f:Bool->Bool} {l:List Bool} {k:Nat} (h:k < l.length):mapTo f l (k+1)=mapTo f l k++[f l[k]]:=by
 unfold mapTo
 rw [List.take_succ_eq_append_getElem h,List.map_append]
 rfl
theorem mapTo_len {f:Bool->Bool} {l:List Bool} {k:Nat} (h:k<=l.length):(mapTo f l k).length=k:=by
 unfold mapTo
 rw [List.length_map,List.length_take]
 omega
/-- Every flag turned. -/
def turnL (l:List Bool):List Bool:=l.map not
theorem turnL_length (l:List Bool):(turnL l).length=l.length:=List.length_map ..
theorem mapTo_all {f:Bool->Bool} {l:List Bool} {k:Nat} (h:¬ k < l.length):mapTo f l k=l.map f:=by
 unfold mapTo
 rw [List.take_of_length_le (by omega)]
end Dqa
namespace Mx0
open Go.RowKit
open Nd0 (Kept Ints WInts set_other set_same lt_of_cell)
open Nd6 (Bools)
open Qc0 (Sn Sns WSns)
open Tc2 (tv)
open Mm0
/-- A block of cells that may be written. -/
def Mf (W:World) (b:Nat) (L:List Value):Prop:=∀ i (h:i < L.length),W.cell? ⟨b,i,none⟩=some L[i]/\W.frozen? ⟨b,i,none⟩=false
theorem Mf.lt {W:World} {b:Nat} {L:List Value} (h:Mf W b L) (hl:0 < L.length):b < W.heap.size:=World.block_lt_of_cell? _ _ (h 0 hl).1
theorem Mf.kept {W W':World} {b:Nat} {L:List Value} (h:Mf W b L) {S:Nat->Prop} (k:Kept S W W') (hs:¬ S b):Mf W' b L:=fun i hi=>by
 have hb:=h.lt (Nat.lt_of_le_of_lt (Nat.zero_le _) hi)
 exact ⟨by rw [k.cell (p:=⟨b,i,none⟩) hb hs];exact (h i hi).1,by rw [k.frozen (p:=⟨b,i,none⟩) hb hs];exact (h i hi).2⟩
theorem Mf.below {W W':World} {b:Nat} {L:List Value} (h:Mf W b L) (k:Below W.heap.size W W'):Mf W' b L:=h.kept (S:=fun _=>False) (Kept.ofBelow k) (fun h=>h)
theorem Mf.alloc {W:World} {b:Nat} {L:List Value} (h:Mf W b L) (o:Obj):Mf (W.alloc o) b L:=h.kept (S:=fun _=>False) ((Kept.refl _ _).alloc _) (fun h=>h)
theorem Mf.set {W:World} {b:Nat} {L:List Value} (h:Mf W b L) (i:Nat) (v:Value):Mf (W.setCell ⟨b,i,none⟩ v) b (L.set i v):=fun j hj=>by
 have hj':j < L.length:=by simpa using hj
 refine ⟨?_,by rw [World.frozen?_setCell];exact (h j hj').2⟩
 by_cases e:i=j
 ·subst e
  rw [set_same (h i hj').1]
  simp
 ·rw [set_other (by simp),(h j hj').1]
  simp [e]
theorem Mf.other {W:World} {b c:Nat} {L:List Value} (h:Mf W b L) (hc:b≠c) (i:Nat) (v:Value):Mf (W.setCell ⟨c,i,none⟩ v) b L:=fun j hj=>by
 refine ⟨?_,by rw [World.frozen?_setCell];exact (h j hj).2⟩
 rw [set_other (by simp)]
 exact (h j hj).1
theorem Mf.made (W:World) (A:Array Value) (T:Nat):Mf (W.alloc (.cells A T)) W.heap.size A.toList:=fun i hi=>by
 refine ⟨?_,by simp⟩
 rw [World.cell?_alloc_new]
 have:i < A.size:=by simpa using hi
 simp [this]
structure Mz (W:World) (b:Nat) (v0 v1 v2 v3 v4 v5 v6 v7 v8 v9 v10:Value):Prop where
 c0:W.cell? ⟨b,0,none⟩=some v0
 c1:W.cell? ⟨b,1,none⟩=some v1
 c2:W.cell? ⟨b,2,none⟩=some v2
 c3:W.cell? ⟨b,3,none⟩=some v3
 c4:W.cell? ⟨b,4,none⟩=some v4
 c5:W.cell? ⟨b,5,none⟩=some v5
 c6:W.cell? ⟨b,6,none⟩=some v6
 c7:W.cell? ⟨b,7,none⟩=some v7
 c8:W.cell? ⟨b,8,none⟩=some v8
 c9:W.cell? ⟨b,9,none⟩=some v9
 c10:W.cell? ⟨b,10,none⟩=some v10
 z0:W.frozen? ⟨b,0,none⟩=false
 z1:W.frozen? ⟨b,1,none⟩=false
 z2:W.frozen? ⟨b,2,none⟩=false
 z3:W.frozen? ⟨b,3,none⟩=false
 z4:W.frozen? ⟨b,4,none⟩=false
 z5:W.frozen? ⟨b,5,none⟩=false
 z6:W.frozen? ⟨b,6,none⟩=false
 z7:W.frozen? ⟨b,7,none⟩=false
 z8:W.frozen? ⟨b,8,none⟩=false
 z9:W.frozen? ⟨b,9,none⟩=false
 z10:W.frozen? ⟨b,10,none⟩=false
theorem Mf.all {W:World} {b:Nat} {v0 v1 v2 v3 v4 v5 v6 v7 v8 v9 v10:Value} (h:Mf W b [v0,v1,v2,v3,v4,v5,v6,v7,v8,v9,v10]):Mz W b v0 v1 v2 v3 v4 v5 v6 v7 v8 v9 v10 :=
 ⟨(h 0 (by simp)).1,(h 1 (by simp)).1,(h 2 (by simp)).1,(h 3 (by simp)).1,(h 4 (by simp)).1,(h 5 (by simp)).1,(h 6 (by simp)).1,(h 7 (by simp)).1,(h 8 (by simp)).1,(h 9 (by simp)).1,(h 10 (by simp)).1,(h 0 (by simp)).2,(h 1 (by simp)).2,(h 2 (by simp)).2,(h 3 (by simp)).2,(h 4 (by simp)).2,(h 5 (by simp)).2,(h 6 (by simp)).2,(h 7 (by simp)).2,(h 8 (by simp)).2,(h 9 (by simp)).2,(h 10 (by simp)).2⟩
theorem Mz.mf {W:World} {b:Nat} {v0 v1 v2 v3 v4 v5 v6 v7 v8 v9 v10:Value} (h:Mz W b v0 v1 v2 v3 v4 v5 v6 v7 v8 v9 v10):Mf W b [v0,v1,v2,v3,v4,v5,v6,v7,v8,v9,v10]:=fun i hi=>by
 match i,hi with
 | 0,_=>exact ⟨h.c0,h.z0⟩
 | 1,_=>exact ⟨h.c1,h.z1⟩
 | 2,_=>exact ⟨h.c2,h.z2⟩
 | 3,_=>exact ⟨h.c3,h.z3⟩
 | 4,_=>exact ⟨h.c4,h.z4⟩
 | 5,_=>exact ⟨h.c5,h.z5⟩
 | 6,_=>exact ⟨h.c6,h.z6⟩
 | 7,_=>exact ⟨h.c7,h.z7⟩
 | 8,_=>exact ⟨h.c8,h.z8⟩
 | 9,_=>exact ⟨h.c9,h.z9⟩
 | 10,_=>exact ⟨h.c10,h.z10⟩
theorem Mf.mb {W:World} {b:Nat} {m:Mc} {ra va ma:Option Addr} {rc vc mc:Nat} (h:Mf W b [.slice ra m.row.length rc,.int .i64 m.N,.string m.S,.int .i64 m.room,.slice va m.vals.length vc,.int .i64 m.ret,.bool m.over,.int .i64 m.steps,.int .i64 m.looks,.int .i64 m.hits,.slice ma m.memo.length mc]):Mb W b m ra va ma rc vc mc :=
 ⟨(h 0 (by simp)).1,(h 1 (by simp)).1,(h 2 (by simp)).1,(h 3 (by simp)).1,(h 4 (by simp)).1,(h 5 (by simp)).1,(h 6 (by simp)).1,(h 7 (by simp)).1,(h 8 (by simp)).1,(h 9 (by simp)).1,(h 10 (by simp)).1⟩
end Mx0
end Go.Proofs.YtjajkmdoggbicaaGreatDoor
