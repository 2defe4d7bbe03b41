import Derived.Test.YtfhdbcfhhbdiiaaTa1
import Derived.Test.YtfhdbcfhhbdiiaaPkXW8
namespace Go.Proofs.Ytfhdbcfhhbdiiaa
set_option maxRecDepth 100000
set_option maxHeartbeats 8000000
set_option linter.unusedVariables false
namespace Tc2
open Go.RowKit
open Ta0 Ta1
open Ss0 (bs bs_size ret_str)
open Ss1 (tl tl_length tl_get tl_take bs_tl tl_bs)
theorem ret_int {k:IntKind} {a b:Int} (h:a=b):Ending.returned (.int k a)=.returned (.int k b):=by rw [h]
theorem ret_bool {a b:Bool} (h:a=b):Ending.returned (.bool a)=.returned (.bool b):=by rw [h]
theorem wsh {n:Nat} (h:n<=12):IntKind.i64.wrap ((2:Int) ^ n)=((2 ^ n:Nat):Int):=by
 have:=p12 h
 rw [pcast,IntKind.wrap_i64]<;>omega
theorem below_drewN {B:Nat} {u w:World} (h:Below B u w) (n:Nat):Below B u (w.drewN n):=⟨h.os,h.tape,h.output,h.size,h.block⟩
theorem sPow (n:Nat) (w:World) (h1:n<=12) :
 Calls Try.prog 51 #[.int .i64 (n:Int)] w fun e w'=>e=.returned (.int .i64 ((2 ^ n:Nat):Int))/\w'=w:=by
 go_enter Try.func51,Try.ntmps51
 go_wp2
 go_loop [3,4] (fun x i=>∃ k:Nat,k<=n/\i=.int .i64 k/\x=.int .i64 ((2 ^ k:Nat):Int)) (fun _ i=>n - (intOf i).toNat)
 case atStart=>exact ⟨0,Nat.zero_le _,rfl,rfl⟩
 case round =>
  obtain ⟨k,hk,rfl,rfl⟩:=hrel
  obtain ⟨hp,hl⟩:=p12 (n:=k) (by omega)
  have HS:Hid (2 ^ (k+1)=2*2 ^ k):=by show _=_;rw [Nat.pow_succ];omega
  generalize hP:2 ^ k=P at hp hl HS ⊢
  by_cases hlt:k < n
  ·clear hP
   go_wp2
   go_round
   case rel=>exact ⟨k+1,by omega,by go_num,by rw [HS.out];go_num⟩
   case measure=>simp [intOf];omega
  ·have HP:Hid (2 ^ k=P):=hP
   clear hP
   go_wp2
   go_ret
   have:k=n:=by omega
   subst this
   exact ⟨ret_int (by rw [pcast,HP.out]),rfl⟩
theorem sIn (x a b:Int) (w:World) :
 Calls Try.prog 44 #[.int .i64 x,.int .i64 a,.int .i64 b] w fun e w'=>e=.returned (.bool (decide (a<=x/\x<=b)))/\w'=w:=by
 by_cases h1:a<=x<;>by_cases h2:x<=b
 all_goals
  go_enter Try.func44,Try.ntmps44
  go_wp2
  go_ret
  exact ⟨ret_bool (by simp<;>omega),rfl⟩
theorem sInT {x a b:Int} (w:World) (h:a<=x/\x<=b) :
 Calls Try.prog 44 #[.int .i64 x,.int .i64 a,.int .i64 b] w fun e w'=>e=.returned (.bool true)/\w'=w:=by
 have:=sIn x a b w
 rwa [decide_eq_true h] at this
theorem sInF {x a b:Int} (w:World) (h:¬ (a<=x/\x<=b)) :
 Calls Try.prog 44 #[.int .i64 x,.int .i64 a,.int .i64 b] w fun e w'=>e=.returned (.bool false)/\w'=w:=by
 have:=sIn x a b w
 rwa [decide_eq_false h] at this
/-- The value of a table. -/
abbrev tv (N:Int) (S:ByteArray):Value:=.agg #[.int .i64 N,.string S]
theorem sTableOk (N:Int) (S:ByteArray) (w:World) (hS:S.size<=1048576) :
 Calls Try.prog 62 #[tv N S] w fun e w'=>e=.returned (.bool (tokB N (tl S)))/\Below w.heap.size w w':=by
 have HB:Hid (∀ k,Below w.heap.size w ((w.alloc (.cells #[.int .i64 N,.string S] 26)).drewN k)):=fun k=>below_drewN ((Below.refl _ _).alloc (Nat.le_refl _) _) k
 by_cases hN:0<=N/\N<=12
 ·obtain ⟨n,rfl⟩:=Int.eq_ofNat_of_zero_le hN.1
  have HI:Hid (∀ W,Calls Try.prog 44 #[.int .i64 (n:Int),.int .i64 0,.int .i64 12] W fun e w'=>e=.returned (.bool true)/\w'=W):=fun W=>sInT W hN
  have hn:n<=12:=by omega
  obtain ⟨hp,hl⟩:=p12 hn
  have HC:Hid (∀ W,Calls Try.prog 51 #[.int .i64 (n:Int)] W fun e w'=>e=.returned (.int .i64 ((2 ^ n:Nat):Int))/\w'=W):=fun W=>sPow n W hn
  have HL:Hid (S.size≠2 ^ n->tokB (n:Int) (tl S)=false):=fun h=>tok_len (by rw [tl_length,Int.toNat_natCast];exact h)
  have HT:Hid (S.size=2 ^ n->(∀ c∈tl S,c=48\/c=49)->tokB (n:Int) (tl S)=true):=fun h k=>decide_eq_true ⟨hN.1,hN.2,by rw [tl_length,Int.toNat_natCast];exact h,k⟩
  clear hN
  generalize 2 ^ n=P at hp hl HC HL HT
  by_cases hs:S.size=P
  ·have hsz:((S.size:Int) != (P:Int))=false:=by rw [hs];simp
   have HS:Hid (S.size=P):=hs
   have hS2:S.size<=4096:=by omega
   clear hs
   go_enter Try.func62,Try.ntmps62
   go_wp2_with fail
   go_quiet ((first|(go_at_call 44;exact Calls.quiet_of_same (HI.out _))|(go_at_call 51;exact Calls.quiet_of_same (HC.out _))))
   go_wp2
   go_loop [3] (fun i=>∃ k:Nat,k<=S.size/\i=.int .i64 k/\∀ c∈(tl S).take k,c=48\/c=49) (fun i=>S.size - (intOf i).toNat)
   case atStart=>exact ⟨0,Nat.zero_le _,rfl,fun c hc=>by simp at hc⟩
   case round =>
    obtain ⟨k,hk,rfl,hc⟩:=hrel
    have HK:Hid (∀ c∈(tl S).take k,c=48\/c=49):=hc
    clear hc
    by_cases hlt:k < S.size
    ·have hkz:(k:Int) < (S.size:Int):=by omega
     have HX:Hid ((tl S).take (k+1)=(tl S).take k++[S[k]]):=tl_take S k hlt
     have HM:Hid (S[k]∈tl S):=by
      show _∈_
      rw [tl_get S k hlt];exact List.getElem_mem _
     by_cases h8:S[k]=48
     ·have b8:((S[k].toNat:Int) != 48)=false:=by rw [h8];rfl
      have H8:Hid (S[k]=48\/S[k]=49):=.inl h8
      clear h8
      go_wp2
      go_round
      case rel=>exact ⟨k+1,by omega,by go_num,fun c hc=>by
       rw [HX.out] at hc
       rcases List.mem_append.1 hc with h|h
       ·exact HK.out c h
       ·rw [List.mem_singleton.1 h];exact H8.out⟩
      case measure=>simp [intOf];omega
     ·have b8:((S[k].toNat:Int) != 48)=true:=bne_iff_ne.2 fun e=>h8 (UInt8.toNat_inj.1 (by have:(48:UInt8).toNat=48:=rfl;omega))
      by_cases h9:S[k]=49
      ·have b9:((S[k].toNat:Int) != 49)=false:=by rw [h9];rfl
       have H8:Hid (S[k]=48\/S[k]=49):=.inr h9
       clear h8 h9
       go_wp2
       go_round
       case rel=>exact ⟨k+1,by omega,by go_num,fun c hc=>by
        rw [HX.out] at hc
        rcases List.mem_append.1 hc with h|h
        ·exact HK.out c h
        ·rw [List.mem_singleton.1 h];exact H8.out⟩
       case measure=>simp [intOf];omega
      ·have b9:((S[k].toNat:Int) != 49)=true:=bne_iff_ne.2 fun e=>h9 (UInt8.toNat_inj.1 (by have:(49:UInt8).toNat=49:=rfl;omega))
       have HF:Hid (tokB (n:Int) (tl S)=false):=tok_sign HM.out ⟨h8,h9⟩
       clear h8 h9
       go_wp2
       go_ret
       exact ⟨ret_bool HF.out.symm,HB.out _⟩
    ·have HF:Hid (tokB (n:Int) (tl S)=true):=HT.out HS.out (by
      have:=HK.out
      rwa [List.take_of_length_le (by rw [tl_length];omega)] at this)
     go_wp2
     go_ret
     exact ⟨ret_bool HF.out.symm,HB.out _⟩
  ·have hsz:((S.size:Int) != (P:Int))=true:=bne_iff_ne.2 (by omega)
   have HF:Hid (tokB (n:Int) (tl S)=false):=HL.out hs
   clear hs
   go_enter Try.func62,Try.ntmps62
   go_wp2_with fail
   go_quiet ((first|(go_at_call 44;exact Calls.quiet_of_same (HI.out _))|(go_at_call 51;exact Calls.quiet_of_same (HC.out _))))
   go_wp2
   go_ret
   exact ⟨ret_bool HF.out.symm,HB.out _⟩
 ·have HI:Hid (∀ W,Calls Try.prog 44 #[.int .i64 N,.int .i64 0,.int .i64 12] W fun e w'=>e=.returned (.bool false)/\w'=W):=fun W=>sInF W hN
  have HF:Hid (tokB N (tl S)=false):=tok_no hN
  clear hN
  go_enter Try.func62,Try.ntmps62
  go_wp2_with fail
  go_quiet ((go_at_call 44;exact Calls.quiet_of_same (HI.out _)))
  go_wp2
  go_ret
  exact ⟨ret_bool HF.out.symm,HB.out _⟩
theorem iTableOk (N:Int) (S:ByteArray) (w:World) (hS:S.size<=1048576) :
 Calls Try.prog 68 #[tv N S] w fun e w'=>e=.returned (.bool (tokB N (tl S)))/\Below w.heap.size w w':=by
 have HB:Hid (∀ k,Below w.heap.size w ((w.alloc (.cells #[.int .i64 N,.string S] 26)).drewN k)):=fun k=>below_drewN ((Below.refl _ _).alloc (Nat.le_refl _) _) k
 by_cases h0:N < 0
 ·have HF:Hid (tokB N (tl S)=false):=tok_no (by omega)
  go_enter Try.func68,Try.ntmps68
  go_wp2_with fail
  go_quiet (fail)
  go_wp2
  go_ret
  exact ⟨ret_bool HF.out.symm,HB.out _⟩
 by_cases h1:12 < N
 ·have HF:Hid (tokB N (tl S)=false):=tok_no (by omega)
  go_enter Try.func68,Try.ntmps68
  go_wp2_with fail
  go_quiet (fail)
  go_wp2
  go_ret
  exact ⟨ret_bool HF.out.symm,HB.out _⟩
 obtain ⟨n,rfl⟩:=Int.eq_ofNat_of_zero_le (by omega:0<=N)
 have hn:n<=12:=by omega
 obtain ⟨hp,hl⟩:=p12 hn
 have HL:Hid (S.size≠2 ^ n->tokB (n:Int) (tl S)=false):=fun h=>tok_len (by rw [tl_length,Int.toNat_natCast];exact h)
 have HT:Hid (S.size=2 ^ n->(∀ c∈tl S,c=48\/c=49)->tokB (n:Int) (tl S)=true):=fun h k=>decide_eq_true ⟨by omega,by omega,by rw [tl_length,Int.toNat_natCast];exact h,k⟩
 have hw:=wsh hn
 have hd0:decide ((n:Int) < 0)=false:=decide_eq_false (by omega)
 have hd1:decide (12 < (n:Int))=false:=decide_eq_false (by omega)
 generalize 2 ^ n=P at hp hl HL HT hw
 by_cases hs:S.size=P
 ·have hsz:((S.size:Int) != (P:Int))=false:=by rw [hs];simp
  have HS:Hid (S.size=P):=hs
  have hS2:S.size<=4096:=by omega
  clear hs
  go_enter Try.func68,Try.ntmps68
  go_wp2_with fail
  go_quiet (fail)
  go_wp2
  go_loop [24] (fun i=>∃ k:Nat,k<=S.size/\i=.int .i64 k/\∀ c∈(tl S).take k,c=48\/c=49) (fun i=>S.size - (intOf i).toNat)
  case atStart=>exact ⟨0,Nat.zero_le _,rfl,fun c hc=>by simp at hc⟩
  case round =>
   obtain ⟨k,hk,rfl,hc⟩:=hrel
   have HK:Hid (∀ c∈(tl S).take k,c=48\/c=49):=hc
   clear hc
   by_cases hlt:k < S.size
   ·have hkz:(k:Int) < (S.size:Int):=by omega
    have HX:Hid ((tl S).take (k+1)=(tl S).take k++[S[k]]):=tl_take S k hlt
    have HM:Hid (S[k]∈tl S):=by
     show _∈_
     rw [tl_get S k hlt];exact List.getElem_mem _
    by_cases h8:S[k]=48
    ·have b8:((S[k].toNat:Int) != 48)=false:=by rw [h8];rfl
     have H8:Hid (S[k]=48\/S[k]=49):=.inl h8
     clear h8
     go_wp2
     go_round
     case rel=>exact ⟨k+1,by omega,by go_num,fun c hc=>by
      rw [HX.out] at hc
      rcases List.mem_append.1 hc with h|h
      ·exact HK.out c h
      ·rw [List.mem_singleton.1 h];exact H8.out⟩
     case measure=>simp [intOf];omega
    ·have b8:((S[k].toNat:Int) != 48)=true:=bne_iff_ne.2 fun e=>h8 (UInt8.toNat_inj.1 (by have:(48:UInt8).toNat=48:=rfl;omega))
     by_cases h9:S[k]=49
     ·have b9:((S[k].toNat:Int) != 49)=false:=by rw [h9];rfl
      have H8:Hid (S[k]=48\/S[k]=49):=.inr h9
      clear h8 h9
      go_wp2
      go_round
      case rel=>exact ⟨k+1,by omega,by go_num,fun c hc=>by
       rw [HX.out] at hc
       rcases List.mem_append.1 hc with h|h
       ·exact HK.out c h
       ·rw [List.mem_singleton.1 h];exact H8.out⟩
      case measure=>simp [intOf];omega
     ·have b9:((S[k].toNat:Int) != 49)=true:=bne_iff_ne.2 fun e=>h9 (UInt8.toNat_inj.1 (by have:(49:UInt8).toNat=49:=rfl;omega))
      have HF:Hid (tokB (n:Int) (tl S)=false):=tok_sign HM.out ⟨h8,h9⟩
      clear h8 h9
      go_wp2
      go_ret
      exact ⟨ret_bool HF.out.symm,HB.out _⟩
   ·have HF:Hid (tokB (n:Int) (tl S)=true):=HT.out HS.out (by
     have:=HK.out
     rwa [List.take_of_length_le (by rw [tl_length];omega)] at this)
    go_wp2
    go_ret
    exact ⟨ret_bool HF.out.symm,HB.out _⟩
 ·have hsz:((S.size:Int) != (P:Int))=true:=bne_iff_ne.2 (by omega)
  have HF:Hid (tokB (n:Int) (tl S)=false):=HL.out hs
  clear hs
  go_enter Try.func68,Try.ntmps68
  go_wp2_with fail
  go_quiet (fail)
  go_wp2
  go_ret
  exact ⟨ret_bool HF.out.symm,HB.out _⟩
end Tc2
end Go.Proofs.Ytfhdbcfhhbdiiaa
