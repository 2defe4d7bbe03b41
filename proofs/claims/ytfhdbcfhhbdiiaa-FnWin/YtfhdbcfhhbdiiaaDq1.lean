import Derived.Test.YtfhdbcfhhbdiiaaPkXW33
namespace Go.Proofs.Ytfhdbcfhhbdiiaa
set_option maxRecDepth 100000
set_option maxHeartbeats 8000000
set_option linter.unusedVariables false
namespace Dq1
open Go.RowKit
open Nd0 Nd1 Nd2 Nd3 Ap1 Nd6 Dqa
open Ta2 (bitB)
open Tc2 (sInT sInF)
open Te1 (iBitOk)
/-- Whose each flag is. -/
def ownF (v:Int) (x:Bool):Bool:=x==(v==0)
def ownL (v:Int) (l:List Bool):List Bool:=if bitB v=true then l.map (ownF v) else []
theorem ownL_yes {v:Int} {l:List Bool} (h:bitB v=true):ownL v l=l.map (ownF v):=if_pos h
theorem ownL_no {v:Int} {l:List Bool} (h:bitB v=false):ownL v l=[]:=if_neg (by rw [h];simp)
theorem ownL_le (v:Int) (l:List Bool):(ownL v l).length<=l.length:=by
 unfold ownL
 split
 ·rw [List.length_map];exact Nat.le_refl _
 ·exact Nat.zero_le _
theorem iOwner (w:World) (a:Option Addr) (l:List Bool) (c:Nat) (v:Int) (hN:Bools w a l) (hl:l.length<=1048576) :
 Calls Try.prog 55 #[.slice a l.length c,.int .i64 v] w fun e w'=>(∃ a' c',e=.returned (.slice a' (ownL v l).length c')/\WBools w' w.heap.size a' (ownL v l))/\Below w.heap.size w w':=by
 have HN:Hid (Bools w a l):=hN
 clear hN
 have HAL:Hid (Below w.heap.size w (w.alloc (.cells #[] 4))):=(Below.refl _ _).alloc (Nat.le_refl _) _
 have HO0:Hid (Owb (w.alloc (.cells #[] 4)) w.heap.size (.slice (some ⟨w.heap.size,0,none⟩) 0 0) []):=Owb.lit w _ (Nat.le_refl _)
 cases hB:bitB v
 ·have HBK:Hid (∀ W,Calls Try.prog 54 #[.int .i64 v] W fun e w'=>e=.returned (.bool false)/\w'=W):=fun W=>by have:=iBitOk v W;rwa [hB] at this
  rw [ownL_no hB]
  clear hB
  go_enter Try.func55,Try.ntmps55
  go_wp2_with (go_at_call 54;refine (HBK.out _).mono ?_;rintro e w' ⟨rfl,rfl⟩)
  go_ret
  exact ⟨⟨_,_,rfl,Nat.zero_le _,.inl rfl⟩,HAL.out⟩
 ·have HBK:Hid (∀ W,Calls Try.prog 54 #[.int .i64 v] W fun e w'=>e=.returned (.bool true)/\w'=W):=fun W=>by have:=iBitOk v W;rwa [hB] at this
  rw [ownL_yes hB]
  have hv:v=0\/v=1:=of_decide_eq_true hB
  clear hB
  rcases hv with rfl|rfl
  ·go_enter Try.func55,Try.ntmps55
   go_wp2_with (go_at_call 54;refine (HBK.out _).mono ?_;rintro e w' ⟨rfl,rfl⟩)
   go_loopw [5,15] (fun v i wr=>∃ k:Nat,k<=l.length/\i=.int .i64 k/\Owb wr w.heap.size v (mapTo (ownF 0) l k)/\Below w.heap.size w wr) (fun _ i _=>l.length - (intOf i).toNat)
   case atStart=>exact ⟨0,Nat.zero_le _,rfl,HO0.out,HAL.out⟩
   case round =>
    obtain ⟨k,hk,rfl,ho,hb⟩:=hrel
    have HO:Hid (Owb wr w.heap.size u5 (mapTo (ownF 0) l k)):=ho
    have HB:Hid (Below w.heap.size w wr):=hb
    clear ho
    by_cases hlt:k < l.length
    ·have HC:=HN.out.below hb
     have hsz:w.heap.size<=wr.heap.size:=hb.size
     clear hb
     rcases HC.2 with h0|⟨xb,xo,rfl,hc⟩
     ·omega
     have p0:=hc k hlt
     clear hc HC
     have hlz:(k:Int) < (l.length:Int):=by omega
     have HT:Hid (mapTo (ownF 0) l (k+1)=mapTo (ownF 0) l k++[(ownF 0) l[k]]):=mapTo_next hlt
     have HL:Hid ((mapTo (ownF 0) l k).length=k):=mapTo_len hk
     have hF:ownF 0 l[k]=l[k]:=by cases l[k]<;>rfl
     rw [hF] at HT
     clear hF
     generalize l[k]=x at *
     go_wp2_with (at_builtin;go_must (refine app_bool _ rfl _ _ rfl w.heap.size u5 (mapTo (ownF 0) l k) x rfl rfl HO.out hsz (by have:=HL.out;omega) ?_;intro g5 cp5 w5 ho5 hk5 hg5;have HO5:Hid (Owb w5 w.heap.size (.slice (some ⟨g5,0,none⟩) ((mapTo (ownF 0) l k).length+1) cp5) (mapTo (ownF 0) l k++[x])):=ho5;have HB5:Hid (Below w.heap.size w w5):=HB.out.trans (hk5.below (fun b hb=>(HO.out.lt _ hb).1) HB.out.size);clear ho5 hk5 hg5))
     go_roundw
     case rel=>exact ⟨k+1,by omega,by go_num,by rw [HT.out];exact HO5.out,HB5.out⟩
     case measure=>simp [intOf];omega
    ·have HE:Hid (mapTo (ownF 0) l k=l.map (ownF 0)):=mapTo_all hlt
     obtain ⟨av,cv,hv,hwb⟩:=HO.out.form
     rw [HE.out] at hv hwb
     subst hv
     have HW:Hid (WBools wr w.heap.size av (l.map (ownF 0))):=hwb
     clear hwb hb HO
     go_wp2
     go_ret
     exact ⟨⟨_,_,rfl,HW.out⟩,HB.out⟩
  ·go_enter Try.func55,Try.ntmps55
   go_wp2_with (go_at_call 54;refine (HBK.out _).mono ?_;rintro e w' ⟨rfl,rfl⟩)
   go_loopw [5,15] (fun v i wr=>∃ k:Nat,k<=l.length/\i=.int .i64 k/\Owb wr w.heap.size v (mapTo (ownF 1) l k)/\Below w.heap.size w wr) (fun _ i _=>l.length - (intOf i).toNat)
   case atStart=>exact ⟨0,Nat.zero_le _,rfl,HO0.out,HAL.out⟩
   case round =>
    obtain ⟨k,hk,rfl,ho,hb⟩:=hrel
    have HO:Hid (Owb wr w.heap.size u5 (mapTo (ownF 1) l k)):=ho
    have HB:Hid (Below w.heap.size w wr):=hb
    clear ho
    by_cases hlt:k < l.length
    ·have HC:=HN.out.below hb
     have hsz:w.heap.size<=wr.heap.size:=hb.size
     clear hb
     rcases HC.2 with h0|⟨xb,xo,rfl,hc⟩
     ·omega
     have p0:=hc k hlt
     clear hc HC
     have hlz:(k:Int) < (l.length:Int):=by omega
     have HT:Hid (mapTo (ownF 1) l (k+1)=mapTo (ownF 1) l k++[(ownF 1) l[k]]):=mapTo_next hlt
     have HL:Hid ((mapTo (ownF 1) l k).length=k):=mapTo_len hk
     have hF:ownF 1 l[k] = !l[k]:=by cases l[k]<;>rfl
     rw [hF] at HT
     clear hF
     generalize l[k]=x at *
     go_wp2_with (at_builtin;go_must (refine app_bool _ rfl _ _ rfl w.heap.size u5 (mapTo (ownF 1) l k) (!x) rfl rfl HO.out hsz (by have:=HL.out;omega) ?_;intro g5 cp5 w5 ho5 hk5 hg5;have HO5:Hid (Owb w5 w.heap.size (.slice (some ⟨g5,0,none⟩) ((mapTo (ownF 1) l k).length+1) cp5) (mapTo (ownF 1) l k++[(!x)])):=ho5;have HB5:Hid (Below w.heap.size w w5):=HB.out.trans (hk5.below (fun b hb=>(HO.out.lt _ hb).1) HB.out.size);clear ho5 hk5 hg5))
     go_roundw
     case rel=>exact ⟨k+1,by omega,by go_num,by rw [HT.out];exact HO5.out,HB5.out⟩
     case measure=>simp [intOf];omega
    ·have HE:Hid (mapTo (ownF 1) l k=l.map (ownF 1)):=mapTo_all hlt
     obtain ⟨av,cv,hv,hwb⟩:=HO.out.form
     rw [HE.out] at hv hwb
     subst hv
     have HW:Hid (WBools wr w.heap.size av (l.map (ownF 1))):=hwb
     clear hwb hb HO
     go_wp2
     go_ret
     exact ⟨⟨_,_,rfl,HW.out⟩,HB.out⟩
end Dq1
end Go.Proofs.Ytfhdbcfhhbdiiaa
