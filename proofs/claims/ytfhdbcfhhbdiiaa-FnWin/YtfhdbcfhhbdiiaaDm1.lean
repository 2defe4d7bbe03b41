import Derived.Test.YtfhdbcfhhbdiiaaPkXW33
namespace Go.Proofs.Ytfhdbcfhhbdiiaa
set_option maxRecDepth 100000
set_option maxHeartbeats 8000000
set_option linter.unusedVariables false
namespace Dm1
open Go.RowKit
open Ta0 Ta1 Ta2 Ta3 Tc2 Tc5 Td1 Td2 Td4 De0 Dv0
open Nd0 (Kept set_other set_same lt_of_cell)
open Nd6 (Bools)
open Ss0 (bs bs_size)
open Ss1 (tl)
theorem sOkR0 {N:Int} {S:ByteArray} (ra:Option Addr) (L c:Nat) (w:World) (hS:S.size<=1048576) (h:¬ (tokB N (tl S)=true/\(L:Int)=N)) :
 Calls Try.prog 33 #[.slice ra L c,tv N S] w fun e w'=>e=.returned (.bool false)/\Below w.heap.size w w':=by
 have HA:Hid (Below w.heap.size w (w.alloc (.cells #[.int .i64 N,.string S] 26))):=(Below.refl _ _).alloc (Nat.le_refl _) _
 have HX:Hid (Lay (w.alloc (.cells #[.int .i64 N,.string S] 26)) w.heap.size (.int .i64 N) (.string S)):=Lay.made _ _ _ _
 cases h1:tokB N (tl S)
 ·have HO:Hid (∀ W,Calls Try.prog 62 #[tv N S] W fun e w'=>e=.returned (.bool false)/\Below W.heap.size W w'):=fun W=>sOk0 W hS h1
  clear h h1
  go_enter Try.func33,Try.ntmps33
  go_wp2_with fail
  refine (HO.out _).mono ?_
  rintro e w1 ⟨rfl,hb⟩
  have HA1:Hid (Below w.heap.size w w1):=HA.out.trans (hb.mono HA.out.size)
  clear hb
  go_wp2
  go_ret
  exact ⟨rfl,HA1.out⟩
 ·have HO:Hid (∀ W,Calls Try.prog 62 #[tv N S] W fun e w'=>e=.returned (.bool true)/\Below W.heap.size W w'):=fun W=>by
   have:=sTableOk N S W hS
   rwa [h1] at this
  have hne:((L:Int)==N)=false:=beq_eq_false_iff_ne.2 fun e=>h ⟨h1,e⟩
  clear h h1
  go_enter Try.func33,Try.ntmps33
  go_wp2_with fail
  refine (HO.out _).mono ?_
  rintro e w1 ⟨rfl,hb⟩
  have HA1:Hid (Below w.heap.size w w1):=HA.out.trans (hb.mono HA.out.size)
  obtain ⟨x0,x1,_,_⟩:=HX.out.below hb
  clear hb
  go_wp2
  go_ret
  exact ⟨rfl,HA1.out⟩
theorem sOkR (n:Nat) (F:Nat->Bool) (ra:Option Addr) (c:Nat) (w:World) (hn:n<=12) :
 Calls Try.prog 33 #[.slice ra n c,tv (n:Int) (bs (tab n F))] w fun e w'=>e=.returned (.bool true)/\Below w.heap.size w w':=by
 have HO:Hid (∀ W,Calls Try.prog 62 #[tv (n:Int) (bs (tab n F))] W fun e w'=>e=.returned (.bool true)/\Below W.heap.size W w'):=fun W=>sOk1 n F W hn
 generalize bs (tab n F)=S at *
 have HA:Hid (Below w.heap.size w (w.alloc (.cells #[.int .i64 (n:Int),.string S] 26))):=(Below.refl _ _).alloc (Nat.le_refl _) _
 have HX:Hid (Lay (w.alloc (.cells #[.int .i64 (n:Int),.string S] 26)) w.heap.size (.int .i64 (n:Int)) (.string S)):=Lay.made _ _ _ _
 go_enter Try.func33,Try.ntmps33
 go_wp2_with fail
 refine (HO.out _).mono ?_
 rintro e w1 ⟨rfl,hb⟩
 have HA1:Hid (Below w.heap.size w w1):=HA.out.trans (hb.mono HA.out.size)
 obtain ⟨x0,x1,_,_⟩:=HX.out.below hb
 clear hb
 go_wp2
 go_ret
 exact ⟨rfl,HA1.out⟩
/-- What the model's verdict is to do for a row. -/
def MD (row:List Bool):Prop:=∀ (F:Nat->Bool) (W:World) (a:Option Addr) (c:Nat),Bools W a row->row.length<=c->Calls Try.prog 34 #[.slice a row.length c,tv (row.length:Int) (bs (tab row.length F))] W fun e w'=>e=.returned (.int .i64 ((dc row F).toNat:Int))/\Below W.heap.size W w'
theorem md_nil:MD []:=by
 intro F w a c hB hc
 have HG:Hid (Sg (bs (tab 0 F)) (2 ^ 0) F):=sg_tab 0 F
 show Calls Try.prog 34 #[.slice a 0 c,tv 0 (bs (tab 0 F))] w fun e w'=>e=.returned (.int .i64 ((F 0).toNat:Int))/\Below w.heap.size w w'
 generalize bs (tab 0 F)=S at *
 have hs:0 < S.size:=by rw [HG.out.size];simp
 have h9:=HG.out.at_ 0 hs
 have HB0:Hid (Below w.heap.size w (w.alloc (.cells #[.int .i64 0,.string S] 26))):=(Below.refl _ _).alloc (Nat.le_refl _) _
 clear hB hc
 have hsz:(0:Int) < (S.size:Int):=by omega
 cases hF:F 0
 all_goals
  rw [hF] at h9
  clear hF
  simp only [Bool.toNat_false,Bool.toNat_true,Int.natCast_zero,Int.natCast_one] at h9
  go_enter Try.func34,Try.ntmps34
  go_wp2
  go_ret
  exact ⟨rfl,HB0.out⟩
/-- The flags behind the first. -/
theorem bools_tail {W:World} {a:Option Addr} {q:Bool} {r:List Bool} {c:Nat} (h:Bools W a (q :: r)) (hc:r.length+1<=c):∃ b o,a=some ⟨b,o,none⟩/\W.cell? ⟨b,o,none⟩=some (.bool q)/\∃ t,t=(if c=1 then o else o+1)/\Bools W (some ⟨b,t,none⟩) r:=by
 rcases h.2 with h0|⟨b,o,ha,hx⟩
 ·simp at h0
 ·refine ⟨b,o,ha,hx 0 (by simp),_,rfl,?_⟩
  refine ⟨by have:=h.1;simp at this;omega,?_⟩
  by_cases e:r.length=0
  ·exact .inl e
  ·rw [if_neg (by omega)]
   refine .inr ⟨b,o+1,rfl,fun i hi=>?_⟩
   have:=hx (i+1) (by simpa using hi)
   rw [show o+1+i=o+(i+1) by omega]
   simpa using this
end Dm1
end Go.Proofs.Ytfhdbcfhhbdiiaa
