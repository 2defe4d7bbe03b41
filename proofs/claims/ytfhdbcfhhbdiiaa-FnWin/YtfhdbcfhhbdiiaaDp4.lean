import Derived.Test.YtfhdbcfhhbdiiaaDp3
import Derived.Test.YtfhdbcfhhbdiiaaTe4
namespace Go.Proofs.Ytfhdbcfhhbdiiaa
set_option maxRecDepth 100000
set_option maxHeartbeats 8000000
set_option linter.unusedVariables false
namespace Dp4
open Go.RowKit
open Ta0 Ta1 Tc2 Tc4 Tc5 Dv0 Dp1 Dp3 Te1
open Nd0 (Kept set_other set_same lt_of_cell)
open Nd6 (Bools)
open Ss0 (bs bs_size)
open Ss1 (tl)
/-- A block of three cells. -/
structure L3 (W:World) (b:Nat) (x y z:Value):Prop where
 c0:W.cell? ⟨b,0,none⟩=some x
 c1:W.cell? ⟨b,1,none⟩=some y
 c2:W.cell? ⟨b,2,none⟩=some z
 f0:W.frozen? ⟨b,0,none⟩=false
 f1:W.frozen? ⟨b,1,none⟩=false
 f2:W.frozen? ⟨b,2,none⟩=false
theorem L3.lt {W:World} {b:Nat} {x y z:Value} (h:L3 W b x y z):b < W.heap.size:=World.block_lt_of_cell? _ _ h.c0
theorem L3.kept {W W':World} {b:Nat} {x y z:Value} (h:L3 W b x y z) {S:Nat->Prop} (k:Kept S W W') (hs:¬ S b):L3 W' b x y z :=
 ⟨by rw [k.cell (p:=⟨b,0,none⟩) h.lt hs];exact h.c0,by rw [k.cell (p:=⟨b,1,none⟩) h.lt hs];exact h.c1,by rw [k.cell (p:=⟨b,2,none⟩) h.lt hs];exact h.c2,by rw [k.frozen (p:=⟨b,0,none⟩) h.lt hs];exact h.f0,by rw [k.frozen (p:=⟨b,1,none⟩) h.lt hs];exact h.f1,by rw [k.frozen (p:=⟨b,2,none⟩) h.lt hs];exact h.f2⟩
theorem L3.below {W W':World} {b:Nat} {x y z:Value} (h:L3 W b x y z) (k:Below W.heap.size W W'):L3 W' b x y z :=
 h.kept (S:=fun _=>False) (Kept.ofBelow k) (fun h=>h)
theorem L3.made (W:World) (x y z:Value) (T:Nat):L3 (W.alloc (.cells #[x,y,z] T)) W.heap.size x y z:=⟨by simp,by simp,by simp,by simp,by simp,by simp⟩
theorem fin3 {w W:World} {b:Nat} {x y z:Value} (h:L3 W b x y z) (hB:Below w.heap.size w W) (hb:w.heap.size<=b) (u v t:Value) :
 ∃ W',W'=((W.setCell ⟨b,0,none⟩ u).setCell ⟨b,1,none⟩ v).setCell ⟨b,2,none⟩ t/\W'.cell? ⟨b,0,none⟩=some u/\W'.cell? ⟨b,1,none⟩=some v/\W'.cell? ⟨b,2,none⟩=some t/\Below w.heap.size w W'/\Kept (fun i=>i=b) W W':=by
 have HK:Kept (fun i=>i=b) W (((W.setCell ⟨b,0,none⟩ u).setCell ⟨b,1,none⟩ v).setCell ⟨b,2,none⟩ t):=kset (S:=fun i=>i=b) (kset (S:=fun i=>i=b) (kset (S:=fun i=>i=b) (Kept.refl (fun i=>i=b) W) rfl _) rfl _) rfl _
 refine ⟨_,rfl,?_,?_,?_,hB.trans (HK.below (B:=w.heap.size) (fun i hi=>by omega) hB.size),HK⟩
 ·rw [set_other (by simp),set_other (by simp)];exact set_same h.c0
 ·rw [set_other (by simp)];exact set_same (by rw [set_other (by simp)];exact h.c1)
 ·exact set_same (by rw [set_other (by simp),set_other (by simp)];exact h.c2)
/-- The zero ruled table. -/
abbrev rv0:Value:=.agg #[.slice none 0 0,.int .i64 0,.slice none 0 0]
theorem iRuled0 {N:Int} {S:ByteArray} (ra:Option Addr) (L c:Nat) (w:World) (hS:S.size<=1048576) (h:¬ (tokB N (tl S)=true/\(L:Int)=N)) :
 Calls Try.prog 52 #[.slice ra L c,tv N S] w fun e w'=>e=.returned (.tuple #[rv0,.bool false])/\Below w.heap.size w w':=by
 have HA:Hid (Below w.heap.size w ((w.alloc (.cells #[.int .i64 N,.string S] 26)).alloc (.cells #[.slice none 0 0,.int .i64 0,.slice none 0 0] 89))):=((Below.refl _ _).alloc (Nat.le_refl _) _).alloc (by simp) _
 have HX:Hid (Lay ((w.alloc (.cells #[.int .i64 N,.string S] 26)).alloc (.cells #[.slice none 0 0,.int .i64 0,.slice none 0 0] 89)) w.heap.size (.int .i64 N) (.string S)):=(Lay.made _ _ _ _).alloc _
 have HR:Hid (L3 ((w.alloc (.cells #[.int .i64 N,.string S] 26)).alloc (.cells #[.slice none 0 0,.int .i64 0,.slice none 0 0] 89)) (w.heap.size+1) (.slice none 0 0) (.int .i64 0) (.slice none 0 0)):=by
  have:=L3.made (w.alloc (.cells #[.int .i64 N,.string S] 26)) (.slice none 0 0) (.int .i64 0) (.slice none 0 0) 89
  show L3 _ _ _ _ _
  simpa using this
 cases h1:tokB N (tl S)
 ·have HO:Hid (∀ W,Calls Try.prog 68 #[tv N S] W fun e w'=>e=.returned (.bool false)/\Below W.heap.size W w'):=fun W=>iOk0 W hS h1
  clear h h1
  go_enter Try.func52,Try.ntmps52
  go_wp2_with fail
  refine (HO.out _).mono ?_
  rintro e w1 ⟨rfl,hb⟩
  have HA1:Hid (Below w.heap.size w w1):=HA.out.trans (hb.mono HA.out.size)
  have HR1:Hid (L3 w1 (w.heap.size+1) (.slice none 0 0) (.int .i64 0) (.slice none 0 0)):=HR.out.below hb
  clear hb
  obtain ⟨r0,r1,r2,r3,r4,r5⟩:=HR1.out
  have HFN:Hid _:=fin3 HR1.out HA1.out (by omega) (.slice none 0 0) (.int .i64 0) (.slice none 0 0)
  go_wp2
  obtain ⟨W,hW,z0,z1,z2,hbz,_⟩:=HFN.out
  rw [<- hW]
  exact bodyPost_ret (v:=.tuple #[rv0,.bool false]) (by simp [results,Try.results52,go_sem,z0,z1,z2]) rfl ⟨rfl,hbz⟩
 ·have HO:Hid (∀ W,Calls Try.prog 68 #[tv N S] W fun e w'=>e=.returned (.bool true)/\Below W.heap.size W w'):=fun W=>by
   have:=iTableOk N S W hS
   rwa [h1] at this
  have hne:((L:Int) != N)=true:=bne_iff_ne.2 fun e=>h ⟨h1,e⟩
  clear h h1
  go_enter Try.func52,Try.ntmps52
  go_wp2_with fail
  refine (HO.out _).mono ?_
  rintro e w1 ⟨rfl,hb⟩
  have HA1:Hid (Below w.heap.size w w1):=HA.out.trans (hb.mono HA.out.size)
  have HR1:Hid (L3 w1 (w.heap.size+1) (.slice none 0 0) (.int .i64 0) (.slice none 0 0)):=HR.out.below hb
  obtain ⟨x0,x1,_,_⟩:=HX.out.below hb
  clear hb
  obtain ⟨r0,r1,r2,r3,r4,r5⟩:=HR1.out
  have HFN:Hid _:=fin3 HR1.out HA1.out (by omega) (.slice none 0 0) (.int .i64 0) (.slice none 0 0)
  go_wp2
  obtain ⟨W,hW,z0,z1,z2,hbz,_⟩:=HFN.out
  rw [<- hW]
  exact bodyPost_ret (v:=.tuple #[rv0,.bool false]) (by simp [results,Try.results52,go_sem,z0,z1,z2]) rfl ⟨rfl,hbz⟩
theorem iRuled (n:Nat) (F:Nat->Bool) (ra:Option Addr) (c:Nat) (w:World) (hn:n<=12) :
 Calls Try.prog 52 #[.slice ra n c,tv (n:Int) (bs (tab n F))] w fun e w'=>∃ g,e=.returned (.tuple #[rv ra c n (nw n) g,.bool true])/\w.heap.size<=g/\Wds w' g (nw n) (upto (2 ^ n) F)/\Below w.heap.size w w':=by
 have HO:Hid (∀ W,Calls Try.prog 68 #[tv (n:Int) (bs (tab n F))] W fun e w'=>e=.returned (.bool true)/\Below W.heap.size W w'):=fun W=>iOk1 n F W hn
 have HPK:Hid (∀ W,Calls Try.prog 69 #[tv (n:Int) (bs (tab n F))] W fun e w'=>∃ g,e=.returned (pv n (nw n) g)/\W.heap.size<=g/\Wds w' g (nw n) (upto (2 ^ n) F)/\Below W.heap.size W w'):=fun W=>pack n F W hn
 generalize bs (tab n F)=S at *
 generalize upto (2 ^ n) F=F1 at *
 have hm1:=(nw_le hn).1
 generalize nw n=m at *
 have HA:Hid (Below w.heap.size w ((w.alloc (.cells #[.int .i64 (n:Int),.string S] 26)).alloc (.cells #[.slice none 0 0,.int .i64 0,.slice none 0 0] 89))):=((Below.refl _ _).alloc (Nat.le_refl _) _).alloc (by simp) _
 have HX:Hid (Lay ((w.alloc (.cells #[.int .i64 (n:Int),.string S] 26)).alloc (.cells #[.slice none 0 0,.int .i64 0,.slice none 0 0] 89)) w.heap.size (.int .i64 (n:Int)) (.string S)):=(Lay.made _ _ _ _).alloc _
 have HR:Hid (L3 ((w.alloc (.cells #[.int .i64 (n:Int),.string S] 26)).alloc (.cells #[.slice none 0 0,.int .i64 0,.slice none 0 0] 89)) (w.heap.size+1) (.slice none 0 0) (.int .i64 0) (.slice none 0 0)):=by
  have:=L3.made (w.alloc (.cells #[.int .i64 (n:Int),.string S] 26)) (.slice none 0 0) (.int .i64 0) (.slice none 0 0) 89
  show L3 _ _ _ _ _
  simpa using this
 go_enter Try.func52,Try.ntmps52
 go_wp2_with fail
 refine (HO.out _).mono ?_
 rintro e w1 ⟨rfl,hb⟩
 have HA1:Hid (Below w.heap.size w w1):=HA.out.trans (hb.mono HA.out.size)
 have HR1:Hid (L3 w1 (w.heap.size+1) (.slice none 0 0) (.int .i64 0) (.slice none 0 0)):=HR.out.below hb
 obtain ⟨x0,x1,_,_⟩:=HX.out.below hb
 clear hb
 go_wp2_with fail
 refine (HPK.out _).mono ?_
 rintro e w2 ⟨g,rfl,hg,hw,hb⟩
 have HA2:Hid (Below w.heap.size w w2):=HA1.out.trans (hb.mono HA1.out.size)
 have HR2:Hid (L3 w2 (w.heap.size+1) (.slice none 0 0) (.int .i64 0) (.slice none 0 0)):=HR1.out.below hb
 have HG:Hid (w.heap.size+1 < g):=Nat.lt_of_lt_of_le HR1.out.lt hg
 have HW:Hid (Wds w2 g m F1):=hw
 clear hb x0 x1 hg hw
 obtain ⟨r0,r1,r2,r3,r4,r5⟩:=HR2.out
 have HFN:Hid _:=fin3 HR2.out HA2.out (by omega) (.slice ra n c) (.int .i64 (n:Int)) (.slice (some ⟨g,0,none⟩) m m)
 go_wp2
 obtain ⟨W,hW,z0,z1,z2,hbz,hkz⟩:=HFN.out
 rw [<- hW]
 exact bodyPost_ret (v:=.tuple #[rv ra c n m g,.bool true]) (by simp [results,Try.results52,go_sem,z0,z1,z2]) rfl ⟨g,rfl,by have:=HG.out;omega,HW.out.kept hkz (by have:=HG.out;omega),hbz⟩
theorem iDecide0 {N:Int} {S:ByteArray} (ra:Option Addr) (L c:Nat) (w:World) (hS:S.size<=1048576) (h:¬ (tokB N (tl S)=true/\(L:Int)=N)) :
 Calls Try.prog 27 #[.slice ra L c,tv N S] w fun e w'=>e=.returned (.tuple #[.int .i64 0,.bool false])/\Below w.heap.size w w':=by
 have HA:Hid (Below w.heap.size w (w.alloc (.cells #[.int .i64 N,.string S] 26))):=(Below.refl _ _).alloc (Nat.le_refl _) _
 have HRU:Hid (∀ W,Calls Try.prog 52 #[.slice ra L c,tv N S] W fun e w'=>e=.returned (.tuple #[rv0,.bool false])/\Below W.heap.size W w'):=fun W=>iRuled0 ra L c W hS h
 clear h
 go_enter Try.func27,Try.ntmps27
 go_wp2_with fail
 refine (HRU.out _).mono ?_
 rintro e w1 ⟨rfl,hb⟩
 have HA1:Hid (Below w.heap.size w w1):=HA.out.trans (hb.mono HA.out.size)
 clear hb
 have HA2:Hid (Below w.heap.size w (w1.alloc (.cells #[.slice none 0 0,.int .i64 0,.slice none 0 0] 89))):=HA1.out.alloc HA1.out.size _
 go_wp2
 go_ret2
 exact ⟨rfl,HA2.out⟩
theorem dcAt_upto {row:List Bool} {n:Nat} (F:Nat->Bool) (h:row.length=n) {k p:Nat} (hk:k<=n) (hp:p < 2 ^ k):dcAt row (upto (2 ^ n) F) k p=dcAt row F k p:=by
 subst h
 exact dcAt_ext row (fun q hq=>by simp [upto,hq]) hk hp
theorem iDecide (n:Nat) (F:Nat->Bool) (ra:Option Addr) (row:List Bool) (c:Nat) (w:World) (hn:n<=12) (hrn:row.length=n) (hB:Bools w ra row) :
 Calls Try.prog 27 #[.slice ra n c,tv (n:Int) (bs (tab n F))] w fun e w'=>e=.returned (.tuple #[.int .i64 ((De0.dc row F).toNat:Int),.bool true])/\Below w.heap.size w w':=by
 have HRU:Hid (∀ W,Calls Try.prog 52 #[.slice ra n c,tv (n:Int) (bs (tab n F))] W fun e w'=>∃ g,e=.returned (.tuple #[rv ra c n (nw n) g,.bool true])/\W.heap.size<=g/\Wds w' g (nw n) (upto (2 ^ n) F)/\Below W.heap.size W w'):=fun W=>iRuled n F ra c W hn
 have HV:Hid (∀ (W:World) (g:Nat),Below w.heap.size w W->Wds W g (nw n) (upto (2 ^ n) F)->Calls Try.prog 53 #[rv ra c n (nw n) g,.int .i64 0,.int .i64 0] W fun e w'=>e=.returned (.int .i64 ((De0.dc row F).toNat:Int))/\Below W.heap.size W w'):=fun W g h1 h2=>by
  have:=verdict (row:=row) (G:=upto (2 ^ n) F) (ra:=ra) (c:=c) (g:=g) hn hrn n (Nat.le_refl _)
  rw [Nat.sub_self] at this
  have:=this W 0 (by simp) (hB.below h1) h2
  rw [dcAt_upto F hrn (Nat.zero_le _) (by simp),dcAt_0] at this
  exact this
 have HA:Hid (∀ S:ByteArray,Below w.heap.size w (w.alloc (.cells #[.int .i64 (n:Int),.string S] 26))):=fun S=>(Below.refl _ _).alloc (Nat.le_refl _) _
 clear hB
 generalize bs (tab n F)=S at *
 generalize upto (2 ^ n) F=F1 at *
 generalize nw n=m at *
 generalize De0.dc row F=r at *
 go_enter Try.func27,Try.ntmps27
 go_wp2_with fail
 refine (HRU.out _).mono ?_
 rintro e w1 ⟨g,rfl,hg,hw,hb⟩
 have HA1:Hid (Below w.heap.size w w1):=(HA.out S).trans (hb.mono (HA.out S).size)
 have HA2:Hid (Below w.heap.size w (w1.alloc (.cells #[.slice ra n c,.int .i64 (n:Int),.slice (some ⟨g,0,none⟩) m m] 89))):=HA1.out.alloc HA1.out.size _
 have HW:Hid (Wds (w1.alloc (.cells #[.slice ra n c,.int .i64 (n:Int),.slice (some ⟨g,0,none⟩) m m] 89)) g m F1):=hw.below ((Below.refl _ _).alloc (Nat.le_refl _) _)
 clear hb hw hg
 go_wp2_with (go_at_call 53;refine (HV.out _ g HA2.out HW.out).mono ?_;rintro e w3 ⟨rfl,hb3⟩;have HB3:Hid (Below w.heap.size w w3):=HA2.out.trans (hb3.mono HA2.out.size);clear hb3)
 go_ret2
 exact ⟨rfl,HB3.out⟩
end Dp4
end Go.Proofs.Ytfhdbcfhhbdiiaa
