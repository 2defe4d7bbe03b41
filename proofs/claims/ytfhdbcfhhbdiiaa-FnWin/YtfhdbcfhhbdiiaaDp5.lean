import Derived.Test.YtfhdbcfhhbdiiaaDp4
namespace Go.Proofs.Ytfhdbcfhhbdiiaa
set_option maxRecDepth 100000
set_option maxHeartbeats 8000000
set_option linter.unusedVariables false
namespace Dp5
open Go.RowKit
open Ta0 Ta1 Ta2 Ta3 Tc2 Tc4 Tc5 Tc6 Tc7 Dv0 Dp1 Dp3 Dp4 Te1 Te4 Ap0 Td5 De1
open Nd0 (Kept Ints WInts set_other set_same lt_of_cell)
open Nd6 (Bools)
open Ss0 (bs bs_size)
open Ss1 (tl)
/-- What Choose tells. -/
def chV (row:List Bool) (n:Nat) (F:Nat->Bool):Int:=fst (De0.dc (row.drop 1) (hb (n - 1) 0 F)) (De0.dc (row.drop 1) (hb (n - 1) 1 F)) ((De0.dc row F).toNat:Int)
theorem dcAt_1 {row:List Bool} {n:Nat} (F:Nat->Bool) (h:row.length=n) (hn:1<=n) (b:Nat):dcAt row F 1 b=De0.dc (row.drop 1) (hb (n - 1) b F):=by
 subst h
 rfl
theorem iChoose0 {N:Int} {S:ByteArray} (ra:Option Addr) (L c:Nat) (w:World) (hS:S.size<=1048576) (h:¬ (tokB N (tl S)=true/\(L:Int)=N)) :
 Calls Try.prog 31 #[.slice ra L c,tv N S] w fun e w'=>e=.returned (.tuple #[.int .i64 0,.bool false])/\Below w.heap.size w w':=by
 have HA:Hid (Below w.heap.size w (w.alloc (.cells #[.int .i64 N,.string S] 26))):=(Below.refl _ _).alloc (Nat.le_refl _) _
 have HRU:Hid (∀ W,Calls Try.prog 52 #[.slice ra L c,tv N S] W fun e w'=>e=.returned (.tuple #[rv0,.bool false])/\Below W.heap.size W w'):=fun W=>iRuled0 ra L c W hS h
 clear h
 go_enter Try.func31,Try.ntmps31
 go_wp2_with fail
 refine (HRU.out _).mono ?_
 rintro e w1 ⟨rfl,hb⟩
 have HA1:Hid (Below w.heap.size w w1):=HA.out.trans (hb.mono HA.out.size)
 clear hb
 have HA2:Hid (Below w.heap.size w (w1.alloc (.cells #[.slice none 0 0,.int .i64 0,.slice none 0 0] 89))):=HA1.out.alloc HA1.out.size _
 go_wp2
 go_ret2
 exact ⟨rfl,HA2.out⟩
theorem iChooseN (F:Nat->Bool) (ra:Option Addr) (c:Nat) (w:World) :
 Calls Try.prog 31 #[.slice ra 0 c,tv 0 (bs (tab 0 F))] w fun e w'=>e=.returned (.tuple #[.int .i64 0,.bool false])/\Below w.heap.size w w':=by
 have HRU:Hid (∀ W,Calls Try.prog 52 #[.slice ra 0 c,tv 0 (bs (tab 0 F))] W fun e w'=>∃ g,e=.returned (.tuple #[.agg #[.slice ra 0 c,.int .i64 0,.slice (some ⟨g,0,none⟩) (nw 0) (nw 0)],.bool true])/\W.heap.size<=g/\Wds w' g (nw 0) (upto (2 ^ 0) F)/\Below W.heap.size W w'):=fun W=>iRuled 0 F ra c W (by omega)
 generalize bs (tab 0 F)=S at *
 generalize nw 0=m at *
 have HA:Hid (Below w.heap.size w (w.alloc (.cells #[.int .i64 0,.string S] 26))):=(Below.refl _ _).alloc (Nat.le_refl _) _
 have HX:Hid (Lay (w.alloc (.cells #[.int .i64 0,.string S] 26)) w.heap.size (.int .i64 0) (.string S)):=Lay.made _ _ _ _
 go_enter Try.func31,Try.ntmps31
 go_wp2_with fail
 refine (HRU.out _).mono ?_
 rintro e w1 ⟨g,rfl,hg,hw,hb⟩
 have HA1:Hid (Below w.heap.size w w1):=HA.out.trans (hb.mono HA.out.size)
 have HX1:Hid (Lay w1 w.heap.size (.int .i64 0) (.string S)):=HX.out.below hb
 clear hb hg hw
 obtain ⟨W,hW⟩:∃ W,W=w1.alloc (.cells #[.slice ra 0 c,.int .i64 0,.slice (some ⟨g,0,none⟩) m m] 89):=⟨_,rfl⟩
 have HA2:Hid (Below w.heap.size w W):=by rw [hW];exact HA1.out.alloc HA1.out.size _
 have HX2:Hid (Lay W w.heap.size (.int .i64 0) (.string S)):=by rw [hW];exact HX1.out.alloc _
 have HW:Hid (w1.alloc (.cells #[.slice ra 0 c,.int .i64 0,.slice (some ⟨g,0,none⟩) m m] 89)=W):=hW.symm
 clear hW
 go_upto_region 2 with fail
 rw [HW.out]
 obtain ⟨x0,x1,_,_⟩:=HX2.out
 go_wp2
 go_ret2
 exact ⟨rfl,HA2.out⟩
theorem iChoose (n:Nat) (F:Nat->Bool) (ra:Option Addr) (row:List Bool) (c:Nat) (w:World) (hn:n<=12) (hn1:1<=n) (hrn:row.length=n) (hB:Bools w ra row) :
 Calls Try.prog 31 #[.slice ra n c,tv (n:Int) (bs (tab n F))] w fun e w'=>e=.returned (.tuple #[.int .i64 (chV row n F),.bool true])/\Below w.heap.size w w':=by
 have HRU:Hid (∀ W,Calls Try.prog 52 #[.slice ra n c,tv (n:Int) (bs (tab n F))] W fun e w'=>∃ g,e=.returned (.tuple #[rv ra c n (nw n) g,.bool true])/\W.heap.size<=g/\Wds w' g (nw n) (upto (2 ^ n) F)/\Below W.heap.size W w'):=fun W=>iRuled n F ra c W hn
 have HV:Hid (∀ (W:World) (g:Nat),Below w.heap.size w W->Wds W g (nw n) (upto (2 ^ n) F)->Calls Try.prog 53 #[rv ra c n (nw n) g,.int .i64 0,.int .i64 0] W fun e w'=>e=.returned (.int .i64 ((De0.dc row F).toNat:Int))/\Below W.heap.size W w'):=fun W g h1 h2=>by
  have:=verdict (row:=row) (G:=upto (2 ^ n) F) (ra:=ra) (c:=c) (g:=g) hn hrn n (Nat.le_refl _)
  rw [Nat.sub_self] at this
  have:=this W 0 (by simp) (hB.below h1) h2
  rw [dcAt_upto F hrn (Nat.zero_le _) (by simp),dcAt_0] at this
  exact this
 have HFI:Hid (∀ (W:World) (g b0 b1 b2:Nat),Below w.heap.size w W->Wds W g (nw n) (upto (2 ^ n) F)->Rb W b0 ra c n (nw n) g->Nb W b1 0->Nb W b2 0->Calls Try.prog 61 #[.agg #[fk 82 b0 b1 b2],.int .i64 ((De0.dc row F).toNat:Int)] W fun e w'=>e=.returned (.int .i64 (chV row n F))/\Below W.heap.size W w'):=fun W g b0 b1 b2 h1 h2 h3 h4 h5=>by
  have hv:=verdict (row:=row) (G:=upto (2 ^ n) F) (ra:=ra) (c:=c) (g:=g) hn hrn (n - 1) (by omega)
  rw [show n - (n - 1)=0+1 by omega] at hv
  have ht:=halfF (k:=0) (p:=0) hv hn (by omega) (by simp) W h3 h4 h5 (hB.below h1) h2
  have:=firstF b0 b1 b2 _ ((De0.dc row F).toNat:Int) W ht
  have e0:dcAt row (upto (2 ^ n) F) (0+1) (2*0+0)=De0.dc (row.drop 1) (hb (n - 1) 0 F):=by rw [dcAt_upto F hrn (by omega) (by simp)];exact dcAt_1 F hrn hn1 0
  have e1:dcAt row (upto (2 ^ n) F) (0+1) (2*0+1)=De0.dc (row.drop 1) (hb (n - 1) 1 F):=by rw [dcAt_upto F hrn (by omega) (by simp)];exact dcAt_1 F hrn hn1 1
  rw [e0,e1] at this
  exact this
 have hn0:((n:Int)==0)=false:=beq_eq_false_iff_ne.2 (by omega)
 clear hB
 generalize bs (tab n F)=S at *
 generalize upto (2 ^ n) F=F1 at *
 generalize nw n=m at *
 generalize De0.dc row F=r at *
 generalize chV row n F=v at *
 have HA:Hid (Below w.heap.size w (w.alloc (.cells #[.int .i64 (n:Int),.string S] 26))):=(Below.refl _ _).alloc (Nat.le_refl _) _
 have HX:Hid (Lay (w.alloc (.cells #[.int .i64 (n:Int),.string S] 26)) w.heap.size (.int .i64 (n:Int)) (.string S)):=Lay.made _ _ _ _
 go_enter Try.func31,Try.ntmps31
 go_wp2_with fail
 refine (HRU.out _).mono ?_
 rintro e w1 ⟨g,rfl,hg,hw,hb⟩
 have HA1:Hid (Below w.heap.size w w1):=HA.out.trans (hb.mono HA.out.size)
 have HX1:Hid (Lay w1 w.heap.size (.int .i64 (n:Int)) (.string S)):=HX.out.below hb
 obtain ⟨W,hW⟩:∃ W,W=w1.alloc (.cells #[.slice ra n c,.int .i64 (n:Int),.slice (some ⟨g,0,none⟩) m m] 89):=⟨_,rfl⟩
 have HA2:Hid (Below w.heap.size w W):=by rw [hW];exact HA1.out.alloc HA1.out.size _
 have HX2:Hid (Lay W w.heap.size (.int .i64 (n:Int)) (.string S)):=by rw [hW];exact HX1.out.alloc _
 have HR2:Hid (Rb W w1.heap.size ra c n m g):=by rw [hW];exact Rb.made _ _ _ _ _ _ _
 have HD2:Hid (Wds W g m F1):=by rw [hW];exact hw.below ((Below.refl _ _).alloc (Nat.le_refl _) _)
 have HW:Hid (w1.alloc (.cells #[.slice ra n c,.int .i64 (n:Int),.slice (some ⟨g,0,none⟩) m m] 89)=W):=hW.symm
 clear hW hb hg hw HX1 HA1 HX
 go_upto_region 2 with fail
 rw [HW.out]
 generalize hq:w1.heap.size=q at *
 clear hq HW
 obtain ⟨x0,x1,_,_⟩:=HX2.out
 go_wp2_with fail
 have DX:Rb W.drew q ra c n m g:=HR2.out.kept (S:=fun _=>False) (Kept.refl _ _).drew (fun h=>h)
 have DW:Hid (Wds W.drew g m F1):=HD2.out.kept (S:=fun _=>False) (Kept.refl _ _).drew (fun h=>h)
 have HBD:Hid (Below w.heap.size w W.drew):=HA2.out.drew
 go_region_held3 (fun w'=>w'.cell? ⟨q,0,none⟩=some (.slice ra n c)/\w'.cell? ⟨q,1,none⟩=some (.int .i64 (n:Int))/\w'.cell? ⟨q,2,none⟩=some (.slice (some ⟨g,0,none⟩) m m)) ((first|exact ⟨EX.c0,EX.c1,EX.c2⟩|exact ⟨DX.c0,DX.c1,DX.c2⟩)) ((first|(go_at_call 60;refine (iFork _ c n m g 0 0 _).mono ?_;rintro e w5 ⟨bb,rfl,hbb,hR5,hK5,hP5,hb5⟩;have HF:Hid (Rb w5 bb ra c n m g/\Nb w5 (bb+1) 0/\Nb w5 (bb+1+1) 0):=⟨hR5,hK5,hP5⟩;have EX:Rb w5 q ra c n m g:=(by first|exact EX.below hb5|exact DX.below hb5);have EW:Hid (Wds w5 g m F1):=(by first|exact EW.out.below hb5|exact DW.out.below hb5);have HBE:Hid (Below w.heap.size w w5):=(by first|exact HBE.out.trans (hb5.mono HBE.out.size)|exact HBD.out.trans (hb5.mono HBD.out.size));clear hR5 hK5 hP5 hb5 hbb)|(go_at_call 53;(first|refine (HV.out _ g HBE.out EW.out).mono ?_|refine (HV.out _ g HBD.out DW.out).mono ?_);rintro e w6 ⟨rfl,hb6⟩;(try have HF:Hid (Rb w6 bb ra c n m g/\Nb w6 (bb+1) 0/\Nb w6 (bb+1+1) 0):=⟨HF.out.1.below hb6,HF.out.2.1.below hb6,HF.out.2.2.below hb6⟩);have EX:Rb w6 q ra c n m g:=(by first|exact EX.below hb6|exact DX.below hb6);have EW:Hid (Wds w6 g m F1):=(by first|exact EW.out.below hb6|exact DW.out.below hb6);have HBE:Hid (Below w.heap.size w w6):=(by first|exact HBE.out.trans (hb6.mono HBE.out.size)|exact HBD.out.trans (hb6.mono HBD.out.size));clear hb6)|(go_at_call 61;refine (HFI.out _ g bb (bb+1) (bb+1+1) HBE.out EW.out HF.out.1 HF.out.2.1 HF.out.2.2).mono ?_;rintro e w7 ⟨rfl,hb7⟩;have EX:=EX.below hb7;have HBE:Hid (Below w.heap.size w w7):=HBE.out.trans (hb7.mono HBE.out.size);clear hb7)))
 all_goals
  go_wp2
  go_ret2
  exact ⟨rfl,HBE.out⟩
end Dp5
end Go.Proofs.Ytfhdbcfhhbdiiaa
