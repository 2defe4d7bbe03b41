import Derived.Test.YtjajkmdoggbicaaGreatDoorRows
import Derived.Lib.LaidTab
import Derived.Lib.AppendIntMem
import Derived.Lib.Itoa
import Derived.OpenShut
import Derived.MakeChecks
import Derived.Test.YtjajkmdoggbicaaGreatDoorPkST10
import Derived.Test.YtjajkmdoggbicaaGreatDoorPkST11
namespace Go.Proofs.YtjajkmdoggbicaaGreatDoor
set_option maxRecDepth 100000
set_option maxHeartbeats 8000000
set_option linter.unusedVariables false
namespace Tk0
open Go.RowKit
open Ta0 Ta1 Ta2 Tc2 Tc5 Td1 Te1 Tx0
open Ss0 (bs bs_size bs_app ret_str sDec)
open Ss1 (tl tl_bs bs_tl)
/-- The table is laid. -/
structure TabK (w:World):Prop where
 pow:Lib.TabIs Tryz.prog w "internal/strconv.uint64pow10" .u64 Lib.pow10Tab
theorem TabK.below {w w':World} (h:TabK w) (k:Below w.heap.size w w'):TabK w':=⟨Lib.tabBelow_of_tabIs h.pow w' k⟩
theorem laid_at {P:Program} {W:World}:∀ {laid:List (String × DataW Unit)} {ps:List MemPlace},DataW.LaidVars P W laid ps->∀ {n:String} {d:DataW Unit},(n,d)∈laid ->
 ∃ g t cs fuel p,P.globalNamed n=some g/\(P.globals[g]?).map (·.type)=some t/\W.var? P n=some cs/\DataW.trod (fun _=>()) P W 0 (fun _=>true) false fuel t cs.toList=some (d,p):=by
 intro laid
 induction laid with
 | nil=>intro ps _ n d h;cases h
 | cons x r ih =>
   intro ps h n d hm
   obtain ⟨n',d'⟩:=x
   obtain ⟨g,t,cs,fuel,p,q,h1,h2,h3,h4,h5,_⟩:=h
   rcases List.mem_cons.1 hm with e|e
   ·cases e;exact ⟨g,t,cs,fuel,p,h1,h2,h3,h4⟩
   ·exact ih h5 e
theorem gPow:Tryz.prog.globalNamed "internal/strconv.uint64pow10" = some 4:=by kernel_rfl
theorem gtPow:(Tryz.prog.globals[4]?).map (·.type)=some 208:=by kernel_rfl
theorem tabk_of_laid {W:World} {laid:List (String × DataW Unit)} (h:laidMet Tryz.prog laid W)
 (h1:("internal/strconv.uint64pow10",Rows.laid_internal_strconv_uint64pow10)∈laid):TabK W:=by
 obtain ⟨ps,hL,_⟩:=h
 refine ⟨?_⟩
 obtain ⟨g,t,cs,fuel,p,e1,e2,e3,e4⟩:=laid_at hL h1
 obtain rfl:=Option.some.inj (gPow.symm.trans e1)
 obtain rfl:=Option.some.inj (gtPow.symm.trans e2)
 unfold Lib.TabIs
 rw [e3,<- Lib.cells_of_tab (k:=.u64) (zs:=Lib.pow10Tab) Tryz.underlying208 Tryz.underlying123 (by kernel_rfl) (by kernel_rfl) e4]
theorem itoa_dec (n:Nat):Lib.itoa (n:Int)=dec n:=by
 unfold Lib.itoa
 rw [if_neg (by omega),Int.toNat_natCast]
 induction n using Nat.strongRecOn with
 | ind n ih =>
   rw [Lib.decDigits]
   unfold dec
   by_cases h:n < 10
   ·rw [dif_pos h]
    by_cases h0:n=0
    ·subst h0;rfl
    ·rw [if_neg h0,digs_pos (by omega),show n / 10=0 by omega,digs_zero,show n % 10=n by omega];rfl
   ·rw [dif_neg h,if_neg (by omega),digs_pos (by omega),ih (n / 10) (by omega)]
    unfold dec
    rw [if_neg (by omega)]
theorem itoa (n:Nat) (hn:n < 1000000000) (w:World) (hT:TabK w) :
 Calls Tryz.prog 82 #[.int .i64 (n:Int)] w fun e w'=>e=.returned (.string (bs (dec n)))/\Below w.heap.size w w':=by
 refine (Tryz.strconv_Itoa (n:Int) (by omega) (by omega) w hT.pow).mono ?_
 rintro e w' ⟨rfl,k,os,rfl⟩
 exact ⟨by rw [itoa_dec];rfl,Lib.below_grow _ _ (Nat.le_refl _) k os⟩
/-- The key of a right table. -/
def keyL (n:Nat) (l:List UInt8):List UInt8:=dec n++(58 :: l)
theorem key_text (n:Nat) (l:List UInt8):bs (dec n)++⟨#[58]⟩++bs l=bs (keyL n l):=by
 rw [show (⟨#[58]⟩:ByteArray)=bs [58] from rfl,bs_app,bs_app]
 unfold keyL
 congr 1
 simp
theorem sKey0 {N:Int} {S:ByteArray} (w:World) (hS:S.size<=1048576) (h:tokB N (tl S)=false) :
 Calls Tryz.prog 34 #[tv N S] w fun e w'=>e=.returned (.string ByteArray.empty)/\Below w.heap.size w w':=by
 have HO:Hid (∀ W,Calls Tryz.prog 77 #[tv N S] W fun e w'=>e=.returned (.bool false)/\Below W.heap.size W w'):=fun W=>sOk0 W hS h
 have HA:Hid (Below w.heap.size w (w.alloc (.cells #[.int .i64 N,.string S] 26))):=(Below.refl _ _).alloc (Nat.le_refl _) _
 clear h
 go_enter Tryz.func34,Tryz.ntmps34
 go_wp2_with fail
 refine (HO.out _).mono ?_
 rintro e w1 ⟨rfl,hb⟩
 have HB:Hid (Below w.heap.size w w1):=HA.out.trans (hb.mono HA.out.size)
 clear hb
 go_wp2
 go_ret
 exact ⟨rfl,HB.out⟩
theorem iKey0 {N:Int} {S:ByteArray} (w:World) (hS:S.size<=1048576) (h:tokB N (tl S)=false) :
 Calls Tryz.prog 46 #[tv N S] w fun e w'=>e=.returned (.string ByteArray.empty)/\Below w.heap.size w w':=by
 have HO:Hid (∀ W,Calls Tryz.prog 39 #[tv N S] W fun e w'=>e=.returned (.bool false)/\Below W.heap.size W w'):=fun W=>iOk0 W hS h
 have HA:Hid (Below w.heap.size w (w.alloc (.cells #[.int .i64 N,.string S] 26))):=(Below.refl _ _).alloc (Nat.le_refl _) _
 clear h
 go_enter Tryz.func46,Tryz.ntmps46
 go_wp2_with fail
 refine (HO.out _).mono ?_
 rintro e w1 ⟨rfl,hb⟩
 have HB:Hid (Below w.heap.size w w1):=HA.out.trans (hb.mono HA.out.size)
 clear hb
 go_wp2
 go_ret
 exact ⟨rfl,HB.out⟩
theorem dec_short {n:Nat} (h:n<=12):(bs (dec n)).size<=2:=by
 have:∀ k:Fin 13,(dec k.val).length<=2:=by decide +kernel
 rw [bs_size]
 exact this ⟨n,by omega⟩
theorem sKey (n:Nat) (F:Nat->Bool) (w:World) (hn:n<=12) :
 Calls Tryz.prog 34 #[tv (n:Int) (bs (tab n F))] w fun e w'=>e=.returned (.string (bs (keyL n (tab n F))))/\Below w.heap.size w w':=by
 have HO:Hid (∀ W,Calls Tryz.prog 77 #[tv (n:Int) (bs (tab n F))] W fun e w'=>e=.returned (.bool true)/\Below W.heap.size W w'):=fun W=>sOk1 n F W hn
 have HD:Hid (∀ W,Calls Tryz.prog 35 #[.int .i64 (n:Int)] W fun e w'=>e=.returned (.string (bs (dec n)))/\w'=W):=fun W=>sDec n W (by omega)
 have HK:Hid (bs (dec n)++⟨#[58]⟩++bs (tab n F)=bs (keyL n (tab n F))):=key_text n _
 have hds:=dec_short hn
 have hss:(bs (tab n F)).size<=4096:=by rw [bs_size,tab_length];exact (p12 hn).2
 generalize bs (keyL n (tab n F))=K at *
 generalize bs (tab n F)=S at *
 generalize bs (dec n)=DS at *
 have HL0:Hid (Lay (w.alloc (.cells #[.int .i64 (n:Int),.string S] 26)) w.heap.size (.int .i64 (n:Int)) (.string S)):=Lay.made _ _ _ _
 have HA:Hid (Below w.heap.size w (w.alloc (.cells #[.int .i64 (n:Int),.string S] 26))):=(Below.refl _ _).alloc (Nat.le_refl _) _
 go_enter Tryz.func34,Tryz.ntmps34
 go_wp2_with fail
 refine (HO.out _).mono ?_
 rintro e w1 ⟨rfl,hb⟩
 have HB:Hid (Below w.heap.size w w1):=HA.out.trans (hb.mono HA.out.size)
 obtain ⟨x0,x1,_,_⟩:=HL0.out.below hb
 clear hb
 go_wp2_with fail
 go_quiet ((go_at_call 35;exact Calls.quiet_of_same (HD.out _)))
 go_wp2
 go_ret
 exact ⟨ret_str HK.out,below_drewN HB.out _⟩
theorem iKey (n:Nat) (F:Nat->Bool) (w:World) (hn:n<=12) (hT:TabK w) :
 Calls Tryz.prog 46 #[tv (n:Int) (bs (tab n F))] w fun e w'=>e=.returned (.string (bs (keyL n (tab n F))))/\Below w.heap.size w w':=by
 have HO:Hid (∀ W,Calls Tryz.prog 39 #[tv (n:Int) (bs (tab n F))] W fun e w'=>e=.returned (.bool true)/\Below W.heap.size W w'):=fun W=>iOk1 n F W hn
 have HD:Hid (∀ W,TabK W->Calls Tryz.prog 82 #[.int .i64 (n:Int)] W fun e w'=>e=.returned (.string (bs (dec n)))/\Below W.heap.size W w'):=fun W h=>itoa n (by omega) W h
 have HK:Hid (bs (dec n)++⟨#[58]⟩++bs (tab n F)=bs (keyL n (tab n F))):=key_text n _
 have hds:=dec_short hn
 have hss:(bs (tab n F)).size<=4096:=by rw [bs_size,tab_length];exact (p12 hn).2
 have HTK:Hid (TabK w):=hT
 clear hT
 generalize bs (keyL n (tab n F))=K at *
 generalize bs (tab n F)=S at *
 generalize bs (dec n)=DS at *
 have HL0:Hid (Lay (w.alloc (.cells #[.int .i64 (n:Int),.string S] 26)) w.heap.size (.int .i64 (n:Int)) (.string S)):=Lay.made _ _ _ _
 have HA:Hid (Below w.heap.size w (w.alloc (.cells #[.int .i64 (n:Int),.string S] 26))):=(Below.refl _ _).alloc (Nat.le_refl _) _
 go_enter Tryz.func46,Tryz.ntmps46
 go_wp2_with fail
 refine (HO.out _).mono ?_
 rintro e w1 ⟨rfl,hb⟩
 have HB:Hid (Below w.heap.size w w1):=HA.out.trans (hb.mono HA.out.size)
 have HX:Hid (Lay w1 w.heap.size (.int .i64 (n:Int)) (.string S)):=HL0.out.below hb
 clear hb
 obtain ⟨x0,x1,_,_⟩:=HX.out
 go_wp2_with fail
 go_region_with ((go_at_call 82;refine (HD.out _ (HTK.out.below (below_drewN HB.out 1))).mono ?_;rintro e w3 ⟨rfl,hb3⟩;have hS3:=(HX.out.kept (S:=fun _=>False) (Nd0.Kept.refl _ _).drew (fun h=>h)).below hb3;have HB3:Hid (Below w.heap.size w w3):=(below_drewN HB.out 1).trans (hb3.mono HB.out.size);obtain ⟨z0,z1,_,_⟩:=hS3))
 all_goals
  go_wp2
  go_ret
  exact ⟨ret_str HK.out,HB3.out⟩
end Tk0
end Go.Proofs.YtjajkmdoggbicaaGreatDoor
