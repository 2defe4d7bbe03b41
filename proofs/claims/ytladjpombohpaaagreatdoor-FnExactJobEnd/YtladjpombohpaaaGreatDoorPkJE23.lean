import Derived.Shelf.Strings.Builder1
import Derived.Shelf.Strings.Builder2
import Derived.Shelf.Strings.OnBuilder
import Derived.Shelf.Strconv.Atoi
import Derived.Shelf.Strconv.Itoa0
import Derived.Shelf.Strconv.Itoa1
import Derived.Shelf.LaysM
import Derived.Shelf.Strconv.Itoa2
import Derived.Shelf.Strconv.Itoa3
import Derived.Shelf.Strconv.AtoiErrFast
import Derived.Shelf.Strconv.ParseIntEmpty
import Derived.Shelf.Strconv.AtoiFail
import Derived.Shelf.Strconv.Clone
import Derived.Shelf.Strconv.SyntaxError
import Derived.Shelf.LaysC
import Derived.Shelf.Strconv.ToError
import Derived.Shelf.Strconv.Lower
import Derived.Shelf.Strconv.ParseUint10
import Derived.Shelf.Strconv.ParseUint10Empty
import Derived.Shelf.Strconv.ParseUint10Any
import Derived.Shelf.Strconv.ParseInt10
import Derived.Shelf.Strconv.AtoiLong
import Derived.Shelf.Strconv.AtoiInnerAll
import Derived.Shelf.Strconv.RangeError
import Derived.Shelf.Strconv.ToErrorRange
import Derived.Shelf.Strconv.AtoiAll
import Derived.Shelf.Strings.Search1
import Derived.Shelf.Strings.Search2
import Derived.Shelf.Strings.Search3
import Derived.Shelf.Strings.Cut
import Derived.Shelf.Strings.Count
import Derived.Shelf.Strings.Shaped
import Derived.Shelf.Strings.Split
import Derived.Shelf.Strings.SplitShaped
import Derived.Shelf.Unicode.DecodeSlow
import Derived.Shelf.Unicode.DecodeAny
import Derived.Ground.Names2Prog
import Derived.Shelf.Slices.Clone
import Derived.Ground.SlgnProg
import Derived.Shelf.SlicesE.Clone
import Derived.Test.YtladjpombohpaaaGreatDoorProg
import Derived.Lib.LaidTab
import Derived.Lib.AppendIntMem
import Derived.Lib.Itoa
import Derived.OpenShut
import Derived.MakeChecks
import Derived.Test.YtladjpombohpaaaGreatDoorPkJE16
namespace Go.Proofs
open Go.Shelf
def Tryz.lays156_ren:Go.Shelf.Ren:=⟨fun|156=>254|165=>295|166=>296|169=>297|240=>336|241=>337|276=>379|277=>380|n=>n,fun|31=>149|9=>9|3=>3|4=>4|0=>0|20=>20|72=>329|76=>330|70=>327|37=>138|75=>70|127=>351|164=>189|5=>5|80=>332|n=>n,fun|n=>n⟩
theorem Tryz.lays156:Go.Proofs.Lays.n156 Tryz.prog Tryz.lays156_ren:={
 mixed:=by kernel_rfl
 f156:=Tryz.func254.trans (congrArg some (by kernel_rfl))
 f165:=Tryz.func295.trans (congrArg some (by kernel_rfl))
 f166:=Tryz.func296.trans (congrArg some (by kernel_rfl))
 f169:=Tryz.func297.trans (congrArg some (by kernel_rfl))
 f240:=Tryz.func336.trans (congrArg some (by kernel_rfl))
 f241:=Tryz.func337.trans (congrArg some (by kernel_rfl))
 f276:=Tryz.func379.trans (congrArg some (by kernel_rfl))
 f277:=Tryz.func380.trans (congrArg some (by kernel_rfl))
 t0:=Tryz.underlying0
 a0:=Tryz.isAgg0
 z0:=Tryz.sizeOf0
 v0:=Tryz.zeroValue0
 t3:=Tryz.underlying3
 a3:=Tryz.isAgg3
 z3:=Tryz.sizeOf3
 v3:=Tryz.zeroValue3
 t4:=Tryz.underlying4
 a4:=Tryz.isAgg4
 z4:=Tryz.sizeOf4
 v4:=Tryz.zeroValue4
 t9:=Tryz.underlying9
 a9:=Tryz.isAgg9
 z9:=Tryz.sizeOf9
 v9:=Tryz.zeroValue9
 t20:=Tryz.underlying20
 a20:=Tryz.isAgg20
 z20:=Tryz.sizeOf20
 v20:=Tryz.zeroValue20
 t31:=Tryz.underlying149
 a31:=Tryz.isAgg149
 z31:=Tryz.sizeOf149
 v31:=Tryz.zeroValue149
 t37:=Tryz.underlying138
 a37:=Tryz.isAgg138
 z37:=Tryz.sizeOf138
 v37:=Tryz.zeroValue138
 t70:=Tryz.underlying327
 a70:=Tryz.isAgg327
 z70:=Tryz.sizeOf327
 v70:=Tryz.zeroValue327
 t72:=Tryz.underlying329
 a72:=Tryz.isAgg329
 z72:=Tryz.sizeOf329
 v72:=Tryz.zeroValue329
 t75:=Tryz.underlying70
 a75:=Tryz.isAgg70
 z75:=Tryz.sizeOf70
 v75:=Tryz.zeroValue70
 t76:=Tryz.underlying330
 a76:=Tryz.isAgg330
 z76:=Tryz.sizeOf330
 v76:=Tryz.zeroValue330
 t127:=Tryz.underlying351
 a127:=Tryz.isAgg351
 z127:=Tryz.sizeOf351
 v127:=Tryz.zeroValue351
 t164:=Tryz.underlying189
 a164:=Tryz.isAgg189
 z164:=Tryz.sizeOf189
 v164:=Tryz.zeroValue189 }
theorem Tryz.Builder_Extra_156:Builder.Extra Tryz.prog Tryz.lays156_ren:={
 sizeBuilder:=by kernel_rfl
 liesBuilder:=by kernel_rfl
 t5:=Tryz.underlying5
 a5:=Tryz.isAgg5
 z5:=Tryz.sizeOf5
 v5:=Tryz.zeroValue5
 infoByte:=by kernel_rfl
 cellsByte:=by kernel_rfl
 sizeByte:=by kernel_rfl
 neB5:=by decide }
open Go.RowKit in
theorem Tryz.strings_Join_none (a:Option Addr) (c:Nat) (sep:ByteArray) (w:World) :
 Calls Tryz.prog 254 #[.slice a 0 c,.string sep] w fun e w'=>e=.returned (.string ⟨#[]⟩)/\w'=w:=Any.strings_Join_none Tryz.lays156 Tryz.Builder_Extra_156 a c sep w
open Go.RowKit in
theorem Tryz.strings_Join (bk o c:Nat) (xs:List ByteArray) (sep:ByteArray) (w:World) (hcells:∀ (j:Nat) x,xs[j]? = some x->w.cell? ⟨bk,o+j,none⟩=some (.string x)) (hbk:bk < w.heap.size) (hN:xs.length<=140737488355328) (hcap:xs.length<=c) (hlen:(Lib.join (xs.map (·.data.toList)) sep.data.toList).length<=140737488355328) :
 Calls Tryz.prog 254 #[.slice (some ⟨bk,o,none⟩) xs.length c,.string sep] w fun e w'=>e=.returned (.string ⟨(Lib.join (xs.map (·.data.toList)) sep.data.toList).toArray⟩)/\Below w.heap.size w w':=Any.strings_Join Tryz.lays156 Tryz.Builder_Extra_156 bk o c xs sep w hcells hbk hN hcap hlen
def Tryz.laysM171_ren:Go.Shelf.Ren:=⟨fun|171=>255|243=>298|246=>338|283=>381|284=>382|285=>383|286=>384|129=>404|317=>403|318=>405|319=>406|320=>407|337=>414|338=>415|n=>n,fun|3=>3|9=>9|2=>2|4=>4|171=>359|0=>0|53=>249|37=>138|5=>5|173=>361|212=>374|51=>106|20=>20|213=>375|46=>222|232=>390|233=>391|n=>n,fun|17=>3|18=>6|19=>7|n=>n⟩
theorem Tryz.laysM171:Go.Proofs.LaysM.n171 Tryz.prog Tryz.laysM171_ren:={
 mixed:=by kernel_rfl
 f129:=Tryz.func404.trans (congrArg some (by kernel_rfl))
 f171:=Tryz.func255.trans (congrArg some (by kernel_rfl))
 f243:=Tryz.func298.trans (congrArg some (by kernel_rfl))
 f246:=Tryz.func338.trans (congrArg some (by kernel_rfl))
 f283:=Tryz.func381.trans (congrArg some (by kernel_rfl))
 f284:=Tryz.func382.trans (congrArg some (by kernel_rfl))
 f285:=Tryz.func383.trans (congrArg some (by kernel_rfl))
 f286:=Tryz.func384.trans (congrArg some (by kernel_rfl))
 f317:=Tryz.func403.trans (congrArg some (by kernel_rfl))
 f318:=Tryz.func405.trans (congrArg some (by kernel_rfl))
 f319:=Tryz.func406.trans (congrArg some (by kernel_rfl))
 f320:=Tryz.func407.trans (congrArg some (by kernel_rfl))
 f337:=Tryz.func414.trans (congrArg some (by kernel_rfl))
 f338:=Tryz.func415.trans (congrArg some (by kernel_rfl))
 t0:=Tryz.underlying0
 a0:=Tryz.isAgg0
 z0:=Tryz.sizeOf0
 v0:=Tryz.zeroValue0
 t2:=Tryz.underlying2
 a2:=Tryz.isAgg2
 z2:=Tryz.sizeOf2
 v2:=Tryz.zeroValue2
 t3:=Tryz.underlying3
 a3:=Tryz.isAgg3
 z3:=Tryz.sizeOf3
 v3:=Tryz.zeroValue3
 t4:=Tryz.underlying4
 a4:=Tryz.isAgg4
 z4:=Tryz.sizeOf4
 v4:=Tryz.zeroValue4
 t5:=Tryz.underlying5
 a5:=Tryz.isAgg5
 z5:=Tryz.sizeOf5
 v5:=Tryz.zeroValue5
 t9:=Tryz.underlying9
 a9:=Tryz.isAgg9
 z9:=Tryz.sizeOf9
 v9:=Tryz.zeroValue9
 t20:=Tryz.underlying20
 a20:=Tryz.isAgg20
 z20:=Tryz.sizeOf20
 v20:=Tryz.zeroValue20
 t37:=Tryz.underlying138
 a37:=Tryz.isAgg138
 z37:=Tryz.sizeOf138
 v37:=Tryz.zeroValue138
 t46:=Tryz.underlying222
 a46:=Tryz.isAgg222
 z46:=Tryz.sizeOf222
 v46:=Tryz.zeroValue222
 t51:=Tryz.underlying106
 a51:=Tryz.isAgg106
 z51:=Tryz.sizeOf106
 v51:=Tryz.zeroValue106
 t53:=Tryz.underlying249
 a53:=Tryz.isAgg249
 z53:=Tryz.sizeOf249
 v53:=Tryz.zeroValue249
 t171:=Tryz.underlying359
 a171:=Tryz.isAgg359
 z171:=Tryz.sizeOf359
 v171:=Tryz.zeroValue359
 t173:=Tryz.underlying361
 a173:=Tryz.isAgg361
 z173:=Tryz.sizeOf361
 v173:=Tryz.zeroValue361
 t212:=Tryz.underlying374
 a212:=Tryz.isAgg374
 z212:=Tryz.sizeOf374
 v212:=Tryz.zeroValue374
 t213:=Tryz.underlying375
 a213:=Tryz.isAgg375
 z213:=Tryz.sizeOf375
 t232:=Tryz.underlying390
 a232:=Tryz.isAgg390
 z232:=Tryz.sizeOf390
 v232:=Tryz.zeroValue390
 t233:=Tryz.underlying391
 a233:=Tryz.isAgg391
 z233:=Tryz.sizeOf391
 v233:=Tryz.zeroValue391
 g17:=by kernel_rfl
 g18:=by kernel_rfl
 g19:=by kernel_rfl
 i0:=by kernel_rfl
 i2:=by kernel_rfl
 i3:=by kernel_rfl
 i4:=by kernel_rfl
 i5:=by kernel_rfl
 i9:=by kernel_rfl
 i20:=by kernel_rfl
 i37:=by kernel_rfl
 i46:=by kernel_rfl
 i51:=by kernel_rfl
 i53:=by kernel_rfl
 i171:=by kernel_rfl
 i173:=by kernel_rfl
 i212:=by kernel_rfl
 i232:=by kernel_rfl
 i233:=by kernel_rfl
 m17:=by kernel_rfl
 m18:=by kernel_rfl
 m19:=by kernel_rfl }
open Go.RowKit Go.Sort Go.Lib in
theorem Tryz.strconv_Itoa (n:Int) (h0 : -9223372036854775808<=n) (h1:n<=9223372036854775807) (w:World) (htab:Lib.TabIs Tryz.prog w "internal/strconv.uint64pow10" .u64 Lib.pow10Tab) :
 Calls Tryz.prog 255 #[.int .i64 n] w fun e w'=>e=.returned (.string ⟨(Lib.itoa n).toArray⟩)/\∃ k os,w'=grow (w.drewN k) os:=Any.strconv_Itoa Tryz.laysM171 n h0 h1 w htab
end Go.Proofs
namespace Go.Proofs.YtladjpombohpaaaGreatDoor
set_option maxRecDepth 100000
set_option maxHeartbeats 8000000
set_option linter.unusedVariables false
namespace Tk0
open Go.RowKit
open Ta0 Ta1 Ta2 Tc2 Tc5 Td1 Te1 Tx0
open Ss0 (bs bs_size bs_app ret_str sDec)
open Ss1 (tl tl_bs bs_tl)
/-- The table is laid. -/
structure TabK (w:World):Prop where
 pow:Lib.TabIs Tryz.prog w "internal/strconv.uint64pow10" .u64 Lib.pow10Tab
theorem TabK.below {w w':World} (h:TabK w) (k:Below w.heap.size w w'):TabK w':=⟨Lib.tabBelow_of_tabIs h.pow w' k⟩
theorem laid_at {P:Program} {W:World}:∀ {laid:List (String × DataW Unit)} {ps:List MemPlace},DataW.LaidVars P W laid ps->∀ {n:String} {d:DataW Unit},(n,d)∈laid ->
 ∃ g t cs fuel p,P.globalNamed n=some g/\(P.globals[g]?).map (·.type)=some t/\W.var? P n=some cs/\DataW.trod (fun _=>()) P W 0 (fun _=>true) false fuel t cs.toList=some (d,p):=by
 intro laid
 induction laid with
 | nil=>intro ps _ n d h;cases h
 | cons x r ih =>
   intro ps h n d hm
   obtain ⟨n',d'⟩:=x
   obtain ⟨g,t,cs,fuel,p,q,h1,h2,h3,h4,h5,_⟩:=h
   rcases List.mem_cons.1 hm with e|e
   ·cases e;exact ⟨g,t,cs,fuel,p,h1,h2,h3,h4⟩
   ·exact ih h5 e
theorem gPow:Tryz.prog.globalNamed "internal/strconv.uint64pow10" = some 3:=by kernel_rfl
theorem gtPow:(Tryz.prog.globals[3]?).map (·.type)=some 374:=by kernel_rfl
theorem tabk_of_laid {W:World} {laid:List (String × DataW Unit)} (h:laidMet Tryz.prog laid W)
 (h1:("internal/strconv.uint64pow10",Rows.laid_internal_strconv_uint64pow10)∈laid):TabK W:=by
 obtain ⟨ps,hL,_⟩:=h
 refine ⟨?_⟩
 obtain ⟨g,t,cs,fuel,p,e1,e2,e3,e4⟩:=laid_at hL h1
 obtain rfl:=Option.some.inj (gPow.symm.trans e1)
 obtain rfl:=Option.some.inj (gtPow.symm.trans e2)
 unfold Lib.TabIs
 rw [e3,<- Lib.cells_of_tab (k:=.u64) (zs:=Lib.pow10Tab) Tryz.underlying374 Tryz.underlying249 (by kernel_rfl) (by kernel_rfl) e4]
theorem itoa_dec (n:Nat):Lib.itoa (n:Int)=dec n:=by
 unfold Lib.itoa
 rw [if_neg (by omega),Int.toNat_natCast]
 induction n using Nat.strongRecOn with
 | ind n ih =>
   rw [Lib.decDigits]
   unfold dec
   by_cases h:n < 10
   ·rw [dif_pos h]
    by_cases h0:n=0
    ·subst h0;rfl
    ·rw [if_neg h0,digs_pos (by omega),show n / 10=0 by omega,digs_zero,show n % 10=n by omega];rfl
   ·rw [dif_neg h,if_neg (by omega),digs_pos (by omega),ih (n / 10) (by omega)]
    unfold dec
    rw [if_neg (by omega)]
theorem itoa (n:Nat) (hn:n < 1000000000) (w:World) (hT:TabK w) :
 Calls Tryz.prog 255 #[.int .i64 (n:Int)] w fun e w'=>e=.returned (.string (bs (dec n)))/\Below w.heap.size w w':=by
 refine (Tryz.strconv_Itoa (n:Int) (by omega) (by omega) w hT.pow).mono ?_
 rintro e w' ⟨rfl,k,os,rfl⟩
 exact ⟨by rw [itoa_dec];rfl,Lib.below_grow _ _ (Nat.le_refl _) k os⟩
/-- The key of a right table. -/
def keyL (n:Nat) (l:List UInt8):List UInt8:=dec n++(58 :: l)
theorem key_text (n:Nat) (l:List UInt8):bs (dec n)++⟨#[58]⟩++bs l=bs (keyL n l):=by
 rw [show (⟨#[58]⟩:ByteArray)=bs [58] from rfl,bs_app,bs_app]
 unfold keyL
 congr 1
 simp
theorem sKey0 {N:Int} {S:ByteArray} (w:World) (hS:S.size<=1048576) (h:tokB N (tl S)=false) :
 Calls Tryz.prog 95 #[tv N S] w fun e w'=>e=.returned (.string ByteArray.empty)/\Below w.heap.size w w':=by
 have HO:Hid (∀ W,Calls Tryz.prog 122 #[tv N S] W fun e w'=>e=.returned (.bool false)/\Below W.heap.size W w'):=fun W=>sOk0 W hS h
 have HA:Hid (Below w.heap.size w (w.alloc (.cells #[.int .i64 N,.string S] 32))):=(Below.refl _ _).alloc (Nat.le_refl _) _
 clear h
 go_enter Tryz.func95,Tryz.ntmps95
 go_wp2_with fail
 refine (HO.out _).mono ?_
 rintro e w1 ⟨rfl,hb⟩
 have HB:Hid (Below w.heap.size w w1):=HA.out.trans (hb.mono HA.out.size)
 clear hb
 go_wp2
 go_ret
 exact ⟨rfl,HB.out⟩
theorem iKey0 {N:Int} {S:ByteArray} (w:World) (hS:S.size<=1048576) (h:tokB N (tl S)=false) :
 Calls Tryz.prog 259 #[tv N S] w fun e w'=>e=.returned (.string ByteArray.empty)/\Below w.heap.size w w':=by
 have HO:Hid (∀ W,Calls Tryz.prog 150 #[tv N S] W fun e w'=>e=.returned (.bool false)/\Below W.heap.size W w'):=fun W=>iOk0 W hS h
 have HA:Hid (Below w.heap.size w (w.alloc (.cells #[.int .i64 N,.string S] 32))):=(Below.refl _ _).alloc (Nat.le_refl _) _
 clear h
 go_enter Tryz.func259,Tryz.ntmps259
 go_wp2_with fail
 refine (HO.out _).mono ?_
 rintro e w1 ⟨rfl,hb⟩
 have HB:Hid (Below w.heap.size w w1):=HA.out.trans (hb.mono HA.out.size)
 clear hb
 go_wp2
 go_ret
 exact ⟨rfl,HB.out⟩
theorem dec_short {n:Nat} (h:n<=12):(bs (dec n)).size<=2:=by
 have:∀ k:Fin 13,(dec k.val).length<=2:=by decide +kernel
 rw [bs_size]
 exact this ⟨n,by omega⟩
theorem sKey (n:Nat) (F:Nat->Bool) (w:World) (hn:n<=12) :
 Calls Tryz.prog 95 #[tv (n:Int) (bs (tab n F))] w fun e w'=>e=.returned (.string (bs (keyL n (tab n F))))/\Below w.heap.size w w':=by
 have HO:Hid (∀ W,Calls Tryz.prog 122 #[tv (n:Int) (bs (tab n F))] W fun e w'=>e=.returned (.bool true)/\Below W.heap.size W w'):=fun W=>sOk1 n F W hn
 have HD:Hid (∀ W,Calls Tryz.prog 96 #[.int .i64 (n:Int)] W fun e w'=>e=.returned (.string (bs (dec n)))/\w'=W):=fun W=>sDec n W (by omega)
 have HK:Hid (bs (dec n)++⟨#[58]⟩++bs (tab n F)=bs (keyL n (tab n F))):=key_text n _
 have hds:=dec_short hn
 have hss:(bs (tab n F)).size<=4096:=by rw [bs_size,tab_length];exact (p12 hn).2
 generalize bs (keyL n (tab n F))=K at *
 generalize bs (tab n F)=S at *
 generalize bs (dec n)=DS at *
 have HL0:Hid (Lay (w.alloc (.cells #[.int .i64 (n:Int),.string S] 32)) w.heap.size (.int .i64 (n:Int)) (.string S)):=Lay.made _ _ _ _
 have HA:Hid (Below w.heap.size w (w.alloc (.cells #[.int .i64 (n:Int),.string S] 32))):=(Below.refl _ _).alloc (Nat.le_refl _) _
 go_enter Tryz.func95,Tryz.ntmps95
 go_wp2_with fail
 refine (HO.out _).mono ?_
 rintro e w1 ⟨rfl,hb⟩
 have HB:Hid (Below w.heap.size w w1):=HA.out.trans (hb.mono HA.out.size)
 obtain ⟨x0,x1,_,_⟩:=HL0.out.below hb
 clear hb
 go_wp2_with fail
 go_quiet ((go_at_call 96;exact Calls.quiet_of_same (HD.out _)))
 go_wp2
 go_ret
 exact ⟨ret_str HK.out,below_drewN HB.out _⟩
theorem iKey (n:Nat) (F:Nat->Bool) (w:World) (hn:n<=12) (hT:TabK w) :
 Calls Tryz.prog 259 #[tv (n:Int) (bs (tab n F))] w fun e w'=>e=.returned (.string (bs (keyL n (tab n F))))/\Below w.heap.size w w':=by
 have HO:Hid (∀ W,Calls Tryz.prog 150 #[tv (n:Int) (bs (tab n F))] W fun e w'=>e=.returned (.bool true)/\Below W.heap.size W w'):=fun W=>iOk1 n F W hn
 have HD:Hid (∀ W,TabK W->Calls Tryz.prog 255 #[.int .i64 (n:Int)] W fun e w'=>e=.returned (.string (bs (dec n)))/\Below W.heap.size W w'):=fun W h=>itoa n (by omega) W h
 have HK:Hid (bs (dec n)++⟨#[58]⟩++bs (tab n F)=bs (keyL n (tab n F))):=key_text n _
 have hds:=dec_short hn
 have hss:(bs (tab n F)).size<=4096:=by rw [bs_size,tab_length];exact (p12 hn).2
 have HTK:Hid (TabK w):=hT
 clear hT
 generalize bs (keyL n (tab n F))=K at *
 generalize bs (tab n F)=S at *
 generalize bs (dec n)=DS at *
 have HL0:Hid (Lay (w.alloc (.cells #[.int .i64 (n:Int),.string S] 32)) w.heap.size (.int .i64 (n:Int)) (.string S)):=Lay.made _ _ _ _
 have HA:Hid (Below w.heap.size w (w.alloc (.cells #[.int .i64 (n:Int),.string S] 32))):=(Below.refl _ _).alloc (Nat.le_refl _) _
 go_enter Tryz.func259,Tryz.ntmps259
 go_wp2_with fail
 refine (HO.out _).mono ?_
 rintro e w1 ⟨rfl,hb⟩
 have HB:Hid (Below w.heap.size w w1):=HA.out.trans (hb.mono HA.out.size)
 have HX:Hid (Lay w1 w.heap.size (.int .i64 (n:Int)) (.string S)):=HL0.out.below hb
 clear hb
 obtain ⟨x0,x1,_,_⟩:=HX.out
 go_wp2_with fail
 go_region_with ((go_at_call 255;refine (HD.out _ (HTK.out.below (below_drewN HB.out 1))).mono ?_;rintro e w3 ⟨rfl,hb3⟩;have hS3:=(HX.out.kept (S:=fun _=>False) (Nd0.Kept.refl _ _).drew (fun h=>h)).below hb3;have HB3:Hid (Below w.heap.size w w3):=(below_drewN HB.out 1).trans (hb3.mono HB.out.size);obtain ⟨z0,z1,_,_⟩:=hS3))
 all_goals
  go_wp2
  go_ret
  exact ⟨ret_str HK.out,HB3.out⟩
end Tk0
end Go.Proofs.YtladjpombohpaaaGreatDoor
