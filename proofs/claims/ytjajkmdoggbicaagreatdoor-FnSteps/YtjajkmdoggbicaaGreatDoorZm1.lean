import Derived.Test.YtjajkmdoggbicaaGreatDoorPkST47
namespace Go.Proofs.YtjajkmdoggbicaaGreatDoor
set_option maxRecDepth 100000
set_option maxHeartbeats 8000000
set_option linter.unusedVariables false
namespace Zm1
open Go.RowKit
open Nd0 (Kept Ints lt_of_cell set_same set_other)
open Tc2 (tv)
open Ss0 (bs bs_size bs_app ret_str)
open Ss1 (tl tl_bs bs_tl)
open Tk0 (TabK keyL)
open Mm0 (Mc Mb Mr Mok mval)
open Qc0 (Sn SnAt Sns)
open Zs0 Zt0
open Zm0 Zb0
open Ta1 (tab tok_tab)
open Ta2 (bitB)
open Wp1 (vt vt_len)
open Za0 (rowT rowT_le sRowText)
open Tk0 (sKey)
open Mm2 (mokB sMachineOk)
open Zs5 (sv_ok sv_key sv_len sv_yes)
open Zs7 (SvP)
open Zs2 (bit_of)
theorem linTo_le (m:Mc) {i k:Nat} (h:i<=k):(linTo m i).flatten.length<=(linTo m k).flatten.length:=by
 induction k with
 | zero=>obtain rfl:i=0:=by omega
         exact Nat.le_refl _
 | succ k ih =>
   by_cases e:i=k+1
   ·subst e;exact Nat.le_refl _
   ·have:=ih (by omega)
    rw [linTo_next,List.flatten_append,List.length_append]
    omega
theorem sSave (m:Mc) (ra va ma:Option Addr) (rc vc mc:Nat) (w:World) (hR:Mr w m ra va ma) (hS:m.S.size<=1048576) (hK:∀ x∈m.memo,x.k.size<=1048576) :
 Calls Tryz.prog 11 #[mval m ra va ma rc vc mc] w fun e w'=>SvP m e/\Below w.heap.size w w':=by
 obtain ⟨X0,hX0⟩:∃ X,X=w.alloc (.cells #[.slice ra m.row.length rc,.int .i64 m.N,.string m.S,.int .i64 m.room,.slice va m.vals.length vc,.int .i64 m.ret,.bool m.over,.int .i64 m.steps,.int .i64 m.looks,.int .i64 m.hits,.slice ma m.memo.length mc] 30):=⟨_,rfl⟩
 have b0:Below w.heap.size w X0:=by rw [hX0];exact (Below.refl _ _).alloc (Nat.le_refl _) _
 have HB0:Hid (Below w.heap.size w X0):=b0
 have HM0:Hid (Mb X0 w.heap.size m ra va ma rc vc mc):=by rw [hX0];exact Mb.made _ _ _ _ _ _ _ _ _
 have hE:w.alloc (.cells #[.slice ra m.row.length rc,.int .i64 m.N,.string m.S,.int .i64 m.room,.slice va m.vals.length vc,.int .i64 m.ret,.bool m.over,.int .i64 m.steps,.int .i64 m.looks,.int .i64 m.hits,.slice ma m.memo.length mc] 30)=X0:=hX0.symm
 have HR:Hid (Mr w m ra va ma):=hR
 have HK:Hid (∀ x∈m.memo,x.k.size<=1048576):=hK
 have HMO:Hid (Calls Tryz.prog 28 #[mval m ra va ma rc vc mc] X0 fun e w'=>e=.returned (.bool (mokB m))/\Below X0.heap.size X0 w'):=sMachineOk m ra va ma rc vc mc X0 hS (hR.below b0)
 clear hX0 b0 hR hK hS
 go_enter Tryz.func11,Tryz.ntmps11
 go_upto_region 1 with fail
 clear hE
 obtain ⟨m0,m1,m2,m3,m4,m5,m6,m7,m8,m9,m10⟩:=HM0.out
 go_wp2_with fail
 clear m0 m1 m2 m3 m4 m5 m6 m7 m8 m9 m10
 refine Calls.mono HMO.out ?_
 rintro e w1 ⟨rfl,hb1⟩
 have HB1:Hid (Below w.heap.size w w1):=HB0.out.trans (hb1.mono HB0.out.size)
 have HM1:Hid (Mb w1 w.heap.size m ra va ma rc vc mc):=HM0.out.below hb1
 clear hb1 HB0 HM0 HMO
 cases hmk:mokB m
 ·have HF:Hid (svB m=false):=sv_ok hmk
  clear hmk
  go_wp2
  go_ret2
  exact ⟨SvP.no HF.out,HB1.out⟩
 have hok:Mok m:=by unfold mokB at hmk;simpa using hmk
 have HO:Hid (Mok m):=hok
 have HMK:Hid (mokB m=true):=hmk
 have hml:m.memo.length<=40:=by have h1:=hok.room;have h2:=hok.memo;omega
 clear hmk
 have hrl:m.row.length<=12/\m.vals.length<=12:=by
  obtain ⟨n,F,hn,hN,_⟩:=tok_tab hok.tab
  have h1:=hok.row
  have h2:=hok.vals
  omega
 obtain ⟨RT,hRT⟩:∃ T,T=bs (rowT m.row):=⟨_,rfl⟩
 have zRT:RT.size<=13:=by rw [hRT,bs_size];have:=rowT_le m.row;omega
 have HRT:Hid (∀ W,Mr W m ra va ma->Calls Tryz.prog 33 #[.slice ra m.row.length rc] W fun e w'=>e=.returned (.string RT)/\Below W.heap.size W w'):=fun W h=>by rw [hRT];exact sRowText W ra m.row rc h.row (by omega)
 obtain ⟨KT,hKT⟩:∃ T,T=bs (keyL m.N.toNat (tl m.S)):=⟨_,rfl⟩
 have zKT:KT.size<=4200:=by
  obtain ⟨n,F,hn,hN,hl⟩:=tok_tab hok.tab
  rw [hKT,bs_size,hN,hl,Int.toNat_natCast]
  unfold keyL
  rw [List.length_append,List.length_cons,Ta1.tab_length]
  have:=Zk0.dec_two hn
  have:=(Ta1.p12 hn).2
  omega
 have HKT:Hid (∀ W,Calls Tryz.prog 34 #[tv m.N m.S] W fun e w'=>e=.returned (.string KT)/\Below W.heap.size W w'):=fun W=>by
  obtain ⟨n,F,hn,hN,hl⟩:=tok_tab hok.tab
  have hS:m.S=bs (tab n F):=by rw [<- bs_tl m.S,hl]
  rw [hKT,hN,hS,tl_bs,Int.toNat_natCast]
  exact sKey n F W hn
 obtain ⟨VT,hVT⟩:∃ T,T=bs (vt m.vals):=⟨_,rfl⟩
 have zVT:VT.size<=13:=by rw [hVT,bs_size];have:=(vt_len m.vals).2;omega
 have HVT:Hid (∀ W,Mr W m ra va ma->Calls Tryz.prog 36 #[.slice va m.vals.length vc] W fun e w'=>e=.returned (.string VT)/\w'=W):=fun W h=>by rw [hVT];exact sVals W va m.vals vc h.vals hrl.2 (fun b hb=>bit_of (hok.bits b hb))
 have HBO:Hid (∀ W,Calls Tryz.prog 37 #[.bool m.over] W fun e w'=>e=.returned (.int .i64 (bI m.over))/\w'=W):=fun W=>sBool m.over W
 have D1l:(Lib.itoa m.room).length<=10:=itoa_len (by have:=hok.room;omega) (by have:=hok.room;omega)
 obtain ⟨D1,hD1⟩:∃ D,D=bs (Lib.itoa m.room):=⟨_,rfl⟩
 have zD1:D1.size<=10:=by rw [hD1,bs_size];exact D1l
 have HD1:Hid (∀ W,Calls Tryz.prog 35 #[.int .i64 m.room] W fun e w'=>e=.returned (.string D1)/\w'=W):=fun W=>by rw [hD1];exact sDecI m.room (by have:=hok.room;omega) (by have:=hok.room;omega) W
 have D2l:(Lib.itoa m.ret).length<=10:=itoa_len hok.ret.1 (by have:=hok.ret;omega)
 obtain ⟨D2,hD2⟩:∃ D,D=bs (Lib.itoa m.ret):=⟨_,rfl⟩
 have zD2:D2.size<=10:=by rw [hD2,bs_size];exact D2l
 have HD2:Hid (∀ W,Calls Tryz.prog 35 #[.int .i64 m.ret] W fun e w'=>e=.returned (.string D2)/\w'=W):=fun W=>by rw [hD2];exact sDecI m.ret hok.ret.1 (by have:=hok.ret;omega) W
 have D3l:(Lib.itoa (bI m.over)).length<=10:=itoa_len (by rcases bI_two m.over with e|e<;>omega) (by rcases bI_two m.over with e|e<;>omega)
 obtain ⟨D3,hD3⟩:∃ D,D=bs (Lib.itoa (bI m.over)):=⟨_,rfl⟩
 have zD3:D3.size<=10:=by rw [hD3,bs_size];exact D3l
 have HD3:Hid (∀ W,Calls Tryz.prog 35 #[.int .i64 (bI m.over)] W fun e w'=>e=.returned (.string D3)/\w'=W):=fun W=>by rw [hD3];exact sDecI (bI m.over) (by rcases bI_two m.over with e|e<;>omega) (by rcases bI_two m.over with e|e<;>omega) W
 have D4l:(Lib.itoa m.steps).length<=10:=itoa_len (by have:=hok.steps;omega) hok.steps.2
 obtain ⟨D4,hD4⟩:∃ D,D=bs (Lib.itoa m.steps):=⟨_,rfl⟩
 have zD4:D4.size<=10:=by rw [hD4,bs_size];exact D4l
 have HD4:Hid (∀ W,Calls Tryz.prog 35 #[.int .i64 m.steps] W fun e w'=>e=.returned (.string D4)/\w'=W):=fun W=>by rw [hD4];exact sDecI m.steps (by have:=hok.steps;omega) hok.steps.2 W
 have D5l:(Lib.itoa m.looks).length<=10:=itoa_len (by have:=hok.looks;omega) hok.looks.2
 obtain ⟨D5,hD5⟩:∃ D,D=bs (Lib.itoa m.looks):=⟨_,rfl⟩
 have zD5:D5.size<=10:=by rw [hD5,bs_size];exact D5l
 have HD5:Hid (∀ W,Calls Tryz.prog 35 #[.int .i64 m.looks] W fun e w'=>e=.returned (.string D5)/\w'=W):=fun W=>by rw [hD5];exact sDecI m.looks (by have:=hok.looks;omega) hok.looks.2 W
 have D6l:(Lib.itoa m.hits).length<=10:=itoa_len (by have:=hok.hits;omega) hok.hits.2
 obtain ⟨D6,hD6⟩:∃ D,D=bs (Lib.itoa m.hits):=⟨_,rfl⟩
 have zD6:D6.size<=10:=by rw [hD6,bs_size];exact D6l
 have HD6:Hid (∀ W,Calls Tryz.prog 35 #[.int .i64 m.hits] W fun e w'=>e=.returned (.string D6)/\w'=W):=fun W=>by rw [hD6];exact sDecI m.hits (by have:=hok.hits;omega) hok.hits.2 W
 obtain ⟨T0,hT0⟩:∃ T,⟨#[114,111,119,32]⟩++RT=(T:ByteArray):=⟨_,rfl⟩
 have zT0:T0.size<=100:=by rw [<- hT0,ByteArray.size_append];show 4+RT.size<=_;omega
 obtain ⟨T1,hT1⟩:∃ T,T0++⟨#[10,116,97,98,108,101,32]⟩=(T:ByteArray):=⟨_,rfl⟩
 have zT1:T1.size<=200:=by rw [<- hT1,ByteArray.size_append];have:((⟨#[10,116,97,98,108,101,32]⟩):ByteArray).size<=20:=(by decide);omega
 obtain ⟨T2,hT2⟩:∃ T,T1++KT=(T:ByteArray):=⟨_,rfl⟩
 have zT2:T2.size<=4500:=by rw [<- hT2,ByteArray.size_append];omega
 obtain ⟨T3,hT3⟩:∃ T,T2++⟨#[10,114,111,111,109,32]⟩=(T:ByteArray):=⟨_,rfl⟩
 have zT3:T3.size<=4600:=by rw [<- hT3,ByteArray.size_append];have:((⟨#[10,114,111,111,109,32]⟩):ByteArray).size<=20:=(by decide);omega
 obtain ⟨T4,hT4⟩:∃ T,T3++D1=(T:ByteArray):=⟨_,rfl⟩
 have zT4:T4.size<=4700:=by rw [<- hT4,ByteArray.size_append];omega
 obtain ⟨T5,hT5⟩:∃ T,T4++⟨#[10,118,97,108,115,32]⟩=(T:ByteArray):=⟨_,rfl⟩
 have zT5:T5.size<=4800:=by rw [<- hT5,ByteArray.size_append];have:((⟨#[10,118,97,108,115,32]⟩):ByteArray).size<=20:=(by decide);omega
 obtain ⟨T6,hT6⟩:∃ T,T5++VT=(T:ByteArray):=⟨_,rfl⟩
 have zT6:T6.size<=4900:=by rw [<- hT6,ByteArray.size_append];omega
 obtain ⟨T7,hT7⟩:∃ T,T6++⟨#[10,114,101,116,32]⟩=(T:ByteArray):=⟨_,rfl⟩
 have zT7:T7.size<=5000:=by rw [<- hT7,ByteArray.size_append];have:((⟨#[10,114,101,116,32]⟩):ByteArray).size<=20:=(by decide);omega
 obtain ⟨T8,hT8⟩:∃ T,T7++D2=(T:ByteArray):=⟨_,rfl⟩
 have zT8:T8.size<=5100:=by rw [<- hT8,ByteArray.size_append];omega
 obtain ⟨T9,hT9⟩:∃ T,T8++⟨#[10,111,118,101,114,32]⟩=(T:ByteArray):=⟨_,rfl⟩
 have zT9:T9.size<=5200:=by rw [<- hT9,ByteArray.size_append];have:((⟨#[10,111,118,101,114,32]⟩):ByteArray).size<=20:=(by decide);omega
 obtain ⟨T10,hT10⟩:∃ T,T9++D3=(T:ByteArray):=⟨_,rfl⟩
 have zT10:T10.size<=5300:=by rw [<- hT10,ByteArray.size_append];omega
 obtain ⟨T11,hT11⟩:∃ T,T10++⟨#[10,99,111,117,110,116,115,32]⟩=(T:ByteArray):=⟨_,rfl⟩
 have zT11:T11.size<=5400:=by rw [<- hT11,ByteArray.size_append];have:((⟨#[10,99,111,117,110,116,115,32]⟩):ByteArray).size<=20:=(by decide);omega
 obtain ⟨T12,hT12⟩:∃ T,T11++D4=(T:ByteArray):=⟨_,rfl⟩
 have zT12:T12.size<=5500:=by rw [<- hT12,ByteArray.size_append];omega
 obtain ⟨T13,hT13⟩:∃ T,T12++⟨#[32]⟩=(T:ByteArray):=⟨_,rfl⟩
 have zT13:T13.size<=5600:=by rw [<- hT13,ByteArray.size_append];have:((⟨#[32]⟩):ByteArray).size<=20:=(by decide);omega
 obtain ⟨T14,hT14⟩:∃ T,T13++D5=(T:ByteArray):=⟨_,rfl⟩
 have zT14:T14.size<=5700:=by rw [<- hT14,ByteArray.size_append];omega
 obtain ⟨T15,hT15⟩:∃ T,T14++⟨#[32]⟩=(T:ByteArray):=⟨_,rfl⟩
 have zT15:T15.size<=5800:=by rw [<- hT15,ByteArray.size_append];have:((⟨#[32]⟩):ByteArray).size<=20:=(by decide);omega
 obtain ⟨T16,hT16⟩:∃ T,T15++D6=(T:ByteArray):=⟨_,rfl⟩
 have zT16:T16.size<=5900:=by rw [<- hT16,ByteArray.size_append];omega
 obtain ⟨T17,hT17⟩:∃ T,T16++⟨#[10]⟩=(T:ByteArray):=⟨_,rfl⟩
 have zT17:T17.size<=6000:=by rw [<- hT17,ByteArray.size_append];have:((⟨#[10]⟩):ByteArray).size<=20:=(by decide);omega
 obtain ⟨hdrL,hhdr⟩:∃ l,l=(linTo m 7).flatten:=⟨_,rfl⟩
 have HHD:Hid (T17=bs hdrL):=by
  show _=_
  rw [hhdr,<- hT17,<- hT16,<- hT15,<- hT14,<- hT13,<- hT12,<- hT11,<- hT10,<- hT9,<- hT8,<- hT7,<- hT6,<- hT5,<- hT4,<- hT3,<- hT2,<- hT1,<- hT0,hRT,hKT,hVT,hD1,hD2,hD3,hD4,hD5,hD6]
  rw [show (⟨#[114,111,119,32]⟩:ByteArray)=bs [114,111,119,32] from rfl]
  rw [show (⟨#[10,116,97,98,108,101,32]⟩:ByteArray)=bs [10,116,97,98,108,101,32] from rfl]
  rw [show (⟨#[10,114,111,111,109,32]⟩:ByteArray)=bs [10,114,111,111,109,32] from rfl]
  rw [show (⟨#[10,118,97,108,115,32]⟩:ByteArray)=bs [10,118,97,108,115,32] from rfl]
  rw [show (⟨#[10,114,101,116,32]⟩:ByteArray)=bs [10,114,101,116,32] from rfl]
  rw [show (⟨#[10,111,118,101,114,32]⟩:ByteArray)=bs [10,111,118,101,114,32] from rfl]
  rw [show (⟨#[10,99,111,117,110,116,115,32]⟩:ByteArray)=bs [10,99,111,117,110,116,115,32] from rfl]
  rw [show (⟨#[32]⟩:ByteArray)=bs [32] from rfl]
  rw [show (⟨#[10]⟩:ByteArray)=bs [10] from rfl]
  simp only [bs_app]
  congr 1
  simp [linTo,lin,wd,bod,List.range_succ]
 have HHL:Hid (hdrL.length<=400000):=by
  show _<=_
  have h1:T17.size=hdrL.length:=by rw [HHD.out,bs_size]
  omega
 have HS0:Hid (¬ 9223372036854775807 < 4+RT.size):=by show ¬ _;omega
 have HT0:Hid (⟨#[114,111,119,32]⟩++RT=(T0:ByteArray)):=hT0
 have HS1:Hid (¬ 9223372036854775807 < T0.size+7):=by show ¬ _;omega
 have HT1:Hid (T0++⟨#[10,116,97,98,108,101,32]⟩=(T1:ByteArray)):=hT1
 have HS2:Hid (¬ 9223372036854775807 < T1.size+KT.size):=by show ¬ _;omega
 have HT2:Hid (T1++KT=(T2:ByteArray)):=hT2
 have HS3:Hid (¬ 9223372036854775807 < T2.size+6):=by show ¬ _;omega
 have HT3:Hid (T2++⟨#[10,114,111,111,109,32]⟩=(T3:ByteArray)):=hT3
 have HS4:Hid (¬ 9223372036854775807 < T3.size+D1.size):=by show ¬ _;omega
 have HT4:Hid (T3++D1=(T4:ByteArray)):=hT4
 have HS5:Hid (¬ 9223372036854775807 < T4.size+6):=by show ¬ _;omega
 have HT5:Hid (T4++⟨#[10,118,97,108,115,32]⟩=(T5:ByteArray)):=hT5
 have HS6:Hid (¬ 9223372036854775807 < T5.size+VT.size):=by show ¬ _;omega
 have HT6:Hid (T5++VT=(T6:ByteArray)):=hT6
 have HS7:Hid (¬ 9223372036854775807 < T6.size+5):=by show ¬ _;omega
 have HT7:Hid (T6++⟨#[10,114,101,116,32]⟩=(T7:ByteArray)):=hT7
 have HS8:Hid (¬ 9223372036854775807 < T7.size+D2.size):=by show ¬ _;omega
 have HT8:Hid (T7++D2=(T8:ByteArray)):=hT8
 have HS9:Hid (¬ 9223372036854775807 < T8.size+6):=by show ¬ _;omega
 have HT9:Hid (T8++⟨#[10,111,118,101,114,32]⟩=(T9:ByteArray)):=hT9
 have HS10:Hid (¬ 9223372036854775807 < T9.size+D3.size):=by show ¬ _;omega
 have HT10:Hid (T9++D3=(T10:ByteArray)):=hT10
 have HS11:Hid (¬ 9223372036854775807 < T10.size+8):=by show ¬ _;omega
 have HT11:Hid (T10++⟨#[10,99,111,117,110,116,115,32]⟩=(T11:ByteArray)):=hT11
 have HS12:Hid (¬ 9223372036854775807 < T11.size+D4.size):=by show ¬ _;omega
 have HT12:Hid (T11++D4=(T12:ByteArray)):=hT12
 have HS13:Hid (¬ 9223372036854775807 < T12.size+1):=by show ¬ _;omega
 have HT13:Hid (T12++⟨#[32]⟩=(T13:ByteArray)):=hT13
 have HS14:Hid (¬ 9223372036854775807 < T13.size+D5.size):=by show ¬ _;omega
 have HT14:Hid (T13++D5=(T14:ByteArray)):=hT14
 have HS15:Hid (¬ 9223372036854775807 < T14.size+1):=by show ¬ _;omega
 have HT15:Hid (T14++⟨#[32]⟩=(T15:ByteArray)):=hT15
 have HS16:Hid (¬ 9223372036854775807 < T15.size+D6.size):=by show ¬ _;omega
 have HT16:Hid (T15++D6=(T16:ByteArray)):=hT16
 have HS17:Hid (¬ 9223372036854775807 < T16.size+1):=by show ¬ _;omega
 have HT17:Hid (T16++⟨#[10]⟩=(T17:ByteArray)):=hT17
 have HHE:Hid (hdrL=(linTo m 7).flatten):=hhdr
 clear hrl hRT hKT hVT hD1 hD2 hD3 hD4 hD5 hD6 D1l D2l D3l D4l D5l D6l hok hhdr zRT zKT zVT zD1 zD2 zD3 zD4 zD5 zD6 hT0 zT0 hT1 zT1 hT2 zT2 hT3 zT3 hT4 zT4 hT5 zT5 hT6 zT6 hT7 zT7 hT8 zT8 hT9 zT9 hT10 zT10 hT11 zT11 hT12 zT12 hT13 zT13 hT14 zT14 hT15 zT15 hT16 zT16 hT17 zT17
 obtain ⟨d0,hd0⟩:∃ d,d=w1.drew:=⟨_,rfl⟩
 have HBd0:Hid (Below w.heap.size w d0):=by rw [hd0];exact HB1.out.drew
 have HMd0:Hid (Mb d0 w.heap.size m ra va ma rc vc mc):=by rw [hd0];exact HM1.out.below (Below.refl _ _).drew
 go_wp2_with fail
 subst hd0
 refine wp_region_held_drew (S:=(fun v=>Mb v w.heap.size m ra va ma rc vc mc)) (by kernel_rfl) HMd0.out (fun hHeld=>?_)
 refine wpAnyH_take (i:=0) (v:=?_) rfl (by kernel_rfl) (by kernel_rfl) (by kernel_rfl) (fun _ _ _ h=>h) (Or.inl ⟨by rfl,?_⟩) hHeld ?_
 rotate_left
 ·(intro v9 hS9;clear hS9;go_simp;try with_reducible rfl)
 try simp only [Act.put,List.setIfInBounds_toArray,List.set_cons_zero,List.set_cons_succ,List.getElem_toArray,List.getElem_cons_zero]
 refine wpAnyH_take (i:=1) (v:=?_) rfl (by kernel_rfl) (by kernel_rfl) (by kernel_rfl) (fun _ _ _ h=>h) (Or.inl ⟨by rfl,?_⟩) hHeld ?_
 rotate_left
 ·(intro v9 hS9;obtain ⟨z0,z1,z2,z3,z4,z5,z6,z7,z8,z9,z10⟩:=hS9;go_simp;try with_reducible rfl)
 try simp only [Act.put,List.setIfInBounds_toArray,List.set_cons_zero,List.set_cons_succ,List.getElem_toArray,List.getElem_cons_zero,List.getElem_cons_succ]
 refine wpAnyH_take (i:=5) (v:=?_) rfl (by kernel_rfl) (by kernel_rfl) (by kernel_rfl) (fun _ _ _ h=>h) (Or.inl ⟨by rfl,?_⟩) hHeld ?_
 rotate_left
 ·(intro v9 hS9;clear hS9;go_simp;try with_reducible rfl)
 try simp only [Act.put,List.setIfInBounds_toArray,List.set_cons_zero,List.set_cons_succ,List.getElem_toArray,List.getElem_cons_zero,List.getElem_cons_succ]
 refine wpAnyH_take (i:=6) (v:=?_) rfl (by kernel_rfl) (by kernel_rfl) (by kernel_rfl) (fun _ _ _ h=>h) (Or.inl ⟨by rfl,?_⟩) hHeld ?_
 rotate_left
 ·(intro v9 hS9;obtain ⟨z0,z1,z2,z3,z4,z5,z6,z7,z8,z9,z10⟩:=hS9;go_simp;try with_reducible rfl)
 try simp only [Act.put,List.setIfInBounds_toArray,List.set_cons_zero,List.set_cons_succ,List.getElem_toArray,List.getElem_cons_zero,List.getElem_cons_succ]
 refine wpAnyH_take (i:=10) (v:=?_) rfl (by kernel_rfl) (by kernel_rfl) (by kernel_rfl) (fun _ _ _ h=>h) (Or.inl ⟨by rfl,?_⟩) hHeld ?_
 rotate_left
 ·(intro v9 hS9;clear hS9;go_simp;try with_reducible rfl)
 try simp only [Act.put,List.setIfInBounds_toArray,List.set_cons_zero,List.set_cons_succ,List.getElem_toArray,List.getElem_cons_zero,List.getElem_cons_succ]
 refine wpAnyH_take (i:=11) (v:=?_) rfl (by kernel_rfl) (by kernel_rfl) (by kernel_rfl) (fun _ _ _ h=>h) (Or.inl ⟨by rfl,?_⟩) hHeld ?_
 rotate_left
 ·(intro v9 hS9;obtain ⟨z0,z1,z2,z3,z4,z5,z6,z7,z8,z9,z10⟩:=hS9;go_simp;try with_reducible rfl)
 try simp only [Act.put,List.setIfInBounds_toArray,List.set_cons_zero,List.set_cons_succ,List.getElem_toArray,List.getElem_cons_zero,List.getElem_cons_succ]
 refine wpAnyH_take (i:=15) (v:=?_) rfl (by kernel_rfl) (by kernel_rfl) (by kernel_rfl) (fun _ _ _ h=>h) (Or.inl ⟨by rfl,?_⟩) hHeld ?_
 rotate_left
 ·(intro v9 hS9;clear hS9;go_simp;try with_reducible rfl)
 try simp only [Act.put,List.setIfInBounds_toArray,List.set_cons_zero,List.set_cons_succ,List.getElem_toArray,List.getElem_cons_zero,List.getElem_cons_succ]
 refine wpAnyH_take (i:=16) (v:=?_) rfl (by kernel_rfl) (by kernel_rfl) (by kernel_rfl) (fun _ _ _ h=>h) (Or.inl ⟨by rfl,?_⟩) hHeld ?_
 rotate_left
 ·(intro v9 hS9;obtain ⟨z0,z1,z2,z3,z4,z5,z6,z7,z8,z9,z10⟩:=hS9;go_simp;try with_reducible rfl)
 try simp only [Act.put,List.setIfInBounds_toArray,List.set_cons_zero,List.set_cons_succ,List.getElem_toArray,List.getElem_cons_zero,List.getElem_cons_succ]
 refine wpAnyH_take (i:=20) (v:=?_) rfl (by kernel_rfl) (by kernel_rfl) (by kernel_rfl) (fun _ _ _ h=>h) (Or.inl ⟨by rfl,?_⟩) hHeld ?_
 rotate_left
 ·(intro v9 hS9;clear hS9;go_simp;try with_reducible rfl)
 try simp only [Act.put,List.setIfInBounds_toArray,List.set_cons_zero,List.set_cons_succ,List.getElem_toArray,List.getElem_cons_zero,List.getElem_cons_succ]
 refine wpAnyH_take (i:=21) (v:=?_) rfl (by kernel_rfl) (by kernel_rfl) (by kernel_rfl) (fun _ _ _ h=>h) (Or.inl ⟨by rfl,?_⟩) hHeld ?_
 rotate_left
 ·(intro v9 hS9;obtain ⟨z0,z1,z2,z3,z4,z5,z6,z7,z8,z9,z10⟩:=hS9;go_simp;try with_reducible rfl)
 try simp only [Act.put,List.setIfInBounds_toArray,List.set_cons_zero,List.set_cons_succ,List.getElem_toArray,List.getElem_cons_zero,List.getElem_cons_succ]
 refine wpAnyH_take (i:=25) (v:=?_) rfl (by kernel_rfl) (by kernel_rfl) (by kernel_rfl) (fun _ _ _ h=>h) (Or.inl ⟨by rfl,?_⟩) hHeld ?_
 rotate_left
 ·(intro v9 hS9;clear hS9;go_simp;try with_reducible rfl)
 try simp only [Act.put,List.setIfInBounds_toArray,List.set_cons_zero,List.set_cons_succ,List.getElem_toArray,List.getElem_cons_zero,List.getElem_cons_succ]
 refine wpAnyH_take (i:=26) (v:=?_) rfl (by kernel_rfl) (by kernel_rfl) (by kernel_rfl) (fun _ _ _ h=>h) (Or.inl ⟨by rfl,?_⟩) hHeld ?_
 rotate_left
 ·(intro v9 hS9;obtain ⟨z0,z1,z2,z3,z4,z5,z6,z7,z8,z9,z10⟩:=hS9;go_simp;try with_reducible rfl)
 try simp only [Act.put,List.setIfInBounds_toArray,List.set_cons_zero,List.set_cons_succ,List.getElem_toArray,List.getElem_cons_zero,List.getElem_cons_succ]
 refine wpAnyH_take (i:=31) (v:=?_) rfl (by kernel_rfl) (by kernel_rfl) (by kernel_rfl) (fun _ _ _ h=>h) (Or.inl ⟨by rfl,?_⟩) hHeld ?_
 rotate_left
 ·(intro v9 hS9;clear hS9;go_simp;try with_reducible rfl)
 try simp only [Act.put,List.setIfInBounds_toArray,List.set_cons_zero,List.set_cons_succ,List.getElem_toArray,List.getElem_cons_zero,List.getElem_cons_succ]
 refine wpAnyH_take (i:=32) (v:=?_) rfl (by kernel_rfl) (by kernel_rfl) (by kernel_rfl) (fun _ _ _ h=>h) (Or.inl ⟨by rfl,?_⟩) hHeld ?_
 rotate_left
 ·(intro v9 hS9;obtain ⟨z0,z1,z2,z3,z4,z5,z6,z7,z8,z9,z10⟩:=hS9;go_simp;try with_reducible rfl)
 try simp only [Act.put,List.setIfInBounds_toArray,List.set_cons_zero,List.set_cons_succ,List.getElem_toArray,List.getElem_cons_zero,List.getElem_cons_succ]
 refine wpAnyH_take (i:=36) (v:=?_) rfl (by kernel_rfl) (by kernel_rfl) (by kernel_rfl) (fun _ _ _ h=>h) (Or.inl ⟨by rfl,?_⟩) hHeld ?_
 rotate_left
 ·(intro v9 hS9;clear hS9;go_simp;try with_reducible rfl)
 try simp only [Act.put,List.setIfInBounds_toArray,List.set_cons_zero,List.set_cons_succ,List.getElem_toArray,List.getElem_cons_zero,List.getElem_cons_succ]
 refine wpAnyH_take (i:=37) (v:=?_) rfl (by kernel_rfl) (by kernel_rfl) (by kernel_rfl) (fun _ _ _ h=>h) (Or.inl ⟨by rfl,?_⟩) hHeld ?_
 rotate_left
 ·(intro v9 hS9;obtain ⟨z0,z1,z2,z3,z4,z5,z6,z7,z8,z9,z10⟩:=hS9;go_simp;try with_reducible rfl)
 try simp only [Act.put,List.setIfInBounds_toArray,List.set_cons_zero,List.set_cons_succ,List.getElem_toArray,List.getElem_cons_zero,List.getElem_cons_succ]
 refine wpAnyH_take (i:=41) (v:=?_) rfl (by kernel_rfl) (by kernel_rfl) (by kernel_rfl) (fun _ _ _ h=>h) (Or.inl ⟨by rfl,?_⟩) hHeld ?_
 rotate_left
 ·(intro v9 hS9;clear hS9;go_simp;try with_reducible rfl)
 try simp only [Act.put,List.setIfInBounds_toArray,List.set_cons_zero,List.set_cons_succ,List.getElem_toArray,List.getElem_cons_zero,List.getElem_cons_succ]
 refine wpAnyH_take (i:=42) (v:=?_) rfl (by kernel_rfl) (by kernel_rfl) (by kernel_rfl) (fun _ _ _ h=>h) (Or.inl ⟨by rfl,?_⟩) hHeld ?_
 rotate_left
 ·(intro v9 hS9;obtain ⟨z0,z1,z2,z3,z4,z5,z6,z7,z8,z9,z10⟩:=hS9;go_simp;try with_reducible rfl)
 try simp only [Act.put,List.setIfInBounds_toArray,List.set_cons_zero,List.set_cons_succ,List.getElem_toArray,List.getElem_cons_zero,List.getElem_cons_succ]
 refine wpAnyH_ready (rs:=[2]) (by kernel_rfl) (by simp) ?_
 refine AllReadyH.cons rfl (fun K hK=>?_) AllReadyH.nil
 go_simp
 go_wp2_with (go_at_call 33;refine (HRT.out _ (HR.out.below HBd0.out)).mono ?_;rintro e d1 ⟨rfl,hb⟩;have HMd1:Hid (Mb d1 w.heap.size m ra va ma rc vc mc):=HMd0.out.below hb;have HBd1:Hid (Below w.heap.size w d1):=HBd0.out.trans (hb.mono HBd0.out.size);clear hb)
 refine hK.out _ _ HMd1.out (fun hNext=>?_)
 clear hK K hHeld
 have hHeld:=hNext
 clear hNext
 refine wpAnyH_take (i:=3) (v:=?_) rfl (by kernel_rfl) (by kernel_rfl) (by kernel_rfl) (fun _ _ _ h=>h) (Or.inl ⟨by rfl,?_⟩) hHeld ?_
 rotate_left
 ·(intro v9 hS9;clear hS9;have hT:=HT0.out;have hs:=HS0.out;go_simp;try with_reducible rfl)
 try simp only [Act.put,List.setIfInBounds_toArray,List.set_cons_zero,List.set_cons_succ,List.getElem_toArray,List.getElem_cons_zero,List.getElem_cons_succ]
 refine wpAnyH_take (i:=4) (v:=?_) rfl (by kernel_rfl) (by kernel_rfl) (by kernel_rfl) (fun _ _ _ h=>h) (Or.inl ⟨by rfl,?_⟩) hHeld ?_
 rotate_left
 ·(intro v9 hS9;clear hS9;have hT:=HT1.out;have hs:=HS1.out;go_simp;try with_reducible rfl)
 try simp only [Act.put,List.setIfInBounds_toArray,List.set_cons_zero,List.set_cons_succ,List.getElem_toArray,List.getElem_cons_zero,List.getElem_cons_succ]
 refine wpAnyH_ready (rs:=[7]) (by kernel_rfl) (by simp) ?_
 refine AllReadyH.cons rfl (fun K hK=>?_) AllReadyH.nil
 go_simp
 go_wp2_with (go_at_call 34;refine (HKT.out _).mono ?_;rintro e d2 ⟨rfl,hb⟩;have HMd2:Hid (Mb d2 w.heap.size m ra va ma rc vc mc):=HMd1.out.below hb;have HBd2:Hid (Below w.heap.size w d2):=HBd1.out.trans (hb.mono HBd1.out.size);clear hb)
 refine hK.out _ _ HMd2.out (fun hNext=>?_)
 clear hK K hHeld
 have hHeld:=hNext
 clear hNext
 refine wpAnyH_take (i:=8) (v:=?_) rfl (by kernel_rfl) (by kernel_rfl) (by kernel_rfl) (fun _ _ _ h=>h) (Or.inl ⟨by rfl,?_⟩) hHeld ?_
 rotate_left
 ·(intro v9 hS9;clear hS9;have hT:=HT2.out;have hs:=HS2.out;go_simp;try with_reducible rfl)
 try simp only [Act.put,List.setIfInBounds_toArray,List.set_cons_zero,List.set_cons_succ,List.getElem_toArray,List.getElem_cons_zero,List.getElem_cons_succ]
 refine wpAnyH_take (i:=9) (v:=?_) rfl (by kernel_rfl) (by kernel_rfl) (by kernel_rfl) (fun _ _ _ h=>h) (Or.inl ⟨by rfl,?_⟩) hHeld ?_
 rotate_left
 ·(intro v9 hS9;clear hS9;have hT:=HT3.out;have hs:=HS3.out;go_simp;try with_reducible rfl)
 try simp only [Act.put,List.setIfInBounds_toArray,List.set_cons_zero,List.set_cons_succ,List.getElem_toArray,List.getElem_cons_zero,List.getElem_cons_succ]
 refine wpAnyH_ready (rs:=[12]) (by kernel_rfl) (by simp) ?_
 refine AllReadyH.cons rfl (fun K hK=>?_) AllReadyH.nil
 go_simp
 go_wp2_with (go_at_call 35;refine (HD1.out _).mono ?_;rintro e wq ⟨rfl,hwq⟩;have hwq':=hwq.symm;clear hwq;subst hwq')
 refine hK.out _ _ HMd2.out (fun hNext=>?_)
 clear hK K hHeld
 have hHeld:=hNext
 clear hNext
 refine wpAnyH_take (i:=13) (v:=?_) rfl (by kernel_rfl) (by kernel_rfl) (by kernel_rfl) (fun _ _ _ h=>h) (Or.inl ⟨by rfl,?_⟩) hHeld ?_
 rotate_left
 ·(intro v9 hS9;clear hS9;have hT:=HT4.out;have hs:=HS4.out;go_simp;try with_reducible rfl)
 try simp only [Act.put,List.setIfInBounds_toArray,List.set_cons_zero,List.set_cons_succ,List.getElem_toArray,List.getElem_cons_zero,List.getElem_cons_succ]
 refine wpAnyH_take (i:=14) (v:=?_) rfl (by kernel_rfl) (by kernel_rfl) (by kernel_rfl) (fun _ _ _ h=>h) (Or.inl ⟨by rfl,?_⟩) hHeld ?_
 rotate_left
 ·(intro v9 hS9;clear hS9;have hT:=HT5.out;have hs:=HS5.out;go_simp;try with_reducible rfl)
 try simp only [Act.put,List.setIfInBounds_toArray,List.set_cons_zero,List.set_cons_succ,List.getElem_toArray,List.getElem_cons_zero,List.getElem_cons_succ]
 refine wpAnyH_ready (rs:=[17]) (by kernel_rfl) (by simp) ?_
 refine AllReadyH.cons rfl (fun K hK=>?_) AllReadyH.nil
 go_simp
 go_wp2_with (go_at_call 36;refine (HVT.out _ (HR.out.below HBd2.out)).mono ?_;rintro e wq ⟨rfl,hwq⟩;have hwq':=hwq.symm;clear hwq;subst hwq')
 refine hK.out _ _ HMd2.out (fun hNext=>?_)
 clear hK K hHeld
 have hHeld:=hNext
 clear hNext
 refine wpAnyH_take (i:=18) (v:=?_) rfl (by kernel_rfl) (by kernel_rfl) (by kernel_rfl) (fun _ _ _ h=>h) (Or.inl ⟨by rfl,?_⟩) hHeld ?_
 rotate_left
 ·(intro v9 hS9;clear hS9;have hT:=HT6.out;have hs:=HS6.out;go_simp;try with_reducible rfl)
 try simp only [Act.put,List.setIfInBounds_toArray,List.set_cons_zero,List.set_cons_succ,List.getElem_toArray,List.getElem_cons_zero,List.getElem_cons_succ]
 refine wpAnyH_take (i:=19) (v:=?_) rfl (by kernel_rfl) (by kernel_rfl) (by kernel_rfl) (fun _ _ _ h=>h) (Or.inl ⟨by rfl,?_⟩) hHeld ?_
 rotate_left
 ·(intro v9 hS9;clear hS9;have hT:=HT7.out;have hs:=HS7.out;go_simp;try with_reducible rfl)
 try simp only [Act.put,List.setIfInBounds_toArray,List.set_cons_zero,List.set_cons_succ,List.getElem_toArray,List.getElem_cons_zero,List.getElem_cons_succ]
 refine wpAnyH_ready (rs:=[22]) (by kernel_rfl) (by simp) ?_
 refine AllReadyH.cons rfl (fun K hK=>?_) AllReadyH.nil
 go_simp
 go_wp2_with (go_at_call 35;refine (HD2.out _).mono ?_;rintro e wq ⟨rfl,hwq⟩;have hwq':=hwq.symm;clear hwq;subst hwq')
 refine hK.out _ _ HMd2.out (fun hNext=>?_)
 clear hK K hHeld
 have hHeld:=hNext
 clear hNext
 refine wpAnyH_take (i:=23) (v:=?_) rfl (by kernel_rfl) (by kernel_rfl) (by kernel_rfl) (fun _ _ _ h=>h) (Or.inl ⟨by rfl,?_⟩) hHeld ?_
 rotate_left
 ·(intro v9 hS9;clear hS9;have hT:=HT8.out;have hs:=HS8.out;go_simp;try with_reducible rfl)
 try simp only [Act.put,List.setIfInBounds_toArray,List.set_cons_zero,List.set_cons_succ,List.getElem_toArray,List.getElem_cons_zero,List.getElem_cons_succ]
 refine wpAnyH_take (i:=24) (v:=?_) rfl (by kernel_rfl) (by kernel_rfl) (by kernel_rfl) (fun _ _ _ h=>h) (Or.inl ⟨by rfl,?_⟩) hHeld ?_
 rotate_left
 ·(intro v9 hS9;clear hS9;have hT:=HT9.out;have hs:=HS9.out;go_simp;try with_reducible rfl)
 try simp only [Act.put,List.setIfInBounds_toArray,List.set_cons_zero,List.set_cons_succ,List.getElem_toArray,List.getElem_cons_zero,List.getElem_cons_succ]
 refine wpAnyH_ready (rs:=[27]) (by kernel_rfl) (by simp) ?_
 refine AllReadyH.cons rfl (fun K hK=>?_) AllReadyH.nil
 go_simp
 go_wp2_with (go_at_call 37;refine (HBO.out _).mono ?_;rintro e wq ⟨rfl,hwq⟩;have hwq':=hwq.symm;clear hwq;subst hwq')
 refine hK.out _ _ HMd2.out (fun hNext=>?_)
 clear hK K hHeld
 have hHeld:=hNext
 clear hNext
 refine wpAnyH_ready (rs:=[28]) (by kernel_rfl) (by simp) ?_
 refine AllReadyH.cons rfl (fun K hK=>?_) AllReadyH.nil
 go_simp
 go_wp2_with (go_at_call 35;refine (HD3.out _).mono ?_;rintro e wq ⟨rfl,hwq⟩;have hwq':=hwq.symm;clear hwq;subst hwq')
 refine hK.out _ _ HMd2.out (fun hNext=>?_)
 clear hK K hHeld
 have hHeld:=hNext
 clear hNext
 refine wpAnyH_take (i:=29) (v:=?_) rfl (by kernel_rfl) (by kernel_rfl) (by kernel_rfl) (fun _ _ _ h=>h) (Or.inl ⟨by rfl,?_⟩) hHeld ?_
 rotate_left
 ·(intro v9 hS9;clear hS9;have hT:=HT10.out;have hs:=HS10.out;go_simp;try with_reducible rfl)
 try simp only [Act.put,List.setIfInBounds_toArray,List.set_cons_zero,List.set_cons_succ,List.getElem_toArray,List.getElem_cons_zero,List.getElem_cons_succ]
 refine wpAnyH_take (i:=30) (v:=?_) rfl (by kernel_rfl) (by kernel_rfl) (by kernel_rfl) (fun _ _ _ h=>h) (Or.inl ⟨by rfl,?_⟩) hHeld ?_
 rotate_left
 ·(intro v9 hS9;clear hS9;have hT:=HT11.out;have hs:=HS11.out;go_simp;try with_reducible rfl)
 try simp only [Act.put,List.setIfInBounds_toArray,List.set_cons_zero,List.set_cons_succ,List.getElem_toArray,List.getElem_cons_zero,List.getElem_cons_succ]
 refine wpAnyH_ready (rs:=[33]) (by kernel_rfl) (by simp) ?_
 refine AllReadyH.cons rfl (fun K hK=>?_) AllReadyH.nil
 go_simp
 go_wp2_with (go_at_call 35;refine (HD4.out _).mono ?_;rintro e wq ⟨rfl,hwq⟩;have hwq':=hwq.symm;clear hwq;subst hwq')
 refine hK.out _ _ HMd2.out (fun hNext=>?_)
 clear hK K hHeld
 have hHeld:=hNext
 clear hNext
 refine wpAnyH_take (i:=34) (v:=?_) rfl (by kernel_rfl) (by kernel_rfl) (by kernel_rfl) (fun _ _ _ h=>h) (Or.inl ⟨by rfl,?_⟩) hHeld ?_
 rotate_left
 ·(intro v9 hS9;clear hS9;have hT:=HT12.out;have hs:=HS12.out;go_simp;try with_reducible rfl)
 try simp only [Act.put,List.setIfInBounds_toArray,List.set_cons_zero,List.set_cons_succ,List.getElem_toArray,List.getElem_cons_zero,List.getElem_cons_succ]
 refine wpAnyH_take (i:=35) (v:=?_) rfl (by kernel_rfl) (by kernel_rfl) (by kernel_rfl) (fun _ _ _ h=>h) (Or.inl ⟨by rfl,?_⟩) hHeld ?_
 rotate_left
 ·(intro v9 hS9;clear hS9;have hT:=HT13.out;have hs:=HS13.out;go_simp;try with_reducible rfl)
 try simp only [Act.put,List.setIfInBounds_toArray,List.set_cons_zero,List.set_cons_succ,List.getElem_toArray,List.getElem_cons_zero,List.getElem_cons_succ]
 refine wpAnyH_ready (rs:=[38]) (by kernel_rfl) (by simp) ?_
 refine AllReadyH.cons rfl (fun K hK=>?_) AllReadyH.nil
 go_simp
 go_wp2_with (go_at_call 35;refine (HD5.out _).mono ?_;rintro e wq ⟨rfl,hwq⟩;have hwq':=hwq.symm;clear hwq;subst hwq')
 refine hK.out _ _ HMd2.out (fun hNext=>?_)
 clear hK K hHeld
 have hHeld:=hNext
 clear hNext
 refine wpAnyH_take (i:=39) (v:=?_) rfl (by kernel_rfl) (by kernel_rfl) (by kernel_rfl) (fun _ _ _ h=>h) (Or.inl ⟨by rfl,?_⟩) hHeld ?_
 rotate_left
 ·(intro v9 hS9;clear hS9;have hT:=HT14.out;have hs:=HS14.out;go_simp;try with_reducible rfl)
 try simp only [Act.put,List.setIfInBounds_toArray,List.set_cons_zero,List.set_cons_succ,List.getElem_toArray,List.getElem_cons_zero,List.getElem_cons_succ]
 refine wpAnyH_take (i:=40) (v:=?_) rfl (by kernel_rfl) (by kernel_rfl) (by kernel_rfl) (fun _ _ _ h=>h) (Or.inl ⟨by rfl,?_⟩) hHeld ?_
 rotate_left
 ·(intro v9 hS9;clear hS9;have hT:=HT15.out;have hs:=HS15.out;go_simp;try with_reducible rfl)
 try simp only [Act.put,List.setIfInBounds_toArray,List.set_cons_zero,List.set_cons_succ,List.getElem_toArray,List.getElem_cons_zero,List.getElem_cons_succ]
 refine wpAnyH_ready (rs:=[43]) (by kernel_rfl) (by simp) ?_
 refine AllReadyH.cons rfl (fun K hK=>?_) AllReadyH.nil
 go_simp
 go_wp2_with (go_at_call 35;refine (HD6.out _).mono ?_;rintro e wq ⟨rfl,hwq⟩;have hwq':=hwq.symm;clear hwq;subst hwq')
 refine hK.out _ _ HMd2.out (fun hNext=>?_)
 clear hK K hHeld
 have hHeld:=hNext
 clear hNext
 refine wpAnyH_take (i:=44) (v:=?_) rfl (by kernel_rfl) (by kernel_rfl) (by kernel_rfl) (fun _ _ _ h=>h) (Or.inl ⟨by rfl,?_⟩) hHeld ?_
 rotate_left
 ·(intro v9 hS9;clear hS9;have hT:=HT16.out;have hs:=HS16.out;go_simp;try with_reducible rfl)
 try simp only [Act.put,List.setIfInBounds_toArray,List.set_cons_zero,List.set_cons_succ,List.getElem_toArray,List.getElem_cons_zero,List.getElem_cons_succ]
 refine wpAnyH_take (i:=45) (v:=?_) rfl (by kernel_rfl) (by kernel_rfl) (by kernel_rfl) (fun _ _ _ h=>h) (Or.inl ⟨by rfl,?_⟩) hHeld ?_
 rotate_left
 ·(intro v9 hS9;clear hS9;have hT:=HT17.out;have hs:=HS17.out;go_simp;try with_reducible rfl)
 try simp only [Act.put,List.setIfInBounds_toArray,List.set_cons_zero,List.set_cons_succ,List.getElem_toArray,List.getElem_cons_zero,List.getElem_cons_succ]
 obtain ⟨cp,wc,hcv,hlie,hbc⟩:=bytesB d2 hdrL
 rw [<- HHD.out] at hcv
 have HLI:Hid (LieB wc d2.heap.size cp hdrL):=hlie
 have HBC:Hid (Below w.heap.size w wc):=HBd2.out.trans (hbc.mono HBd2.out.size)
 have HMC:Hid (Mb wc w.heap.size m ra va ma rc vc mc):=HMd2.out.below hbc
 have hgd:w.heap.size+1<=d2.heap.size:=HMd2.out.lt
 clear hlie hbc
 refine wpAnyH_ready (rs:=[46]) (by kernel_rfl) (by simp) ?_
 refine AllReadyH.cons rfl (fun K hK=>?_) AllReadyH.nil
 go_simp
 refine hK.out _ _ HMC.out (fun hNext=>?_)
 clear hK K hHeld hcv
 have hHeld:=hNext
 clear hNext
 refine wpAnyH_take (i:=47) (v:=?_) rfl (by kernel_rfl) (by kernel_rfl) (by kernel_rfl) (fun _ _ _ h=>h) (Or.inl ⟨by rfl,?_⟩) hHeld ?_
 rotate_left
 ·(intro v9 hS9;clear hS9;go_simp;try with_reducible rfl)
 try simp only [Act.put,List.setIfInBounds_toArray,List.set_cons_zero,List.set_cons_succ,List.getElem_toArray,List.getElem_cons_zero,List.getElem_cons_succ]
 refine wpAnyH_done (by kernel_rfl) ?_ _
 go_wp2
 clear HS0 HT0 HS1 HT1 HS2 HT2 HS3 HT3 HS4 HT4 HS5 HT5 HS6 HT6 HS7 HT7 HS8 HT8 HS9 HT9 HS10 HT10 HS11 HT11 HS12 HT12 HS13 HT13 HS14 HT14 HS15 HT15 HS16 HT16 HS17 HT17 HRT HKT HVT HBO HD1 HD2 HD3 HD4 HD5 HD6
 go_loopw [4,5] (fun v i wr=>∃ k g cp:Nat,k<=m.memo.length/\i=.int .i64 k/\v=.slice (some ⟨g,0,none⟩) (linTo m (k+7)).flatten.length cp/\LieB wr g cp (linTo m (k+7)).flatten/\w.heap.size+1<=g/\Below w.heap.size w wr/\Mb wr w.heap.size m ra va ma rc vc mc/\(∀ j (hj:j < m.memo.length),j < k->plB (tl m.memo[j].k)=true)/\(linTo m (k+7)).flatten.length<=400000) (fun _ i _=>m.memo.length - (intOf i).toNat)
 case atStart=>exact ⟨0,d2.heap.size,cp,Nat.zero_le _,rfl,by rw [HHE.out],by rw [<- HHE.out];exact HLI.out,hgd,HBC.out,HMC.out,fun j _ h=>by omega,by rw [<- HHE.out];exact HHL.out⟩
 case round =>
  clear HHE HLI HBC HMC HHL hgd HHD
  obtain ⟨k,g,cp,hk,rfl,rfl,hli,hg,hbr,hmr,hpl,hle⟩:=hrel
  have HB:Hid (Below w.heap.size w wr):=hbr
  have HM:Hid (Mb wr w.heap.size m ra va ma rc vc mc):=hmr
  have HLI:Hid (LieB wr g cp (linTo m (k+7)).flatten):=hli
  have HPL:Hid (∀ j (hj:j < m.memo.length),j < k->plB (tl m.memo[j].k)=true):=hpl
  clear hbr hmr hli hpl
  obtain ⟨L,hL⟩:∃ n,n=(linTo m (k+7)).flatten.length:=⟨_,rfl⟩
  rw [<- hL] at hle ⊢
  have HL:Hid ((linTo m (k+7)).flatten.length=L):=hL.symm
  clear hL
  by_cases hlt:k < m.memo.length
  rotate_left
  ·have hlz:¬ (k:Int) < (m.memo.length:Int):=by omega
   have e:k=m.memo.length:=by omega
   have HST:Hid ((linTo m (k+7)).flatten=savT m):=by
    show _=_
    unfold savT
    rw [e,Nat.add_comm]
   have HF:Hid (svB m=true):=sv_yes HMK.out (fun x hx=>by
    obtain ⟨j,hj,rfl⟩:=List.getElem_of_mem hx
    exact HPL.out j hj (by omega)) (by rw [<- HST.out,HL.out];exact hle)
   have hcv:=HLI.out.text
   rw [HL.out] at hcv
   obtain ⟨R,hR⟩:∃ R,R=bs (linTo m (k+7)).flatten:=⟨_,rfl⟩
   have HRR:Hid (R=bs (savT m)):=by show _=_;rw [hR,HST.out]
   rw [<- hR] at hcv
   obtain ⟨m0,m1,m2,m3,m4,m5,m6,m7,m8,m9,m10⟩:=HM.out
   have hwm:=HM.out.lt
   clear e hR
   go_wp2
   go_ret2
   exact ⟨SvP.yes HF.out HRR.out,HB.out⟩
  have hlz:(k:Int) < (m.memo.length:Int):=by omega
  obtain ⟨mb,mo,hma,hsn,hmbw⟩:∃ b o,ma=some ⟨b,o,none⟩/\SnAt wr b (o+k*2) m.memo[k]/\b < w.heap.size:=by
   rcases (HR.out.below HB.out).memo.2 with e|⟨b,o,e,hc⟩
   ·omega
   ·rcases HR.out.memo.2 with e'|⟨b',o',e',hc'⟩
    ·omega
    ·rw [e] at e'
     cases e'
     exact ⟨b,o,e,hc k hlt,lt_of_cell (hc' k hlt).c0⟩
  have HPK:Hid (∀ W,Calls Tryz.prog 38 #[.string m.memo[k].k] W fun e w'=>e=.returned (.bool (plB (tl m.memo[k].k)))/\w'=W):=fun W=>sPlain m.memo[k].k W (HK.out _ (List.getElem_mem hlt))
  have HNO:Hid (plB (tl m.memo[k].k)=false->svB m=false):=fun h=>sv_key (List.getElem_mem hlt) h
  have HYE:Hid (plB (tl m.memo[k].k)=true->∀ j (hj:j < m.memo.length),j < k+1->plB (tl m.memo[j].k)=true):=fun h j hj h2=>by
   by_cases e:j=k
   ·subst e;exact h
   ·exact HPL.out j hj (by omega)
  have hks:m.memo[k].k.size<=1048576:=HK.out _ (List.getElem_mem hlt)
  have hrs:=HO.out.seen _ (List.getElem_mem hlt)
  have hil:(Lib.itoa m.memo[k].r).length<=10:=itoa_len (by omega) (by omega)
  obtain ⟨DX,hDX⟩:∃ D,D=bs (Lib.itoa m.memo[k].r):=⟨_,rfl⟩
  have zDX:DX.size<=10:=by rw [hDX,bs_size];exact hil
  have HDX:Hid (∀ W,Calls Tryz.prog 35 #[.int .i64 m.memo[k].r] W fun e w'=>e=.returned (.string DX)/\w'=W):=fun W=>by rw [hDX];exact sDecI m.memo[k].r (by omega) (by omega) W
  obtain ⟨yl,hyl⟩:∃ l,l=lin m (k+7):=⟨_,rfl⟩
  have hyz:yl.length<=1048700:=by rw [hyl];exact lin_len HO.out HK.out _
  have HNX:Hid ((linTo m (k+7)).flatten++yl=(linTo m (k+1+7)).flatten):=by
   show _=_
   rw [show k+1+7=k+7+1 by omega,linTo_next m (k+7),List.flatten_append,hyl]
   simp
  have HUE:Hid (⟨#[115,101,101,110,32]⟩++m.memo[k].k++⟨#[32]⟩++DX++⟨#[10]⟩=bs yl):=by
   show _=_
   rw [hyl,hDX,show (⟨#[115,101,101,110,32]⟩:ByteArray)=bs [115,101,101,110,32] from rfl,show (⟨#[32]⟩:ByteArray)=bs [32] from rfl,show (⟨#[10]⟩:ByteArray)=bs [10] from rfl]
   conv=>lhs;rw [<- bs_tl m.memo[k].k]
   simp only [bs_app]
   congr 1
   unfold lin
   show _=[115,101,101,110]++(32 :: ((match m.memo[k]? with
    | some x=>tl x.k++(32 :: Lib.itoa x.r)
    | none=>[])++[10]))
   rw [List.getElem?_eq_getElem hlt]
   simp
  obtain ⟨pb,hpb⟩:∃ p,p=plB (tl m.memo[k].k):=⟨_,rfl⟩
  rw [<- hpb] at HPK HNO HYE
  obtain ⟨hk0,hk1⟩:=hsn
  obtain ⟨xk,hxk⟩:∃ x,x=m.memo[k].k:=⟨_,rfl⟩
  obtain ⟨xr,hxr⟩:∃ x,x=m.memo[k].r:=⟨_,rfl⟩
  rw [<- hxk] at hk0 HPK HUE hks
  rw [<- hxr] at hk1 HDX
  have HMA:Hid (ma=some ⟨mb,mo,none⟩):=hma
  clear hpb hxk hxr hma hyl hDX hil hrs HPL
  have hml2:mb < wr.heap.size:=lt_of_cell hk0
  obtain ⟨U0,hU0⟩:∃ T,⟨#[115,101,101,110,32]⟩++xk=(T:ByteArray):=⟨_,rfl⟩
  have zU0:U0.size=5+xk.size:=by rw [<- hU0,ByteArray.size_append];rfl
  obtain ⟨U1,hU1⟩:∃ T,U0++⟨#[32]⟩=(T:ByteArray):=⟨_,rfl⟩
  have zU1:U1.size=U0.size+1:=by rw [<- hU1,ByteArray.size_append];rfl
  obtain ⟨U2,hU2⟩:∃ T,U1++DX=(T:ByteArray):=⟨_,rfl⟩
  have zU2:U2.size=U1.size+DX.size:=by rw [<- hU2,ByteArray.size_append]
  obtain ⟨U3,hU3⟩:∃ T,U2++⟨#[10]⟩=(T:ByteArray):=⟨_,rfl⟩
  have HU3:Hid (U3=bs yl):=by show _=_;rw [<- HUE.out,<- hU3,<- hU2,<- hU1,<- hU0]
  have u0:¬ 9223372036854775807 < 5+xk.size:=by omega
  have u1:¬ 9223372036854775807 < U0.size+1:=by omega
  have u2:¬ 9223372036854775807 < U1.size+DX.size:=by omega
  have u3:¬ 9223372036854775807 < U2.size+1:=by omega
  clear zU0 zU1 zU2 zDX HUE hks
  obtain ⟨m0,m1,m2,m3,m4,m5,m6,m7,m8,m9,m10⟩:=HM.out
  have hwm:=HM.out.lt
  rw [HMA.out] at m10
  cases pb
  ·have HF:Hid (svB m=false):=HNO.out rfl
   go_wp2_with (go_at_call 38;refine (HPK.out _).mono ?_;rintro e w2 ⟨rfl,hw2⟩;have hw2':=hw2.symm;clear hw2;subst hw2')
   go_ret2
   exact ⟨SvP.no HF.out,HB.out⟩
  have HY2:Hid _:=HYE.out rfl
  go_wp2_with (go_at_call 38;refine (HPK.out _).mono ?_;rintro e w2 ⟨rfl,hw2⟩;have hw2':=hw2.symm;clear hw2;subst hw2')
  have HSD:Hid ((Mb wr.drew w.heap.size m ra va ma rc vc mc)/\wr.drew.cell? ⟨mb,mo+k*2,none⟩=some (.string xk)/\wr.drew.cell? ⟨mb,mo+k*2+1,none⟩=some (.int .i64 xr)):=⟨HM.out.below (Below.refl _ _).drew,hk0,hk1⟩
  have HLD:Hid (LieB wr.drew g cp (linTo m (k+7)).flatten):=HLI.out.below (Below.refl _ _).drew
  have HBD:Hid (Below w.heap.size w wr.drew):=HB.out.drew
  have HGG:Hid (w.heap.size+1<=g):=hg
  have HMW:Hid (mb < w.heap.size):=hmbw
  clear m0 m1 m2 m3 m4 m5 m6 m7 m8 m9 m10 hwm hk0 hk1 hml2 HM HLI HB
  refine wp_region_held_drew (S:=(fun v=>(Mb v w.heap.size m ra va ma rc vc mc)/\v.cell? ⟨mb,mo+k*2,none⟩=some (.string xk)/\v.cell? ⟨mb,mo+k*2+1,none⟩=some (.int .i64 xr))) (by kernel_rfl) HSD.out (fun hHeld=>?_)
  refine wpAnyH_take (i:=0) (v:=?_) rfl (by kernel_rfl) (by kernel_rfl) (by kernel_rfl) (fun _ _ _ h=>h) (Or.inl ⟨by rfl,?_⟩) hHeld ?_
  rotate_left
  ·(intro v9 hS9;clear hS9;go_simp;try with_reducible rfl)
  try simp only [Act.put,List.setIfInBounds_toArray,List.set_cons_zero,List.set_cons_succ,List.getElem_toArray,List.getElem_cons_zero]
  refine wpAnyH_take (i:=1) (v:=?_) rfl (by kernel_rfl) (by kernel_rfl) (by kernel_rfl) (fun _ _ _ h=>h) (Or.inl ⟨by rfl,?_⟩) hHeld ?_
  rotate_left
  ·(intro v9 hS9;clear hS9;go_simp;try with_reducible rfl)
  try simp only [Act.put,List.setIfInBounds_toArray,List.set_cons_zero,List.set_cons_succ,List.getElem_toArray,List.getElem_cons_zero,List.getElem_cons_succ]
  refine wpAnyH_take (i:=2) (v:=?_) rfl (by kernel_rfl) (by kernel_rfl) (by kernel_rfl) (fun _ _ _ h=>h) (Or.inl ⟨by rfl,?_⟩) hHeld ?_
  rotate_left
  ·(intro v9 hS9;obtain ⟨⟨z0,z1,z2,z3,z4,z5,z6,z7,z8,z9,z10⟩,zk,zr⟩:=hS9;rw [HMA.out] at z10;go_simp;try with_reducible rfl)
  try simp only [Act.put,List.setIfInBounds_toArray,List.set_cons_zero,List.set_cons_succ,List.getElem_toArray,List.getElem_cons_zero,List.getElem_cons_succ]
  refine wpAnyH_take (i:=3) (v:=?_) rfl (by kernel_rfl) (by kernel_rfl) (by kernel_rfl) (fun _ _ _ h=>h) (Or.inl ⟨by rfl,?_⟩) hHeld ?_
  rotate_left
  ·(intro v9 hS9;clear hS9;go_simp;try with_reducible rfl)
  try simp only [Act.put,List.setIfInBounds_toArray,List.set_cons_zero,List.set_cons_succ,List.getElem_toArray,List.getElem_cons_zero,List.getElem_cons_succ]
  refine wpAnyH_take (i:=4) (v:=?_) rfl (by kernel_rfl) (by kernel_rfl) (by kernel_rfl) (fun _ _ _ h=>h) (Or.inl ⟨by rfl,?_⟩) hHeld ?_
  rotate_left
  ·(intro v9 hS9;clear hS9;go_simp;try with_reducible rfl)
  try simp only [Act.put,List.setIfInBounds_toArray,List.set_cons_zero,List.set_cons_succ,List.getElem_toArray,List.getElem_cons_zero,List.getElem_cons_succ]
  refine wpAnyH_take (i:=5) (v:=?_) rfl (by kernel_rfl) (by kernel_rfl) (by kernel_rfl) (fun _ _ _ h=>h) (Or.inl ⟨by rfl,?_⟩) hHeld ?_
  rotate_left
  ·(intro v9 hS9;clear hS9;go_simp;try with_reducible rfl)
  try simp only [Act.put,List.setIfInBounds_toArray,List.set_cons_zero,List.set_cons_succ,List.getElem_toArray,List.getElem_cons_zero,List.getElem_cons_succ]
  refine wpAnyH_take (i:=6) (v:=?_) rfl (by kernel_rfl) (by kernel_rfl) (by kernel_rfl) (fun _ _ _ h=>h) (Or.inl ⟨by rfl,?_⟩) hHeld ?_
  rotate_left
  ·(intro v9 hS9;obtain ⟨⟨z0,z1,z2,z3,z4,z5,z6,z7,z8,z9,z10⟩,zk,zr⟩:=hS9;rw [HMA.out] at z10;go_simp;try with_reducible rfl)
  try simp only [Act.put,List.setIfInBounds_toArray,List.set_cons_zero,List.set_cons_succ,List.getElem_toArray,List.getElem_cons_zero,List.getElem_cons_succ]
  refine wpAnyH_take (i:=7) (v:=?_) rfl (by kernel_rfl) (by kernel_rfl) (by kernel_rfl) (fun _ _ _ h=>h) (Or.inl ⟨by rfl,?_⟩) hHeld ?_
  rotate_left
  ·(intro v9 hS9;clear hS9;go_simp;try with_reducible rfl)
  try simp only [Act.put,List.setIfInBounds_toArray,List.set_cons_zero,List.set_cons_succ,List.getElem_toArray,List.getElem_cons_zero,List.getElem_cons_succ]
  refine wpAnyH_take (i:=8) (v:=?_) rfl (by kernel_rfl) (by kernel_rfl) (by kernel_rfl) (fun _ _ _ h=>h) (Or.inl ⟨by rfl,?_⟩) hHeld ?_
  rotate_left
  ·(intro v9 hS9;clear hS9;go_simp;try with_reducible rfl)
  try simp only [Act.put,List.setIfInBounds_toArray,List.set_cons_zero,List.set_cons_succ,List.getElem_toArray,List.getElem_cons_zero,List.getElem_cons_succ]
  refine wpAnyH_take (i:=9) (v:=?_) rfl (by kernel_rfl) (by kernel_rfl) (by kernel_rfl) (fun _ _ _ h=>h) (Or.inl ⟨by rfl,?_⟩) hHeld ?_
  rotate_left
  ·(intro v9 hS9;clear hS9;go_simp;try with_reducible rfl)
  try simp only [Act.put,List.setIfInBounds_toArray,List.set_cons_zero,List.set_cons_succ,List.getElem_toArray,List.getElem_cons_zero,List.getElem_cons_succ]
  refine wpAnyH_take (i:=10) (v:=?_) rfl (by kernel_rfl) (by kernel_rfl) (by kernel_rfl) (fun _ _ _ h=>h) (Or.inl ⟨by rfl,?_⟩) hHeld ?_
  rotate_left
  ·(intro v9 hS9;obtain ⟨⟨z0,z1,z2,z3,z4,z5,z6,z7,z8,z9,z10⟩,zk,zr⟩:=hS9;rw [HMA.out] at z10;go_simp;try with_reducible rfl)
  try simp only [Act.put,List.setIfInBounds_toArray,List.set_cons_zero,List.set_cons_succ,List.getElem_toArray,List.getElem_cons_zero,List.getElem_cons_succ]
  refine wpAnyH_take (i:=11) (v:=?_) rfl (by kernel_rfl) (by kernel_rfl) (by kernel_rfl) (fun _ _ _ h=>h) (Or.inl ⟨by rfl,?_⟩) hHeld ?_
  rotate_left
  ·(intro v9 hS9;clear hS9;go_simp;try with_reducible rfl)
  try simp only [Act.put,List.setIfInBounds_toArray,List.set_cons_zero,List.set_cons_succ,List.getElem_toArray,List.getElem_cons_zero,List.getElem_cons_succ]
  refine wpAnyH_take (i:=12) (v:=?_) rfl (by kernel_rfl) (by kernel_rfl) (by kernel_rfl) (fun _ _ _ h=>h) (Or.inl ⟨by rfl,?_⟩) hHeld ?_
  rotate_left
  ·(intro v9 hS9;clear hS9;go_simp;try with_reducible rfl)
  try simp only [Act.put,List.setIfInBounds_toArray,List.set_cons_zero,List.set_cons_succ,List.getElem_toArray,List.getElem_cons_zero,List.getElem_cons_succ]
  refine wpAnyH_take (i:=13) (v:=?_) rfl (by kernel_rfl) (by kernel_rfl) (by kernel_rfl) (fun _ _ _ h=>h) (Or.inl ⟨by rfl,?_⟩) hHeld ?_
  rotate_left
  ·(intro v9 hS9;clear hS9;go_simp;try with_reducible rfl)
  try simp only [Act.put,List.setIfInBounds_toArray,List.set_cons_zero,List.set_cons_succ,List.getElem_toArray,List.getElem_cons_zero,List.getElem_cons_succ]
  refine wpAnyH_take (i:=14) (v:=?_) rfl (by kernel_rfl) (by kernel_rfl) (by kernel_rfl) (fun _ _ _ h=>h) (Or.inl ⟨by rfl,?_⟩) hHeld ?_
  rotate_left
  ·(intro v9 hS9;obtain ⟨⟨z0,z1,z2,z3,z4,z5,z6,z7,z8,z9,z10⟩,zk,zr⟩:=hS9;rw [HMA.out] at z10;go_simp;try with_reducible rfl)
  try simp only [Act.put,List.setIfInBounds_toArray,List.set_cons_zero,List.set_cons_succ,List.getElem_toArray,List.getElem_cons_zero,List.getElem_cons_succ]
  refine wpAnyH_ready (rs:=[15]) (by kernel_rfl) (by simp) ?_
  refine AllReadyH.cons rfl (fun K hK=>?_) AllReadyH.nil
  go_simp
  go_wp2_with (go_at_call 35;refine (HDX.out _).mono ?_;rintro e wq ⟨rfl,hwq⟩;have hwq':=hwq.symm;clear hwq;subst hwq')
  refine hK.out _ _ HSD.out (fun hNext=>?_)
  clear hK K hHeld
  have hHeld:=hNext
  clear hNext
  refine wpAnyH_take (i:=16) (v:=?_) rfl (by kernel_rfl) (by kernel_rfl) (by kernel_rfl) (fun _ _ _ h=>h) (Or.inl ⟨by rfl,?_⟩) hHeld ?_
  rotate_left
  ·(intro v9 hS9;clear hS9;go_simp;try with_reducible rfl)
  try simp only [Act.put,List.setIfInBounds_toArray,List.set_cons_zero,List.set_cons_succ,List.getElem_toArray,List.getElem_cons_zero,List.getElem_cons_succ]
  refine wpAnyH_take (i:=17) (v:=?_) rfl (by kernel_rfl) (by kernel_rfl) (by kernel_rfl) (fun _ _ _ h=>h) (Or.inl ⟨by rfl,?_⟩) hHeld ?_
  rotate_left
  ·(intro v9 hS9;clear hS9;go_simp;try with_reducible rfl)
  try simp only [Act.put,List.setIfInBounds_toArray,List.set_cons_zero,List.set_cons_succ,List.getElem_toArray,List.getElem_cons_zero,List.getElem_cons_succ]
  obtain ⟨cq,wc,hcv,hlie,hbc⟩:=bytesB wr.drew yl
  rw [<- HU3.out] at hcv
  have HL2:Hid (LieB wc wr.drew.heap.size cq yl):=hlie
  have HBC:Hid (Below w.heap.size w wc):=HBD.out.trans (hbc.mono HBD.out.size)
  have HMC:Hid (Mb wc w.heap.size m ra va ma rc vc mc):=HSD.out.1.below hbc
  have HC1:Hid (wc.cell? ⟨mb,mo+k*2,none⟩=some (.string xk)):=by show _=_;rw [hbc.cell (p:=⟨mb,mo+k*2,none⟩) (lt_of_cell HSD.out.2.1)];exact HSD.out.2.1
  have HC2:Hid (wc.cell? ⟨mb,mo+k*2+1,none⟩=some (.int .i64 xr)):=by show _=_;rw [hbc.cell (p:=⟨mb,mo+k*2+1,none⟩) (lt_of_cell HSD.out.2.2)];exact HSD.out.2.2
  have HLC:Hid (LieB wc g cp (linTo m (k+7)).flatten):=HLD.out.below hbc
  clear hlie hbc
  refine wpAnyH_ready (rs:=[18]) (by kernel_rfl) (by simp) ?_
  refine AllReadyH.cons rfl (fun K hK=>?_) AllReadyH.nil
  go_simp
  refine hK.out _ _ ⟨HMC.out,HC1.out,HC2.out⟩ (fun hNext=>?_)
  clear hK K hHeld hcv
  have hHeld:=hNext
  clear hNext
  refine wpAnyH_ready (rs:=[19]) (by kernel_rfl) (by simp) ?_
  refine AllReadyH.cons rfl (fun K hK=>?_) AllReadyH.nil
  refine step_by _ rfl _ _ rfl g cp L wr.drew.heap.size cq yl.length (linTo m (k+7)).flatten yl HL.out rfl rfl rfl HL2.out.cell HLC.out (by rw [HL.out];omega) ?_
  intro g' cp' wz hl9 hk9 hg9
  rw [HNX.out] at hl9
  have HLZ:Hid (LieB wz g' cp' (linTo m (k+1+7)).flatten):=hl9
  have HLE:Hid (L+yl.length=(linTo m (k+1+7)).flatten.length):=by show _=_;rw [<- HNX.out,List.length_append,HL.out]
  have HBZ:Hid (Below w.heap.size w wz):=HBC.out.trans (hk9.below (fun b hb=>by have:=HGG.out;omega) HBC.out.size)
  have HMZ:Hid (Mb wz w.heap.size m ra va ma rc vc mc):=HMC.out.kept hk9 (by have:=HGG.out;omega)
  have HGZ:Hid (w.heap.size+1<=g'):=by
   show _<=_
   rcases hg9 with e|e
   ·rw [e];exact HGG.out
   ·have:=HMC.out.lt;omega
  have HZ1:wz.cell? ⟨mb,mo+k*2,none⟩=some (.string xk):=by rw [hk9.cell (p:=⟨mb,mo+k*2,none⟩) (lt_of_cell HC1.out) (by have:=HGG.out;have:=HMW.out;show ¬ mb=g;omega)];exact HC1.out
  have HZ2:wz.cell? ⟨mb,mo+k*2+1,none⟩=some (.int .i64 xr):=by rw [hk9.cell (p:=⟨mb,mo+k*2+1,none⟩) (lt_of_cell HC2.out) (by have:=HGG.out;have:=HMW.out;show ¬ mb=g;omega)];exact HC2.out
  refine hK.out _ _ ⟨HMZ.out,HZ1,HZ2⟩ (fun hNext=>?_)
  clear hK K hHeld hl9 hk9 hg9 HZ1 HZ2
  have hHeld:=hNext
  clear hNext
  refine wpAnyH_take (i:=20) (v:=?_) rfl (by kernel_rfl) (by kernel_rfl) (by kernel_rfl) (fun _ _ _ h=>h) (Or.inl ⟨by rfl,?_⟩) hHeld ?_
  rotate_left
  ·(intro v9 hS9;clear hS9;go_simp;try with_reducible rfl)
  try simp only [Act.put,List.setIfInBounds_toArray,List.set_cons_zero,List.set_cons_succ,List.getElem_toArray,List.getElem_cons_zero,List.getElem_cons_succ]
  refine wpAnyH_done (by kernel_rfl) ?_ _
  by_cases hbig:(400000:Int) < (L:Int)+(yl.length:Int)
  ·have HF:Hid (svB m=false):=sv_len (fun h=>by
    have h1:=linTo_le m (i:=k+1+7) (k:=7+m.memo.length) (by omega)
    have h2:=HLE.out
    unfold savT at h
    omega)
   have hbig2:400000 < L+yl.length:=by omega
   go_wp2
   go_ret2
   exact ⟨SvP.no HF.out,HBZ.out⟩
  ·have hbig2:¬ 400000 < L+yl.length:=by omega
   go_wp2
   go_roundw
   case rel=>exact ⟨k+1,g',cp',by omega,by go_num,by rw [<- HLE.out],HLZ.out,HGZ.out,HBZ.out,HMZ.out,HY2.out,by rw [<- HLE.out];omega⟩
   case measure=>simp [intOf];omega
end Zm1
end Go.Proofs.YtjajkmdoggbicaaGreatDoor
