import Derived.Deep.CutBlock
import Derived.Test.YtjajkmdoggbicaaGreatDoorPkST26
import Derived.Test.YtjajkmdoggbicaaGreatDoorPkST5
import Derived.Test.YtjajkmdoggbicaaGreatDoorDp1
namespace Go.Proofs.YtjajkmdoggbicaaGreatDoor
set_option maxRecDepth 100000
set_option maxHeartbeats 8000000
set_option linter.unusedVariables false
namespace Zs2
open Go.RowKit
open Nd0 (Kept Ints lt_of_cell)
open Nd6 (Bools)
open Ta1 (tab tokB tok_tab)
open Ta2 (bitB)
open Tc2 (tv)
open Ss0 (bs bs_size ret_str)
open Ss1 (tl tl_bs bs_tl)
open Tk0 (TabK keyL iKey)
open Mm0 (Mc Mb Mr Mok mval)
open Wp1 (vt iValsText)
open Za0 (rowT iRowText)
open Zs0 Zs1 Zt0
theorem bit_of {x:Int} (h:0<=x/\x<=1):bitB x=true:=by
 unfold bitB
 have:x=0\/x=1:=by omega
 rcases this with rfl|rfl<;>rfl
theorem lit_ints (W:World) (l:List Int) (hl:l.length<=100) (T:Nat):Ints (W.alloc (.cells (l.map fun x=>Value.int .i64 x).toArray T)) (some ⟨W.heap.size,0,none⟩) l:=by
 refine ⟨by unfold maxLen;omega,.inr ⟨W.heap.size,0,rfl,fun i hi=>?_⟩⟩
 rw [Nat.zero_add,World.cell?_alloc_new]
 simp [hi]
theorem c0 (m:Mc) (ra va ma:Option Addr) (rc vc mc:Nat) (w:World) (hR:Mr w m ra va ma) (hO:Mok m) (hK:∀ x∈m.memo,x.k.size<=1048576) (hT:TabZ w) :
 Calls Tryz.prog 127 #[mval m ra va ma rc vc mc] w fun e w'=>e=.returned (.string (bs (bod m 0)))/\Below w.heap.size w w':=by
 obtain ⟨X0,hX0⟩:∃ X,X=w.alloc (.cells #[.slice ra m.row.length rc,.int .i64 m.N,.string m.S,.int .i64 m.room,.slice va m.vals.length vc,.int .i64 m.ret,.bool m.over,.int .i64 m.steps,.int .i64 m.looks,.int .i64 m.hits,.slice ma m.memo.length mc] 30):=⟨_,rfl⟩
 have b0:Below w.heap.size w X0:=by rw [hX0];exact (Below.refl _ _).alloc (Nat.le_refl _) _
 have HB:Hid (Below w.heap.size w X0):=b0
 have HM:Hid (Mb X0 w.heap.size m ra va ma rc vc mc):=by rw [hX0];exact Mb.made _ _ _ _ _ _ _ _ _
 have hE:w.alloc (.cells #[.slice ra m.row.length rc,.int .i64 m.N,.string m.S,.int .i64 m.room,.slice va m.vals.length vc,.int .i64 m.ret,.bool m.over,.int .i64 m.steps,.int .i64 m.looks,.int .i64 m.hits,.slice ma m.memo.length mc] 30)=X0:=hX0.symm
 have HT:Hid (TabZ X0):=hT.below b0
 have HR:Hid (Mr X0 m ra va ma):=hR.below b0
 have HO:Hid (Mok m):=hO
 clear hX0 b0 hT hR hO
 have hln:m.row.length<=1048576:=by
  obtain ⟨n,F,hn,hN,_⟩:=tok_tab HO.out.tab
  have:=HO.out.row
  omega
 go_enter Tryz.func127,Tryz.ntmps127
 go_upto_region 1 with fail
 clear hE
 obtain ⟨m0,m1,m2,m3,m4,m5,m6,m7,m8,m9,m10⟩:=HM.out
 have hm:=HM.out.lt
 go_wp2_with fail
 clear m0 m1 m2 m3 m4 m5 m6 m7 m8 m9 m10
 refine (iRowText _ ra m.row rc HR.out.row hln).mono ?_
 have HB1:=HB
 rintro e w2 ⟨rfl,hb2⟩
 have HB2:Hid (Below w.heap.size w w2):=HB1.out.trans (hb2.mono HB1.out.size)
 clear hb2
 go_wp2
 go_ret
 exact ⟨rfl,HB2.out⟩
theorem c1 (m:Mc) (ra va ma:Option Addr) (rc vc mc:Nat) (w:World) (hR:Mr w m ra va ma) (hO:Mok m) (hK:∀ x∈m.memo,x.k.size<=1048576) (hT:TabZ w) :
 Calls Tryz.prog 129 #[mval m ra va ma rc vc mc] w fun e w'=>e=.returned (.string (bs (bod m 1)))/\Below w.heap.size w w':=by
 obtain ⟨X0,hX0⟩:∃ X,X=w.alloc (.cells #[.slice ra m.row.length rc,.int .i64 m.N,.string m.S,.int .i64 m.room,.slice va m.vals.length vc,.int .i64 m.ret,.bool m.over,.int .i64 m.steps,.int .i64 m.looks,.int .i64 m.hits,.slice ma m.memo.length mc] 30):=⟨_,rfl⟩
 have b0:Below w.heap.size w X0:=by rw [hX0];exact (Below.refl _ _).alloc (Nat.le_refl _) _
 have HB:Hid (Below w.heap.size w X0):=b0
 have HM:Hid (Mb X0 w.heap.size m ra va ma rc vc mc):=by rw [hX0];exact Mb.made _ _ _ _ _ _ _ _ _
 have hE:w.alloc (.cells #[.slice ra m.row.length rc,.int .i64 m.N,.string m.S,.int .i64 m.room,.slice va m.vals.length vc,.int .i64 m.ret,.bool m.over,.int .i64 m.steps,.int .i64 m.looks,.int .i64 m.hits,.slice ma m.memo.length mc] 30)=X0:=hX0.symm
 have HT:Hid (TabZ X0):=hT.below b0
 have HR:Hid (Mr X0 m ra va ma):=hR.below b0
 have HO:Hid (Mok m):=hO
 clear hX0 b0 hT hR hO
 have HKY:Hid (∀ W,TabZ W->Calls Tryz.prog 46 #[tv m.N m.S] W fun e w'=>e=.returned (.string (bs (keyL m.N.toNat (tl m.S))))/\Below W.heap.size W w'):=fun W h=>by
  obtain ⟨n,F,hn,hN,hl⟩:=tok_tab HO.out.tab
  have hS:m.S=bs (tab n F):=by rw [<- bs_tl m.S,hl]
  rw [hN,hS,tl_bs,Int.toNat_natCast]
  exact iKey n F W hn h.pow
 go_enter Tryz.func129,Tryz.ntmps129
 go_upto_region 1 with fail
 clear hE
 obtain ⟨m0,m1,m2,m3,m4,m5,m6,m7,m8,m9,m10⟩:=HM.out
 have hm:=HM.out.lt
 go_wp2_with fail
 clear m0 m1 m2 m3 m4 m5 m6 m7 m8 m9 m10
 refine (HKY.out _ HT.out).mono ?_
 have HB1:=HB
 rintro e w2 ⟨rfl,hb2⟩
 have HB2:Hid (Below w.heap.size w w2):=HB1.out.trans (hb2.mono HB1.out.size)
 clear hb2
 go_wp2
 go_ret
 exact ⟨rfl,HB2.out⟩
theorem c2 (m:Mc) (ra va ma:Option Addr) (rc vc mc:Nat) (w:World) (hR:Mr w m ra va ma) (hO:Mok m) (hK:∀ x∈m.memo,x.k.size<=1048576) (hT:TabZ w) :
 Calls Tryz.prog 131 #[mval m ra va ma rc vc mc] w fun e w'=>e=.returned (.string (bs (bod m 2)))/\Below w.heap.size w w':=by
 obtain ⟨X0,hX0⟩:∃ X,X=w.alloc (.cells #[.slice ra m.row.length rc,.int .i64 m.N,.string m.S,.int .i64 m.room,.slice va m.vals.length vc,.int .i64 m.ret,.bool m.over,.int .i64 m.steps,.int .i64 m.looks,.int .i64 m.hits,.slice ma m.memo.length mc] 30):=⟨_,rfl⟩
 have b0:Below w.heap.size w X0:=by rw [hX0];exact (Below.refl _ _).alloc (Nat.le_refl _) _
 have HB:Hid (Below w.heap.size w X0):=b0
 have HM:Hid (Mb X0 w.heap.size m ra va ma rc vc mc):=by rw [hX0];exact Mb.made _ _ _ _ _ _ _ _ _
 have hE:w.alloc (.cells #[.slice ra m.row.length rc,.int .i64 m.N,.string m.S,.int .i64 m.room,.slice va m.vals.length vc,.int .i64 m.ret,.bool m.over,.int .i64 m.steps,.int .i64 m.looks,.int .i64 m.hits,.slice ma m.memo.length mc] 30)=X0:=hX0.symm
 have HT:Hid (TabZ X0):=hT.below b0
 have HR:Hid (Mr X0 m ra va ma):=hR.below b0
 have HO:Hid (Mok m):=hO
 clear hX0 b0 hT hR hO
 have HNU:Hid (Calls Tryz.prog 132 #[.slice (some ⟨X0.heap.size,0,none⟩) 1 1] (X0.alloc (.cells #[.int .i64 m.room] 3)) fun e w'=>e=.returned (.string (bs (bod m 2)))/\Below (X0.alloc (.cells #[.int .i64 m.room] 3)).heap.size (X0.alloc (.cells #[.int .i64 m.room] 3)) w'):=by
  have bb:Below X0.heap.size X0 (X0.alloc (.cells #[.int .i64 m.room] 3)):=(Below.refl _ _).alloc (Nat.le_refl _) _
  have h:=iNumbers (X0.alloc (.cells #[.int .i64 m.room] 3)) (some ⟨X0.heap.size,0,none⟩) [m.room] 1 (lit_ints X0 [m.room] (by simp) 3) (by simp) (by intro n hn;simp at hn;subst hn;have:=HO.out.room;omega) (HT.out.below bb).pow
  refine h.mono ?_
  rintro e w' ⟨rfl,hb⟩
  exact ⟨ret_str (congrArg bs (Lib.join_one _ _)),hb⟩
 go_enter Tryz.func131,Tryz.ntmps131
 go_upto_region 1 with fail
 clear hE
 obtain ⟨m0,m1,m2,m3,m4,m5,m6,m7,m8,m9,m10⟩:=HM.out
 have hm:=HM.out.lt
 go_wp2_with fail
 clear m0 m1 m2 m3 m4 m5 m6 m7 m8 m9 m10
 refine Calls.mono HNU.out ?_
 have HB1:Hid (Below w.heap.size w (X0.alloc (.cells #[.int .i64 m.room] 3))):=HB.out.alloc HB.out.size _
 rintro e w2 ⟨rfl,hb2⟩
 have HB2:Hid (Below w.heap.size w w2):=HB1.out.trans (hb2.mono HB1.out.size)
 clear hb2
 go_wp2
 go_ret
 exact ⟨rfl,HB2.out⟩
theorem c3 (m:Mc) (ra va ma:Option Addr) (rc vc mc:Nat) (w:World) (hR:Mr w m ra va ma) (hO:Mok m) (hK:∀ x∈m.memo,x.k.size<=1048576) (hT:TabZ w) :
 Calls Tryz.prog 134 #[mval m ra va ma rc vc mc] w fun e w'=>e=.returned (.string (bs (bod m 3)))/\Below w.heap.size w w':=by
 obtain ⟨X0,hX0⟩:∃ X,X=w.alloc (.cells #[.slice ra m.row.length rc,.int .i64 m.N,.string m.S,.int .i64 m.room,.slice va m.vals.length vc,.int .i64 m.ret,.bool m.over,.int .i64 m.steps,.int .i64 m.looks,.int .i64 m.hits,.slice ma m.memo.length mc] 30):=⟨_,rfl⟩
 have b0:Below w.heap.size w X0:=by rw [hX0];exact (Below.refl _ _).alloc (Nat.le_refl _) _
 have HB:Hid (Below w.heap.size w X0):=b0
 have HM:Hid (Mb X0 w.heap.size m ra va ma rc vc mc):=by rw [hX0];exact Mb.made _ _ _ _ _ _ _ _ _
 have hE:w.alloc (.cells #[.slice ra m.row.length rc,.int .i64 m.N,.string m.S,.int .i64 m.room,.slice va m.vals.length vc,.int .i64 m.ret,.bool m.over,.int .i64 m.steps,.int .i64 m.looks,.int .i64 m.hits,.slice ma m.memo.length mc] 30)=X0:=hX0.symm
 have HT:Hid (TabZ X0):=hT.below b0
 have HR:Hid (Mr X0 m ra va ma):=hR.below b0
 have HO:Hid (Mok m):=hO
 clear hX0 b0 hT hR hO
 have hln:m.vals.length<=12:=by
  obtain ⟨n,F,hn,hN,_⟩:=tok_tab HO.out.tab
  have:=HO.out.vals
  omega
 have HBI:Hid (∀ b∈m.vals,bitB b=true):=fun b hb=>bit_of (HO.out.bits b hb)
 go_enter Tryz.func134,Tryz.ntmps134
 go_upto_region 1 with fail
 clear hE
 obtain ⟨m0,m1,m2,m3,m4,m5,m6,m7,m8,m9,m10⟩:=HM.out
 have hm:=HM.out.lt
 go_wp2_with fail
 clear m0 m1 m2 m3 m4 m5 m6 m7 m8 m9 m10
 refine (iValsText _ va m.vals vc HR.out.vals hln HBI.out).mono ?_
 have HB1:=HB
 rintro e w2 ⟨rfl,hb2⟩
 have HB2:Hid (Below w.heap.size w w2):=HB1.out.trans (hb2.mono HB1.out.size)
 clear hb2
 go_wp2
 go_ret
 exact ⟨rfl,HB2.out⟩
theorem c4 (m:Mc) (ra va ma:Option Addr) (rc vc mc:Nat) (w:World) (hR:Mr w m ra va ma) (hO:Mok m) (hK:∀ x∈m.memo,x.k.size<=1048576) (hT:TabZ w) :
 Calls Tryz.prog 138 #[mval m ra va ma rc vc mc] w fun e w'=>e=.returned (.string (bs (bod m 4)))/\Below w.heap.size w w':=by
 obtain ⟨X0,hX0⟩:∃ X,X=w.alloc (.cells #[.slice ra m.row.length rc,.int .i64 m.N,.string m.S,.int .i64 m.room,.slice va m.vals.length vc,.int .i64 m.ret,.bool m.over,.int .i64 m.steps,.int .i64 m.looks,.int .i64 m.hits,.slice ma m.memo.length mc] 30):=⟨_,rfl⟩
 have b0:Below w.heap.size w X0:=by rw [hX0];exact (Below.refl _ _).alloc (Nat.le_refl _) _
 have HB:Hid (Below w.heap.size w X0):=b0
 have HM:Hid (Mb X0 w.heap.size m ra va ma rc vc mc):=by rw [hX0];exact Mb.made _ _ _ _ _ _ _ _ _
 have hE:w.alloc (.cells #[.slice ra m.row.length rc,.int .i64 m.N,.string m.S,.int .i64 m.room,.slice va m.vals.length vc,.int .i64 m.ret,.bool m.over,.int .i64 m.steps,.int .i64 m.looks,.int .i64 m.hits,.slice ma m.memo.length mc] 30)=X0:=hX0.symm
 have HT:Hid (TabZ X0):=hT.below b0
 have HR:Hid (Mr X0 m ra va ma):=hR.below b0
 have HO:Hid (Mok m):=hO
 clear hX0 b0 hT hR hO
 have HNU:Hid (Calls Tryz.prog 132 #[.slice (some ⟨X0.heap.size,0,none⟩) 1 1] (X0.alloc (.cells #[.int .i64 m.ret] 3)) fun e w'=>e=.returned (.string (bs (bod m 4)))/\Below (X0.alloc (.cells #[.int .i64 m.ret] 3)).heap.size (X0.alloc (.cells #[.int .i64 m.ret] 3)) w'):=by
  have bb:Below X0.heap.size X0 (X0.alloc (.cells #[.int .i64 m.ret] 3)):=(Below.refl _ _).alloc (Nat.le_refl _) _
  have h:=iNumbers (X0.alloc (.cells #[.int .i64 m.ret] 3)) (some ⟨X0.heap.size,0,none⟩) [m.ret] 1 (lit_ints X0 [m.ret] (by simp) 3) (by simp) (by intro n hn;simp at hn;subst hn;have:=HO.out.ret;omega) (HT.out.below bb).pow
  refine h.mono ?_
  rintro e w' ⟨rfl,hb⟩
  exact ⟨ret_str (congrArg bs (Lib.join_one _ _)),hb⟩
 go_enter Tryz.func138,Tryz.ntmps138
 go_upto_region 1 with fail
 clear hE
 obtain ⟨m0,m1,m2,m3,m4,m5,m6,m7,m8,m9,m10⟩:=HM.out
 have hm:=HM.out.lt
 go_wp2_with fail
 clear m0 m1 m2 m3 m4 m5 m6 m7 m8 m9 m10
 refine Calls.mono HNU.out ?_
 have HB1:Hid (Below w.heap.size w (X0.alloc (.cells #[.int .i64 m.ret] 3))):=HB.out.alloc HB.out.size _
 rintro e w2 ⟨rfl,hb2⟩
 have HB2:Hid (Below w.heap.size w w2):=HB1.out.trans (hb2.mono HB1.out.size)
 clear hb2
 go_wp2
 go_ret
 exact ⟨rfl,HB2.out⟩
theorem iOne (b:Bool) (w:World):Calls Tryz.prog 125 #[.bool b] w fun e w'=>e=.returned (.int .i64 (bI b))/\w'=w:=by
 cases b
 ·go_enter Tryz.func125,Tryz.ntmps125
  go_wp2
  go_ret
  exact ⟨rfl,rfl⟩
 ·go_enter Tryz.func125,Tryz.ntmps125
  go_wp2
  go_ret
  exact ⟨rfl,rfl⟩
theorem c5 (m:Mc) (ra va ma:Option Addr) (rc vc mc:Nat) (w:World) (hR:Mr w m ra va ma) (hO:Mok m) (hK:∀ x∈m.memo,x.k.size<=1048576) (hT:TabZ w) :
 Calls Tryz.prog 140 #[mval m ra va ma rc vc mc] w fun e w'=>e=.returned (.string (bs (bod m 5)))/\Below w.heap.size w w':=by
 obtain ⟨X0,hX0⟩:∃ X,X=w.alloc (.cells #[.slice ra m.row.length rc,.int .i64 m.N,.string m.S,.int .i64 m.room,.slice va m.vals.length vc,.int .i64 m.ret,.bool m.over,.int .i64 m.steps,.int .i64 m.looks,.int .i64 m.hits,.slice ma m.memo.length mc] 30):=⟨_,rfl⟩
 have b0:Below w.heap.size w X0:=by rw [hX0];exact (Below.refl _ _).alloc (Nat.le_refl _) _
 have HB:Hid (Below w.heap.size w X0):=b0
 have HM:Hid (Mb X0 w.heap.size m ra va ma rc vc mc):=by rw [hX0];exact Mb.made _ _ _ _ _ _ _ _ _
 have hE:w.alloc (.cells #[.slice ra m.row.length rc,.int .i64 m.N,.string m.S,.int .i64 m.room,.slice va m.vals.length vc,.int .i64 m.ret,.bool m.over,.int .i64 m.steps,.int .i64 m.looks,.int .i64 m.hits,.slice ma m.memo.length mc] 30)=X0:=hX0.symm
 have HT:Hid (TabZ X0):=hT.below b0
 have HR:Hid (Mr X0 m ra va ma):=hR.below b0
 have HO:Hid (Mok m):=hO
 clear hX0 b0 hT hR hO
 have HNU:Hid (Calls Tryz.prog 132 #[.slice (some ⟨X0.heap.size,0,none⟩) 1 1] (X0.alloc (.cells #[.int .i64 (bI m.over)] 3)) fun e w'=>e=.returned (.string (bs (bod m 5)))/\Below (X0.alloc (.cells #[.int .i64 (bI m.over)] 3)).heap.size (X0.alloc (.cells #[.int .i64 (bI m.over)] 3)) w'):=by
  have bb:Below X0.heap.size X0 (X0.alloc (.cells #[.int .i64 (bI m.over)] 3)):=(Below.refl _ _).alloc (Nat.le_refl _) _
  have h:=iNumbers (X0.alloc (.cells #[.int .i64 (bI m.over)] 3)) (some ⟨X0.heap.size,0,none⟩) [(bI m.over)] 1 (lit_ints X0 [(bI m.over)] (by simp) 3) (by simp) (by intro n hn;simp at hn;subst hn;rcases bI_two m.over with e|e<;>omega) (HT.out.below bb).pow
  refine h.mono ?_
  rintro e w' ⟨rfl,hb⟩
  exact ⟨ret_str (congrArg bs (Lib.join_one _ _)),hb⟩
 go_enter Tryz.func140,Tryz.ntmps140
 go_upto_region 1 with fail
 clear hE
 obtain ⟨m0,m1,m2,m3,m4,m5,m6,m7,m8,m9,m10⟩:=HM.out
 have hm:=HM.out.lt
 go_wp2_with fail
 have HIO:Hid (∀ W,Calls Tryz.prog 125 #[.bool m.over] W fun e w'=>e=.returned (.int .i64 (bI m.over))/\w'=W):=fun W=>iOne m.over W
 refine (HIO.out _).mono ?_
 rintro e w5 ⟨rfl,hw5⟩
 have hw5':=hw5.symm
 clear hw5
 subst hw5'
 go_wp2_with fail
 clear m0 m1 m2 m3 m4 m5 m6 m7 m8 m9 m10
 refine Calls.mono HNU.out ?_
 have HB1:Hid (Below w.heap.size w (X0.alloc (.cells #[.int .i64 (bI m.over)] 3))):=HB.out.alloc HB.out.size _
 rintro e w2 ⟨rfl,hb2⟩
 have HB2:Hid (Below w.heap.size w w2):=HB1.out.trans (hb2.mono HB1.out.size)
 clear hb2
 go_wp2
 go_ret
 exact ⟨rfl,HB2.out⟩
theorem c6 (m:Mc) (ra va ma:Option Addr) (rc vc mc:Nat) (w:World) (hR:Mr w m ra va ma) (hO:Mok m) (hK:∀ x∈m.memo,x.k.size<=1048576) (hT:TabZ w) :
 Calls Tryz.prog 142 #[mval m ra va ma rc vc mc] w fun e w'=>e=.returned (.string (bs (bod m 6)))/\Below w.heap.size w w':=by
 obtain ⟨X0,hX0⟩:∃ X,X=w.alloc (.cells #[.slice ra m.row.length rc,.int .i64 m.N,.string m.S,.int .i64 m.room,.slice va m.vals.length vc,.int .i64 m.ret,.bool m.over,.int .i64 m.steps,.int .i64 m.looks,.int .i64 m.hits,.slice ma m.memo.length mc] 30):=⟨_,rfl⟩
 have b0:Below w.heap.size w X0:=by rw [hX0];exact (Below.refl _ _).alloc (Nat.le_refl _) _
 have HB:Hid (Below w.heap.size w X0):=b0
 have HM:Hid (Mb X0 w.heap.size m ra va ma rc vc mc):=by rw [hX0];exact Mb.made _ _ _ _ _ _ _ _ _
 have hE:w.alloc (.cells #[.slice ra m.row.length rc,.int .i64 m.N,.string m.S,.int .i64 m.room,.slice va m.vals.length vc,.int .i64 m.ret,.bool m.over,.int .i64 m.steps,.int .i64 m.looks,.int .i64 m.hits,.slice ma m.memo.length mc] 30)=X0:=hX0.symm
 have HT:Hid (TabZ X0):=hT.below b0
 have HR:Hid (Mr X0 m ra va ma):=hR.below b0
 have HO:Hid (Mok m):=hO
 clear hX0 b0 hT hR hO
 have HNU:Hid (Calls Tryz.prog 132 #[.slice (some ⟨X0.heap.size,0,none⟩) 3 3] (X0.alloc (.cells #[.int .i64 m.steps,.int .i64 m.looks,.int .i64 m.hits] 3)) fun e w'=>e=.returned (.string (bs (bod m 6)))/\Below (X0.alloc (.cells #[.int .i64 m.steps,.int .i64 m.looks,.int .i64 m.hits] 3)).heap.size (X0.alloc (.cells #[.int .i64 m.steps,.int .i64 m.looks,.int .i64 m.hits] 3)) w'):=by
  have bb:Below X0.heap.size X0 (X0.alloc (.cells #[.int .i64 m.steps,.int .i64 m.looks,.int .i64 m.hits] 3)):=(Below.refl _ _).alloc (Nat.le_refl _) _
  have h:=iNumbers (X0.alloc (.cells #[.int .i64 m.steps,.int .i64 m.looks,.int .i64 m.hits] 3)) (some ⟨X0.heap.size,0,none⟩) [m.steps,m.looks,m.hits] 3 (lit_ints X0 [m.steps,m.looks,m.hits] (by simp) 3) (by simp) (by intro n hn;simp at hn;have h1:=HO.out.steps;have h2:=HO.out.looks;have h3:=HO.out.hits;rcases hn with rfl|rfl|rfl<;>omega) (HT.out.below bb).pow
  refine h.mono ?_
  rintro e w' ⟨rfl,hb⟩
  exact ⟨ret_str (congrArg bs (by simp [bod,Lib.join_cons,Lib.joinTail])),hb⟩
 go_enter Tryz.func142,Tryz.ntmps142
 go_upto_region 1 with fail
 clear hE
 obtain ⟨m0,m1,m2,m3,m4,m5,m6,m7,m8,m9,m10⟩:=HM.out
 have hm:=HM.out.lt
 go_wp2_with fail
 clear m0 m1 m2 m3 m4 m5 m6 m7 m8 m9 m10
 refine Calls.mono HNU.out ?_
 have HB1:Hid (Below w.heap.size w (X0.alloc (.cells #[.int .i64 m.steps,.int .i64 m.looks,.int .i64 m.hits] 3))):=HB.out.alloc HB.out.size _
 rintro e w2 ⟨rfl,hb2⟩
 have HB2:Hid (Below w.heap.size w w2):=HB1.out.trans (hb2.mono HB1.out.size)
 clear hb2
 go_wp2
 go_ret
 exact ⟨rfl,HB2.out⟩
end Zs2
end Go.Proofs.YtjajkmdoggbicaaGreatDoor
