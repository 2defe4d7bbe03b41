import Derived.Test.YtjajkmdoggbicaaGreatDoorPkST18
import Derived.Test.YtjajkmdoggbicaaGreatDoorPkST10
import Derived.Test.YtjajkmdoggbicaaGreatDoorMu5
namespace Go.Proofs.YtjajkmdoggbicaaGreatDoor
set_option maxRecDepth 100000
set_option maxHeartbeats 8000000
set_option linter.unusedVariables false
namespace Mi5
open Go.RowKit
open Ta0 Ta1 Ta2 Ta3 Tc2 Tc5 Td2 Te1 Te3 Mc0 Mm0 Mm1 Mm2 Mx0 Mi4
open Nd0 (Kept Ints set_other set_same lt_of_cell)
open Ss0 (bs bs_size bs_ext)
open Ss1 (tl bs_tl)
theorem plc_pl (vb:List Bool):∀ k,k<=vb.length->plc (vb.map bi) k=pl (vb.take k):=by
 intro k
 induction k with
 | zero=>intro _;simp [plc,pl]
 | succ k ih =>
   intro h
   have hk:k < vb.length:=by omega
   show 2*plc (vb.map bi) k+((vb.map bi).getD k 0).toNat=_
   rw [ih (by omega),take_bit hk,pl_snoc]
   have:(vb.map bi).getD k 0=bi vb[k]:=by simp [List.getD,hk]
   rw [this]
   simp [bi]
theorem bits_ok (vb:List Bool):∀ i,i < (vb.map bi).length->bitB ((vb.map bi).getD i 0)=true:=fun i hi=>by
 have hi2:i < vb.length:=by simpa using hi
 have:(vb.map bi).getD i 0=bi vb[i]:=by simp [List.getD,hi2]
 rw [this]
 cases vb[i]<;>rfl
theorem pl_lt (vb:List Bool):pl vb < 2 ^ vb.length:=by
 have h:=plc_lt (l:=vb.map bi) (k:=vb.length) (fun i hi=>bits_ok vb i (by rw [List.length_map];exact hi))
 rw [plc_pl vb _ (Nat.le_refl _),List.take_length] at h
 exact h
theorem cut_tab {n:Nat} (F:Nat->Bool) (vb:List Bool) (hk:vb.length<=n):((tab n F).take ((pl vb+1)*2 ^ (n - vb.length))).drop (pl vb*2 ^ (n - vb.length))=tab (n - vb.length) (lft n F vb):=by
 have hp:=pl_lt vb
 have hle:(pl vb+1)*2 ^ (n - vb.length)<=2 ^ n:=by
  rw [show n=vb.length+(n - vb.length) by omega,Nat.pow_add,show vb.length+(n - vb.length) - vb.length=n - vb.length by omega]
  exact Nat.mul_le_mul_right _ hp
 have h1:(pl vb+1)*2 ^ (n - vb.length)=pl vb*2 ^ (n - vb.length)+2 ^ (n - vb.length):=by rw [Nat.add_mul,Nat.one_mul]
 apply List.ext_getElem
 ·rw [List.length_drop,List.length_take,tab_length,tab_length,Nat.min_eq_left hle,h1,Nat.add_sub_cancel_left]
 ·intro i h2 h3
  rw [List.getElem_drop,List.getElem_take,tab_get,tab_get]
  rfl
theorem cut_le {n:Nat} (vb:List Bool) (hk:vb.length<=n):(pl vb+1)*2 ^ (n - vb.length)<=2 ^ n:=by
 rw [show n=vb.length+(n - vb.length) by omega,Nat.pow_add,show vb.length+(n - vb.length) - vb.length=n - vb.length by omega]
 exact Nat.mul_le_mul_right _ (pl_lt vb)
theorem iLeft (n:Nat) (F:Nat->Bool) (vb:List Bool) (m:Mc) (ra va ma:Option Addr) (rc vc mc:Nat) (w:World) (hn:n<=12) (hN:m.N=(n:Int)) (hS:m.S=bs (tab n F)) (hv:m.vals=vb.map bi) (hk:vb.length<=n) (hI:Ints w va m.vals) :
 Calls Tryz.prog 49 #[mval m ra va ma rc vc mc] w fun e w'=>e=.returned (tv ((n - vb.length:Nat):Int) (bs (tab (n - vb.length) (lft n F vb))))/\Below w.heap.size w w':=by
 have hlv:m.vals.length=vb.length:=by rw [hv,List.length_map]
 have HPL:Hid (∀ W,Below w.heap.size w W->Calls Tryz.prog 79 #[.slice va m.vals.length vc] W fun e w'=>e=.returned (.tuple #[.int .i64 ((pl vb:Nat):Int),.bool true])/\w'=W):=fun W hb=>by
  refine (iPlaceOf va m.vals vc W (by omega) (hI.below hb)).mono ?_
  rintro e w' ⟨h,rfl⟩
  refine ⟨?_,rfl⟩
  rcases h with ⟨_,rfl⟩|⟨⟨i,hi,hb⟩,_⟩
  ·rw [hlv,hv,plc_pl vb _ (Nat.le_refl _),List.take_length]
  ·rw [hv] at hi hb
   rw [bits_ok vb i hi] at hb
   cases hb
 have HEX:Hid (m.S.extract (pl vb*2 ^ (n - vb.length)) ((pl vb+1)*2 ^ (n - vb.length))=bs (tab (n - vb.length) (lft n F vb))):=by
  show _=_
  rw [hS,bs_ext,cut_tab F vb hk]
 have hp1:=pl_lt vb
 have hp2:=cut_le vb hk
 have hp3:=(p12 hn).2
 have hp4:pl vb < 4096:=by
  have:=Nat.pow_le_pow_right (n:=2) (by omega) hk
  omega
 have hsz:m.S.size=2 ^ n:=by rw [hS,bs_size,tab_length]
 have hmul:pl vb*2 ^ (n - vb.length)<=(pl vb+1)*2 ^ (n - vb.length):=Nat.mul_le_mul_right _ (by omega)
 have hw1:IntKind.i64.wrap ((pl vb:Int)*2 ^ (n - vb.length))=((pl vb*2 ^ (n - vb.length):Nat):Int):=by
  rw [show (pl vb:Int)*2 ^ (n - vb.length)=((pl vb*2 ^ (n - vb.length):Nat):Int) by push_cast;rfl,IntKind.wrap_i64]<;>omega
 have hw2:IntKind.i64.wrap (((pl vb:Int)+1)*2 ^ (n - vb.length))=(((pl vb+1)*2 ^ (n - vb.length):Nat):Int):=by
  rw [show ((pl vb:Int)+1)*2 ^ (n - vb.length)=(((pl vb+1)*2 ^ (n - vb.length):Nat):Int) by push_cast;rfl,IntKind.wrap_i64]<;>omega
 have hsub:m.N - (m.vals.length:Int)=((n - vb.length:Nat):Int):=by rw [hN,hlv];omega
 have HSUB:Hid (m.N - (m.vals.length:Int)=((n - vb.length:Nat):Int)):=hsub
 have hN0:0<=m.N:=by omega
 have hN1:m.N<=12:=by omega
 have hv1:m.vals.length<=12:=by omega
 have he12:n - vb.length<=12:=by omega
 have hA2:pl vb*2 ^ (n - vb.length)<=m.S.size:=by omega
 have hB2:(pl vb+1)*2 ^ (n - vb.length)<=m.S.size:=by omega
 have hsz2:m.S.size<=4096:=by omega
 clear hsz hp1 hp2 hp3 hI hv hS hN hlv
 generalize n - vb.length=e at *
 generalize bs (tab e (lft n F vb))=T at *
 generalize pl vb=y at *
 generalize hA:y*2 ^ e=A at *
 generalize hB:(y+1)*2 ^ e=B at *
 clear hA hB
 obtain ⟨W0,hW0⟩:∃ W0,W0=((w.alloc (.cells #[.slice ra m.row.length rc,.int .i64 m.N,.string m.S,.int .i64 m.room,.slice va m.vals.length vc,.int .i64 m.ret,.bool m.over,.int .i64 m.steps,.int .i64 m.looks,.int .i64 m.hits,.slice ma m.memo.length mc] 30)).alloc (.cells #[.int .i64 0,.string ⟨#[]⟩] 26)):=⟨_,rfl⟩
 have HE0:Hid (((w.alloc (.cells #[.slice ra m.row.length rc,.int .i64 m.N,.string m.S,.int .i64 m.room,.slice va m.vals.length vc,.int .i64 m.ret,.bool m.over,.int .i64 m.steps,.int .i64 m.looks,.int .i64 m.hits,.slice ma m.memo.length mc] 30)).alloc (.cells #[.int .i64 0,.string ⟨#[]⟩] 26))=W0):=hW0.symm
 have HB0:Hid (Below w.heap.size w W0):=by rw [hW0];exact ((Below.refl _ _).alloc (Nat.le_refl _) _).alloc (by simp) _
 have HA0:Hid (Mb W0 w.heap.size m ra va ma rc vc mc):=by rw [hW0];exact (Mb.made _ _ _ _ _ _ _ _ _).alloc _
 have HL0:Hid (Lay W0 (w.heap.size+1) (.int .i64 0) (.string ⟨#[]⟩)):=by
  rw [hW0]
  have h1:=Lay.made (w.alloc (.cells #[.slice ra m.row.length rc,.int .i64 m.N,.string m.S,.int .i64 m.room,.slice va m.vals.length vc,.int .i64 m.ret,.bool m.over,.int .i64 m.steps,.int .i64 m.looks,.int .i64 m.hits,.slice ma m.memo.length mc] 30)) (.int .i64 0) (.string ⟨#[]⟩) 26
  have h2:(w.alloc (.cells #[.slice ra m.row.length rc,.int .i64 m.N,.string m.S,.int .i64 m.room,.slice va m.vals.length vc,.int .i64 m.ret,.bool m.over,.int .i64 m.steps,.int .i64 m.looks,.int .i64 m.hits,.slice ma m.memo.length mc] 30)).heap.size=w.heap.size+1:=by simp
  rw [h2] at h1
  exact h1
 clear hW0
 go_enter Tryz.func49,Tryz.ntmps49
 go_upto_region 1 with fail
 rw [HE0.out]
 clear HE0
 obtain ⟨m0,m1,m2,m3,m4,m5,m6,m7,m8,m9,m10⟩:=HA0.out
 obtain ⟨y0,y1,z0,z1⟩:=HL0.out
 go_wp2_with fail
 refine (HPL.out _ HB0.out).mono ?_
 rintro _ w2 ⟨rfl,hw⟩
 have hw':=hw.symm
 clear hw
 subst hw'
 go_wp2_with fail
 go_region
 rw [HEX.out]
 obtain ⟨W2,hW2,hL2,hB2'⟩:=finT HL0.out HB0.out (Nat.le_succ _) (.int .i64 (e:Int)) (.string T)
 rw [<- hW2]
 have u0:=hL2.c0
 have u1:=hL2.c1
 clear m0 m1 m2 m3 m4 m5 m6 m7 m8 m9 m10 y0 y1 z0 z1 hW2
 go_wp2
 exact bodyPost_ret (v:=tv (e:Int) T) (by simp [results,Tryz.results49,go_sem,u0,u1]) rfl ⟨rfl,hB2'.drew⟩
theorem iMLeft0 (m:Mc) (ra va ma:Option Addr) (rc vc mc:Nat) (w:World) (hS:m.S.size<=1048576) (hR:Mr w m ra va ma) (hk:∀ x∈m.memo,x.k.size<=maxLen) (h1:mokB m=false) :
 Calls Tryz.prog 15 #[mval m ra va ma rc vc mc] w fun e w'=>e=.returned (.tuple #[tv 0 ⟨#[]⟩,.bool false])/\Below w.heap.size w w':=by
 have HOK:Hid (∀ W,Below w.heap.size w W->Calls Tryz.prog 12 #[mval m ra va ma rc vc mc] W fun e w'=>e=.returned (.bool false)/\Below W.heap.size W w'):=fun W hb=>by
  have:=iMachineOk m ra va ma rc vc mc W hS (hR.below hb) hk
  rwa [h1] at this
 clear hS hR hk h1
 obtain ⟨W0,hW0⟩:∃ W0,W0=((w.alloc (.cells #[.slice ra m.row.length rc,.int .i64 m.N,.string m.S,.int .i64 m.room,.slice va m.vals.length vc,.int .i64 m.ret,.bool m.over,.int .i64 m.steps,.int .i64 m.looks,.int .i64 m.hits,.slice ma m.memo.length mc] 30)).alloc (.cells #[.int .i64 0,.string ⟨#[]⟩] 26)):=⟨_,rfl⟩
 have HE0:Hid (((w.alloc (.cells #[.slice ra m.row.length rc,.int .i64 m.N,.string m.S,.int .i64 m.room,.slice va m.vals.length vc,.int .i64 m.ret,.bool m.over,.int .i64 m.steps,.int .i64 m.looks,.int .i64 m.hits,.slice ma m.memo.length mc] 30)).alloc (.cells #[.int .i64 0,.string ⟨#[]⟩] 26))=W0):=hW0.symm
 have HB0:Hid (Below w.heap.size w W0):=by rw [hW0];exact ((Below.refl _ _).alloc (Nat.le_refl _) _).alloc (by simp) _
 have HA0:Hid (Mb W0 w.heap.size m ra va ma rc vc mc):=by rw [hW0];exact (Mb.made _ _ _ _ _ _ _ _ _).alloc _
 have HL0:Hid (Lay W0 (w.heap.size+1) (.int .i64 0) (.string ⟨#[]⟩)):=by
  rw [hW0]
  have h1:=Lay.made (w.alloc (.cells #[.slice ra m.row.length rc,.int .i64 m.N,.string m.S,.int .i64 m.room,.slice va m.vals.length vc,.int .i64 m.ret,.bool m.over,.int .i64 m.steps,.int .i64 m.looks,.int .i64 m.hits,.slice ma m.memo.length mc] 30)) (.int .i64 0) (.string ⟨#[]⟩) 26
  have h2:(w.alloc (.cells #[.slice ra m.row.length rc,.int .i64 m.N,.string m.S,.int .i64 m.room,.slice va m.vals.length vc,.int .i64 m.ret,.bool m.over,.int .i64 m.steps,.int .i64 m.looks,.int .i64 m.hits,.slice ma m.memo.length mc] 30)).heap.size=w.heap.size+1:=by simp
  rw [h2] at h1
  exact h1
 clear hW0
 go_enter Tryz.func15,Tryz.ntmps15
 go_upto_region 1 with fail
 rw [HE0.out]
 clear HE0
 obtain ⟨m0,m1,m2,m3,m4,m5,m6,m7,m8,m9,m10⟩:=HA0.out
 go_wp2_with fail
 refine (HOK.out _ HB0.out).mono ?_
 rintro e w1 ⟨rfl,hb1⟩
 have HB1:Hid (Below w.heap.size w w1):=HB0.out.trans (hb1.mono HB0.out.size)
 have HL1:Hid (Lay w1 (w.heap.size+1) (.int .i64 0) (.string ⟨#[]⟩)):=HL0.out.below hb1
 clear hb1 m0 m1 m2 m3 m4 m5 m6 m7 m8 m9 m10
 obtain ⟨y0,y1,z0,z1⟩:=HL1.out
 go_wp2
 obtain ⟨W2,hW2,hL2,hB2⟩:=finT HL1.out HB1.out (Nat.le_succ _) (.int .i64 0) (.string ⟨#[]⟩)
 rw [<- hW2]
 obtain ⟨u0,u1,_,_⟩:=hL2
 exact bodyPost_ret (v:=.tuple #[tv 0 ⟨#[]⟩,.bool false]) (by simp [results,Tryz.results15,go_sem,u0,u1]) rfl ⟨rfl,hB2⟩
theorem iMLeft1 (n:Nat) (F:Nat->Bool) (vb:List Bool) (m:Mc) (ra va ma:Option Addr) (rc vc mc:Nat) (w:World) (hS:m.S.size<=1048576) (hR:Mr w m ra va ma) (hk:∀ x∈m.memo,x.k.size<=maxLen) (h1:mokB m=true) (hn:n<=12) (hN:m.N=(n:Int)) (hS2:m.S=bs (tab n F)) (hv:m.vals=vb.map bi) (hl:vb.length<=n) :
 Calls Tryz.prog 15 #[mval m ra va ma rc vc mc] w fun e w'=>e=.returned (.tuple #[tv ((n - vb.length:Nat):Int) (bs (tab (n - vb.length) (lft n F vb))),.bool true])/\Below w.heap.size w w':=by
 have HOK:Hid (∀ W,Below w.heap.size w W->Calls Tryz.prog 12 #[mval m ra va ma rc vc mc] W fun e w'=>e=.returned (.bool true)/\Below W.heap.size W w'):=fun W hb=>by
  have:=iMachineOk m ra va ma rc vc mc W hS (hR.below hb) hk
  rwa [h1] at this
 have HLF:Hid (∀ W,Below w.heap.size w W->Calls Tryz.prog 49 #[mval m ra va ma rc vc mc] W fun e w'=>e=.returned (tv ((n - vb.length:Nat):Int) (bs (tab (n - vb.length) (lft n F vb))))/\Below W.heap.size W w'):=fun W hb=>iLeft n F vb m ra va ma rc vc mc W hn hN hS2 hv hl (hR.vals.below hb)
 clear hS hR hk h1 hN hS2 hv
 generalize bs (tab (n - vb.length) (lft n F vb))=T at *
 generalize ((n - vb.length:Nat):Int)=e at *
 obtain ⟨W0,hW0⟩:∃ W0,W0=((w.alloc (.cells #[.slice ra m.row.length rc,.int .i64 m.N,.string m.S,.int .i64 m.room,.slice va m.vals.length vc,.int .i64 m.ret,.bool m.over,.int .i64 m.steps,.int .i64 m.looks,.int .i64 m.hits,.slice ma m.memo.length mc] 30)).alloc (.cells #[.int .i64 0,.string ⟨#[]⟩] 26)):=⟨_,rfl⟩
 have HE0:Hid (((w.alloc (.cells #[.slice ra m.row.length rc,.int .i64 m.N,.string m.S,.int .i64 m.room,.slice va m.vals.length vc,.int .i64 m.ret,.bool m.over,.int .i64 m.steps,.int .i64 m.looks,.int .i64 m.hits,.slice ma m.memo.length mc] 30)).alloc (.cells #[.int .i64 0,.string ⟨#[]⟩] 26))=W0):=hW0.symm
 have HB0:Hid (Below w.heap.size w W0):=by rw [hW0];exact ((Below.refl _ _).alloc (Nat.le_refl _) _).alloc (by simp) _
 have HA0:Hid (Mb W0 w.heap.size m ra va ma rc vc mc):=by rw [hW0];exact (Mb.made _ _ _ _ _ _ _ _ _).alloc _
 have HL0:Hid (Lay W0 (w.heap.size+1) (.int .i64 0) (.string ⟨#[]⟩)):=by
  rw [hW0]
  have h1:=Lay.made (w.alloc (.cells #[.slice ra m.row.length rc,.int .i64 m.N,.string m.S,.int .i64 m.room,.slice va m.vals.length vc,.int .i64 m.ret,.bool m.over,.int .i64 m.steps,.int .i64 m.looks,.int .i64 m.hits,.slice ma m.memo.length mc] 30)) (.int .i64 0) (.string ⟨#[]⟩) 26
  have h2:(w.alloc (.cells #[.slice ra m.row.length rc,.int .i64 m.N,.string m.S,.int .i64 m.room,.slice va m.vals.length vc,.int .i64 m.ret,.bool m.over,.int .i64 m.steps,.int .i64 m.looks,.int .i64 m.hits,.slice ma m.memo.length mc] 30)).heap.size=w.heap.size+1:=by simp
  rw [h2] at h1
  exact h1
 clear hW0
 go_enter Tryz.func15,Tryz.ntmps15
 go_upto_region 1 with fail
 rw [HE0.out]
 clear HE0
 obtain ⟨m0,m1,m2,m3,m4,m5,m6,m7,m8,m9,m10⟩:=HA0.out
 go_wp2_with fail
 refine (HOK.out _ HB0.out).mono ?_
 rintro _ w1 ⟨rfl,hb1⟩
 have HB1:Hid (Below w.heap.size w w1):=HB0.out.trans (hb1.mono HB0.out.size)
 have HA1:Hid (Mb w1 w.heap.size m ra va ma rc vc mc):=HA0.out.below hb1
 have HL1:Hid (Lay w1 (w.heap.size+1) (.int .i64 0) (.string ⟨#[]⟩)):=HL0.out.below hb1
 clear hb1 m0 m1 m2 m3 m4 m5 m6 m7 m8 m9 m10
 obtain ⟨m0,m1,m2,m3,m4,m5,m6,m7,m8,m9,m10⟩:=HA1.out
 go_wp2_with fail
 refine (HLF.out _ HB1.out).mono ?_
 rintro _ w2 ⟨rfl,hb2⟩
 have HB2:Hid (Below w.heap.size w w2):=HB1.out.trans (hb2.mono HB1.out.size)
 have HL2:Hid (Lay w2 (w.heap.size+1) (.int .i64 0) (.string ⟨#[]⟩)):=HL1.out.below hb2
 clear hb2 m0 m1 m2 m3 m4 m5 m6 m7 m8 m9 m10
 obtain ⟨y0,y1,z0,z1⟩:=HL2.out
 go_wp2
 obtain ⟨W2,hW2,hL2,hB2⟩:=finT HL2.out HB2.out (Nat.le_succ _) (.int .i64 e) (.string T)
 rw [<- hW2]
 obtain ⟨u0,u1,_,_⟩:=hL2
 exact bodyPost_ret (v:=.tuple #[tv e T,.bool true]) (by simp [results,Tryz.results15,go_sem,u0,u1]) rfl ⟨rfl,hB2⟩
/-- A row of bits as flags. -/
theorem bits_of (l:List Int) (h:∀ x∈l,0<=x/\x<=1):∃ vb:List Bool,l=vb.map bi:=by
 refine ⟨l.map (fun x=>decide (x=1)),?_⟩
 rw [List.map_map]
 conv=>lhs;rw [<- List.map_id l]
 apply List.map_congr_left
 intro x hx
 have:=h x hx
 have hx2:x=0\/x=1:=by omega
 rcases hx2 with rfl|rfl<;>rfl
end Mi5
namespace Mu6
open Go.RowKit
open Qc0 (Sn)
open Mm0 Mu1 Mu3 Mu5
open Ta0 Ta1 Ta2 Ta3 Tc2 Td1 Mc0 Mm1
open Tk0 (keyL)
open Ss0 (bs)
open Ss1 (tl)
/-- Values as flags. -/
def bools (l:List Int):List Bool:=l.map fun x=>decide (x=1)
theorem bools_bi {l:List Int} (h:∀ x∈l,0<=x/\x<=1):l=(bools l).map bi:=by
 unfold bools
 rw [List.map_map]
 conv=>lhs;rw [<- List.map_id l]
 apply List.map_congr_left
 intro x hx
 have:=h x hx
 have hx2:x=0\/x=1:=by omega
 rcases hx2 with rfl|rfl<;>rfl
theorem bools_len (l:List Int):(bools l).length=l.length:=by unfold bools;rw [List.length_map]
/-- The key of what is left. -/
def kyM (n:Nat) (F:Nat->Bool) (l:List Int):ByteArray:=bs (keyL (n - (bools l).length) (tab (n - (bools l).length) (lft n F (bools l))))
/-- The way up. -/
def upM (n:Nat) (F:Nat->Bool) (m:Mc):Mc :=
 if m.vals=[] then { m with over:=true }
 else if (m.row.getD m.vals.dropLast.length false != (m.ret==0))&&(m.vals.getLastD 0==0) then { m with vals:=m.vals.dropLast++[1],ret := -1 }
 else { m with vals:=m.vals.dropLast,memo:=keepM m.room m.memo (kyM n F m.vals.dropLast) m.ret }
/-- A step. -/
def stepM (n:Nat) (F:Nat->Bool) (m:Mc):Mc :=
 if m.over=true\/1000000000<=m.steps then m
 else if m.ret < 0 then downM n F (bools m.vals) { m with steps:=m.steps+1 } else upM n F { m with steps:=m.steps+1 }
theorem fnd_in {l:List Sn} {k:ByteArray} (h:0<=fnd l k):∃ x∈l,x.k=k/\x.r=fnd l k:=by
 induction l with
 | nil=>exact absurd (show (0:Int) <= -1 from h) (by decide)
 | cons x r ih =>
   unfold fnd at h ⊢
   by_cases e:x.k=k
   ·rw [if_pos e];exact ⟨x,List.mem_cons_self,e,rfl⟩
   ·rw [if_neg e] at h ⊢
    obtain ⟨y,hy,h1,h2⟩:=ih h
    exact ⟨y,List.mem_cons_of_mem _ hy,h1,h2⟩
theorem fnd_not {l:List Sn} {k:ByteArray} (hr:∀ x∈l,0<=x.r/\x.r<=1) (h:fnd l k < 0):∀ x∈l,x.k≠k:=by
 induction l with
 | nil=>intro x hx;cases hx
 | cons y r ih =>
   intro x hx
   unfold fnd at h
   by_cases e:y.k=k
   ·rw [if_pos e] at h
    have:=hr y List.mem_cons_self
    omega
   ·rw [if_neg e] at h
    rcases List.mem_cons.1 hx with rfl|hx
    ·exact e
    ·exact ih (fun z hz=>hr z (List.mem_cons_of_mem _ hz)) h x hx
theorem apart_snoc {l:List Sn} {y:Sn} (h:apart l) (hn:∀ x∈l,x.k≠y.k):apart (l++[y]):=by
 intro i j hi hj hji
 rw [List.length_append,List.length_singleton] at hi hj
 have hjl:j < l.length:=by omega
 rw [List.getElem_append_left hjl]
 by_cases e:i < l.length
 ·rw [List.getElem_append_left e]
  exact h i j e hjl hji
 ·have:(l++[y])[i]'(by rw [List.length_append];simpa using hi)=y:=by
   rw [List.getElem_append_right (by omega)]
   simp
  rw [this]
  exact hn _ (List.getElem_mem hjl)
theorem apart_drop {l:List Sn} (h:apart l):apart (l.drop 1):=by
 intro i j hi hj hji
 rw [List.length_drop] at hi hj
 rw [List.getElem_drop,List.getElem_drop]
 exact h (1+i) (1+j) (by omega) (by omega) (by omega)
theorem keepM_ok {room:Int} {l:List Sn} {k:ByteArray} {r:Int} (hl:(l.length:Int)<=room) (hs:∀ x∈l,0<=x.r/\x.r<=1) (ha:apart l) (hr:0<=r/\r<=1):((keepM room l k r).length:Int)<=room/\(∀ x∈keepM room l k r,0<=x.r/\x.r<=1)/\apart (keepM room l k r):=by
 unfold keepM
 by_cases h:0 < room/\fnd l k < 0
 ·rw [if_pos h]
  have h1:∀ x∈l++[(⟨k,r⟩:Sn)],0<=x.r/\x.r<=1:=fun x hx=>by
   rcases List.mem_append.1 hx with e|e
   ·exact hs x e
   ·rw [List.mem_singleton.1 e];exact hr
  have h2:apart (l++[(⟨k,r⟩:Sn)]):=apart_snoc ha (fnd_not hs h.2)
  by_cases e:room < ((l++[(⟨k,r⟩:Sn)]).length:Int)
  ·rw [if_pos e]
   refine ⟨?_,fun x hx=>h1 x (List.mem_of_mem_drop hx),apart_drop h2⟩
   rw [List.length_drop,List.length_append,List.length_singleton]
   omega
  ·rw [if_neg e]
   exact ⟨by omega,h1,h2⟩
 ·rw [if_neg h]
  exact ⟨hl,hs,ha⟩
theorem knw_range (e:Nat) (G:Nat->Bool) : -1<=knw e G/\knw e G<=1:=by
 unfold knw
 split
 ·omega
 ·split<;>omega
theorem knw_full {G:Nat->Bool}:0<=knw 0 G:=by
 rw [knw_same (fun j hj=>by have:j=0:=(by simpa using hj);rw [this])]
 omega
theorem drop_last {l:List Int} (h:l≠[]):l=l.dropLast++[l.getLastD 0]:=by
 have h1:=(List.dropLast_concat_getLast h).symm
 have h2:l.getLastD 0=l.getLast h:=by
  rw [List.getLastD_eq_getLast?,List.getLast?_eq_some_getLast h]
  rfl
 rw [h2]
 exact h1
/-- A right machine stays right. -/
theorem step_ok {n:Nat} {F:Nat->Bool} {m:Mc} (h:Mok m) (hN:m.N=(n:Int)) (hl:m.looks < 1000000000) (hh:m.hits < 1000000000):Mok (stepM n F m)/\(stepM n F m).N=m.N/\(stepM n F m).S=m.S/\(stepM n F m).row=m.row/\(stepM n F m).room=m.room:=by
 obtain ⟨h1,h2,h3,h4,h5,h6,h7,h8,h9,h10,h11,h12,h13⟩:=h
 unfold stepM
 by_cases ho:m.over=true\/1000000000<=m.steps
 ·rw [if_pos ho]
  exact ⟨⟨h1,h2,h3,h4,h5,h6,h7,h8,h9,h10,h11,h12,h13⟩,rfl,rfl,rfl,rfl⟩
 rw [if_neg ho]
 have hov:m.over=false:=by
  cases e:m.over
  ·rfl
  ·exact absurd (.inl e) ho
 have hst:¬ 1000000000<=m.steps:=fun e=>ho (.inr e)
 have h8':0<=m.steps+1/\m.steps+1<=1000000000:=by omega
 by_cases hr:m.ret < 0
 ·rw [if_pos hr]
  unfold downM
  by_cases hA:0<=knw (n - (bools m.vals).length) (lft n F (bools m.vals))
  ·rw [if_pos hA]
   have hk:=knw_range (n - (bools m.vals).length) (lft n F (bools m.vals))
   refine ⟨⟨h1,h2,h3,h4,h5,hk,fun e=>?_,h8',?_,h10,h11,h12,h13⟩,rfl,rfl,rfl,rfl⟩
   ·exact absurd (show m.over=true from e) (by rw [hov];simp)
   ·show 0<=m.looks+1/\m.looks+1<=1000000000
    omega
  ·rw [if_neg hA]
   split
   ·rename_i hf
    obtain ⟨x,hx,hxk,hxr⟩:=fnd_in hf
    have:=h12 x hx
    refine ⟨⟨h1,h2,h3,h4,h5,?_,fun e=>?_,h8',h9,?_,h11,h12,h13⟩,rfl,rfl,rfl,rfl⟩
    ·show -1<=fnd m.memo _/\fnd m.memo _<=1
     rw [<- hxr]
     omega
    ·exact absurd (show m.over=true from e) (by rw [hov];simp)
    ·show 0<=m.hits+1/\m.hits+1<=1000000000
     omega
   ·refine ⟨⟨h1,h2,h3,h4,?_,h6,fun e=>?_,h8',h9,h10,fun x hx=>?_,h12,h13⟩,rfl,rfl,rfl,rfl⟩
    ·show (((m.vals++[0]).length:Nat):Int)<=m.N
     rw [List.length_append,List.length_singleton]
     have hlt:(bools m.vals).length < n:=by
      apply Classical.byContradiction
      intro hc
      have e:n - (bools m.vals).length=0:=by omega
      rw [e] at hA
      exact hA knw_full
     rw [bools_len] at hlt
     omega
    ·exact absurd (show m.over=true from e) (by rw [hov];simp)
    ·rcases List.mem_append.1 hx with e|e
     ·exact h11 x e
     ·rw [List.mem_singleton.1 e];omega
 ·rw [if_neg hr]
  unfold upM
  by_cases hv:m.vals=[]
  ·rw [if_pos hv]
   exact ⟨⟨h1,h2,h3,h4,h5,h6,fun _=>⟨by show 0<=m.ret;omega,by show m.vals.length=0;rw [hv];rfl⟩,h8',h9,h10,h11,h12,h13⟩,rfl,rfl,rfl,rfl⟩
  ·rw [if_neg hv]
   have hd:=drop_last hv
   have hdl:m.vals.dropLast.length+1=m.vals.length:=by
    have:=congrArg List.length hd
    rw [List.length_append,List.length_singleton] at this
    omega
   have hmem:∀ x∈m.vals.dropLast,x∈m.vals:=fun x hx=>List.dropLast_subset _ hx
   split
   ·refine ⟨⟨h1,h2,h3,h4,?_,⟨by show (-1:Int) <= -1;omega,by show (-1:Int)<=1;omega⟩,fun e=>?_,h8',h9,h10,fun x hx=>?_,h12,h13⟩,rfl,rfl,rfl,rfl⟩
    ·show (((m.vals.dropLast++[1]).length:Nat):Int)<=m.N
     rw [List.length_append,List.length_singleton]
     omega
    ·exact absurd (show m.over=true from e) (by rw [hov];simp)
    ·rcases List.mem_append.1 hx with e|e
     ·exact h11 x (hmem x e)
     ·rw [List.mem_singleton.1 e];omega
   ·obtain ⟨k1,k2,k3⟩:=keepM_ok (k:=kyM n F m.vals.dropLast) (r:=m.ret) h4 h12 h13 (by omega)
    refine ⟨⟨h1,h2,h3,k1,?_,h6,fun e=>?_,h8',h9,h10,fun x hx=>h11 x (hmem x hx),k2,k3⟩,rfl,rfl,rfl,rfl⟩
    ·show ((m.vals.dropLast.length:Nat):Int)<=m.N
     omega
    ·exact absurd (show m.over=true from e) (by rw [hov];simp)
end Mu6
end Go.Proofs.YtjajkmdoggbicaaGreatDoor
