import Derived.Laws.IdiomCopy
import Derived.Test.YtladjpombohpaaaGreatDoorPkJE15
import Derived.Test.YtladjpombohpaaaGreatDoorMm2
namespace Go.Proofs.YtladjpombohpaaaGreatDoor
set_option maxRecDepth 100000
set_option maxHeartbeats 8000000
set_option linter.unusedVariables false
namespace Tc10
open Go.RowKit
open Ta0 Ta1 Tc2 Tc4 Tc5 Tc7 Tc8
open Nd0 (Kept set_other set_same lt_of_cell)
/-- What stands while a half is made. -/
structure WH (w:World) (n m n2 m2 g q g2:Nat) (F H:Nat->Bool) (W:World):Prop where
 lay:Lay W w.heap.size (.int .i64 (n:Int)) (.slice (some ⟨g,0,none⟩) m m)
 res:Lay W (w.heap.size+1) (.int .i64 0) (.slice none 0 0)
 new:Lay W q (.int .i64 (n2:Int)) (.slice (some ⟨g2,0,none⟩) m2 m2)
 wds:Wds W g m F
 wdk:Wdk W g2 m2 0 H
 bel:Below w.heap.size w W
theorem WH.below {w:World} {n m n2 m2 g q g2:Nat} {F H:Nat->Bool} {W W':World} (h:WH w n m n2 m2 g q g2 F H W) (b:Below W.heap.size W W'):WH w n m n2 m2 g q g2 F H W' :=
 ⟨h.lay.below b,h.res.below b,h.new.below b,h.wds.below b,h.wdk.below b,h.bel.trans (b.mono h.bel.size)⟩
theorem WH.drewN {w:World} {n m n2 m2 g q g2:Nat} {F H:Nat->Bool} {W:World} (h:WH w n m n2 m2 g q g2 F H W) (k:Nat):WH w n m n2 m2 g q g2 F H (W.drewN k) :=
 h.below (below_drewN (Below.refl _ _) k)
theorem WH.drew {w:World} {n m n2 m2 g q g2:Nat} {F H:Nat->Bool} {W:World} (h:WH w n m n2 m2 g q g2 F H W):WH w n m n2 m2 g q g2 F H W.drew:=h.drewN 1
/-- Behind the store of the one word. -/
theorem fin1 {w:World} {n n2 g q g2:Nat} {F H:Nat->Bool} {W:World} (h:WH w n 1 n2 1 g q g2 F H W) (hq:g2≠q) (h0:w.heap.size+2<=g2) (_:True\/True) :
 Lay (W.setCell ⟨g2,0,none⟩ (.int .u64 (wd H 0:Int))) (w.heap.size+1) (.int .i64 0) (.slice none 0 0)/\Lay (W.setCell ⟨g2,0,none⟩ (.int .u64 (wd H 0:Int))) q (.int .i64 (n2:Int)) (.slice (some ⟨g2,0,none⟩) 1 1)/\Wds (W.setCell ⟨g2,0,none⟩ (.int .u64 (wd H 0:Int))) g2 1 H/\Below w.heap.size w (W.setCell ⟨g2,0,none⟩ (.int .u64 (wd H 0:Int))):=by
 have K:=kset (S:=fun b=>b=g2) (Kept.refl (fun b=>b=g2) W) (b:=g2) (o:=0) rfl (.int .u64 (wd H 0:Int))
 exact ⟨h.res.kept K (by omega),h.new.kept K (fun e=>hq e.symm),(h.wdk.set _ rfl).done,h.bel.trans (K.below (fun b hb=>by omega) h.bel.size)⟩
theorem fin {w W:World} {g2 m2:Nat} {H:Nat->Bool} {a b:Value} (hr:Lay W (w.heap.size+1) a b) (hw:Wds W g2 m2 H) (hb:Below w.heap.size w W) (hne:w.heap.size+2<=g2) (x y:Value) :
 ∃ W',W'=(W.setCell ⟨w.heap.size+1,0,none⟩ x).setCell ⟨w.heap.size+1,1,none⟩ y/\Lay W' (w.heap.size+1) x y/\Wds W' g2 m2 H/\Below w.heap.size w W':=by
 have K:Kept (fun b=>b=w.heap.size+1) W ((W.setCell ⟨w.heap.size+1,0,none⟩ x).setCell ⟨w.heap.size+1,1,none⟩ y):=kset (S:=fun b=>b=w.heap.size+1) (kset (S:=fun b=>b=w.heap.size+1) (Kept.refl (fun b=>b=w.heap.size+1) W) rfl _) rfl _
 exact ⟨_,rfl,hr.put x y,hw.kept K (by omega),hb.trans (K.below (fun b hb=>by omega) hb.size)⟩
/-- Words as cells. -/
def wcs (m:Nat) (H:Nat->Bool):List Value:=(List.range m).map fun i=>.int .u64 (wd H i:Int)
theorem wcs_length (m:Nat) (H:Nat->Bool):(wcs m H).length=m:=by simp [wcs]
theorem wcs_get (m:Nat) (H:Nat->Bool) (i:Nat) (h:i < (wcs m H).length):(wcs m H)[i]=.int .u64 (wd H i:Int):=by simp [wcs]
theorem sizeU:(Tryz.prog.info? 249).map (·.size)=some 1:=by kernel_rfl
theorem copyW {w:World} {n m n2 m2 g q g2:Nat} {F H:Nat->Bool} {W:World} (h:WH w n m n2 m2 g q g2 F H W) (fr:Nat) (h1:fr+m2<=m) (h2:∀ i,i < m2->wd F (fr+i)=wd H i) :
 (Builtin.copy_ #[245,245] 3 #[.slice (some ⟨g2,0,none⟩) m2 m2,.slice (some ⟨g,fr,none⟩) m2 m2]).run Tryz.prog W.drew=.ok (.int .i64 (m2:Int)) (W.drew.setCells g2 0 (wcs m2 H)):=by
 have hd:WH w n m n2 m2 g q g2 F H W.drew:=h.below (below_drewN (Below.refl _ _) 1)
 have:=run_copy_cells (P:=Tryz.prog) W.drew 245 245 3 249 g2 0 m2 m2 ⟨g,fr,none⟩ m2 m2 (wcs m2 H) Tryz.underlying245 sizeU (by rw [wcs_length];simp)
  (fun j v hv=>by
   obtain ⟨hj,rfl⟩:=List.getElem?_eq_some_iff.1 hv
   have hj':j < m2:=by rwa [wcs_length] at hj
   rw [wcs_get,<- h2 j hj',Addr.add_lit]
   exact (hd.wds (fr+j) (by omega)).1)
  (fun j hj=>by
   rw [wcs_length] at hj
   obtain ⟨⟨v,hv,_⟩,_⟩:=hd.wdk j hj
   rw [Nat.zero_add,hv];rfl)
  (fun j hj=>by
   rw [wcs_length] at hj
   rw [Nat.zero_add];exact (hd.wdk j hj).2)
  (fun v hv=>by
   obtain ⟨i,_,rfl⟩:=List.mem_map.1 hv
   rfl)
 rw [wcs_length] at this
 exact this
theorem kset_all {b:Nat}:∀ (vs:List Value) (o:Nat) (w:World),Kept (fun i=>i=b) w (w.setCells b o vs)
 | [],_,w=>Kept.refl _ _
 | v :: r,o,w=>(kset (S:=fun i=>i=b) (Kept.refl (fun i=>i=b) w) rfl v).trans (kset_all r (o+1) _)
/-- Behind the copy of the words. -/
theorem fin2 {w:World} {n m n2 m2 g q g2:Nat} {F H:Nat->Bool} {W:World} (h0:WH w n m n2 m2 g q g2 F H W) (hq:g2≠q) (hs:w.heap.size+2<=g2) :
 Lay (W.drew.setCells g2 0 (wcs m2 H)) (w.heap.size+1) (.int .i64 0) (.slice none 0 0)/\Lay (W.drew.setCells g2 0 (wcs m2 H)) q (.int .i64 (n2:Int)) (.slice (some ⟨g2,0,none⟩) m2 m2)/\Wds (W.drew.setCells g2 0 (wcs m2 H)) g2 m2 H/\Below w.heap.size w (W.drew.setCells g2 0 (wcs m2 H)):=by
 have h:=h0.drew
 have K:=kset_all (b:=g2) (wcs m2 H) 0 W.drew
 refine ⟨h.res.kept K (by omega),h.new.kept K (fun e=>hq e.symm),fun i hi=>⟨?_,?_⟩,h.bel.trans (K.below (fun b hb=>by omega) h.bel.size)⟩
 ·have:=World.cell?_setCells_in g2 (wcs m2 H) 0 W.drew (fun j hj=>by
   rw [wcs_length] at hj
   obtain ⟨⟨v,hv,_⟩,_⟩:=h.wdk j hj
   rw [Nat.zero_add,hv];rfl) i (by rw [wcs_length];exact hi)
  rw [Nat.zero_add,wcs_get] at this
  exact this
 ·rw [World.frozen?_setCells];exact (h.wdk i hi).2
theorem nw_low {n:Nat} (h:n<=6):nw n=1:=by
 have h6:2 ^ n<=2 ^ 6:=Nat.pow_le_pow_right (by omega) h
 have:=Nat.one_le_two_pow (n:=n)
 unfold nw;omega
theorem nw_high {n:Nat} (h:6<=n):nw n=2 ^ n / 64/\nw (n+1)=2*nw n:=by
 have hd:2 ^ n=64*2 ^ (n - 6):=by rw [show (64:Nat)=2 ^ 6 from rfl,<- Nat.pow_add];congr 1;omega
 have hp:2 ^ (n+1)=2*2 ^ n:=by rw [Nat.pow_succ];omega
 unfold nw;omega
end Tc10
namespace Te1
open Go.RowKit
open Ta0 Ta1 Ta2 Tc2 Tc4 Tc5 Tc6 Tc7 Tc8 Td1 Td2
open Nd0 (Kept Ints set_other set_same lt_of_cell)
open Ss0 (bs bs_size ret_str bs_ext)
open Ss1 (tl tl_length tl_get tl_take bs_tl tl_bs tl_inj eqb)
theorem iOk1 (n:Nat) (F:Nat->Bool) (w:World) (hn:n<=12) :
 Calls Tryz.prog 150 #[tv (n:Int) (bs (tab n F))] w fun e w'=>e=.returned (.bool true)/\Below w.heap.size w w':=by
 have:=iTableOk (n:Int) (bs (tab n F)) w (by rw [bs_size,tab_length];have:=p12 hn;omega)
 rwa [tl_bs,tab_tok F hn] at this
theorem iOk0 {N:Int} {S:ByteArray} (w:World) (hS:S.size<=1048576) (h:tokB N (tl S)=false) :
 Calls Tryz.prog 150 #[tv N S] w fun e w'=>e=.returned (.bool false)/\Below w.heap.size w w':=by
 have:=iTableOk N S w hS
 rwa [h] at this
/-- A table packed: what comes of it, with the frame. -/
theorem count_tab (n:Nat) (F:Nat->Bool):cnt (upto (2 ^ n) F) (64*nw n)=cnt F (2 ^ n):=cnt_past F _ _ (by unfold nw;omega)
theorem tab_upto (n:Nat) (F:Nat->Bool):tab n (upto (2 ^ n) F)=tab n F:=tab_ext fun i hi=>by simp [upto,hi]
theorem iBitOk (x:Int) (w:World):Calls Tryz.prog 181 #[.int .i64 x] w fun e w'=>e=.returned (.bool (bitB x))/\w'=w:=by
 by_cases h0:x=0
 ·have hb:(x==0)=true:=by rw [h0];rfl
  have HB:Hid (bitB x=true):=decide_eq_true (.inl h0)
  clear h0
  go_enter Tryz.func181,Tryz.ntmps181
  go_wp2
  go_ret
  exact ⟨ret_bool HB.out.symm,rfl⟩
 ·have hb:(x==0)=false:=beq_eq_false_iff_ne.2 h0
  by_cases h1:x=1
  ·have hb1:(x==1)=true:=by rw [h1];rfl
   have HB:Hid (bitB x=true):=decide_eq_true (.inr h1)
   clear h0 h1
   go_enter Tryz.func181,Tryz.ntmps181
   go_wp2
   go_ret
   exact ⟨ret_bool HB.out.symm,rfl⟩
  ·have hb1:(x==1)=false:=beq_eq_false_iff_ne.2 h1
   have HB:Hid (bitB x=false):=decide_eq_false (by omega)
   clear h0 h1
   go_enter Tryz.func181,Tryz.ntmps181
   go_wp2
   go_ret
   exact ⟨ret_bool HB.out.symm,rfl⟩
theorem iKnown0 {N:Int} {S:ByteArray} (w:World) (hS:S.size<=1048576) (h:tokB N (tl S)=false) :
 Calls Tryz.prog 257 #[tv N S] w fun e w'=>e=.returned (.int .i64 (-1))/\Below w.heap.size w w':=by
 have HO:Hid (∀ W,Calls Tryz.prog 150 #[tv N S] W fun e w'=>e=.returned (.bool false)/\Below W.heap.size W w'):=fun W=>iOk0 W hS h
 have HA:Hid (Below w.heap.size w (w.alloc (.cells #[.int .i64 N,.string S] 32))):=(Below.refl _ _).alloc (Nat.le_refl _) _
 clear h
 go_enter Tryz.func257,Tryz.ntmps257
 go_wp2_with fail
 refine (HO.out _).mono ?_
 rintro e w1 ⟨rfl,hb⟩
 have HB:Hid (Below w.heap.size w w1):=HA.out.trans (hb.mono HA.out.size)
 clear hb
 go_wp2
 go_ret
 exact ⟨rfl,HB.out⟩
theorem iKnown (n:Nat) (F:Nat->Bool) (w:World) (hn:n<=12) :
 Calls Tryz.prog 257 #[tv (n:Int) (bs (tab n F))] w fun e w'=>e=.returned (.int .i64 (knw n F))/\Below w.heap.size w w':=by
 have HO:Hid (∀ W,Calls Tryz.prog 150 #[tv (n:Int) (bs (tab n F))] W fun e w'=>e=.returned (.bool true)/\Below W.heap.size W w'):=fun W=>iOk1 n F W hn
 have HPK:Hid (∀ W,Calls Tryz.prog 299 #[tv (n:Int) (bs (tab n F))] W fun e w'=>∃ g,e=.returned (pv n (nw n) g)/\W.heap.size<=g/\Wds w' g (nw n) (upto (2 ^ n) F)/\Below W.heap.size W w'):=fun W=>pack n F W hn
 have HCT:Hid (∀ W g,Wds W g (nw n) (upto (2 ^ n) F)->Calls Tryz.prog 300 #[pv n (nw n) g] W fun e w'=>e=.returned (.int .i64 ((cnt F (2 ^ n):Nat):Int))/\Below W.heap.size W w'):=fun W g h=>by
  have:=count n g _ W hn h
  rwa [count_tab] at this
 have HSI:Hid (∀ W g,Calls Tryz.prog 194 #[pv n (nw n) g] W fun e w'=>e=.returned (.int .i64 ((2 ^ n:Nat):Int))/\Below W.heap.size W w'):=fun W g=>size n g W hn
 have hp:=(p12 hn).1
 have HK0:Hid (cnt F (2 ^ n)=0->knw n F=0):=fun h=>by show knw n F=0;unfold knw;rw [if_pos h]
 have HK1:Hid (cnt F (2 ^ n)≠0->cnt F (2 ^ n)=2 ^ n->knw n F=1):=fun h k=>by show knw n F=1;unfold knw;rw [if_neg h,if_pos k]
 have HK2:Hid (cnt F (2 ^ n)≠0->cnt F (2 ^ n)≠2 ^ n->knw n F = -1):=fun h k=>by show knw n F = -1;unfold knw;rw [if_neg h,if_neg k]
 generalize knw n F=KN at *
 generalize cnt F (2 ^ n)=C at *
 generalize bs (tab n F)=S at *
 generalize upto (2 ^ n) F=F at *
 generalize nw n=m at *
 generalize 2 ^ n=P at *
 have HL0:Hid (Lay (w.alloc (.cells #[.int .i64 (n:Int),.string S] 32)) w.heap.size (.int .i64 (n:Int)) (.string S)):=Lay.made _ _ _ _
 have HA:Hid (Below w.heap.size w (w.alloc (.cells #[.int .i64 (n:Int),.string S] 32))):=(Below.refl _ _).alloc (Nat.le_refl _) _
 go_enter Tryz.func257,Tryz.ntmps257
 go_wp2_with fail
 refine (HO.out _).mono ?_
 rintro e w1 ⟨rfl,hb⟩
 have HB1:Hid (Below w.heap.size w w1):=HA.out.trans (hb.mono HA.out.size)
 obtain ⟨x0,x1,_,_⟩:=HL0.out.below hb
 clear hb
 go_wp2_with fail
 refine (HPK.out _).mono ?_
 rintro e w2 ⟨g,rfl,hg,hw,hb⟩
 have HB2:Hid (Below w.heap.size w (w2.alloc (.cells #[.int .i64 (n:Int),.slice (some ⟨g,0,none⟩) m m] 247))):=(HB1.out.trans (hb.mono HB1.out.size)).alloc (by have:=hb.size;have:=HB1.out.size;omega) _
 have HW2:Hid (Wds (w2.alloc (.cells #[.int .i64 (n:Int),.slice (some ⟨g,0,none⟩) m m] 247)) g m F):=hw.kept (S:=fun _=>False) ((Kept.refl _ _).alloc _) (fun h=>h)
 clear hb x0 x1 hw
 go_wp2_with fail
 refine (HCT.out _ g HW2.out).mono ?_
 rintro e w3 ⟨rfl,hb⟩
 have HB3:Hid (Below w.heap.size w w3):=HB2.out.trans (hb.mono HB2.out.size)
 have HL3:Hid (Lay w3 w2.heap.size (.int .i64 (n:Int)) (.slice (some ⟨g,0,none⟩) m m)):=(Lay.made w2 _ _ _).below hb
 clear hb
 by_cases h0:C=0
 ·have hc0:((C:Int)==0)=true:=by rw [h0];rfl
  have HK:Hid (KN=0):=HK0.out h0
  clear h0
  go_wp2
  go_ret
  exact ⟨ret_int HK.out.symm,HB3.out⟩
 ·have hc0:((C:Int)==0)=false:=beq_eq_false_iff_ne.2 (by omega)
  obtain ⟨q0,q1,_,_⟩:=HL3.out
  by_cases h1:C=P
  ·have hc1:((C:Int)==(P:Int))=true:=by rw [h1];simp
   have HK:Hid (KN=1):=HK1.out h0 h1
   clear h0 h1
   go_wp2_with (go_at_call 194;refine (HSI.out _ g).mono ?_;rintro e w4 ⟨rfl,hb⟩;have HB4:Hid (Below w.heap.size w w4):=HB3.out.trans (hb.mono HB3.out.size);clear hb)
   go_ret
   exact ⟨ret_int HK.out.symm,HB4.out⟩
  ·have hc1:((C:Int)==(P:Int))=false:=beq_eq_false_iff_ne.2 (by omega)
   have HK:Hid (KN = -1):=HK2.out h0 h1
   clear h0 h1
   go_wp2_with (go_at_call 194;refine (HSI.out _ g).mono ?_;rintro e w4 ⟨rfl,hb⟩;have HB4:Hid (Below w.heap.size w w4):=HB3.out.trans (hb.mono HB3.out.size);clear hb)
   go_ret
   exact ⟨ret_int HK.out.symm,HB4.out⟩
end Te1
namespace Te3
open Go.RowKit
open Ta0 Ta1 Ta2 Tc2 Tc4 Tc5 Tc6 Tc7 Tc8 Tc10 Td1 Td2 Te1
open Nd0 (Kept Ints set_other set_same lt_of_cell)
open Ss0 (bs bs_size ret_str bs_ext)
open Ss1 (tl tl_length tl_get tl_take bs_tl tl_bs tl_inj eqb)
theorem or_bit {y x:Nat} (hy:y < 100000) (hx:x<=1):bits .or .i64 ((2*y:Nat):Int) (x:Int)=((2*y+x:Nat):Int):=by
 rw [bor62 (by omega) (by omega)]
 have h:=Nat.two_pow_add_eq_or_of_lt (i:=1) (b:=x) (by omega) y
 rw [show (2:Nat) ^ 1*y=2*y by omega] at h
 rw [h]
theorem iPlaceOf (a:Option Addr) (l:List Int) (c:Nat) (w:World) (hl:l.length<=12) (hI:Ints w a l) :
 Calls Tryz.prog 183 #[.slice a l.length c] w fun e w'=>(((∀ i,i < l.length->bitB (l.getD i 0)=true)/\e=.returned (.tuple #[.int .i64 ((plc l l.length:Nat):Int),.bool true]))\/((∃ i,i < l.length/\bitB (l.getD i 0)=false)/\e=.returned (.tuple #[.int .i64 0,.bool false])))/\w'=w:=by
 have HI1:Hid (Ints w a l):=hI
 clear hI
 go_enter Tryz.func183,Tryz.ntmps183
 go_wp2
 go_loop [4,9] (fun p i=>∃ k:Nat,k<=l.length/\i=.int .i64 k/\p=.int .i64 ((plc l k:Nat):Int)/\∀ j,j < k->bitB (l.getD j 0)=true) (fun _ i=>l.length - (intOf i).toNat)
 case atStart=>exact ⟨0,Nat.zero_le _,rfl,rfl,fun j hj=>by omega⟩
 case round =>
  obtain ⟨k,hk,rfl,rfl,hbt⟩:=hrel
  have hpl:plc l k < 4096+1:=by
   have h1:=plc_lt hbt
   have h2:=(p12 (n:=k) (by omega)).2
   omega
  have HBT:Hid (∀ j,j < k->bitB (l.getD j 0)=true):=hbt
  clear hbt
  by_cases hlt:k < l.length
  ·have hkz:(k:Int) < (l.length:Int):=by omega
   rcases HI1.out.2 with h0|⟨xb,xo,rfl,hc⟩
   ·omega
   have p0:=hc k hlt
   clear hc
   have hgd:l.getD k 0=l[k]:=by simp [List.getD,hlt]
   have HPS:Hid (plc l (k+1)=2*plc l k+(l.getD k 0).toNat):=rfl
   generalize plc l k=y at *
   rw [<- hgd] at p0
   clear hgd
   obtain ⟨x,hx⟩:∃ x,x=l.getD k 0:=⟨_,rfl⟩
   rw [<- hx] at p0 HPS
   have HX:Hid (x=l.getD k 0):=hx
   clear hx
   have HIC:Hid (∀ W,Calls Tryz.prog 181 #[.int .i64 x] W fun e w'=>e=.returned (.bool (bitB x))/\w'=W):=fun W=>iBitOk x W
   cases hB:bitB x
   ·have HBd:Hid (∃ i,i < l.length/\bitB (l.getD i 0)=false):=⟨k,hlt,by rw [<- HX.out];exact hB⟩
    rw [hB] at HIC
    clear hB
    go_wp2_with (go_at_call 181;refine (HIC.out _).mono ?_;rintro e w' ⟨rfl,rfl⟩)
    go_ret2
    exact ⟨.inr ⟨HBd.out,rfl⟩,rfl⟩
   ·have hx2:=of_decide_eq_true hB
    rw [hB] at HIC
    have HBx:Hid (bitB x=true):=hB
    clear hB
    obtain ⟨b,rfl,hb⟩:∃ b:Nat,x=(b:Int)/\b<=1:=⟨x.toNat,by omega,by omega⟩
    clear hx2
    obtain ⟨z,hz⟩:∃ z:Nat,z=2*y+b:=⟨_,rfl⟩
    have ho:=or_bit (y:=y) (x:=b) (by omega) hb
    rw [<- hz] at ho
    have ho2:bits .or .i64 (2*(y:Int)) (b:Int)=(z:Int):=by rw [<- ho];push_cast;rfl
    have ho3:bits .or .i64 ((y:Int)*2) (b:Int)=(z:Int):=by rw [Int.mul_comm];exact ho2
    have HZ:Hid (z=2*y+b):=hz
    clear hz ho
    go_wp2_with (go_at_call 181;refine (HIC.out _).mono ?_;rintro e w' ⟨rfl,rfl⟩)
    go_round
    case rel=>exact ⟨k+1,by omega,by go_num,by rw [HPS.out,Int.toNat_natCast,<- HZ.out],fun j hj=>by
     by_cases e:j=k
     ·rw [e,<- HX.out];exact HBx.out
     ·exact HBT.out j (by omega)⟩
    case measure=>simp [intOf];omega
  ·have HK:Hid (k=l.length):=by show _=_;omega
   go_wp2
   go_ret2
   exact ⟨.inl ⟨fun i hi=>HBT.out i (by omega),by rw [HK.out];rfl⟩,rfl⟩
end Te3
namespace Mi1
open Go.RowKit
open Ta0 Ta1 Ta2 Tc2 Mm0 Mm2 Mx0 Ms0
open Nd0 (Kept Ints set_other set_same lt_of_cell)
open Qc0 (Sn Sns SnAt)
/-- What the first j of a memo say. -/
def says (l:List Sn):Nat->ByteArray->Option Int
 | 0=>fun _=>none
 | j+1=>putF (says l j) (l.getD j Sn.zero).k (l.getD j Sn.zero).r
/-- How many keys they have. -/
def cnt (l:List Sn):Nat->Nat
 | 0=>0
 | j+1=>if (says l j (l.getD j Sn.zero).k).isSome then cnt l j else cnt l j+1
theorem cnt_le (l:List Sn) (j:Nat):cnt l j<=j:=by
 induction j with
 | zero=>exact Nat.le_refl _
 | succ j ih=>unfold cnt;split<;>omega
theorem says_some {l:List Sn} {x:ByteArray} {j:Nat}:(says l j x).isSome=true↔∃ i,i < j/\(l.getD i Sn.zero).k=x:=by
 induction j with
 | zero=>simp [says]
 | succ j ih =>
   unfold says putF
   by_cases e:x=(l.getD j Sn.zero).k
   ·rw [if_pos e]
    exact ⟨fun _=>⟨j,by omega,e.symm⟩,fun _=>rfl⟩
   ·rw [if_neg e,ih]
    constructor
    ·rintro ⟨i,hi,h⟩
     exact ⟨i,by omega,h⟩
    ·rintro ⟨i,hi,h⟩
     by_cases e2:i=j
     ·subst e2;exact absurd h.symm e
     ·exact ⟨i,by omega,h⟩
/-- All keys are counted just when no two are alike. -/
theorem cnt_all {l:List Sn} {j:Nat}:cnt l j=j↔∀ t s,t < j->s < t->(l.getD s Sn.zero).k≠(l.getD t Sn.zero).k:=by
 induction j with
 | zero=>exact ⟨fun _ t s h=>by omega,fun _=>rfl⟩
 | succ j ih =>
   have hle:=cnt_le l j
   unfold cnt
   constructor
   ·intro h t s ht hs
    by_cases hi:(says l j (l.getD j Sn.zero).k).isSome=true
    ·rw [if_pos hi] at h;omega
    ·rw [if_neg hi] at h
     by_cases e:t=j
     ·subst e
      intro hk
      exact hi (says_some.2 ⟨s,hs,hk⟩)
     ·exact ih.1 (by omega) t s (by omega) hs
   ·intro h
    have hi:¬ (says l j (l.getD j Sn.zero).k).isSome=true:=fun hi=>by
     obtain ⟨i,hi1,hi2⟩:=says_some.1 hi
     exact h j i (by omega) hi1 hi2
    rw [if_neg hi,ih.2 fun t s ht hs=>h t s (by omega) hs]
theorem cnt_apart (l:List Sn):cnt l l.length=l.length↔apart l:=by
 rw [cnt_all]
 constructor
 ·intro h i j hi hj hji
  have:=h i j hi hji
  simpa [List.getD,hi,hj] using this
 ·intro h t s ht hs
  have:=h t s ht (by omega) hs
  have h2:s < l.length:=by omega
  simpa [List.getD,ht,h2] using this
theorem iSays (w:World) (a:Option Addr) (l:List Sn) (c:Nat) (hl:l.length<=1048576) (h:Sns w a l) (hk:∀ x∈l,x.k.size<=maxLen) (hr:∀ x∈l,0<=x.r/\x.r<=1) :
 Calls Tryz.prog 182 #[.slice a l.length c] w fun e w'=>e=.returned (.map (some w.heap.size))/\Ms w' w.heap.size (cnt l l.length) (says l l.length)/\Below w.heap.size w w':=by
 have H:Hid (Sns w a l):=h
 have HK:Hid (∀ x∈l,x.k.size<=maxLen):=hk
 have HRR:Hid (∀ x∈l,0<=x.r/\x.r<=1):=hr
 clear h hk hr
 have hmm:=@run_makeMap Tryz.prog
 go_enter Tryz.func182,Tryz.ntmps182
 go_wp2
 clear hmm
 go_loopw [9] (fun i wr=>∃ j:Nat,j<=l.length/\i=.int .i64 j/\Ms wr w.heap.size (cnt l j) (says l j)/\Below w.heap.size w wr) (fun i _=>l.length - (intOf i).toNat)
 case atStart=>exact ⟨0,Nat.zero_le _,rfl,Ms.new w,(Below.refl _ _).alloc (Nat.le_refl _) _⟩
 case round =>
  obtain ⟨j,hj,rfl,hms,hb⟩:=hrel
  have HMS:Hid (Ms wr w.heap.size (cnt l j) (says l j)):=hms
  have HB:Hid (Below w.heap.size w wr):=hb
  clear hms hb
  by_cases hlt:j < l.length
  ·have hjz:(j:Int) < (l.length:Int):=by omega
   have hN:=H.out.below HB.out
   rcases hN.2 with h0|⟨xb,xo,rfl,hc⟩
   ·omega
   obtain ⟨p0,p1⟩:=hc j hlt
   clear hc hN
   have hgd:l.getD j Sn.zero=l[j]:=by simp [List.getD,hlt]
   have HXK:Hid (l[j].k.size<=maxLen):=HK.out _ (List.getElem_mem hlt)
   have HXR:Hid (0<=l[j].r/\l[j].r<=1):=HRR.out _ (List.getElem_mem hlt)
   have HSY:Hid (says l (j+1)=putF (says l j) l[j].k l[j].r):=by show _=_;rw [<- hgd];rfl
   have HCT:Hid (cnt l (j+1)=if (says l j l[j].k).isSome then cnt l j else cnt l j+1):=by show _=_;rw [<- hgd];rfl
   clear hgd
   generalize l[j]=x at *
   have HMA:Hid (Ms (wr.alloc (.cells #[.string x.k,.int .i64 x.r] 102)) w.heap.size (cnt l j) (says l j)):=HMS.out.below ((Below.refl _ _).alloc (Nat.le_refl _) _)
   have hcl:=cnt_le l j
   obtain ⟨w2,hst,hm2,hk2⟩:=HMA.out.store HXK.out (Ms0.wf_bit (by have:=HXR.out.1;omega) HXR.out.2) (v:=x.r) (by omega)
   have HM2:Hid (Ms w2 w.heap.size (cnt l (j+1)) (says l (j+1))):=by rw [HSY.out,HCT.out];exact hm2
   have HB2:Hid (Below w.heap.size w w2):=HB.out.trans (((Below.refl _ _).alloc HB.out.size _).trans (hk2.below (fun b hb=>by omega) (by have:=HB.out.size;simp;omega)))
   clear hm2 hk2 hcl
   go_wp2
   go_roundw
   case rel=>exact ⟨j+1,by omega,by go_num,HM2.out,HB2.out⟩
   case measure=>simp [intOf];omega
  ·have hjz:¬ (j:Int) < (l.length:Int):=by omega
   have HJ:Hid (j=l.length):=by show _=_;omega
   go_wp2
   go_ret
   exact ⟨rfl,by rw [<- HJ.out];exact HMS.out,HB.out⟩
end Mi1
end Go.Proofs.YtladjpombohpaaaGreatDoor
