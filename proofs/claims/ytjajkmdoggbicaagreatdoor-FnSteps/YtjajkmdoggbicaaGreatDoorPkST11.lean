import Derived.Laws.IdiomStrings
import Derived.Laws.IdiomCopy
import Derived.Test.YtjajkmdoggbicaaGreatDoorPkST7
import Derived.Test.YtjajkmdoggbicaaGreatDoorPkST10
import Derived.Test.YtjajkmdoggbicaaGreatDoorPkST9
import Derived.Test.YtjajkmdoggbicaaGreatDoorPkST5
namespace Go.Proofs.YtjajkmdoggbicaaGreatDoor
set_option maxRecDepth 100000
set_option maxHeartbeats 8000000
set_option linter.unusedVariables false
namespace Tc6
open Go.RowKit
open Ta0 Ta1 Tc2 Tc4 Tc5
open Nd0 (Kept set_other set_same lt_of_cell)
open Ss0 (bs bs_size ret_str)
open Ss1 (tl tl_length tl_get tl_take bs_tl tl_bs tl_inj eqb)
theorem infoB:(Tryz.prog.info? 5).map (fun i=>(i.zero,i.size,i.bytes))=some (some (.int .u8 0),1,1):=by kernel_rfl
def noughtsB (n:Nat):Array Value:=madeCells #[.int .u8 0] (n*1)
theorem noughtsB_get (n j:Nat) (h:j < n):(noughtsB n)[j]? = some (.int .u8 0):=by
 simp only [noughtsB,madeCells,Array.getElem?_map,Array.getElem?_range]
 rw [if_pos (by omega)]
 simp only [Option.map_some]
 have e:j % 1=0:=Nat.mod_one j
 exact congrArg (fun m=>some ((#[.int .u8 0]:Array Value)[m]!)) e
theorem makeBytes (n:Nat) (hn:n<=1048576) (w:World) :
 (Instr.makeSlice 22 (.int .i64 (n:Int)) (.int .i64 (n:Int))).run Tryz.prog w=.ok (.slice (some ⟨w.heap.size,0,none⟩) n n) (w.alloc (.cells (noughtsB n) 5)):=by
 obtain ⟨i,hi,hzz⟩:=Option.map_eq_some_iff.1 infoB
 simp only [Prod.mk.injEq] at hzz
 obtain ⟨hz,hs,hb⟩:=hzz
 have h:=run_make (P:=Tryz.prog) w 22 5 i _ Tryz.underlying22 hi hz .i64 .i64 n n (by omega) (Int.le_refl _) (by rw [hb];omega) (by omega)
 rw [hs] at h
 simpa [noughtsB,Value.cells] using h
/-- Signs in block c, the first k of them written. -/
def Sgs (W:World) (c P k:Nat) (G:Nat->Bool):Prop:=∀ j,j < P->(∃ v:Int,W.cell? ⟨c,j,none⟩=some (.int .u8 v)/\(j < k->v=((sgn (G j)).toNat:Int)))/\W.frozen? ⟨c,j,none⟩=false
theorem Sgs.kept {W W':World} {c P k:Nat} {G:Nat->Bool} (h:Sgs W c P k G) {S:Nat->Prop} (q:Kept S W W') (hs:¬ S c):Sgs W' c P k G:=fun j hj=>by
 obtain ⟨⟨v,h1,h2⟩,h3⟩:=h j hj
 have hg:c < W.heap.size:=World.block_lt_of_cell? _ _ h1
 exact ⟨⟨v,by rw [q.cell (p:=⟨c,j,none⟩) hg hs];exact h1,h2⟩,by rw [q.frozen (p:=⟨c,j,none⟩) hg hs];exact h3⟩
theorem Sgs.below {W W':World} {c P k:Nat} {G:Nat->Bool} (h:Sgs W c P k G) (q:Below W.heap.size W W'):Sgs W' c P k G:=h.kept (S:=fun _=>False) (Kept.ofBelow q) (fun h=>h)
theorem Sgs.set {W:World} {c P k:Nat} {G:Nat->Bool} (h:Sgs W c P k G) (v:Int) (hv:v=((sgn (G k)).toNat:Int)):Sgs (W.setCell ⟨c,k,none⟩ (.int .u8 v)) c P (k+1) G:=fun j hj=>by
 obtain ⟨⟨u,h1,h2⟩,h3⟩:=h j hj
 by_cases e:j=k
 ·subst e
  exact ⟨⟨v,set_same h1,fun _=>hv⟩,by rw [World.frozen?_setCell];exact h3⟩
 ·exact ⟨⟨u,by rw [set_other (by simp<;>omega)];exact h1,fun x=>h2 (by omega)⟩,by rw [World.frozen?_setCell];exact h3⟩
theorem Sgs.made (W:World) (P:Nat) (G:Nat->Bool):Sgs (W.alloc (.cells (noughtsB P) 5)) W.heap.size P 0 G:=fun j hj =>
 ⟨⟨0,by rw [World.cell?_alloc_new];exact noughtsB_get _ _ hj,fun x=>by omega⟩,by simp⟩
theorem Sgs.text {W:World} {c n:Nat} {G:Nat->Bool} (h:Sgs W c (2 ^ n) (2 ^ n) G):(convert 22 9 (.slice (some ⟨c,0,none⟩) (2 ^ n) (2 ^ n))).run Tryz.prog W=.ok (.string (bs (tab n G))) W:=by
 have:=run_convert_bytes_back (P:=Tryz.prog) W 22 9 5 ⟨c,0,none⟩ (2 ^ n) (tab n G) Tryz.underlying22 Tryz.underlying5 Tryz.underlying9 (fun j hj=>by
  obtain ⟨⟨v,h1,h2⟩,_⟩:=h j (by rw [tab_length] at hj;exact hj)
  rw [tab_get,<- h2 (by rw [tab_length] at hj;exact hj)]
  rw [Addr.add_lit,Nat.zero_add];exact h1)
 rw [tab_length] at this
 exact this
end Tc6
namespace Tc7
open Go.RowKit
open Ta0 Ta1 Tc2 Tc4 Tc5
open Nd0 (Kept set_other set_same lt_of_cell)
open Tc1 (ones)
theorem count (n g:Nat) (G:Nat->Bool) (w:World) (hn:n<=12) (hW:Wds w g (nw n) G) :
 Calls Tryz.prog 124 #[pv n (nw n) g] w fun e w'=>e=.returned (.int .i64 ((cnt G (64*nw n):Nat):Int))/\Below w.heap.size w w':=by
 have hnw:=nw_le hn
 have hgl:=hW.lt (by omega)
 have HW:Hid (∀ i,i < nw n->w.cell? ⟨g,i,none⟩=some (.int .u64 (wd G i:Int))):=fun i hi=>(hW i hi).1
 have HB:Hid (Below w.heap.size w (w.alloc (.cells #[.int .i64 (n:Int),.slice (some ⟨g,0,none⟩) (nw n) (nw n)] 80))):=(Below.refl _ _).alloc (Nat.le_refl _) _
 clear hW
 generalize nw n=m at *
 go_enter Tryz.func124,Tryz.ntmps124
 go_wp2
 go_loop [3,9] (fun c i=>∃ k:Nat,k<=m/\i=.int .i64 k/\c=.int .i64 ((cnt G (64*k):Nat):Int)) (fun _ i=>m - (intOf i).toNat)
 case atStart=>exact ⟨0,Nat.zero_le _,rfl,rfl⟩
 case round =>
  obtain ⟨k,hk,rfl,rfl⟩:=hrel
  have hc:=cnt_le G (64*k)
  by_cases hlt:k < m
  ·have hkz:(k:Int) < (m:Int):=by omega
   have c0:=HW.out k hlt
   have hwl:=wd_lt G k
   have HC:Hid (cnt G (64*(k+1))=cnt G (64*k)+cnt (wd G k).testBit 64):=cnt_wd G k
   have hc2:=cnt_le (wd G k).testBit 64
   have HO:Hid (∀ W,Calls Tryz.prog 163 #[.int .u64 (wd G k:Int)] W fun e w'=>e=.returned (.int .i64 (cnt (wd G k).testBit 64:Nat))/\w'=W):=fun W=>ones _ hwl W
   generalize cnt (wd G k).testBit 64=d at *
   generalize wd G k=x at *
   generalize cnt G (64*k)=y at *
   go_wp2_with (go_at_call 163;refine (HO.out _).mono ?_;rintro e w' ⟨rfl,rfl⟩)
   go_round
   case rel=>exact ⟨k+1,by omega,by go_num,by rw [HC.out];go_num⟩
   case measure=>simp [intOf];omega
  ·have HE:Hid (k=m):=by show _=_;omega
   go_wp2
   go_ret
   exact ⟨ret_int (by rw [HE.out]),HB.out⟩
theorem ret_uint {a b:Int} (h:a=b):Ending.returned (.int .u64 a)=.returned (.int .u64 b):=by rw [h]
theorem use_wrap (P:Nat):IntKind.u64.wrap (IntKind.u64.wrap ((2:Int) ^ (min P 64)) - 1)=((use P:Nat):Int):=by
 unfold use
 by_cases h:P < 64
 ·have h1:2 ^ P < 18446744073709551616:=Nat.lt_of_lt_of_le (Nat.pow_lt_pow_right (by omega) h) (by decide)
  have h2:=Nat.one_le_two_pow (n:=P)
  rw [if_pos h,Nat.min_eq_left (by omega),pcast,wrapu h1,show ((2 ^ P:Nat):Int) - 1=((2 ^ P - 1:Nat):Int) by omega,wrapu (by omega)]
 ·rw [if_neg h,Nat.min_eq_right (by omega)]
  decide
/-- What stands while a bit is looked for. -/
structure SN (w:World) (n m g:Nat) (G:Nat->Bool) (W:World):Prop where
 lay:Lay W w.heap.size (.int .i64 (n:Int)) (.slice (some ⟨g,0,none⟩) m m)
 wds:Wds W g m G
 bel:Below w.heap.size w W
theorem SN.below {w:World} {n m g:Nat} {G:Nat->Bool} {W W':World} (h:SN w n m g G W) (k:Below W.heap.size W W'):SN w n m g G W' :=
 ⟨h.lay.below k,h.wds.below k,h.bel.trans (k.mono h.bel.size)⟩
theorem SN.drew {w:World} {n m g:Nat} {G:Nat->Bool} {W:World} (h:SN w n m g G W):SN w n m g G W.drew :=
 ⟨h.lay.kept (S:=fun _=>False) (Kept.refl _ _).drew (fun h=>h),h.wds.kept (S:=fun _=>False) (Kept.refl _ _).drew (fun h=>h),below_drewN h.bel 1⟩
end Tc7
namespace Tc8
open Go.RowKit
open Ta0 Ta1 Tc2 Tc4 Tc5 Tc7
open Nd0 (Kept set_other set_same lt_of_cell)
/-- Words in block g, the first k of them those of H. -/
def Wdk (W:World) (g m k:Nat) (H:Nat->Bool):Prop:=∀ j,j < m->(∃ v:Int,W.cell? ⟨g,j,none⟩=some (.int .u64 v)/\(j < k->v=(wd H j:Int)))/\W.frozen? ⟨g,j,none⟩=false
theorem Wdk.kept {W W':World} {c P k:Nat} {G:Nat->Bool} (h:Wdk W c P k G) {S:Nat->Prop} (q:Kept S W W') (hs:¬ S c):Wdk W' c P k G:=fun j hj=>by
 obtain ⟨⟨v,h1,h2⟩,h3⟩:=h j hj
 have hg:c < W.heap.size:=World.block_lt_of_cell? _ _ h1
 exact ⟨⟨v,by rw [q.cell (p:=⟨c,j,none⟩) hg hs];exact h1,h2⟩,by rw [q.frozen (p:=⟨c,j,none⟩) hg hs];exact h3⟩
theorem Wdk.below {W W':World} {c P k:Nat} {G:Nat->Bool} (h:Wdk W c P k G) (q:Below W.heap.size W W'):Wdk W' c P k G:=h.kept (S:=fun _=>False) (Kept.ofBelow q) (fun h=>h)
theorem Wdk.set {W:World} {c P k:Nat} {G:Nat->Bool} (h:Wdk W c P k G) (v:Int) (hv:v=(wd G k:Int)):Wdk (W.setCell ⟨c,k,none⟩ (.int .u64 v)) c P (k+1) G:=fun j hj=>by
 obtain ⟨⟨u,h1,h2⟩,h3⟩:=h j hj
 by_cases e:j=k
 ·subst e
  exact ⟨⟨v,set_same h1,fun _=>hv⟩,by rw [World.frozen?_setCell];exact h3⟩
 ·exact ⟨⟨u,by rw [set_other (by simp<;>omega)];exact h1,fun x=>h2 (by omega)⟩,by rw [World.frozen?_setCell];exact h3⟩
theorem Wdk.start {W:World} {g m:Nat} {F:Nat->Bool} (h:Wds W g m F) (H:Nat->Bool):Wdk W g m 0 H:=fun j hj=>⟨⟨_,(h j hj).1,fun x=>by omega⟩,(h j hj).2⟩
theorem Wdk.done {W:World} {g m:Nat} {H:Nat->Bool} (h:Wdk W g m m H):Wds W g m H:=fun j hj=>by
 obtain ⟨⟨v,h1,h2⟩,h3⟩:=h j hj
 rw [h2 hj] at h1
 exact ⟨h1,h3⟩
theorem flip64 {x:Nat} (h:x < 18446744073709551616):18446744073709551615 ^^^ x=18446744073709551615 - x:=by
 refine Nat.eq_of_testBit_eq fun j=>?_
 have h2:=Nat.testBit_two_pow_sub_succ (n:=64) (x:=x) h j
 have h1:=Nat.testBit_two_pow_sub_one 64 j
 rw [show (2:Nat) ^ 64 - 1=18446744073709551615 from rfl] at h1
 rw [show 18446744073709551615 - x=2 ^ 64 - (x+1) by omega,h2,Nat.testBit_xor,h1]
 by_cases hj:j < 64
 ·simp [hj]
 ·have:x.testBit j=false:=Nat.testBit_lt_two_pow (Nat.lt_of_lt_of_le h (Nat.le_trans (by decide:18446744073709551616<=2 ^ 64) (Nat.pow_le_pow_right (by omega) (by omega))))
  simp [hj,this]
theorem sother {W:World} {b c o p:Nat} {u v:Value} (h:W.cell? ⟨b,o,none⟩=some u) (hb:c≠b):(W.setCell ⟨c,p,none⟩ v).cell? ⟨b,o,none⟩=some u:=by
 rw [set_other (fun e=>hb (congrArg Addr.block e))];exact h
/-- What stands while the words of a new packed table are written. -/
structure WN (w:World) (n m g q g2:Nat) (F H:Nat->Bool) (k:Nat) (W:World):Prop where
 lay:Lay W w.heap.size (.int .i64 (n:Int)) (.slice (some ⟨g,0,none⟩) m m)
 res:Lay W (w.heap.size+1) (.int .i64 0) (.slice none 0 0)
 new:Lay W q (.int .i64 (n:Int)) (.slice (some ⟨g2,0,none⟩) m m)
 wds:Wds W g m F
 wdk:Wdk W g2 m k H
 bel:Below w.heap.size w W
theorem WN.below {w:World} {n m g q g2 k:Nat} {F H:Nat->Bool} {W W':World} (h:WN w n m g q g2 F H k W) (b:Below W.heap.size W W'):WN w n m g q g2 F H k W' :=
 ⟨h.lay.below b,h.res.below b,h.new.below b,h.wds.below b,h.wdk.below b,h.bel.trans (b.mono h.bel.size)⟩
theorem WN.drew {w:World} {n m g q g2 k:Nat} {F H:Nat->Bool} {W:World} (h:WN w n m g q g2 F H k W):WN w n m g q g2 F H k W.drew :=
 h.below (below_drewN (Below.refl _ _) 1)
theorem WN.set {w:World} {n m g q g2 k:Nat} {F H:Nat->Bool} {W:World} (h:WN w n m g q g2 F H k W) (hg:g≠g2) (h0:w.heap.size+2<=g2) (hq:g2≠q) (v:Int) (hv:v=(wd H k:Int)):WN w n m g q g2 F H (k+1) (W.setCell ⟨g2,k,none⟩ (.int .u64 v)):=by
 have K:=kset (S:=fun b=>b=g2) (Kept.refl (fun b=>b=g2) W) (b:=g2) (o:=k) rfl (.int .u64 v)
 exact ⟨h.lay.kept K (by omega),h.res.kept K (by omega),h.new.kept K (fun e=>hq e.symm),h.wds.kept K hg,h.wdk.set v hv,h.bel.trans (K.below (fun b hb=>by omega) h.bel.size)⟩
end Tc8
namespace Tc9
open Go.RowKit
open Ta0 Ta1 Tc2 Tc4 Tc5 Tc7 Tc8
open Nd0 (Kept set_other set_same lt_of_cell)
/-- What stands while the words of two are put together. -/
structure WT (w:World) (n m g h q g2:Nat) (F G H:Nat->Bool) (k:Nat) (W:World):Prop where
 lay:Lay W w.heap.size (.int .i64 (n:Int)) (.slice (some ⟨g,0,none⟩) m m)
 lay2:Lay W (w.heap.size+1) (.int .i64 (n:Int)) (.slice (some ⟨h,0,none⟩) m m)
 res:Lay W (w.heap.size+2) (.int .i64 0) (.slice none 0 0)
 new:Lay W q (.int .i64 (n:Int)) (.slice (some ⟨g2,0,none⟩) m m)
 wds:Wds W g m F
 wds2:Wds W h m G
 wdk:Wdk W g2 m k H
 bel:Below w.heap.size w W
theorem WT.below {w:World} {n m g h q g2 k:Nat} {F G H:Nat->Bool} {W W':World} (s:WT w n m g h q g2 F G H k W) (b:Below W.heap.size W W'):WT w n m g h q g2 F G H k W' :=
 ⟨s.lay.below b,s.lay2.below b,s.res.below b,s.new.below b,s.wds.below b,s.wds2.below b,s.wdk.below b,s.bel.trans (b.mono s.bel.size)⟩
theorem WT.drew {w:World} {n m g h q g2 k:Nat} {F G H:Nat->Bool} {W:World} (s:WT w n m g h q g2 F G H k W):WT w n m g h q g2 F G H k W.drew :=
 s.below (below_drewN (Below.refl _ _) 1)
theorem WT.set {w:World} {n m g h q g2 k:Nat} {F G H:Nat->Bool} {W:World} (s:WT w n m g h q g2 F G H k W) (hg:g≠g2) (hh:h≠g2) (h0:w.heap.size+3<=g2) (hq:g2≠q) (v:Int) (hv:v=(wd H k:Int)):WT w n m g h q g2 F G H (k+1) (W.setCell ⟨g2,k,none⟩ (.int .u64 v)):=by
 have K:=kset (S:=fun b=>b=g2) (Kept.refl (fun b=>b=g2) W) (b:=g2) (o:=k) rfl (.int .u64 v)
 exact ⟨s.lay.kept K (by omega),s.lay2.kept K (by omega),s.res.kept K (by omega),s.new.kept K (fun e=>hq e.symm),s.wds.kept K hg,s.wds2.kept K hh,s.wdk.set v hv,s.bel.trans (K.below (fun b hb=>by omega) s.bel.size)⟩
end Tc9
namespace Tc10
open Go.RowKit
open Ta0 Ta1 Tc2 Tc4 Tc5 Tc7 Tc8
open Nd0 (Kept set_other set_same lt_of_cell)
/-- What stands while a half is made. -/
structure WH (w:World) (n m n2 m2 g q g2:Nat) (F H:Nat->Bool) (W:World):Prop where
 lay:Lay W w.heap.size (.int .i64 (n:Int)) (.slice (some ⟨g,0,none⟩) m m)
 res:Lay W (w.heap.size+1) (.int .i64 0) (.slice none 0 0)
 new:Lay W q (.int .i64 (n2:Int)) (.slice (some ⟨g2,0,none⟩) m2 m2)
 wds:Wds W g m F
 wdk:Wdk W g2 m2 0 H
 bel:Below w.heap.size w W
theorem WH.below {w:World} {n m n2 m2 g q g2:Nat} {F H:Nat->Bool} {W W':World} (h:WH w n m n2 m2 g q g2 F H W) (b:Below W.heap.size W W'):WH w n m n2 m2 g q g2 F H W' :=
 ⟨h.lay.below b,h.res.below b,h.new.below b,h.wds.below b,h.wdk.below b,h.bel.trans (b.mono h.bel.size)⟩
theorem WH.drewN {w:World} {n m n2 m2 g q g2:Nat} {F H:Nat->Bool} {W:World} (h:WH w n m n2 m2 g q g2 F H W) (k:Nat):WH w n m n2 m2 g q g2 F H (W.drewN k) :=
 h.below (below_drewN (Below.refl _ _) k)
theorem WH.drew {w:World} {n m n2 m2 g q g2:Nat} {F H:Nat->Bool} {W:World} (h:WH w n m n2 m2 g q g2 F H W):WH w n m n2 m2 g q g2 F H W.drew:=h.drewN 1
/-- Behind the store of the one word. -/
theorem fin1 {w:World} {n n2 g q g2:Nat} {F H:Nat->Bool} {W:World} (h:WH w n 1 n2 1 g q g2 F H W) (hq:g2≠q) (h0:w.heap.size+2<=g2) (_:True\/True) :
 Lay (W.setCell ⟨g2,0,none⟩ (.int .u64 (wd H 0:Int))) (w.heap.size+1) (.int .i64 0) (.slice none 0 0)/\Lay (W.setCell ⟨g2,0,none⟩ (.int .u64 (wd H 0:Int))) q (.int .i64 (n2:Int)) (.slice (some ⟨g2,0,none⟩) 1 1)/\Wds (W.setCell ⟨g2,0,none⟩ (.int .u64 (wd H 0:Int))) g2 1 H/\Below w.heap.size w (W.setCell ⟨g2,0,none⟩ (.int .u64 (wd H 0:Int))):=by
 have K:=kset (S:=fun b=>b=g2) (Kept.refl (fun b=>b=g2) W) (b:=g2) (o:=0) rfl (.int .u64 (wd H 0:Int))
 exact ⟨h.res.kept K (by omega),h.new.kept K (fun e=>hq e.symm),(h.wdk.set _ rfl).done,h.bel.trans (K.below (fun b hb=>by omega) h.bel.size)⟩
theorem fin {w W:World} {g2 m2:Nat} {H:Nat->Bool} {a b:Value} (hr:Lay W (w.heap.size+1) a b) (hw:Wds W g2 m2 H) (hb:Below w.heap.size w W) (hne:w.heap.size+2<=g2) (x y:Value) :
 ∃ W',W'=(W.setCell ⟨w.heap.size+1,0,none⟩ x).setCell ⟨w.heap.size+1,1,none⟩ y/\Lay W' (w.heap.size+1) x y/\Wds W' g2 m2 H/\Below w.heap.size w W':=by
 have K:Kept (fun b=>b=w.heap.size+1) W ((W.setCell ⟨w.heap.size+1,0,none⟩ x).setCell ⟨w.heap.size+1,1,none⟩ y):=kset (S:=fun b=>b=w.heap.size+1) (kset (S:=fun b=>b=w.heap.size+1) (Kept.refl (fun b=>b=w.heap.size+1) W) rfl _) rfl _
 exact ⟨_,rfl,hr.put x y,hw.kept K (by omega),hb.trans (K.below (fun b hb=>by omega) hb.size)⟩
/-- Words as cells. -/
def wcs (m:Nat) (H:Nat->Bool):List Value:=(List.range m).map fun i=>.int .u64 (wd H i:Int)
theorem wcs_length (m:Nat) (H:Nat->Bool):(wcs m H).length=m:=by simp [wcs]
theorem wcs_get (m:Nat) (H:Nat->Bool) (i:Nat) (h:i < (wcs m H).length):(wcs m H)[i]=.int .u64 (wd H i:Int):=by simp [wcs]
theorem sizeU:(Tryz.prog.info? 123).map (·.size)=some 1:=by kernel_rfl
theorem copyW {w:World} {n m n2 m2 g q g2:Nat} {F H:Nat->Bool} {W:World} (h:WH w n m n2 m2 g q g2 F H W) (fr:Nat) (h1:fr+m2<=m) (h2:∀ i,i < m2->wd F (fr+i)=wd H i) :
 (Builtin.copy_ #[78,78] 3 #[.slice (some ⟨g2,0,none⟩) m2 m2,.slice (some ⟨g,fr,none⟩) m2 m2]).run Tryz.prog W.drew=.ok (.int .i64 (m2:Int)) (W.drew.setCells g2 0 (wcs m2 H)):=by
 have hd:WH w n m n2 m2 g q g2 F H W.drew:=h.below (below_drewN (Below.refl _ _) 1)
 have:=run_copy_cells (P:=Tryz.prog) W.drew 78 78 3 123 g2 0 m2 m2 ⟨g,fr,none⟩ m2 m2 (wcs m2 H) Tryz.underlying78 sizeU (by rw [wcs_length];simp)
  (fun j v hv=>by
   obtain ⟨hj,rfl⟩:=List.getElem?_eq_some_iff.1 hv
   have hj':j < m2:=by rwa [wcs_length] at hj
   rw [wcs_get,<- h2 j hj',Addr.add_lit]
   exact (hd.wds (fr+j) (by omega)).1)
  (fun j hj=>by
   rw [wcs_length] at hj
   obtain ⟨⟨v,hv,_⟩,_⟩:=hd.wdk j hj
   rw [Nat.zero_add,hv];rfl)
  (fun j hj=>by
   rw [wcs_length] at hj
   rw [Nat.zero_add];exact (hd.wdk j hj).2)
  (fun v hv=>by
   obtain ⟨i,_,rfl⟩:=List.mem_map.1 hv
   rfl)
 rw [wcs_length] at this
 exact this
theorem kset_all {b:Nat}:∀ (vs:List Value) (o:Nat) (w:World),Kept (fun i=>i=b) w (w.setCells b o vs)
 | [],_,w=>Kept.refl _ _
 | v :: r,o,w=>(kset (S:=fun i=>i=b) (Kept.refl (fun i=>i=b) w) rfl v).trans (kset_all r (o+1) _)
/-- Behind the copy of the words. -/
theorem fin2 {w:World} {n m n2 m2 g q g2:Nat} {F H:Nat->Bool} {W:World} (h0:WH w n m n2 m2 g q g2 F H W) (hq:g2≠q) (hs:w.heap.size+2<=g2) :
 Lay (W.drew.setCells g2 0 (wcs m2 H)) (w.heap.size+1) (.int .i64 0) (.slice none 0 0)/\Lay (W.drew.setCells g2 0 (wcs m2 H)) q (.int .i64 (n2:Int)) (.slice (some ⟨g2,0,none⟩) m2 m2)/\Wds (W.drew.setCells g2 0 (wcs m2 H)) g2 m2 H/\Below w.heap.size w (W.drew.setCells g2 0 (wcs m2 H)):=by
 have h:=h0.drew
 have K:=kset_all (b:=g2) (wcs m2 H) 0 W.drew
 refine ⟨h.res.kept K (by omega),h.new.kept K (fun e=>hq e.symm),fun i hi=>⟨?_,?_⟩,h.bel.trans (K.below (fun b hb=>by omega) h.bel.size)⟩
 ·have:=World.cell?_setCells_in g2 (wcs m2 H) 0 W.drew (fun j hj=>by
   rw [wcs_length] at hj
   obtain ⟨⟨v,hv,_⟩,_⟩:=h.wdk j hj
   rw [Nat.zero_add,hv];rfl) i (by rw [wcs_length];exact hi)
  rw [Nat.zero_add,wcs_get] at this
  exact this
 ·rw [World.frozen?_setCells];exact (h.wdk i hi).2
theorem nw_low {n:Nat} (h:n<=6):nw n=1:=by
 have h6:2 ^ n<=2 ^ 6:=Nat.pow_le_pow_right (by omega) h
 have:=Nat.one_le_two_pow (n:=n)
 unfold nw;omega
theorem nw_high {n:Nat} (h:6<=n):nw n=2 ^ n / 64/\nw (n+1)=2*nw n:=by
 have hd:2 ^ n=64*2 ^ (n - 6):=by rw [show (64:Nat)=2 ^ 6 from rfl,<- Nat.pow_add];congr 1;omega
 have hp:2 ^ (n+1)=2*2 ^ n:=by rw [Nat.pow_succ];omega
 unfold nw;omega
end Tc10
namespace Te1
open Go.RowKit
open Ta0 Ta1 Ta2 Tc2 Tc4 Tc5 Tc6 Tc7 Tc8 Td1 Td2
open Nd0 (Kept Ints set_other set_same lt_of_cell)
open Ss0 (bs bs_size ret_str bs_ext)
open Ss1 (tl tl_length tl_get tl_take bs_tl tl_bs tl_inj eqb)
theorem iOk1 (n:Nat) (F:Nat->Bool) (w:World) (hn:n<=12) :
 Calls Tryz.prog 39 #[tv (n:Int) (bs (tab n F))] w fun e w'=>e=.returned (.bool true)/\Below w.heap.size w w':=by
 have:=iTableOk (n:Int) (bs (tab n F)) w (by rw [bs_size,tab_length];have:=p12 hn;omega)
 rwa [tl_bs,tab_tok F hn] at this
theorem iOk0 {N:Int} {S:ByteArray} (w:World) (hS:S.size<=1048576) (h:tokB N (tl S)=false) :
 Calls Tryz.prog 39 #[tv N S] w fun e w'=>e=.returned (.bool false)/\Below w.heap.size w w':=by
 have:=iTableOk N S w hS
 rwa [h] at this
/-- A table packed: what comes of it, with the frame. -/
theorem count_tab (n:Nat) (F:Nat->Bool):cnt (upto (2 ^ n) F) (64*nw n)=cnt F (2 ^ n):=cnt_past F _ _ (by unfold nw;omega)
theorem tab_upto (n:Nat) (F:Nat->Bool):tab n (upto (2 ^ n) F)=tab n F:=tab_ext fun i hi=>by simp [upto,hi]
theorem iBitOk (x:Int) (w:World):Calls Tryz.prog 78 #[.int .i64 x] w fun e w'=>e=.returned (.bool (bitB x))/\w'=w:=by
 by_cases h0:x=0
 ·have hb:(x==0)=true:=by rw [h0];rfl
  have HB:Hid (bitB x=true):=decide_eq_true (.inl h0)
  clear h0
  go_enter Tryz.func78,Tryz.ntmps78
  go_wp2
  go_ret
  exact ⟨ret_bool HB.out.symm,rfl⟩
 ·have hb:(x==0)=false:=beq_eq_false_iff_ne.2 h0
  by_cases h1:x=1
  ·have hb1:(x==1)=true:=by rw [h1];rfl
   have HB:Hid (bitB x=true):=decide_eq_true (.inr h1)
   clear h0 h1
   go_enter Tryz.func78,Tryz.ntmps78
   go_wp2
   go_ret
   exact ⟨ret_bool HB.out.symm,rfl⟩
  ·have hb1:(x==1)=false:=beq_eq_false_iff_ne.2 h1
   have HB:Hid (bitB x=false):=decide_eq_false (by omega)
   clear h0 h1
   go_enter Tryz.func78,Tryz.ntmps78
   go_wp2
   go_ret
   exact ⟨ret_bool HB.out.symm,rfl⟩
theorem iKnown0 {N:Int} {S:ByteArray} (w:World) (hS:S.size<=1048576) (h:tokB N (tl S)=false) :
 Calls Tryz.prog 91 #[tv N S] w fun e w'=>e=.returned (.int .i64 (-1))/\Below w.heap.size w w':=by
 have HO:Hid (∀ W,Calls Tryz.prog 39 #[tv N S] W fun e w'=>e=.returned (.bool false)/\Below W.heap.size W w'):=fun W=>iOk0 W hS h
 have HA:Hid (Below w.heap.size w (w.alloc (.cells #[.int .i64 N,.string S] 26))):=(Below.refl _ _).alloc (Nat.le_refl _) _
 clear h
 go_enter Tryz.func91,Tryz.ntmps91
 go_wp2_with fail
 refine (HO.out _).mono ?_
 rintro e w1 ⟨rfl,hb⟩
 have HB:Hid (Below w.heap.size w w1):=HA.out.trans (hb.mono HA.out.size)
 clear hb
 go_wp2
 go_ret
 exact ⟨rfl,HB.out⟩
theorem iKnown (n:Nat) (F:Nat->Bool) (w:World) (hn:n<=12) :
 Calls Tryz.prog 91 #[tv (n:Int) (bs (tab n F))] w fun e w'=>e=.returned (.int .i64 (knw n F))/\Below w.heap.size w w':=by
 have HO:Hid (∀ W,Calls Tryz.prog 39 #[tv (n:Int) (bs (tab n F))] W fun e w'=>e=.returned (.bool true)/\Below W.heap.size W w'):=fun W=>iOk1 n F W hn
 have HPK:Hid (∀ W,Calls Tryz.prog 83 #[tv (n:Int) (bs (tab n F))] W fun e w'=>∃ g,e=.returned (pv n (nw n) g)/\W.heap.size<=g/\Wds w' g (nw n) (upto (2 ^ n) F)/\Below W.heap.size W w'):=fun W=>pack n F W hn
 have HCT:Hid (∀ W g,Wds W g (nw n) (upto (2 ^ n) F)->Calls Tryz.prog 124 #[pv n (nw n) g] W fun e w'=>e=.returned (.int .i64 ((cnt F (2 ^ n):Nat):Int))/\Below W.heap.size W w'):=fun W g h=>by
  have:=count n g _ W hn h
  rwa [count_tab] at this
 have HSI:Hid (∀ W g,Calls Tryz.prog 119 #[pv n (nw n) g] W fun e w'=>e=.returned (.int .i64 ((2 ^ n:Nat):Int))/\Below W.heap.size W w'):=fun W g=>size n g W hn
 have hp:=(p12 hn).1
 have HK0:Hid (cnt F (2 ^ n)=0->knw n F=0):=fun h=>by show knw n F=0;unfold knw;rw [if_pos h]
 have HK1:Hid (cnt F (2 ^ n)≠0->cnt F (2 ^ n)=2 ^ n->knw n F=1):=fun h k=>by show knw n F=1;unfold knw;rw [if_neg h,if_pos k]
 have HK2:Hid (cnt F (2 ^ n)≠0->cnt F (2 ^ n)≠2 ^ n->knw n F = -1):=fun h k=>by show knw n F = -1;unfold knw;rw [if_neg h,if_neg k]
 generalize knw n F=KN at *
 generalize cnt F (2 ^ n)=C at *
 generalize bs (tab n F)=S at *
 generalize upto (2 ^ n) F=F at *
 generalize nw n=m at *
 generalize 2 ^ n=P at *
 have HL0:Hid (Lay (w.alloc (.cells #[.int .i64 (n:Int),.string S] 26)) w.heap.size (.int .i64 (n:Int)) (.string S)):=Lay.made _ _ _ _
 have HA:Hid (Below w.heap.size w (w.alloc (.cells #[.int .i64 (n:Int),.string S] 26))):=(Below.refl _ _).alloc (Nat.le_refl _) _
 go_enter Tryz.func91,Tryz.ntmps91
 go_wp2_with fail
 refine (HO.out _).mono ?_
 rintro e w1 ⟨rfl,hb⟩
 have HB1:Hid (Below w.heap.size w w1):=HA.out.trans (hb.mono HA.out.size)
 obtain ⟨x0,x1,_,_⟩:=HL0.out.below hb
 clear hb
 go_wp2_with fail
 refine (HPK.out _).mono ?_
 rintro e w2 ⟨g,rfl,hg,hw,hb⟩
 have HB2:Hid (Below w.heap.size w (w2.alloc (.cells #[.int .i64 (n:Int),.slice (some ⟨g,0,none⟩) m m] 80))):=(HB1.out.trans (hb.mono HB1.out.size)).alloc (by have:=hb.size;have:=HB1.out.size;omega) _
 have HW2:Hid (Wds (w2.alloc (.cells #[.int .i64 (n:Int),.slice (some ⟨g,0,none⟩) m m] 80)) g m F):=hw.kept (S:=fun _=>False) ((Kept.refl _ _).alloc _) (fun h=>h)
 clear hb x0 x1 hw
 go_wp2_with fail
 refine (HCT.out _ g HW2.out).mono ?_
 rintro e w3 ⟨rfl,hb⟩
 have HB3:Hid (Below w.heap.size w w3):=HB2.out.trans (hb.mono HB2.out.size)
 have HL3:Hid (Lay w3 w2.heap.size (.int .i64 (n:Int)) (.slice (some ⟨g,0,none⟩) m m)):=(Lay.made w2 _ _ _).below hb
 clear hb
 by_cases h0:C=0
 ·have hc0:((C:Int)==0)=true:=by rw [h0];rfl
  have HK:Hid (KN=0):=HK0.out h0
  clear h0
  go_wp2
  go_ret
  exact ⟨ret_int HK.out.symm,HB3.out⟩
 ·have hc0:((C:Int)==0)=false:=beq_eq_false_iff_ne.2 (by omega)
  obtain ⟨q0,q1,_,_⟩:=HL3.out
  by_cases h1:C=P
  ·have hc1:((C:Int)==(P:Int))=true:=by rw [h1];simp
   have HK:Hid (KN=1):=HK1.out h0 h1
   clear h0 h1
   go_wp2_with (go_at_call 119;refine (HSI.out _ g).mono ?_;rintro e w4 ⟨rfl,hb⟩;have HB4:Hid (Below w.heap.size w w4):=HB3.out.trans (hb.mono HB3.out.size);clear hb)
   go_ret
   exact ⟨ret_int HK.out.symm,HB4.out⟩
  ·have hc1:((C:Int)==(P:Int))=false:=beq_eq_false_iff_ne.2 (by omega)
   have HK:Hid (KN = -1):=HK2.out h0 h1
   clear h0 h1
   go_wp2_with (go_at_call 119;refine (HSI.out _ g).mono ?_;rintro e w4 ⟨rfl,hb⟩;have HB4:Hid (Below w.heap.size w w4):=HB3.out.trans (hb.mono HB3.out.size);clear hb)
   go_ret
   exact ⟨ret_int HK.out.symm,HB4.out⟩
end Te1
end Go.Proofs.YtjajkmdoggbicaaGreatDoor
