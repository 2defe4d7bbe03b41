import Derived.Test.YtfhdbcfhhbdiiaaTc7
namespace Go.Proofs.Ytfhdbcfhhbdiiaa
set_option maxRecDepth 100000
set_option maxHeartbeats 8000000
set_option linter.unusedVariables false
namespace Tc8
open Go.RowKit
open Ta0 Ta1 Tc2 Tc4 Tc5 Tc7
open Nd0 (Kept set_other set_same lt_of_cell)
/-- Words in block g, the first k of them those of H. -/
def Wdk (W:World) (g m k:Nat) (H:Nat->Bool):Prop:=∀ j,j < m->(∃ v:Int,W.cell? ⟨g,j,none⟩=some (.int .u64 v)/\(j < k->v=(wd H j:Int)))/\W.frozen? ⟨g,j,none⟩=false
theorem Wdk.kept {W W':World} {c P k:Nat} {G:Nat->Bool} (h:Wdk W c P k G) {S:Nat->Prop} (q:Kept S W W') (hs:¬ S c):Wdk W' c P k G:=fun j hj=>by
 obtain ⟨⟨v,h1,h2⟩,h3⟩:=h j hj
 have hg:c < W.heap.size:=World.block_lt_of_cell? _ _ h1
 exact ⟨⟨v,by rw [q.cell (p:=⟨c,j,none⟩) hg hs];exact h1,h2⟩,by rw [q.frozen (p:=⟨c,j,none⟩) hg hs];exact h3⟩
theorem Wdk.below {W W':World} {c P k:Nat} {G:Nat->Bool} (h:Wdk W c P k G) (q:Below W.heap.size W W'):Wdk W' c P k G:=h.kept (S:=fun _=>False) (Kept.ofBelow q) (fun h=>h)
theorem Wdk.set {W:World} {c P k:Nat} {G:Nat->Bool} (h:Wdk W c P k G) (v:Int) (hv:v=(wd G k:Int)):Wdk (W.setCell ⟨c,k,none⟩ (.int .u64 v)) c P (k+1) G:=fun j hj=>by
 obtain ⟨⟨u,h1,h2⟩,h3⟩:=h j hj
 by_cases e:j=k
 ·subst e
  exact ⟨⟨v,set_same h1,fun _=>hv⟩,by rw [World.frozen?_setCell];exact h3⟩
 ·exact ⟨⟨u,by rw [set_other (by simp<;>omega)];exact h1,fun x=>h2 (by omega)⟩,by rw [World.frozen?_setCell];exact h3⟩
theorem Wdk.start {W:World} {g m:Nat} {F:Nat->Bool} (h:Wds W g m F) (H:Nat->Bool):Wdk W g m 0 H:=fun j hj=>⟨⟨_,(h j hj).1,fun x=>by omega⟩,(h j hj).2⟩
theorem Wdk.done {W:World} {g m:Nat} {H:Nat->Bool} (h:Wdk W g m m H):Wds W g m H:=fun j hj=>by
 obtain ⟨⟨v,h1,h2⟩,h3⟩:=h j hj
 rw [h2 hj] at h1
 exact ⟨h1,h3⟩
theorem flip64 {x:Nat} (h:x < 18446744073709551616):18446744073709551615 ^^^ x=18446744073709551615 - x:=by
 refine Nat.eq_of_testBit_eq fun j=>?_
 have h2:=Nat.testBit_two_pow_sub_succ (n:=64) (x:=x) h j
 have h1:=Nat.testBit_two_pow_sub_one 64 j
 rw [show (2:Nat) ^ 64 - 1=18446744073709551615 from rfl] at h1
 rw [show 18446744073709551615 - x=2 ^ 64 - (x+1) by omega,h2,Nat.testBit_xor,h1]
 by_cases hj:j < 64
 ·simp [hj]
 ·have:x.testBit j=false:=Nat.testBit_lt_two_pow (Nat.lt_of_lt_of_le h (Nat.le_trans (by decide:18446744073709551616<=2 ^ 64) (Nat.pow_le_pow_right (by omega) (by omega))))
  simp [hj,this]
theorem sother {W:World} {b c o p:Nat} {u v:Value} (h:W.cell? ⟨b,o,none⟩=some u) (hb:c≠b):(W.setCell ⟨c,p,none⟩ v).cell? ⟨b,o,none⟩=some u:=by
 rw [set_other (fun e=>hb (congrArg Addr.block e))];exact h
/-- What stands while the words of a new packed table are written. -/
structure WN (w:World) (n m g q g2:Nat) (F H:Nat->Bool) (k:Nat) (W:World):Prop where
 lay:Lay W w.heap.size (.int .i64 (n:Int)) (.slice (some ⟨g,0,none⟩) m m)
 res:Lay W (w.heap.size+1) (.int .i64 0) (.slice none 0 0)
 new:Lay W q (.int .i64 (n:Int)) (.slice (some ⟨g2,0,none⟩) m m)
 wds:Wds W g m F
 wdk:Wdk W g2 m k H
 bel:Below w.heap.size w W
theorem WN.below {w:World} {n m g q g2 k:Nat} {F H:Nat->Bool} {W W':World} (h:WN w n m g q g2 F H k W) (b:Below W.heap.size W W'):WN w n m g q g2 F H k W' :=
 ⟨h.lay.below b,h.res.below b,h.new.below b,h.wds.below b,h.wdk.below b,h.bel.trans (b.mono h.bel.size)⟩
theorem WN.drew {w:World} {n m g q g2 k:Nat} {F H:Nat->Bool} {W:World} (h:WN w n m g q g2 F H k W):WN w n m g q g2 F H k W.drew :=
 h.below (below_drewN (Below.refl _ _) 1)
theorem WN.set {w:World} {n m g q g2 k:Nat} {F H:Nat->Bool} {W:World} (h:WN w n m g q g2 F H k W) (hg:g≠g2) (h0:w.heap.size+2<=g2) (hq:g2≠q) (v:Int) (hv:v=(wd H k:Int)):WN w n m g q g2 F H (k+1) (W.setCell ⟨g2,k,none⟩ (.int .u64 v)):=by
 have K:=kset (S:=fun b=>b=g2) (Kept.refl (fun b=>b=g2) W) (b:=g2) (o:=k) rfl (.int .u64 v)
 exact ⟨h.lay.kept K (by omega),h.res.kept K (by omega),h.new.kept K (fun e=>hq e.symm),h.wds.kept K hg,h.wdk.set v hv,h.bel.trans (K.below (fun b hb=>by omega) h.bel.size)⟩
end Tc8
namespace Tc9
open Go.RowKit
open Ta0 Ta1 Tc2 Tc4 Tc5 Tc7 Tc8
open Nd0 (Kept set_other set_same lt_of_cell)
/-- What stands while the words of two are put together. -/
structure WT (w:World) (n m g h q g2:Nat) (F G H:Nat->Bool) (k:Nat) (W:World):Prop where
 lay:Lay W w.heap.size (.int .i64 (n:Int)) (.slice (some ⟨g,0,none⟩) m m)
 lay2:Lay W (w.heap.size+1) (.int .i64 (n:Int)) (.slice (some ⟨h,0,none⟩) m m)
 res:Lay W (w.heap.size+2) (.int .i64 0) (.slice none 0 0)
 new:Lay W q (.int .i64 (n:Int)) (.slice (some ⟨g2,0,none⟩) m m)
 wds:Wds W g m F
 wds2:Wds W h m G
 wdk:Wdk W g2 m k H
 bel:Below w.heap.size w W
theorem WT.below {w:World} {n m g h q g2 k:Nat} {F G H:Nat->Bool} {W W':World} (s:WT w n m g h q g2 F G H k W) (b:Below W.heap.size W W'):WT w n m g h q g2 F G H k W' :=
 ⟨s.lay.below b,s.lay2.below b,s.res.below b,s.new.below b,s.wds.below b,s.wds2.below b,s.wdk.below b,s.bel.trans (b.mono s.bel.size)⟩
theorem WT.drew {w:World} {n m g h q g2 k:Nat} {F G H:Nat->Bool} {W:World} (s:WT w n m g h q g2 F G H k W):WT w n m g h q g2 F G H k W.drew :=
 s.below (below_drewN (Below.refl _ _) 1)
theorem WT.set {w:World} {n m g h q g2 k:Nat} {F G H:Nat->Bool} {W:World} (s:WT w n m g h q g2 F G H k W) (hg:g≠g2) (hh:h≠g2) (h0:w.heap.size+3<=g2) (hq:g2≠q) (v:Int) (hv:v=(wd H k:Int)):WT w n m g h q g2 F G H (k+1) (W.setCell ⟨g2,k,none⟩ (.int .u64 v)):=by
 have K:=kset (S:=fun b=>b=g2) (Kept.refl (fun b=>b=g2) W) (b:=g2) (o:=k) rfl (.int .u64 v)
 exact ⟨s.lay.kept K (by omega),s.lay2.kept K (by omega),s.res.kept K (by omega),s.new.kept K (fun e=>hq e.symm),s.wds.kept K hg,s.wds2.kept K hh,s.wdk.set v hv,s.bel.trans (K.below (fun b hb=>by omega) s.bel.size)⟩
end Tc9
end Go.Proofs.Ytfhdbcfhhbdiiaa
