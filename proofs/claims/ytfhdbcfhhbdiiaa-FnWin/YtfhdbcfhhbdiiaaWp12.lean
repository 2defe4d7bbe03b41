import Derived.Test.YtfhdbcfhhbdiiaaDp4
import Derived.Test.YtfhdbcfhhbdiiaaDq1
namespace Go.Proofs.Ytfhdbcfhhbdiiaa
set_option maxRecDepth 100000
set_option maxHeartbeats 8000000
set_option linter.unusedVariables false
namespace Wp12
open Go.RowKit
open Nd0 (Kept Ints WInts IntsIn lt_of_cell)
open Nd6 (Bools)
open Ap1 (WBools)
open Ta1 (tab tokB)
open Ta2 (bitB plc)
open Tc2 (tv)
open Tc5 (Lay)
open Dq1 (ownL iOwner)
open Dp1 Dp4
open Ss0 (bs)
open Ss1 (tl)
theorem iSpot (a:Option Addr) (l:List Int) (c:Nat) (w:World) (hl:l.length<=12) (hb:∀ i,i < l.length->bitB (l.getD i 0)=true) (hI:Ints w a l) :
 Calls Try.prog 37 #[.slice a l.length c] w fun e w'=>e=.returned (.agg #[.int .i64 (l.length:Int),.int .i64 ((plc l l.length:Nat):Int)])/\Below w.heap.size w w':=by
 obtain ⟨X0,hX0⟩:∃ X,X=w.alloc (.cells #[.int .i64 0,.int .i64 0] 68):=⟨_,rfl⟩
 have HB0:Hid (Below w.heap.size w X0):=by rw [hX0];exact (Below.refl _ _).alloc (Nat.le_refl _) _
 have HL0:Hid (Lay X0 w.heap.size (.int .i64 0) (.int .i64 0)):=by rw [hX0];exact Lay.made _ _ _ _
 have hE:w.alloc (.cells #[.int .i64 0,.int .i64 0] 68)=X0:=hX0.symm
 have HPL:Hid (Calls Try.prog 65 #[.slice a l.length c] X0 fun e w'=>e=.returned (.tuple #[.int .i64 ((plc l l.length:Nat):Int),.bool true])/\w'=X0):=(Te3.iPlaceOf a l c X0 hl (hI.below HB0.out)).mono fun e w' h=>by
  obtain ⟨h1,h2⟩:=h
  rcases h1 with ⟨_,h3⟩|⟨⟨i,hi,h3⟩,_⟩
  ·exact ⟨h3,h2⟩
  ·rw [hb i hi] at h3;cases h3
 clear hX0 hl hb hI
 generalize plc l l.length=p at *
 generalize l.length=n at *
 go_enter Try.func37,Try.ntmps37
 go_wp2_with fail
 clear hE
 refine Calls.mono HPL.out ?_
 rintro e w1 ⟨rfl,hw1⟩
 have hw1':=hw1.symm
 clear hw1
 subst hw1'
 obtain ⟨d0,d1,d2,d3⟩:=HL0.out
 have hd:=HL0.out.lt
 go_wp2
 clear d0 d1 d2 d3 hd
 have L:=HL0.out.put (.int .i64 (n:Int)) (.int .i64 (p:Int))
 obtain ⟨d0,d1,_,_⟩:=L
 have K:Kept (fun b=>b=w.heap.size) X0 ((X0.setCell ⟨w.heap.size,0,none⟩ (.int .i64 (n:Int))).setCell ⟨w.heap.size,1,none⟩ (.int .i64 (p:Int))):=((Kept.refl (fun b=>b=w.heap.size) X0).setCell (p:=⟨w.heap.size,0,none⟩) rfl _).setCell (p:=⟨w.heap.size,1,none⟩) rfl _
 exact bodyPost_ret (v:=.agg #[.int .i64 (n:Int),.int .i64 (p:Int)]) (by simp [results,Try.results37,go_sem,d0,d1]) rfl ⟨rfl,HB0.out.trans (K.below (fun b hb=>by omega) HB0.out.size)⟩
/-- A block of four cells. -/
structure G4 (W:World) (b:Nat) (x0 x1 x2 x3:Value):Prop where
 c0:W.cell? ⟨b,0,none⟩=some x0
 c1:W.cell? ⟨b,1,none⟩=some x1
 c2:W.cell? ⟨b,2,none⟩=some x2
 c3:W.cell? ⟨b,3,none⟩=some x3
 f0:W.frozen? ⟨b,0,none⟩=false
 f1:W.frozen? ⟨b,1,none⟩=false
 f2:W.frozen? ⟨b,2,none⟩=false
 f3:W.frozen? ⟨b,3,none⟩=false
theorem G4.lt {W:World} {b:Nat} {x0 x1 x2 x3:Value} (h:G4 W b x0 x1 x2 x3):b < W.heap.size:=lt_of_cell h.c0
theorem G4.kept {W W':World} {b:Nat} {x0 x1 x2 x3:Value} (h:G4 W b x0 x1 x2 x3) {S:Nat->Prop} (k:Kept S W W') (hs:¬ S b):G4 W' b x0 x1 x2 x3 :=
 ⟨by rw [k.cell (p:=⟨b,0,none⟩) h.lt hs];exact h.c0,by rw [k.cell (p:=⟨b,1,none⟩) h.lt hs];exact h.c1,by rw [k.cell (p:=⟨b,2,none⟩) h.lt hs];exact h.c2,by rw [k.cell (p:=⟨b,3,none⟩) h.lt hs];exact h.c3,by rw [k.frozen (p:=⟨b,0,none⟩) h.lt hs];exact h.f0,by rw [k.frozen (p:=⟨b,1,none⟩) h.lt hs];exact h.f1,by rw [k.frozen (p:=⟨b,2,none⟩) h.lt hs];exact h.f2,by rw [k.frozen (p:=⟨b,3,none⟩) h.lt hs];exact h.f3⟩
theorem G4.below {W W':World} {b:Nat} {x0 x1 x2 x3:Value} (h:G4 W b x0 x1 x2 x3) (k:Below W.heap.size W W'):G4 W' b x0 x1 x2 x3:=h.kept (S:=fun _=>False) (Kept.ofBelow k) (fun h=>h)
theorem G4.made (W:World) (x0 x1 x2 x3:Value) (T:Nat):G4 (W.alloc (.cells #[x0,x1,x2,x3] T)) W.heap.size x0 x1 x2 x3:=⟨by simp,by simp,by simp,by simp,by simp,by simp,by simp,by simp⟩
def put4 (W:World) (b:Nat) (y0 y1 y2 y3:Value):World:=(((W.setCell ⟨b,0,none⟩ y0).setCell ⟨b,1,none⟩ y1).setCell ⟨b,2,none⟩ y2).setCell ⟨b,3,none⟩ y3
theorem put4_kept (W:World) (b:Nat) (y0 y1 y2 y3:Value):Kept (fun k=>k=b) W (put4 W b y0 y1 y2 y3):=((((Kept.refl (fun k=>k=b) W).setCell (p:=⟨b,0,none⟩) rfl _).setCell (p:=⟨b,1,none⟩) rfl _).setCell (p:=⟨b,2,none⟩) rfl _).setCell (p:=⟨b,3,none⟩) rfl _
theorem G4.put {W:World} {b:Nat} {x0 x1 x2 x3:Value} (h:G4 W b x0 x1 x2 x3) (y0 y1 y2 y3:Value):G4 (put4 W b y0 y1 y2 y3) b y0 y1 y2 y3:=by
 unfold put4
 refine ⟨?_,?_,?_,?_,?_,?_,?_,?_⟩
 ·rw [Nd0.set_other (by simp),Nd0.set_other (by simp),Nd0.set_other (by simp)];exact Nd0.set_same h.c0
 ·rw [Nd0.set_other (by simp),Nd0.set_other (by simp)];exact Nd0.set_same (by rw [Nd0.set_other (by simp)];exact h.c1)
 ·rw [Nd0.set_other (by simp)];exact Nd0.set_same (by rw [Nd0.set_other (by simp),Nd0.set_other (by simp)];exact h.c2)
 ·exact Nd0.set_same (by rw [Nd0.set_other (by simp),Nd0.set_other (by simp),Nd0.set_other (by simp)];exact h.c3)
 ·rw [World.frozen?_setCell,World.frozen?_setCell,World.frozen?_setCell,World.frozen?_setCell];exact h.f0
 ·rw [World.frozen?_setCell,World.frozen?_setCell,World.frozen?_setCell,World.frozen?_setCell];exact h.f1
 ·rw [World.frozen?_setCell,World.frozen?_setCell,World.frozen?_setCell,World.frozen?_setCell];exact h.f2
 ·rw [World.frozen?_setCell,World.frozen?_setCell,World.frozen?_setCell,World.frozen?_setCell];exact h.f3
/-- A game's value. -/
abbrev gv (N:Int) (S:ByteArray) (v:Int) (a:Option Addr) (n c:Nat):Value:=.agg #[.int .i64 N,.string S,.int .i64 v,.slice a n c]
theorem iGame0 (N:Int) (S:ByteArray) (v:Int) (ra:Option Addr) (L c:Nat) (w:World) (h:¬ ((tokB N (tl S)=true/\(L:Int)=N)/\bitB v=true))
 (hR:∀ W,∃ rr:Bool,(rr=true->bitB v=false)/\Calls Try.prog 52 #[.slice ra L c,tv N S] W fun e w'=>∃ (a1:Option Addr) (n1 m1:Nat) (z1:Int) (a2:Option Addr) (n2 m2:Nat),e=.returned (.tuple #[.agg #[.slice a1 n1 m1,.int .i64 z1,.slice a2 n2 m2],.bool rr])/\Below W.heap.size W w') :
 Calls Try.prog 28 #[.int .i64 v,.slice ra L c,tv N S] w fun e w'=>e=.returned (.tuple #[gv 0 ⟨#[]⟩ 0 none 0 0,.bool false])/\Below w.heap.size w w':=by
 obtain ⟨X1,hX1⟩:∃ X,X=w.alloc (.cells #[.int .i64 N,.string S] 26):=⟨_,rfl⟩
 obtain ⟨X0,hX0⟩:∃ X,X=X1.alloc (.cells #[.int .i64 0,.string ⟨#[]⟩,.int .i64 0,.slice none 0 0] 55):=⟨_,rfl⟩
 have s1:X1.heap.size=w.heap.size+1:=by rw [hX1];simp
 have b1:Below w.heap.size w X1:=by rw [hX1];exact (Below.refl _ _).alloc (Nat.le_refl _) _
 have HB0:Hid (Below w.heap.size w X0):=by rw [hX0];exact b1.alloc b1.size _
 have HL0:Hid (Lay X0 w.heap.size (.int .i64 N) (.string S)):=by
  rw [hX0,hX1]
  exact (Lay.made _ _ _ _).alloc _
 have HG0:Hid (G4 X0 (w.heap.size+1) (.int .i64 0) (.string ⟨#[]⟩) (.int .i64 0) (.slice none 0 0)):=by
  rw [hX0,<- s1]
  exact G4.made _ _ _ _ _ _
 have hE:(w.alloc (.cells #[.int .i64 N,.string S] 26)).alloc (.cells #[.int .i64 0,.string ⟨#[]⟩,.int .i64 0,.slice none 0 0] 55)=X0:=by rw [hX0,hX1]
 clear hX0 hX1 s1 b1
 have HBO:Hid (∀ W,Calls Try.prog 54 #[.int .i64 v] W fun e w'=>e=.returned (.bool (bitB v))/\w'=W):=fun W=>Te1.iBitOk v W
 obtain ⟨rr,hrr,hRC⟩:=hR X0
 have HRC:Hid _:=hRC
 clear hRC hR h
 go_enter Try.func28,Try.ntmps28
 go_upto_region 1 with fail
 clear hE
 obtain ⟨d0,d1,_,_⟩:=HL0.out
 have hd:=HL0.out.lt
 go_wp2_with fail
 clear d0 d1 hd
 refine Calls.mono HRC.out ?_
 rintro e w1 ⟨a1,n1,m1,z1,a2,n2,m2,rfl,hb1⟩
 have HB1:Hid (Below w.heap.size w w1):=HB0.out.trans (hb1.mono HB0.out.size)
 have HG1:Hid (G4 w1 (w.heap.size+1) (.int .i64 0) (.string ⟨#[]⟩) (.int .i64 0) (.slice none 0 0)):=HG0.out.below hb1
 clear hb1 HRC HB0 HG0 HL0
 go_upto_region 2 with fail
 obtain ⟨W2,hW2⟩:∃ X,X=w1.alloc (.cells #[.slice a1 n1 m1,.int .i64 z1,.slice a2 n2 m2] 89):=⟨_,rfl⟩
 rw [<- hW2]
 have hb2:Below w1.heap.size w1 W2:=by rw [hW2];exact (Below.refl _ _).alloc (Nat.le_refl _) _
 have HB2:Hid (Below w.heap.size w W2):=HB1.out.trans (hb2.mono HB1.out.size)
 have HG2:Hid (G4 W2 (w.heap.size+1) (.int .i64 0) (.string ⟨#[]⟩) (.int .i64 0) (.slice none 0 0)):=HG1.out.below hb2
 clear hW2 hb2 HB1 HG1
 obtain ⟨d0,d1,d2,d3,e0,e1,e2,e3⟩:=HG2.out
 have hd:=HG2.out.lt
 cases rr
 ·go_wp2
  clear d0 d1 d2 d3 e0 e1 e2 e3 hd
  have L:=HG2.out.put (.int .i64 0) (.string ⟨#[]⟩) (.int .i64 0) (.slice none 0 0)
  have K:=put4_kept W2 (w.heap.size+1) (.int .i64 0) (.string ⟨#[]⟩) (.int .i64 0) (.slice none 0 0)
  unfold put4 at L K
  obtain ⟨d0,d1,d2,d3,_,_,_,_⟩:=L
  exact bodyPost_ret (v:=.tuple #[gv 0 ⟨#[]⟩ 0 none 0 0,.bool false]) (by simp [results,Try.results28,go_sem,d0,d1,d2,d3]) rfl ⟨rfl,HB2.out.trans (K.below (fun b hb=>by omega) HB2.out.size)⟩
 ·rw [hrr rfl] at HBO
  go_wp2_with (go_at_call 54;refine (HBO.out _).mono ?_;rintro e w3 ⟨rfl,hw3⟩;have hw3':=hw3.symm;clear hw3;subst hw3')
  clear d0 d1 d2 d3 e0 e1 e2 e3 hd
  have L:=HG2.out.put (.int .i64 0) (.string ⟨#[]⟩) (.int .i64 0) (.slice none 0 0)
  have K:=put4_kept W2 (w.heap.size+1) (.int .i64 0) (.string ⟨#[]⟩) (.int .i64 0) (.slice none 0 0)
  unfold put4 at L K
  obtain ⟨d0,d1,d2,d3,_,_,_,_⟩:=L
  exact bodyPost_ret (v:=.tuple #[gv 0 ⟨#[]⟩ 0 none 0 0,.bool false]) (by simp [results,Try.results28,go_sem,d0,d1,d2,d3]) rfl ⟨rfl,HB2.out.trans (K.below (fun b hb=>by omega) HB2.out.size)⟩
theorem iGame (n:Nat) (F:Nat->Bool) (v:Int) (row:List Bool) (ra:Option Addr) (c:Nat) (w:World) (hn:n<=12) (hrn:row.length=n) (hB:Bools w ra row) (hv:bitB v=true) :
 Calls Try.prog 28 #[.int .i64 v,.slice ra n c,tv (n:Int) (bs (tab n F))] w fun e w'=>(∃ a o,e=.returned (.tuple #[gv (n:Int) (bs (tab n F)) v a (ownL v row).length o,.bool true])/\Bools w' a (ownL v row))/\Below w.heap.size w w':=by
 obtain ⟨X1,hX1⟩:∃ X,X=w.alloc (.cells #[.int .i64 (n:Int),.string (bs (tab n F))] 26):=⟨_,rfl⟩
 obtain ⟨X0,hX0⟩:∃ X,X=X1.alloc (.cells #[.int .i64 0,.string ⟨#[]⟩,.int .i64 0,.slice none 0 0] 55):=⟨_,rfl⟩
 have s1:X1.heap.size=w.heap.size+1:=by rw [hX1];simp
 have b1:Below w.heap.size w X1:=by rw [hX1];exact (Below.refl _ _).alloc (Nat.le_refl _) _
 have HB0:Hid (Below w.heap.size w X0):=by rw [hX0];exact b1.alloc b1.size _
 have HL0:Hid (Lay X0 w.heap.size (.int .i64 (n:Int)) (.string (bs (tab n F)))):=by
  rw [hX0,hX1]
  exact (Lay.made _ _ _ _).alloc _
 have HG0:Hid (G4 X0 (w.heap.size+1) (.int .i64 0) (.string ⟨#[]⟩) (.int .i64 0) (.slice none 0 0)):=by
  rw [hX0,<- s1]
  exact G4.made _ _ _ _ _ _
 have hE:(w.alloc (.cells #[.int .i64 (n:Int),.string (bs (tab n F))] 26)).alloc (.cells #[.int .i64 0,.string ⟨#[]⟩,.int .i64 0,.slice none 0 0] 55)=X0:=by rw [hX0,hX1]
 clear hX0 hX1 s1 b1
 have HBO:Hid (∀ W,Calls Try.prog 54 #[.int .i64 v] W fun e w'=>e=.returned (.bool true)/\w'=W):=fun W=>by
  have:=Te1.iBitOk v W
  rwa [hv] at this
 have HRU:Hid _:=iRuled n F ra c X0 hn
 have HOW:Hid (∀ W,Below w.heap.size w W->Calls Try.prog 55 #[.slice ra n c,.int .i64 v] W fun e w'=>(∃ a' c',e=.returned (.slice a' (ownL v row).length c')/\WBools w' W.heap.size a' (ownL v row))/\Below W.heap.size W w'):=fun W hb=>by
  have h:=iOwner W ra row c v (hB.below hb) (by omega)
  rw [hrn] at h
  refine h.mono ?_
  rintro e w' ⟨⟨a',c',he,hw⟩,hb'⟩
  exact ⟨⟨a',c',he,hw⟩,hb'⟩
 clear hn hrn hB hv
 generalize ownL v row=OL at *
 generalize bs (tab n F)=S at *
 go_enter Try.func28,Try.ntmps28
 go_upto_region 1 with fail
 clear hE
 obtain ⟨d0,d1,_,_⟩:=HL0.out
 have hd:=HL0.out.lt
 go_wp2_with fail
 clear d0 d1 hd
 refine Calls.mono HRU.out ?_
 rintro e w1 ⟨gg,rfl,_,_,hb1⟩
 have HB1:Hid (Below w.heap.size w w1):=HB0.out.trans (hb1.mono HB0.out.size)
 have HG1:Hid (G4 w1 (w.heap.size+1) (.int .i64 0) (.string ⟨#[]⟩) (.int .i64 0) (.slice none 0 0)):=HG0.out.below hb1
 have HL1:Hid (Lay w1 w.heap.size (.int .i64 (n:Int)) (.string S)):=HL0.out.below hb1
 clear hb1 HRU HB0 HG0 HL0
 generalize Tc4.nw n=nwn at *
 go_upto_region 2 with fail
 obtain ⟨W2,hW2⟩:∃ X,X=w1.alloc (.cells #[.slice ra n c,.int .i64 (n:Int),.slice (some ⟨gg,0,none⟩) nwn nwn] 89):=⟨_,rfl⟩
 rw [<- hW2]
 have hb2:Below w1.heap.size w1 W2:=by rw [hW2];exact (Below.refl _ _).alloc (Nat.le_refl _) _
 have HB2:Hid (Below w.heap.size w W2):=HB1.out.trans (hb2.mono HB1.out.size)
 have HG2:Hid (G4 W2 (w.heap.size+1) (.int .i64 0) (.string ⟨#[]⟩) (.int .i64 0) (.slice none 0 0)):=HG1.out.below hb2
 have HL2:Hid (Lay W2 w.heap.size (.int .i64 (n:Int)) (.string S)):=HL1.out.below hb2
 clear hW2 hb2 HB1 HG1 HL1
 go_upto_region 4 with (go_at_call 54;refine (HBO.out _).mono ?_;rintro e w3 ⟨rfl,hw3⟩;have hw3':=hw3.symm;clear hw3;subst hw3')
 have dd:Below W2.heap.size W2 W2.drew:=(Below.refl _ _).drew
 have HBD:Hid (Below w.heap.size w W2.drew):=HB2.out.drew
 have LD:=HL2.out.below dd
 have HGD:Hid (G4 W2.drew (w.heap.size+1) (.int .i64 0) (.string ⟨#[]⟩) (.int .i64 0) (.slice none 0 0)):=HG2.out.below dd
 clear dd
 go_region_held3 (fun w'=>w'.cell? ⟨w.heap.size,0,none⟩=some (.int .i64 (n:Int))/\w'.cell? ⟨w.heap.size,1,none⟩=some (.string S)) ((first|(with_reducible exact ⟨LD.c0,LD.c1⟩)|(with_reducible exact ⟨LE.c0,LE.c1⟩)|(with_reducible exact ⟨LP.c0,LP.c1⟩))) ((go_at_call 55;(with_reducible refine (HOW.out _ HBD.out).mono ?_);rintro e x3 ⟨⟨ao,co,rfl,hbo⟩,hb3⟩;have LE:=LD.below hb3;have HG3:Hid (G4 x3 (w.heap.size+1) (.int .i64 0) (.string ⟨#[]⟩) (.int .i64 0) (.slice none 0 0)):=HGD.out.below hb3;have HO3:Hid (WBools x3 W2.drew.heap.size ao OL):=hbo;have HB3:Hid (Below w.heap.size w x3):=HBD.out.trans (hb3.mono HBD.out.size);have LP:=LE.kept (put4_kept x3 (w.heap.size+1) (.int .i64 (n:Int)) (.string S) (.int .i64 v) (.slice ao OL.length co)) (by omega);unfold put4 at LP;obtain ⟨g0,g1,g2,g3,f0,f1,f2,f3⟩:=HG3.out;have hgl:=HG3.out.lt;clear hb3 hbo))
 go_wp2
 clear g0 g1 g2 g3 f0 f1 f2 f3 hgl
 have L:=HG3.out.put (.int .i64 (n:Int)) (.string S) (.int .i64 v) (.slice ao OL.length co)
 have K:=put4_kept x3 (w.heap.size+1) (.int .i64 (n:Int)) (.string S) (.int .i64 v) (.slice ao OL.length co)
 have hlt:w.heap.size+1 < W2.drew.heap.size:=HGD.out.lt
 unfold put4 at L K
 obtain ⟨d0,d1,d2,d3,_,_,_,_⟩:=L
 exact bodyPost_ret (v:=.tuple #[gv (n:Int) S v ao OL.length co,.bool true]) (by simp [results,Try.results28,go_sem,d0,d1,d2,d3]) rfl ⟨⟨ao,co,rfl,((Nd6.WBools.within HO3.out).kept K (fun b h1 h2 h3=>by omega)).plain⟩,HB3.out.trans (K.below (fun b hb=>by omega) HB3.out.size)⟩
end Wp12
end Go.Proofs.Ytfhdbcfhhbdiiaa
