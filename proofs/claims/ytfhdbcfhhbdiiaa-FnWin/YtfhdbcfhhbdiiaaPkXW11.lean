import Derived.Deep.CutBlock
import Derived.Test.YtfhdbcfhhbdiiaaPkXW10
import Derived.Test.YtfhdbcfhhbdiiaaNd6
namespace Go.Proofs.Ytfhdbcfhhbdiiaa
set_option maxRecDepth 100000
set_option maxHeartbeats 8000000
set_option linter.unusedVariables false
namespace Tc5
open Go.RowKit
open Ta0 Ta1 Tc2 Tc4
open Nd0 (Kept set_other set_same lt_of_cell)
open Ss0 (bs bs_size ret_str)
open Ss1 (tl tl_length tl_get tl_take bs_tl tl_bs tl_inj eqb)
/-- A block of two cells. -/
structure Lay (W:World) (b:Nat) (x y:Value):Prop where
 c0:W.cell? ⟨b,0,none⟩=some x
 c1:W.cell? ⟨b,1,none⟩=some y
 f0:W.frozen? ⟨b,0,none⟩=false
 f1:W.frozen? ⟨b,1,none⟩=false
theorem Lay.lt {W:World} {b:Nat} {x y:Value} (h:Lay W b x y):b < W.heap.size:=World.block_lt_of_cell? _ _ h.c0
theorem Lay.kept {W W':World} {b:Nat} {x y:Value} (h:Lay W b x y) {S:Nat->Prop} (k:Kept S W W') (hs:¬ S b):Lay W' b x y :=
 ⟨by rw [k.cell (p:=⟨b,0,none⟩) h.lt hs];exact h.c0,by rw [k.cell (p:=⟨b,1,none⟩) h.lt hs];exact h.c1,by rw [k.frozen (p:=⟨b,0,none⟩) h.lt hs];exact h.f0,by rw [k.frozen (p:=⟨b,1,none⟩) h.lt hs];exact h.f1⟩
theorem Lay.below {W W':World} {b:Nat} {x y:Value} (h:Lay W b x y) (k:Below W.heap.size W W'):Lay W' b x y :=
 h.kept (S:=fun _=>False) (Kept.ofBelow k) (fun h=>h)
theorem Lay.made (W:World) (x y:Value) (T:Nat):Lay (W.alloc (.cells #[x,y] T)) W.heap.size x y:=⟨by simp,by simp,by simp,by simp⟩
theorem Lay.alloc {W:World} {b:Nat} {x y:Value} (h:Lay W b x y) (o:Obj):Lay (W.alloc o) b x y:=h.kept (S:=fun _=>False) ((Kept.refl _ _).alloc _) (fun h=>h)
theorem Lay.put {W:World} {b:Nat} {x y:Value} (h:Lay W b x y) (u v:Value):Lay ((W.setCell ⟨b,0,none⟩ u).setCell ⟨b,1,none⟩ v) b u v :=
 ⟨by rw [set_other (by simp)];exact set_same h.c0,set_same (by rw [set_other (by simp)];exact h.c1),by rw [World.frozen?_setCell,World.frozen?_setCell];exact h.f0,by rw [World.frozen?_setCell,World.frozen?_setCell];exact h.f1⟩
theorem kset {S:Nat->Prop} {u w:World} (h:Kept S u w) {b o:Nat} (hb:S b) (x:Value):Kept S u (w.setCell ⟨b,o,none⟩ x):=h.setCell (p:=⟨b,o,none⟩) hb x
theorem bs_tab_get (n:Nat) (F:Nat->Bool) (k:Nat) (h:k < (bs (tab n F)).size):(bs (tab n F))[k]=sgn (F k):=by
 rw [tl_get]
 have e:tl (bs (tab n F))=tab n F:=tl_bs _
 have h2:k < (tab n F).length:=by rw [bs_size] at h;exact h
 have:=tab_get n F k h2
 rw [<- this]
 congr 1
theorem pack (n:Nat) (F:Nat->Bool) (w:World) (hn:n<=12) :
 Calls Try.prog 69 #[tv (n:Int) (bs (tab n F))] w fun e w'=>∃ g,e=.returned (pv n (nw n) g)/\w.heap.size<=g/\Wds w' g (nw n) (upto (2 ^ n) F)/\Below w.heap.size w w':=by
 obtain ⟨hp,hl⟩:=p12 hn
 have hnw:=nw_le hn
 have HSZ:Hid ((bs (tab n F)).size=2 ^ n):=by show _=_;rw [bs_size,tab_length]
 have HGT:Hid (∀ k (h:k < (bs (tab n F)).size),(bs (tab n F))[k]=sgn (F k)):=bs_tab_get n F
 have HNP:Hid (∀ W,Calls Try.prog 83 #[.int .i64 (n:Int)] W fun e w'=>∃ g,e=.returned (pv n (nw n) g)/\W.heap.size<=g/\Wds w' g (nw n) (fun _=>false)/\Below W.heap.size W w'):=fun W=>newPacked n W hn
 have HSI:Hid (∀ W g,Calls Try.prog 81 #[pv n (nw n) g] W fun e w'=>e=.returned (.int .i64 ((2 ^ n:Nat):Int))/\Below W.heap.size W w'):=fun W g=>size n g W hn
 have HPU:Hid (∀ W g k,k < 2 ^ n->F k=true->Wds W g (nw n) (upto k F)->Calls Try.prog 84 #[pv n (nw n) g,.int .i64 (k:Int)] W fun e w'=>e=.returned (.tuple #[])/\Wds w' g (nw n) (upto (k+1) F)/\Kept (fun b=>b=g) W w'):=fun W g k h1 h2 h3=>put n g k F W hn h1 h2 h3
 generalize bs (tab n F)=S at *
 generalize nw n=m at *
 generalize 2 ^ n=P at *
 go_enter Try.func69,Try.ntmps69
 go_wp2_with fail
 refine (HNP.out _).mono ?_
 rintro e w1 ⟨g,rfl,hg,hw1,hb1⟩
 have HX0:Hid (Lay w1 w.heap.size (.int .i64 (n:Int)) (.string S)):=(((Lay.made w _ _ _).alloc _).below hb1)
 have HR0:Hid (Lay w1 (w.heap.size+1) (.int .i64 0) (.slice none 0 0)):=by
  have:=Lay.made (w.alloc (.cells #[.int .i64 (n:Int),.string S] 26)) (.int .i64 0) (.slice none 0 0) 87
  have:=this.below hb1
  show Lay _ _ _ _
  simpa using this
 have hsz1:w.heap.size+2<=g:=by simpa using hg
 have hgl:=hw1.lt (by omega)
 have HB1:Hid (Below w.heap.size w w1):=(((Below.refl _ _).alloc (Nat.le_refl _) _).alloc (by simp) _).trans (hb1.mono (by simp;omega))
 have HW1:Hid (Wds w1 g m (fun _=>false)):=hw1
 clear hb1 hw1 hg
 go_wp2_with fail
 refine (HSI.out _ g).mono ?_
 rintro e w2 ⟨rfl,hb2⟩
 have HX2:Hid (Lay w2 w.heap.size (.int .i64 (n:Int)) (.string S)):=(HX0.out.alloc _).below hb2
 have HR2:Hid (Lay w2 (w.heap.size+1) (.int .i64 0) (.slice none 0 0)):=(HR0.out.alloc _).below hb2
 have HQ2:Hid (Lay w2 w1.heap.size (.int .i64 (n:Int)) (.slice (some ⟨g,0,none⟩) m m)):=(Lay.made w1 _ _ _).below hb2
 have HW2:Hid (Wds w2 g m (upto 0 F)):=((HW1.out.kept (S:=fun _=>False) ((Kept.refl _ _).alloc _) (fun h=>h)).below hb2).congr fun i _=>by rw [upto_zero,wd_zero (by intro j _;rfl)]
 have HB2:Hid (Below w.heap.size w w2):=(HB1.out.alloc HB1.out.size _).trans (hb2.mono (by have:=HB1.out.size;simp;omega))
 clear hb2
 have hb0:=HX2.out.lt
 go_wp2_with fail
 go_loopw [10] (fun i wr=>∃ k:Nat,k<=P/\i=.int .i64 k/\Lay wr w.heap.size (.int .i64 (n:Int)) (.string S)/\Lay wr (w.heap.size+1) (.int .i64 0) (.slice none 0 0)/\Lay wr w1.heap.size (.int .i64 (n:Int)) (.slice (some ⟨g,0,none⟩) m m)/\Wds wr g m (upto k F)/\Below w.heap.size w wr) (fun i _=>P - (intOf i).toNat)
 case atStart=>exact ⟨0,Nat.zero_le _,rfl,HX2.out,HR2.out,HQ2.out,HW2.out,HB2.out⟩
 case round =>
  obtain ⟨k,hk,rfl,hx,hr,hq,hw,hb⟩:=hrel
  have HX:Hid (Lay wr w.heap.size (.int .i64 (n:Int)) (.string S)):=hx
  have HR:Hid (Lay wr (w.heap.size+1) (.int .i64 0) (.slice none 0 0)):=hr
  have HQ:Hid (Lay wr w1.heap.size (.int .i64 (n:Int)) (.slice (some ⟨g,0,none⟩) m m)):=hq
  have HW:Hid (Wds wr g m (upto k F)):=hw
  have HB:Hid (Below w.heap.size w wr):=hb
  clear hb hw
  obtain ⟨x0,x1,_,_⟩:=hx
  obtain ⟨q0,q1,_,_⟩:=hq
  by_cases hlt:k < P
  ·clear hr
   have hks:k < S.size:=by rw [HSZ.out];exact hlt
   have hkz:(k:Int) < (P:Int):=by omega
   have HG:Hid (S[k]=sgn (F k)):=HGT.out k hks
   cases hF:F k
   ·have h9:((S[k].toNat:Int)==49)=false:=by rw [HG.out,hF];rfl
    have HF:Hid (F k=false):=hF
    clear hF
    go_wp2
    go_roundw
    case rel=>exact ⟨k+1,by omega,by go_num,HX.out,HR.out,HQ.out,HW.out.congr fun i _=>(wd_next_no F k i HF.out).symm,HB.out⟩
    case measure=>simp [intOf];omega
   ·have h9:((S[k].toNat:Int)==49)=true:=by rw [HG.out,hF];rfl
    have HF:Hid (F k=true):=hF
    clear hF
    go_wp2_with (go_at_call 84;refine (HPU.out _ g k hlt HF.out HW.out).mono ?_;rintro e w3 ⟨rfl,hw3,hk3⟩)
    go_roundw
    case rel=>exact ⟨k+1,by omega,by go_num,HX.out.kept hk3 (by omega),HR.out.kept hk3 (by omega),HQ.out.kept hk3 (by omega),hw3,HB.out.trans (hk3.below (fun b hb=>by omega) HB.out.size)⟩
    case measure=>simp [intOf];omega
  ·obtain ⟨r0,r1,r2,r3⟩:=hr
   have hkP:k=P:=by omega
   have HWP:Hid (Wds wr g m (upto P F)):=by rw [<- hkP];exact HW.out
   clear hkP
   have HZ:=HR.out.put (.int .i64 (n:Int)) (.slice (some ⟨g,0,none⟩) m m)
   have HK:Kept (fun b=>b=w.heap.size+1) wr ((wr.setCell ⟨w.heap.size+1,0,none⟩ (.int .i64 (n:Int))).setCell ⟨w.heap.size+1,1,none⟩ (.slice (some ⟨g,0,none⟩) m m)):=kset (S:=fun b=>b=w.heap.size+1) (kset (S:=fun b=>b=w.heap.size+1) (Kept.refl (fun b=>b=w.heap.size+1) wr) rfl _) rfl _
   have HWZ:=HWP.out.kept HK (by omega)
   have HBZ:=HB.out.trans (HK.below (B:=w.heap.size) (fun b hb=>by omega) HB.out.size)
   have HH:Hid (∃ W,W=(wr.setCell ⟨w.heap.size+1,0,none⟩ (.int .i64 (n:Int))).setCell ⟨w.heap.size+1,1,none⟩ (.slice (some ⟨g,0,none⟩) m m)/\Lay W (w.heap.size+1) (.int .i64 (n:Int)) (.slice (some ⟨g,0,none⟩) m m)/\Wds W g m (upto P F)/\Below w.heap.size w W):=⟨_,rfl,HZ,HWZ,HBZ⟩
   clear HZ HK HWZ HBZ
   go_wp2
   obtain ⟨W,hW,hz,hwz,hbz⟩:=HH.out
   rw [<- hW]
   obtain ⟨z0,z1,_,_⟩:=hz
   exact bodyPost_ret (v:=pv n m g) (by simp [results,Try.results69,go_sem,z0,z1]) rfl ⟨g,rfl,by omega,hwz,hbz⟩
end Tc5
namespace Wp0
open Go.RowKit
open Nd0 (Kept Ints WInts IntsIn Ats marks marks_length lt_of_cell)
open Nd6 (eqIntB markIntB heldIntB)
open Tc5 (Lay)
/-- A pick's value. -/
abbrev pv (a:Option Addr) (n c:Nat) (v:Int):Value:=.agg #[.slice a n c,.int .i64 v]
/-- It lies in a block. -/
structure Pb (W:World) (b:Nat) (a:Option Addr) (n c:Nat) (v:Int):Prop where
 c0:W.cell? ⟨b,0,none⟩=some (.slice a n c)
 c1:W.cell? ⟨b,1,none⟩=some (.int .i64 v)
theorem Pb.lt {W:World} {b:Nat} {a:Option Addr} {n c:Nat} {v:Int} (h:Pb W b a n c v):b < W.heap.size:=lt_of_cell h.c0
theorem Pb.kept {W W':World} {b:Nat} {a:Option Addr} {n c:Nat} {v:Int} (h:Pb W b a n c v) {S:Nat->Prop} (k:Kept S W W') (hs:¬ S b):Pb W' b a n c v :=
 ⟨by rw [k.cell (p:=⟨b,0,none⟩) h.lt hs];exact h.c0,by rw [k.cell (p:=⟨b,1,none⟩) h.lt hs];exact h.c1⟩
theorem Pb.below {W W':World} {b:Nat} {a:Option Addr} {n c:Nat} {v:Int} (h:Pb W b a n c v) (k:Below W.heap.size W W'):Pb W' b a n c v:=h.kept (S:=fun _=>False) (Kept.ofBelow k) (fun h=>h)
theorem Pb.made (W:World) (a:Option Addr) (n c:Nat) (v:Int) (T:Nat):Pb (W.alloc (.cells #[.slice a n c,.int .i64 v] T)) W.heap.size a n c v:=⟨by simp,by simp⟩
theorem eqPick (w:World) (a a':Option Addr) (l:List Int) (c c':Nat) (v:Int) (h:Ints w a l) (h':Ints w a' l) :
 Calls Try.prog 47 #[pv a l.length c v,pv a' l.length c' v] w fun e w'=>e=.returned (.bool true)/\Below w.heap.size w w':=by
 have H:Hid (Ints w a l):=h
 have H':Hid (Ints w a' l):=h'
 clear h h'
 obtain ⟨X0,hX0⟩:∃ X,X=(w.alloc (.cells #[.slice a l.length c,.int .i64 v] 61)).alloc (.cells #[.slice a' l.length c',.int .i64 v] 61):=⟨_,rfl⟩
 have HB:Hid (Below w.heap.size w X0):=by rw [hX0];exact ((Below.refl _ _).alloc (Nat.le_refl _) _).alloc (by simp) _
 have HP:Hid (Pb X0 w.heap.size a l.length c v):=by rw [hX0];exact (Pb.made _ _ _ _ _ _).kept (S:=fun _=>False) ((Kept.refl _ _).alloc _) (fun h=>h)
 have HQ:Hid (Pb X0 (w.heap.size+1) a' l.length c' v):=by
  have:=Pb.made (w.alloc (.cells #[.slice a l.length c,.int .i64 v] 61)) a' l.length c' v 61
  rw [<- hX0] at this
  have h2:Pb X0 (w.heap.size+1) a' l.length c' v:=by simpa using this
  exact h2
 have hvv:(v != v)=false:=by simp
 go_enter Try.func47,Try.ntmps47
 go_upto_region 1 with fail
 rw [<- hX0]
 clear hX0
 obtain ⟨p0,p1⟩:=HP.out
 obtain ⟨q0,q1⟩:=HQ.out
 have hp:=HP.out.lt
 have hq:=HQ.out.lt
 go_wp2_with fail
 clear p0 p1 q0 q1 hp hq
 refine (eqIntB _ a a' l c c' (H.out.below HB.out) (H'.out.below HB.out)).mono ?_
 rintro e w1 ⟨rfl,hb⟩
 obtain ⟨p0,p1⟩:=HP.out.below hb
 obtain ⟨q0,q1⟩:=HQ.out.below hb
 have hp:=lt_of_cell p0
 have hq:=lt_of_cell q0
 have HB1:Hid (Below w.heap.size w w1):=HB.out.trans (hb.mono HB.out.size)
 clear hb
 go_wp2
 go_ret
 exact ⟨rfl,HB1.out⟩
end Wp0
end Go.Proofs.Ytfhdbcfhhbdiiaa
