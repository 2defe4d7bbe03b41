import Derived.Laws.EntriesVeiled
import Derived.WalkMore
import Derived.Test.YtfhdbcfhhbdiiaaTc7
namespace Go.Proofs.Ytfhdbcfhhbdiiaa
set_option maxRecDepth 100000
set_option maxHeartbeats 8000000
set_option linter.unusedVariables false
namespace Dp1
open Go.RowKit
open Ta1 Tc4 Tc5 Dv0
open Nd0 (Kept set_other set_same lt_of_cell)
open Nd6 (Bools)
open Tc2 (ret_int)
/-- A ruled table's value. -/
abbrev rv (ra:Option Addr) (c n m g:Nat):Value:=.agg #[.slice ra n c,.int .i64 (n:Int),.slice (some ⟨g,0,none⟩) m m]
/-- A ruled table lies in block b. -/
structure Rb (W:World) (b:Nat) (ra:Option Addr) (c n m g:Nat):Prop where
 c0:W.cell? ⟨b,0,none⟩=some (.slice ra n c)
 c1:W.cell? ⟨b,1,none⟩=some (.int .i64 (n:Int))
 c2:W.cell? ⟨b,2,none⟩=some (.slice (some ⟨g,0,none⟩) m m)
theorem Rb.lt {W:World} {b:Nat} {ra:Option Addr} {c n m g:Nat} (h:Rb W b ra c n m g):b < W.heap.size:=World.block_lt_of_cell? _ _ h.c0
theorem Rb.kept {W W':World} {b:Nat} {ra:Option Addr} {c n m g:Nat} (h:Rb W b ra c n m g) {S:Nat->Prop} (k:Kept S W W') (hs:¬ S b):Rb W' b ra c n m g :=
 ⟨by rw [k.cell (p:=⟨b,0,none⟩) h.lt hs];exact h.c0,by rw [k.cell (p:=⟨b,1,none⟩) h.lt hs];exact h.c1,by rw [k.cell (p:=⟨b,2,none⟩) h.lt hs];exact h.c2⟩
theorem Rb.below {W W':World} {b:Nat} {ra:Option Addr} {c n m g:Nat} (h:Rb W b ra c n m g) (k:Below W.heap.size W W'):Rb W' b ra c n m g :=
 h.kept (S:=fun _=>False) (Kept.ofBelow k) (fun h=>h)
theorem Rb.alloc {W:World} {b:Nat} {ra:Option Addr} {c n m g:Nat} (h:Rb W b ra c n m g) (o:Obj):Rb (W.alloc o) b ra c n m g:=h.kept (S:=fun _=>False) ((Kept.refl _ _).alloc _) (fun h=>h)
theorem Rb.made (W:World) (ra:Option Addr) (c n m g T:Nat):Rb (W.alloc (.cells #[.slice ra n c,.int .i64 (n:Int),.slice (some ⟨g,0,none⟩) m m] T)) W.heap.size ra c n m g:=⟨by simp,by simp,by simp⟩
/-- A number lies in block b. -/
def Nb (W:World) (b:Nat) (x:Int):Prop:=W.cell? ⟨b,0,none⟩=some (.int .i64 x)
theorem Nb.below {W W':World} {b:Nat} {x:Int} (h:Nb W b x) (k:Below W.heap.size W W'):Nb W' b x:=by
 unfold Nb
 rw [k.cell (p:=⟨b,0,none⟩) (World.block_lt_of_cell? _ _ h)];exact h
theorem Nb.made (W:World) (x:Int) (T:Nat):Nb (W.alloc (.cells #[.int .i64 x] T)) W.heap.size x:=by unfold Nb;simp
theorem Nb.alloc {W:World} {b:Nat} {x:Int} (h:Nb W b x) (o:Obj):Nb (W.alloc o) b x:=h.below ((Below.refl _ _).alloc (Nat.le_refl _) _)
/-- The half of a fork: a function over what it holds. -/
abbrev fk (f b0 b1 b2:Nat):Value:=.func (.func f) #[] #[.pointer (some ⟨b0,0,none⟩),.pointer (some ⟨b1,0,none⟩),.pointer (some ⟨b2,0,none⟩)]
theorem iFork (ra:Option Addr) (c n m g:Nat) (k p:Int) (w:World) :
 Calls Try.prog 60 #[rv ra c n m g,.int .i64 k,.int .i64 p] w fun e w'=>∃ b,e=.returned (.agg #[fk 82 b (b+1) (b+1+1)])/\w.heap.size<=b/\Rb w' b ra c n m g/\Nb w' (b+1) k/\Nb w' (b+1+1) p/\Below w.heap.size w w':=by
 go_enter Try.func60,Try.ntmps60
 go_wp2
 refine bodyPost_ret (v:=.agg #[fk 82 w.heap.size (w.heap.size+1) (w.heap.size+1+1)]) (by simp [results,Try.results60,go_sem]) rfl ⟨w.heap.size,rfl,Nat.le_refl _,?_,?_,?_,?_⟩
 ·exact (((Rb.made w ra c n m g _).alloc _).alloc _).alloc _
 ·have h:=((Nb.made (w.alloc (.cells #[.slice ra n c,.int .i64 (n:Int),.slice (some ⟨g,0,none⟩) m m] 89)) k 3).alloc (.cells #[.int .i64 p] 3)).alloc (.cells #[fk 82 w.heap.size (w.heap.size+1) (w.heap.size+1+1)] 101)
  have e:(w.alloc (.cells #[.slice ra n c,.int .i64 (n:Int),.slice (some ⟨g,0,none⟩) m m] 89)).heap.size=w.heap.size+1:=by simp
  rw [e] at h
  exact h
 ·have h:=(Nb.made ((w.alloc (.cells #[.slice ra n c,.int .i64 (n:Int),.slice (some ⟨g,0,none⟩) m m] 89)).alloc (.cells #[.int .i64 k] 3)) p 3).alloc (.cells #[fk 82 w.heap.size (w.heap.size+1) (w.heap.size+1+1)] 101)
  have e:((w.alloc (.cells #[.slice ra n c,.int .i64 (n:Int),.slice (some ⟨g,0,none⟩) m m] 89)).alloc (.cells #[.int .i64 k] 3)).heap.size=w.heap.size+1+1:=by simp
  rw [e] at h
  exact h
 ·repeat (first|exact Below.refl _ _|refine Below.setCell ?_ (by simp<;>omega) _|refine Below.alloc ?_ (by simp<;>omega) _)
theorem iOne1 (b:Bool) (w:World) :
 Calls Try.prog 67 #[.bool b] w fun e w'=>e=.returned (.int .i64 (b.toNat:Int))/\w'=w:=by
 cases b
 all_goals
  go_enter Try.func67,Try.ntmps67
  go_wp2
  go_ret
  exact ⟨rfl,rfl⟩
/-- What is asked of a fork's half: at b it tells H b, in every world that comes of w. -/
def TellsF (w:World) (b0 b1 b2:Nat) (H:Nat->Bool):Prop:=∀ (W:World) (b:Nat),b<=1->Below w.heap.size w W->Calls Try.prog 82 #[.int .i64 (b:Int),.pointer (some ⟨b0,0,none⟩),.pointer (some ⟨b1,0,none⟩),.pointer (some ⟨b2,0,none⟩)] W fun e w'=>e=.returned (.int .i64 ((H b).toNat:Int))/\Below W.heap.size W w'
theorem TellsF.below {w w1:World} {b0 b1 b2:Nat} {H:Nat->Bool} (h:TellsF w b0 b1 b2 H) (k:Below w.heap.size w w1):TellsF w1 b0 b1 b2 H:=fun W b hb hW=>h W b hb (k.trans (hW.mono k.size))
theorem firstF (b0 b1 b2:Nat) (H:Nat->Bool) (v:Int) (w:World) (hT:TellsF w b0 b1 b2 H) :
 Calls Try.prog 61 #[.agg #[fk 82 b0 b1 b2],.int .i64 v] w fun e w'=>e=.returned (.int .i64 (fst (H 0) (H 1) v))/\Below w.heap.size w w':=by
 have HT:Hid (TellsF w b0 b1 b2 H):=hT
 clear hT
 have HB0:Hid (Below w.heap.size w (w.alloc (.cells #[fk 82 b0 b1 b2] 101))):=(Below.refl _ _).alloc (Nat.le_refl _) _
 have x0:(w.alloc (.cells #[fk 82 b0 b1 b2] 101)).cell? ⟨w.heap.size,0,none⟩=some (fk 82 b0 b1 b2):=by simp
 have HX:Hid ((w.alloc (.cells #[fk 82 b0 b1 b2] 101)).cell? ⟨w.heap.size,0,none⟩=some (fk 82 b0 b1 b2)/\w.heap.size < (w.alloc (.cells #[fk 82 b0 b1 b2] 101)).heap.size):=⟨by simp,by simp⟩
 clear x0
 generalize hW:w.alloc (.cells #[fk 82 b0 b1 b2] 101)=W0 at *
 have HW:Hid (w.alloc (.cells #[fk 82 b0 b1 b2] 101)=W0):=hW
 clear hW
 have HG0:Hid (∀ (W:World),Below w.heap.size w W->Calls Try.prog 82 #[.int .i64 0,.pointer (some ⟨b0,0,none⟩),.pointer (some ⟨b1,0,none⟩),.pointer (some ⟨b2,0,none⟩)] W fun e w'=>e=.returned (.int .i64 ((H 0).toNat:Int))/\Below W.heap.size W w'):=fun W h=>HT.out W 0 (by omega) h
 have HG1:Hid (∀ (W:World),Below w.heap.size w W->Calls Try.prog 82 #[.int .i64 1,.pointer (some ⟨b0,0,none⟩),.pointer (some ⟨b1,0,none⟩),.pointer (some ⟨b2,0,none⟩)] W fun e w'=>e=.returned (.int .i64 ((H 1).toNat:Int))/\Below W.heap.size W w'):=fun W h=>HT.out W 1 (by omega) h
 generalize H 0=y0 at *
 generalize H 1=y1 at *
 clear HT
 go_enter Try.func61,Try.ntmps61
 go_upto_region 2 with fail
 rw [HW.out]
 go_step3
 go_wp2_with fail
 go_step3
 go_wp2_with fail
 go_loopw [5,7] (fun r i wr=>∃ k:Nat,k<=2/\i=.int .i64 k/\r=.int .i64 (-1)/\Below w.heap.size w wr/\wr.cell? ⟨w.heap.size,0,none⟩=some (fk 82 b0 b1 b2)/\w.heap.size < wr.heap.size/\(1<=k->¬ (y0.toNat:Int)=v)/\(2<=k->¬ (y1.toNat:Int)=v)) (fun _ i _=>2 - (intOf i).toNat)
 case atStart=>exact ⟨0,by omega,rfl,rfl,HB0.out,HX.out.1,HX.out.2,fun h=>by omega,fun h=>by omega⟩
 case round =>
  obtain ⟨k,hk,rfl,rfl,hb,hx,hz,h1,h2⟩:=hrel
  have HB:Hid (Below w.heap.size w wr):=hb
  clear hb
  rcases (by omega:k=0\/k=1\/k=2) with rfl|rfl|rfl
  ·clear h1 h2 hk
   by_cases e0:(y0.toNat:Int)=v
   ·have h9:((y0.toNat:Int)==v)=true:=beq_iff_eq.2 e0
    have HF:Hid (fst y0 y1 v=0):=if_pos e0
    clear e0
    go_wp2_with (go_at_call 82;refine (HG0.out _ HB.out).mono ?_;rintro e w3 ⟨rfl,hb3⟩;have HB3:Hid (Below w.heap.size w w3):=HB.out.trans (hb3.mono HB.out.size);clear hb3)
    rw [Exit.noGoto_ret]
    go_ret
    exact ⟨ret_int HF.out.symm,HB3.out⟩
   ·have h9:((y0.toNat:Int)==v)=false:=beq_eq_false_iff_ne.2 e0
    have HE:Hid (¬ (y0.toNat:Int)=v):=e0
    clear e0
    have HX1:Hid (∀ w3,Below wr.heap.size wr w3->w3.cell? ⟨w.heap.size,0,none⟩=some (fk 82 b0 b1 b2)/\w.heap.size < w3.heap.size):=fun w3 h3=>⟨by rw [h3.cell (p:=⟨w.heap.size,0,none⟩) hz];exact hx,Nat.lt_of_lt_of_le hz h3.size⟩
    go_wp2_with (go_at_call 82;refine (HG0.out _ HB.out).mono ?_;rintro e w3 ⟨rfl,hb3⟩;have HB3:Hid (Below w.heap.size w w3):=HB.out.trans (hb3.mono HB.out.size);have HX3:Hid _:=HX1.out _ hb3;clear hb3)
    go_roundw
    case rel=>exact ⟨1,by omega,rfl,rfl,HB3.out,HX3.out.1,HX3.out.2,fun _=>HE.out,fun h=>by omega⟩
    case measure=>simp [intOf]
  ·have HE0:Hid (¬ (y0.toNat:Int)=v):=h1 (by omega)
   clear h1 h2 hk
   by_cases e0:(y1.toNat:Int)=v
   ·have h9:((y1.toNat:Int)==v)=true:=beq_iff_eq.2 e0
    have HF:Hid (fst y0 y1 v=1):=(if_neg HE0.out).trans (if_pos e0)
    clear e0
    go_wp2_with (go_at_call 82;refine (HG1.out _ HB.out).mono ?_;rintro e w3 ⟨rfl,hb3⟩;have HB3:Hid (Below w.heap.size w w3):=HB.out.trans (hb3.mono HB.out.size);clear hb3)
    rw [Exit.noGoto_ret]
    go_ret
    exact ⟨ret_int HF.out.symm,HB3.out⟩
   ·have h9:((y1.toNat:Int)==v)=false:=beq_eq_false_iff_ne.2 e0
    have HE:Hid (¬ (y1.toNat:Int)=v):=e0
    clear e0
    have HX1:Hid (∀ w3,Below wr.heap.size wr w3->w3.cell? ⟨w.heap.size,0,none⟩=some (fk 82 b0 b1 b2)/\w.heap.size < w3.heap.size):=fun w3 h3=>⟨by rw [h3.cell (p:=⟨w.heap.size,0,none⟩) hz];exact hx,Nat.lt_of_lt_of_le hz h3.size⟩
    go_wp2_with (go_at_call 82;refine (HG1.out _ HB.out).mono ?_;rintro e w3 ⟨rfl,hb3⟩;have HB3:Hid (Below w.heap.size w w3):=HB.out.trans (hb3.mono HB.out.size);have HX3:Hid _:=HX1.out _ hb3;clear hb3)
    go_roundw
    case rel=>exact ⟨2,by omega,rfl,rfl,HB3.out,HX3.out.1,HX3.out.2,fun _=>HE0.out,fun _=>HE.out⟩
    case measure=>simp [intOf]
  ·have HF:Hid (fst y0 y1 v = -1):=(if_neg (h1 (by omega))).trans (if_neg (h2 (by omega)))
   clear h1 h2 hk hx hz
   go_wp2
   rw [Exit.noGoto_ret]
   go_ret
   exact ⟨ret_int HF.out.symm,HB.out⟩
theorem every_valF (x y:Bool):(fst x y 0 == -1)=(x&&y):=by cases x<;>cases y<;>rfl
theorem some_valF (x y:Bool):(fst x y 1 != -1)=(x||y):=by cases x<;>cases y<;>rfl
theorem everyF (b0 b1 b2:Nat) (H:Nat->Bool) (w:World) (hT:TellsF w b0 b1 b2 H) :
 Calls Try.prog 86 #[.agg #[fk 82 b0 b1 b2]] w fun e w'=>e=.returned (.int .i64 ((H 0&&H 1).toNat:Int))/\Below w.heap.size w w':=by
 have HB0:Hid (Below w.heap.size w (w.alloc (.cells #[fk 82 b0 b1 b2] 101))):=(Below.refl _ _).alloc (Nat.le_refl _) _
 have HV:Hid ((fst (H 0) (H 1) 0 == -1)=(H 0&&H 1)):=every_valF _ _
 have HFI:Hid (∀ W,Below w.heap.size w W->Calls Try.prog 61 #[.agg #[fk 82 b0 b1 b2],.int .i64 0] W fun e w'=>e=.returned (.int .i64 (fst (H 0) (H 1) 0))/\Below W.heap.size W w'):=fun W h=>firstF b0 b1 b2 H 0 W (hT.below h)
 clear hT
 generalize fst (H 0) (H 1) 0=r at *
 generalize (H 0&&H 1)=z at *
 go_enter Try.func86,Try.ntmps86
 go_wp2_with fail
 refine (HFI.out _ HB0.out).mono ?_
 rintro e w1 ⟨rfl,hb⟩
 have HB1:Hid (Below w.heap.size w w1):=HB0.out.trans (hb.mono HB0.out.size)
 clear hb
 have h9:(r == -1)=z:=HV.out
 go_wp2_with (go_at_call 67;refine (iOne1 _ _).mono ?_;rintro e w' ⟨rfl,rfl⟩)
 go_ret
 exact ⟨rfl,HB1.out⟩
theorem someF (b0 b1 b2:Nat) (H:Nat->Bool) (w:World) (hT:TellsF w b0 b1 b2 H) :
 Calls Try.prog 87 #[.agg #[fk 82 b0 b1 b2]] w fun e w'=>e=.returned (.int .i64 ((H 0||H 1).toNat:Int))/\Below w.heap.size w w':=by
 have HB0:Hid (Below w.heap.size w (w.alloc (.cells #[fk 82 b0 b1 b2] 101))):=(Below.refl _ _).alloc (Nat.le_refl _) _
 have HV:Hid ((fst (H 0) (H 1) 1 != -1)=(H 0||H 1)):=some_valF _ _
 have HFI:Hid (∀ W,Below w.heap.size w W->Calls Try.prog 61 #[.agg #[fk 82 b0 b1 b2],.int .i64 1] W fun e w'=>e=.returned (.int .i64 (fst (H 0) (H 1) 1))/\Below W.heap.size W w'):=fun W h=>firstF b0 b1 b2 H 1 W (hT.below h)
 clear hT
 generalize fst (H 0) (H 1) 1=r at *
 generalize (H 0||H 1)=z at *
 go_enter Try.func87,Try.ntmps87
 go_wp2_with fail
 refine (HFI.out _ HB0.out).mono ?_
 rintro e w1 ⟨rfl,hb⟩
 have HB1:Hid (Below w.heap.size w w1):=HB0.out.trans (hb.mono HB0.out.size)
 clear hb
 have h9:(r != -1)=z:=HV.out
 go_wp2_with (go_at_call 67;refine (iOne1 _ _).mono ?_;rintro e w' ⟨rfl,rfl⟩)
 go_ret
 exact ⟨rfl,HB1.out⟩
/-- The number of a flag's method. -/
def meth:Bool->Nat
 | true=>86
 | false=>87
theorem flagF (b0 b1 b2:Nat) (q:Bool) (w:World) :
 Calls Try.prog 77 #[.agg #[fk 82 b0 b1 b2],.bool q] w fun e w'=>e=.returned (.func (.func (meth q)) #[.agg #[fk 82 b0 b1 b2]] #[])/\Below w.heap.size w w':=by
 have HB0:Hid (Below w.heap.size w (w.alloc (.cells #[fk 82 b0 b1 b2] 101))):=(Below.refl _ _).alloc (Nat.le_refl _) _
 cases q
 all_goals
  go_enter Try.func77,Try.ntmps77
  go_wp2
  go_ret
  exact ⟨rfl,HB0.out⟩
end Dp1
end Go.Proofs.Ytfhdbcfhhbdiiaa
