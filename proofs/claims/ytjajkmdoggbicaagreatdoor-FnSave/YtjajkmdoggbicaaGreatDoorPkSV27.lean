import Derived.Laws.EntriesVeiled
import Derived.Deep.RegionHeld3
import Derived.Deep.CutBlock
import Derived.WalkMore
import Derived.Test.YtjajkmdoggbicaaGreatDoorPkSV8
import Derived.Test.YtjajkmdoggbicaaGreatDoorPkSV11
import Derived.Test.YtjajkmdoggbicaaGreatDoorPkSV0
import Derived.Test.YtjajkmdoggbicaaGreatDoorPkSV26
import Derived.Test.YtjajkmdoggbicaaGreatDoorPkSV5
namespace Go.Proofs.YtjajkmdoggbicaaGreatDoor
set_option maxRecDepth 100000
set_option maxHeartbeats 8000000
set_option linter.unusedVariables false
namespace Dp1
open Go.RowKit
open Ta1 Tc4 Tc5 Dv0
open Nd0 (Kept set_other set_same lt_of_cell)
open Nd6 (Bools)
open Tc2 (ret_int)
/-- A ruled table's value. -/
abbrev rv (ra:Option Addr) (c n m g:Nat):Value:=.agg #[.slice ra n c,.int .i64 (n:Int),.slice (some ⟨g,0,none⟩) m m]
/-- A ruled table lies in block b. -/
structure Rb (W:World) (b:Nat) (ra:Option Addr) (c n m g:Nat):Prop where
 c0:W.cell? ⟨b,0,none⟩=some (.slice ra n c)
 c1:W.cell? ⟨b,1,none⟩=some (.int .i64 (n:Int))
 c2:W.cell? ⟨b,2,none⟩=some (.slice (some ⟨g,0,none⟩) m m)
theorem Rb.lt {W:World} {b:Nat} {ra:Option Addr} {c n m g:Nat} (h:Rb W b ra c n m g):b < W.heap.size:=World.block_lt_of_cell? _ _ h.c0
theorem Rb.kept {W W':World} {b:Nat} {ra:Option Addr} {c n m g:Nat} (h:Rb W b ra c n m g) {S:Nat->Prop} (k:Kept S W W') (hs:¬ S b):Rb W' b ra c n m g :=
 ⟨by rw [k.cell (p:=⟨b,0,none⟩) h.lt hs];exact h.c0,by rw [k.cell (p:=⟨b,1,none⟩) h.lt hs];exact h.c1,by rw [k.cell (p:=⟨b,2,none⟩) h.lt hs];exact h.c2⟩
theorem Rb.below {W W':World} {b:Nat} {ra:Option Addr} {c n m g:Nat} (h:Rb W b ra c n m g) (k:Below W.heap.size W W'):Rb W' b ra c n m g :=
 h.kept (S:=fun _=>False) (Kept.ofBelow k) (fun h=>h)
theorem Rb.alloc {W:World} {b:Nat} {ra:Option Addr} {c n m g:Nat} (h:Rb W b ra c n m g) (o:Obj):Rb (W.alloc o) b ra c n m g:=h.kept (S:=fun _=>False) ((Kept.refl _ _).alloc _) (fun h=>h)
theorem Rb.made (W:World) (ra:Option Addr) (c n m g T:Nat):Rb (W.alloc (.cells #[.slice ra n c,.int .i64 (n:Int),.slice (some ⟨g,0,none⟩) m m] T)) W.heap.size ra c n m g:=⟨by simp,by simp,by simp⟩
/-- A number lies in block b. -/
def Nb (W:World) (b:Nat) (x:Int):Prop:=W.cell? ⟨b,0,none⟩=some (.int .i64 x)
theorem Nb.below {W W':World} {b:Nat} {x:Int} (h:Nb W b x) (k:Below W.heap.size W W'):Nb W' b x:=by
 unfold Nb
 rw [k.cell (p:=⟨b,0,none⟩) (World.block_lt_of_cell? _ _ h)];exact h
theorem Nb.made (W:World) (x:Int) (T:Nat):Nb (W.alloc (.cells #[.int .i64 x] T)) W.heap.size x:=by unfold Nb;simp
theorem Nb.alloc {W:World} {b:Nat} {x:Int} (h:Nb W b x) (o:Obj):Nb (W.alloc o) b x:=h.below ((Below.refl _ _).alloc (Nat.le_refl _) _)
/-- The half of a fork: a function over what it holds. -/
abbrev fk (f b0 b1 b2:Nat):Value:=.func (.func f) #[] #[.pointer (some ⟨b0,0,none⟩),.pointer (some ⟨b1,0,none⟩),.pointer (some ⟨b2,0,none⟩)]
theorem iFork (ra:Option Addr) (c n m g:Nat) (k p:Int) (w:World) :
 Calls Tryz.prog 85 #[rv ra c n m g,.int .i64 k,.int .i64 p] w fun e w'=>∃ b,e=.returned (.agg #[fk 121 b (b+1) (b+1+1)])/\w.heap.size<=b/\Rb w' b ra c n m g/\Nb w' (b+1) k/\Nb w' (b+1+1) p/\Below w.heap.size w w':=by
 go_enter Tryz.func85,Tryz.ntmps85
 go_wp2
 refine bodyPost_ret (v:=.agg #[fk 121 w.heap.size (w.heap.size+1) (w.heap.size+1+1)]) (by simp [results,Tryz.results85,go_sem]) rfl ⟨w.heap.size,rfl,Nat.le_refl _,?_,?_,?_,?_⟩
 ·exact (((Rb.made w ra c n m g _).alloc _).alloc _).alloc _
 ·have h:=((Nb.made (w.alloc (.cells #[.slice ra n c,.int .i64 (n:Int),.slice (some ⟨g,0,none⟩) m m] 82)) k 3).alloc (.cells #[.int .i64 p] 3)).alloc (.cells #[fk 121 w.heap.size (w.heap.size+1) (w.heap.size+1+1)] 125)
  have e:(w.alloc (.cells #[.slice ra n c,.int .i64 (n:Int),.slice (some ⟨g,0,none⟩) m m] 82)).heap.size=w.heap.size+1:=by simp
  rw [e] at h
  exact h
 ·have h:=(Nb.made ((w.alloc (.cells #[.slice ra n c,.int .i64 (n:Int),.slice (some ⟨g,0,none⟩) m m] 82)).alloc (.cells #[.int .i64 k] 3)) p 3).alloc (.cells #[fk 121 w.heap.size (w.heap.size+1) (w.heap.size+1+1)] 125)
  have e:((w.alloc (.cells #[.slice ra n c,.int .i64 (n:Int),.slice (some ⟨g,0,none⟩) m m] 82)).alloc (.cells #[.int .i64 k] 3)).heap.size=w.heap.size+1+1:=by simp
  rw [e] at h
  exact h
 ·repeat (first|exact Below.refl _ _|refine Below.setCell ?_ (by simp<;>omega) _|refine Below.alloc ?_ (by simp<;>omega) _)
theorem iOne1 (b:Bool) (w:World) :
 Calls Tryz.prog 125 #[.bool b] w fun e w'=>e=.returned (.int .i64 (b.toNat:Int))/\w'=w:=by
 cases b
 all_goals
  go_enter Tryz.func125,Tryz.ntmps125
  go_wp2
  go_ret
  exact ⟨rfl,rfl⟩
/-- What is asked of a fork's half: at b it tells H b, in every world that comes of w. -/
def TellsF (w:World) (b0 b1 b2:Nat) (H:Nat->Bool):Prop:=∀ (W:World) (b:Nat),b<=1->Below w.heap.size w W->Calls Tryz.prog 121 #[.int .i64 (b:Int),.pointer (some ⟨b0,0,none⟩),.pointer (some ⟨b1,0,none⟩),.pointer (some ⟨b2,0,none⟩)] W fun e w'=>e=.returned (.int .i64 ((H b).toNat:Int))/\Below W.heap.size W w'
theorem TellsF.below {w w1:World} {b0 b1 b2:Nat} {H:Nat->Bool} (h:TellsF w b0 b1 b2 H) (k:Below w.heap.size w w1):TellsF w1 b0 b1 b2 H:=fun W b hb hW=>h W b hb (k.trans (hW.mono k.size))
theorem firstF (b0 b1 b2:Nat) (H:Nat->Bool) (v:Int) (w:World) (hT:TellsF w b0 b1 b2 H) :
 Calls Tryz.prog 162 #[.agg #[fk 121 b0 b1 b2],.int .i64 v] w fun e w'=>e=.returned (.int .i64 (fst (H 0) (H 1) v))/\Below w.heap.size w w':=by
 have HT:Hid (TellsF w b0 b1 b2 H):=hT
 clear hT
 have HB0:Hid (Below w.heap.size w (w.alloc (.cells #[fk 121 b0 b1 b2] 125))):=(Below.refl _ _).alloc (Nat.le_refl _) _
 have x0:(w.alloc (.cells #[fk 121 b0 b1 b2] 125)).cell? ⟨w.heap.size,0,none⟩=some (fk 121 b0 b1 b2):=by simp
 have HX:Hid ((w.alloc (.cells #[fk 121 b0 b1 b2] 125)).cell? ⟨w.heap.size,0,none⟩=some (fk 121 b0 b1 b2)/\w.heap.size < (w.alloc (.cells #[fk 121 b0 b1 b2] 125)).heap.size):=⟨by simp,by simp⟩
 clear x0
 generalize hW:w.alloc (.cells #[fk 121 b0 b1 b2] 125)=W0 at *
 have HW:Hid (w.alloc (.cells #[fk 121 b0 b1 b2] 125)=W0):=hW
 clear hW
 have HG0:Hid (∀ (W:World),Below w.heap.size w W->Calls Tryz.prog 121 #[.int .i64 0,.pointer (some ⟨b0,0,none⟩),.pointer (some ⟨b1,0,none⟩),.pointer (some ⟨b2,0,none⟩)] W fun e w'=>e=.returned (.int .i64 ((H 0).toNat:Int))/\Below W.heap.size W w'):=fun W h=>HT.out W 0 (by omega) h
 have HG1:Hid (∀ (W:World),Below w.heap.size w W->Calls Tryz.prog 121 #[.int .i64 1,.pointer (some ⟨b0,0,none⟩),.pointer (some ⟨b1,0,none⟩),.pointer (some ⟨b2,0,none⟩)] W fun e w'=>e=.returned (.int .i64 ((H 1).toNat:Int))/\Below W.heap.size W w'):=fun W h=>HT.out W 1 (by omega) h
 generalize H 0=y0 at *
 generalize H 1=y1 at *
 clear HT
 go_enter Tryz.func162,Tryz.ntmps162
 go_upto_region 2 with fail
 rw [HW.out]
 go_step3
 go_wp2_with fail
 go_step3
 go_wp2_with fail
 go_loopw [5,7] (fun r i wr=>∃ k:Nat,k<=2/\i=.int .i64 k/\r=.int .i64 (-1)/\Below w.heap.size w wr/\wr.cell? ⟨w.heap.size,0,none⟩=some (fk 121 b0 b1 b2)/\w.heap.size < wr.heap.size/\(1<=k->¬ (y0.toNat:Int)=v)/\(2<=k->¬ (y1.toNat:Int)=v)) (fun _ i _=>2 - (intOf i).toNat)
 case atStart=>exact ⟨0,by omega,rfl,rfl,HB0.out,HX.out.1,HX.out.2,fun h=>by omega,fun h=>by omega⟩
 case round =>
  obtain ⟨k,hk,rfl,rfl,hb,hx,hz,h1,h2⟩:=hrel
  have HB:Hid (Below w.heap.size w wr):=hb
  clear hb
  rcases (by omega:k=0\/k=1\/k=2) with rfl|rfl|rfl
  ·clear h1 h2 hk
   by_cases e0:(y0.toNat:Int)=v
   ·have h9:((y0.toNat:Int)==v)=true:=beq_iff_eq.2 e0
    have HF:Hid (fst y0 y1 v=0):=if_pos e0
    clear e0
    go_wp2_with (go_at_call 121;refine (HG0.out _ HB.out).mono ?_;rintro e w3 ⟨rfl,hb3⟩;have HB3:Hid (Below w.heap.size w w3):=HB.out.trans (hb3.mono HB.out.size);clear hb3)
    rw [Exit.noGoto_ret]
    go_ret
    exact ⟨ret_int HF.out.symm,HB3.out⟩
   ·have h9:((y0.toNat:Int)==v)=false:=beq_eq_false_iff_ne.2 e0
    have HE:Hid (¬ (y0.toNat:Int)=v):=e0
    clear e0
    have HX1:Hid (∀ w3,Below wr.heap.size wr w3->w3.cell? ⟨w.heap.size,0,none⟩=some (fk 121 b0 b1 b2)/\w.heap.size < w3.heap.size):=fun w3 h3=>⟨by rw [h3.cell (p:=⟨w.heap.size,0,none⟩) hz];exact hx,Nat.lt_of_lt_of_le hz h3.size⟩
    go_wp2_with (go_at_call 121;refine (HG0.out _ HB.out).mono ?_;rintro e w3 ⟨rfl,hb3⟩;have HB3:Hid (Below w.heap.size w w3):=HB.out.trans (hb3.mono HB.out.size);have HX3:Hid _:=HX1.out _ hb3;clear hb3)
    go_roundw
    case rel=>exact ⟨1,by omega,rfl,rfl,HB3.out,HX3.out.1,HX3.out.2,fun _=>HE.out,fun h=>by omega⟩
    case measure=>simp [intOf]
  ·have HE0:Hid (¬ (y0.toNat:Int)=v):=h1 (by omega)
   clear h1 h2 hk
   by_cases e0:(y1.toNat:Int)=v
   ·have h9:((y1.toNat:Int)==v)=true:=beq_iff_eq.2 e0
    have HF:Hid (fst y0 y1 v=1):=(if_neg HE0.out).trans (if_pos e0)
    clear e0
    go_wp2_with (go_at_call 121;refine (HG1.out _ HB.out).mono ?_;rintro e w3 ⟨rfl,hb3⟩;have HB3:Hid (Below w.heap.size w w3):=HB.out.trans (hb3.mono HB.out.size);clear hb3)
    rw [Exit.noGoto_ret]
    go_ret
    exact ⟨ret_int HF.out.symm,HB3.out⟩
   ·have h9:((y1.toNat:Int)==v)=false:=beq_eq_false_iff_ne.2 e0
    have HE:Hid (¬ (y1.toNat:Int)=v):=e0
    clear e0
    have HX1:Hid (∀ w3,Below wr.heap.size wr w3->w3.cell? ⟨w.heap.size,0,none⟩=some (fk 121 b0 b1 b2)/\w.heap.size < w3.heap.size):=fun w3 h3=>⟨by rw [h3.cell (p:=⟨w.heap.size,0,none⟩) hz];exact hx,Nat.lt_of_lt_of_le hz h3.size⟩
    go_wp2_with (go_at_call 121;refine (HG1.out _ HB.out).mono ?_;rintro e w3 ⟨rfl,hb3⟩;have HB3:Hid (Below w.heap.size w w3):=HB.out.trans (hb3.mono HB.out.size);have HX3:Hid _:=HX1.out _ hb3;clear hb3)
    go_roundw
    case rel=>exact ⟨2,by omega,rfl,rfl,HB3.out,HX3.out.1,HX3.out.2,fun _=>HE0.out,fun _=>HE.out⟩
    case measure=>simp [intOf]
  ·have HF:Hid (fst y0 y1 v = -1):=(if_neg (h1 (by omega))).trans (if_neg (h2 (by omega)))
   clear h1 h2 hk hx hz
   go_wp2
   rw [Exit.noGoto_ret]
   go_ret
   exact ⟨ret_int HF.out.symm,HB.out⟩
theorem every_valF (x y:Bool):(fst x y 0 == -1)=(x&&y):=by cases x<;>cases y<;>rfl
theorem some_valF (x y:Bool):(fst x y 1 != -1)=(x||y):=by cases x<;>cases y<;>rfl
theorem everyF (b0 b1 b2:Nat) (H:Nat->Bool) (w:World) (hT:TellsF w b0 b1 b2 H) :
 Calls Tryz.prog 122 #[.agg #[fk 121 b0 b1 b2]] w fun e w'=>e=.returned (.int .i64 ((H 0&&H 1).toNat:Int))/\Below w.heap.size w w':=by
 have HB0:Hid (Below w.heap.size w (w.alloc (.cells #[fk 121 b0 b1 b2] 125))):=(Below.refl _ _).alloc (Nat.le_refl _) _
 have HV:Hid ((fst (H 0) (H 1) 0 == -1)=(H 0&&H 1)):=every_valF _ _
 have HFI:Hid (∀ W,Below w.heap.size w W->Calls Tryz.prog 162 #[.agg #[fk 121 b0 b1 b2],.int .i64 0] W fun e w'=>e=.returned (.int .i64 (fst (H 0) (H 1) 0))/\Below W.heap.size W w'):=fun W h=>firstF b0 b1 b2 H 0 W (hT.below h)
 clear hT
 generalize fst (H 0) (H 1) 0=r at *
 generalize (H 0&&H 1)=z at *
 go_enter Tryz.func122,Tryz.ntmps122
 go_wp2_with fail
 refine (HFI.out _ HB0.out).mono ?_
 rintro e w1 ⟨rfl,hb⟩
 have HB1:Hid (Below w.heap.size w w1):=HB0.out.trans (hb.mono HB0.out.size)
 clear hb
 have h9:(r == -1)=z:=HV.out
 go_wp2_with (go_at_call 125;refine (iOne1 _ _).mono ?_;rintro e w' ⟨rfl,rfl⟩)
 go_ret
 exact ⟨rfl,HB1.out⟩
theorem someF (b0 b1 b2:Nat) (H:Nat->Bool) (w:World) (hT:TellsF w b0 b1 b2 H) :
 Calls Tryz.prog 123 #[.agg #[fk 121 b0 b1 b2]] w fun e w'=>e=.returned (.int .i64 ((H 0||H 1).toNat:Int))/\Below w.heap.size w w':=by
 have HB0:Hid (Below w.heap.size w (w.alloc (.cells #[fk 121 b0 b1 b2] 125))):=(Below.refl _ _).alloc (Nat.le_refl _) _
 have HV:Hid ((fst (H 0) (H 1) 1 != -1)=(H 0||H 1)):=some_valF _ _
 have HFI:Hid (∀ W,Below w.heap.size w W->Calls Tryz.prog 162 #[.agg #[fk 121 b0 b1 b2],.int .i64 1] W fun e w'=>e=.returned (.int .i64 (fst (H 0) (H 1) 1))/\Below W.heap.size W w'):=fun W h=>firstF b0 b1 b2 H 1 W (hT.below h)
 clear hT
 generalize fst (H 0) (H 1) 1=r at *
 generalize (H 0||H 1)=z at *
 go_enter Tryz.func123,Tryz.ntmps123
 go_wp2_with fail
 refine (HFI.out _ HB0.out).mono ?_
 rintro e w1 ⟨rfl,hb⟩
 have HB1:Hid (Below w.heap.size w w1):=HB0.out.trans (hb.mono HB0.out.size)
 clear hb
 have h9:(r != -1)=z:=HV.out
 go_wp2_with (go_at_call 125;refine (iOne1 _ _).mono ?_;rintro e w' ⟨rfl,rfl⟩)
 go_ret
 exact ⟨rfl,HB1.out⟩
/-- The number of a flag's method. -/
def meth:Bool->Nat
 | true=>122
 | false=>123
theorem flagF (b0 b1 b2:Nat) (q:Bool) (w:World) :
 Calls Tryz.prog 86 #[.agg #[fk 121 b0 b1 b2],.bool q] w fun e w'=>e=.returned (.func (.func (meth q)) #[.agg #[fk 121 b0 b1 b2]] #[])/\Below w.heap.size w w':=by
 have HB0:Hid (Below w.heap.size w (w.alloc (.cells #[fk 121 b0 b1 b2] 125))):=(Below.refl _ _).alloc (Nat.le_refl _) _
 cases q
 all_goals
  go_enter Tryz.func86,Tryz.ntmps86
  go_wp2
  go_ret
  exact ⟨rfl,HB0.out⟩
end Dp1
namespace Zs2
open Go.RowKit
open Nd0 (Kept Ints lt_of_cell)
open Nd6 (Bools)
open Ta1 (tab tokB tok_tab)
open Ta2 (bitB)
open Tc2 (tv)
open Ss0 (bs bs_size ret_str)
open Ss1 (tl tl_bs bs_tl)
open Tk0 (TabK keyL iKey)
open Mm0 (Mc Mb Mr Mok mval)
open Wp1 (vt iValsText)
open Za0 (rowT iRowText)
open Zs0 Zs1 Zt0
theorem bit_of {x:Int} (h:0<=x/\x<=1):bitB x=true:=by
 unfold bitB
 have:x=0\/x=1:=by omega
 rcases this with rfl|rfl<;>rfl
theorem lit_ints (W:World) (l:List Int) (hl:l.length<=100) (T:Nat):Ints (W.alloc (.cells (l.map fun x=>Value.int .i64 x).toArray T)) (some ⟨W.heap.size,0,none⟩) l:=by
 refine ⟨by unfold maxLen;omega,.inr ⟨W.heap.size,0,rfl,fun i hi=>?_⟩⟩
 rw [Nat.zero_add,World.cell?_alloc_new]
 simp [hi]
theorem c0 (m:Mc) (ra va ma:Option Addr) (rc vc mc:Nat) (w:World) (hR:Mr w m ra va ma) (hO:Mok m) (hK:∀ x∈m.memo,x.k.size<=1048576) (hT:TabZ w) :
 Calls Tryz.prog 127 #[mval m ra va ma rc vc mc] w fun e w'=>e=.returned (.string (bs (bod m 0)))/\Below w.heap.size w w':=by
 obtain ⟨X0,hX0⟩:∃ X,X=w.alloc (.cells #[.slice ra m.row.length rc,.int .i64 m.N,.string m.S,.int .i64 m.room,.slice va m.vals.length vc,.int .i64 m.ret,.bool m.over,.int .i64 m.steps,.int .i64 m.looks,.int .i64 m.hits,.slice ma m.memo.length mc] 30):=⟨_,rfl⟩
 have b0:Below w.heap.size w X0:=by rw [hX0];exact (Below.refl _ _).alloc (Nat.le_refl _) _
 have HB:Hid (Below w.heap.size w X0):=b0
 have HM:Hid (Mb X0 w.heap.size m ra va ma rc vc mc):=by rw [hX0];exact Mb.made _ _ _ _ _ _ _ _ _
 have hE:w.alloc (.cells #[.slice ra m.row.length rc,.int .i64 m.N,.string m.S,.int .i64 m.room,.slice va m.vals.length vc,.int .i64 m.ret,.bool m.over,.int .i64 m.steps,.int .i64 m.looks,.int .i64 m.hits,.slice ma m.memo.length mc] 30)=X0:=hX0.symm
 have HT:Hid (TabZ X0):=hT.below b0
 have HR:Hid (Mr X0 m ra va ma):=hR.below b0
 have HO:Hid (Mok m):=hO
 clear hX0 b0 hT hR hO
 have hln:m.row.length<=1048576:=by
  obtain ⟨n,F,hn,hN,_⟩:=tok_tab HO.out.tab
  have:=HO.out.row
  omega
 go_enter Tryz.func127,Tryz.ntmps127
 go_upto_region 1 with fail
 clear hE
 obtain ⟨m0,m1,m2,m3,m4,m5,m6,m7,m8,m9,m10⟩:=HM.out
 have hm:=HM.out.lt
 go_wp2_with fail
 clear m0 m1 m2 m3 m4 m5 m6 m7 m8 m9 m10
 refine (iRowText _ ra m.row rc HR.out.row hln).mono ?_
 have HB1:=HB
 rintro e w2 ⟨rfl,hb2⟩
 have HB2:Hid (Below w.heap.size w w2):=HB1.out.trans (hb2.mono HB1.out.size)
 clear hb2
 go_wp2
 go_ret
 exact ⟨rfl,HB2.out⟩
theorem c1 (m:Mc) (ra va ma:Option Addr) (rc vc mc:Nat) (w:World) (hR:Mr w m ra va ma) (hO:Mok m) (hK:∀ x∈m.memo,x.k.size<=1048576) (hT:TabZ w) :
 Calls Tryz.prog 129 #[mval m ra va ma rc vc mc] w fun e w'=>e=.returned (.string (bs (bod m 1)))/\Below w.heap.size w w':=by
 obtain ⟨X0,hX0⟩:∃ X,X=w.alloc (.cells #[.slice ra m.row.length rc,.int .i64 m.N,.string m.S,.int .i64 m.room,.slice va m.vals.length vc,.int .i64 m.ret,.bool m.over,.int .i64 m.steps,.int .i64 m.looks,.int .i64 m.hits,.slice ma m.memo.length mc] 30):=⟨_,rfl⟩
 have b0:Below w.heap.size w X0:=by rw [hX0];exact (Below.refl _ _).alloc (Nat.le_refl _) _
 have HB:Hid (Below w.heap.size w X0):=b0
 have HM:Hid (Mb X0 w.heap.size m ra va ma rc vc mc):=by rw [hX0];exact Mb.made _ _ _ _ _ _ _ _ _
 have hE:w.alloc (.cells #[.slice ra m.row.length rc,.int .i64 m.N,.string m.S,.int .i64 m.room,.slice va m.vals.length vc,.int .i64 m.ret,.bool m.over,.int .i64 m.steps,.int .i64 m.looks,.int .i64 m.hits,.slice ma m.memo.length mc] 30)=X0:=hX0.symm
 have HT:Hid (TabZ X0):=hT.below b0
 have HR:Hid (Mr X0 m ra va ma):=hR.below b0
 have HO:Hid (Mok m):=hO
 clear hX0 b0 hT hR hO
 have HKY:Hid (∀ W,TabZ W->Calls Tryz.prog 46 #[tv m.N m.S] W fun e w'=>e=.returned (.string (bs (keyL m.N.toNat (tl m.S))))/\Below W.heap.size W w'):=fun W h=>by
  obtain ⟨n,F,hn,hN,hl⟩:=tok_tab HO.out.tab
  have hS:m.S=bs (tab n F):=by rw [<- bs_tl m.S,hl]
  rw [hN,hS,tl_bs,Int.toNat_natCast]
  exact iKey n F W hn h.pow
 go_enter Tryz.func129,Tryz.ntmps129
 go_upto_region 1 with fail
 clear hE
 obtain ⟨m0,m1,m2,m3,m4,m5,m6,m7,m8,m9,m10⟩:=HM.out
 have hm:=HM.out.lt
 go_wp2_with fail
 clear m0 m1 m2 m3 m4 m5 m6 m7 m8 m9 m10
 refine (HKY.out _ HT.out).mono ?_
 have HB1:=HB
 rintro e w2 ⟨rfl,hb2⟩
 have HB2:Hid (Below w.heap.size w w2):=HB1.out.trans (hb2.mono HB1.out.size)
 clear hb2
 go_wp2
 go_ret
 exact ⟨rfl,HB2.out⟩
theorem c2 (m:Mc) (ra va ma:Option Addr) (rc vc mc:Nat) (w:World) (hR:Mr w m ra va ma) (hO:Mok m) (hK:∀ x∈m.memo,x.k.size<=1048576) (hT:TabZ w) :
 Calls Tryz.prog 131 #[mval m ra va ma rc vc mc] w fun e w'=>e=.returned (.string (bs (bod m 2)))/\Below w.heap.size w w':=by
 obtain ⟨X0,hX0⟩:∃ X,X=w.alloc (.cells #[.slice ra m.row.length rc,.int .i64 m.N,.string m.S,.int .i64 m.room,.slice va m.vals.length vc,.int .i64 m.ret,.bool m.over,.int .i64 m.steps,.int .i64 m.looks,.int .i64 m.hits,.slice ma m.memo.length mc] 30):=⟨_,rfl⟩
 have b0:Below w.heap.size w X0:=by rw [hX0];exact (Below.refl _ _).alloc (Nat.le_refl _) _
 have HB:Hid (Below w.heap.size w X0):=b0
 have HM:Hid (Mb X0 w.heap.size m ra va ma rc vc mc):=by rw [hX0];exact Mb.made _ _ _ _ _ _ _ _ _
 have hE:w.alloc (.cells #[.slice ra m.row.length rc,.int .i64 m.N,.string m.S,.int .i64 m.room,.slice va m.vals.length vc,.int .i64 m.ret,.bool m.over,.int .i64 m.steps,.int .i64 m.looks,.int .i64 m.hits,.slice ma m.memo.length mc] 30)=X0:=hX0.symm
 have HT:Hid (TabZ X0):=hT.below b0
 have HR:Hid (Mr X0 m ra va ma):=hR.below b0
 have HO:Hid (Mok m):=hO
 clear hX0 b0 hT hR hO
 have HNU:Hid (Calls Tryz.prog 132 #[.slice (some ⟨X0.heap.size,0,none⟩) 1 1] (X0.alloc (.cells #[.int .i64 m.room] 3)) fun e w'=>e=.returned (.string (bs (bod m 2)))/\Below (X0.alloc (.cells #[.int .i64 m.room] 3)).heap.size (X0.alloc (.cells #[.int .i64 m.room] 3)) w'):=by
  have bb:Below X0.heap.size X0 (X0.alloc (.cells #[.int .i64 m.room] 3)):=(Below.refl _ _).alloc (Nat.le_refl _) _
  have h:=iNumbers (X0.alloc (.cells #[.int .i64 m.room] 3)) (some ⟨X0.heap.size,0,none⟩) [m.room] 1 (lit_ints X0 [m.room] (by simp) 3) (by simp) (by intro n hn;simp at hn;subst hn;have:=HO.out.room;omega) (HT.out.below bb).pow
  refine h.mono ?_
  rintro e w' ⟨rfl,hb⟩
  exact ⟨ret_str (congrArg bs (Lib.join_one _ _)),hb⟩
 go_enter Tryz.func131,Tryz.ntmps131
 go_upto_region 1 with fail
 clear hE
 obtain ⟨m0,m1,m2,m3,m4,m5,m6,m7,m8,m9,m10⟩:=HM.out
 have hm:=HM.out.lt
 go_wp2_with fail
 clear m0 m1 m2 m3 m4 m5 m6 m7 m8 m9 m10
 refine Calls.mono HNU.out ?_
 have HB1:Hid (Below w.heap.size w (X0.alloc (.cells #[.int .i64 m.room] 3))):=HB.out.alloc HB.out.size _
 rintro e w2 ⟨rfl,hb2⟩
 have HB2:Hid (Below w.heap.size w w2):=HB1.out.trans (hb2.mono HB1.out.size)
 clear hb2
 go_wp2
 go_ret
 exact ⟨rfl,HB2.out⟩
theorem c3 (m:Mc) (ra va ma:Option Addr) (rc vc mc:Nat) (w:World) (hR:Mr w m ra va ma) (hO:Mok m) (hK:∀ x∈m.memo,x.k.size<=1048576) (hT:TabZ w) :
 Calls Tryz.prog 134 #[mval m ra va ma rc vc mc] w fun e w'=>e=.returned (.string (bs (bod m 3)))/\Below w.heap.size w w':=by
 obtain ⟨X0,hX0⟩:∃ X,X=w.alloc (.cells #[.slice ra m.row.length rc,.int .i64 m.N,.string m.S,.int .i64 m.room,.slice va m.vals.length vc,.int .i64 m.ret,.bool m.over,.int .i64 m.steps,.int .i64 m.looks,.int .i64 m.hits,.slice ma m.memo.length mc] 30):=⟨_,rfl⟩
 have b0:Below w.heap.size w X0:=by rw [hX0];exact (Below.refl _ _).alloc (Nat.le_refl _) _
 have HB:Hid (Below w.heap.size w X0):=b0
 have HM:Hid (Mb X0 w.heap.size m ra va ma rc vc mc):=by rw [hX0];exact Mb.made _ _ _ _ _ _ _ _ _
 have hE:w.alloc (.cells #[.slice ra m.row.length rc,.int .i64 m.N,.string m.S,.int .i64 m.room,.slice va m.vals.length vc,.int .i64 m.ret,.bool m.over,.int .i64 m.steps,.int .i64 m.looks,.int .i64 m.hits,.slice ma m.memo.length mc] 30)=X0:=hX0.symm
 have HT:Hid (TabZ X0):=hT.below b0
 have HR:Hid (Mr X0 m ra va ma):=hR.below b0
 have HO:Hid (Mok m):=hO
 clear hX0 b0 hT hR hO
 have hln:m.vals.length<=12:=by
  obtain ⟨n,F,hn,hN,_⟩:=tok_tab HO.out.tab
  have:=HO.out.vals
  omega
 have HBI:Hid (∀ b∈m.vals,bitB b=true):=fun b hb=>bit_of (HO.out.bits b hb)
 go_enter Tryz.func134,Tryz.ntmps134
 go_upto_region 1 with fail
 clear hE
 obtain ⟨m0,m1,m2,m3,m4,m5,m6,m7,m8,m9,m10⟩:=HM.out
 have hm:=HM.out.lt
 go_wp2_with fail
 clear m0 m1 m2 m3 m4 m5 m6 m7 m8 m9 m10
 refine (iValsText _ va m.vals vc HR.out.vals hln HBI.out).mono ?_
 have HB1:=HB
 rintro e w2 ⟨rfl,hb2⟩
 have HB2:Hid (Below w.heap.size w w2):=HB1.out.trans (hb2.mono HB1.out.size)
 clear hb2
 go_wp2
 go_ret
 exact ⟨rfl,HB2.out⟩
theorem c4 (m:Mc) (ra va ma:Option Addr) (rc vc mc:Nat) (w:World) (hR:Mr w m ra va ma) (hO:Mok m) (hK:∀ x∈m.memo,x.k.size<=1048576) (hT:TabZ w) :
 Calls Tryz.prog 138 #[mval m ra va ma rc vc mc] w fun e w'=>e=.returned (.string (bs (bod m 4)))/\Below w.heap.size w w':=by
 obtain ⟨X0,hX0⟩:∃ X,X=w.alloc (.cells #[.slice ra m.row.length rc,.int .i64 m.N,.string m.S,.int .i64 m.room,.slice va m.vals.length vc,.int .i64 m.ret,.bool m.over,.int .i64 m.steps,.int .i64 m.looks,.int .i64 m.hits,.slice ma m.memo.length mc] 30):=⟨_,rfl⟩
 have b0:Below w.heap.size w X0:=by rw [hX0];exact (Below.refl _ _).alloc (Nat.le_refl _) _
 have HB:Hid (Below w.heap.size w X0):=b0
 have HM:Hid (Mb X0 w.heap.size m ra va ma rc vc mc):=by rw [hX0];exact Mb.made _ _ _ _ _ _ _ _ _
 have hE:w.alloc (.cells #[.slice ra m.row.length rc,.int .i64 m.N,.string m.S,.int .i64 m.room,.slice va m.vals.length vc,.int .i64 m.ret,.bool m.over,.int .i64 m.steps,.int .i64 m.looks,.int .i64 m.hits,.slice ma m.memo.length mc] 30)=X0:=hX0.symm
 have HT:Hid (TabZ X0):=hT.below b0
 have HR:Hid (Mr X0 m ra va ma):=hR.below b0
 have HO:Hid (Mok m):=hO
 clear hX0 b0 hT hR hO
 have HNU:Hid (Calls Tryz.prog 132 #[.slice (some ⟨X0.heap.size,0,none⟩) 1 1] (X0.alloc (.cells #[.int .i64 m.ret] 3)) fun e w'=>e=.returned (.string (bs (bod m 4)))/\Below (X0.alloc (.cells #[.int .i64 m.ret] 3)).heap.size (X0.alloc (.cells #[.int .i64 m.ret] 3)) w'):=by
  have bb:Below X0.heap.size X0 (X0.alloc (.cells #[.int .i64 m.ret] 3)):=(Below.refl _ _).alloc (Nat.le_refl _) _
  have h:=iNumbers (X0.alloc (.cells #[.int .i64 m.ret] 3)) (some ⟨X0.heap.size,0,none⟩) [m.ret] 1 (lit_ints X0 [m.ret] (by simp) 3) (by simp) (by intro n hn;simp at hn;subst hn;have:=HO.out.ret;omega) (HT.out.below bb).pow
  refine h.mono ?_
  rintro e w' ⟨rfl,hb⟩
  exact ⟨ret_str (congrArg bs (Lib.join_one _ _)),hb⟩
 go_enter Tryz.func138,Tryz.ntmps138
 go_upto_region 1 with fail
 clear hE
 obtain ⟨m0,m1,m2,m3,m4,m5,m6,m7,m8,m9,m10⟩:=HM.out
 have hm:=HM.out.lt
 go_wp2_with fail
 clear m0 m1 m2 m3 m4 m5 m6 m7 m8 m9 m10
 refine Calls.mono HNU.out ?_
 have HB1:Hid (Below w.heap.size w (X0.alloc (.cells #[.int .i64 m.ret] 3))):=HB.out.alloc HB.out.size _
 rintro e w2 ⟨rfl,hb2⟩
 have HB2:Hid (Below w.heap.size w w2):=HB1.out.trans (hb2.mono HB1.out.size)
 clear hb2
 go_wp2
 go_ret
 exact ⟨rfl,HB2.out⟩
theorem iOne (b:Bool) (w:World):Calls Tryz.prog 125 #[.bool b] w fun e w'=>e=.returned (.int .i64 (bI b))/\w'=w:=by
 cases b
 ·go_enter Tryz.func125,Tryz.ntmps125
  go_wp2
  go_ret
  exact ⟨rfl,rfl⟩
 ·go_enter Tryz.func125,Tryz.ntmps125
  go_wp2
  go_ret
  exact ⟨rfl,rfl⟩
theorem c5 (m:Mc) (ra va ma:Option Addr) (rc vc mc:Nat) (w:World) (hR:Mr w m ra va ma) (hO:Mok m) (hK:∀ x∈m.memo,x.k.size<=1048576) (hT:TabZ w) :
 Calls Tryz.prog 140 #[mval m ra va ma rc vc mc] w fun e w'=>e=.returned (.string (bs (bod m 5)))/\Below w.heap.size w w':=by
 obtain ⟨X0,hX0⟩:∃ X,X=w.alloc (.cells #[.slice ra m.row.length rc,.int .i64 m.N,.string m.S,.int .i64 m.room,.slice va m.vals.length vc,.int .i64 m.ret,.bool m.over,.int .i64 m.steps,.int .i64 m.looks,.int .i64 m.hits,.slice ma m.memo.length mc] 30):=⟨_,rfl⟩
 have b0:Below w.heap.size w X0:=by rw [hX0];exact (Below.refl _ _).alloc (Nat.le_refl _) _
 have HB:Hid (Below w.heap.size w X0):=b0
 have HM:Hid (Mb X0 w.heap.size m ra va ma rc vc mc):=by rw [hX0];exact Mb.made _ _ _ _ _ _ _ _ _
 have hE:w.alloc (.cells #[.slice ra m.row.length rc,.int .i64 m.N,.string m.S,.int .i64 m.room,.slice va m.vals.length vc,.int .i64 m.ret,.bool m.over,.int .i64 m.steps,.int .i64 m.looks,.int .i64 m.hits,.slice ma m.memo.length mc] 30)=X0:=hX0.symm
 have HT:Hid (TabZ X0):=hT.below b0
 have HR:Hid (Mr X0 m ra va ma):=hR.below b0
 have HO:Hid (Mok m):=hO
 clear hX0 b0 hT hR hO
 have HNU:Hid (Calls Tryz.prog 132 #[.slice (some ⟨X0.heap.size,0,none⟩) 1 1] (X0.alloc (.cells #[.int .i64 (bI m.over)] 3)) fun e w'=>e=.returned (.string (bs (bod m 5)))/\Below (X0.alloc (.cells #[.int .i64 (bI m.over)] 3)).heap.size (X0.alloc (.cells #[.int .i64 (bI m.over)] 3)) w'):=by
  have bb:Below X0.heap.size X0 (X0.alloc (.cells #[.int .i64 (bI m.over)] 3)):=(Below.refl _ _).alloc (Nat.le_refl _) _
  have h:=iNumbers (X0.alloc (.cells #[.int .i64 (bI m.over)] 3)) (some ⟨X0.heap.size,0,none⟩) [(bI m.over)] 1 (lit_ints X0 [(bI m.over)] (by simp) 3) (by simp) (by intro n hn;simp at hn;subst hn;rcases bI_two m.over with e|e<;>omega) (HT.out.below bb).pow
  refine h.mono ?_
  rintro e w' ⟨rfl,hb⟩
  exact ⟨ret_str (congrArg bs (Lib.join_one _ _)),hb⟩
 go_enter Tryz.func140,Tryz.ntmps140
 go_upto_region 1 with fail
 clear hE
 obtain ⟨m0,m1,m2,m3,m4,m5,m6,m7,m8,m9,m10⟩:=HM.out
 have hm:=HM.out.lt
 go_wp2_with fail
 have HIO:Hid (∀ W,Calls Tryz.prog 125 #[.bool m.over] W fun e w'=>e=.returned (.int .i64 (bI m.over))/\w'=W):=fun W=>iOne m.over W
 refine (HIO.out _).mono ?_
 rintro e w5 ⟨rfl,hw5⟩
 have hw5':=hw5.symm
 clear hw5
 subst hw5'
 go_wp2_with fail
 clear m0 m1 m2 m3 m4 m5 m6 m7 m8 m9 m10
 refine Calls.mono HNU.out ?_
 have HB1:Hid (Below w.heap.size w (X0.alloc (.cells #[.int .i64 (bI m.over)] 3))):=HB.out.alloc HB.out.size _
 rintro e w2 ⟨rfl,hb2⟩
 have HB2:Hid (Below w.heap.size w w2):=HB1.out.trans (hb2.mono HB1.out.size)
 clear hb2
 go_wp2
 go_ret
 exact ⟨rfl,HB2.out⟩
theorem c6 (m:Mc) (ra va ma:Option Addr) (rc vc mc:Nat) (w:World) (hR:Mr w m ra va ma) (hO:Mok m) (hK:∀ x∈m.memo,x.k.size<=1048576) (hT:TabZ w) :
 Calls Tryz.prog 142 #[mval m ra va ma rc vc mc] w fun e w'=>e=.returned (.string (bs (bod m 6)))/\Below w.heap.size w w':=by
 obtain ⟨X0,hX0⟩:∃ X,X=w.alloc (.cells #[.slice ra m.row.length rc,.int .i64 m.N,.string m.S,.int .i64 m.room,.slice va m.vals.length vc,.int .i64 m.ret,.bool m.over,.int .i64 m.steps,.int .i64 m.looks,.int .i64 m.hits,.slice ma m.memo.length mc] 30):=⟨_,rfl⟩
 have b0:Below w.heap.size w X0:=by rw [hX0];exact (Below.refl _ _).alloc (Nat.le_refl _) _
 have HB:Hid (Below w.heap.size w X0):=b0
 have HM:Hid (Mb X0 w.heap.size m ra va ma rc vc mc):=by rw [hX0];exact Mb.made _ _ _ _ _ _ _ _ _
 have hE:w.alloc (.cells #[.slice ra m.row.length rc,.int .i64 m.N,.string m.S,.int .i64 m.room,.slice va m.vals.length vc,.int .i64 m.ret,.bool m.over,.int .i64 m.steps,.int .i64 m.looks,.int .i64 m.hits,.slice ma m.memo.length mc] 30)=X0:=hX0.symm
 have HT:Hid (TabZ X0):=hT.below b0
 have HR:Hid (Mr X0 m ra va ma):=hR.below b0
 have HO:Hid (Mok m):=hO
 clear hX0 b0 hT hR hO
 have HNU:Hid (Calls Tryz.prog 132 #[.slice (some ⟨X0.heap.size,0,none⟩) 3 3] (X0.alloc (.cells #[.int .i64 m.steps,.int .i64 m.looks,.int .i64 m.hits] 3)) fun e w'=>e=.returned (.string (bs (bod m 6)))/\Below (X0.alloc (.cells #[.int .i64 m.steps,.int .i64 m.looks,.int .i64 m.hits] 3)).heap.size (X0.alloc (.cells #[.int .i64 m.steps,.int .i64 m.looks,.int .i64 m.hits] 3)) w'):=by
  have bb:Below X0.heap.size X0 (X0.alloc (.cells #[.int .i64 m.steps,.int .i64 m.looks,.int .i64 m.hits] 3)):=(Below.refl _ _).alloc (Nat.le_refl _) _
  have h:=iNumbers (X0.alloc (.cells #[.int .i64 m.steps,.int .i64 m.looks,.int .i64 m.hits] 3)) (some ⟨X0.heap.size,0,none⟩) [m.steps,m.looks,m.hits] 3 (lit_ints X0 [m.steps,m.looks,m.hits] (by simp) 3) (by simp) (by intro n hn;simp at hn;have h1:=HO.out.steps;have h2:=HO.out.looks;have h3:=HO.out.hits;rcases hn with rfl|rfl|rfl<;>omega) (HT.out.below bb).pow
  refine h.mono ?_
  rintro e w' ⟨rfl,hb⟩
  exact ⟨ret_str (congrArg bs (by simp [bod,Lib.join_cons,Lib.joinTail])),hb⟩
 go_enter Tryz.func142,Tryz.ntmps142
 go_upto_region 1 with fail
 clear hE
 obtain ⟨m0,m1,m2,m3,m4,m5,m6,m7,m8,m9,m10⟩:=HM.out
 have hm:=HM.out.lt
 go_wp2_with fail
 clear m0 m1 m2 m3 m4 m5 m6 m7 m8 m9 m10
 refine Calls.mono HNU.out ?_
 have HB1:Hid (Below w.heap.size w (X0.alloc (.cells #[.int .i64 m.steps,.int .i64 m.looks,.int .i64 m.hits] 3))):=HB.out.alloc HB.out.size _
 rintro e w2 ⟨rfl,hb2⟩
 have HB2:Hid (Below w.heap.size w w2):=HB1.out.trans (hb2.mono HB1.out.size)
 clear hb2
 go_wp2
 go_ret
 exact ⟨rfl,HB2.out⟩
end Zs2
end Go.Proofs.YtjajkmdoggbicaaGreatDoor
