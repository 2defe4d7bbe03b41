import Derived.Test.YtjajkmdoggbicaaGreatDoorDp1
import Derived.Test.YtjajkmdoggbicaaGreatDoorPkST9
import Derived.Test.YtjajkmdoggbicaaGreatDoorPkST0
import Derived.Test.YtjajkmdoggbicaaGreatDoorPkST11
namespace Go.Proofs.YtjajkmdoggbicaaGreatDoor
set_option maxRecDepth 100000
set_option maxHeartbeats 8000000
set_option linter.unusedVariables false
namespace Dp3
open Go.RowKit
open Ta1 Tc4 Tc5 Dv0 Dp1
open Nd0 (Kept set_other set_same lt_of_cell)
open Nd6 (Bools)
open Tc2 (ret_int)
/-- What the verdict is to do from k bits on. -/
def VC (row:List Bool) (G:Nat->Bool) (ra:Option Addr) (c n g k:Nat):Prop:=∀ (W:World) (p:Nat),p < 2 ^ k->Bools W ra row->Wds W g (nw n) G->Calls Tryz.prog 48 #[rv ra c n (nw n) g,.int .i64 (k:Int),.int .i64 (p:Int)] W fun e w'=>e=.returned (.int .i64 ((dcAt row G k p).toNat:Int))/\Below W.heap.size W w'
theorem halfF {row:List Bool} {G:Nat->Bool} {ra:Option Addr} {c n g k p b0 b1 b2:Nat} (hV:VC row G ra c n g (k+1)) (hn:n<=12) (hk:k < n) (hp:p < 2 ^ k) (w:World) (hR:Rb w b0 ra c n (nw n) g) (hK:Nb w b1 (k:Int)) (hP:Nb w b2 (p:Int)) (hB:Bools w ra row) (hW:Wds w g (nw n) G) :
 TellsF w b0 b1 b2 (fun b=>dcAt row G (k+1) (2*p+b)):=by
 intro W b hb hbe
 obtain ⟨x0,x1,x2⟩:Rb W b0 ra c n (nw n) g:=by
  have h1:=hR.lt
  exact ⟨by rw [hbe.cell (p:=⟨b0,0,none⟩) h1];exact hR.c0,by rw [hbe.cell (p:=⟨b0,1,none⟩) h1];exact hR.c1,by rw [hbe.cell (p:=⟨b0,2,none⟩) h1];exact hR.c2⟩
 have y0:W.cell? ⟨b1,0,none⟩=some (.int .i64 (k:Int)):=hK.below hbe
 have z0:W.cell? ⟨b2,0,none⟩=some (.int .i64 (p:Int)):=hP.below hbe
 have h12:=p12 (n:=k) (by omega)
 have hp2:p < 4096:=by omega
 have HC:Hid (Calls Tryz.prog 48 #[rv ra c n (nw n) g,.int .i64 ((k:Int)+1),.int .i64 ((2*p+b:Nat):Int)] W fun e w'=>e=.returned (.int .i64 ((dcAt row G (k+1) (2*p+b)).toNat:Int))/\Below W.heap.size W w'):=by
  have:=hV W (2*p+b) (by rw [Nat.pow_succ];omega) (hB.below hbe) (hW.below hbe)
  have e:((k+1:Nat):Int)=(k:Int)+1:=by omega
  rwa [e] at this
 have hor:bits .or .i64 ((p:Int)*2) (b:Int)=((2*p+b:Nat):Int):=by
  rw [show (p:Int)*2=((2*p:Nat):Int) by omega,bor62 (by omega) (by omega),or_bit p b hb]
 show Calls _ _ _ _ fun e w'=>e=.returned (.int .i64 ((dcAt row G (k+1) (2*p+b)).toNat:Int))/\_
 generalize dcAt row G (k+1) (2*p+b)=r at *
 generalize 2*p+b=s at *
 generalize nw n=m at *
 clear h12 hV hR hK hP hB hW hp
 go_enter Tryz.func121,Tryz.ntmps121
 go_wp2_with (go_at_call 48;refine HC.out.mono ?_;rintro e w1 ⟨rfl,hb1⟩;have HB1:Hid (Below W.heap.size W w1):=hb1;clear hb1)
 go_ret
 exact ⟨rfl,HB1.out⟩
theorem vc_end {row:List Bool} {G:Nat->Bool} {ra:Option Addr} {c n g:Nat} (hn:n<=12) (hrn:row.length=n):VC row G ra c n g n:=by
 intro w p hp hB hW
 have HD:Hid (dcAt row G n p=G p):=by
  show _=_
  rw [<- hrn];exact dcAt_end row G p
 have HA:Hid (∀ W,Below w.heap.size w W->Calls Tryz.prog 84 #[pv n (nw n) g,.int .i64 (p:Int)] W fun e w'=>e=.returned (.int .i64 ((G p).toNat:Int))/\Below W.heap.size W w'):=fun W h=>at_ n g p G W hn hp (hW.below h)
 have HB0:Hid (Below w.heap.size w (w.alloc (.cells #[.slice ra n c,.int .i64 (n:Int),.slice (some ⟨g,0,none⟩) (nw n) (nw n)] 82))):=(Below.refl _ _).alloc (Nat.le_refl _) _
 rw [HD.out]
 clear hW hB hp hrn HD
 generalize G p=r at *
 generalize nw n=m at *
 go_enter Tryz.func48,Tryz.ntmps48
 go_wp2_with (go_at_call 84;refine (HA.out _ HB0.out).mono ?_;rintro e w1 ⟨rfl,hb1⟩;have HB1:Hid (Below w.heap.size w w1):=HB0.out.trans (hb1.mono HB0.out.size);clear hb1)
 go_ret
 exact ⟨rfl,HB1.out⟩
theorem vc_step {row:List Bool} {G:Nat->Bool} {ra:Option Addr} {c n g k:Nat} (hV:VC row G ra c n g (k+1)) (hn:n<=12) (hrn:row.length=n) (hk:k < n):VC row G ra c n g k:=by
 intro w p hp hB hW
 have HH:Hid (∀ (W:World) (b0 b1 b2:Nat),Rb W b0 ra c n (nw n) g->Nb W b1 (k:Int)->Nb W b2 (p:Int)->Below w.heap.size w W->TellsF W b0 b1 b2 (fun b=>dcAt row G (k+1) (2*p+b))):=fun W b0 b1 b2 h1 h2 h3 h4=>halfF hV hn hk hp W h1 h2 h3 (hB.below h4) (hW.below h4)
 rcases hB.2 with h0|⟨xb,xo,rfl,hc⟩
 ·omega
 have p0:=hc k (by omega)
 have hkz:(k:Int) < (n:Int):=by omega
 have hkn:((k:Int)==(n:Int))=false:=beq_eq_false_iff_ne.2 (by omega)
 have hkl:k < row.length:=by omega
 clear hc hB hW hV hp
 cases hq:row[k]
 ·rw [hq] at p0
  have HD:Hid (dcAt row G k p=(dcAt row G (k+1) (2*p+0)||dcAt row G (k+1) (2*p+1))):=by
   show _=_
   rw [dcAt_step (by omega) G p]
   simp [hq]
  have HFL:Hid (∀ (W:World) (b0 b1 b2:Nat),Calls Tryz.prog 86 #[.agg #[fk 121 b0 b1 b2],.bool false] W fun e w'=>e=.returned (.func (.func 123) #[.agg #[fk 121 b0 b1 b2]] #[])/\Below W.heap.size W w'):=fun W b0 b1 b2=>flagF b0 b1 b2 false W
  have HEV:Hid (∀ (W:World) (b0 b1 b2:Nat),Rb W b0 (some ⟨xb,xo,none⟩) c n (nw n) g->Nb W b1 (k:Int)->Nb W b2 (p:Int)->Below w.heap.size w W->Calls Tryz.prog 123 #[.agg #[fk 121 b0 b1 b2]] W fun e w'=>e=.returned (.int .i64 ((dcAt row G k p).toNat:Int))/\Below W.heap.size W w'):=fun W b0 b1 b2 h1 h2 h3 h4=>by
   have:=someF b0 b1 b2 _ W (HH.out W b0 b1 b2 h1 h2 h3 h4)
   rw [HD.out]
   exact this
  clear hq HD HH
  generalize dcAt row G k p=r at *
  generalize nw n=m at *
  obtain ⟨W0,hW0⟩:∃ W0,W0=w.alloc (.cells #[.slice (some ⟨xb,xo,none⟩) n c,.int .i64 (n:Int),.slice (some ⟨g,0,none⟩) m m] 82):=⟨_,rfl⟩
  have HX:Hid (Rb W0 w.heap.size (some ⟨xb,xo,none⟩) c n m g):=by rw [hW0];exact Rb.made _ _ _ _ _ _ _
  have HB0:Hid (Below w.heap.size w W0):=by rw [hW0];exact (Below.refl _ _).alloc (Nat.le_refl _) _
  have p1:W0.cell? ⟨xb,xo+k,none⟩=some (.bool false):=by rw [HB0.out.cell (lt_of_cell p0)];exact p0
  have HW:Hid (w.alloc (.cells #[.slice (some ⟨xb,xo,none⟩) n c,.int .i64 (n:Int),.slice (some ⟨g,0,none⟩) m m] 82)=W0):=hW0.symm
  clear hW0 p0
  go_enter Tryz.func48,Tryz.ntmps48
  go_upto_region 1 with fail
  rw [HW.out]
  obtain ⟨x0,x1,x2⟩:=HX.out
  have hq:=lt_of_cell x0
  have hxb:=lt_of_cell p1
  go_wp2_with fail
  have DX:Rb W0.drew w.heap.size (some ⟨xb,xo,none⟩) c n m g:=HX.out.kept (S:=fun _=>False) (Kept.refl _ _).drew (fun h=>h)
  have DP:W0.drew.cell? ⟨xb,xo+k,none⟩=some (.bool false):=p1
  have HBD:Hid (Below w.heap.size w W0.drew):=HB0.out.drew
  clear HW HB0
  go_region_held3 (fun w'=>w'.cell? ⟨w.heap.size,0,none⟩=some (.slice (some ⟨xb,xo,none⟩) n c)/\w'.cell? ⟨w.heap.size,1,none⟩=some (.int .i64 (n:Int))/\w'.cell? ⟨w.heap.size,2,none⟩=some (.slice (some ⟨g,0,none⟩) m m)/\w'.cell? ⟨xb,xo+k,none⟩=some (.bool false)) ((first|exact ⟨DX.c0,DX.c1,DX.c2,DP⟩|exact ⟨EX.c0,EX.c1,EX.c2,EP⟩|exact ⟨FX.c0,FX.c1,FX.c2,FP⟩)) ((first|(go_at_call 85;refine (iFork _ c n m g (k:Int) (p:Int) _).mono ?_;rintro e w1 ⟨bb,rfl,hbb,hR1,hK1,hP1,hb1⟩;have EX:=DX.below hb1;have EP:w1.cell? ⟨xb,xo+k,none⟩=some (.bool false):=(by rw [hb1.cell (lt_of_cell DP)];exact DP);have HR1:Hid (Rb w1 bb (some ⟨xb,xo,none⟩) c n m g/\Nb w1 (bb+1) (k:Int)/\Nb w1 (bb+1+1) (p:Int)):=⟨hR1,hK1,hP1⟩;have HB1:Hid (Below w.heap.size w w1):=HBD.out.trans (hb1.mono HBD.out.size);clear hR1 hK1 hP1 hb1 hbb)|(go_at_call 86;refine (HFL.out _ _ _ _).mono ?_;rintro e w2 ⟨rfl,hb2⟩;have FX:=EX.below hb2;have FP:w2.cell? ⟨xb,xo+k,none⟩=some (.bool false):=(by rw [hb2.cell (lt_of_cell EP)];exact EP);have HR2:Hid (Rb w2 bb (some ⟨xb,xo,none⟩) c n m g/\Nb w2 (bb+1) (k:Int)/\Nb w2 (bb+1+1) (p:Int)):=⟨HR1.out.1.below hb2,HR1.out.2.1.below hb2,HR1.out.2.2.below hb2⟩;have HB2:Hid (Below w.heap.size w w2):=HB1.out.trans (hb2.mono HB1.out.size);clear hb2)))
  all_goals
   go_wp2_with fail
   refine (HEV.out _ bb (bb+1) (bb+1+1) HR2.out.1 HR2.out.2.1 HR2.out.2.2 HB2.out).mono ?_
   rintro e w3 ⟨rfl,hb3⟩
   have HB3:Hid (Below w.heap.size w w3):=HB2.out.trans (hb3.mono HB2.out.size)
   clear hb3 FX FP EX EP DX DP x0 x1 x2 p1
   go_wp2
   go_ret
   exact ⟨rfl,HB3.out⟩
 ·rw [hq] at p0
  have HD:Hid (dcAt row G k p=(dcAt row G (k+1) (2*p+0)&&dcAt row G (k+1) (2*p+1))):=by
   show _=_
   rw [dcAt_step (by omega) G p]
   simp [hq]
  have HFL:Hid (∀ (W:World) (b0 b1 b2:Nat),Calls Tryz.prog 86 #[.agg #[fk 121 b0 b1 b2],.bool true] W fun e w'=>e=.returned (.func (.func 122) #[.agg #[fk 121 b0 b1 b2]] #[])/\Below W.heap.size W w'):=fun W b0 b1 b2=>flagF b0 b1 b2 true W
  have HEV:Hid (∀ (W:World) (b0 b1 b2:Nat),Rb W b0 (some ⟨xb,xo,none⟩) c n (nw n) g->Nb W b1 (k:Int)->Nb W b2 (p:Int)->Below w.heap.size w W->Calls Tryz.prog 122 #[.agg #[fk 121 b0 b1 b2]] W fun e w'=>e=.returned (.int .i64 ((dcAt row G k p).toNat:Int))/\Below W.heap.size W w'):=fun W b0 b1 b2 h1 h2 h3 h4=>by
   have:=everyF b0 b1 b2 _ W (HH.out W b0 b1 b2 h1 h2 h3 h4)
   rw [HD.out]
   exact this
  clear hq HD HH
  generalize dcAt row G k p=r at *
  generalize nw n=m at *
  obtain ⟨W0,hW0⟩:∃ W0,W0=w.alloc (.cells #[.slice (some ⟨xb,xo,none⟩) n c,.int .i64 (n:Int),.slice (some ⟨g,0,none⟩) m m] 82):=⟨_,rfl⟩
  have HX:Hid (Rb W0 w.heap.size (some ⟨xb,xo,none⟩) c n m g):=by rw [hW0];exact Rb.made _ _ _ _ _ _ _
  have HB0:Hid (Below w.heap.size w W0):=by rw [hW0];exact (Below.refl _ _).alloc (Nat.le_refl _) _
  have p1:W0.cell? ⟨xb,xo+k,none⟩=some (.bool true):=by rw [HB0.out.cell (lt_of_cell p0)];exact p0
  have HW:Hid (w.alloc (.cells #[.slice (some ⟨xb,xo,none⟩) n c,.int .i64 (n:Int),.slice (some ⟨g,0,none⟩) m m] 82)=W0):=hW0.symm
  clear hW0 p0
  go_enter Tryz.func48,Tryz.ntmps48
  go_upto_region 1 with fail
  rw [HW.out]
  obtain ⟨x0,x1,x2⟩:=HX.out
  have hq:=lt_of_cell x0
  have hxb:=lt_of_cell p1
  go_wp2_with fail
  have DX:Rb W0.drew w.heap.size (some ⟨xb,xo,none⟩) c n m g:=HX.out.kept (S:=fun _=>False) (Kept.refl _ _).drew (fun h=>h)
  have DP:W0.drew.cell? ⟨xb,xo+k,none⟩=some (.bool true):=p1
  have HBD:Hid (Below w.heap.size w W0.drew):=HB0.out.drew
  clear HW HB0
  go_region_held3 (fun w'=>w'.cell? ⟨w.heap.size,0,none⟩=some (.slice (some ⟨xb,xo,none⟩) n c)/\w'.cell? ⟨w.heap.size,1,none⟩=some (.int .i64 (n:Int))/\w'.cell? ⟨w.heap.size,2,none⟩=some (.slice (some ⟨g,0,none⟩) m m)/\w'.cell? ⟨xb,xo+k,none⟩=some (.bool true)) ((first|exact ⟨DX.c0,DX.c1,DX.c2,DP⟩|exact ⟨EX.c0,EX.c1,EX.c2,EP⟩|exact ⟨FX.c0,FX.c1,FX.c2,FP⟩)) ((first|(go_at_call 85;refine (iFork _ c n m g (k:Int) (p:Int) _).mono ?_;rintro e w1 ⟨bb,rfl,hbb,hR1,hK1,hP1,hb1⟩;have EX:=DX.below hb1;have EP:w1.cell? ⟨xb,xo+k,none⟩=some (.bool true):=(by rw [hb1.cell (lt_of_cell DP)];exact DP);have HR1:Hid (Rb w1 bb (some ⟨xb,xo,none⟩) c n m g/\Nb w1 (bb+1) (k:Int)/\Nb w1 (bb+1+1) (p:Int)):=⟨hR1,hK1,hP1⟩;have HB1:Hid (Below w.heap.size w w1):=HBD.out.trans (hb1.mono HBD.out.size);clear hR1 hK1 hP1 hb1 hbb)|(go_at_call 86;refine (HFL.out _ _ _ _).mono ?_;rintro e w2 ⟨rfl,hb2⟩;have FX:=EX.below hb2;have FP:w2.cell? ⟨xb,xo+k,none⟩=some (.bool true):=(by rw [hb2.cell (lt_of_cell EP)];exact EP);have HR2:Hid (Rb w2 bb (some ⟨xb,xo,none⟩) c n m g/\Nb w2 (bb+1) (k:Int)/\Nb w2 (bb+1+1) (p:Int)):=⟨HR1.out.1.below hb2,HR1.out.2.1.below hb2,HR1.out.2.2.below hb2⟩;have HB2:Hid (Below w.heap.size w w2):=HB1.out.trans (hb2.mono HB1.out.size);clear hb2)))
  all_goals
   go_wp2_with fail
   refine (HEV.out _ bb (bb+1) (bb+1+1) HR2.out.1 HR2.out.2.1 HR2.out.2.2 HB2.out).mono ?_
   rintro e w3 ⟨rfl,hb3⟩
   have HB3:Hid (Below w.heap.size w w3):=HB2.out.trans (hb3.mono HB2.out.size)
   clear hb3 FX FP EX EP DX DP x0 x1 x2 p1
   go_wp2
   go_ret
   exact ⟨rfl,HB3.out⟩
theorem verdict {row:List Bool} {G:Nat->Bool} {ra:Option Addr} {c n g:Nat} (hn:n<=12) (hrn:row.length=n) (d:Nat) (hd:d<=n):VC row G ra c n g (n - d):=by
 induction d with
 | zero=>exact vc_end hn hrn
 | succ d ih =>
   have h:=ih (by omega)
   rw [show n - d=(n - (d+1))+1 by omega] at h
   exact vc_step h hn hrn (by omega)
end Dp3
namespace Td5
open Go.RowKit
open Ta0 Ta1 Ta2 Tc2 Tc5 Td1 Td2 Ap0
open Nd0 (Kept Ints WInts set_other set_same lt_of_cell)
open Ss0 (bs bs_size ret_str bs_ext)
open Ss1 (tl tl_length tl_get tl_take bs_tl tl_bs tl_inj eqb)
theorem bne48 {a b:Bool} (h:a≠b):((48+(a.toNat:Int)) != (48+(b.toNat:Int)))=true:=by
 cases a<;>cases b<;>first|rfl|exact absurd rfl h
/-- What stands while numbers are collected. -/
structure ON (w:World) (N:Int) (S:ByteArray) (v:Value) (l:List Int) (W:World):Prop where
 lay:Lay W w.heap.size (.int .i64 N) (.string S)
 own:Ows W (w.heap.size+1) v l
 siz:w.heap.size+1<=W.heap.size
 bel:Below w.heap.size w W
theorem ON.next {w W W':World} {N:Int} {S:ByteArray} {v v':Value} {l l':List Int} (h:ON w N S v l W) (hk:Kept (fun k=>v.ownBlock=some k) W W') (ho:Ows W' (w.heap.size+1) v' l'):ON w N S v' l' W' :=
 ⟨h.lay.kept hk (fun e=>by have:=(h.own.lt _ e).1;omega),ho,by have:=hk.size;have:=h.siz;omega,h.bel.trans (hk.below (fun b hb=>by have:=(h.own.lt _ hb).1;omega) h.bel.size)⟩
theorem ON.below {w W W':World} {N:Int} {S:ByteArray} {v:Value} {l:List Int} (h:ON w N S v l W) (k:Below W.heap.size W W'):ON w N S v l W' :=
 ⟨h.lay.below k,h.own.kept (S:=fun _=>False) (Kept.ofBelow k) (fun _ _ h=>h),by have:=k.size;have:=h.siz;omega,h.bel.trans (k.mono h.bel.size)⟩
theorem ON.drewN {w W:World} {N:Int} {S:ByteArray} {v:Value} {l:List Int} (h:ON w N S v l W) (n:Nat):ON w N S v l (W.drewN n):=h.below (below_drewN (Below.refl _ _) n)
theorem ON.start (w:World) (N:Int) (S:ByteArray):ON w N S (.slice (some ⟨w.heap.size+1,0,none⟩) 0 0) [] ((w.alloc (.cells #[.int .i64 N,.string S] 26)).alloc (.cells #[] 3)):=by
 refine ⟨(Lay.made _ _ _ _).alloc _,?_,by simp,((Below.refl _ _).alloc (Nat.le_refl _) _).alloc (by simp) _⟩
 have:=Ows.lit (w.alloc (.cells #[.int .i64 N,.string S] 26)) (w.heap.size+1) (by simp)
 simpa using this
theorem ON.wints {w W:World} {N:Int} {S:ByteArray} {v:Value} {l:List Int} (h:ON w N S v l W):∃ a c,v=.slice a l.length c/\WInts W w.heap.size a l:=by
 obtain ⟨a,c,hv,hw⟩:=h.own.form
 refine ⟨a,c,hv,hw.1,?_⟩
 rcases hw.2 with h0|⟨b,o,ha,hb,hc⟩
 ·exact .inl h0
 ·exact .inr ⟨b,o,ha,by omega,hc⟩
end Td5
namespace Te4
open Go.RowKit
open Ta0 Ta1 Ta2 Tc2 Tc4 Tc5 Tc6 Tc7 Tc8 Td1 Td2 Td5 Te1 Ap0
open Nd0 (Kept Ints WInts set_other set_same lt_of_cell)
open Ss0 (bs bs_size ret_str bs_ext)
open Ss1 (tl tl_length tl_get tl_take bs_tl tl_bs tl_inj eqb)
theorem nd_upto (n:Nat) (F:Nat->Bool) (b:Nat) (hb:b < n):((List.range (2 ^ n)).any fun p=>upto (2 ^ n) F p != upto (2 ^ n) F (p ^^^ 2 ^ (n - 1 - b)))=ndB n F b:=by
 unfold ndB
 rw [Bool.eq_iff_iff,List.any_eq_true,List.any_eq_true]
 have e:∀ p,p < 2 ^ n->(upto (2 ^ n) F p != upto (2 ^ n) F (p ^^^ 2 ^ (n - 1 - b)))=(F p != F (p ^^^ 2 ^ (n - 1 - b))):=fun p hp=>by
  have h2:p ^^^ 2 ^ (n - 1 - b) < 2 ^ n:=Nat.xor_lt_two_pow hp (Nat.pow_lt_pow_right (by omega) (by omega))
  simp [upto,hp,h2]
 constructor
 ·rintro ⟨p,hp,h⟩
  exact ⟨p,hp,by rw [e p (List.mem_range.1 hp)] at h;exact h⟩
 ·rintro ⟨p,hp,h⟩
  exact ⟨p,hp,by rw [e p (List.mem_range.1 hp)];exact h⟩
/-- What stands while the program collects the bits that a table needs. -/
structure OP (w:World) (n m g q:Nat) (S:ByteArray) (F:Nat->Bool) (v:Value) (l:List Int) (W:World):Prop where
 on:ON w (n:Int) S v l W
 pk:Lay W q (.int .i64 (n:Int)) (.slice (some ⟨g,0,none⟩) m m)
 wds:Wds W g m F
 sep:∀ i,v.ownBlock=some i->i≠g/\i≠q
theorem OP.below {w W W':World} {n m g q:Nat} {S:ByteArray} {F:Nat->Bool} {v:Value} {l:List Int} (h:OP w n m g q S F v l W) (k:Below W.heap.size W W'):OP w n m g q S F v l W' :=
 ⟨h.on.below k,h.pk.below k,h.wds.below k,h.sep⟩
theorem OP.next {w W W':World} {n m g q g5 len cp:Nat} {S:ByteArray} {F:Nat->Bool} {v:Value} {l l':List Int} (h:OP w n m g q S F v l W) (hm:1<=m) (hk:Kept (fun k=>v.ownBlock=some k) W W') (hg:v.ownBlock=some g5\/W.heap.size<=g5) (ho:Ows W' (w.heap.size+1) (.slice (some ⟨g5,0,none⟩) len cp) l'):OP w n m g q S F (.slice (some ⟨g5,0,none⟩) len cp) l' W' :=
 ⟨h.on.next hk ho,h.pk.kept hk (fun e=>(h.sep _ e).2 rfl),h.wds.kept hk (fun e=>(h.sep _ e).1 rfl),fun i hi=>by
  have hi':g5=i:=by simpa [Value.ownBlock] using hi
  subst hi'
  rcases hg with e|e
  ·exact h.sep _ e
  ·have h1:=h.wds.lt hm
   have h2:=h.pk.lt
   omega⟩
end Te4
namespace Dp4
open Go.RowKit
open Ta0 Ta1 Tc2 Tc4 Tc5 Dv0 Dp1 Dp3 Te1
open Nd0 (Kept set_other set_same lt_of_cell)
open Nd6 (Bools)
open Ss0 (bs bs_size)
open Ss1 (tl)
/-- A block of three cells. -/
structure L3 (W:World) (b:Nat) (x y z:Value):Prop where
 c0:W.cell? ⟨b,0,none⟩=some x
 c1:W.cell? ⟨b,1,none⟩=some y
 c2:W.cell? ⟨b,2,none⟩=some z
 f0:W.frozen? ⟨b,0,none⟩=false
 f1:W.frozen? ⟨b,1,none⟩=false
 f2:W.frozen? ⟨b,2,none⟩=false
theorem L3.lt {W:World} {b:Nat} {x y z:Value} (h:L3 W b x y z):b < W.heap.size:=World.block_lt_of_cell? _ _ h.c0
theorem L3.kept {W W':World} {b:Nat} {x y z:Value} (h:L3 W b x y z) {S:Nat->Prop} (k:Kept S W W') (hs:¬ S b):L3 W' b x y z :=
 ⟨by rw [k.cell (p:=⟨b,0,none⟩) h.lt hs];exact h.c0,by rw [k.cell (p:=⟨b,1,none⟩) h.lt hs];exact h.c1,by rw [k.cell (p:=⟨b,2,none⟩) h.lt hs];exact h.c2,by rw [k.frozen (p:=⟨b,0,none⟩) h.lt hs];exact h.f0,by rw [k.frozen (p:=⟨b,1,none⟩) h.lt hs];exact h.f1,by rw [k.frozen (p:=⟨b,2,none⟩) h.lt hs];exact h.f2⟩
theorem L3.below {W W':World} {b:Nat} {x y z:Value} (h:L3 W b x y z) (k:Below W.heap.size W W'):L3 W' b x y z :=
 h.kept (S:=fun _=>False) (Kept.ofBelow k) (fun h=>h)
theorem L3.made (W:World) (x y z:Value) (T:Nat):L3 (W.alloc (.cells #[x,y,z] T)) W.heap.size x y z:=⟨by simp,by simp,by simp,by simp,by simp,by simp⟩
theorem fin3 {w W:World} {b:Nat} {x y z:Value} (h:L3 W b x y z) (hB:Below w.heap.size w W) (hb:w.heap.size<=b) (u v t:Value) :
 ∃ W',W'=((W.setCell ⟨b,0,none⟩ u).setCell ⟨b,1,none⟩ v).setCell ⟨b,2,none⟩ t/\W'.cell? ⟨b,0,none⟩=some u/\W'.cell? ⟨b,1,none⟩=some v/\W'.cell? ⟨b,2,none⟩=some t/\Below w.heap.size w W'/\Kept (fun i=>i=b) W W':=by
 have HK:Kept (fun i=>i=b) W (((W.setCell ⟨b,0,none⟩ u).setCell ⟨b,1,none⟩ v).setCell ⟨b,2,none⟩ t):=kset (S:=fun i=>i=b) (kset (S:=fun i=>i=b) (kset (S:=fun i=>i=b) (Kept.refl (fun i=>i=b) W) rfl _) rfl _) rfl _
 refine ⟨_,rfl,?_,?_,?_,hB.trans (HK.below (B:=w.heap.size) (fun i hi=>by omega) hB.size),HK⟩
 ·rw [set_other (by simp),set_other (by simp)];exact set_same h.c0
 ·rw [set_other (by simp)];exact set_same (by rw [set_other (by simp)];exact h.c1)
 ·exact set_same (by rw [set_other (by simp),set_other (by simp)];exact h.c2)
/-- The zero ruled table. -/
abbrev rv0:Value:=.agg #[.slice none 0 0,.int .i64 0,.slice none 0 0]
theorem iRuled0 {N:Int} {S:ByteArray} (ra:Option Addr) (L c:Nat) (w:World) (hS:S.size<=1048576) (h:¬ (tokB N (tl S)=true/\(L:Int)=N)) :
 Calls Tryz.prog 47 #[.slice ra L c,tv N S] w fun e w'=>e=.returned (.tuple #[rv0,.bool false])/\Below w.heap.size w w':=by
 have HA:Hid (Below w.heap.size w ((w.alloc (.cells #[.int .i64 N,.string S] 26)).alloc (.cells #[.slice none 0 0,.int .i64 0,.slice none 0 0] 82))):=((Below.refl _ _).alloc (Nat.le_refl _) _).alloc (by simp) _
 have HX:Hid (Lay ((w.alloc (.cells #[.int .i64 N,.string S] 26)).alloc (.cells #[.slice none 0 0,.int .i64 0,.slice none 0 0] 82)) w.heap.size (.int .i64 N) (.string S)):=(Lay.made _ _ _ _).alloc _
 have HR:Hid (L3 ((w.alloc (.cells #[.int .i64 N,.string S] 26)).alloc (.cells #[.slice none 0 0,.int .i64 0,.slice none 0 0] 82)) (w.heap.size+1) (.slice none 0 0) (.int .i64 0) (.slice none 0 0)):=by
  have:=L3.made (w.alloc (.cells #[.int .i64 N,.string S] 26)) (.slice none 0 0) (.int .i64 0) (.slice none 0 0) 82
  show L3 _ _ _ _ _
  simpa using this
 cases h1:tokB N (tl S)
 ·have HO:Hid (∀ W,Calls Tryz.prog 39 #[tv N S] W fun e w'=>e=.returned (.bool false)/\Below W.heap.size W w'):=fun W=>iOk0 W hS h1
  clear h h1
  go_enter Tryz.func47,Tryz.ntmps47
  go_wp2_with fail
  refine (HO.out _).mono ?_
  rintro e w1 ⟨rfl,hb⟩
  have HA1:Hid (Below w.heap.size w w1):=HA.out.trans (hb.mono HA.out.size)
  have HR1:Hid (L3 w1 (w.heap.size+1) (.slice none 0 0) (.int .i64 0) (.slice none 0 0)):=HR.out.below hb
  clear hb
  obtain ⟨r0,r1,r2,r3,r4,r5⟩:=HR1.out
  have HFN:Hid _:=fin3 HR1.out HA1.out (by omega) (.slice none 0 0) (.int .i64 0) (.slice none 0 0)
  go_wp2
  obtain ⟨W,hW,z0,z1,z2,hbz,_⟩:=HFN.out
  rw [<- hW]
  exact bodyPost_ret (v:=.tuple #[rv0,.bool false]) (by simp [results,Tryz.results47,go_sem,z0,z1,z2]) rfl ⟨rfl,hbz⟩
 ·have HO:Hid (∀ W,Calls Tryz.prog 39 #[tv N S] W fun e w'=>e=.returned (.bool true)/\Below W.heap.size W w'):=fun W=>by
   have:=iTableOk N S W hS
   rwa [h1] at this
  have hne:((L:Int) != N)=true:=bne_iff_ne.2 fun e=>h ⟨h1,e⟩
  clear h h1
  go_enter Tryz.func47,Tryz.ntmps47
  go_wp2_with fail
  refine (HO.out _).mono ?_
  rintro e w1 ⟨rfl,hb⟩
  have HA1:Hid (Below w.heap.size w w1):=HA.out.trans (hb.mono HA.out.size)
  have HR1:Hid (L3 w1 (w.heap.size+1) (.slice none 0 0) (.int .i64 0) (.slice none 0 0)):=HR.out.below hb
  obtain ⟨x0,x1,_,_⟩:=HX.out.below hb
  clear hb
  obtain ⟨r0,r1,r2,r3,r4,r5⟩:=HR1.out
  have HFN:Hid _:=fin3 HR1.out HA1.out (by omega) (.slice none 0 0) (.int .i64 0) (.slice none 0 0)
  go_wp2
  obtain ⟨W,hW,z0,z1,z2,hbz,_⟩:=HFN.out
  rw [<- hW]
  exact bodyPost_ret (v:=.tuple #[rv0,.bool false]) (by simp [results,Tryz.results47,go_sem,z0,z1,z2]) rfl ⟨rfl,hbz⟩
theorem iRuled (n:Nat) (F:Nat->Bool) (ra:Option Addr) (c:Nat) (w:World) (hn:n<=12) :
 Calls Tryz.prog 47 #[.slice ra n c,tv (n:Int) (bs (tab n F))] w fun e w'=>∃ g,e=.returned (.tuple #[rv ra c n (nw n) g,.bool true])/\w.heap.size<=g/\Wds w' g (nw n) (upto (2 ^ n) F)/\Below w.heap.size w w':=by
 have HO:Hid (∀ W,Calls Tryz.prog 39 #[tv (n:Int) (bs (tab n F))] W fun e w'=>e=.returned (.bool true)/\Below W.heap.size W w'):=fun W=>iOk1 n F W hn
 have HPK:Hid (∀ W,Calls Tryz.prog 83 #[tv (n:Int) (bs (tab n F))] W fun e w'=>∃ g,e=.returned (pv n (nw n) g)/\W.heap.size<=g/\Wds w' g (nw n) (upto (2 ^ n) F)/\Below W.heap.size W w'):=fun W=>pack n F W hn
 generalize bs (tab n F)=S at *
 generalize upto (2 ^ n) F=F1 at *
 have hm1:=(nw_le hn).1
 generalize nw n=m at *
 have HA:Hid (Below w.heap.size w ((w.alloc (.cells #[.int .i64 (n:Int),.string S] 26)).alloc (.cells #[.slice none 0 0,.int .i64 0,.slice none 0 0] 82))):=((Below.refl _ _).alloc (Nat.le_refl _) _).alloc (by simp) _
 have HX:Hid (Lay ((w.alloc (.cells #[.int .i64 (n:Int),.string S] 26)).alloc (.cells #[.slice none 0 0,.int .i64 0,.slice none 0 0] 82)) w.heap.size (.int .i64 (n:Int)) (.string S)):=(Lay.made _ _ _ _).alloc _
 have HR:Hid (L3 ((w.alloc (.cells #[.int .i64 (n:Int),.string S] 26)).alloc (.cells #[.slice none 0 0,.int .i64 0,.slice none 0 0] 82)) (w.heap.size+1) (.slice none 0 0) (.int .i64 0) (.slice none 0 0)):=by
  have:=L3.made (w.alloc (.cells #[.int .i64 (n:Int),.string S] 26)) (.slice none 0 0) (.int .i64 0) (.slice none 0 0) 82
  show L3 _ _ _ _ _
  simpa using this
 go_enter Tryz.func47,Tryz.ntmps47
 go_wp2_with fail
 refine (HO.out _).mono ?_
 rintro e w1 ⟨rfl,hb⟩
 have HA1:Hid (Below w.heap.size w w1):=HA.out.trans (hb.mono HA.out.size)
 have HR1:Hid (L3 w1 (w.heap.size+1) (.slice none 0 0) (.int .i64 0) (.slice none 0 0)):=HR.out.below hb
 obtain ⟨x0,x1,_,_⟩:=HX.out.below hb
 clear hb
 go_wp2_with fail
 refine (HPK.out _).mono ?_
 rintro e w2 ⟨g,rfl,hg,hw,hb⟩
 have HA2:Hid (Below w.heap.size w w2):=HA1.out.trans (hb.mono HA1.out.size)
 have HR2:Hid (L3 w2 (w.heap.size+1) (.slice none 0 0) (.int .i64 0) (.slice none 0 0)):=HR1.out.below hb
 have HG:Hid (w.heap.size+1 < g):=Nat.lt_of_lt_of_le HR1.out.lt hg
 have HW:Hid (Wds w2 g m F1):=hw
 clear hb x0 x1 hg hw
 obtain ⟨r0,r1,r2,r3,r4,r5⟩:=HR2.out
 have HFN:Hid _:=fin3 HR2.out HA2.out (by omega) (.slice ra n c) (.int .i64 (n:Int)) (.slice (some ⟨g,0,none⟩) m m)
 go_wp2
 obtain ⟨W,hW,z0,z1,z2,hbz,hkz⟩:=HFN.out
 rw [<- hW]
 exact bodyPost_ret (v:=.tuple #[rv ra c n m g,.bool true]) (by simp [results,Tryz.results47,go_sem,z0,z1,z2]) rfl ⟨g,rfl,by have:=HG.out;omega,HW.out.kept hkz (by have:=HG.out;omega),hbz⟩
theorem iDecide0 {N:Int} {S:ByteArray} (ra:Option Addr) (L c:Nat) (w:World) (hS:S.size<=1048576) (h:¬ (tokB N (tl S)=true/\(L:Int)=N)) :
 Calls Tryz.prog 14 #[.slice ra L c,tv N S] w fun e w'=>e=.returned (.tuple #[.int .i64 0,.bool false])/\Below w.heap.size w w':=by
 have HA:Hid (Below w.heap.size w (w.alloc (.cells #[.int .i64 N,.string S] 26))):=(Below.refl _ _).alloc (Nat.le_refl _) _
 have HRU:Hid (∀ W,Calls Tryz.prog 47 #[.slice ra L c,tv N S] W fun e w'=>e=.returned (.tuple #[rv0,.bool false])/\Below W.heap.size W w'):=fun W=>iRuled0 ra L c W hS h
 clear h
 go_enter Tryz.func14,Tryz.ntmps14
 go_wp2_with fail
 refine (HRU.out _).mono ?_
 rintro e w1 ⟨rfl,hb⟩
 have HA1:Hid (Below w.heap.size w w1):=HA.out.trans (hb.mono HA.out.size)
 clear hb
 have HA2:Hid (Below w.heap.size w (w1.alloc (.cells #[.slice none 0 0,.int .i64 0,.slice none 0 0] 82))):=HA1.out.alloc HA1.out.size _
 go_wp2
 go_ret2
 exact ⟨rfl,HA2.out⟩
theorem dcAt_upto {row:List Bool} {n:Nat} (F:Nat->Bool) (h:row.length=n) {k p:Nat} (hk:k<=n) (hp:p < 2 ^ k):dcAt row (upto (2 ^ n) F) k p=dcAt row F k p:=by
 subst h
 exact dcAt_ext row (fun q hq=>by simp [upto,hq]) hk hp
theorem iDecide (n:Nat) (F:Nat->Bool) (ra:Option Addr) (row:List Bool) (c:Nat) (w:World) (hn:n<=12) (hrn:row.length=n) (hB:Bools w ra row) :
 Calls Tryz.prog 14 #[.slice ra n c,tv (n:Int) (bs (tab n F))] w fun e w'=>e=.returned (.tuple #[.int .i64 ((De0.dc row F).toNat:Int),.bool true])/\Below w.heap.size w w':=by
 have HRU:Hid (∀ W,Calls Tryz.prog 47 #[.slice ra n c,tv (n:Int) (bs (tab n F))] W fun e w'=>∃ g,e=.returned (.tuple #[rv ra c n (nw n) g,.bool true])/\W.heap.size<=g/\Wds w' g (nw n) (upto (2 ^ n) F)/\Below W.heap.size W w'):=fun W=>iRuled n F ra c W hn
 have HV:Hid (∀ (W:World) (g:Nat),Below w.heap.size w W->Wds W g (nw n) (upto (2 ^ n) F)->Calls Tryz.prog 48 #[rv ra c n (nw n) g,.int .i64 0,.int .i64 0] W fun e w'=>e=.returned (.int .i64 ((De0.dc row F).toNat:Int))/\Below W.heap.size W w'):=fun W g h1 h2=>by
  have:=verdict (row:=row) (G:=upto (2 ^ n) F) (ra:=ra) (c:=c) (g:=g) hn hrn n (Nat.le_refl _)
  rw [Nat.sub_self] at this
  have:=this W 0 (by simp) (hB.below h1) h2
  rw [dcAt_upto F hrn (Nat.zero_le _) (by simp),dcAt_0] at this
  exact this
 have HA:Hid (∀ S:ByteArray,Below w.heap.size w (w.alloc (.cells #[.int .i64 (n:Int),.string S] 26))):=fun S=>(Below.refl _ _).alloc (Nat.le_refl _) _
 clear hB
 generalize bs (tab n F)=S at *
 generalize upto (2 ^ n) F=F1 at *
 generalize nw n=m at *
 generalize De0.dc row F=r at *
 go_enter Tryz.func14,Tryz.ntmps14
 go_wp2_with fail
 refine (HRU.out _).mono ?_
 rintro e w1 ⟨g,rfl,hg,hw,hb⟩
 have HA1:Hid (Below w.heap.size w w1):=(HA.out S).trans (hb.mono (HA.out S).size)
 have HA2:Hid (Below w.heap.size w (w1.alloc (.cells #[.slice ra n c,.int .i64 (n:Int),.slice (some ⟨g,0,none⟩) m m] 82))):=HA1.out.alloc HA1.out.size _
 have HW:Hid (Wds (w1.alloc (.cells #[.slice ra n c,.int .i64 (n:Int),.slice (some ⟨g,0,none⟩) m m] 82)) g m F1):=hw.below ((Below.refl _ _).alloc (Nat.le_refl _) _)
 clear hb hw hg
 go_wp2_with (go_at_call 48;refine (HV.out _ g HA2.out HW.out).mono ?_;rintro e w3 ⟨rfl,hb3⟩;have HB3:Hid (Below w.heap.size w w3):=HA2.out.trans (hb3.mono HA2.out.size);clear hb3)
 go_ret2
 exact ⟨rfl,HB3.out⟩
end Dp4
end Go.Proofs.YtjajkmdoggbicaaGreatDoor
