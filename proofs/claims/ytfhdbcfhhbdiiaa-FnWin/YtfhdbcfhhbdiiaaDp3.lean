import Derived.Test.YtfhdbcfhhbdiiaaDp1
namespace Go.Proofs.Ytfhdbcfhhbdiiaa
set_option maxRecDepth 100000
set_option maxHeartbeats 8000000
set_option linter.unusedVariables false
namespace Dp3
open Go.RowKit
open Ta1 Tc4 Tc5 Dv0 Dp1
open Nd0 (Kept set_other set_same lt_of_cell)
open Nd6 (Bools)
open Tc2 (ret_int)
/-- What the verdict is to do from k bits on. -/
def VC (row:List Bool) (G:Nat->Bool) (ra:Option Addr) (c n g k:Nat):Prop:=∀ (W:World) (p:Nat),p < 2 ^ k->Bools W ra row->Wds W g (nw n) G->Calls Try.prog 53 #[rv ra c n (nw n) g,.int .i64 (k:Int),.int .i64 (p:Int)] W fun e w'=>e=.returned (.int .i64 ((dcAt row G k p).toNat:Int))/\Below W.heap.size W w'
theorem halfF {row:List Bool} {G:Nat->Bool} {ra:Option Addr} {c n g k p b0 b1 b2:Nat} (hV:VC row G ra c n g (k+1)) (hn:n<=12) (hk:k < n) (hp:p < 2 ^ k) (w:World) (hR:Rb w b0 ra c n (nw n) g) (hK:Nb w b1 (k:Int)) (hP:Nb w b2 (p:Int)) (hB:Bools w ra row) (hW:Wds w g (nw n) G) :
 TellsF w b0 b1 b2 (fun b=>dcAt row G (k+1) (2*p+b)):=by
 intro W b hb hbe
 obtain ⟨x0,x1,x2⟩:Rb W b0 ra c n (nw n) g:=by
  have h1:=hR.lt
  exact ⟨by rw [hbe.cell (p:=⟨b0,0,none⟩) h1];exact hR.c0,by rw [hbe.cell (p:=⟨b0,1,none⟩) h1];exact hR.c1,by rw [hbe.cell (p:=⟨b0,2,none⟩) h1];exact hR.c2⟩
 have y0:W.cell? ⟨b1,0,none⟩=some (.int .i64 (k:Int)):=hK.below hbe
 have z0:W.cell? ⟨b2,0,none⟩=some (.int .i64 (p:Int)):=hP.below hbe
 have h12:=p12 (n:=k) (by omega)
 have hp2:p < 4096:=by omega
 have HC:Hid (Calls Try.prog 53 #[rv ra c n (nw n) g,.int .i64 ((k:Int)+1),.int .i64 ((2*p+b:Nat):Int)] W fun e w'=>e=.returned (.int .i64 ((dcAt row G (k+1) (2*p+b)).toNat:Int))/\Below W.heap.size W w'):=by
  have:=hV W (2*p+b) (by rw [Nat.pow_succ];omega) (hB.below hbe) (hW.below hbe)
  have e:((k+1:Nat):Int)=(k:Int)+1:=by omega
  rwa [e] at this
 have hor:bits .or .i64 ((p:Int)*2) (b:Int)=((2*p+b:Nat):Int):=by
  rw [show (p:Int)*2=((2*p:Nat):Int) by omega,bor62 (by omega) (by omega),or_bit p b hb]
 show Calls _ _ _ _ fun e w'=>e=.returned (.int .i64 ((dcAt row G (k+1) (2*p+b)).toNat:Int))/\_
 generalize dcAt row G (k+1) (2*p+b)=r at *
 generalize 2*p+b=s at *
 generalize nw n=m at *
 clear h12 hV hR hK hP hB hW hp
 go_enter Try.func82,Try.ntmps82
 go_wp2_with (go_at_call 53;refine HC.out.mono ?_;rintro e w1 ⟨rfl,hb1⟩;have HB1:Hid (Below W.heap.size W w1):=hb1;clear hb1)
 go_ret
 exact ⟨rfl,HB1.out⟩
theorem vc_end {row:List Bool} {G:Nat->Bool} {ra:Option Addr} {c n g:Nat} (hn:n<=12) (hrn:row.length=n):VC row G ra c n g n:=by
 intro w p hp hB hW
 have HD:Hid (dcAt row G n p=G p):=by
  show _=_
  rw [<- hrn];exact dcAt_end row G p
 have HA:Hid (∀ W,Below w.heap.size w W->Calls Try.prog 70 #[pv n (nw n) g,.int .i64 (p:Int)] W fun e w'=>e=.returned (.int .i64 ((G p).toNat:Int))/\Below W.heap.size W w'):=fun W h=>at_ n g p G W hn hp (hW.below h)
 have HB0:Hid (Below w.heap.size w (w.alloc (.cells #[.slice ra n c,.int .i64 (n:Int),.slice (some ⟨g,0,none⟩) (nw n) (nw n)] 89))):=(Below.refl _ _).alloc (Nat.le_refl _) _
 rw [HD.out]
 clear hW hB hp hrn HD
 generalize G p=r at *
 generalize nw n=m at *
 go_enter Try.func53,Try.ntmps53
 go_wp2_with (go_at_call 70;refine (HA.out _ HB0.out).mono ?_;rintro e w1 ⟨rfl,hb1⟩;have HB1:Hid (Below w.heap.size w w1):=HB0.out.trans (hb1.mono HB0.out.size);clear hb1)
 go_ret
 exact ⟨rfl,HB1.out⟩
theorem vc_step {row:List Bool} {G:Nat->Bool} {ra:Option Addr} {c n g k:Nat} (hV:VC row G ra c n g (k+1)) (hn:n<=12) (hrn:row.length=n) (hk:k < n):VC row G ra c n g k:=by
 intro w p hp hB hW
 have HH:Hid (∀ (W:World) (b0 b1 b2:Nat),Rb W b0 ra c n (nw n) g->Nb W b1 (k:Int)->Nb W b2 (p:Int)->Below w.heap.size w W->TellsF W b0 b1 b2 (fun b=>dcAt row G (k+1) (2*p+b))):=fun W b0 b1 b2 h1 h2 h3 h4=>halfF hV hn hk hp W h1 h2 h3 (hB.below h4) (hW.below h4)
 rcases hB.2 with h0|⟨xb,xo,rfl,hc⟩
 ·omega
 have p0:=hc k (by omega)
 have hkz:(k:Int) < (n:Int):=by omega
 have hkn:((k:Int)==(n:Int))=false:=beq_eq_false_iff_ne.2 (by omega)
 have hkl:k < row.length:=by omega
 clear hc hB hW hV hp
 cases hq:row[k]
 ·rw [hq] at p0
  have HD:Hid (dcAt row G k p=(dcAt row G (k+1) (2*p+0)||dcAt row G (k+1) (2*p+1))):=by
   show _=_
   rw [dcAt_step (by omega) G p]
   simp [hq]
  have HFL:Hid (∀ (W:World) (b0 b1 b2:Nat),Calls Try.prog 77 #[.agg #[fk 82 b0 b1 b2],.bool false] W fun e w'=>e=.returned (.func (.func 87) #[.agg #[fk 82 b0 b1 b2]] #[])/\Below W.heap.size W w'):=fun W b0 b1 b2=>flagF b0 b1 b2 false W
  have HEV:Hid (∀ (W:World) (b0 b1 b2:Nat),Rb W b0 (some ⟨xb,xo,none⟩) c n (nw n) g->Nb W b1 (k:Int)->Nb W b2 (p:Int)->Below w.heap.size w W->Calls Try.prog 87 #[.agg #[fk 82 b0 b1 b2]] W fun e w'=>e=.returned (.int .i64 ((dcAt row G k p).toNat:Int))/\Below W.heap.size W w'):=fun W b0 b1 b2 h1 h2 h3 h4=>by
   have:=someF b0 b1 b2 _ W (HH.out W b0 b1 b2 h1 h2 h3 h4)
   rw [HD.out]
   exact this
  clear hq HD HH
  generalize dcAt row G k p=r at *
  generalize nw n=m at *
  obtain ⟨W0,hW0⟩:∃ W0,W0=w.alloc (.cells #[.slice (some ⟨xb,xo,none⟩) n c,.int .i64 (n:Int),.slice (some ⟨g,0,none⟩) m m] 89):=⟨_,rfl⟩
  have HX:Hid (Rb W0 w.heap.size (some ⟨xb,xo,none⟩) c n m g):=by rw [hW0];exact Rb.made _ _ _ _ _ _ _
  have HB0:Hid (Below w.heap.size w W0):=by rw [hW0];exact (Below.refl _ _).alloc (Nat.le_refl _) _
  have p1:W0.cell? ⟨xb,xo+k,none⟩=some (.bool false):=by rw [HB0.out.cell (lt_of_cell p0)];exact p0
  have HW:Hid (w.alloc (.cells #[.slice (some ⟨xb,xo,none⟩) n c,.int .i64 (n:Int),.slice (some ⟨g,0,none⟩) m m] 89)=W0):=hW0.symm
  clear hW0 p0
  go_enter Try.func53,Try.ntmps53
  go_upto_region 1 with fail
  rw [HW.out]
  obtain ⟨x0,x1,x2⟩:=HX.out
  have hq:=lt_of_cell x0
  have hxb:=lt_of_cell p1
  go_wp2_with fail
  have DX:Rb W0.drew w.heap.size (some ⟨xb,xo,none⟩) c n m g:=HX.out.kept (S:=fun _=>False) (Kept.refl _ _).drew (fun h=>h)
  have DP:W0.drew.cell? ⟨xb,xo+k,none⟩=some (.bool false):=p1
  have HBD:Hid (Below w.heap.size w W0.drew):=HB0.out.drew
  clear HW HB0
  go_region_held3 (fun w'=>w'.cell? ⟨w.heap.size,0,none⟩=some (.slice (some ⟨xb,xo,none⟩) n c)/\w'.cell? ⟨w.heap.size,1,none⟩=some (.int .i64 (n:Int))/\w'.cell? ⟨w.heap.size,2,none⟩=some (.slice (some ⟨g,0,none⟩) m m)/\w'.cell? ⟨xb,xo+k,none⟩=some (.bool false)) ((first|exact ⟨DX.c0,DX.c1,DX.c2,DP⟩|exact ⟨EX.c0,EX.c1,EX.c2,EP⟩|exact ⟨FX.c0,FX.c1,FX.c2,FP⟩)) ((first|(go_at_call 60;refine (iFork _ c n m g (k:Int) (p:Int) _).mono ?_;rintro e w1 ⟨bb,rfl,hbb,hR1,hK1,hP1,hb1⟩;have EX:=DX.below hb1;have EP:w1.cell? ⟨xb,xo+k,none⟩=some (.bool false):=(by rw [hb1.cell (lt_of_cell DP)];exact DP);have HR1:Hid (Rb w1 bb (some ⟨xb,xo,none⟩) c n m g/\Nb w1 (bb+1) (k:Int)/\Nb w1 (bb+1+1) (p:Int)):=⟨hR1,hK1,hP1⟩;have HB1:Hid (Below w.heap.size w w1):=HBD.out.trans (hb1.mono HBD.out.size);clear hR1 hK1 hP1 hb1 hbb)|(go_at_call 77;refine (HFL.out _ _ _ _).mono ?_;rintro e w2 ⟨rfl,hb2⟩;have FX:=EX.below hb2;have FP:w2.cell? ⟨xb,xo+k,none⟩=some (.bool false):=(by rw [hb2.cell (lt_of_cell EP)];exact EP);have HR2:Hid (Rb w2 bb (some ⟨xb,xo,none⟩) c n m g/\Nb w2 (bb+1) (k:Int)/\Nb w2 (bb+1+1) (p:Int)):=⟨HR1.out.1.below hb2,HR1.out.2.1.below hb2,HR1.out.2.2.below hb2⟩;have HB2:Hid (Below w.heap.size w w2):=HB1.out.trans (hb2.mono HB1.out.size);clear hb2)))
  all_goals
   go_wp2_with fail
   refine (HEV.out _ bb (bb+1) (bb+1+1) HR2.out.1 HR2.out.2.1 HR2.out.2.2 HB2.out).mono ?_
   rintro e w3 ⟨rfl,hb3⟩
   have HB3:Hid (Below w.heap.size w w3):=HB2.out.trans (hb3.mono HB2.out.size)
   clear hb3 FX FP EX EP DX DP x0 x1 x2 p1
   go_wp2
   go_ret
   exact ⟨rfl,HB3.out⟩
 ·rw [hq] at p0
  have HD:Hid (dcAt row G k p=(dcAt row G (k+1) (2*p+0)&&dcAt row G (k+1) (2*p+1))):=by
   show _=_
   rw [dcAt_step (by omega) G p]
   simp [hq]
  have HFL:Hid (∀ (W:World) (b0 b1 b2:Nat),Calls Try.prog 77 #[.agg #[fk 82 b0 b1 b2],.bool true] W fun e w'=>e=.returned (.func (.func 86) #[.agg #[fk 82 b0 b1 b2]] #[])/\Below W.heap.size W w'):=fun W b0 b1 b2=>flagF b0 b1 b2 true W
  have HEV:Hid (∀ (W:World) (b0 b1 b2:Nat),Rb W b0 (some ⟨xb,xo,none⟩) c n (nw n) g->Nb W b1 (k:Int)->Nb W b2 (p:Int)->Below w.heap.size w W->Calls Try.prog 86 #[.agg #[fk 82 b0 b1 b2]] W fun e w'=>e=.returned (.int .i64 ((dcAt row G k p).toNat:Int))/\Below W.heap.size W w'):=fun W b0 b1 b2 h1 h2 h3 h4=>by
   have:=everyF b0 b1 b2 _ W (HH.out W b0 b1 b2 h1 h2 h3 h4)
   rw [HD.out]
   exact this
  clear hq HD HH
  generalize dcAt row G k p=r at *
  generalize nw n=m at *
  obtain ⟨W0,hW0⟩:∃ W0,W0=w.alloc (.cells #[.slice (some ⟨xb,xo,none⟩) n c,.int .i64 (n:Int),.slice (some ⟨g,0,none⟩) m m] 89):=⟨_,rfl⟩
  have HX:Hid (Rb W0 w.heap.size (some ⟨xb,xo,none⟩) c n m g):=by rw [hW0];exact Rb.made _ _ _ _ _ _ _
  have HB0:Hid (Below w.heap.size w W0):=by rw [hW0];exact (Below.refl _ _).alloc (Nat.le_refl _) _
  have p1:W0.cell? ⟨xb,xo+k,none⟩=some (.bool true):=by rw [HB0.out.cell (lt_of_cell p0)];exact p0
  have HW:Hid (w.alloc (.cells #[.slice (some ⟨xb,xo,none⟩) n c,.int .i64 (n:Int),.slice (some ⟨g,0,none⟩) m m] 89)=W0):=hW0.symm
  clear hW0 p0
  go_enter Try.func53,Try.ntmps53
  go_upto_region 1 with fail
  rw [HW.out]
  obtain ⟨x0,x1,x2⟩:=HX.out
  have hq:=lt_of_cell x0
  have hxb:=lt_of_cell p1
  go_wp2_with fail
  have DX:Rb W0.drew w.heap.size (some ⟨xb,xo,none⟩) c n m g:=HX.out.kept (S:=fun _=>False) (Kept.refl _ _).drew (fun h=>h)
  have DP:W0.drew.cell? ⟨xb,xo+k,none⟩=some (.bool true):=p1
  have HBD:Hid (Below w.heap.size w W0.drew):=HB0.out.drew
  clear HW HB0
  go_region_held3 (fun w'=>w'.cell? ⟨w.heap.size,0,none⟩=some (.slice (some ⟨xb,xo,none⟩) n c)/\w'.cell? ⟨w.heap.size,1,none⟩=some (.int .i64 (n:Int))/\w'.cell? ⟨w.heap.size,2,none⟩=some (.slice (some ⟨g,0,none⟩) m m)/\w'.cell? ⟨xb,xo+k,none⟩=some (.bool true)) ((first|exact ⟨DX.c0,DX.c1,DX.c2,DP⟩|exact ⟨EX.c0,EX.c1,EX.c2,EP⟩|exact ⟨FX.c0,FX.c1,FX.c2,FP⟩)) ((first|(go_at_call 60;refine (iFork _ c n m g (k:Int) (p:Int) _).mono ?_;rintro e w1 ⟨bb,rfl,hbb,hR1,hK1,hP1,hb1⟩;have EX:=DX.below hb1;have EP:w1.cell? ⟨xb,xo+k,none⟩=some (.bool true):=(by rw [hb1.cell (lt_of_cell DP)];exact DP);have HR1:Hid (Rb w1 bb (some ⟨xb,xo,none⟩) c n m g/\Nb w1 (bb+1) (k:Int)/\Nb w1 (bb+1+1) (p:Int)):=⟨hR1,hK1,hP1⟩;have HB1:Hid (Below w.heap.size w w1):=HBD.out.trans (hb1.mono HBD.out.size);clear hR1 hK1 hP1 hb1 hbb)|(go_at_call 77;refine (HFL.out _ _ _ _).mono ?_;rintro e w2 ⟨rfl,hb2⟩;have FX:=EX.below hb2;have FP:w2.cell? ⟨xb,xo+k,none⟩=some (.bool true):=(by rw [hb2.cell (lt_of_cell EP)];exact EP);have HR2:Hid (Rb w2 bb (some ⟨xb,xo,none⟩) c n m g/\Nb w2 (bb+1) (k:Int)/\Nb w2 (bb+1+1) (p:Int)):=⟨HR1.out.1.below hb2,HR1.out.2.1.below hb2,HR1.out.2.2.below hb2⟩;have HB2:Hid (Below w.heap.size w w2):=HB1.out.trans (hb2.mono HB1.out.size);clear hb2)))
  all_goals
   go_wp2_with fail
   refine (HEV.out _ bb (bb+1) (bb+1+1) HR2.out.1 HR2.out.2.1 HR2.out.2.2 HB2.out).mono ?_
   rintro e w3 ⟨rfl,hb3⟩
   have HB3:Hid (Below w.heap.size w w3):=HB2.out.trans (hb3.mono HB2.out.size)
   clear hb3 FX FP EX EP DX DP x0 x1 x2 p1
   go_wp2
   go_ret
   exact ⟨rfl,HB3.out⟩
theorem verdict {row:List Bool} {G:Nat->Bool} {ra:Option Addr} {c n g:Nat} (hn:n<=12) (hrn:row.length=n) (d:Nat) (hd:d<=n):VC row G ra c n g (n - d):=by
 induction d with
 | zero=>exact vc_end hn hrn
 | succ d ih =>
   have h:=ih (by omega)
   rw [show n - d=(n - (d+1))+1 by omega] at h
   exact vc_step h hn hrn (by omega)
end Dp3
end Go.Proofs.Ytfhdbcfhhbdiiaa
