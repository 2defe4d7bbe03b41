import Derived.Test.YtbellafdjfliiaaGreatPkBOM11
import Derived.Test.YtbellafdjfliiaaGreatPkBOM18
import Derived.Test.YtbellafdjfliiaaGreatPkBOM24
import Derived.Test.YtbellafdjfliiaaGreatPkBOM27
import Derived.Test.YtbellafdjfliiaaGreatPkBOM29
import Derived.Test.YtbellafdjfliiaaGreatPb14
import Derived.Test.YtbellafdjfliiaaGreatPkBOM25
namespace Go.Proofs.YtbellafdjfliiaaGreat
set_option maxRecDepth 100000
set_option maxHeartbeats 8000000
set_option linter.unusedVariables false
namespace Lbo1
open Go.RowKit
open Nd0 Nd3 Tm0 Tm6 Tm11 Dw0 Dw5 Dw8 Lw4 Aq0 Aq13 Vl1 Vl5 Ic4 Jn4 Jn5 Jn6 Dbo1
open Dr0 (Cur Only Bytes Off)
open Lx1 (ITermOk)
open Lx4 (IPrune)
open Lx6 (ISentence IBits)
open Lw5 (sameNodes)
open Sv7 (sHolds)
open Am11 (sBoth)
open Pb1 (iVars)
open Pb3 (iDeny)
open Pb14 (iBoth)
open Ws1 (ret_int ret_bool)
theorem drawn {B:Nat} {u w:World} (h:Below B u w) (m:Nat):Below B u (w.drewN m):=⟨h.os,h.tape,h.output,h.size,h.block⟩
theorem h01 {l:List Nd}:(holdsL l).getD 0=0\/(holdsL l).getD 0=1:=by
 cases h:holdsL l with
 | none=>exact .inl rfl
 | some x=>exact (holds_parts h).2.2.2
theorem facts {L M:List Nd} (h:bothB L M=true) :
 sentB (bothR L M)=true/\(1<=(bothR L M).length/\(bothR L M).length<=80)/\(0<=bitsL L/\bitsL L<=640)/\(0<=bitsL M/\bitsL M<=640)/\bitsL (bothR L M)=bitsL L+bitsL M /\
 ((holdsL (bothR L M)).isSome=true->(holdsL (bothR L M)).getD 0=bits .and .i64 ((holdsL L).getD 0) ((holdsL M).getD 0)) /\
 (behB (bothR L M) (denN (bothR L M))=true->(holdsL (behL (bothR L M) (denN (bothR L M)))).isSome=true->(holdsL (behL (bothR L M) (denN (bothR L M)))).getD 0=1 - (holdsL (bothR L M)).getD 0) /\
 (varsL (bothR L M)).length<=(varsL L).length+(varsL M).length/\(varsL L).length<=8/\(varsL M).length<=8:=by
 obtain ⟨hs,hb⟩:=both_sent h
 have hh:=h
 unfold bothB at hh
 simp only [Bool.and_eq_true] at hh
 obtain ⟨⟨⟨hA,hB⟩,_⟩,_⟩:=hh
 have bb:∀ {l:List Nd},sentB l=true->0<=bitsL l/\bitsL l<=640:=fun {l} hl=>by
  have h1:=bits_bound (sent_ok hl) l.length (Nat.le_refl _)
  have h2:=(term_len (sent_ok hl)).2
  unfold bitsL
  rw [hl,if_pos rfl]
  omega
 have v8:∀ l:List Nd,(varsL l).length<=8:=fun l=>by
  rw [vars_count]
  exact Nat.le_trans (List.length_filter_le _ _) (by simp)
 refine ⟨hs,⟨(term_len (sent_ok hs)).1,bothR_le L M⟩,bb hA,bb hB,hb,fun h1=>?_,fun h1 h2=>?_,both_vars h,v8 L,v8 M⟩
 ·obtain ⟨z,hz⟩:=Option.isSome_iff_exists.1 h1
  obtain ⟨x,y,hx,hy,x01,y01,e⟩:=both_holds h hz
  rw [hz,hx,hy]
  show z=_
  rw [e]
  exact (Bt0.band (by show 0<=x/\x<=255;omega) (by show 0<=y/\y<=255;omega)).symm
 ·obtain ⟨n,hn⟩:=Option.isSome_iff_exists.1 h2
  rw [hn]
  exact deny_holds hs h1 hn
theorem lawBoth (hTO:ITermOk) (hSE:ISentence) (hBI:IBits) (hHO:IHolds) (hPR:IPrune) (w:World) (a:Option Addr) (len cap:Nat) (hb:Bytes w a len) :
 Calls Tryz.prog 3 #[.slice a len cap] w fun e w'=>e=.returned (.bool true)/\Below w.heap.size w w':=by
 have HB:Hid (Bytes w a len):=hb
 have HTO:Hid ITermOk:=hTO
 have HSE:Hid ISentence:=hSE
 have HBI:Hid IBits:=hBI
 have HHO:Hid IHolds:=hHO
 have HPR:Hid IPrune:=hPR
 clear hTO hSE hBI hHO hPR
 by_cases hs:1048576 < len
 ·clear hb
  go_enter Tryz.func3,Tryz.ntmps3
  go_wp2_with fail
  refine (lbig _ a len cap true (by simp;omega)).mono ?_
  rintro e w' ⟨rfl,rfl⟩
  go_wp2
  go_ret
  exact ⟨rfl,Below.refl _ _⟩
 have hsl:len<=1048576:=by omega
 clear hb
 go_enter Tryz.func3,Tryz.ntmps3
 go_wp2_with fail
 refine (lbig _ a len cap false (by simp;omega)).mono ?_
 rintro e w0 ⟨rfl,hz⟩
 have hz':=hz.symm
 clear hz
 subst hz'
 go_wp2_with fail
 refine (drawBoth _ a len cap HB.out).mono ?_
 rintro e w1 ⟨g,c,L,g2,c2,M,rfl,hn,hm,hb1,⟨hl1,hl2,hcL⟩,⟨hm1,hm2,hcM⟩⟩
 have HCL:Hid (L.length<=c):=hcL
 have HCM:Hid (M.length<=c2):=hcM
 have HN1:Hid (Nodes w1 (some ⟨g,0,none⟩) L):=hn
 have HM1:Hid (Nodes w1 (some ⟨g2,0,none⟩) M):=hm
 have HB1:Hid (Below w.heap.size w w1):=hb1
 clear hn hm hb1 hcL hcM
 obtain ⟨U,hU⟩:∃ U,U=bothR L M:=⟨_,rfl⟩
 have hul:U.length<=80:=by rw [hU];exact bothR_le L M
 have HIF:Hid (∀ W,Nodes W (some ⟨g,0,none⟩) L->Nodes W (some ⟨g2,0,none⟩) M->Calls Tryz.prog 6 #[.slice (some ⟨g,0,none⟩) L.length c,.slice (some ⟨g2,0,none⟩) M.length c2] W fun e w'=>(∃ a' c',e=.returned (.tuple #[.slice a' U.length c',.bool (bothB L M)])/\WNodes w' W.heap.size a' U/\U.length<=c')/\Below W.heap.size W w'):=fun W h1 h2=>by
  rw [hU];exact iBoth HTO.out HSE.out W _ _ L M c c2 h1 h2 HCL.out HCM.out (by omega) (by omega)
 have HSF:Hid (∀ W,Nodes W (some ⟨g,0,none⟩) L->Nodes W (some ⟨g2,0,none⟩) M->Calls Tryz.prog 7 #[.slice (some ⟨g,0,none⟩) L.length c,.slice (some ⟨g2,0,none⟩) M.length c2] W fun e w'=>(∃ a' c',e=.returned (.tuple #[.slice a' U.length c',.bool (bothB L M)])/\WNodes w' W.heap.size a' U)/\Below W.heap.size W w'):=fun W h1 h2=>by
  rw [hU];exact sBoth W _ _ L M c c2 h1 h2
 cases hT:bothB L M
 ·have hu:U=[]:=by rw [hU];exact both_no hT
  rw [hT] at HIF HSF
  clear hT hU hul
  subst hu
  go_wp2_with fail
  refine (HIF.out _ HN1.out HM1.out).mono ?_
  rintro e w2 ⟨⟨a2,c3,rfl,hw2,hc2⟩,hb2⟩
  have HN2:Hid (Nodes w2 (some ⟨g,0,none⟩) L):=HN1.out.below hb2
  have HM2:Hid (Nodes w2 (some ⟨g2,0,none⟩) M):=HM1.out.below hb2
  have HU2:Hid (Nodes w2 a2 []):=hw2.nodes
  have HB2:Hid (Below w.heap.size w w2):=HB1.out.trans (hb2.mono HB1.out.size)
  clear hw2 hc2 hb2 HN1 HM1 HB1 HIF
  go_wp2_with fail
  refine (HSF.out _ HN2.out HM2.out).mono ?_
  rintro e w3 ⟨⟨a3,c4,rfl,hw3⟩,hb3⟩
  have HU3:Hid (Nodes w3 a2 []):=HU2.out.below hb3
  have HV3:Hid (Nodes w3 a3 []):=hw3.nodes
  have HB3:Hid (Below w.heap.size w w3):=HB2.out.trans (hb3.mono HB2.out.size)
  clear hw3 hb3 HN2 HM2 HB2 HU2 HSF
  go_wp2_with fail
  refine (sameNodes _ a2 a3 [] c3 c4 HU3.out HV3.out).mono ?_
  rintro e w4 ⟨rfl,m,rfl⟩
  have HB4:Hid (Below w.heap.size w (w3.drewN m)):=drawn HB3.out m
  go_wp2_with fail
  go_ret
  exact ⟨rfl,HB4.out⟩
 ·have HF:=facts hT
  rw [<- hU] at HF
  obtain ⟨fS,⟨fu1,_⟩,⟨fl0,fl1⟩,⟨fm0,fm1⟩,fb,fz,fn,fv,fv1,fv2⟩:=HF
  have HVU:Hid (∀ W aa cc,Nodes W aa U->U.length<=cc->Calls Tryz.prog 15 #[.slice aa U.length cc] W fun e w'=>(∃ a' c',e=.returned (.slice a' (varsL U).length c'))/\Below W.heap.size W w'):=fun W aa cc h1 h2=>(iVars HPR.out W aa U cc h1 h2 (by omega)).mono fun e w' ⟨⟨a',c',he,_⟩,hb⟩=>⟨⟨a',c',he⟩,hb⟩
  have HVL:Hid (∀ W,Nodes W (some ⟨g,0,none⟩) L->Calls Tryz.prog 15 #[.slice (some ⟨g,0,none⟩) L.length c] W fun e w'=>(∃ a' c',e=.returned (.slice a' (varsL L).length c'))/\Below W.heap.size W w'):=fun W h1=>(iVars HPR.out W _ L c h1 HCL.out (by omega)).mono fun e w' ⟨⟨a',c',he,_⟩,hb⟩=>⟨⟨a',c',he⟩,hb⟩
  have HVM:Hid (∀ W,Nodes W (some ⟨g2,0,none⟩) M->Calls Tryz.prog 15 #[.slice (some ⟨g2,0,none⟩) M.length c2] W fun e w'=>(∃ a' c',e=.returned (.slice a' (varsL M).length c'))/\Below W.heap.size W w'):=fun W h1=>(iVars HPR.out W _ M c2 h1 HCM.out (by omega)).mono fun e w' ⟨⟨a',c',he,_⟩,hb⟩=>⟨⟨a',c',he⟩,hb⟩
  generalize (varsL U).length=vu at HVU fv
  generalize (varsL L).length=vl at HVL fv fv1
  generalize (varsL M).length=vm at HVM fv fv2
  have HBU:Hid (∀ W aa cc,Nodes W aa U->U.length<=cc->Calls Tryz.prog 13 #[.slice aa U.length cc] W fun e w'=>e=.returned (.int .i64 (bitsL U))/\Below W.heap.size W w'):=fun W aa cc h1 h2=>HBI.out W aa U cc h1 h2 (by omega)
  have HBL:Hid (∀ W,Nodes W (some ⟨g,0,none⟩) L->Calls Tryz.prog 14 #[.slice (some ⟨g,0,none⟩) L.length c] W fun e w'=>e=.returned (.int .i64 (bitsL L))/\Below W.heap.size W w'):=fun W h1=>Sp12.sBits W _ L c h1
  have HBM:Hid (∀ W,Nodes W (some ⟨g2,0,none⟩) M->Calls Tryz.prog 14 #[.slice (some ⟨g2,0,none⟩) M.length c2] W fun e w'=>e=.returned (.int .i64 (bitsL M))/\Below W.heap.size W w'):=fun W h1=>Sp12.sBits W _ M c2 h1
  rw [fb] at HBU
  generalize bitsL L=bl at HBU HBL fl0 fl1
  generalize bitsL M=bm at HBU HBM fm0 fm1
  have HSU:Hid (∀ W aa cc,Nodes W aa U->U.length<=cc->Calls Tryz.prog 12 #[.slice aa U.length cc] W fun e w'=>e=.returned (.bool true)/\Below W.heap.size W w'):=fun W aa cc h1 h2=>by rw [<- fS];exact HSE.out W aa U cc h1 h2 (by omega)
  have HXL:Hid (∀ W,Nodes W (some ⟨g,0,none⟩) L->Calls Tryz.prog 9 #[.slice (some ⟨g,0,none⟩) L.length c] W fun x w'=>x=.returned (.tuple #[.int .i64 ((holdsL L).getD 0),.bool (holdsL L).isSome])/\Below W.heap.size W w'):=fun W h1=>sHolds W _ L c h1
  have HXM:Hid (∀ W,Nodes W (some ⟨g2,0,none⟩) M->Calls Tryz.prog 9 #[.slice (some ⟨g2,0,none⟩) M.length c2] W fun x w'=>x=.returned (.tuple #[.int .i64 ((holdsL M).getD 0),.bool (holdsL M).isSome])/\Below W.heap.size W w'):=fun W h1=>sHolds W _ M c2 h1
  have HZU:Hid (∀ W aa cc,Nodes W aa U->U.length<=cc->Calls Tryz.prog 10 #[.slice aa U.length cc] W fun x w'=>x=.returned (.tuple #[.int .i64 ((holdsL U).getD 0),.bool (holdsL U).isSome])/\Below W.heap.size W w'):=fun W aa cc h1 h2=>HHO.out W aa U cc h1 h2 (by omega)
  obtain ⟨V,hV⟩:∃ V,V=behL U (denN U):=⟨_,rfl⟩
  have hv81:V.length<=81:=by rw [hV];exact Nat.le_trans (behL_le _ _) (by omega)
  have HDU:Hid (∀ W gu ou cc,Nodes W (some ⟨gu,ou,none⟩) U->U.length<=cc->Calls Tryz.prog 11 #[.slice (some ⟨gu,ou,none⟩) U.length cc] W fun e w'=>(∃ a' c',e=.returned (.tuple #[.slice a' V.length c',.bool (behB U (denN U))])/\Nodes w' a' V/\V.length<=c')/\Below W.heap.size W w'):=fun W gu ou cc h1 h2=>by
   rw [hV]
   exact (iDeny HTO.out W gu ou U cc h1 h2 (by omega)).mono fun e w' ⟨⟨a',c',he,hn,hc⟩,hb⟩=>⟨⟨a',c',he,hn.nodes,hc⟩,hb⟩
  have HNV:Hid (∀ W aa cc,Nodes W aa V->V.length<=cc->Calls Tryz.prog 10 #[.slice aa V.length cc] W fun x w'=>x=.returned (.tuple #[.int .i64 ((holdsL V).getD 0),.bool (holdsL V).isSome])/\Below W.heap.size W w'):=fun W aa cc h1 h2=>HHO.out W aa V cc h1 h2 (by omega)
  rw [<- hV] at fn
  have hx01:(holdsL L).getD 0=0\/(holdsL L).getD 0=1:=h01
  have hy01:(holdsL M).getD 0=0\/(holdsL M).getD 0=1:=h01
  have hz01:(holdsL U).getD 0=0\/(holdsL U).getD 0=1:=h01
  generalize (holdsL L).getD 0=x at HXL fz hx01
  generalize (holdsL L).isSome=okx at HXL
  generalize (holdsL M).getD 0=y at HXM fz hy01
  generalize (holdsL M).isSome=oky at HXM
  generalize (holdsL U).getD 0=z at HZU fz fn hz01
  generalize (holdsL U).isSome=fine at HZU fz
  generalize (holdsL V).getD 0=n at HNV fn
  generalize (holdsL V).isSome=sure at HNV fn
  generalize behB U (denN U)=good at HDU fn
  rw [hT] at HIF HSF
  have HFZ:Hid (fine=true->z=bits .and .i64 x y):=fz
  have HFN:Hid (good=true->sure=true->n=1 - z):=fn
  have HU1:Hid (1<=U.length):=fu1
  have hw1:IntKind.i64.wrap (bl+bm)=bl+bm:=by rw [IntKind.wrap_i64]<;>omega
  have hvz:(vu:Int)<=(vl:Int)+(vm:Int):=by omega
  clear hT hU fS fb fz fn fu1 hV HTO HSE HBI HHO HPR fv
  go_wp2_with fail
  refine (HIF.out _ HN1.out HM1.out).mono ?_
  rintro e w2 ⟨⟨a2,c3,rfl,hw2,hc2⟩,hb2⟩
  obtain ⟨gu,ou,rfl⟩:∃ gu ou,a2=some ⟨gu,ou,none⟩:=by
   rcases hw2.2 with h0|⟨b',o',he,_⟩
   ·have:=HU1.out;omega
   ·exact ⟨b',o',he⟩
  have HCU:Hid (U.length<=c3):=hc2
  have HN2:Hid (Nodes w2 (some ⟨g,0,none⟩) L):=HN1.out.below hb2
  have HM2:Hid (Nodes w2 (some ⟨g2,0,none⟩) M):=HM1.out.below hb2
  have HU2:Hid (Nodes w2 (some ⟨gu,ou,none⟩) U):=hw2.nodes
  have HB2:Hid (Below w.heap.size w w2):=HB1.out.trans (hb2.mono HB1.out.size)
  clear hw2 hc2 hb2 HN1 HM1 HB1 HIF
  go_wp2_with fail
  refine (HSF.out _ HN2.out HM2.out).mono ?_
  rintro e w3 ⟨⟨a3,c4,rfl,hw3⟩,hb3⟩
  have HN3:Hid (Nodes w3 (some ⟨g,0,none⟩) L):=HN2.out.below hb3
  have HM3:Hid (Nodes w3 (some ⟨g2,0,none⟩) M):=HM2.out.below hb3
  have HU3:Hid (Nodes w3 (some ⟨gu,ou,none⟩) U):=HU2.out.below hb3
  have HV3:Hid (Nodes w3 a3 U):=hw3.nodes
  have HB3:Hid (Below w.heap.size w w3):=HB2.out.trans (hb3.mono HB2.out.size)
  clear hw3 hb3 HN2 HM2 HB2 HU2 HSF
  go_wp2_with fail
  refine (sameNodes _ _ a3 U c3 c4 HU3.out HV3.out).mono ?_
  rintro e w4 ⟨rfl,m,hw4⟩
  have hbd:Below w3.heap.size w3 w4:=by rw [hw4];exact drawn (Below.refl _ _) m
  have HN4:Hid (Nodes w4 (some ⟨g,0,none⟩) L):=HN3.out.below hbd
  have HM4:Hid (Nodes w4 (some ⟨g2,0,none⟩) M):=HM3.out.below hbd
  have HU4:Hid (Nodes w4 (some ⟨gu,ou,none⟩) U):=HU3.out.below hbd
  have HB4:Hid (Below w.heap.size w w4):=HB3.out.trans (hbd.mono HB3.out.size)
  clear hw4 hbd HN3 HM3 HU3 HV3 HB3
  go_wp2_with fail
  refine (HXL.out _ HN4.out).mono ?_
  rintro e w5 ⟨rfl,hb5⟩
  have HN5:Hid (Nodes w5 (some ⟨g,0,none⟩) L):=HN4.out.below hb5
  have HM5:Hid (Nodes w5 (some ⟨g2,0,none⟩) M):=HM4.out.below hb5
  have HU5:Hid (Nodes w5 (some ⟨gu,ou,none⟩) U):=HU4.out.below hb5
  have HB5:Hid (Below w.heap.size w w5):=HB4.out.trans (hb5.mono HB4.out.size)
  clear hb5 HN4 HM4 HU4 HB4 HXL
  go_wp2_with fail
  refine (HXM.out _ HM5.out).mono ?_
  rintro e w6 ⟨rfl,hb6⟩
  have HN6:Hid (Nodes w6 (some ⟨g,0,none⟩) L):=HN5.out.below hb6
  have HM6:Hid (Nodes w6 (some ⟨g2,0,none⟩) M):=HM5.out.below hb6
  have HU6:Hid (Nodes w6 (some ⟨gu,ou,none⟩) U):=HU5.out.below hb6
  have HB6:Hid (Below w.heap.size w w6):=HB5.out.trans (hb6.mono HB5.out.size)
  clear hb6 HN5 HM5 HU5 HB5 HXM
  go_wp2_with fail
  refine (HZU.out _ _ _ HU6.out HCU.out).mono ?_
  rintro e w7 ⟨rfl,hb7⟩
  have HN7:Hid (Nodes w7 (some ⟨g,0,none⟩) L):=HN6.out.below hb7
  have HM7:Hid (Nodes w7 (some ⟨g2,0,none⟩) M):=HM6.out.below hb7
  have HU7:Hid (Nodes w7 (some ⟨gu,ou,none⟩) U):=HU6.out.below hb7
  have HB7:Hid (Below w.heap.size w w7):=HB6.out.trans (hb7.mono HB6.out.size)
  clear hb7 HN6 HM6 HU6 HB6 HZU
  go_wp2_with fail
  refine (HDU.out _ _ _ _ HU7.out HCU.out).mono ?_
  rintro e w8 ⟨⟨a8,c8,rfl,hn8,hc8⟩,hb8⟩
  have HV8:Hid (Nodes w8 a8 V/\V.length<=c8):=⟨hn8,hc8⟩
  have HN8:Hid (Nodes w8 (some ⟨g,0,none⟩) L):=HN7.out.below hb8
  have HM8:Hid (Nodes w8 (some ⟨g2,0,none⟩) M):=HM7.out.below hb8
  have HU8:Hid (Nodes w8 (some ⟨gu,ou,none⟩) U):=HU7.out.below hb8
  have HB8:Hid (Below w.heap.size w w8):=HB7.out.trans (hb8.mono HB7.out.size)
  clear hb8 hn8 hc8 HN7 HM7 HU7 HB7 HDU
  go_wp2_with fail
  refine (HNV.out _ _ _ HV8.out.1 HV8.out.2).mono ?_
  rintro e w9 ⟨rfl,hb9⟩
  have HN9:Hid (Nodes w9 (some ⟨g,0,none⟩) L):=HN8.out.below hb9
  have HM9:Hid (Nodes w9 (some ⟨g2,0,none⟩) M):=HM8.out.below hb9
  have HU9:Hid (Nodes w9 (some ⟨gu,ou,none⟩) U):=HU8.out.below hb9
  have HB9:Hid (Below w.heap.size w w9):=HB8.out.trans (hb9.mono HB8.out.size)
  clear hb9 HN8 HM8 HU8 HB8 HNV HV8
  go_wp2_with fail
  refine (HSU.out _ _ _ HU9.out HCU.out).mono ?_
  rintro e w10 ⟨rfl,hb10⟩
  have HN10:Hid (Nodes w10 (some ⟨g,0,none⟩) L):=HN9.out.below hb10
  have HM10:Hid (Nodes w10 (some ⟨g2,0,none⟩) M):=HM9.out.below hb10
  have HU10:Hid (Nodes w10 (some ⟨gu,ou,none⟩) U):=HU9.out.below hb10
  have HB10:Hid (Below w.heap.size w w10):=HB9.out.trans (hb10.mono HB9.out.size)
  clear hb10 HN9 HM9 HU9 HB9 HSU
  go_wp2_with fail
  refine (HBU.out _ _ _ HU10.out HCU.out).mono ?_
  rintro e w11 ⟨rfl,hb11⟩
  have HN11:Hid (Nodes w11 (some ⟨g,0,none⟩) L):=HN10.out.below hb11
  have HM11:Hid (Nodes w11 (some ⟨g2,0,none⟩) M):=HM10.out.below hb11
  have HU11:Hid (Nodes w11 (some ⟨gu,ou,none⟩) U):=HU10.out.below hb11
  have HB11:Hid (Below w.heap.size w w11):=HB10.out.trans (hb11.mono HB10.out.size)
  clear hb11 HN10 HM10 HU10 HB10 HBU
  go_wp2_with fail
  refine (HBL.out _ HN11.out).mono ?_
  rintro e w12 ⟨rfl,hb12⟩
  have HN12:Hid (Nodes w12 (some ⟨g,0,none⟩) L):=HN11.out.below hb12
  have HM12:Hid (Nodes w12 (some ⟨g2,0,none⟩) M):=HM11.out.below hb12
  have HU12:Hid (Nodes w12 (some ⟨gu,ou,none⟩) U):=HU11.out.below hb12
  have HB12:Hid (Below w.heap.size w w12):=HB11.out.trans (hb12.mono HB11.out.size)
  clear hb12 HN11 HM11 HU11 HB11 HBL
  go_wp2_with fail
  refine (HBM.out _ HM12.out).mono ?_
  rintro e w13 ⟨rfl,hb13⟩
  have HN13:Hid (Nodes w13 (some ⟨g,0,none⟩) L):=HN12.out.below hb13
  have HM13:Hid (Nodes w13 (some ⟨g2,0,none⟩) M):=HM12.out.below hb13
  have HU13:Hid (Nodes w13 (some ⟨gu,ou,none⟩) U):=HU12.out.below hb13
  have HB13:Hid (Below w.heap.size w w13):=HB12.out.trans (hb13.mono HB12.out.size)
  clear hb13 HN12 HM12 HU12 HB12 HBM
  have HWZ:Hid (IntKind.i64.wrap (1 - z)=1 - z):=by show _=_;rw [IntKind.wrap_i64]<;>omega
  have HWV:Hid (IntKind.i64.wrap ((vl:Int)+(vm:Int))=(vl:Int)+(vm:Int)):=by show _=_;rw [IntKind.wrap_i64]<;>omega
  have hb9:(bl+bm==bl+bm)=true:=by simp
  have HZ9:Hid (fine=true->(z==bits .and .i64 x y)=true):=fun h=>by rw [HFZ.out h];simp
  have HN9:Hid (good=true->sure=true->(n==1 - z)=true):=fun h1 h2=>by rw [HFN.out h1 h2];simp
  have HVZ:Hid ((vu:Int)<=(vl:Int)+(vm:Int)):=hvz
  clear HFZ HFN hx01 hy01 hz01 hvz
  cases fine<;>cases good<;>cases sure
  all_goals
   first
    | have hz9:=HZ9.out rfl
    | skip
   first
    | (have hn9:=HN9.out rfl rfl
       have hwz:=HWZ.out)
    | skip
   clear HZ9 HN9 HWZ
   go_wp2_with fail
   try clear hz9
   try clear hn9 hwz
   refine (HVU.out _ _ _ HU13.out HCU.out).mono ?_
   rintro e w14 ⟨⟨a14,c14,rfl⟩,hb14⟩
   have HN14:Hid (Nodes w14 (some ⟨g,0,none⟩) L):=HN13.out.below hb14
   have HM14:Hid (Nodes w14 (some ⟨g2,0,none⟩) M):=HM13.out.below hb14
   have HB14:Hid (Below w.heap.size w w14):=HB13.out.trans (hb14.mono HB13.out.size)
   clear hb14 HN13 HM13 HU13 HB13 HVU
   go_wp2_with fail
   refine (HVL.out _ HN14.out).mono ?_
   rintro e w15 ⟨⟨a15,c15,rfl⟩,hb15⟩
   have HM15:Hid (Nodes w15 (some ⟨g2,0,none⟩) M):=HM14.out.below hb15
   have HB15:Hid (Below w.heap.size w w15):=HB14.out.trans (hb15.mono HB14.out.size)
   clear hb15 HN14 HM14 HB14 HVL
   go_wp2_with fail
   refine (HVM.out _ HM15.out).mono ?_
   rintro e w16 ⟨⟨a16,c16,rfl⟩,hb16⟩
   have HB16:Hid (Below w.heap.size w w16):=HB15.out.trans (hb16.mono HB15.out.size)
   clear hb16 HM15 HB15 HVM
   have hwv:=HWV.out
   have hvz:=HVZ.out
   go_wp2_with fail
   go_ret
   exact ⟨rfl,HB16.out⟩
end Lbo1
namespace Pg3
open Go.RowKit
open Nd0 Tm0 Tm5 Pl1 Ap0 Pg1 Pg2
open Ws1 (ret_int ret_bool)
def used (n:Nd):Nd :=
 ⟨n.op,n.w,if numbered n.op then n.k else 0,if 0 < cnt n.op then n.a else 0,if 1 < cnt n.op\/quant n.op=true then n.b else 0,if 2 < cnt n.op then n.c else 0⟩
theorem iUsed (n:Nd) (w:World) :
 Calls Tryz.prog 85 #[.agg #[.int .i64 n.op,.int .i64 n.w,.int .i64 n.k,.int .i64 n.a,.int .i64 n.b,.int .i64 n.c]] w fun e w'=>e=.returned (.agg #[.int .i64 (used n).op,.int .i64 (used n).w,.int .i64 (used n).k,.int .i64 (used n).a,.int .i64 (used n).b,.int .i64 (used n).c])/\Below w.heap.size w w':=by
 have HU:∀ m:Nd,m=used n->Hid (m=used n):=fun m h=>h
 have hc3:=cnt_le n.op
 have HC:Hid (cnt n.op=0\/cnt n.op=1\/cnt n.op=2\/cnt n.op=3):=by show _\/_;omega
 have HV:Hid (used n=⟨n.op,n.w,if numbered n.op then n.k else 0,if 0 < cnt n.op then n.a else 0,if 1 < cnt n.op\/quant n.op=true then n.b else 0,if 2 < cnt n.op then n.c else 0⟩):=rfl
 clear HU hc3
 generalize used n=u at HV ⊢
 cases hn:numbered n.op<;>cases hq:quant n.op<;>rcases HC.out with hc|hc|hc|hc
 all_goals
  have HN:Hid (numbered n.op=_):=hn
  have HQ:Hid (quant n.op=_):=hq
  have HK:Hid (cnt n.op=_):=hc
  go_enter Tryz.func85,Tryz.ntmps85
  go_wp2_with (first|(go_at_call 76;refine (iCount _ _).mono ?_;rintro e w' ⟨rfl,rfl⟩;rw [hc])|(go_at_call 95;refine (iNumbered _ _).mono ?_;rintro e w' ⟨rfl,rfl⟩;rw [hn])|(go_at_call 71;refine (iQuant _ _).mono ?_;rintro e w' ⟨rfl,rfl⟩;rw [hq]))
  refine bodyPost_ret (v:=.agg #[.int .i64 u.op,.int .i64 u.w,.int .i64 u.k,.int .i64 u.a,.int .i64 u.b,.int .i64 u.c]) ?_ rfl ⟨rfl,?_⟩
  ·have h9:=HV.out
   rw [HN.out,HQ.out,HK.out] at h9
   simp at h9
   subst h9
   simp [results,Tryz.results85,go_sem]
  ·exact (((Below.refl _ _).alloc (Nat.le_refl _) _).alloc (by simp) _).alloc (by simp;omega) _
def pahead (n:Nd) (i:Int):Bool:=(parts n).all fun p=>decide (0<=p/\p < i)
theorem iAhead (n:Nd) (i:Int) (w:World) :
 Calls Tryz.prog 86 #[.agg #[.int .i64 n.op,.int .i64 n.w,.int .i64 n.k,.int .i64 n.a,.int .i64 n.b,.int .i64 n.c],.int .i64 i] w fun e w'=>e=.returned (.bool (pahead n i))/\Below w.heap.size w w':=by
 go_enter Tryz.func86,Tryz.ntmps86
 go_wp2_with fail
 refine (iParts n _).mono ?_
 rintro e w1 ⟨⟨pa,pc,rfl,hpi⟩,hb1⟩
 have HP:Hid (Ints w1 pa (parts n)):=hpi.ints
 have HB1:Hid (Below w.heap.size w w1):=((Below.refl _ _).alloc (Nat.le_refl _) _).trans (hb1.mono (by simp))
 have hpl:=parts_le n
 clear hpi hb1
 go_wp2_with fail
 go_loop [10] (fun q=>∃ k:Nat,k<=(parts n).length/\q=.int .i64 k/\∀ j (h:j < (parts n).length),j < k->0<=(parts n)[j]/\(parts n)[j] < i) (fun q=>(parts n).length - (intOf q).toNat)
 case atStart=>exact ⟨0,Nat.zero_le _,rfl,fun j _ hj=>by omega⟩
 case round =>
  obtain ⟨k,hk,rfl,hall⟩:=hrel
  have HA:Hid (∀ j (h:j < (parts n).length),j < k->0<=(parts n)[j]/\(parts n)[j] < i):=hall
  clear hall
  by_cases hlt:k < (parts n).length
  ·have hlz:(k:Int) < ((parts n).length:Int):=by omega
   rcases HP.out.2 with h0|⟨pb,po,rfl,hpc⟩
   ·omega
   have pk:=hpc k hlt
   clear hpc
   have HBAD:Hid (¬ (0<=(parts n)[k]/\(parts n)[k] < i)->pahead n i=false):=by
    show _->_
    intro h
    unfold pahead
    rw [List.all_eq_false]
    exact ⟨_,List.getElem_mem hlt,by simpa using h⟩
   have HEQ:Hid (∀ x:Int,x=(parts n)[k]->(0<=x/\x < i)->∀ j (h:j < (parts n).length),j < k+1->0<=(parts n)[j]/\(parts n)[j] < i):=by
    show ∀ _,_
    intro x hx hxi j h hj
    by_cases e:j=k
    ·subst e;subst hx;exact hxi
    ·exact HA.out j h (by omega)
   obtain ⟨x,hx⟩:∃ x:Int,x=(parts n)[k]:=⟨_,rfl⟩
   rw [<- hx] at pk HBAD
   have HX:Hid (x=(parts n)[k]):=hx
   clear hx
   by_cases h1:x < 0
   ·go_wp2
    go_ret
    exact ⟨ret_bool (HBAD.out (by omega)).symm,HB1.out⟩
   ·by_cases h2:i<=x
    ·go_wp2
     go_ret
     exact ⟨ret_bool (HBAD.out (by omega)).symm,HB1.out⟩
    ·go_wp2
     go_round
     case rel=>exact ⟨k+1,by omega,by go_num,HEQ.out x HX.out ⟨by omega,by omega⟩⟩
     case measure=>simp [intOf];omega
  ·have HT:Hid (pahead n i=true):=by
    show pahead n i=true
    unfold pahead
    rw [List.all_eq_true]
    intro p hp
    obtain ⟨j,hj,rfl⟩:=List.getElem_of_mem hp
    simpa using HA.out j hj (by omega)
   go_wp2
   go_ret
   exact ⟨ret_bool HT.out.symm,HB1.out⟩
end Pg3
end Go.Proofs.YtbellafdjfliiaaGreat
