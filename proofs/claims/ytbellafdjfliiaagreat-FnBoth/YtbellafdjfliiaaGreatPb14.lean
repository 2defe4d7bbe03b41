import Derived.Test.YtbellafdjfliiaaGreatPkBOM29
import Derived.Test.YtbellafdjfliiaaGreatPkBOM30
import Derived.Test.YtbellafdjfliiaaGreatPkBOM32
import Derived.Test.YtbellafdjfliiaaGreatPb13
import Derived.Test.YtbellafdjfliiaaGreatPkBOM14
import Derived.Test.YtbellafdjfliiaaGreatPkBOM18
namespace Go.Proofs.YtbellafdjfliiaaGreat
set_option maxRecDepth 100000
set_option maxHeartbeats 8000000
set_option linter.unusedVariables false
namespace Pb14
open Go.RowKit
open Nd0 Nd3 Tm0 Tm6 Tm8 Tm11 Ap15 Aq0 Aq1 Aq13 Ar0 Pb3
open Ap2 (Own)
open Lx1 (ITermOk)
open Pb1 (iNumbersIn nm_of)
open Pb4 (TellK renG renF iRenumbered)
open Pb11 (iJoin)
open Pb13 (iNewNum)
theorem node_one (W:World) (op w k a b c:Int):∀ i (h:i < [(⟨op,w,k,a,b,c⟩:Nd)].length),NodeAt (W.alloc (.cells #[.int .i64 op,.int .i64 w,.int .i64 k,.int .i64 a,.int .i64 b,.int .i64 c] 53)) W.heap.size (0+i*6) [(⟨op,w,k,a,b,c⟩:Nd)][i]:=by
 intro i hi
 have e:i=0:=by simp at hi;omega
 subst e
 exact ⟨by simp,by simp,by simp,by simp,by simp,by simp⟩
def bothG (a b:List Nd) (k:Int):Int:=((nwK a b k.toNat:Nat):Int)
theorem tellB (w0:World) (G:Nat) (f:Ar) (a b:List Nd) (hf:∀ v,v < 8->f v=((nwK a b v:Nat):Int)) (h:ArAt w0 G 0 f) :
 TellK w0 24 #[.pointer (some ⟨G,0,none⟩)] (fun x=>0<=x/\x<=7) (bothG a b):=by
 intro W x hx hB
 obtain ⟨hx0,hx7⟩:=hx
 obtain ⟨v,rfl⟩:=Int.eq_ofNat_of_zero_le hx0
 have hv8:v < 8:=by omega
 have hvz:(v:Int) < 8:=by omega
 have h0:=h.at hv8
 rw [Nat.zero_add,hf v hv8] at h0
 have c0:W.cell? ⟨G,v,none⟩=some (.int .i64 ((nwK a b v:Nat):Int)):=(hB.cell (lt_of_cell h0)).trans h0
 have HE:Hid (bothG a b (v:Int)=((nwK a b v:Nat):Int)):=by show _=_;unfold bothG;rw [Int.toNat_natCast]
 clear h hf h0 hB hx7
 generalize ((nwK a b v:Nat):Int)=y at c0 HE
 go_enter Tryz.func24,Tryz.ntmps24
 go_wp2
 go_ret
 rw [HE.out]
 exact ⟨rfl,Below.refl _ _⟩
theorem both_fin {w W:World} {a b:List Nd} (h:bothB a b=false/\bothR a b=[]) (hB:Below w.heap.size w W) (g:Nat) :
 (∃ a' c',Ending.returned (.tuple #[.slice (some ⟨g,0,none⟩) 0 0,.bool false])=.returned (.tuple #[.slice a' (bothR a b).length c',.bool (bothB a b)])/\WNodes (W.alloc (.cells #[] 53)) w.heap.size a' (bothR a b)/\(bothR a b).length<=c')/\Below w.heap.size w (W.alloc (.cells #[] 53)):=by
 rw [h.1,h.2]
 exact ⟨⟨_,_,rfl,⟨Nat.zero_le _,.inl rfl⟩,Nat.zero_le _⟩,hB.alloc hB.size _⟩
theorem iBoth (hTO:ITermOk) (hSE:Lx6.ISentence) (w:World) (a1 a2:Option Addr) (l1 l2:List Nd) (c1 c2:Nat) (hN1:Nodes w a1 l1) (hN2:Nodes w a2 l2) (hc1:l1.length<=c1) (hc2:l2.length<=c2) (hl1:l1.length<=1048576) (hl2:l2.length<=1048576) :
 Calls Tryz.prog 6 #[.slice a1 l1.length c1,.slice a2 l2.length c2] w fun e w'=>(∃ a' c',e=.returned (.tuple #[.slice a' (bothR l1 l2).length c',.bool (bothB l1 l2)])/\WNodes w' w.heap.size a' (bothR l1 l2)/\(bothR l1 l2).length<=c')/\Below w.heap.size w w':=by
 have HN1:Hid (Nodes w a1 l1):=hN1
 have HN2:Hid (Nodes w a2 l2):=hN2
 have HTO:Hid ITermOk:=hTO
 have HSE:Hid Lx6.ISentence:=hSE
 have HC1:Hid (l1.length<=c1):=hc1
 have HC2:Hid (l2.length<=c2):=hc2
 clear hN1 hN2 hTO hSE hc1 hc2
 go_enter Tryz.func6,Tryz.ntmps6
 go_wp2_with fail
 refine (HSE.out _ _ l1 c1 HN1.out HC1.out hl1).mono ?_
 rintro e w1 ⟨rfl,hb1⟩
 have HB1:Hid (Below w.heap.size w w1):=hb1
 clear hb1
 cases hS1:sentB l1
 ·have HE:Hid (bothB l1 l2=false/\bothR l1 l2=[]):=both_1 hS1
  go_wp2
  go_ret2
  exact both_fin HE.out HB1.out _
 have HS1:Hid (sentB l1=true):=hS1
 clear hS1
 go_wp2_with fail
 refine (HSE.out _ _ l2 c2 (HN2.out.below HB1.out) HC2.out hl2).mono ?_
 rintro e w2 ⟨rfl,hb2⟩
 have HB2:Hid (Below w.heap.size w w2):=HB1.out.trans (hb2.mono HB1.out.size)
 clear hb2 HB1
 cases hS2:sentB l2
 ·have HE:Hid (bothB l1 l2=false/\bothR l1 l2=[]):=both_2 hS2
  go_wp2
  go_ret2
  exact both_fin HE.out HB2.out _
 have HS2:Hid (sentB l2=true):=hS2
 have HT1:Hid (termOk l1=true):=sent_ok HS1.out
 have HT2:Hid (termOk l2=true):=sent_ok hS2
 clear hS2
 obtain ⟨h11,h12⟩:=term_len HT1.out
 obtain ⟨h21,h22⟩:=term_len HT2.out
 go_wp2_with fail
 refine (iNumbersIn _ a1 l1 c1 (HN1.out.below HB2.out) (nm_of HT1.out) hl1).mono ?_
 rintro e w3 ⟨⟨s,rfl,hs⟩,hb3⟩
 have HHS:Hid (HasN s l1):=hs
 have HB3:Hid (Below w.heap.size w w3):=HB2.out.trans (hb3.mono HB2.out.size)
 clear hb3 hs
 go_wp2_with fail
 refine (iNumbersIn _ a2 l2 c2 (HN2.out.below HB3.out) (nm_of HT2.out) hl2).mono ?_
 rintro e w4 ⟨⟨t,rfl,ht⟩,hb4⟩
 have HHT:Hid (HasN t l2):=ht
 have HB4:Hid (Below w.heap.size w w4):=HB3.out.trans (hb4.mono HB3.out.size)
 clear hb4 ht HB2
 go_wp2_with fail
 refine (iNewNum s t l1 l2 HHS.out HHT.out _).mono ?_
 rintro e w5 ⟨⟨f,rfl,hf⟩,hb5⟩
 have HFV:Hid (enough l1 l2=true->∀ v,v < 8->f v=((nwK l1 l2 v:Nat):Int)):=hf
 have HB5:Hid (Below w.heap.size w w5):=HB4.out.trans (hb5.mono HB4.out.size)
 clear hb5 hf HB3
 obtain ⟨W5,hW5⟩:∃ W5:World,W5=w5.alloc (.cells #[.int .i64 (f 0),.int .i64 (f 1),.int .i64 (f 2),.int .i64 (f 3),.int .i64 (f 4),.int .i64 (f 5),.int .i64 (f 6),.int .i64 (f 7)] 42):=⟨_,rfl⟩
 have hb6:Below w5.heap.size w5 W5:=by rw [hW5];exact (Below.refl _ _).alloc (Nat.le_refl _) _
 have HB6:Hid (Below w.heap.size w W5):=HB5.out.trans (hb6.mono HB5.out.size)
 have HA6:Hid (ArAt W5 w5.heap.size 0 f):=by rw [hW5];exact ⟨by simp,by simp,by simp,by simp,by simp,by simp,by simp,by simp⟩
 clear hb6 HB4
 cases hen:enough l1 l2
 ·have HE:Hid (bothB l1 l2=false/\bothR l1 l2=[]):=both_3 hen
  go_upto_region 4 with fail
  rw [<- hW5]
  clear hW5
  go_wp2
  go_ret2
  exact both_fin HE.out HB6.out _
 have HE:Hid (bothB l1 l2=termOk (bothAll l1 l2)/\bothR l1 l2=if termOk (bothAll l1 l2) then bothAll l1 l2 else []):=both_4 HS1.out HS2.out hen
 have HTK:Hid (TellK W5 24 #[.pointer (some ⟨w5.heap.size,0,none⟩)] (fun x=>0<=x/\x<=7) (bothG l1 l2)):=tellB W5 _ f l1 l2 (HFV.out hen) HA6.out
 have HRN:Hid (Calls Tryz.prog 23 #[.slice a2 l2.length c2,.func (.func 24) #[] #[.pointer (some ⟨w5.heap.size,0,none⟩)]] W5 fun e w'=>(∃ a',e=.returned (.slice a' l2.length l2.length)/\WNodes w' W5.heap.size a' (l2.map (nwN l1 l2)))/\Below W5.heap.size W5 w') :=
  iRenumbered W5 a2 l2 c2 _ _ (fun x=>0<=x/\x<=7) (bothG l1 l2) (HN2.out.below HB6.out) (down_of HT2.out) hl2 (enters_of Tryz.func24 (by kernel_rfl) rfl) HTK.out (fun i hi hn=>by
   obtain ⟨kk,hk1,hk2⟩:=(nm_of HT2.out).2 i hi hn
   rw [hk1]
   omega)
 clear hen HTK HFV HHS HHT
 go_upto_region 4 with fail
 rw [<- hW5]
 clear hW5
 go_wp2_with fail
 refine HRN.out.mono ?_
 rintro e w6 ⟨⟨a6,rfl,hw6⟩,hb6⟩
 have HB7:Hid (Below w.heap.size w w6):=HB6.out.trans (hb6.mono HB6.out.size)
 obtain ⟨L,hL⟩:∃ L,L=l2.map (nwN l1 l2):=⟨_,rfl⟩
 have hLl:L.length=l2.length:=by rw [hL,List.length_map]
 have HLL:Hid (L.length=l2.length):=hLl
 have HND:Hid (Down L):=by rw [hL];exact down_map (down_of HT2.out) _ (nwN_parts l1 l2)
 rw [<- hL] at hw6
 have HN6:Hid (Nodes w6 a6 L):=hw6.nodes
 have HBA:Hid (bothAll l1 l2=joinL l1 L++[bothN l1 l2]):=by show _=_;rw [hL];rfl
 clear hw6 hb6 HRN HB5 HB6 HA6 hL
 obtain ⟨W6,hW6⟩:∃ W6:World,W6=w6.alloc (.cells #[.slice a1 l1.length c1,.slice a6 l2.length l2.length] 24):=⟨_,rfl⟩
 have hb7:Below w6.heap.size w6 W6:=by rw [hW6];exact (Below.refl _ _).alloc (Nat.le_refl _) _
 have HB8:Hid (Below w.heap.size w W6):=HB7.out.trans (hb7.mono HB7.out.size)
 have q0:W6.cell? ⟨w6.heap.size,0,none⟩=some (.slice a1 l1.length c1):=by rw [hW6,World.cell?_alloc_new];rfl
 have q1:W6.cell? ⟨w6.heap.size,0+1,none⟩=some (.slice a6 L.length l2.length):=by rw [hW6,World.cell?_alloc_new,hLl];rfl
 have HJ:Hid (Calls Tryz.prog 22 #[.slice (some ⟨w6.heap.size,0,none⟩) 2 2] W6 fun e w'=>(∃ g cp rg rc,e=.returned (.tuple #[.slice (some ⟨g,0,none⟩) (joinL l1 L).length cp,.slice (some ⟨rg,0,none⟩) 2 rc])/\Own w' W6.heap.size (.slice (some ⟨g,0,none⟩) (joinL l1 L).length cp) (joinL l1 L)/\w'.cell? ⟨rg,0,none⟩=some (.int .i64 ((l1.length:Int) - 1))/\w'.cell? ⟨rg,1,none⟩=some (.int .i64 ((l1.length:Int)+(L.length:Int) - 1))/\rg≠g)/\Below W6.heap.size W6 w') :=
  iJoin W6 w6.heap.size 0 2 a1 a6 l1 L c1 l2.length (HN1.out.below HB8.out) (HN6.out.below hb7) (down_of HT1.out) HND.out ⟨h11,h12⟩ ⟨by omega,by omega⟩ q0 q1
 clear q0 q1 hb7 HB7 HN6 hLl
 go_wp2_with fail
 rw [<- hW6]
 refine HJ.out.mono ?_
 rintro e w7 ⟨⟨g,cp,rg,rc,rfl,ho7,r0,r1,hrg⟩,hb7⟩
 have HB9:Hid (Below w.heap.size w w7):=HB8.out.trans (hb7.mono HB8.out.size)
 have HX:Hid (Nodes w7 (some ⟨g,0,none⟩) (joinL l1 L)):=by
  obtain ⟨av,cv,hv,hw⟩:=ho7.form
  simp only [Value.slice.injEq] at hv
  rw [hv.1]
  exact hw.nodes
 have HJL:Hid ((joinL l1 L).length<=160):=by show _<=_;rw [joinL_length,HLL.out];omega
 have HBN:Hid (bothN l1 l2=⟨3,1,0,(l1.length:Int) - 1,(l1.length:Int)+(L.length:Int) - 1,0⟩):=by show _=_;unfold bothN;rw [HLL.out]
 have HR:Hid (w7.cell? ⟨rg,0,none⟩=some (.int .i64 ((l1.length:Int) - 1))/\w7.cell? ⟨rg,1,none⟩=some (.int .i64 ((l1.length:Int)+(L.length:Int) - 1))):=⟨r0,r1⟩
 clear ho7 r0 r1 hrg hb7 HJ HB8 hW6
 obtain ⟨z0,hz0⟩:∃ z0:Int,z0=(l1.length:Int) - 1:=⟨_,rfl⟩
 obtain ⟨z1,hz1⟩:∃ z1:Int,z1=(l1.length:Int)+(L.length:Int) - 1:=⟨_,rfl⟩
 rw [<- hz0,<- hz1] at HBN HR
 clear hz0 hz1
 have HSX:Hid (∀ W,Below w7.heap.size w7 W->W.cell? ⟨rg,0,none⟩=some (.int .i64 z0)/\W.cell? ⟨rg,1,none⟩=some (.int .i64 z1)):=fun W hW=>⟨(hW.cell (lt_of_cell HR.out.1)).trans HR.out.1,(hW.cell (lt_of_cell HR.out.2)).trans HR.out.2⟩
 generalize joinL l1 L=X at HX HJL HBA ⊢
 have HYE:Hid (X++[⟨3,1,0,z0,z1,0⟩]=bothAll l1 l2):=by show _=_;rw [HBA.out,HBN.out]
 have HML:Hid (moreL (bothAll l1 l2)=bothR l1 l2/\termOk (bothAll l1 l2)=bothB l1 l2):=⟨HE.out.2.symm,HE.out.1.symm⟩
 clear HBA HBN HLL HND
 go_wp2_with fail
 refine wp_region_held_drew (S:=fun W=>W.cell? ⟨rg,0,none⟩=some (.int .i64 z0)/\W.cell? ⟨rg,1,none⟩=some (.int .i64 z1)) (by kernel_rfl) ⟨HR.out.1,HR.out.2⟩ (fun hHeld=>?_)
 refine wpAnyH_take (i:=0) (v:=?_) rfl (by kernel_rfl) (by kernel_rfl) (by kernel_rfl) (fun _ _ _ h=>h) (Or.inl ⟨by rfl,?_⟩) hHeld ?_
 rotate_left
 ·intro v9 hS9
  try dsimp only at hS9
  skip
  go_simp
  try with_reducible rfl
 try simp only [Act.put,List.setIfInBounds_toArray,List.set_cons_zero,List.set_cons_succ,List.getElem_toArray,List.getElem_cons_zero]
 refine wpAnyH_take (i:=1) (v:=?_) rfl (by kernel_rfl) (by kernel_rfl) (by kernel_rfl) (fun _ _ _ h=>h) (Or.inl ⟨by rfl,?_⟩) hHeld ?_
 rotate_left
 ·intro v9 hS9
  try dsimp only at hS9
  skip
  go_simp
  try with_reducible rfl
 try simp only [Act.put,List.setIfInBounds_toArray,List.set_cons_zero,List.set_cons_succ,List.getElem_toArray,List.getElem_cons_zero,List.getElem_cons_succ]
 refine wpAnyH_take (i:=2) (v:=?_) rfl (by kernel_rfl) (by kernel_rfl) (by kernel_rfl) (fun _ _ _ h=>h) (Or.inl ⟨by rfl,?_⟩) hHeld ?_
 rotate_left
 ·intro v9 hS9
  try dsimp only at hS9
  skip
  go_simp
  try with_reducible rfl
 try simp only [Act.put,List.setIfInBounds_toArray,List.set_cons_zero,List.set_cons_succ,List.getElem_toArray,List.getElem_cons_zero,List.getElem_cons_succ]
 refine wpAnyH_take (i:=3) (v:=?_) rfl (by kernel_rfl) (by kernel_rfl) (by kernel_rfl) (fun _ _ _ h=>h) (Or.inl ⟨by rfl,?_⟩) hHeld ?_
 rotate_left
 ·intro v9 hS9
  try dsimp only at hS9
  obtain ⟨s0,s1⟩:=hS9
  go_simp
  try with_reducible rfl
 try simp only [Act.put,List.setIfInBounds_toArray,List.set_cons_zero,List.set_cons_succ,List.getElem_toArray,List.getElem_cons_zero,List.getElem_cons_succ]
 refine wpAnyH_take (i:=4) (v:=?_) rfl (by kernel_rfl) (by kernel_rfl) (by kernel_rfl) (fun _ _ _ h=>h) (Or.inl ⟨by rfl,?_⟩) hHeld ?_
 rotate_left
 ·intro v9 hS9
  try dsimp only at hS9
  skip
  go_simp
  try with_reducible rfl
 try simp only [Act.put,List.setIfInBounds_toArray,List.set_cons_zero,List.set_cons_succ,List.getElem_toArray,List.getElem_cons_zero,List.getElem_cons_succ]
 refine wpAnyH_take (i:=5) (v:=?_) rfl (by kernel_rfl) (by kernel_rfl) (by kernel_rfl) (fun _ _ _ h=>h) (Or.inl ⟨by rfl,?_⟩) hHeld ?_
 rotate_left
 ·intro v9 hS9
  try dsimp only at hS9
  skip
  go_simp
  try with_reducible rfl
 try simp only [Act.put,List.setIfInBounds_toArray,List.set_cons_zero,List.set_cons_succ,List.getElem_toArray,List.getElem_cons_zero,List.getElem_cons_succ]
 refine wpAnyH_take (i:=6) (v:=?_) rfl (by kernel_rfl) (by kernel_rfl) (by kernel_rfl) (fun _ _ _ h=>h) (Or.inl ⟨by rfl,?_⟩) hHeld ?_
 rotate_left
 ·intro v9 hS9
  try dsimp only at hS9
  obtain ⟨s0,s1⟩:=hS9
  go_simp
  try with_reducible rfl
 try simp only [Act.put,List.setIfInBounds_toArray,List.set_cons_zero,List.set_cons_succ,List.getElem_toArray,List.getElem_cons_zero,List.getElem_cons_succ]
 refine wpAnyH_take (i:=7) (v:=?_) rfl (by kernel_rfl) (by kernel_rfl) (by kernel_rfl) (fun _ _ _ h=>h) (Or.inl ⟨by rfl,?_⟩) hHeld ?_
 rotate_left
 ·intro v9 hS9
  try dsimp only at hS9
  skip
  go_simp
  try with_reducible rfl
 try simp only [Act.put,List.setIfInBounds_toArray,List.set_cons_zero,List.set_cons_succ,List.getElem_toArray,List.getElem_cons_zero,List.getElem_cons_succ]
 refine wpAnyH_ready (rs:=[8]) (by kernel_rfl) (by simp) ?_
 refine (AllReadyH.cons rfl (fun K hK=>?_) AllReadyH.nil)
 go_simp
 refine hK.out _ _ (HSX.out _ (((Below.refl w7.heap.size w7).drew).alloc (Nat.le_refl _) _)) (fun hNext=>?_)
 clear hK K hHeld
 have hHeld:=hNext
 clear hNext
 try simp only [Act.put,List.setIfInBounds_toArray,List.set_cons_zero,List.set_cons_succ,List.getElem_toArray,List.getElem_cons_zero,List.getElem_cons_succ]
 refine wpAnyH_ready (rs:=[9]) (by kernel_rfl) (by simp) ?_
 refine (AllReadyH.cons rfl (fun K hK=>?_) AllReadyH.nil)
 have hb8:Below w7.heap.size w7 (w7.drew.alloc (.cells #[.int .i64 3,.int .i64 1,.int .i64 0,.int .i64 z0,.int .i64 z1,.int .i64 0] 53)):=((Below.refl w7.heap.size w7).drew).alloc (Nat.le_refl _) _
 have HBH:Hid (Below w.heap.size w (w7.drew.alloc (.cells #[.int .i64 3,.int .i64 1,.int .i64 0,.int .i64 z0,.int .i64 z1,.int .i64 0] 53))):=HB9.out.trans (hb8.mono HB9.out.size)
 have HIB:Hid (HX.out.below hb8=HX.out.below hb8):=rfl
 refine step_call (f:=25) (args := #[.slice (some ⟨g,0,none⟩) X.length cp,.slice (some ⟨w7.heap.size,0,none⟩) 1 1]) rfl (by go_simp) ?_
 refine (iBehind HTO.out _ g 0 w7.heap.size 0 X [⟨3,1,0,z0,z1,0⟩] _ HYE.out cp 1 1 rfl (HX.out.below hb8) (node_one w7.drew 3 1 0 z0 z1 0) (by have:=HJL.out;simp;omega)).mono ?_
 rw [HML.out.1,HML.out.2]
 rintro e w9 ⟨⟨a9,c9,rfl,hw9,hc9⟩,hb9⟩
 have HW9:Hid (WNodes w9 w.heap.size a9 (bothR l1 l2)):=by
  obtain ⟨h1,h2⟩:=hw9
  refine ⟨h1,?_⟩
  rcases h2 with h0|⟨b2,o2,ha,hB,hcc,hf⟩
  ·exact .inl h0
  ·exact .inr ⟨b2,o2,ha,by have:=HB9.out.size;simp at hB;omega,hcc,hf⟩
 have HC9:Hid ((bothR l1 l2).length<=c9):=hc9
 have HBF:Hid (Below w.heap.size w w9):=HBH.out.trans (hb9.mono HBH.out.size)
 have HS9:Hid (w9.cell? ⟨rg,0,none⟩=some (.int .i64 z0)/\w9.cell? ⟨rg,1,none⟩=some (.int .i64 z1)):=HSX.out _ (hb8.trans (hb9.mono hb8.size))
 clear hw9 hc9 hb9 hb8 HBH HIB
 refine ⟨_,rfl,?_⟩
 refine hK.out _ _ HS9.out (fun hNext=>?_)
 clear hK K hHeld
 have hHeld:=hNext
 clear hNext
 try simp only [Act.put,List.setIfInBounds_toArray,List.set_cons_zero,List.set_cons_succ,List.getElem_toArray,List.getElem_cons_zero,List.getElem_cons_succ]
 refine wpAnyH_take (i:=10) (v:=?_) rfl (by kernel_rfl) (by kernel_rfl) (by kernel_rfl) (fun _ _ _ h=>h) (Or.inl ⟨by rfl,?_⟩) hHeld ?_
 rotate_left
 ·intro v9 hS9
  try dsimp only at hS9
  skip
  go_simp
  try with_reducible rfl
 try simp only [Act.put,List.setIfInBounds_toArray,List.set_cons_zero,List.set_cons_succ,List.getElem_toArray,List.getElem_cons_zero,List.getElem_cons_succ]
 refine wpAnyH_take (i:=11) (v:=?_) rfl (by kernel_rfl) (by kernel_rfl) (by kernel_rfl) (fun _ _ _ h=>h) (Or.inl ⟨by rfl,?_⟩) hHeld ?_
 rotate_left
 ·intro v9 hS9
  try dsimp only at hS9
  skip
  go_simp
  try with_reducible rfl
 try simp only [Act.put,List.setIfInBounds_toArray,List.set_cons_zero,List.set_cons_succ,List.getElem_toArray,List.getElem_cons_zero,List.getElem_cons_succ]
 refine wpAnyH_take (i:=12) (v:=?_) rfl (by kernel_rfl) (by kernel_rfl) (by kernel_rfl) (fun _ _ _ h=>h) (Or.inl ⟨by rfl,?_⟩) hHeld ?_
 rotate_left
 ·intro v9 hS9
  try dsimp only at hS9
  skip
  go_simp
  try with_reducible rfl
 try simp only [Act.put,List.setIfInBounds_toArray,List.set_cons_zero,List.set_cons_succ,List.getElem_toArray,List.getElem_cons_zero,List.getElem_cons_succ]
 refine wpAnyH_take (i:=13) (v:=?_) rfl (by kernel_rfl) (by kernel_rfl) (by kernel_rfl) (fun _ _ _ h=>h) (Or.inl ⟨by rfl,?_⟩) hHeld ?_
 rotate_left
 ·intro v9 hS9
  try dsimp only at hS9
  skip
  go_simp
  try with_reducible rfl
 try simp only [Act.put,List.setIfInBounds_toArray,List.set_cons_zero,List.set_cons_succ,List.getElem_toArray,List.getElem_cons_zero,List.getElem_cons_succ]
 refine wpAnyH_done (by kernel_rfl) ?_ _
 clear hHeld
 go_wp2
 go_ret2
 exact ⟨⟨_,_,rfl,HW9.out,HC9.out⟩,HBF.out⟩
end Pb14
end Go.Proofs.YtbellafdjfliiaaGreat
