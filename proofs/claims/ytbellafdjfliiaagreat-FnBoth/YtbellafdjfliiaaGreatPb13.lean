import Derived.Deep.RegionWith
import Derived.Deep.MidRow
import Derived.Deep.CutBlock
import Derived.Test.YtbellafdjfliiaaGreatPkBOM26
import Derived.Test.YtbellafdjfliiaaGreatPkBOM29
import Derived.Test.YtbellafdjfliiaaGreatPkBOM32
import Derived.Test.YtbellafdjfliiaaGreatPkBOM14
import Derived.Test.YtbellafdjfliiaaGreatPkBOM9
namespace Go.Proofs.YtbellafdjfliiaaGreat
set_option maxRecDepth 100000
set_option maxHeartbeats 8000000
set_option linter.unusedVariables false
namespace Pb13
open Go.RowKit
open Nd0 Pl1 Tm0 Tm1 Tm7 Tm8 Rw0 Ap0 Aq0 Aq1 Ar0 Pg8 Pb1
theorem nums_sh {s t:Nat} {a b:List Nd} (hs:HasN s a) (ht:HasN t b):numsTo (s &&& t) 8=(shTo a b 8).map fun (i:Nat)=>(i:Int):=by
 unfold numsTo shTo
 congr 1
 apply List.filter_congr
 intro v hv
 have hv8:=List.mem_range.1 hv
 rw [Nat.testBit_and,hs.2 v hv8,ht.2 v hv8]
 rfl
theorem nums_lf {s t u:Nat} {a b:List Nd} (hs:HasN s a) (ht:HasN t b) (hu:∀ v,v < 8->u.testBit v = !((s ||| t).testBit v)):numsTo u 8=(lfL a b).map fun (i:Nat)=>(i:Int):=by
 unfold numsTo lfL
 congr 1
 apply List.filter_congr
 intro v hv
 have hv8:=List.mem_range.1 hv
 rw [hu v hv8,Nat.testBit_or,hs.2 v hv8,ht.2 v hv8]
 rfl
theorem not8 (x:Nat) (hx:x < 256):bits .xor .u8 IntKind.u8.max (x:Int)=((255 - x:Nat):Int)/\∀ v,v < 8->(255 - x).testBit v = !(x.testBit v):=by
 refine ⟨by rw [xor255 (x:Int) (by omega) (by omega)];omega,fun v hv=>?_⟩
 have h:=Nat.testBit_two_pow_sub_succ (n:=8) (x:=x) (by omega) v
 rw [show 2 ^ 8 - (x+1)=255 - x by omega] at h
 rw [h,decide_eq_true hv,Bool.true_and]
def nwI (a b:List Nd) (i v:Nat):Int:=if shB a b v=true/\(shTo a b v).length < i then (((lfL a b).getD (shTo a b v).length 0:Nat):Int) else (v:Int)
theorem nwI_zero (a b:List Nd) (v:Nat):nwI a b 0 v=(v:Int):=by unfold nwI;rw [if_neg (by omega)]
theorem sh_inj {a b:List Nd} {j v:Nat} (hj:shB a b j=true) (hv:shB a b v=true) (h:(shTo a b j).length=(shTo a b v).length):j=v:=by
 rcases Nat.lt_trichotomy j v with h1|h1|h1
 ·have h2:=shTo_mono a b (j:=j+1) (k:=v) h1
  rw [shTo_succ,hj,if_pos rfl,List.length_append] at h2
  simp at h2;omega
 ·exact h1
 ·have h2:=shTo_mono a b (j:=v+1) (k:=j) h1
  rw [shTo_succ,hv,if_pos rfl,List.length_append] at h2
  simp at h2;omega
theorem nwI_step {a b:List Nd} {i:Nat} (hi:i < (shTo a b 8).length) (v:Nat):nwI a b (i+1) v=if v=(shTo a b 8)[i] then (((lfL a b).getD i 0:Nat):Int) else nwI a b i v:=by
 obtain ⟨h1,h2,h3⟩:=shTo_at a b 8 i hi
 by_cases e:v=(shTo a b 8)[i]
 ·rw [if_pos e]
  unfold nwI
  rw [e,if_pos ⟨h2,by omega⟩,h3]
 ·rw [if_neg e]
  unfold nwI
  by_cases hv:shB a b v=true
  ·have hne:(shTo a b v).length≠i:=fun h=>e (sh_inj hv h2 (by rw [h,h3]))
   by_cases hlt:(shTo a b v).length < i
   ·rw [if_pos ⟨hv,by omega⟩,if_pos ⟨hv,hlt⟩]
   ·rw [if_neg (fun h=>by omega),if_neg (fun h=>hlt h.2)]
  ·rw [if_neg (fun h=>hv h.1),if_neg (fun h=>hv h.1)]
theorem nwI_all {a b:List Nd} {v:Nat} (hv:v < 8):nwI a b (shTo a b 8).length v=((nwK a b v:Nat):Int):=by
 unfold nwI nwK
 cases h:shB a b v
 ·rw [if_neg (fun h2=>by cases h2.1),if_neg (fun h2=>by cases h2)]
 ·have h1:(shTo a b v).length < (shTo a b (v+1)).length:=by rw [shTo_succ,h];simp
  have h2:=shTo_mono a b (j:=v+1) (k:=8) (by omega)
  rw [if_pos ⟨rfl,by omega⟩,if_pos rfl]
theorem res_num {w:World} {g:Nat} {f:Ar} {b:Bool} {tmps:Array Value} (hp:tmps.getD 4 undef=.pointer (some ⟨g,0,none⟩)) (hq:tmps.getD 5 undef=.bool b) (h:ArAt w g 0 f) :
 (results Tryz.f20 tmps).run Tryz.prog w=.ok (.tuple #[av f,.bool b]) w:=by
 have hr:w.rangeAt g 0 f.cells:=fun j v hv=>by
  have hj:j < 8:=by
   have:=(List.getElem?_eq_some_iff.1 hv).1
   simpa [Ar.cells] using this
  rw [h.at hj,<- hv,cellA f hj]
 have hl:=run_loadVar_mid (P:=Tryz.prog) w g 0 42 f.cells _ hr Tryz.underlying42 rfl rfl
 have hp':tmps[4]?.getD undef=.pointer (some ⟨g,0,none⟩):=by simpa using hp
 have hq':tmps[5]?.getD undef=.bool b:=by simpa using hq
 simp [results,hp',hq',asAddr,hl]
 rfl
theorem row_ar {w:World} {g:Nat} {f:Nat->Int} (h:Row w g 8 (fun v=>.int .i64 (f v))):ArAt w g 0 f:=ArAt.of fun v hv=>by rw [Nat.zero_add];exact (h v hv).1
theorem iNewNum (s t:Nat) (a b:List Nd) (hs:HasN s a) (ht:HasN t b) (w:World) :
 Calls Tryz.prog 20 #[.int .u8 (s:Int),.int .u8 (t:Int)] w fun e w'=>(∃ f:Ar,e=.returned (.tuple #[av f,.bool (enough a b)])/\(enough a b=true->∀ v,v < 8->f v=((nwK a b v:Nat):Int)))/\Below w.heap.size w w':=by
 obtain ⟨W1,hW1⟩:∃ W1:World,W1=w.alloc (.cells #[.int .i64 0,.int .i64 0,.int .i64 0,.int .i64 0,.int .i64 0,.int .i64 0,.int .i64 0,.int .i64 0] 42):=⟨_,rfl⟩
 obtain ⟨W,hW⟩:∃ W:World,W=W1.alloc (.cells #[.int .i64 0,.int .i64 0,.int .i64 0,.int .i64 0,.int .i64 0,.int .i64 0,.int .i64 0,.int .i64 0] 42):=⟨_,rfl⟩
 have s1:W1.heap.size=w.heap.size+1:=by rw [hW1];simp
 have b1:Below w.heap.size w W1:=by rw [hW1];exact (Below.refl _ _).alloc (Nat.le_refl _) _
 have b2:Below W1.heap.size W1 W:=by rw [hW];exact (Below.refl _ _).alloc (Nat.le_refl _) _
 have HBW:Hid (Below w.heap.size w W):=b1.trans (b2.mono (by omega))
 have zz:∀ i,i < 8->(#[.int .i64 0,.int .i64 0,.int .i64 0,.int .i64 0,.int .i64 0,.int .i64 0,.int .i64 0,.int .i64 0]:Array Value)[i]? = some (.int .i64 0):=fun i hi=>by
  rcases (show i=0\/i=1\/i=2\/i=3\/i=4\/i=5\/i=6\/i=7 by omega) with h|h|h|h|h|h|h|h<;>subst h<;>rfl
 have HRA:Hid (Row W w.heap.size 8 (fun _=>.int .i64 0)):=by
  have h:Row W1 w.heap.size 8 (fun _=>.int .i64 0):=by rw [hW1];exact Row.new _ _ _ _ _ zz
  exact h.below b2
 have HR0:Hid (Row W (w.heap.size+1) 8 (fun _=>.int .i64 0)):=by rw [<- s1,hW];exact Row.new _ _ _ _ _ zz
 have HS:Hid (HasN s a):=hs
 have HT:Hid (HasN t b):=ht
 obtain ⟨G,hG⟩:∃ G:Nat,G=w.heap.size+1:=⟨_,rfl⟩
 have HG:Hid (G=w.heap.size+1):=hG
 have hs256:=hs.1
 have ht256:=ht.1
 rw [<- hG] at HR0
 clear hs ht zz b1 b2 s1
 go_enter Tryz.func20,Tryz.ntmps20
 go_upto_region 2 with fail
 rw [<- hW1,<- hW,<- hG]
 clear hW1 hW hG
 go_wp2_with fail
 go_loopw [12] (fun q wr=>∃ v:Nat,v<=8/\q=.int .i64 v/\Row wr G 8 (fun j=>.int .i64 (if j < v then (j:Int) else 0))/\Kept (fun b=>b=G) W wr) (fun q _=>8 - (intOf q).toNat)
 case atStart=>exact ⟨0,Nat.zero_le _,rfl,HR0.out.congr (fun j _=>by simp),Kept.refl _ _⟩
 case round =>
  clear HR0
  obtain ⟨v,hv,rfl,hr,hkp⟩:=hrel
  obtain ⟨wb,rfl⟩:∃ wb:World,wb=wr:=⟨_,rfl⟩
  have HR:Hid (Row wb G 8 (fun j=>.int .i64 (if j < v then (j:Int) else 0))):=hr
  have HKW:Hid (Kept (fun b=>b=G) W wb):=hkp
  clear hr hkp
  by_cases hv8:v < 8
  ·have hvz:(v:Int) < 8:=by omega
   obtain ⟨r0,r1⟩:=HR.out v hv8
   have HR1:Hid (Row (wb.setCell ⟨G,v,none⟩ (.int .i64 (v:Int))) G 8 (fun j=>.int .i64 (if j < v+1 then (j:Int) else 0))):=by
    refine (HR.out.set hv8 _).congr (fun j hj=>?_)
    by_cases e:j=v
    ·subst e
     rw [if_pos rfl,if_pos (by omega)]
    ·rw [if_neg e]
     by_cases e2:j < v
     ·rw [if_pos e2,if_pos (by omega)]
     ·rw [if_neg e2,if_neg (by omega)]
   have HK1:Hid (Kept (fun b=>b=G) W (wb.setCell ⟨G,v,none⟩ (.int .i64 (v:Int)))):=HKW.out.setCell (p:=⟨G,v,none⟩) rfl _
   go_wp2_with fail
   go_roundw
   case rel=>exact ⟨v+1,by omega,by go_num,HR1.out,HK1.out⟩
   case measure=>simp [intOf];omega
  ·have hvz:¬ (v:Int) < 8:=by omega
   have hve:v=8:=by omega
   subst hve
   have HRF:Hid (Row wb G 8 (fun j=>.int .i64 (j:Int))):=HR.out.congr (fun j hj=>by rw [if_pos hj])
   clear HR
   have hand:=bits_and_u8_nat s t hs256 ht256
   have hor:=bits_or_u8_nat s t hs256 ht256
   have hor8:s ||| t < 256:=Nat.or_lt_two_pow (n:=8) (by omega) (by omega)
   obtain ⟨hnot,hnb⟩:=not8 (s ||| t) hor8
   obtain ⟨u,hu⟩:∃ u:Nat,u=255 - (s ||| t):=⟨_,rfl⟩
   rw [<- hu] at hnot hnb
   have hu8:u < 256:=by omega
   have HSH:Hid (numsTo (s &&& t) 8=(shTo a b 8).map fun (i:Nat)=>(i:Int)):=nums_sh HS.out HT.out
   have HLF:Hid (numsTo u 8=(lfL a b).map fun (i:Nat)=>(i:Int)):=nums_lf HS.out HT.out hnb
   have hand8:s &&& t < 256:=Nat.lt_of_le_of_lt Nat.and_le_left hs256
   have HN1:Hid (∀ W:World,Calls Tryz.prog 43 #[.int .u8 ((s &&& t:Nat):Int)] W fun e w'=>(∃ a' c',e=.returned (.slice a' (shTo a b 8).length c')/\WInts w' W.heap.size a' (numsTo (s &&& t) 8))/\Below W.heap.size W w'):=fun W=>by
    have h:=iNumbers (s &&& t) W hand8
    have e:(numsTo (s &&& t) 8).length=(shTo a b 8).length:=by rw [HSH.out,List.length_map]
    rw [e] at h
    exact h
   have HN2:Hid (∀ W:World,Calls Tryz.prog 43 #[.int .u8 (u:Int)] W fun e w'=>(∃ a' c',e=.returned (.slice a' (lfL a b).length c')/\WInts w' W.heap.size a' (numsTo u 8))/\Below W.heap.size W w'):=fun W=>by
    have h:=iNumbers u W hu8
    have e:(numsTo u 8).length=(lfL a b).length:=by rw [HLF.out,List.length_map]
    rw [e] at h
    exact h
   have HBK:Hid (Below w.heap.size w wb):=HBW.out.trans (HKW.out.below (fun b (hb:b=G)=>by have:=HG.out;omega) HBW.out.size)
   have HRB:Hid (Row wb w.heap.size 8 (fun _=>.int .i64 0)):=HRA.out.kept HKW.out (by have:=HG.out;omega)
   have hshl:(shTo a b 8).length<=8:=shTo_length a b 8
   have hlfl:(lfL a b).length<=8:=by unfold lfL;exact Nat.le_trans (List.length_filter_le _ _) (by simp)
   have HEN:Hid (enough a b=decide ((shTo a b 8).length<=(lfL a b).length)):=rfl
   clear hu hnb hor8 HS HT hs256 ht256 hu8 hand8
   go_wp2_with fail
   refine (HN1.out _).mono ?_
   rintro e w3 ⟨⟨a3,c3,rfl,hw3⟩,hb3⟩
   have HI3:Hid (Ints w3 a3 (numsTo (s &&& t) 8)):=hw3.ints
   have HB3:Hid (Below w.heap.size w w3):=HBK.out.trans (hb3.mono HBK.out.size)
   have HR3:Hid (Row w3 G 8 (fun j=>.int .i64 (j:Int))):=HRF.out.below hb3
   have HA3:Hid (Row w3 w.heap.size 8 (fun _=>.int .i64 0)):=HRB.out.below hb3
   have HS3:Hid (wb.heap.size<=w3.heap.size):=hb3.size
   have HGB:Hid (G < wb.heap.size):=HRF.out.lt (by omega)
   have HL3:Hid (∀ x,a3=some x->(shTo a b 8).length≠0->x.block≠G):=fun x hx h0 e=>by
    rcases hw3.2 with h|⟨b',o',ha,hB,_⟩
    ·rw [HSH.out,List.length_map] at h;exact h0 h
    ·rw [hx] at ha;cases ha;have:=HGB.out;simp at e;omega
   clear hw3 hb3 HRF HRB HRA hand
   go_wp2_with fail
   refine (HN2.out _).mono ?_
   rintro e w4 ⟨⟨a4,c4,rfl,hw4⟩,hb4⟩
   have HI4:Hid (Ints w4 a4 (numsTo u 8)):=hw4.ints
   have HI5:Hid (Ints w4 a3 (numsTo (s &&& t) 8)):=HI3.out.below hb4
   have HB4:Hid (Below w.heap.size w w4):=HB3.out.trans (hb4.mono HB3.out.size)
   have HR4:Hid (Row w4 G 8 (fun j=>.int .i64 (j:Int))):=HR3.out.below hb4
   have HA4:Hid (Row w4 w.heap.size 8 (fun _=>.int .i64 0)):=HA3.out.below hb4
   have HL4:Hid (∀ x,a4=some x->(lfL a b).length≠0->x.block≠G):=fun x hx h0 e=>by
    rcases hw4.2 with h|⟨b',o',ha,hB,_⟩
    ·rw [HLF.out,List.length_map] at h;exact h0 h
    ·rw [hx] at ha;cases ha;have:=HS3.out;have:=HGB.out;simp at e;omega
   clear hw4 hb4 HI3 HR3 HA3 hor hnot
   by_cases hle:(lfL a b).length < (shTo a b 8).length
   ·have hlez:((lfL a b).length:Int) < ((shTo a b 8).length:Int):=by omega
    have HF:Hid (enough a b=false):=by show _=_;rw [HEN.out];exact decide_eq_false (by omega)
    have HRA9:Hid (Row w4 w.heap.size 8 (fun _=>.int .i64 0)):=HA4.out
    have HB9:Hid (Below w.heap.size w w4):=HB4.out
    have HR9:Hid (Row w4 G 8 (fun j=>.int .i64 (j:Int))):=HR4.out
    obtain ⟨f,hf⟩:∃ f:Ar,f=fun (j:Nat)=>(j:Int):=⟨_,rfl⟩
    have HRF9:Hid (Row w4 G 8 (fun j=>.int .i64 (f j))):=by rw [hf];exact HR4.out
    clear hf HR9 HR4 HA4 HI4 HI5
    have HR9:Hid (Row w4 G 8 (fun j=>.int .i64 (f j))):=HRF9.out
    have HE3:Hid (Row w4 w.heap.size 8 (fun _=>.int .i64 0)):=HRA9.out
    have HFI:Hid (Below w.heap.size w (setAr w4 w.heap.size 0 f)/\ArAt (setAr w4 w.heap.size 0 f) w.heap.size 0 f):=by
     have k9:=setAr_keptS (S:=fun b=>b=w.heap.size) (b:=w.heap.size) (p:=0) (n:=f) rfl (Kept.refl _ w4)
     exact ⟨HB9.out.trans (k9.below (fun b (hb:b=_)=>by omega) HB9.out.size),setAr_same (v:=fun _=>0) (row_ar HE3.out)⟩
    have u0a:=(HR9.out 0 (by omega)).1
    obtain ⟨v0a,v0b⟩:=HE3.out 0 (by omega)
    have u1a:=(HR9.out 1 (by omega)).1
    obtain ⟨v1a,v1b⟩:=HE3.out 1 (by omega)
    have u2a:=(HR9.out 2 (by omega)).1
    obtain ⟨v2a,v2b⟩:=HE3.out 2 (by omega)
    have u3a:=(HR9.out 3 (by omega)).1
    obtain ⟨v3a,v3b⟩:=HE3.out 3 (by omega)
    have u4a:=(HR9.out 4 (by omega)).1
    obtain ⟨v4a,v4b⟩:=HE3.out 4 (by omega)
    have u5a:=(HR9.out 5 (by omega)).1
    obtain ⟨v5a,v5b⟩:=HE3.out 5 (by omega)
    have u6a:=(HR9.out 6 (by omega)).1
    obtain ⟨v6a,v6b⟩:=HE3.out 6 (by omega)
    have u7a:=(HR9.out 7 (by omega)).1
    obtain ⟨v7a,v7b⟩:=HE3.out 7 (by omega)
    go_wp2_with fail
    refine bodyPost_ret (res_num (g:=w.heap.size) (f:=f) (b:=false) rfl rfl HFI.out.2) rfl ?_
    exact ⟨⟨f,by rw [HF.out],fun h=>by rw [HF.out] at h;cases h⟩,HFI.out.1⟩
   ·have hlez:¬ ((lfL a b).length:Int) < ((shTo a b 8).length:Int):=by omega
    have HF:Hid (enough a b=true):=by show _=_;rw [HEN.out];exact decide_eq_true (by omega)
    have HR0:Hid (Row w4 G 8 (fun j=>.int .i64 (nwI a b 0 j))):=HR4.out.congr (fun j _=>by rw [nwI_zero])
    clear HR4
    go_wp2_with fail
    go_loopw [36] (fun q wr=>∃ i:Nat,i<=(shTo a b 8).length/\q=.int .i64 i/\Row wr G 8 (fun j=>.int .i64 (nwI a b i j))/\Kept (fun b=>b=G) w4 wr) (fun q _=>(shTo a b 8).length - (intOf q).toNat)
    case atStart=>exact ⟨0,Nat.zero_le _,rfl,HR0.out,Kept.refl _ _⟩
    case round =>
     clear HR0
     obtain ⟨i,hi,rfl,hr,hkp⟩:=hrel
     have HR:Hid (Row wr G 8 (fun j=>.int .i64 (nwI a b i j))):=hr
     have HK:Hid (Kept (fun b=>b=G) w4 wr):=hkp
     clear hr hkp
     by_cases hlt:i < (shTo a b 8).length
     ·have hlz:(i:Int) < ((shTo a b 8).length:Int):=by omega
      have hil:i < (lfL a b).length:=by omega
      have hilz:(i:Int) < ((lfL a b).length:Int):=by omega
      obtain ⟨hv8, -, -⟩:=shTo_at a b 8 i hlt
      have HST:Hid (∀ v,nwI a b (i+1) v=if v=(shTo a b 8)[i] then (((lfL a b).getD i 0:Nat):Int) else nwI a b i v):=nwI_step hlt
      have hI3:=(HI5.out.2)
      rcases hI3 with h0|⟨b3,o3,hb3,hc3⟩
      ·rw [HSH.out,List.length_map] at h0;omega
      have hI4:=(HI4.out.2)
      rcases hI4 with h0|⟨b4,o4,hb4,hc4⟩
      ·rw [HLF.out,List.length_map] at h0;omega
      have hn3:b3≠G:=HL3.out ⟨b3,o3,none⟩ hb3 (by omega)
      have hn4:b4≠G:=HL4.out ⟨b4,o4,none⟩ hb4 (by omega)
      subst hb3 hb4
      have q3:w4.cell? ⟨b3,o3+i,none⟩=some (.int .i64 (((shTo a b 8)[i]:Nat):Int)):=by
       have h:=hc3 i (by rw [HSH.out,List.length_map];exact hlt)
       simp only [HSH.out] at h
       rw [List.getElem_map] at h
       exact h
      have q4:w4.cell? ⟨b4,o4+i,none⟩=some (.int .i64 (((lfL a b).getD i 0:Nat):Int)):=by
       have h:=hc4 i (by rw [HLF.out,List.length_map];exact hil)
       simp only [HLF.out] at h
       rw [List.getElem_map] at h
       rw [List.getD_eq_getElem?_getD,List.getElem?_eq_getElem hil]
       exact h
      have x3:wr.cell? ⟨b3,o3+i,none⟩=some (.int .i64 (((shTo a b 8)[i]:Nat):Int)):=(HK.out.cell (p:=⟨b3,o3+i,none⟩) (lt_of_cell q3) hn3).trans q3
      have x4:wr.cell? ⟨b4,o4+i,none⟩=some (.int .i64 (((lfL a b).getD i 0:Nat):Int)):=(HK.out.cell (p:=⟨b4,o4+i,none⟩) (lt_of_cell q4) hn4).trans q4
      generalize (shTo a b 8)[i]=v at hv8 HST x3
      generalize (lfL a b).getD i 0=y at HST x4
      have hvz:(v:Int) < 8:=by omega
      obtain ⟨r0,r1⟩:=HR.out v hv8
      have HRN:Hid (Row (wr.setCell ⟨G,v,none⟩ (.int .i64 (y:Int))) G 8 (fun j=>.int .i64 (nwI a b (i+1) j))):=(HR.out.set hv8 _).congr (fun j hj=>by
       rw [HST.out j]
       by_cases e:j=v
       ·rw [if_pos e,if_pos e]
       ·rw [if_neg e,if_neg e])
      have HKN:Hid (Kept (fun b=>b=G) w4 (wr.setCell ⟨G,v,none⟩ (.int .i64 (y:Int)))):=HK.out.setCell (p:=⟨G,v,none⟩) rfl _
      clear hc3 hc4 q3 q4 HR HK
      go_wp2_with fail
      go_roundw
      case rel=>exact ⟨i+1,by omega,by go_num,HRN.out,HKN.out⟩
      case measure=>simp [intOf];omega
     ·have hlz:¬ (i:Int) < ((shTo a b 8).length:Int):=by omega
      have hie:i=(shTo a b 8).length:=by omega
      subst hie
      have HRA9:Hid (Row wr w.heap.size 8 (fun _=>.int .i64 0)):=HA4.out.kept HK.out (by have:=HG.out;omega)
      have HB9:Hid (Below w.heap.size w wr):=HB4.out.trans (HK.out.below (fun b (hb:b=G)=>by have:=HG.out;omega) HB4.out.size)
      obtain ⟨f,hf⟩:∃ f:Ar,f=fun j=>nwI a b (shTo a b 8).length j:=⟨_,rfl⟩
      have HFV:Hid (∀ v,v < 8->f v=((nwK a b v:Nat):Int)):=fun v hv=>by rw [hf];exact nwI_all hv
      have HR9:Hid (Row wr G 8 (fun j=>.int .i64 (f j))):=by rw [hf];exact HR.out
      clear hf HR HK HA4 HI4 HI5
      have HE3:Hid (Row wr w.heap.size 8 (fun _=>.int .i64 0)):=HRA9.out
      have HFI:Hid (Below w.heap.size w (setAr wr w.heap.size 0 f)/\ArAt (setAr wr w.heap.size 0 f) w.heap.size 0 f):=by
       have k9:=setAr_keptS (S:=fun b=>b=w.heap.size) (b:=w.heap.size) (p:=0) (n:=f) rfl (Kept.refl _ wr)
       exact ⟨HB9.out.trans (k9.below (fun b (hb:b=_)=>by omega) HB9.out.size),setAr_same (v:=fun _=>0) (row_ar HE3.out)⟩
      have u0a:=(HR9.out 0 (by omega)).1
      obtain ⟨v0a,v0b⟩:=HE3.out 0 (by omega)
      have u1a:=(HR9.out 1 (by omega)).1
      obtain ⟨v1a,v1b⟩:=HE3.out 1 (by omega)
      have u2a:=(HR9.out 2 (by omega)).1
      obtain ⟨v2a,v2b⟩:=HE3.out 2 (by omega)
      have u3a:=(HR9.out 3 (by omega)).1
      obtain ⟨v3a,v3b⟩:=HE3.out 3 (by omega)
      have u4a:=(HR9.out 4 (by omega)).1
      obtain ⟨v4a,v4b⟩:=HE3.out 4 (by omega)
      have u5a:=(HR9.out 5 (by omega)).1
      obtain ⟨v5a,v5b⟩:=HE3.out 5 (by omega)
      have u6a:=(HR9.out 6 (by omega)).1
      obtain ⟨v6a,v6b⟩:=HE3.out 6 (by omega)
      have u7a:=(HR9.out 7 (by omega)).1
      obtain ⟨v7a,v7b⟩:=HE3.out 7 (by omega)
      go_wp2_with fail
      refine bodyPost_ret (res_num (g:=w.heap.size) (f:=f) (b:=true) rfl rfl HFI.out.2) rfl ?_
      exact ⟨⟨f,by rw [HF.out],fun _=>HFV.out⟩,HFI.out.1⟩
end Pb13
end Go.Proofs.YtbellafdjfliiaaGreat
