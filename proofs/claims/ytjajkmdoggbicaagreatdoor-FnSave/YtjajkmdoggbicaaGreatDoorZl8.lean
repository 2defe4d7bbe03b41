import Derived.Test.YtjajkmdoggbicaaGreatDoorZl7
import Derived.Test.YtjajkmdoggbicaaGreatDoorPkSV30
namespace Go.Proofs.YtjajkmdoggbicaaGreatDoor
set_option maxRecDepth 100000
set_option maxHeartbeats 8000000
set_option linter.unusedVariables false
namespace Zl8
open Go.RowKit
open Nd0 (Kept At lt_of_cell)
open Mm0 (Mc Mb Mr Mok mval)
open Ss0 (bs bs_size)
open Ss1 (tl tl_bs bs_tl tl_length)
open Zk0 (cutF cutS cutF_le cutS_le)
open Zt0 (TabZ iCut)
open Zs0 (wd)
open Zs3 (L3 LV lv0 lv1 lv2 lv3 lv4 lv5 lv6 lv7)
open Zs5 (rfv)
open Zl0 Zl1 Zl6 Zl7
/-- What taking a line comes to. -/
def TkO (W:World) (q:Nat) (ma:Option Addr) (o:Option Mc) (e:Ending) (w':World):Prop :=
 (o=none->∃ x,e=.returned (rfv x))/\(∀ m',o=some m'->e=.returned .nilIface/\∃ ra va ma rc vc mc u1 u2,Ld w' q m' ra va ma rc vc mc u1 u2)/\Kept (fun b=>b=q\/At ma b) W w'
theorem memo_lt {W:World} {q:Nat} {m:Mc} {ra va ma:Option Addr} {rc vc mc u1 u2:Nat} (h:Ld W q m ra va ma rc vc mc u1 u2):∀ b,At ma b->b < W.heap.size:=by
 intro b hb
 obtain ⟨a,ha,rfl⟩:=hb
 rcases h.memo with ⟨e,_⟩|⟨g,o,cap,e,_,hl⟩
 ·rw [ha] at e;cases e
 ·rw [ha] at e;cases e;exact hl.lt
theorem tk0 (W:World) (q:Nat) (m:Mc) (ra va ma:Option Addr) (rc vc mc u1 u2:Nat) (h:Ld W q m ra va ma rc vc mc u1 u2) (t:List UInt8) (ht:t.length<=400000) (hT:TabZ W) (hv:m.vals=[]) (hm:m.memo=[]) :
 Calls Tryz.prog 87 #[lv0,.pointer (some ⟨q,0,none⟩),.string (bs t)] W (TkO W q ma (tkL 0 m t)):=by
 obtain ⟨X0,hX0⟩:∃ X,X=W.alloc (.cells #[.string ⟨#[114,111,119]⟩,.func (.func 127) #[] #[],.func (.func 128) #[] #[]] 112):=⟨_,rfl⟩
 have b0:Below W.heap.size W X0:=by rw [hX0];exact (Below.refl _ _).alloc (Nat.le_refl _) _
 have HL0:Hid (L3 X0 W.heap.size (.string ⟨#[114,111,119]⟩) (.func (.func 127) #[] #[]) (.func (.func 128) #[] #[])):=by rw [hX0];exact L3.made _ _ _ _ _
 have hE:W.alloc (.cells #[.string ⟨#[114,111,119]⟩,.func (.func 127) #[] #[],.func (.func 128) #[] #[]] 112)=X0:=hX0.symm
 have HC:Hid _:=iCut 32 (bs t) X0 (hT.below b0) (by rw [bs_size];omega)
 rw [tl_bs] at HC
 have hcl:(cutS 32 t).length<=400000:=by have:=cutS_le 32 t;omega
 have HLD:Hid (Ld W q m ra va ma rc vc mc u1 u2):=h
 have HT:Hid (TabZ W):=hT
 have HB0:Hid (Below W.heap.size W X0):=b0
 obtain ⟨X,hX⟩:∃ X,X=bs (cutF 32 t):=⟨_,rfl⟩
 have HX9:Hid (X=bs (cutF 32 t)):=hX
 rw [<- hX] at HC
 clear hX0 b0 h hT ht hX
 go_enter Tryz.func87,Tryz.ntmps87
 go_upto_region 1 with fail
 clear hE
 go_wp2_with fail
 refine Calls.mono HC.out ?_
 rintro e w1 ⟨⟨cb,rfl⟩,hb1⟩
 have HB1:Hid (Below W.heap.size W w1):=HB0.out.trans (hb1.mono HB0.out.size)
 have HL1:Hid (L3 w1 W.heap.size (.string ⟨#[114,111,119]⟩) (.func (.func 127) #[] #[]) (.func (.func 128) #[] #[])):=HL0.out.below hb1
 clear hb1 HL0 HB0
 by_cases hw:cutF 32 t=wd 0
 rotate_left
 ·have hne:(X.toList==[114,111,119])=false:=Ss1.eql_false (by rw [HX9.out,tl_bs];exact hw)
  have HF:Hid (tkL 0 m t=none):=by show _=_;unfold tkL;rw [if_neg hw]
  clear hw
  obtain ⟨y0,y1,y2,_,_,_⟩:=HL1.out
  have hyl:=HL1.out.lt
  go_wp2
  go_ret
  exact ⟨fun _=>⟨_,rfl⟩,fun m' hm'=>(by rw [HF.out] at hm';cases hm'),Kept.ofBelow HB1.out⟩
 have heq:(X.toList==[114,111,119])=true:=Ss1.eql_true (by rw [HX9.out,tl_bs];exact hw)
 have HF:Hid (tkL 0 m t=rd m (cutS 32 t) 0):=by show _=_;unfold tkL;rw [if_pos hw]
 have HX:Hid (Ld w1 q m ra va ma rc vc mc u1 u2):=HLD.out.below HB1.out
 have HRD:Hid _:=r0 w1 q m ra va ma rc vc mc u1 u2 HX.out (cutS 32 t) hcl (HT.out.below HB1.out) hv hm (HX.out.nm hm)
 have HNQ:Hid (¬ (W.heap.size=q\/At ma W.heap.size)):=fun e=>by
  rcases e with e|e
  ·have:=HLD.out.lt;omega
  ·have:=memo_lt HLD.out _ e;omega
 clear hw hcl
 obtain ⟨y0,y1,y2,_,_,_⟩:=HL1.out
 have hyl:=HL1.out.lt
 go_wp2_with fail
 clear y0 y1 y2 hyl
 refine Calls.mono HRD.out ?_
 rintro e w2 ⟨rfl,hld,hk2⟩
 have HK2:Hid (Kept (fun b=>b=q\/At ma b) W w2):=(Kept.ofBelow HB1.out).trans hk2
 have HL2:Hid (L3 w2 W.heap.size (.string ⟨#[114,111,119]⟩) (.func (.func 127) #[] #[]) (.func (.func 128) #[] #[])):=HL1.out.kept hk2 HNQ.out
 have HLZ:Hid (∀ m',rd m (cutS 32 t) 0=some m'->∃ ra va ma rc vc mc u1 u2,Ld w2 q m' ra va ma rc vc mc u1 u2):=hld
 clear hld hk2
 cases hr:rd m (cutS 32 t) 0 with
 | none =>
   have HRN:Hid (rd m (cutS 32 t) 0=none):=hr
   clear hr
   obtain ⟨y0,y1,y2,_,_,_⟩:=HL2.out
   have hyl:=HL2.out.lt
   go_wp2
   go_ret
   exact ⟨fun _=>⟨_,rfl⟩,fun m' hm'=>(by rw [HF.out,HRN.out] at hm';cases hm'),HK2.out⟩
 | some m9 =>
   have HRN:Hid (rd m (cutS 32 t) 0=some m9):=hr
   clear hr
   go_wp2
   go_ret
   exact ⟨fun e=>(by rw [HF.out,HRN.out] at e;cases e),fun m' hm'=>⟨rfl,HLZ.out m' (by rw [<- HF.out];exact hm')⟩,HK2.out⟩
theorem tk1 (W:World) (q:Nat) (m:Mc) (ra va ma:Option Addr) (rc vc mc u1 u2:Nat) (h:Ld W q m ra va ma rc vc mc u1 u2) (t:List UInt8) (ht:t.length<=400000) (hT:TabZ W) :
 Calls Tryz.prog 87 #[lv1,.pointer (some ⟨q,0,none⟩),.string (bs t)] W (TkO W q ma (tkL 1 m t)):=by
 obtain ⟨X0,hX0⟩:∃ X,X=W.alloc (.cells #[.string ⟨#[116,97,98,108,101]⟩,.func (.func 129) #[] #[],.func (.func 130) #[] #[]] 112):=⟨_,rfl⟩
 have b0:Below W.heap.size W X0:=by rw [hX0];exact (Below.refl _ _).alloc (Nat.le_refl _) _
 have HL0:Hid (L3 X0 W.heap.size (.string ⟨#[116,97,98,108,101]⟩) (.func (.func 129) #[] #[]) (.func (.func 130) #[] #[])):=by rw [hX0];exact L3.made _ _ _ _ _
 have hE:W.alloc (.cells #[.string ⟨#[116,97,98,108,101]⟩,.func (.func 129) #[] #[],.func (.func 130) #[] #[]] 112)=X0:=hX0.symm
 have HC:Hid _:=iCut 32 (bs t) X0 (hT.below b0) (by rw [bs_size];omega)
 rw [tl_bs] at HC
 have hcl:(cutS 32 t).length<=400000:=by have:=cutS_le 32 t;omega
 have HLD:Hid (Ld W q m ra va ma rc vc mc u1 u2):=h
 have HT:Hid (TabZ W):=hT
 have HB0:Hid (Below W.heap.size W X0):=b0
 obtain ⟨X,hX⟩:∃ X,X=bs (cutF 32 t):=⟨_,rfl⟩
 have HX9:Hid (X=bs (cutF 32 t)):=hX
 rw [<- hX] at HC
 clear hX0 b0 h hT ht hX
 go_enter Tryz.func87,Tryz.ntmps87
 go_upto_region 1 with fail
 clear hE
 go_wp2_with fail
 refine Calls.mono HC.out ?_
 rintro e w1 ⟨⟨cb,rfl⟩,hb1⟩
 have HB1:Hid (Below W.heap.size W w1):=HB0.out.trans (hb1.mono HB0.out.size)
 have HL1:Hid (L3 w1 W.heap.size (.string ⟨#[116,97,98,108,101]⟩) (.func (.func 129) #[] #[]) (.func (.func 130) #[] #[])):=HL0.out.below hb1
 clear hb1 HL0 HB0
 by_cases hw:cutF 32 t=wd 1
 rotate_left
 ·have hne:(X.toList==[116,97,98,108,101])=false:=Ss1.eql_false (by rw [HX9.out,tl_bs];exact hw)
  have HF:Hid (tkL 1 m t=none):=by show _=_;unfold tkL;rw [if_neg hw]
  clear hw
  obtain ⟨y0,y1,y2,_,_,_⟩:=HL1.out
  have hyl:=HL1.out.lt
  go_wp2
  go_ret
  exact ⟨fun _=>⟨_,rfl⟩,fun m' hm'=>(by rw [HF.out] at hm';cases hm'),Kept.ofBelow HB1.out⟩
 have heq:(X.toList==[116,97,98,108,101])=true:=Ss1.eql_true (by rw [HX9.out,tl_bs];exact hw)
 have HF:Hid (tkL 1 m t=rd m (cutS 32 t) 1):=by show _=_;unfold tkL;rw [if_pos hw]
 have HX:Hid (Ld w1 q m ra va ma rc vc mc u1 u2):=HLD.out.below HB1.out
 have HRD:Hid _:=r1 w1 q m ra va ma rc vc mc u1 u2 HX.out (cutS 32 t) hcl (HT.out.below HB1.out)
 have HNQ:Hid (¬ (W.heap.size=q\/At ma W.heap.size)):=fun e=>by
  rcases e with e|e
  ·have:=HLD.out.lt;omega
  ·have:=memo_lt HLD.out _ e;omega
 clear hw hcl
 obtain ⟨y0,y1,y2,_,_,_⟩:=HL1.out
 have hyl:=HL1.out.lt
 go_wp2_with fail
 clear y0 y1 y2 hyl
 refine Calls.mono HRD.out ?_
 rintro e w2 ⟨rfl,hld,hk2⟩
 have HK2:Hid (Kept (fun b=>b=q\/At ma b) W w2):=(Kept.ofBelow HB1.out).trans hk2
 have HL2:Hid (L3 w2 W.heap.size (.string ⟨#[116,97,98,108,101]⟩) (.func (.func 129) #[] #[]) (.func (.func 130) #[] #[])):=HL1.out.kept hk2 HNQ.out
 have HLZ:Hid (∀ m',rd m (cutS 32 t) 1=some m'->∃ ra va ma rc vc mc u1 u2,Ld w2 q m' ra va ma rc vc mc u1 u2):=hld
 clear hld hk2
 cases hr:rd m (cutS 32 t) 1 with
 | none =>
   have HRN:Hid (rd m (cutS 32 t) 1=none):=hr
   clear hr
   obtain ⟨y0,y1,y2,_,_,_⟩:=HL2.out
   have hyl:=HL2.out.lt
   go_wp2
   go_ret
   exact ⟨fun _=>⟨_,rfl⟩,fun m' hm'=>(by rw [HF.out,HRN.out] at hm';cases hm'),HK2.out⟩
 | some m9 =>
   have HRN:Hid (rd m (cutS 32 t) 1=some m9):=hr
   clear hr
   go_wp2
   go_ret
   exact ⟨fun e=>(by rw [HF.out,HRN.out] at e;cases e),fun m' hm'=>⟨rfl,HLZ.out m' (by rw [<- HF.out];exact hm')⟩,HK2.out⟩
theorem tk2 (W:World) (q:Nat) (m:Mc) (ra va ma:Option Addr) (rc vc mc u1 u2:Nat) (h:Ld W q m ra va ma rc vc mc u1 u2) (t:List UInt8) (ht:t.length<=400000) (hT:TabZ W) :
 Calls Tryz.prog 87 #[lv2,.pointer (some ⟨q,0,none⟩),.string (bs t)] W (TkO W q ma (tkL 2 m t)):=by
 obtain ⟨X0,hX0⟩:∃ X,X=W.alloc (.cells #[.string ⟨#[114,111,111,109]⟩,.func (.func 131) #[] #[],.func (.func 133) #[] #[]] 112):=⟨_,rfl⟩
 have b0:Below W.heap.size W X0:=by rw [hX0];exact (Below.refl _ _).alloc (Nat.le_refl _) _
 have HL0:Hid (L3 X0 W.heap.size (.string ⟨#[114,111,111,109]⟩) (.func (.func 131) #[] #[]) (.func (.func 133) #[] #[])):=by rw [hX0];exact L3.made _ _ _ _ _
 have hE:W.alloc (.cells #[.string ⟨#[114,111,111,109]⟩,.func (.func 131) #[] #[],.func (.func 133) #[] #[]] 112)=X0:=hX0.symm
 have HC:Hid _:=iCut 32 (bs t) X0 (hT.below b0) (by rw [bs_size];omega)
 rw [tl_bs] at HC
 have hcl:(cutS 32 t).length<=400000:=by have:=cutS_le 32 t;omega
 have HLD:Hid (Ld W q m ra va ma rc vc mc u1 u2):=h
 have HT:Hid (TabZ W):=hT
 have HB0:Hid (Below W.heap.size W X0):=b0
 obtain ⟨X,hX⟩:∃ X,X=bs (cutF 32 t):=⟨_,rfl⟩
 have HX9:Hid (X=bs (cutF 32 t)):=hX
 rw [<- hX] at HC
 clear hX0 b0 h hT ht hX
 go_enter Tryz.func87,Tryz.ntmps87
 go_upto_region 1 with fail
 clear hE
 go_wp2_with fail
 refine Calls.mono HC.out ?_
 rintro e w1 ⟨⟨cb,rfl⟩,hb1⟩
 have HB1:Hid (Below W.heap.size W w1):=HB0.out.trans (hb1.mono HB0.out.size)
 have HL1:Hid (L3 w1 W.heap.size (.string ⟨#[114,111,111,109]⟩) (.func (.func 131) #[] #[]) (.func (.func 133) #[] #[])):=HL0.out.below hb1
 clear hb1 HL0 HB0
 by_cases hw:cutF 32 t=wd 2
 rotate_left
 ·have hne:(X.toList==[114,111,111,109])=false:=Ss1.eql_false (by rw [HX9.out,tl_bs];exact hw)
  have HF:Hid (tkL 2 m t=none):=by show _=_;unfold tkL;rw [if_neg hw]
  clear hw
  obtain ⟨y0,y1,y2,_,_,_⟩:=HL1.out
  have hyl:=HL1.out.lt
  go_wp2
  go_ret
  exact ⟨fun _=>⟨_,rfl⟩,fun m' hm'=>(by rw [HF.out] at hm';cases hm'),Kept.ofBelow HB1.out⟩
 have heq:(X.toList==[114,111,111,109])=true:=Ss1.eql_true (by rw [HX9.out,tl_bs];exact hw)
 have HF:Hid (tkL 2 m t=rd m (cutS 32 t) 2):=by show _=_;unfold tkL;rw [if_pos hw]
 have HX:Hid (Ld w1 q m ra va ma rc vc mc u1 u2):=HLD.out.below HB1.out
 have HRD:Hid _:=r2 w1 q m ra va ma rc vc mc u1 u2 HX.out (cutS 32 t) hcl (HT.out.below HB1.out)
 have HNQ:Hid (¬ (W.heap.size=q\/At ma W.heap.size)):=fun e=>by
  rcases e with e|e
  ·have:=HLD.out.lt;omega
  ·have:=memo_lt HLD.out _ e;omega
 clear hw hcl
 obtain ⟨y0,y1,y2,_,_,_⟩:=HL1.out
 have hyl:=HL1.out.lt
 go_wp2_with fail
 clear y0 y1 y2 hyl
 refine Calls.mono HRD.out ?_
 rintro e w2 ⟨rfl,hld,hk2⟩
 have HK2:Hid (Kept (fun b=>b=q\/At ma b) W w2):=(Kept.ofBelow HB1.out).trans hk2
 have HL2:Hid (L3 w2 W.heap.size (.string ⟨#[114,111,111,109]⟩) (.func (.func 131) #[] #[]) (.func (.func 133) #[] #[])):=HL1.out.kept hk2 HNQ.out
 have HLZ:Hid (∀ m',rd m (cutS 32 t) 2=some m'->∃ ra va ma rc vc mc u1 u2,Ld w2 q m' ra va ma rc vc mc u1 u2):=hld
 clear hld hk2
 cases hr:rd m (cutS 32 t) 2 with
 | none =>
   have HRN:Hid (rd m (cutS 32 t) 2=none):=hr
   clear hr
   obtain ⟨y0,y1,y2,_,_,_⟩:=HL2.out
   have hyl:=HL2.out.lt
   go_wp2
   go_ret
   exact ⟨fun _=>⟨_,rfl⟩,fun m' hm'=>(by rw [HF.out,HRN.out] at hm';cases hm'),HK2.out⟩
 | some m9 =>
   have HRN:Hid (rd m (cutS 32 t) 2=some m9):=hr
   clear hr
   go_wp2
   go_ret
   exact ⟨fun e=>(by rw [HF.out,HRN.out] at e;cases e),fun m' hm'=>⟨rfl,HLZ.out m' (by rw [<- HF.out];exact hm')⟩,HK2.out⟩
theorem tk3 (W:World) (q:Nat) (m:Mc) (ra va ma:Option Addr) (rc vc mc u1 u2:Nat) (h:Ld W q m ra va ma rc vc mc u1 u2) (t:List UInt8) (ht:t.length<=400000) (hT:TabZ W) (hm:m.memo=[]) :
 Calls Tryz.prog 87 #[lv3,.pointer (some ⟨q,0,none⟩),.string (bs t)] W (TkO W q ma (tkL 3 m t)):=by
 obtain ⟨X0,hX0⟩:∃ X,X=W.alloc (.cells #[.string ⟨#[118,97,108,115]⟩,.func (.func 134) #[] #[],.func (.func 136) #[] #[]] 112):=⟨_,rfl⟩
 have b0:Below W.heap.size W X0:=by rw [hX0];exact (Below.refl _ _).alloc (Nat.le_refl _) _
 have HL0:Hid (L3 X0 W.heap.size (.string ⟨#[118,97,108,115]⟩) (.func (.func 134) #[] #[]) (.func (.func 136) #[] #[])):=by rw [hX0];exact L3.made _ _ _ _ _
 have hE:W.alloc (.cells #[.string ⟨#[118,97,108,115]⟩,.func (.func 134) #[] #[],.func (.func 136) #[] #[]] 112)=X0:=hX0.symm
 have HC:Hid _:=iCut 32 (bs t) X0 (hT.below b0) (by rw [bs_size];omega)
 rw [tl_bs] at HC
 have hcl:(cutS 32 t).length<=400000:=by have:=cutS_le 32 t;omega
 have HLD:Hid (Ld W q m ra va ma rc vc mc u1 u2):=h
 have HT:Hid (TabZ W):=hT
 have HB0:Hid (Below W.heap.size W X0):=b0
 obtain ⟨X,hX⟩:∃ X,X=bs (cutF 32 t):=⟨_,rfl⟩
 have HX9:Hid (X=bs (cutF 32 t)):=hX
 rw [<- hX] at HC
 clear hX0 b0 h hT ht hX
 go_enter Tryz.func87,Tryz.ntmps87
 go_upto_region 1 with fail
 clear hE
 go_wp2_with fail
 refine Calls.mono HC.out ?_
 rintro e w1 ⟨⟨cb,rfl⟩,hb1⟩
 have HB1:Hid (Below W.heap.size W w1):=HB0.out.trans (hb1.mono HB0.out.size)
 have HL1:Hid (L3 w1 W.heap.size (.string ⟨#[118,97,108,115]⟩) (.func (.func 134) #[] #[]) (.func (.func 136) #[] #[])):=HL0.out.below hb1
 clear hb1 HL0 HB0
 by_cases hw:cutF 32 t=wd 3
 rotate_left
 ·have hne:(X.toList==[118,97,108,115])=false:=Ss1.eql_false (by rw [HX9.out,tl_bs];exact hw)
  have HF:Hid (tkL 3 m t=none):=by show _=_;unfold tkL;rw [if_neg hw]
  clear hw
  obtain ⟨y0,y1,y2,_,_,_⟩:=HL1.out
  have hyl:=HL1.out.lt
  go_wp2
  go_ret
  exact ⟨fun _=>⟨_,rfl⟩,fun m' hm'=>(by rw [HF.out] at hm';cases hm'),Kept.ofBelow HB1.out⟩
 have heq:(X.toList==[118,97,108,115])=true:=Ss1.eql_true (by rw [HX9.out,tl_bs];exact hw)
 have HF:Hid (tkL 3 m t=rd m (cutS 32 t) 3):=by show _=_;unfold tkL;rw [if_pos hw]
 have HX:Hid (Ld w1 q m ra va ma rc vc mc u1 u2):=HLD.out.below HB1.out
 have HRD:Hid _:=r3 w1 q m ra va ma rc vc mc u1 u2 HX.out (cutS 32 t) hcl (HT.out.below HB1.out) hm (HX.out.nm hm)
 have HNQ:Hid (¬ (W.heap.size=q\/At ma W.heap.size)):=fun e=>by
  rcases e with e|e
  ·have:=HLD.out.lt;omega
  ·have:=memo_lt HLD.out _ e;omega
 clear hw hcl
 obtain ⟨y0,y1,y2,_,_,_⟩:=HL1.out
 have hyl:=HL1.out.lt
 go_wp2_with fail
 clear y0 y1 y2 hyl
 refine Calls.mono HRD.out ?_
 rintro e w2 ⟨rfl,hld,hk2⟩
 have HK2:Hid (Kept (fun b=>b=q\/At ma b) W w2):=(Kept.ofBelow HB1.out).trans hk2
 have HL2:Hid (L3 w2 W.heap.size (.string ⟨#[118,97,108,115]⟩) (.func (.func 134) #[] #[]) (.func (.func 136) #[] #[])):=HL1.out.kept hk2 HNQ.out
 have HLZ:Hid (∀ m',rd m (cutS 32 t) 3=some m'->∃ ra va ma rc vc mc u1 u2,Ld w2 q m' ra va ma rc vc mc u1 u2):=hld
 clear hld hk2
 cases hr:rd m (cutS 32 t) 3 with
 | none =>
   have HRN:Hid (rd m (cutS 32 t) 3=none):=hr
   clear hr
   obtain ⟨y0,y1,y2,_,_,_⟩:=HL2.out
   have hyl:=HL2.out.lt
   go_wp2
   go_ret
   exact ⟨fun _=>⟨_,rfl⟩,fun m' hm'=>(by rw [HF.out,HRN.out] at hm';cases hm'),HK2.out⟩
 | some m9 =>
   have HRN:Hid (rd m (cutS 32 t) 3=some m9):=hr
   clear hr
   go_wp2
   go_ret
   exact ⟨fun e=>(by rw [HF.out,HRN.out] at e;cases e),fun m' hm'=>⟨rfl,HLZ.out m' (by rw [<- HF.out];exact hm')⟩,HK2.out⟩
theorem tk4 (W:World) (q:Nat) (m:Mc) (ra va ma:Option Addr) (rc vc mc u1 u2:Nat) (h:Ld W q m ra va ma rc vc mc u1 u2) (t:List UInt8) (ht:t.length<=400000) (hT:TabZ W) :
 Calls Tryz.prog 87 #[lv4,.pointer (some ⟨q,0,none⟩),.string (bs t)] W (TkO W q ma (tkL 4 m t)):=by
 obtain ⟨X0,hX0⟩:∃ X,X=W.alloc (.cells #[.string ⟨#[114,101,116]⟩,.func (.func 138) #[] #[],.func (.func 139) #[] #[]] 112):=⟨_,rfl⟩
 have b0:Below W.heap.size W X0:=by rw [hX0];exact (Below.refl _ _).alloc (Nat.le_refl _) _
 have HL0:Hid (L3 X0 W.heap.size (.string ⟨#[114,101,116]⟩) (.func (.func 138) #[] #[]) (.func (.func 139) #[] #[])):=by rw [hX0];exact L3.made _ _ _ _ _
 have hE:W.alloc (.cells #[.string ⟨#[114,101,116]⟩,.func (.func 138) #[] #[],.func (.func 139) #[] #[]] 112)=X0:=hX0.symm
 have HC:Hid _:=iCut 32 (bs t) X0 (hT.below b0) (by rw [bs_size];omega)
 rw [tl_bs] at HC
 have hcl:(cutS 32 t).length<=400000:=by have:=cutS_le 32 t;omega
 have HLD:Hid (Ld W q m ra va ma rc vc mc u1 u2):=h
 have HT:Hid (TabZ W):=hT
 have HB0:Hid (Below W.heap.size W X0):=b0
 obtain ⟨X,hX⟩:∃ X,X=bs (cutF 32 t):=⟨_,rfl⟩
 have HX9:Hid (X=bs (cutF 32 t)):=hX
 rw [<- hX] at HC
 clear hX0 b0 h hT ht hX
 go_enter Tryz.func87,Tryz.ntmps87
 go_upto_region 1 with fail
 clear hE
 go_wp2_with fail
 refine Calls.mono HC.out ?_
 rintro e w1 ⟨⟨cb,rfl⟩,hb1⟩
 have HB1:Hid (Below W.heap.size W w1):=HB0.out.trans (hb1.mono HB0.out.size)
 have HL1:Hid (L3 w1 W.heap.size (.string ⟨#[114,101,116]⟩) (.func (.func 138) #[] #[]) (.func (.func 139) #[] #[])):=HL0.out.below hb1
 clear hb1 HL0 HB0
 by_cases hw:cutF 32 t=wd 4
 rotate_left
 ·have hne:(X.toList==[114,101,116])=false:=Ss1.eql_false (by rw [HX9.out,tl_bs];exact hw)
  have HF:Hid (tkL 4 m t=none):=by show _=_;unfold tkL;rw [if_neg hw]
  clear hw
  obtain ⟨y0,y1,y2,_,_,_⟩:=HL1.out
  have hyl:=HL1.out.lt
  go_wp2
  go_ret
  exact ⟨fun _=>⟨_,rfl⟩,fun m' hm'=>(by rw [HF.out] at hm';cases hm'),Kept.ofBelow HB1.out⟩
 have heq:(X.toList==[114,101,116])=true:=Ss1.eql_true (by rw [HX9.out,tl_bs];exact hw)
 have HF:Hid (tkL 4 m t=rd m (cutS 32 t) 4):=by show _=_;unfold tkL;rw [if_pos hw]
 have HX:Hid (Ld w1 q m ra va ma rc vc mc u1 u2):=HLD.out.below HB1.out
 have HRD:Hid _:=r4 w1 q m ra va ma rc vc mc u1 u2 HX.out (cutS 32 t) hcl (HT.out.below HB1.out)
 have HNQ:Hid (¬ (W.heap.size=q\/At ma W.heap.size)):=fun e=>by
  rcases e with e|e
  ·have:=HLD.out.lt;omega
  ·have:=memo_lt HLD.out _ e;omega
 clear hw hcl
 obtain ⟨y0,y1,y2,_,_,_⟩:=HL1.out
 have hyl:=HL1.out.lt
 go_wp2_with fail
 clear y0 y1 y2 hyl
 refine Calls.mono HRD.out ?_
 rintro e w2 ⟨rfl,hld,hk2⟩
 have HK2:Hid (Kept (fun b=>b=q\/At ma b) W w2):=(Kept.ofBelow HB1.out).trans hk2
 have HL2:Hid (L3 w2 W.heap.size (.string ⟨#[114,101,116]⟩) (.func (.func 138) #[] #[]) (.func (.func 139) #[] #[])):=HL1.out.kept hk2 HNQ.out
 have HLZ:Hid (∀ m',rd m (cutS 32 t) 4=some m'->∃ ra va ma rc vc mc u1 u2,Ld w2 q m' ra va ma rc vc mc u1 u2):=hld
 clear hld hk2
 cases hr:rd m (cutS 32 t) 4 with
 | none =>
   have HRN:Hid (rd m (cutS 32 t) 4=none):=hr
   clear hr
   obtain ⟨y0,y1,y2,_,_,_⟩:=HL2.out
   have hyl:=HL2.out.lt
   go_wp2
   go_ret
   exact ⟨fun _=>⟨_,rfl⟩,fun m' hm'=>(by rw [HF.out,HRN.out] at hm';cases hm'),HK2.out⟩
 | some m9 =>
   have HRN:Hid (rd m (cutS 32 t) 4=some m9):=hr
   clear hr
   go_wp2
   go_ret
   exact ⟨fun e=>(by rw [HF.out,HRN.out] at e;cases e),fun m' hm'=>⟨rfl,HLZ.out m' (by rw [<- HF.out];exact hm')⟩,HK2.out⟩
theorem tk5 (W:World) (q:Nat) (m:Mc) (ra va ma:Option Addr) (rc vc mc u1 u2:Nat) (h:Ld W q m ra va ma rc vc mc u1 u2) (t:List UInt8) (ht:t.length<=400000) (hT:TabZ W) :
 Calls Tryz.prog 87 #[lv5,.pointer (some ⟨q,0,none⟩),.string (bs t)] W (TkO W q ma (tkL 5 m t)):=by
 obtain ⟨X0,hX0⟩:∃ X,X=W.alloc (.cells #[.string ⟨#[111,118,101,114]⟩,.func (.func 140) #[] #[],.func (.func 141) #[] #[]] 112):=⟨_,rfl⟩
 have b0:Below W.heap.size W X0:=by rw [hX0];exact (Below.refl _ _).alloc (Nat.le_refl _) _
 have HL0:Hid (L3 X0 W.heap.size (.string ⟨#[111,118,101,114]⟩) (.func (.func 140) #[] #[]) (.func (.func 141) #[] #[])):=by rw [hX0];exact L3.made _ _ _ _ _
 have hE:W.alloc (.cells #[.string ⟨#[111,118,101,114]⟩,.func (.func 140) #[] #[],.func (.func 141) #[] #[]] 112)=X0:=hX0.symm
 have HC:Hid _:=iCut 32 (bs t) X0 (hT.below b0) (by rw [bs_size];omega)
 rw [tl_bs] at HC
 have hcl:(cutS 32 t).length<=400000:=by have:=cutS_le 32 t;omega
 have HLD:Hid (Ld W q m ra va ma rc vc mc u1 u2):=h
 have HT:Hid (TabZ W):=hT
 have HB0:Hid (Below W.heap.size W X0):=b0
 obtain ⟨X,hX⟩:∃ X,X=bs (cutF 32 t):=⟨_,rfl⟩
 have HX9:Hid (X=bs (cutF 32 t)):=hX
 rw [<- hX] at HC
 clear hX0 b0 h hT ht hX
 go_enter Tryz.func87,Tryz.ntmps87
 go_upto_region 1 with fail
 clear hE
 go_wp2_with fail
 refine Calls.mono HC.out ?_
 rintro e w1 ⟨⟨cb,rfl⟩,hb1⟩
 have HB1:Hid (Below W.heap.size W w1):=HB0.out.trans (hb1.mono HB0.out.size)
 have HL1:Hid (L3 w1 W.heap.size (.string ⟨#[111,118,101,114]⟩) (.func (.func 140) #[] #[]) (.func (.func 141) #[] #[])):=HL0.out.below hb1
 clear hb1 HL0 HB0
 by_cases hw:cutF 32 t=wd 5
 rotate_left
 ·have hne:(X.toList==[111,118,101,114])=false:=Ss1.eql_false (by rw [HX9.out,tl_bs];exact hw)
  have HF:Hid (tkL 5 m t=none):=by show _=_;unfold tkL;rw [if_neg hw]
  clear hw
  obtain ⟨y0,y1,y2,_,_,_⟩:=HL1.out
  have hyl:=HL1.out.lt
  go_wp2
  go_ret
  exact ⟨fun _=>⟨_,rfl⟩,fun m' hm'=>(by rw [HF.out] at hm';cases hm'),Kept.ofBelow HB1.out⟩
 have heq:(X.toList==[111,118,101,114])=true:=Ss1.eql_true (by rw [HX9.out,tl_bs];exact hw)
 have HF:Hid (tkL 5 m t=rd m (cutS 32 t) 5):=by show _=_;unfold tkL;rw [if_pos hw]
 have HX:Hid (Ld w1 q m ra va ma rc vc mc u1 u2):=HLD.out.below HB1.out
 have HRD:Hid _:=r5 w1 q m ra va ma rc vc mc u1 u2 HX.out (cutS 32 t) hcl (HT.out.below HB1.out)
 have HNQ:Hid (¬ (W.heap.size=q\/At ma W.heap.size)):=fun e=>by
  rcases e with e|e
  ·have:=HLD.out.lt;omega
  ·have:=memo_lt HLD.out _ e;omega
 clear hw hcl
 obtain ⟨y0,y1,y2,_,_,_⟩:=HL1.out
 have hyl:=HL1.out.lt
 go_wp2_with fail
 clear y0 y1 y2 hyl
 refine Calls.mono HRD.out ?_
 rintro e w2 ⟨rfl,hld,hk2⟩
 have HK2:Hid (Kept (fun b=>b=q\/At ma b) W w2):=(Kept.ofBelow HB1.out).trans hk2
 have HL2:Hid (L3 w2 W.heap.size (.string ⟨#[111,118,101,114]⟩) (.func (.func 140) #[] #[]) (.func (.func 141) #[] #[])):=HL1.out.kept hk2 HNQ.out
 have HLZ:Hid (∀ m',rd m (cutS 32 t) 5=some m'->∃ ra va ma rc vc mc u1 u2,Ld w2 q m' ra va ma rc vc mc u1 u2):=hld
 clear hld hk2
 cases hr:rd m (cutS 32 t) 5 with
 | none =>
   have HRN:Hid (rd m (cutS 32 t) 5=none):=hr
   clear hr
   obtain ⟨y0,y1,y2,_,_,_⟩:=HL2.out
   have hyl:=HL2.out.lt
   go_wp2
   go_ret
   exact ⟨fun _=>⟨_,rfl⟩,fun m' hm'=>(by rw [HF.out,HRN.out] at hm';cases hm'),HK2.out⟩
 | some m9 =>
   have HRN:Hid (rd m (cutS 32 t) 5=some m9):=hr
   clear hr
   go_wp2
   go_ret
   exact ⟨fun e=>(by rw [HF.out,HRN.out] at e;cases e),fun m' hm'=>⟨rfl,HLZ.out m' (by rw [<- HF.out];exact hm')⟩,HK2.out⟩
theorem tk6 (W:World) (q:Nat) (m:Mc) (ra va ma:Option Addr) (rc vc mc u1 u2:Nat) (h:Ld W q m ra va ma rc vc mc u1 u2) (t:List UInt8) (ht:t.length<=400000) (hT:TabZ W) :
 Calls Tryz.prog 87 #[lv6,.pointer (some ⟨q,0,none⟩),.string (bs t)] W (TkO W q ma (tkL 6 m t)):=by
 obtain ⟨X0,hX0⟩:∃ X,X=W.alloc (.cells #[.string ⟨#[99,111,117,110,116,115]⟩,.func (.func 142) #[] #[],.func (.func 143) #[] #[]] 112):=⟨_,rfl⟩
 have b0:Below W.heap.size W X0:=by rw [hX0];exact (Below.refl _ _).alloc (Nat.le_refl _) _
 have HL0:Hid (L3 X0 W.heap.size (.string ⟨#[99,111,117,110,116,115]⟩) (.func (.func 142) #[] #[]) (.func (.func 143) #[] #[])):=by rw [hX0];exact L3.made _ _ _ _ _
 have hE:W.alloc (.cells #[.string ⟨#[99,111,117,110,116,115]⟩,.func (.func 142) #[] #[],.func (.func 143) #[] #[]] 112)=X0:=hX0.symm
 have HC:Hid _:=iCut 32 (bs t) X0 (hT.below b0) (by rw [bs_size];omega)
 rw [tl_bs] at HC
 have hcl:(cutS 32 t).length<=400000:=by have:=cutS_le 32 t;omega
 have HLD:Hid (Ld W q m ra va ma rc vc mc u1 u2):=h
 have HT:Hid (TabZ W):=hT
 have HB0:Hid (Below W.heap.size W X0):=b0
 obtain ⟨X,hX⟩:∃ X,X=bs (cutF 32 t):=⟨_,rfl⟩
 have HX9:Hid (X=bs (cutF 32 t)):=hX
 rw [<- hX] at HC
 clear hX0 b0 h hT ht hX
 go_enter Tryz.func87,Tryz.ntmps87
 go_upto_region 1 with fail
 clear hE
 go_wp2_with fail
 refine Calls.mono HC.out ?_
 rintro e w1 ⟨⟨cb,rfl⟩,hb1⟩
 have HB1:Hid (Below W.heap.size W w1):=HB0.out.trans (hb1.mono HB0.out.size)
 have HL1:Hid (L3 w1 W.heap.size (.string ⟨#[99,111,117,110,116,115]⟩) (.func (.func 142) #[] #[]) (.func (.func 143) #[] #[])):=HL0.out.below hb1
 clear hb1 HL0 HB0
 by_cases hw:cutF 32 t=wd 6
 rotate_left
 ·have hne:(X.toList==[99,111,117,110,116,115])=false:=Ss1.eql_false (by rw [HX9.out,tl_bs];exact hw)
  have HF:Hid (tkL 6 m t=none):=by show _=_;unfold tkL;rw [if_neg hw]
  clear hw
  obtain ⟨y0,y1,y2,_,_,_⟩:=HL1.out
  have hyl:=HL1.out.lt
  go_wp2
  go_ret
  exact ⟨fun _=>⟨_,rfl⟩,fun m' hm'=>(by rw [HF.out] at hm';cases hm'),Kept.ofBelow HB1.out⟩
 have heq:(X.toList==[99,111,117,110,116,115])=true:=Ss1.eql_true (by rw [HX9.out,tl_bs];exact hw)
 have HF:Hid (tkL 6 m t=rd m (cutS 32 t) 6):=by show _=_;unfold tkL;rw [if_pos hw]
 have HX:Hid (Ld w1 q m ra va ma rc vc mc u1 u2):=HLD.out.below HB1.out
 have HRD:Hid _:=r6 w1 q m ra va ma rc vc mc u1 u2 HX.out (cutS 32 t) hcl (HT.out.below HB1.out)
 have HNQ:Hid (¬ (W.heap.size=q\/At ma W.heap.size)):=fun e=>by
  rcases e with e|e
  ·have:=HLD.out.lt;omega
  ·have:=memo_lt HLD.out _ e;omega
 clear hw hcl
 obtain ⟨y0,y1,y2,_,_,_⟩:=HL1.out
 have hyl:=HL1.out.lt
 go_wp2_with fail
 clear y0 y1 y2 hyl
 refine Calls.mono HRD.out ?_
 rintro e w2 ⟨rfl,hld,hk2⟩
 have HK2:Hid (Kept (fun b=>b=q\/At ma b) W w2):=(Kept.ofBelow HB1.out).trans hk2
 have HL2:Hid (L3 w2 W.heap.size (.string ⟨#[99,111,117,110,116,115]⟩) (.func (.func 142) #[] #[]) (.func (.func 143) #[] #[])):=HL1.out.kept hk2 HNQ.out
 have HLZ:Hid (∀ m',rd m (cutS 32 t) 6=some m'->∃ ra va ma rc vc mc u1 u2,Ld w2 q m' ra va ma rc vc mc u1 u2):=hld
 clear hld hk2
 cases hr:rd m (cutS 32 t) 6 with
 | none =>
   have HRN:Hid (rd m (cutS 32 t) 6=none):=hr
   clear hr
   obtain ⟨y0,y1,y2,_,_,_⟩:=HL2.out
   have hyl:=HL2.out.lt
   go_wp2
   go_ret
   exact ⟨fun _=>⟨_,rfl⟩,fun m' hm'=>(by rw [HF.out,HRN.out] at hm';cases hm'),HK2.out⟩
 | some m9 =>
   have HRN:Hid (rd m (cutS 32 t) 6=some m9):=hr
   clear hr
   go_wp2
   go_ret
   exact ⟨fun e=>(by rw [HF.out,HRN.out] at e;cases e),fun m' hm'=>⟨rfl,HLZ.out m' (by rw [<- HF.out];exact hm')⟩,HK2.out⟩
theorem tk7 (W:World) (q:Nat) (m:Mc) (ra va ma:Option Addr) (rc vc mc u1 u2:Nat) (h:Ld W q m ra va ma rc vc mc u1 u2) (t:List UInt8) (ht:t.length<=400000) (hT:TabZ W) (k:Nat) (hk:m.memo.length<=400000) (bx:Nat) :
 Calls Tryz.prog 87 #[(lv7 bx),.pointer (some ⟨q,0,none⟩),.string (bs t)] W (TkO W q ma (tkL (k+7) m t)):=by
 obtain ⟨X0,hX0⟩:∃ X,X=W.alloc (.cells #[.string ⟨#[115,101,101,110]⟩,.func (.func 145) #[] #[.pointer (some ⟨bx,0,none⟩)],.func (.func 146) #[] #[]] 112):=⟨_,rfl⟩
 have b0:Below W.heap.size W X0:=by rw [hX0];exact (Below.refl _ _).alloc (Nat.le_refl _) _
 have HL0:Hid (L3 X0 W.heap.size (.string ⟨#[115,101,101,110]⟩) (.func (.func 145) #[] #[.pointer (some ⟨bx,0,none⟩)]) (.func (.func 146) #[] #[])):=by rw [hX0];exact L3.made _ _ _ _ _
 have hE:W.alloc (.cells #[.string ⟨#[115,101,101,110]⟩,.func (.func 145) #[] #[.pointer (some ⟨bx,0,none⟩)],.func (.func 146) #[] #[]] 112)=X0:=hX0.symm
 have HC:Hid _:=iCut 32 (bs t) X0 (hT.below b0) (by rw [bs_size];omega)
 rw [tl_bs] at HC
 have hcl:(cutS 32 t).length<=400000:=by have:=cutS_le 32 t;omega
 have HLD:Hid (Ld W q m ra va ma rc vc mc u1 u2):=h
 have HT:Hid (TabZ W):=hT
 have HB0:Hid (Below W.heap.size W X0):=b0
 obtain ⟨X,hX⟩:∃ X,X=bs (cutF 32 t):=⟨_,rfl⟩
 have HX9:Hid (X=bs (cutF 32 t)):=hX
 rw [<- hX] at HC
 clear hX0 b0 h hT ht hX
 go_enter Tryz.func87,Tryz.ntmps87
 go_upto_region 1 with fail
 clear hE
 go_wp2_with fail
 refine Calls.mono HC.out ?_
 rintro e w1 ⟨⟨cb,rfl⟩,hb1⟩
 have HB1:Hid (Below W.heap.size W w1):=HB0.out.trans (hb1.mono HB0.out.size)
 have HL1:Hid (L3 w1 W.heap.size (.string ⟨#[115,101,101,110]⟩) (.func (.func 145) #[] #[.pointer (some ⟨bx,0,none⟩)]) (.func (.func 146) #[] #[])):=HL0.out.below hb1
 clear hb1 HL0 HB0
 by_cases hw:cutF 32 t=wd (k+7)
 rotate_left
 ·have hne:(X.toList==[115,101,101,110])=false:=Ss1.eql_false (by rw [HX9.out,tl_bs];exact hw)
  have HF:Hid (tkL (k+7) m t=none):=by show _=_;unfold tkL;rw [if_neg hw]
  clear hw
  obtain ⟨y0,y1,y2,_,_,_⟩:=HL1.out
  have hyl:=HL1.out.lt
  go_wp2
  go_ret
  exact ⟨fun _=>⟨_,rfl⟩,fun m' hm'=>(by rw [HF.out] at hm';cases hm'),Kept.ofBelow HB1.out⟩
 have heq:(X.toList==[115,101,101,110])=true:=Ss1.eql_true (by rw [HX9.out,tl_bs];exact hw)
 have HF:Hid (tkL (k+7) m t=rd m (cutS 32 t) (k+7)):=by show _=_;unfold tkL;rw [if_pos hw]
 have HX:Hid (Ld w1 q m ra va ma rc vc mc u1 u2):=HLD.out.below HB1.out
 have HRD:Hid _:=r7 w1 q m ra va ma rc vc mc u1 u2 HX.out (cutS 32 t) hcl (HT.out.below HB1.out) k hk
 have HNQ:Hid (¬ (W.heap.size=q\/At ma W.heap.size)):=fun e=>by
  rcases e with e|e
  ·have:=HLD.out.lt;omega
  ·have:=memo_lt HLD.out _ e;omega
 clear hw hcl
 obtain ⟨y0,y1,y2,_,_,_⟩:=HL1.out
 have hyl:=HL1.out.lt
 go_wp2_with fail
 clear y0 y1 y2 hyl
 refine Calls.mono HRD.out ?_
 rintro e w2 ⟨rfl,hld,hk2⟩
 have HK2:Hid (Kept (fun b=>b=q\/At ma b) W w2):=(Kept.ofBelow HB1.out).trans hk2
 have HL2:Hid (L3 w2 W.heap.size (.string ⟨#[115,101,101,110]⟩) (.func (.func 145) #[] #[.pointer (some ⟨bx,0,none⟩)]) (.func (.func 146) #[] #[])):=HL1.out.kept hk2 HNQ.out
 have HLZ:Hid (∀ m',rd m (cutS 32 t) (k+7)=some m'->∃ ra va ma rc vc mc u1 u2,Ld w2 q m' ra va ma rc vc mc u1 u2):=hld
 clear hld hk2
 cases hr:rd m (cutS 32 t) (k+7) with
 | none =>
   have HRN:Hid (rd m (cutS 32 t) (k+7)=none):=hr
   clear hr
   obtain ⟨y0,y1,y2,_,_,_⟩:=HL2.out
   have hyl:=HL2.out.lt
   go_wp2
   go_ret
   exact ⟨fun _=>⟨_,rfl⟩,fun m' hm'=>(by rw [HF.out,HRN.out] at hm';cases hm'),HK2.out⟩
 | some m9 =>
   have HRN:Hid (rd m (cutS 32 t) (k+7)=some m9):=hr
   clear hr
   go_wp2
   go_ret
   exact ⟨fun e=>(by rw [HF.out,HRN.out] at e;cases e),fun m' hm'=>⟨rfl,HLZ.out m' (by rw [<- HF.out];exact hm')⟩,HK2.out⟩
end Zl8
end Go.Proofs.YtjajkmdoggbicaaGreatDoor
