import Derived.Test.YtjajkmdoggbicaaGreatDoorRows
import Derived.WalkKit
import Derived.WalkSpells
import Derived.WalkLawsBesides
import Derived.Deep.QuietTactic
import Derived.BigQuiet
import Derived.Deep.CutBlock
import Derived.Deep.CutRange
import Derived.SizedLaws
import Derived.LaidHandle
import Derived.Stop.Joined
import Derived.Lay
import Derived.Test.YtjajkmdoggbicaaGreatDoorZl8
import Derived.Test.YtjajkmdoggbicaaGreatDoorPkSV24
import Derived.Test.YtjajkmdoggbicaaGreatDoorPkSV45
import Derived.Test.YtjajkmdoggbicaaGreatDoorPkSV31
import Derived.Test.YtjajkmdoggbicaaGreatDoorPkSV4
import Derived.Test.YtjajkmdoggbicaaGreatDoorPkSV0
import Derived.Test.YtjajkmdoggbicaaGreatDoorPkSV3
import Derived.Test.YtjajkmdoggbicaaGreatDoorPkSV30
import Derived.Test.YtjajkmdoggbicaaGreatDoorPkSV43
import Derived.Test.YtjajkmdoggbicaaGreatDoorZm1
import Derived.Test.YtjajkmdoggbicaaGreatDoorPkSV22
namespace Go.Proofs.YtjajkmdoggbicaaGreatDoor
set_option maxRecDepth 100000
set_option maxHeartbeats 8000000
set_option linter.unusedVariables false
namespace Zl9
open Go.RowKit
open Nd0 (Kept At lt_of_cell)
open Mm0 (Mc Mb Mr Mok mval)
open Ss0 (bs bs_size)
open Ss1 (tl tl_bs bs_tl tl_length)
open Zk0 (cutF cutS cutF_le cutS_le)
open Zt0 (TabZ iCut)
open Zs3 (LV lv0 lv1 lv2 lv3 lv4 lv5 lv6 lv7)
open Zl0 Zl1 Zl8
/-- What holds of a machine of which i lines are read. -/
structure St (i:Nat) (m:Mc):Prop where
 memo:i < 7->m.memo=[]
 vals:i<=3->m.vals=[]
 len:m.memo.length<=i
 S:m.S.size<=400000
 K:∀ x∈m.memo,x.k.size<=400000
theorem St.zero:St 0 mc0:=⟨fun _=>rfl,fun _=>rfl,Nat.le_refl _,Nat.zero_le _,fun x hx=>by cases hx⟩
theorem St.next {i:Nat} {m m':Mc} {t:List UInt8} (h:St i m) (ht:t.length<=400000) (e:tkL i m t=some m'):St (i+1) m':=by
 unfold tkL at e
 split at e
 rotate_left
 ·cases e
 have hc:(cutS 32 t).length<=400000:=by have:=cutS_le 32 t;omega
 generalize cutS 32 t=b at e hc
 match i,e with
 | 0,e =>
   simp only [rd] at e
   split at e<;>cases e
   exact ⟨fun _=>h.memo (by omega),fun _=>h.vals (by omega),by have:=h.len;simp only;omega,h.S,h.K⟩
 | 1,e =>
   simp only [rd] at e
   split at e<;>cases e
   exact ⟨fun _=>h.memo (by omega),fun _=>h.vals (by omega),by have:=h.len;simp only;omega,by simp only [bs_size];have:=cutS_le 58 b;omega,h.K⟩
 | 2,e =>
   simp only [rd] at e
   split at e<;>cases e
   exact ⟨fun _=>h.memo (by omega),fun _=>h.vals (by omega),by have:=h.len;simp only;omega,h.S,h.K⟩
 | 3,e =>
   simp only [rd] at e
   split at e<;>cases e
   exact ⟨fun _=>h.memo (by omega),fun z=>by omega,by have:=h.len;simp only;omega,h.S,h.K⟩
 | 4,e =>
   simp only [rd] at e
   split at e<;>cases e
   exact ⟨fun _=>h.memo (by omega),fun z=>by omega,by have:=h.len;simp only;omega,h.S,h.K⟩
 | 5,e =>
   simp only [rd] at e
   split at e<;>cases e
   exact ⟨fun _=>h.memo (by omega),fun z=>by omega,by have:=h.len;simp only;omega,h.S,h.K⟩
 | 6,e =>
   simp only [rd] at e
   split at e<;>cases e
   exact ⟨fun z=>by omega,fun z=>by omega,by have:=h.len;simp only;omega,h.S,h.K⟩
 | k+7,e =>
   simp only [rd] at e
   split at e<;>cases e
   refine ⟨fun z=>by omega,fun z=>by omega,by have:=h.len;simp only [List.length_append,List.length_singleton];omega,h.S,fun x hx=>?_⟩
   rcases List.mem_append.1 hx with hx|hx
   ·exact h.K x hx
   ·obtain rfl:=List.mem_singleton.1 hx
    simp only [bs_size]
    have:=cutF_le 32 b
    omega
/-- A line taken. -/
theorem iTake (W:World) (q:Nat) (m:Mc) (ra va ma:Option Addr) (rc vc mc u1 u2:Nat) (h:Ld W q m ra va ma rc vc mc u1 u2) (t:List UInt8) (ht:t.length<=400000) (hT:TabZ W) (i:Nat) (hi:i<=400000) (hS:St i m) (v:Value) (hv:LV W v i) :
 Calls Tryz.prog 87 #[v,.pointer (some ⟨q,0,none⟩),.string (bs t)] W (TkO W q ma (tkL i m t)):=by
 match i,hv with
 | 0,hv=>obtain rfl:=hv;exact tk0 W q m ra va ma rc vc mc u1 u2 h t ht hT (hS.vals (by omega)) (hS.memo (by omega))
 | 1,hv=>obtain rfl:=hv;exact tk1 W q m ra va ma rc vc mc u1 u2 h t ht hT
 | 2,hv=>obtain rfl:=hv;exact tk2 W q m ra va ma rc vc mc u1 u2 h t ht hT
 | 3,hv=>obtain rfl:=hv;exact tk3 W q m ra va ma rc vc mc u1 u2 h t ht hT (hS.memo (by omega))
 | 4,hv=>obtain rfl:=hv;exact tk4 W q m ra va ma rc vc mc u1 u2 h t ht hT
 | 5,hv=>obtain rfl:=hv;exact tk5 W q m ra va ma rc vc mc u1 u2 h t ht hT
 | 6,hv=>obtain rfl:=hv;exact tk6 W q m ra va ma rc vc mc u1 u2 h t ht hT
 | k+7,hv =>
   obtain ⟨bx,rfl,_⟩:=hv
   exact tk7 W q m ra va ma rc vc mc u1 u2 h t ht hT k (by have:=hS.len;omega) bx
end Zl9
namespace Zl10
open Go.RowKit
open Nd0 (Kept At lt_of_cell)
open Mm0 (Mc Mb Mr Mok mval)
open Mx0 (Mf Mz)
open Ss0 (bs bs_size)
open Ss1 (tl tl_bs bs_tl tl_length)
open Zk0 (cutF cutS cutF_le cutS_le cut_lt)
open Zt0 (TabZ iCut)
open Zs0 (savT svB)
open Zs3 (LV iLineAt)
open Zs5 (rfv iSaved StP)
open Zl0 Zl1 Zl2 Zl8 Zl9
/-- What reading a whole text comes to. -/
def SmP (s:List UInt8) (B:Nat) (e:Ending) (w':World):Prop :=
 (∀ m,ldP s=some m->∃ q ra va ma rc vc mc u1 u2,e=.returned (.tuple #[mval m ra va ma rc vc mc,.nilIface])/\B<=q/\Ld w' q m ra va ma rc vc mc u1 u2)/\(ldP s=none->∃ m ra va ma rc vc mc x,e=.returned (.tuple #[mval m ra va ma rc vc mc,rfv x]))
theorem SmP.no {s:List UInt8} {B:Nat} {w':World} {m:Mc} {ra va ma:Option Addr} {rc vc mc:Nat} {x:ByteArray} (h:ldP s=none):SmP s B (.returned (.tuple #[mval m ra va ma rc vc mc,rfv x])) w' :=
 ⟨fun m hm=>(by rw [h] at hm;cases hm),fun _=>⟨m,ra,va,ma,rc,vc,mc,x,rfl⟩⟩
theorem SmP.yes {s:List UInt8} {B:Nat} {w':World} {q:Nat} {m:Mc} {ra va ma:Option Addr} {rc vc mc u1 u2:Nat} (h:ldP s=some m) (hq:B<=q) (hl:Ld w' q m ra va ma rc vc mc u1 u2):SmP s B (.returned (.tuple #[mval m ra va ma rc vc mc,.nilIface])) w' :=
 ⟨fun m' hm=>(by rw [h] at hm;cases hm;exact ⟨q,ra,va,ma,rc,vc,mc,u1,u2,rfl,hq,hl⟩),fun e=>(by rw [h] at e;cases e)⟩
theorem ld_long {s:List UInt8} (h:¬ s.length<=400000):ldP s=none:=by
 cases hp:ldP s with
 | none=>rfl
 | some m =>
   have:=ldP_ok hp
   unfold okL at this
   simp only [Bool.and_eq_true,decide_eq_true_eq] at this
   obtain ⟨h1,h2⟩:=this
   unfold svB at h1
   simp only [Bool.and_eq_true,decide_eq_true_eq] at h1
   exact absurd (by rw [<- h2];exact h1.2.2) h
theorem ld_rd0 {s:List UInt8} (h:rdS s=none):ldP s=none:=by unfold ldP;rw [h]
theorem ld_rd {s:List UInt8} {m:Mc} (h:rdS s=some m):ldP s=if okL s m=true then some m else none:=by unfold ldP;rw [h]
theorem memo_ge {W:World} {q:Nat} {m:Mc} {ra va ma:Option Addr} {rc vc mc u1 u2:Nat} (h:Ld W q m ra va ma rc vc mc u1 u2):∀ b,At ma b->q < b:=by
 intro b hb
 obtain ⟨a,ha,rfl⟩:=hb
 have hm:=h.memo
 have h1:=h.h1
 have h2:=h.h2
 rcases h.memo with ⟨e,_⟩|⟨g,o,cap,e,_,hl⟩
 ·rw [ha] at e;cases e
 ·rw [e] at hm
  rw [ha] at e
  cases e
  have:=(hm.lt _ _ _ _ rfl).1
  show q < g
  omega
/-- At the loop's head. -/
structure At2 (s:List UInt8) (k:Nat) (m:Mc) (r:List UInt8):Prop where
 f:∃ f,r.length<=f/\rdAll f k m r=rdS s
 st:St k m
 le:k+r.length<=s.length
theorem At2.done {s:List UInt8} {k:Nat} {m:Mc} (h:At2 s k m []):rdS s=some m:=by
 obtain ⟨f,_,e⟩:=h.f
 rw [<- e]
 cases f<;>simp [rdAll]
theorem At2.no {s r:List UInt8} {k:Nat} {m:Mc} (h:At2 s k m r) (hr:r≠[]) (e:tkL k m (cutF 10 r)=none):rdS s=none:=by
 obtain ⟨f,hf,e2⟩:=h.f
 cases f with
 | zero=>exact absurd (List.eq_nil_of_length_eq_zero (by omega)) hr
 | succ f=>rw [<- e2];unfold rdAll;rw [if_neg hr,e]
theorem At2.next {s r:List UInt8} {k:Nat} {m m':Mc} (h:At2 s k m r) (hs:s.length<=400000) (hr:r≠[]) (e:tkL k m (cutF 10 r)=some m'):At2 s (k+1) m' (cutS 10 r):=by
 have hl:=cut_lt 10 hr
 have h3:=h.le
 refine ⟨?_,h.st.next (by have:=cutF_le 10 r;omega) e,by omega⟩
 obtain ⟨f,hf,e2⟩:=h.f
 cases f with
 | zero=>exact absurd (List.eq_nil_of_length_eq_zero (by omega)) hr
 | succ f=>exact ⟨f,by omega,by rw [<- e2];conv=>rhs;unfold rdAll
                                rw [if_neg hr,e]⟩
theorem iSavedMachine (s:List UInt8) (w:World) (hs:s.length<=1048576) (hT:TabZ w) :
 Calls Tryz.prog 50 #[.string (bs s)] w fun e w'=>SmP s w.heap.size e w'/\Below w.heap.size w w':=by
 obtain ⟨X0,hX0⟩:∃ X,X=w.alloc (.cells #[.slice none 0 0,.int .i64 0,.string ⟨#[]⟩,.int .i64 0,.slice none 0 0,.int .i64 0,.bool false,.int .i64 0,.int .i64 0,.int .i64 0,.slice none 0 0] 30):=⟨_,rfl⟩
 have hE:w.alloc (.cells #[.slice none 0 0,.int .i64 0,.string ⟨#[]⟩,.int .i64 0,.slice none 0 0,.int .i64 0,.bool false,.int .i64 0,.int .i64 0,.int .i64 0,.slice none 0 0] 30)=X0:=hX0.symm
 have HB0:Hid (Below w.heap.size w X0):=by rw [hX0];exact (Below.refl _ _).alloc (Nat.le_refl _) _
 have HZ0:Hid (Mf X0 w.heap.size [.slice none 0 0,.int .i64 0,.string ⟨#[]⟩,.int .i64 0,.slice none 0 0,.int .i64 0,.bool false,.int .i64 0,.int .i64 0,.int .i64 0,.slice none 0 0]):=by rw [hX0];exact Mf.made _ _ _
 have HX0:Hid (X0.heap.size=w.heap.size+1):=by rw [hX0];show _=_;simp
 have HT:Hid (TabZ w):=hT
 obtain ⟨S,hS⟩:∃ S,S=bs s:=⟨_,rfl⟩
 have HS:Hid (S=bs s):=hS
 have hSz:S.size=s.length:=by rw [hS,bs_size]
 rw [<- hS]
 clear hX0 hT hS
 go_enter Tryz.func50,Tryz.ntmps50
 go_upto_region 1 with fail
 clear hE
 by_cases hbig:(400000:Int) < (S.size:Int)
 ·have HN:Hid (ldP s=none):=ld_long (by omega)
  clear hSz hs
  obtain ⟨d0,d1,d2,d3,d4,d5,d6,d7,d8,d9,d10,z0,z1,z2,z3,z4,z5,z6,z7,z8,z9,z10⟩:=HZ0.out.all
  go_wp2
  clear d0 d1 d2 d3 d4 d5 d6 d7 d8 d9 d10 z0 z1 z2 z3 z4 z5 z6 z7 z8 z9 z10
  obtain ⟨WF,hWF⟩:∃ WF,WF=(((((((((((X0).setCell ⟨w.heap.size,0,none⟩ (.slice none 0 0)).setCell ⟨w.heap.size,1,none⟩ (.int .i64 0)).setCell ⟨w.heap.size,2,none⟩ (.string ⟨#[]⟩)).setCell ⟨w.heap.size,3,none⟩ (.int .i64 0)).setCell ⟨w.heap.size,4,none⟩ (.slice none 0 0)).setCell ⟨w.heap.size,5,none⟩ (.int .i64 0)).setCell ⟨w.heap.size,6,none⟩ (.bool false)).setCell ⟨w.heap.size,7,none⟩ (.int .i64 0)).setCell ⟨w.heap.size,8,none⟩ (.int .i64 0)).setCell ⟨w.heap.size,9,none⟩ (.int .i64 0)).setCell ⟨w.heap.size,10,none⟩ (.slice none 0 0):=⟨_,rfl⟩
  rw [<- hWF]
  have KF:Kept (fun b=>b=w.heap.size) X0 WF:=by rw [hWF];exact ((((((((((((Kept.refl (fun b=>b=w.heap.size) X0).setCell (p:=⟨w.heap.size,0,none⟩) rfl _).setCell (p:=⟨w.heap.size,1,none⟩) rfl _).setCell (p:=⟨w.heap.size,2,none⟩) rfl _).setCell (p:=⟨w.heap.size,3,none⟩) rfl _).setCell (p:=⟨w.heap.size,4,none⟩) rfl _).setCell (p:=⟨w.heap.size,5,none⟩) rfl _).setCell (p:=⟨w.heap.size,6,none⟩) rfl _).setCell (p:=⟨w.heap.size,7,none⟩) rfl _).setCell (p:=⟨w.heap.size,8,none⟩) rfl _).setCell (p:=⟨w.heap.size,9,none⟩) rfl _).setCell (p:=⟨w.heap.size,10,none⟩) rfl _)
  have HF:Mf WF w.heap.size [.slice none 0 0,.int .i64 0,.string ⟨#[]⟩,.int .i64 0,.slice none 0 0,.int .i64 0,.bool false,.int .i64 0,.int .i64 0,.int .i64 0,.slice none 0 0]:=by
   rw [hWF]
   exact (((((((((((HZ0.out.set 0 (.slice none 0 0)).set 1 (.int .i64 0)).set 2 (.string ⟨#[]⟩)).set 3 (.int .i64 0)).set 4 (.slice none 0 0)).set 5 (.int .i64 0)).set 6 (.bool false)).set 7 (.int .i64 0)).set 8 (.int .i64 0)).set 9 (.int .i64 0)).set 10 (.slice none 0 0))
  obtain ⟨e0,e1,e2,e3,e4,e5,e6,e7,e8,e9,e10,f0,f1,f2,f3,f4,f5,f6,f7,f8,f9,f10⟩:=HF.all
  exact bodyPost_ret (v:=.tuple #[mval mc0 none none none 0 0 0,rfv ⟨#[108,101,110,103,116,104]⟩]) (by simp [results,Tryz.results50,go_sem,mc0,e0,e1,e2,e3,e4,e5,e6,e7,e8,e9,e10]) rfl ⟨SmP.no HN.out,HB0.out.trans (KF.below (fun b hb=>by omega) HB0.out.size)⟩
 have HL:Hid (s.length<=400000):=by show _<=_;omega
 obtain ⟨X1,hX1⟩:∃ X,X=X0.alloc (.cells #[.slice none 0 0,.int .i64 0,.string ⟨#[]⟩,.int .i64 0,.slice none 0 0,.int .i64 0,.bool false,.int .i64 0,.int .i64 0,.int .i64 0,.slice none 0 0] 30):=⟨_,rfl⟩
 have HE1:Hid (X0.alloc (.cells #[.slice none 0 0,.int .i64 0,.string ⟨#[]⟩,.int .i64 0,.slice none 0 0,.int .i64 0,.bool false,.int .i64 0,.int .i64 0,.int .i64 0,.slice none 0 0] 30)=X1):=hX1.symm
 have HB1:Hid (Below w.heap.size w X1):=by rw [hX1];exact HB0.out.alloc HB0.out.size _
 have HZ1:Hid (Mf X1 w.heap.size [.slice none 0 0,.int .i64 0,.string ⟨#[]⟩,.int .i64 0,.slice none 0 0,.int .i64 0,.bool false,.int .i64 0,.int .i64 0,.int .i64 0,.slice none 0 0]):=by rw [hX1];exact HZ0.out.alloc _
 have HL1:Hid (Ld X1 (w.heap.size+1) mc0 none none none 0 0 0 (w.heap.size+2) (w.heap.size+2)):=by
  have h1:=Mf.made X0 #[.slice none 0 0,.int .i64 0,.string ⟨#[]⟩,.int .i64 0,.slice none 0 0,.int .i64 0,.bool false,.int .i64 0,.int .i64 0,.int .i64 0,.slice none 0 0] 30
  have h2:X1.heap.size=w.heap.size+2:=by rw [hX1];have:=HX0.out;simp;omega
  rw [HX0.out,<- hX1] at h1
  exact ⟨h1,by omega,by omega,by omega,nil_bools _ rfl,nil_ints _ rfl,.inl ⟨rfl,rfl⟩,fun _=>rfl⟩
 have HX1:Hid (X0.heap.size=w.heap.size+1):=HX0.out
 clear hX1
 have hx0:=HX0.out
 have hSl:s.length < 400001:=by have:=HL.out;omega
 go_upto_region 5 with fail
 rw [HE1.out]
 go_wp2
 clear hx0 hSz hs hbig HE1
 go_loopw [5,6,7] (fun t r i wr=>∃ (k:Nat) (m:Mc) (rl:List UInt8) (tt:ByteArray) (ra va ma:Option Addr) (rc vc mc u1 u2:Nat),i=.int .i64 k/\r=.string (bs rl)/\t=.string tt/\At2 s k m rl/\Ld wr (w.heap.size+1) m ra va ma rc vc mc u1 u2/\Mf wr w.heap.size [.slice none 0 0,.int .i64 0,.string ⟨#[]⟩,.int .i64 0,.slice none 0 0,.int .i64 0,.bool false,.int .i64 0,.int .i64 0,.int .i64 0,.slice none 0 0]/\Below w.heap.size w wr) (fun _ _ i _=>s.length+1 - (intOf i).toNat)
 case atStart=>exact ⟨0,mc0,s,⟨#[]⟩,none,none,none,0,0,0,_,_,rfl,by rw [HS.out],rfl,⟨⟨s.length,Nat.le_refl _,rfl⟩,St.zero,by omega⟩,HL1.out,HZ1.out,HB1.out⟩
 case round =>
  clear HB1 HZ1 HL1 HX1 HX0 HB0 HZ0
  obtain ⟨k,m,rl,tt,ra,va,ma,rc,vc,mc,u1,u2,rfl,rfl,rfl,hat,hld,hmf,hbr⟩:=hrel
  have HA:Hid (At2 s k m rl):=hat
  have HD:Hid (Ld wr (w.heap.size+1) m ra va ma rc vc mc u1 u2):=hld
  have HZ:Hid (Mf wr w.heap.size [.slice none 0 0,.int .i64 0,.string ⟨#[]⟩,.int .i64 0,.slice none 0 0,.int .i64 0,.bool false,.int .i64 0,.int .i64 0,.int .i64 0,.slice none 0 0]):=hmf
  have HB:Hid (Below w.heap.size w wr):=hbr
  clear hat hld hmf hbr
  obtain ⟨R,hR⟩:∃ R,R=bs rl:=⟨_,rfl⟩
  have HR:Hid (R=bs rl):=hR
  rw [<- hR]
  by_cases hr:rl=[]
  ·have hemp:(R.toList==[])=true:=Ss1.eql_true (by rw [hR,tl_bs];exact hr)
   have HRD:Hid (rdS s=some m):=by subst hr;exact HA.out.done
   clear hR hr
   obtain ⟨d0,d1,d2,d3,d4,d5,d6,d7,d8,d9,d10,z0,z1,z2,z3,z4,z5,z6,z7,z8,z9,z10⟩:=HD.out.mf.all
   go_wp2_with fail
   clear d0 d1 d2 d3 d4 d5 d6 d7 d8 d9 d10 z0 z1 z2 z3 z4 z5 z6 z7 z8 z9 z10
   refine Calls.mono (iSaved m ra va ma rc vc mc wr HD.out.mr (by have:=HA.out.st.S;omega) (fun x hx=>by have:=HA.out.st.K x hx;omega) (HT.out.below HB.out)) ?_
   rintro e w1 ⟨hst,hb1⟩
   have HB1:Hid (Below w.heap.size w w1):=HB.out.trans (hb1.mono HB.out.size)
   have HD1:Hid (Ld w1 (w.heap.size+1) m ra va ma rc vc mc u1 u2):=HD.out.below hb1
   have HZ1:Hid (Mf w1 w.heap.size [.slice none 0 0,.int .i64 0,.string ⟨#[]⟩,.int .i64 0,.slice none 0 0,.int .i64 0,.bool false,.int .i64 0,.int .i64 0,.int .i64 0,.slice none 0 0]):=HZ.out.below hb1
   clear hb1 hemp
   rcases hst with ⟨hv,rfl⟩|⟨hv,x,rfl⟩
   ·obtain ⟨V,hV⟩:∃ V,V=bs (savT m):=⟨_,rfl⟩
    rw [<- hV]
    by_cases hvs:savT m=s
    ·have HP:Hid (ldP s=some m):=by show _=_;rw [ld_rd HRD.out];unfold okL;rw [hv,hvs];simp
     have hVS:V=S:=by rw [hV,hvs,HS.out]
     subst hVS
     clear hV hv hvs
     obtain ⟨d0,d1,d2,d3,d4,d5,d6,d7,d8,d9,d10,z0,z1,z2,z3,z4,z5,z6,z7,z8,z9,z10⟩:=HZ1.out.all
     obtain ⟨a0,a1,a2,a3,a4,a5,a6,a7,a8,a9,a10,y0,y1,y2,y3,y4,y5,y6,y7,y8,y9,y10⟩:=HD1.out.mf.all
     go_wp2
     clear d0 d1 d2 d3 d4 d5 d6 d7 d8 d9 d10 z0 z1 z2 z3 z4 z5 z6 z7 z8 z9 z10 a0 a1 a2 a3 a4 a5 a6 a7 a8 a9 a10 y0 y1 y2 y3 y4 y5 y6 y7 y8 y9 y10
     obtain ⟨WF,hWF⟩:∃ WF,WF=(((((((((((w1).setCell ⟨w.heap.size,0,none⟩ (.slice ra m.row.length rc)).setCell ⟨w.heap.size,1,none⟩ (.int .i64 m.N)).setCell ⟨w.heap.size,2,none⟩ (.string m.S)).setCell ⟨w.heap.size,3,none⟩ (.int .i64 m.room)).setCell ⟨w.heap.size,4,none⟩ (.slice va m.vals.length vc)).setCell ⟨w.heap.size,5,none⟩ (.int .i64 m.ret)).setCell ⟨w.heap.size,6,none⟩ (.bool m.over)).setCell ⟨w.heap.size,7,none⟩ (.int .i64 m.steps)).setCell ⟨w.heap.size,8,none⟩ (.int .i64 m.looks)).setCell ⟨w.heap.size,9,none⟩ (.int .i64 m.hits)).setCell ⟨w.heap.size,10,none⟩ (.slice ma m.memo.length mc):=⟨_,rfl⟩
     rw [<- hWF]
     have KF:Kept (fun b=>b=w.heap.size) w1 WF:=by rw [hWF];exact ((((((((((((Kept.refl (fun b=>b=w.heap.size) w1).setCell (p:=⟨w.heap.size,0,none⟩) rfl _).setCell (p:=⟨w.heap.size,1,none⟩) rfl _).setCell (p:=⟨w.heap.size,2,none⟩) rfl _).setCell (p:=⟨w.heap.size,3,none⟩) rfl _).setCell (p:=⟨w.heap.size,4,none⟩) rfl _).setCell (p:=⟨w.heap.size,5,none⟩) rfl _).setCell (p:=⟨w.heap.size,6,none⟩) rfl _).setCell (p:=⟨w.heap.size,7,none⟩) rfl _).setCell (p:=⟨w.heap.size,8,none⟩) rfl _).setCell (p:=⟨w.heap.size,9,none⟩) rfl _).setCell (p:=⟨w.heap.size,10,none⟩) rfl _)
     have HF:Mf WF w.heap.size [.slice ra m.row.length rc,.int .i64 m.N,.string m.S,.int .i64 m.room,.slice va m.vals.length vc,.int .i64 m.ret,.bool m.over,.int .i64 m.steps,.int .i64 m.looks,.int .i64 m.hits,.slice ma m.memo.length mc]:=by
      rw [hWF]
      exact (((((((((((HZ1.out.set 0 (.slice ra m.row.length rc)).set 1 (.int .i64 m.N)).set 2 (.string m.S)).set 3 (.int .i64 m.room)).set 4 (.slice va m.vals.length vc)).set 5 (.int .i64 m.ret)).set 6 (.bool m.over)).set 7 (.int .i64 m.steps)).set 8 (.int .i64 m.looks)).set 9 (.int .i64 m.hits)).set 10 (.slice ma m.memo.length mc))
     obtain ⟨e0,e1,e2,e3,e4,e5,e6,e7,e8,e9,e10,f0,f1,f2,f3,f4,f5,f6,f7,f8,f9,f10⟩:=HF.all
     exact bodyPost_ret (v:=.tuple #[mval m ra va ma rc vc mc,.nilIface]) (by simp [results,Tryz.results50,go_sem,e0,e1,e2,e3,e4,e5,e6,e7,e8,e9,e10]) rfl ⟨SmP.yes HP.out (Nat.le_succ _) (HD1.out.kept KF (fun b h1 h2=>by omega)),HB1.out.trans (KF.below (fun b hb=>by omega) HB1.out.size)⟩
    ·have HP:Hid (ldP s=none):=by show _=_;rw [ld_rd HRD.out];unfold okL;rw [decide_eq_false hvs];simp
     have hne:(V.toList==S.toList)=false:=Ss1.eql_false (by rw [hV,tl_bs];intro e;exact hvs (by rw [e,HS.out,ByteArray.toList_eq];exact tl_bs s))
     clear hV hv hvs
     obtain ⟨d0,d1,d2,d3,d4,d5,d6,d7,d8,d9,d10,z0,z1,z2,z3,z4,z5,z6,z7,z8,z9,z10⟩:=HZ1.out.all
     obtain ⟨a0,a1,a2,a3,a4,a5,a6,a7,a8,a9,a10,y0,y1,y2,y3,y4,y5,y6,y7,y8,y9,y10⟩:=HD1.out.mf.all
     go_wp2
     clear d0 d1 d2 d3 d4 d5 d6 d7 d8 d9 d10 z0 z1 z2 z3 z4 z5 z6 z7 z8 z9 z10 a0 a1 a2 a3 a4 a5 a6 a7 a8 a9 a10 y0 y1 y2 y3 y4 y5 y6 y7 y8 y9 y10
     obtain ⟨WF,hWF⟩:∃ WF,WF=(((((((((((w1).setCell ⟨w.heap.size,0,none⟩ (.slice ra m.row.length rc)).setCell ⟨w.heap.size,1,none⟩ (.int .i64 m.N)).setCell ⟨w.heap.size,2,none⟩ (.string m.S)).setCell ⟨w.heap.size,3,none⟩ (.int .i64 m.room)).setCell ⟨w.heap.size,4,none⟩ (.slice va m.vals.length vc)).setCell ⟨w.heap.size,5,none⟩ (.int .i64 m.ret)).setCell ⟨w.heap.size,6,none⟩ (.bool m.over)).setCell ⟨w.heap.size,7,none⟩ (.int .i64 m.steps)).setCell ⟨w.heap.size,8,none⟩ (.int .i64 m.looks)).setCell ⟨w.heap.size,9,none⟩ (.int .i64 m.hits)).setCell ⟨w.heap.size,10,none⟩ (.slice ma m.memo.length mc):=⟨_,rfl⟩
     rw [<- hWF]
     have KF:Kept (fun b=>b=w.heap.size) w1 WF:=by rw [hWF];exact ((((((((((((Kept.refl (fun b=>b=w.heap.size) w1).setCell (p:=⟨w.heap.size,0,none⟩) rfl _).setCell (p:=⟨w.heap.size,1,none⟩) rfl _).setCell (p:=⟨w.heap.size,2,none⟩) rfl _).setCell (p:=⟨w.heap.size,3,none⟩) rfl _).setCell (p:=⟨w.heap.size,4,none⟩) rfl _).setCell (p:=⟨w.heap.size,5,none⟩) rfl _).setCell (p:=⟨w.heap.size,6,none⟩) rfl _).setCell (p:=⟨w.heap.size,7,none⟩) rfl _).setCell (p:=⟨w.heap.size,8,none⟩) rfl _).setCell (p:=⟨w.heap.size,9,none⟩) rfl _).setCell (p:=⟨w.heap.size,10,none⟩) rfl _)
     have HF:Mf WF w.heap.size [.slice ra m.row.length rc,.int .i64 m.N,.string m.S,.int .i64 m.room,.slice va m.vals.length vc,.int .i64 m.ret,.bool m.over,.int .i64 m.steps,.int .i64 m.looks,.int .i64 m.hits,.slice ma m.memo.length mc]:=by
      rw [hWF]
      exact (((((((((((HZ1.out.set 0 (.slice ra m.row.length rc)).set 1 (.int .i64 m.N)).set 2 (.string m.S)).set 3 (.int .i64 m.room)).set 4 (.slice va m.vals.length vc)).set 5 (.int .i64 m.ret)).set 6 (.bool m.over)).set 7 (.int .i64 m.steps)).set 8 (.int .i64 m.looks)).set 9 (.int .i64 m.hits)).set 10 (.slice ma m.memo.length mc))
     obtain ⟨e0,e1,e2,e3,e4,e5,e6,e7,e8,e9,e10,f0,f1,f2,f3,f4,f5,f6,f7,f8,f9,f10⟩:=HF.all
     exact bodyPost_ret (v:=.tuple #[mval m ra va ma rc vc mc,rfv ⟨#[102,111,114,109]⟩]) (by simp [results,Tryz.results50,go_sem,e0,e1,e2,e3,e4,e5,e6,e7,e8,e9,e10]) rfl ⟨SmP.no HP.out,HB1.out.trans (KF.below (fun b hb=>by omega) HB1.out.size)⟩
   ·have HP:Hid (ldP s=none):=by show _=_;rw [ld_rd HRD.out];unfold okL;rw [hv];simp
    clear hv
    obtain ⟨d0,d1,d2,d3,d4,d5,d6,d7,d8,d9,d10,z0,z1,z2,z3,z4,z5,z6,z7,z8,z9,z10⟩:=HZ1.out.all
    obtain ⟨a0,a1,a2,a3,a4,a5,a6,a7,a8,a9,a10,y0,y1,y2,y3,y4,y5,y6,y7,y8,y9,y10⟩:=HD1.out.mf.all
    go_wp2
    clear d0 d1 d2 d3 d4 d5 d6 d7 d8 d9 d10 z0 z1 z2 z3 z4 z5 z6 z7 z8 z9 z10 a0 a1 a2 a3 a4 a5 a6 a7 a8 a9 a10 y0 y1 y2 y3 y4 y5 y6 y7 y8 y9 y10
    obtain ⟨WF,hWF⟩:∃ WF,WF=(((((((((((w1).setCell ⟨w.heap.size,0,none⟩ (.slice ra m.row.length rc)).setCell ⟨w.heap.size,1,none⟩ (.int .i64 m.N)).setCell ⟨w.heap.size,2,none⟩ (.string m.S)).setCell ⟨w.heap.size,3,none⟩ (.int .i64 m.room)).setCell ⟨w.heap.size,4,none⟩ (.slice va m.vals.length vc)).setCell ⟨w.heap.size,5,none⟩ (.int .i64 m.ret)).setCell ⟨w.heap.size,6,none⟩ (.bool m.over)).setCell ⟨w.heap.size,7,none⟩ (.int .i64 m.steps)).setCell ⟨w.heap.size,8,none⟩ (.int .i64 m.looks)).setCell ⟨w.heap.size,9,none⟩ (.int .i64 m.hits)).setCell ⟨w.heap.size,10,none⟩ (.slice ma m.memo.length mc):=⟨_,rfl⟩
    rw [<- hWF]
    have KF:Kept (fun b=>b=w.heap.size) w1 WF:=by rw [hWF];exact ((((((((((((Kept.refl (fun b=>b=w.heap.size) w1).setCell (p:=⟨w.heap.size,0,none⟩) rfl _).setCell (p:=⟨w.heap.size,1,none⟩) rfl _).setCell (p:=⟨w.heap.size,2,none⟩) rfl _).setCell (p:=⟨w.heap.size,3,none⟩) rfl _).setCell (p:=⟨w.heap.size,4,none⟩) rfl _).setCell (p:=⟨w.heap.size,5,none⟩) rfl _).setCell (p:=⟨w.heap.size,6,none⟩) rfl _).setCell (p:=⟨w.heap.size,7,none⟩) rfl _).setCell (p:=⟨w.heap.size,8,none⟩) rfl _).setCell (p:=⟨w.heap.size,9,none⟩) rfl _).setCell (p:=⟨w.heap.size,10,none⟩) rfl _)
    have HF:Mf WF w.heap.size [.slice ra m.row.length rc,.int .i64 m.N,.string m.S,.int .i64 m.room,.slice va m.vals.length vc,.int .i64 m.ret,.bool m.over,.int .i64 m.steps,.int .i64 m.looks,.int .i64 m.hits,.slice ma m.memo.length mc]:=by
     rw [hWF]
     exact (((((((((((HZ1.out.set 0 (.slice ra m.row.length rc)).set 1 (.int .i64 m.N)).set 2 (.string m.S)).set 3 (.int .i64 m.room)).set 4 (.slice va m.vals.length vc)).set 5 (.int .i64 m.ret)).set 6 (.bool m.over)).set 7 (.int .i64 m.steps)).set 8 (.int .i64 m.looks)).set 9 (.int .i64 m.hits)).set 10 (.slice ma m.memo.length mc))
    obtain ⟨e0,e1,e2,e3,e4,e5,e6,e7,e8,e9,e10,f0,f1,f2,f3,f4,f5,f6,f7,f8,f9,f10⟩:=HF.all
    exact bodyPost_ret (v:=.tuple #[mval m ra va ma rc vc mc,rfv x]) (by simp [results,Tryz.results50,go_sem,e0,e1,e2,e3,e4,e5,e6,e7,e8,e9,e10]) rfl ⟨SmP.no HP.out,HB1.out.trans (KF.below (fun b hb=>by omega) HB1.out.size)⟩
  have hemp:(R.toList==[])=false:=Ss1.eql_false (by rw [hR,tl_bs];exact hr)
  have HRN:Hid (rl≠[]):=hr
  have HC:Hid _:=iCut 10 R wr (HT.out.below HB.out) (by have h1:=HA.out.le;rw [hR,bs_size];omega)
  rw [show tl R=rl by rw [hR,tl_bs]] at HC
  obtain ⟨T1,hT1⟩:∃ X,X=bs (cutF 10 rl):=⟨_,rfl⟩
  obtain ⟨R2,hR2⟩:∃ X,X=bs (cutS 10 rl):=⟨_,rfl⟩
  have HT1:Hid (T1=bs (cutF 10 rl)):=hT1
  have HR2:Hid (R2=bs (cutS 10 rl)):=hR2
  rw [<- hT1,<- hR2] at HC
  clear hR hr hT1 hR2
  go_wp2_with fail
  refine Calls.mono HC.out ?_
  rintro e w1 ⟨⟨cb,rfl⟩,hb1⟩
  have HB1:Hid (Below w.heap.size w w1):=HB.out.trans (hb1.mono HB.out.size)
  have HD1:Hid (Ld w1 (w.heap.size+1) m ra va ma rc vc mc u1 u2):=HD.out.below hb1
  have HZ1:Hid (Mf w1 w.heap.size [.slice none 0 0,.int .i64 0,.string ⟨#[]⟩,.int .i64 0,.slice none 0 0,.int .i64 0,.bool false,.int .i64 0,.int .i64 0,.int .i64 0,.slice none 0 0]):=HZ.out.below hb1
  have hk9:k<=400000:=by have:=HA.out.le;omega
  clear hb1 hemp HC HB HD HZ
  go_wp2_with fail
  refine (iLineAt k (by omega) w1).mono ?_
  rintro e w2 ⟨v,rfl,hlv,hb2⟩
  have HB2:Hid (Below w.heap.size w w2):=HB1.out.trans (hb2.mono HB1.out.size)
  have HD2:Hid (Ld w2 (w.heap.size+1) m ra va ma rc vc mc u1 u2):=HD1.out.below hb2
  have HZ2:Hid (Mf w2 w.heap.size [.slice none 0 0,.int .i64 0,.string ⟨#[]⟩,.int .i64 0,.slice none 0 0,.int .i64 0,.bool false,.int .i64 0,.int .i64 0,.int .i64 0,.slice none 0 0]):=HZ1.out.below hb2
  have HTK:Hid (Calls Tryz.prog 87 #[v,.pointer (some ⟨w.heap.size+1,0,none⟩),.string T1] w2 (TkO w2 (w.heap.size+1) ma (tkL k m (cutF 10 rl)))):=by
   rw [HT1.out]
   exact iTake w2 _ m ra va ma rc vc mc u1 u2 HD2.out _ (by have:=HA.out.le;have:=cutF_le 10 rl;omega) (HT.out.below HB2.out) k hk9 HA.out.st v hlv
  clear hb2 hlv HB1 HD1 HZ1
  go_wp2_with fail
  refine Calls.mono HTK.out ?_
  rintro e w3 ⟨hno,hyes,hk3⟩
  have HGE:Hid (∀ b,(b=w.heap.size+1\/At ma b)->w.heap.size < b):=fun b hb=>by
   rcases hb with hb|hb
   ·omega
   ·have:=memo_ge HD2.out b hb;omega
  have HB3:Hid (Below w.heap.size w w3):=HB2.out.trans (hk3.below (fun b hb=>Nat.le_of_lt (HGE.out b hb)) HB2.out.size)
  have HZ3:Hid (Mf w3 w.heap.size [.slice none 0 0,.int .i64 0,.string ⟨#[]⟩,.int .i64 0,.slice none 0 0,.int .i64 0,.bool false,.int .i64 0,.int .i64 0,.int .i64 0,.slice none 0 0]):=HZ2.out.kept hk3 (fun hb=>by have:=HGE.out _ hb;omega)
  clear hk3 HTK HGE
  cases htk:tkL k m (cutF 10 rl) with
  | none =>
    have HP:Hid (ldP s=none):=ld_rd0 (HA.out.no HRN.out htk)
    obtain ⟨x,rfl⟩:=hno htk
    clear hno hyes htk hk9
    obtain ⟨d0,d1,d2,d3,d4,d5,d6,d7,d8,d9,d10,z0,z1,z2,z3,z4,z5,z6,z7,z8,z9,z10⟩:=HZ3.out.all
    go_wp2
    clear d0 d1 d2 d3 d4 d5 d6 d7 d8 d9 d10 z0 z1 z2 z3 z4 z5 z6 z7 z8 z9 z10
    obtain ⟨WF,hWF⟩:∃ WF,WF=(((((((((((w3).setCell ⟨w.heap.size,0,none⟩ (.slice none 0 0)).setCell ⟨w.heap.size,1,none⟩ (.int .i64 0)).setCell ⟨w.heap.size,2,none⟩ (.string ⟨#[]⟩)).setCell ⟨w.heap.size,3,none⟩ (.int .i64 0)).setCell ⟨w.heap.size,4,none⟩ (.slice none 0 0)).setCell ⟨w.heap.size,5,none⟩ (.int .i64 0)).setCell ⟨w.heap.size,6,none⟩ (.bool false)).setCell ⟨w.heap.size,7,none⟩ (.int .i64 0)).setCell ⟨w.heap.size,8,none⟩ (.int .i64 0)).setCell ⟨w.heap.size,9,none⟩ (.int .i64 0)).setCell ⟨w.heap.size,10,none⟩ (.slice none 0 0):=⟨_,rfl⟩
    rw [<- hWF]
    have KF:Kept (fun b=>b=w.heap.size) w3 WF:=by rw [hWF];exact ((((((((((((Kept.refl (fun b=>b=w.heap.size) w3).setCell (p:=⟨w.heap.size,0,none⟩) rfl _).setCell (p:=⟨w.heap.size,1,none⟩) rfl _).setCell (p:=⟨w.heap.size,2,none⟩) rfl _).setCell (p:=⟨w.heap.size,3,none⟩) rfl _).setCell (p:=⟨w.heap.size,4,none⟩) rfl _).setCell (p:=⟨w.heap.size,5,none⟩) rfl _).setCell (p:=⟨w.heap.size,6,none⟩) rfl _).setCell (p:=⟨w.heap.size,7,none⟩) rfl _).setCell (p:=⟨w.heap.size,8,none⟩) rfl _).setCell (p:=⟨w.heap.size,9,none⟩) rfl _).setCell (p:=⟨w.heap.size,10,none⟩) rfl _)
    have HF:Mf WF w.heap.size [.slice none 0 0,.int .i64 0,.string ⟨#[]⟩,.int .i64 0,.slice none 0 0,.int .i64 0,.bool false,.int .i64 0,.int .i64 0,.int .i64 0,.slice none 0 0]:=by
     rw [hWF]
     exact (((((((((((HZ3.out.set 0 (.slice none 0 0)).set 1 (.int .i64 0)).set 2 (.string ⟨#[]⟩)).set 3 (.int .i64 0)).set 4 (.slice none 0 0)).set 5 (.int .i64 0)).set 6 (.bool false)).set 7 (.int .i64 0)).set 8 (.int .i64 0)).set 9 (.int .i64 0)).set 10 (.slice none 0 0))
    obtain ⟨e0,e1,e2,e3,e4,e5,e6,e7,e8,e9,e10,f0,f1,f2,f3,f4,f5,f6,f7,f8,f9,f10⟩:=HF.all
    exact bodyPost_ret (v:=.tuple #[mval mc0 none none none 0 0 0,rfv x]) (by simp [results,Tryz.results50,go_sem,mc0,e0,e1,e2,e3,e4,e5,e6,e7,e8,e9,e10]) rfl ⟨SmP.no HP.out,HB3.out.trans (KF.below (fun b hb=>by omega) HB3.out.size)⟩
  | some m' =>
    have HN:Hid (At2 s (k+1) m' (cutS 10 rl)):=HA.out.next HL.out HRN.out htk
    obtain ⟨rfl,hld⟩:=hyes m' htk
    have HLD:Hid (∃ ra va ma rc vc mc u1 u2,Ld w3 (w.heap.size+1) m' ra va ma rc vc mc u1 u2):=hld
    clear hno hyes htk hld
    go_wp2
    go_roundw
    case rel =>
     obtain ⟨ra',va',ma',rc',vc',mc',u1',u2',h'⟩:=HLD.out
     exact ⟨k+1,m',cutS 10 rl,T1,ra',va',ma',rc',vc',mc',u1',u2',by go_num,by rw [HR2.out],rfl,HN.out,h',HZ3.out,HB3.out⟩
    case measure=>have:=HA.out.le;have:=HN.out.le;simp [intOf];omega
end Zl10
namespace Zl11
open Go.RowKit
open Nd0 (Kept At lt_of_cell)
open Mm0 (Mc Mb Mr Mok mval)
open Mx0 (Mf Mz)
open Ss0 (bs bs_size)
open Ss1 (tl tl_bs bs_tl tl_length)
open Zs5 (rfv)
open Zs6 (iRefusal iRefusal0)
open Zs7 (TabE)
open Zl0 Zl1 Zl2 Zl10
/-- What LoadMachine comes to. -/
def LmP (s:List UInt8) (B:Nat) (e:Ending) (w':World):Prop :=
 (∀ m,ldP s=some m->∃ q ra va ma rc vc mc u1 u2,e=.returned (.tuple #[mval m ra va ma rc vc mc,.bool true])/\B<=q/\Ld w' q m ra va ma rc vc mc u1 u2)/\(ldP s=none->e=.returned (.tuple #[mval mc0 none none none 0 0 0,.bool false]))
theorem LmP.no {s:List UInt8} {B:Nat} {w':World} (h:ldP s=none):LmP s B (.returned (.tuple #[mval mc0 none none none 0 0 0,.bool false])) w' :=
 ⟨fun m hm=>(by rw [h] at hm;cases hm),fun _=>rfl⟩
theorem LmP.yes {s:List UInt8} {B:Nat} {w':World} {q:Nat} {m:Mc} {ra va ma:Option Addr} {rc vc mc u1 u2:Nat} (h:ldP s=some m) (hq:B<=q) (hl:Ld w' q m ra va ma rc vc mc u1 u2):LmP s B (.returned (.tuple #[mval m ra va ma rc vc mc,.bool true])) w' :=
 ⟨fun m' hm=>(by rw [h] at hm;cases hm;exact ⟨q,ra,va,ma,rc,vc,mc,u1,u2,rfl,hq,hl⟩),fun e=>(by rw [h] at e;cases e)⟩
theorem iLoad (s:List UInt8) (w:World) (hs:s.length<=1048576) (hT:TabE w) :
 Calls Tryz.prog 17 #[.string (bs s)] w fun e w'=>LmP s w.heap.size e w'/\Below w.heap.size w w':=by
 obtain ⟨X0,hX0⟩:∃ X,X=w.alloc (.cells #[.slice none 0 0,.int .i64 0,.string ⟨#[]⟩,.int .i64 0,.slice none 0 0,.int .i64 0,.bool false,.int .i64 0,.int .i64 0,.int .i64 0,.slice none 0 0] 30):=⟨_,rfl⟩
 have hE:w.alloc (.cells #[.slice none 0 0,.int .i64 0,.string ⟨#[]⟩,.int .i64 0,.slice none 0 0,.int .i64 0,.bool false,.int .i64 0,.int .i64 0,.int .i64 0,.slice none 0 0] 30)=X0:=hX0.symm
 have HB0:Hid (Below w.heap.size w X0):=by rw [hX0];exact (Below.refl _ _).alloc (Nat.le_refl _) _
 have HZ0:Hid (Mf X0 w.heap.size [.slice none 0 0,.int .i64 0,.string ⟨#[]⟩,.int .i64 0,.slice none 0 0,.int .i64 0,.bool false,.int .i64 0,.int .i64 0,.int .i64 0,.slice none 0 0]):=by rw [hX0];exact Mf.made _ _ _
 have HX0:Hid (X0.heap.size=w.heap.size+1):=by rw [hX0];show _=_;simp
 have HT:Hid (TabE w):=hT
 have HSM:Hid _:=iSavedMachine s X0 hs (hT.tab.below HB0.out)
 obtain ⟨S,hS⟩:∃ S,S=bs s:=⟨_,rfl⟩
 rw [<- hS] at HSM
 rw [<- hS]
 clear hX0 hT hS hs
 go_enter Tryz.func17,Tryz.ntmps17
 go_upto_region 1 with fail
 clear hE
 go_wp2_with fail
 refine Calls.mono HSM.out ?_
 rintro e w1 ⟨⟨hyes,hno⟩,hb1⟩
 have HB1:Hid (Below w.heap.size w w1):=HB0.out.trans (hb1.mono HB0.out.size)
 have HZ1:Hid (Mf w1 w.heap.size [.slice none 0 0,.int .i64 0,.string ⟨#[]⟩,.int .i64 0,.slice none 0 0,.int .i64 0,.bool false,.int .i64 0,.int .i64 0,.int .i64 0,.slice none 0 0]):=HZ0.out.below hb1
 clear hb1 HSM
 cases hl:ldP s with
 | none =>
   have HP:Hid (ldP s=none):=hl
   obtain ⟨m,ra,va,ma,rc,vc,mc,x,rfl⟩:=hno hl
   clear hyes hno hl
   obtain ⟨X2,hX2⟩:∃ X,X=w1.alloc (.cells #[.slice ra m.row.length rc,.int .i64 m.N,.string m.S,.int .i64 m.room,.slice va m.vals.length vc,.int .i64 m.ret,.bool m.over,.int .i64 m.steps,.int .i64 m.looks,.int .i64 m.hits,.slice ma m.memo.length mc] 30):=⟨_,rfl⟩
   have HE2:Hid (w1.alloc (.cells #[.slice ra m.row.length rc,.int .i64 m.N,.string m.S,.int .i64 m.room,.slice va m.vals.length vc,.int .i64 m.ret,.bool m.over,.int .i64 m.steps,.int .i64 m.looks,.int .i64 m.hits,.slice ma m.memo.length mc] 30)=X2):=hX2.symm
   have HB2:Hid (Below w.heap.size w X2):=by rw [hX2];exact HB1.out.alloc HB1.out.size _
   have HZ2:Hid (Mf X2 w.heap.size [.slice none 0 0,.int .i64 0,.string ⟨#[]⟩,.int .i64 0,.slice none 0 0,.int .i64 0,.bool false,.int .i64 0,.int .i64 0,.int .i64 0,.slice none 0 0]):=by rw [hX2];exact HZ1.out.alloc _
   clear hX2
   go_upto_region 2 with fail
   rw [HE2.out]
   clear HE2
   go_wp2_with fail
   refine (iRefusal x _ (HT.out.below HB2.out).ety).mono ?_
   rintro e w3 ⟨rfl,hb3⟩
   have HB3:Hid (Below w.heap.size w w3):=HB2.out.trans (hb3.mono HB2.out.size)
   have HZ3:Hid (Mf w3 w.heap.size [.slice none 0 0,.int .i64 0,.string ⟨#[]⟩,.int .i64 0,.slice none 0 0,.int .i64 0,.bool false,.int .i64 0,.int .i64 0,.int .i64 0,.slice none 0 0]):=HZ2.out.below hb3
   clear hb3
   obtain ⟨d0,d1,d2,d3,d4,d5,d6,d7,d8,d9,d10,z0,z1,z2,z3,z4,z5,z6,z7,z8,z9,z10⟩:=HZ3.out.all
   go_wp2
   clear d0 d1 d2 d3 d4 d5 d6 d7 d8 d9 d10 z0 z1 z2 z3 z4 z5 z6 z7 z8 z9 z10
   obtain ⟨WF,hWF⟩:∃ WF,WF=(((((((((((w3).setCell ⟨w.heap.size,0,none⟩ (.slice none 0 0)).setCell ⟨w.heap.size,1,none⟩ (.int .i64 0)).setCell ⟨w.heap.size,2,none⟩ (.string ⟨#[]⟩)).setCell ⟨w.heap.size,3,none⟩ (.int .i64 0)).setCell ⟨w.heap.size,4,none⟩ (.slice none 0 0)).setCell ⟨w.heap.size,5,none⟩ (.int .i64 0)).setCell ⟨w.heap.size,6,none⟩ (.bool false)).setCell ⟨w.heap.size,7,none⟩ (.int .i64 0)).setCell ⟨w.heap.size,8,none⟩ (.int .i64 0)).setCell ⟨w.heap.size,9,none⟩ (.int .i64 0)).setCell ⟨w.heap.size,10,none⟩ (.slice none 0 0):=⟨_,rfl⟩
   rw [<- hWF]
   have KF:Kept (fun b=>b=w.heap.size) w3 WF:=by rw [hWF];exact ((((((((((((Kept.refl (fun b=>b=w.heap.size) w3).setCell (p:=⟨w.heap.size,0,none⟩) rfl _).setCell (p:=⟨w.heap.size,1,none⟩) rfl _).setCell (p:=⟨w.heap.size,2,none⟩) rfl _).setCell (p:=⟨w.heap.size,3,none⟩) rfl _).setCell (p:=⟨w.heap.size,4,none⟩) rfl _).setCell (p:=⟨w.heap.size,5,none⟩) rfl _).setCell (p:=⟨w.heap.size,6,none⟩) rfl _).setCell (p:=⟨w.heap.size,7,none⟩) rfl _).setCell (p:=⟨w.heap.size,8,none⟩) rfl _).setCell (p:=⟨w.heap.size,9,none⟩) rfl _).setCell (p:=⟨w.heap.size,10,none⟩) rfl _)
   have HF:Mf WF w.heap.size [.slice none 0 0,.int .i64 0,.string ⟨#[]⟩,.int .i64 0,.slice none 0 0,.int .i64 0,.bool false,.int .i64 0,.int .i64 0,.int .i64 0,.slice none 0 0]:=by
    rw [hWF]
    exact (((((((((((HZ3.out.set 0 (.slice none 0 0)).set 1 (.int .i64 0)).set 2 (.string ⟨#[]⟩)).set 3 (.int .i64 0)).set 4 (.slice none 0 0)).set 5 (.int .i64 0)).set 6 (.bool false)).set 7 (.int .i64 0)).set 8 (.int .i64 0)).set 9 (.int .i64 0)).set 10 (.slice none 0 0))
   obtain ⟨e0,e1,e2,e3,e4,e5,e6,e7,e8,e9,e10,f0,f1,f2,f3,f4,f5,f6,f7,f8,f9,f10⟩:=HF.all
   exact bodyPost_ret (v:=.tuple #[mval mc0 none none none 0 0 0,.bool false]) (by simp [results,Tryz.results17,go_sem,mc0,e0,e1,e2,e3,e4,e5,e6,e7,e8,e9,e10]) rfl ⟨LmP.no HP.out,HB3.out.trans (KF.below (fun b hb=>by omega) HB3.out.size)⟩
 | some m =>
   have HP:Hid (ldP s=some m):=hl
   obtain ⟨q,ra,va,ma,rc,vc,mc,u1,u2,rfl,hq,hld⟩:=hyes m hl
   clear hyes hno hl
   obtain ⟨X2,hX2⟩:∃ X,X=w1.alloc (.cells #[.slice ra m.row.length rc,.int .i64 m.N,.string m.S,.int .i64 m.room,.slice va m.vals.length vc,.int .i64 m.ret,.bool m.over,.int .i64 m.steps,.int .i64 m.looks,.int .i64 m.hits,.slice ma m.memo.length mc] 30):=⟨_,rfl⟩
   have HE2:Hid (w1.alloc (.cells #[.slice ra m.row.length rc,.int .i64 m.N,.string m.S,.int .i64 m.room,.slice va m.vals.length vc,.int .i64 m.ret,.bool m.over,.int .i64 m.steps,.int .i64 m.looks,.int .i64 m.hits,.slice ma m.memo.length mc] 30)=X2):=hX2.symm
   have b2:Below w1.heap.size w1 X2:=by rw [hX2];exact (Below.refl _ _).alloc (Nat.le_refl _) _
   have HB2:Hid (Below w.heap.size w X2):=HB1.out.trans (b2.mono HB1.out.size)
   have HZ2:Hid (Mf X2 w.heap.size [.slice none 0 0,.int .i64 0,.string ⟨#[]⟩,.int .i64 0,.slice none 0 0,.int .i64 0,.bool false,.int .i64 0,.int .i64 0,.int .i64 0,.slice none 0 0]):=HZ1.out.below b2
   have HD2:Hid (Ld X2 q m ra va ma rc vc mc u1 u2):=hld.below b2
   have HM2:Hid (Mf X2 w1.heap.size [.slice ra m.row.length rc,.int .i64 m.N,.string m.S,.int .i64 m.room,.slice va m.vals.length vc,.int .i64 m.ret,.bool m.over,.int .i64 m.steps,.int .i64 m.looks,.int .i64 m.hits,.slice ma m.memo.length mc]):=by rw [hX2];exact Mf.made _ _ _
   have HQ:Hid (w.heap.size < q):=by show _ < _;have:=HX0.out;omega
   clear hX2 b2 hq hld
   go_upto_region 2 with fail
   rw [HE2.out]
   clear HE2
   go_wp2_with fail
   refine (iRefusal0 _).mono ?_
   rintro e w3 ⟨rfl,hb3⟩
   have HB3:Hid (Below w.heap.size w w3):=HB2.out.trans (hb3.mono HB2.out.size)
   have HZ3:Hid (Mf w3 w.heap.size [.slice none 0 0,.int .i64 0,.string ⟨#[]⟩,.int .i64 0,.slice none 0 0,.int .i64 0,.bool false,.int .i64 0,.int .i64 0,.int .i64 0,.slice none 0 0]):=HZ2.out.below hb3
   have HD3:Hid (Ld w3 q m ra va ma rc vc mc u1 u2):=HD2.out.below hb3
   have HM3:Hid (Mf w3 w1.heap.size [.slice ra m.row.length rc,.int .i64 m.N,.string m.S,.int .i64 m.room,.slice va m.vals.length vc,.int .i64 m.ret,.bool m.over,.int .i64 m.steps,.int .i64 m.looks,.int .i64 m.hits,.slice ma m.memo.length mc]):=HM2.out.below hb3
   clear hb3
   obtain ⟨d0,d1,d2,d3,d4,d5,d6,d7,d8,d9,d10,z0,z1,z2,z3,z4,z5,z6,z7,z8,z9,z10⟩:=HZ3.out.all
   obtain ⟨a0,a1,a2,a3,a4,a5,a6,a7,a8,a9,a10,y0,y1,y2,y3,y4,y5,y6,y7,y8,y9,y10⟩:=HM3.out.all
   go_wp2
   clear d0 d1 d2 d3 d4 d5 d6 d7 d8 d9 d10 z0 z1 z2 z3 z4 z5 z6 z7 z8 z9 z10 a0 a1 a2 a3 a4 a5 a6 a7 a8 a9 a10 y0 y1 y2 y3 y4 y5 y6 y7 y8 y9 y10
   obtain ⟨WF,hWF⟩:∃ WF,WF=(((((((((((w3).setCell ⟨w.heap.size,0,none⟩ (.slice ra m.row.length rc)).setCell ⟨w.heap.size,1,none⟩ (.int .i64 m.N)).setCell ⟨w.heap.size,2,none⟩ (.string m.S)).setCell ⟨w.heap.size,3,none⟩ (.int .i64 m.room)).setCell ⟨w.heap.size,4,none⟩ (.slice va m.vals.length vc)).setCell ⟨w.heap.size,5,none⟩ (.int .i64 m.ret)).setCell ⟨w.heap.size,6,none⟩ (.bool m.over)).setCell ⟨w.heap.size,7,none⟩ (.int .i64 m.steps)).setCell ⟨w.heap.size,8,none⟩ (.int .i64 m.looks)).setCell ⟨w.heap.size,9,none⟩ (.int .i64 m.hits)).setCell ⟨w.heap.size,10,none⟩ (.slice ma m.memo.length mc):=⟨_,rfl⟩
   rw [<- hWF]
   have KF:Kept (fun b=>b=w.heap.size) w3 WF:=by rw [hWF];exact ((((((((((((Kept.refl (fun b=>b=w.heap.size) w3).setCell (p:=⟨w.heap.size,0,none⟩) rfl _).setCell (p:=⟨w.heap.size,1,none⟩) rfl _).setCell (p:=⟨w.heap.size,2,none⟩) rfl _).setCell (p:=⟨w.heap.size,3,none⟩) rfl _).setCell (p:=⟨w.heap.size,4,none⟩) rfl _).setCell (p:=⟨w.heap.size,5,none⟩) rfl _).setCell (p:=⟨w.heap.size,6,none⟩) rfl _).setCell (p:=⟨w.heap.size,7,none⟩) rfl _).setCell (p:=⟨w.heap.size,8,none⟩) rfl _).setCell (p:=⟨w.heap.size,9,none⟩) rfl _).setCell (p:=⟨w.heap.size,10,none⟩) rfl _)
   have HF:Mf WF w.heap.size [.slice ra m.row.length rc,.int .i64 m.N,.string m.S,.int .i64 m.room,.slice va m.vals.length vc,.int .i64 m.ret,.bool m.over,.int .i64 m.steps,.int .i64 m.looks,.int .i64 m.hits,.slice ma m.memo.length mc]:=by
    rw [hWF]
    exact (((((((((((HZ3.out.set 0 (.slice ra m.row.length rc)).set 1 (.int .i64 m.N)).set 2 (.string m.S)).set 3 (.int .i64 m.room)).set 4 (.slice va m.vals.length vc)).set 5 (.int .i64 m.ret)).set 6 (.bool m.over)).set 7 (.int .i64 m.steps)).set 8 (.int .i64 m.looks)).set 9 (.int .i64 m.hits)).set 10 (.slice ma m.memo.length mc))
   obtain ⟨e0,e1,e2,e3,e4,e5,e6,e7,e8,e9,e10,f0,f1,f2,f3,f4,f5,f6,f7,f8,f9,f10⟩:=HF.all
   exact bodyPost_ret (v:=.tuple #[mval m ra va ma rc vc mc,.bool true]) (by simp [results,Tryz.results17,go_sem,e0,e1,e2,e3,e4,e5,e6,e7,e8,e9,e10]) rfl ⟨LmP.yes HP.out (Nat.le_of_lt HQ.out) (HD3.out.kept KF (fun b h1 h2 h3=>by have:=HQ.out;omega)),HB3.out.trans (KF.below (fun b hb=>by omega) HB3.out.size)⟩
end Zl11
namespace Lw4
open Go.RowKit
open Dr0 Dr1
open Ws1 (ret_int ret_bool)
theorem lat (w:World) (a:Option Addr) (len cap:Nat) (i:Int) (h0:0<=i) (hk:i<=1000) (hb:Bytes w a len) (hs:len<=1048576) :
 Calls Tryz.prog 7 #[.slice a len cap,.int .i64 i] w fun e w'=>(∃ x:Int,e=.returned (.int .i64 x)/\0<=x/\x<=255)/\w'=w:=by
 obtain ⟨k,rfl⟩:=Int.eq_ofNat_of_zero_le h0
 by_cases hlt:k < len
 ·rcases hb.2 with h0|⟨xb,xo,rfl,hcell⟩
  ·omega
  obtain ⟨v,hv0,hv1,hv⟩:=hcell k hlt
  clear hcell hb
  go_enter Tryz.func7,Tryz.ntmps7
  go_wp2
  go_ret
  exact ⟨⟨_,rfl,by omega,by omega⟩,rfl⟩
 ·clear hb
  go_enter Tryz.func7,Tryz.ntmps7
  go_wp2
  go_ret
  exact ⟨⟨_,rfl,by omega,by omega⟩,rfl⟩
theorem lbig (w:World) (a:Option Addr) (len cap:Nat) (b:Bool) (hb:b=decide (1048576 < len)) :
 Calls Tryz.prog 5 #[.slice a len cap] w fun e w'=>e=.returned (.bool b)/\w'=w:=by
 subst hb
 go_enter Tryz.func5,Tryz.ntmps5
 go_wp2
 go_ret
 exact ⟨ret_bool (by rw [Bool.eq_iff_iff];simp;omega),rfl⟩
end Lw4
namespace Lat
open Go.RowKit
open Nd0
open Dr0 (Bytes)
open Ws1 (ret_int ret_bool)
theorem lat3 (w:World) (a:Option Addr) (len cap:Nat) (i:Int) (h0:0<=i) (hk:i<=1000) (hb:Bytes w a len) (hs:len<=1048576) :
 ∃ x:Int,0<=x/\x<=255/\∀ W:World,Below w.heap.size w W->Calls Tryz.prog 7 #[.slice a len cap,.int .i64 i] W fun e w'=>e=.returned (.int .i64 x)/\w'=W:=by
 obtain ⟨k,rfl⟩:=Int.eq_ofNat_of_zero_le h0
 by_cases hlt:k < len
 ·rcases hb.2 with h0|⟨xb,xo,rfl,hcell⟩
  ·omega
  obtain ⟨v,hv0,hv1,hv⟩:=hcell k hlt
  refine ⟨v,by omega,by omega,fun W hW=>?_⟩
  have hv2:W.cell? ⟨xb,xo+k,none⟩=some (.int .u8 v):=(hW.cell (p:=⟨xb,xo+k,none⟩) (lt_of_cell hv)).trans hv
  clear hcell hb hW hv
  go_enter Tryz.func7,Tryz.ntmps7
  go_wp2
  go_ret
  exact ⟨ret_int (by omega),rfl⟩
 ·refine ⟨((k:Int)*7+(len:Int)) % 256,by omega,by omega,fun W hW=>?_⟩
  clear hb hW
  go_enter Tryz.func7,Tryz.ntmps7
  go_wp2
  go_ret
  exact ⟨rfl,rfl⟩
end Lat
namespace Wd1
open Go.RowKit
open Pl1
theorem ret_int {k:IntKind} {a b:Int} (h:a=b):Ending.returned (.int k a)=.returned (.int k b):=by rw [h]
theorem ret_bool {a b:Bool} (h:a=b):Ending.returned (.bool a)=.returned (.bool b):=by rw [h]
theorem spow (m:Int) (w:World) (h0:0<=m) (h1:m<=8) :
 Calls Tryz.prog 89 #[.int .i64 m] w fun e w'=>e=.returned (.int .i64 (p2 m.toNat))/\w'=w:=by
 obtain ⟨n,rfl⟩:=Int.eq_ofNat_of_zero_le h0
 rw [Int.toNat_natCast]
 go_enter Tryz.func89,Tryz.ntmps89
 go_wp2
 go_loop [3,4] (fun x i=>∃ k:Nat,k<=n/\i=.int .i64 k/\x=.int .i64 (p2 k)) (fun _ i=>n - (intOf i).toNat)
 case atStart=>exact ⟨0,Nat.zero_le _,rfl,rfl⟩
 case round =>
  obtain ⟨k,hk,rfl,rfl⟩:=hrel
  have hp:=p2_pos k
  have hl:=p2_le k (by omega)
  by_cases hlt:k < n
  ·go_wp2
   go_round
   case rel=>exact ⟨k+1,by omega,by go_num,by rw [p2_succ]⟩
   case measure=>simp [intOf];omega
  ·go_wp2
   go_ret
   have:k=n:=by omega
   subst this
   exact ⟨rfl,rfl⟩
theorem sIn (x a b:Int) (w:World) :
 Calls Tryz.prog 29 #[.int .i64 x,.int .i64 a,.int .i64 b] w fun e w'=>e=.returned (.bool (decide (a<=x/\x<=b)))/\w'=w:=by
 by_cases h1:a<=x<;>by_cases h2:x<=b
 all_goals
  go_enter Tryz.func29,Tryz.ntmps29
  go_wp2
  go_ret
  exact ⟨ret_bool (by simp<;>omega),rfl⟩
end Wd1
namespace Dr2
open Go.RowKit
open Dr0 Dr1 Pl1 Wd1
theorem belowBig (w:World) (b:Nat) (a:Option Addr) (len cap:Nat) (n:Int) (h0:257<=n) (hc:Cur w b a len cap) :
 Calls Tryz.prog 22 #[.pointer (some ⟨b,0,none⟩),.int .i64 n] w fun e w'=>(∃ x:Int,e=.returned (.int .i64 x)/\0<=x/\x < n)/\Cur w' b a len cap/\Only b w w':=by
 have HC:Hid (Cur w b a len cap):=hc
 clear hc
 go_enter Tryz.func22,Tryz.ntmps22
 go_wp2_with fail
 refine (byte _ b a len cap HC.out).mono ?_
 rintro e w1 ⟨⟨x,rfl,hx0,hx1⟩,hc',ho'⟩
 have HC1:Hid (Cur w1 b a len cap):=hc'
 have HO1:Hid (Only b w w1):=ho'
 clear hc' ho'
 go_wp2_with fail
 refine (byte _ b a len cap HC1.out).mono ?_
 rintro e w2 ⟨⟨y,rfl,hy0,hy1⟩,hc',ho'⟩
 have HC2:Hid (Cur w2 b a len cap):=hc'
 have HO2:Hid (Only b w w2):=HO1.out.trans ho'
 clear hc' ho'
 go_wp2_with fail
 refine (byte _ b a len cap HC2.out).mono ?_
 rintro e w3 ⟨⟨z,rfl,hz0,hz1⟩,hc',ho'⟩
 have HC3:Hid (Cur w3 b a len cap):=hc'
 have HO3:Hid (Only b w w3):=HO2.out.trans ho'
 clear hc' ho'
 go_wp2_with fail
 refine (byte _ b a len cap HC3.out).mono ?_
 rintro e w4 ⟨⟨u,rfl,hu0,hu1⟩,hc',ho'⟩
 have HC4:Hid (Cur w4 b a len cap):=hc'
 have HO4:Hid (Only b w w4):=HO3.out.trans ho'
 clear hc' ho'
 go_wp2
 go_ret
 exact ⟨⟨_,rfl,Int.emod_nonneg _ (by omega),Int.emod_lt_of_pos _ (by omega)⟩,HC4.out,HO4.out⟩
theorem pickNew (w:World) (b:Nat) (a:Option Addr) (len cap:Nat) (c:Array Value) (T n:Nat) (h0:1<=n) (h1:n<=256) (hC:∀ i,i < n->∃ v:Int,c[i]? = some (.int .i64 v)) (hc:Cur w b a len cap) :
 Calls Tryz.prog 54 #[.pointer (some ⟨b,0,none⟩),.slice (some ⟨w.heap.size,0,none⟩) n n] (w.alloc (.cells c T)) fun e w'=>(∃ x:Int,e=.returned (.int .i64 x))/\Cur w' b a len cap/\Only b w w':=by
 have hb:=hc.lt
 refine (pickInt _ b a len cap w.heap.size n n h0 h1 (by omega) ?_ (hc.alloc _)).mono ?_
 ·intro i hi
  obtain ⟨v,hv⟩:=hC i hi
  exact ⟨v,by rw [World.cell?_alloc_new];exact hv⟩
 ·rintro e w' ⟨h1,h2,h3⟩
  exact ⟨h1,h2,((Only.refl b w).alloc _).trans h3⟩
theorem new (w:World) (a:Option Addr) (len cap:Nat) (hb:Bytes w a len) :
 Calls Tryz.prog 20 #[.slice a len cap] w fun e w'=>e=.returned (.pointer (some ⟨w.heap.size,0,none⟩))/\Cur w' w.heap.size a len cap/\Below w.heap.size w w':=by
 have hm:=hb.1
 unfold maxLen at hm
 have HB:Hid (Bytes w a len):=hb
 clear hb
 go_enter Tryz.func20,Tryz.ntmps20
 go_wp2
 go_loop [3,4] (fun h i=>∃ (k:Nat) (x:Int),k<=len/\i=.int .i64 k/\h=.int .i64 x) (fun _ i=>len - (intOf i).toNat)
 case atStart=>exact ⟨0,_,Nat.zero_le _,rfl,rfl⟩
 case round =>
  obtain ⟨k,x,hk,rfl,rfl⟩:=hrel
  by_cases hlt:k < len/\k < 4000
  ·obtain ⟨hlt,hl4⟩:=hlt
   rcases HB.out.2 with h0|⟨xb,xo,rfl,hcell⟩
   ·omega
   obtain ⟨v,hv0,hv1,hv⟩:=hcell k hlt
   clear hcell
   go_wp2
   go_round
   case rel=>exact ⟨k+1,_,by omega,by go_num,rfl⟩
   case measure=>simp [intOf];omega
  ·have hd:(decide ((k:Int) < (len:Int))&&decide ((k:Int) < 4000))=false:=by simp;omega
   by_cases hlt:k < len
   ·have hl4:¬ (k:Int) < 4000:=by omega
    clear hd
    go_wp2
    go_ret
    exact ⟨rfl,Cur.made HB.out x _,(Below.refl _ w).alloc (Nat.le_refl _) _⟩
   ·have hl4:¬ (k:Int) < (len:Int):=by omega
    clear hd
    go_wp2
    go_ret
    exact ⟨rfl,Cur.made HB.out x _,(Below.refl _ w).alloc (Nat.le_refl _) _⟩
end Dr2
namespace Dr3
open Go.RowKit
open Dr0 Dr1 Dr2 Pl1 Wd1
theorem belowAny (w:World) (b:Nat) (a:Option Addr) (len cap:Nat) (n:Int) (h0:1<=n) (hc:Cur w b a len cap) :
 Calls Tryz.prog 22 #[.pointer (some ⟨b,0,none⟩),.int .i64 n] w fun e w'=>(∃ x:Int,e=.returned (.int .i64 x)/\0<=x/\x < n)/\Cur w' b a len cap/\Only b w w':=by
 by_cases h:n<=256
 ·exact below w b a len cap n h0 h hc
 ·exact belowBig w b a len cap n (by omega) hc
end Dr3
namespace Wd2
open Go.RowKit
open Pl1 Wd1
theorem two_iff {m a b:Int} (h:(wok m a&&wok m b)=true):1<=m/\m<=8/\0<=a/\a < p2 m.toNat/\0<=b/\b < p2 m.toNat/\p2 m.toNat<=256:=by
 rw [Bool.and_eq_true] at h
 obtain ⟨h1,h2,h3,h4⟩:=wok_iff.1 h.1
 obtain ⟨_,_,h5,h6⟩:=wok_iff.1 h.2
 exact ⟨h1,h2,h3,h4,h5,h6,p2_le _ (by omega)⟩
theorem one_iff {m a:Int} (h:wok m a=true):1<=m/\m<=8/\0<=a/\a < p2 m.toNat/\p2 m.toNat<=256:=by
 obtain ⟨h1,h2,h3,h4⟩:=wok_iff.1 h
 exact ⟨h1,h2,h3,h4,p2_le _ (by omega)⟩
end Wd2
namespace Wd3
open Go.RowKit
open Pl1 Wd1 Wd2
theorem div_bd {a b:Int} (ha:0<=a) (hb:0<=b):0<=a / b/\a / b<=a:=⟨Int.ediv_nonneg ha hb,Int.ediv_le_self _ ha⟩
theorem rem_bd {a b:Int} (ha:0<=a) (hb:0<=b) (hz:¬ b=0):0<=a % b/\a % b < b:=⟨Int.emod_nonneg _ hz,Int.emod_lt_of_pos _ (by omega)⟩
end Wd3
namespace Wd4
open Go.RowKit
open Pl1 Wd1 Wd2 Wd3
theorem shl_zero (a:Int) {m b:Int} (h1:1<=m) (h:m<=b):a*p2 b.toNat % p2 m.toNat=0:=by
 have e:p2 b.toNat=p2 m.toNat*p2 (b - m).toNat:=by
  unfold p2;rw [<- Int.pow_add,show m.toNat+(b - m).toNat=b.toNat by omega]
 rw [e,<- Int.mul_assoc,Int.mul_comm a,Int.mul_assoc]
 exact Int.mul_emod_right _ _
theorem shr_zero {a m b:Int} (h0:0<=a) (h:m<=b) (ha:a < p2 m.toNat):a / p2 b.toNat=0:=by
 have:=p2_mono (show m.toNat<=b.toNat by omega)
 exact Int.ediv_eq_zero_of_lt h0 (by omega)
theorem iOne (b:Bool) (w:World) :
 Calls Tryz.prog 125 #[.bool b] w fun e w'=>e=.returned (.int .i64 (if b then 1 else 0))/\w'=w:=by
 cases b
 all_goals
  go_enter Tryz.func125,Tryz.ntmps125
  go_wp2
  go_ret
  exact ⟨rfl,rfl⟩
theorem sOne (b:Bool) (w:World) :
 Calls Tryz.prog 37 #[.bool b] w fun e w'=>e=.returned (.int .i64 (if b then 1 else 0))/\w'=w:=by
 cases b
 all_goals
  go_enter Tryz.func37,Tryz.ntmps37
  go_wp2
  go_ret
  exact ⟨rfl,rfl⟩
end Wd4
namespace Wd5
open Go.RowKit
open Pl1 Wd1 Wd2 Wd3 Wd4
theorem less_of {p q:Bool} {x y:Int} (h:(p&&decide (x < y))=q):(if p&&decide (x < y) then (1:Int) else 0)=if q then 1 else 0:=by rw [h]
theorem wrap_sub {m n:Int} (h1:1<=m) (h2:m<=8) (hn:0<=n) (hw:(Lit.int .i64 n).wf=true):wrap64 (m - n)=m - n:=by
 have:n<=9223372036854775807:=by
  simp [Lit.wf,IntKind.min,IntKind.max,IntKind.signed,IntKind.bits] at hw;omega
 unfold wrap64;omega
end Wd5
namespace Lw0
open Go.RowKit
open Dr0 Dr1 Dr2 Dr3 Pl1 Wd1
theorem lat (w:World) (a:Option Addr) (len cap:Nat) (i:Int) (h0:0<=i) (hk:i<=1000) (hb:Bytes w a len) (hs:len<=1048576) :
 Calls Tryz.prog 7 #[.slice a len cap,.int .i64 i] w fun e w'=>(∃ x:Int,e=.returned (.int .i64 x)/\0<=x/\x<=255)/\w'=w:=by
 obtain ⟨k,rfl⟩:=Int.eq_ofNat_of_zero_le h0
 by_cases hlt:k < len
 ·rcases hb.2 with h0|⟨xb,xo,rfl,hcell⟩
  ·omega
  obtain ⟨v,hv0,hv1,hv⟩:=hcell k hlt
  clear hcell hb
  go_enter Tryz.func7,Tryz.ntmps7
  go_wp2
  go_ret
  exact ⟨⟨_,rfl,by omega,by omega⟩,rfl⟩
 ·clear hb
  go_enter Tryz.func7,Tryz.ntmps7
  go_wp2
  go_ret
  exact ⟨⟨_,rfl,by omega,by omega⟩,rfl⟩
theorem lbig (w:World) (a:Option Addr) (len cap:Nat) (b:Bool) (hb:b=decide (1048576 < len)) :
 Calls Tryz.prog 5 #[.slice a len cap] w fun e w'=>e=.returned (.bool b)/\w'=w:=by
 subst hb
 go_enter Tryz.func5,Tryz.ntmps5
 go_wp2
 go_ret
 exact ⟨ret_bool (by rw [Bool.eq_iff_iff];simp;omega),rfl⟩
end Lw0
namespace Lsv1
open Go.RowKit
open Nd0 (Kept lt_of_cell)
open Nd6 (Bools)
open Dr0 (Bytes)
open Ta1 Mm0 Mx0 Mu6 Mu8 Zl1 Zl2 Zl11 Mw19 Mw20 Rdp Sq0 Sq1
open Zl0 (mc0)
open Qc0 (Sn)
open Zs0 (svS svB savT)
open Zs7 (SvP TabE iSave)
open Zm1 (sSave)
open Za0 (rowT iRowText rowT_le)
open Za1 (rrB rrL rr_row iReadRow)
open Lat (lat3)
open Lw0 (lbig)
open Ss0 (bs bs_size)
open Ss1 (tl tl_bs)
theorem mb_cells {W:World} {p:Nat} {m:Mc} {ra va ma:Option Addr} {rc vc mc:Nat} (h:Mb W p m ra va ma rc vc mc):W.cell? ⟨p,0,none⟩=some (.slice ra m.row.length rc)/\W.cell? ⟨p,10,none⟩=some (.slice ma m.memo.length mc):=by
 obtain ⟨c0,c1,c2,c3,c4,c5,c6,c7,c8,c9,c10⟩:=h
 exact ⟨c0,c10⟩
/-- What the law asks of a machine m that is run N steps on, to M. -/
structure Sv (m M:Mc) (N:Nat) (S T:ByteArray):Prop where
 save:∀ (W:World) ra va ma rc vc mc,TabE W->Mr W m ra va ma->Calls Tryz.prog 10 #[mval m ra va ma rc vc mc] W fun e w'=>e=.returned (.tuple #[.string S,.bool true])/\Below W.heap.size W w'
 save2:∀ (W:World) ra va ma rc vc mc,TabE W->Mr W M ra va ma->Calls Tryz.prog 10 #[mval M ra va ma rc vc mc] W fun e w'=>e=.returned (.tuple #[.string T,.bool true])/\Below W.heap.size W w'
 ssave:∀ (W:World) ra va ma rc vc mc,Mr W m ra va ma->Calls Tryz.prog 11 #[mval m ra va ma rc vc mc] W fun e w'=>e=.returned (.tuple #[.string S,.bool true])/\Below W.heap.size W w'
 ssave2:∀ (W:World) ra va ma rc vc mc,Mr W M ra va ma->Calls Tryz.prog 11 #[mval M ra va ma rc vc mc] W fun e w'=>e=.returned (.tuple #[.string T,.bool true])/\Below W.heap.size W w'
 load:∀ (W:World),TabE W->Calls Tryz.prog 17 #[.string S] W fun e w'=>(∃ ra va ma rc vc mc,e=.returned (.tuple #[mval m ra va ma rc vc mc,.bool true])/\Mr w' m ra va ma)/\Below W.heap.size W w'
 cut:∀ (W:World) (j:Nat),j < S.size->TabE W->Calls Tryz.prog 17 #[.string (S.extract 0 j)] W fun e w'=>(∃ m':Mc,∃ ra va ma rc vc mc,∃ c:Bool,e=.returned (.tuple #[mval m' ra va ma rc vc mc,.bool c])/\(c=true->0 < m.memo.length))/\Below W.heap.size W w'
 run:∀ (W:World) ra va ma rc vc mc,TabE W->Mr W m ra va ma->Calls Tryz.prog 8 #[mval m ra va ma rc vc mc,.int .i64 (N:Int)] W fun e w'=>(∃ ra va ma rc vc mc,e=.returned (mval M ra va ma rc vc mc)/\Mr w' M ra va ma)/\Below W.heap.size W w'
 text:∀ (W:World) ra rc,Bools W ra m.row->Calls Tryz.prog 19 #[.slice ra m.row.length rc] W fun e w'=>e=.returned (.string (bs (rowT m.row)))/\Below W.heap.size W w'
 read:∀ (W:World),Calls Tryz.prog 18 #[.string (bs (rowT m.row))] W fun e w'=>(∃ a c,e=.returned (.tuple #[.slice a m.row.length c,.bool true]))/\Below W.heap.size W w'
 pos:1<=S.size
 len:S.size<=400000
theorem sv_of {n:Nat} {F:Nat->Bool} {m:Mc} (h:Rn n F m) {N:Nat} (hN:N<=255):Sv m (runM n F N m) N (bs (savT m)) (bs (savT (runM n F N m))):=by
 obtain ⟨row,room,k,hrl,hro,hk,hm,hIv⟩:=h.is
 have h6:=h.n6
 have hIM:=iv_run N hIv
 obtain ⟨s1,s2,s3⟩:=sv_run h6 hIv.ok hIv.keys
 obtain ⟨t1,t2,t3⟩:=sv_run h6 hIM.ok hIM.keys
 have hsv:∀ {m:Mc},svB m=true->svS m=bs (savT m):=fun h=>by unfold svS;rw [h,if_pos rfl]
 have hlen:=(sv_mok s1).2.2
 have hrow:m.row.length<=12:=by have:=hIv.ok.row;have:=hIv.hN;omega
 have hkm:∀ x∈m.memo,x.k.size<=maxLen:=fun x hx=>Nat.le_trans (s3 x hx) (by unfold maxLen;omega)
 have hfirst:1<=(savT m).length:=by
  unfold savT
  rw [show 7+m.memo.length=(6+m.memo.length)+1 by omega,Zs0.linTo_next,List.flatten_append,List.length_append,List.flatten_cons,List.flatten_nil,List.append_nil]
  have:=Zl0.lin_pos m (6+m.memo.length)
  omega
 refine ⟨fun W ra va ma rc vc mc hT hR=>?_,fun W ra va ma rc vc mc hT hR=>?_,fun W ra va ma rc vc mc hR=>?_,fun W ra va ma rc vc mc hR=>?_,fun W hT=>?_,fun W j hj hT=>?_,fun W ra va ma rc vc mc hT hR=>?_,fun W ra rc hB=>?_,fun W=>?_,by rw [bs_size];exact hfirst,by rw [bs_size];exact hlen⟩
 ·refine (iSave m ra va ma rc vc mc W hR s2 s3 hT).mono ?_
  rintro e w' ⟨hp,hb⟩
  unfold SvP at hp
  rw [hsv s1,s1] at hp
  exact ⟨hp,hb⟩
 ·refine (iSave _ ra va ma rc vc mc W hR t2 t3 hT).mono ?_
  rintro e w' ⟨hp,hb⟩
  unfold SvP at hp
  rw [hsv t1,t1] at hp
  exact ⟨hp,hb⟩
 ·refine (sSave m ra va ma rc vc mc W hR s2 s3).mono ?_
  rintro e w' ⟨hp,hb⟩
  unfold SvP at hp
  rw [hsv s1,s1] at hp
  exact ⟨hp,hb⟩
 ·refine (sSave _ ra va ma rc vc mc W hR t2 t3).mono ?_
  rintro e w' ⟨hp,hb⟩
  unfold SvP at hp
  rw [hsv t1,t1] at hp
  exact ⟨hp,hb⟩
 ·refine (iLoad (savT m) W (by omega) hT).mono ?_
  rintro e w' ⟨hl,hb⟩
  obtain ⟨q,ra,va,ma,rc,vc,mc,u1,u2,he,_,hD⟩:=hl.1 m (ld_run s1)
  exact ⟨⟨ra,va,ma,rc,vc,mc,he,hD.mr⟩,hb⟩
 ·rw [bs_size] at hj
  rw [Ss0.bs_ext,List.drop_zero]
  refine (iLoad ((savT m).take j) W (by rw [List.length_take];omega) hT).mono ?_
  rintro e w' ⟨hl,hb⟩
  refine ⟨?_,hb⟩
  cases hd:ldP ((savT m).take j) with
  | none=>exact ⟨mc0,none,none,none,0,0,0,false,hl.2 hd,fun h=>by cases h⟩
  | some m' =>
    obtain ⟨q,ra,va,ma,rc,vc,mc,u1,u2,he,_,hD⟩:=hl.1 m' hd
    refine ⟨m',ra,va,ma,rc,vc,mc,true,he,fun _=>?_⟩
    rcases Nat.eq_zero_or_pos m.memo.length with h0|h0
    ·rw [cut_none s1 (List.eq_nil_of_length_eq_zero h0) hj] at hd
     cases hd
    ·exact h0
 ·refine (iRun n F m ra va ma rc vc mc N W (by omega) ⟨hIv.hN,hIv.hS,hIv.ok⟩ (by omega) hR hkm hT.tab.pow).mono ?_
  rintro e w' ⟨ra,va,ma,rc,vc,mc,he,hP,hb⟩
  exact ⟨⟨ra,va,ma,rc,vc,mc,he,hP.mr⟩,hb⟩
 ·exact iRowText W ra m.row rc hB (by omega)
 ·refine (iReadRow (bs (rowT m.row)) W (by rw [bs_size];have:=rowT_le m.row;omega)).mono ?_
  rw [tl_bs,(rr_row m.row hrow).1,(rr_row m.row hrow).2]
  rintro e w' ⟨v,he,ho,hb⟩
  obtain ⟨a,c,hv,_⟩:=ho.form
  exact ⟨⟨a,c,by rw [he,hv]⟩,hb⟩
theorem lawSave (w:World) (hT:TabE w) (a:Option Addr) (len cap:Nat) (hb:Bytes w a len) :
 Calls Tryz.prog 4 #[.slice a len cap] w fun e w'=>e=.returned (.bool true)/\Below w.heap.size w w':=by
 have HB:Hid (Bytes w a len):=hb
 have HT:Hid (TabE w):=hT
 clear hb hT
 by_cases hs:1048576 < len
 ·go_enter Tryz.func4,Tryz.ntmps4
  go_wp2_with fail
  refine (lbig _ a len cap true (by simp;omega)).mono ?_
  rintro e w' ⟨rfl,rfl⟩
  go_wp2
  go_ret
  exact ⟨rfl,Below.refl _ _⟩
 have hsl:len<=1048576:=by omega
 obtain ⟨y3,hy0,hy1,hAt3⟩:=lat3 w a len cap 3 (by omega) (by omega) HB.out hsl
 obtain ⟨y4,hz0,hz1,hAt4⟩:=lat3 w a len cap 4 (by omega) (by omega) HB.out hsl
 obtain ⟨N,rfl⟩:=Int.eq_ofNat_of_zero_le hy0
 obtain ⟨J,rfl⟩:=Int.eq_ofNat_of_zero_le hz0
 have HA3:Hid (∀ W:World,Below w.heap.size w W->Calls Tryz.prog 7 #[.slice a len cap,.int .i64 3] W fun e w'=>e=.returned (.int .i64 (N:Int))/\w'=W):=hAt3
 have HA4:Hid (∀ W:World,Below w.heap.size w W->Calls Tryz.prog 7 #[.slice a len cap,.int .i64 4] W fun e w'=>e=.returned (.int .i64 (J:Int))/\w'=W):=hAt4
 clear hAt3 hAt4 hy0 hz0
 go_enter Tryz.func4,Tryz.ntmps4
 go_wp2_with fail
 refine (lbig _ a len cap false (by simp;omega)).mono ?_
 rintro e w0 ⟨rfl,hw0⟩
 have hw0':=hw0.symm
 clear hw0
 subst hw0'
 go_wp2_with fail
 refine (drawRun _ a len cap HB.out).mono ?_
 rintro e w1 ⟨n,F,m,ra,va,ma,rc,vc,mc,rfl,hrn,hmr,hb1⟩
 have hsv:=sv_of hrn (N:=N) (by omega)
 obtain ⟨M,hM⟩:∃ M,M=runM n F N m:=⟨_,rfl⟩
 obtain ⟨S,hS⟩:∃ S,S=bs (savT m):=⟨_,rfl⟩
 obtain ⟨T,hT⟩:∃ T,T=bs (savT (runM n F N m)):=⟨_,rfl⟩
 rw [<- hS,<- hT,<- hM] at hsv
 have HSV:Hid (Sv m M N S T):=hsv
 have hpos:(1:Int)<=(S.size:Int):=by have:=hsv.pos;omega
 have hmx:(S.size:Int)<=400000:=by have:=hsv.len;omega
 have HR1:Hid (Mr w1 m ra va ma):=hmr
 have HB1:Hid (Below w.heap.size w w1):=hb1
 clear hrn hmr hb1 hM hS hT hsv
 have heS:(S.toList != S.toList)=false:=by simp
 have heT:(T.toList==T.toList)=true:=by simp
 go_upto_region 4 with fail
 obtain ⟨w2,hw2⟩:∃ y,y=w1.alloc (.cells #[.slice ra m.row.length rc,.int .i64 m.N,.string m.S,.int .i64 m.room,.slice va m.vals.length vc,.int .i64 m.ret,.bool m.over,.int .i64 m.steps,.int .i64 m.looks,.int .i64 m.hits,.slice ma m.memo.length mc] 30):=⟨_,rfl⟩
 obtain ⟨p,hp⟩:∃ p,p=w1.heap.size:=⟨_,rfl⟩
 have HM2:Hid (Mb w2 p m ra va ma rc vc mc):=by rw [hw2,hp];exact Mb.made _ _ _ _ _ _ _ _ _
 have hb12:Below w1.heap.size w1 w2:=by rw [hw2];exact (Below.refl _ _).alloc (Nat.le_refl _) _
 have HB2:Hid (Below w.heap.size w w2):=HB1.out.trans (hb12.mono HB1.out.size)
 have HR2:Hid (Mr w2 m ra va ma):=HR1.out.below hb12
 rw [<- hw2,<- hp]
 clear hw2 hp hb12 HB1 HR1
 obtain ⟨c0,c1,c2,c3,c4,c5,c6,c7,c8,c9,c10⟩:=HM2.out
 go_wp2_with fail
 clear c0 c1 c2 c3 c4 c5 c6 c7 c8 c9 c10
 refine (HSV.out.save w2 ra va ma rc vc mc (HT.out.below HB2.out) HR2.out).mono ?_
 rintro e w3 ⟨rfl,hb3⟩
 have HM3:Hid (Mb w3 p m ra va ma rc vc mc):=HM2.out.below hb3
 have HB3:Hid (Below w.heap.size w w3):=HB2.out.trans (hb3.mono HB2.out.size)
 have HR3:Hid (Mr w3 m ra va ma):=HR2.out.below hb3
 clear hb3 HM2 HB2 HR2
 go_wp2_with fail
 refine (HSV.out.load w3 (HT.out.below HB3.out)).mono ?_
 rintro e w4 ⟨⟨rb,vb,mb,rd,vd,md,rfl,hq4⟩,hb4⟩
 have HM4:Hid (Mb w4 p m ra va ma rc vc mc):=HM3.out.below hb4
 have HB4:Hid (Below w.heap.size w w4):=HB3.out.trans (hb4.mono HB3.out.size)
 have HR4:Hid (Mr w4 m ra va ma):=HR3.out.below hb4
 have HQ4:Hid (Mr w4 m rb vb mb):=hq4
 clear hb4 hq4 HM3 HB3 HR3
 go_upto_region 6 with fail
 obtain ⟨w5,hw5⟩:∃ y,y=w4.alloc (.cells #[.slice rb m.row.length rd,.int .i64 m.N,.string m.S,.int .i64 m.room,.slice vb m.vals.length vd,.int .i64 m.ret,.bool m.over,.int .i64 m.steps,.int .i64 m.looks,.int .i64 m.hits,.slice mb m.memo.length md] 30):=⟨_,rfl⟩
 obtain ⟨q,hq⟩:∃ q,q=w4.heap.size:=⟨_,rfl⟩
 have hb45:Below w4.heap.size w4 w5:=by rw [hw5];exact (Below.refl _ _).alloc (Nat.le_refl _) _
 have HN5:Hid (Mb w5 q m rb vb mb rd vd md):=by rw [hw5,hq];exact Mb.made _ _ _ _ _ _ _ _ _
 have HM5:Hid (Mb w5 p m ra va ma rc vc mc):=HM4.out.below hb45
 have HB5:Hid (Below w.heap.size w w5):=HB4.out.trans (hb45.mono HB4.out.size)
 have HR5:Hid (Mr w5 m ra va ma):=HR4.out.below hb45
 have HQ5:Hid (Mr w5 m rb vb mb):=HQ4.out.below hb45
 rw [<- hw5,<- hq]
 clear hw5 hq hb45 HM4 HB4 HR4 HQ4
 obtain ⟨c0,c1,c2,c3,c4,c5,c6,c7,c8,c9,c10⟩:=HM5.out
 go_wp2_with fail
 clear c0 c1 c2 c3 c4 c5 c6 c7 c8 c9 c10
 refine (HSV.out.ssave w5 ra va ma rc vc mc HR5.out).mono ?_
 rintro e w6 ⟨rfl,hb6⟩
 have HN6:Hid (Mb w6 q m rb vb mb rd vd md):=HN5.out.below hb6
 have HM6:Hid (Mb w6 p m ra va ma rc vc mc):=HM5.out.below hb6
 have HB6:Hid (Below w.heap.size w w6):=HB5.out.trans (hb6.mono HB5.out.size)
 have HR6:Hid (Mr w6 m ra va ma):=HR5.out.below hb6
 have HQ6:Hid (Mr w6 m rb vb mb):=HQ5.out.below hb6
 clear hb6 HN5 HM5 HB5 HR5 HQ5
 go_wp2_with fail
 clear heS
 refine (HA3.out _ HB6.out).mono ?_
 rintro e w' ⟨rfl,hz⟩
 have hz':=hz.symm
 clear hz
 subst hz'
 obtain ⟨c0,c1,c2,c3,c4,c5,c6,c7,c8,c9,c10⟩:=HM6.out
 go_wp2_with fail
 clear c0 c1 c2 c3 c4 c5 c6 c7 c8 c9 c10
 refine (HSV.out.run w6 ra va ma rc vc mc (HT.out.below HB6.out) HR6.out).mono ?_
 rintro e w7 ⟨⟨r7,v7,m7,rc7,vc7,mc7,rfl,hr7⟩,hb7⟩
 have HN7:Hid (Mb w7 q m rb vb mb rd vd md):=HN6.out.below hb7
 have HM7:Hid (Mb w7 p m ra va ma rc vc mc):=HM6.out.below hb7
 have HB7:Hid (Below w.heap.size w w7):=HB6.out.trans (hb7.mono HB6.out.size)
 have HR7:Hid (Mr w7 m ra va ma):=HR6.out.below hb7
 have HQ7:Hid (Mr w7 m rb vb mb):=HQ6.out.below hb7
 have HX7:Hid (Mr w7 M r7 v7 m7):=hr7
 clear hb7 hr7 HN6 HM6 HB6 HR6 HQ6
 go_wp2_with fail
 refine (HSV.out.save2 w7 r7 v7 m7 rc7 vc7 mc7 (HT.out.below HB7.out) HX7.out).mono ?_
 rintro e w8 ⟨rfl,hb8⟩
 have HN8:Hid (Mb w8 q m rb vb mb rd vd md):=HN7.out.below hb8
 have HM8:Hid (Mb w8 p m ra va ma rc vc mc):=HM7.out.below hb8
 have HB8:Hid (Below w.heap.size w w8):=HB7.out.trans (hb8.mono HB7.out.size)
 have HR8:Hid (Mr w8 m ra va ma):=HR7.out.below hb8
 have HQ8:Hid (Mr w8 m rb vb mb):=HQ7.out.below hb8
 clear hb8 HN7 HM7 HB7 HR7 HQ7 HX7
 obtain ⟨c0,c1,c2,c3,c4,c5,c6,c7,c8,c9,c10⟩:=HN8.out
 go_wp2_with fail
 clear c0 c1 c2 c3 c4 c5 c6 c7 c8 c9 c10
 refine (HSV.out.run w8 rb vb mb rd vd md (HT.out.below HB8.out) HQ8.out).mono ?_
 rintro e w9 ⟨⟨r9,v9,m9,rc9,vc9,mc9,rfl,hr9⟩,hb9⟩
 have HM9:Hid (Mb w9 p m ra va ma rc vc mc):=HM8.out.below hb9
 have HB9:Hid (Below w.heap.size w w9):=HB8.out.trans (hb9.mono HB8.out.size)
 have HR9:Hid (Mr w9 m ra va ma):=HR8.out.below hb9
 have HX9:Hid (Mr w9 M r9 v9 m9):=hr9
 clear hb9 hr9 HN8 HM8 HB8 HR8 HQ8
 go_wp2_with fail
 refine (HSV.out.save2 w9 r9 v9 m9 rc9 vc9 mc9 (HT.out.below HB9.out) HX9.out).mono ?_
 rintro e wa ⟨rfl,hba⟩
 have HMa:Hid (Mb wa p m ra va ma rc vc mc):=HM9.out.below hba
 have HBa:Hid (Below w.heap.size w wa):=HB9.out.trans (hba.mono HB9.out.size)
 have HRa:Hid (Mr wa m ra va ma):=HR9.out.below hba
 clear hba HM9 HB9 HR9 HX9
 go_wp2_with fail
 refine (HA4.out _ HBa.out).mono ?_
 rintro e w' ⟨rfl,hz⟩
 have hz':=hz.symm
 clear hz
 subst hz'
 have hj0:(0:Int)<=(J:Int) % (S.size:Int):=Int.emod_nonneg _ (by omega)
 have hj1:(J:Int) % (S.size:Int) < (S.size:Int):=Int.emod_lt_of_pos _ (by omega)
 have hj2:(J:Int) % (S.size:Int)<=(S.size:Int):=by omega
 have hne:((S.size:Int)==0)=false:=beq_eq_false_iff_ne.2 (by omega)
 go_wp2_with fail
 have hjn:((J:Int) % (S.size:Int)).toNat < S.size:=by omega
 refine Calls.mono (HSV.out.cut _ ((J:Int) % (S.size:Int)).toNat hjn (HT.out.below HBa.out)) ?_
 rintro e wb ⟨⟨m',r',v',m'',rc',vc',mc',c,rfl,hc⟩,hbb⟩
 have HCC:Hid (c=true->0 < m.memo.length):=hc
 have HMb:Hid (Mb wb p m ra va ma rc vc mc):=HMa.out.below hbb
 have HBb:Hid (Below w.heap.size w wb):=HBa.out.trans (hbb.mono HBa.out.size)
 have HRb:Hid (Mr wb m ra va ma):=HRa.out.below hbb
 clear hbb hc HMa HBa HRa hj0 hj1 hj2 hne hpos hmx
 go_upto_region 13 with fail
 generalize hwd:World.alloc wb _=wd
 have hbd:Below wb.heap.size wb wd:=by rw [<- hwd];exact (Below.refl _ _).alloc (Nat.le_refl _) _
 have HMd:Hid (Mb wd p m ra va ma rc vc mc):=HMb.out.below hbd
 have HBd:Hid (Below w.heap.size w wd):=HBb.out.trans (hbd.mono HBb.out.size)
 have HRd:Hid (Mr wd m ra va ma):=HRb.out.below hbd
 clear hwd hbd HMb HBb HRb
 have c0:=(mb_cells HMd.out).1
 go_wp2_with fail
 clear c0
 refine (HSV.out.text wd ra rc HRd.out.row).mono ?_
 rintro e we ⟨rfl,hbe⟩
 have HMe:Hid (Mb we p m ra va ma rc vc mc):=HMd.out.below hbe
 have HBe:Hid (Below w.heap.size w we):=HBd.out.trans (hbe.mono HBd.out.size)
 have HRe:Hid (Mr we m ra va ma):=HRd.out.below hbe
 clear hbe HMd HBd HRd
 go_wp2_with fail
 refine (HSV.out.read we).mono ?_
 rintro e wf ⟨⟨af,cf,rfl⟩,hbf⟩
 have HMf:Hid (Mb wf p m ra va ma rc vc mc):=HMe.out.below hbf
 have HBf:Hid (Below w.heap.size w wf):=HBe.out.trans (hbf.mono HBe.out.size)
 have HRf:Hid (Mr wf m ra va ma):=HRe.out.below hbf
 clear hbf HMe HBe HRe
 obtain ⟨c0,c1,c2,c3,c4,c5,c6,c7,c8,c9,c10⟩:=HMf.out
 go_wp2_with fail
 clear c0 c1 c2 c3 c4 c5 c6 c7 c8 c9 c10
 refine (HSV.out.run wf ra va ma rc vc mc (HT.out.below HBf.out) HRf.out).mono ?_
 rintro e wg ⟨⟨rg,vg,mg,rcg,vcg,mcg,rfl,hrg⟩,hbg⟩
 have HMg:Hid (Mb wg p m ra va ma rc vc mc):=HMf.out.below hbg
 have HBg:Hid (Below w.heap.size w wg):=HBf.out.trans (hbg.mono HBf.out.size)
 have HXg:Hid (Mr wg M rg vg mg):=hrg
 clear hrg hbg HMf HBf HRf
 go_wp2_with fail
 refine (HSV.out.ssave2 wg rg vg mg rcg vcg mcg HXg.out).mono ?_
 rintro e wh ⟨rfl,hbh⟩
 have HMh:Hid (Mb wh p m ra va ma rc vc mc):=HMg.out.below hbh
 have HBh:Hid (Below w.heap.size w wh):=HBg.out.trans (hbh.mono HBg.out.size)
 clear hbh HMg HBg HXg
 obtain ⟨c0,c10⟩:=mb_cells HMh.out
 cases c
 ·clear HCC
  go_wp2_with fail
  go_ret
  exact ⟨rfl,HBh.out⟩
 ·have hmn:0 < m.memo.length:=HCC.out rfl
  have hmem:(0:Int) < (m.memo.length:Int):=by omega
  have hmd:decide (0 < m.memo.length)=true:=decide_eq_true hmn
  go_wp2_with fail
  go_ret
  exact ⟨rfl,HBh.out⟩
end Lsv1
namespace Hs0
variable {H:Type} {enc:TypeId × Value->H}
theorem andShaped {C:Checked} {os:Os} {f:FuncId} {fn:Func} {s:ChangeSpec} {apart fresh handsOn again:Bool} {X:World->Array Value->Prop}
 (hX:∀ (w w':World) (args:Array Value),w.heap=w'.heap->X w args->X w' args)
 (own:ownKnob C.prog.godebug=none) (started:os.Started) (noInit:C.prog.inits.idxOf? f=none) (hfn:C.prog.funcs[f]? = some fn)
 (witness:∃ (w:World) (tape:Tape) (i:Input),w.os=os/\(w.forCall tape i).Shaped C.prog/\i.vars=[]/\Input.okWide C.prog (w.forCall tape i) .any w.heap.size f i /\
  ((s.pre enc C.prog fn [] apart (w.forCall tape i).memory i.args/\X (w.forCall tape i).memory i.args)/\sizedMet enc C.prog fn (OpenSpec.ofChange s) apart (w.forCall tape i).memory i.args)/\({}:Assume).holds C.prog (lone (Frame.enter C.prog f i.args .normal) [] (w.forCall tape i)))
 (walk:∀ (W:World) (base:Nat) (args:Array Value) (ds gs:List (DataW H)) (before:List MemPlace),
  (∀ (j:Nat) t v,fn.params[j]? = some t->args[j]? = some v->Value.okWide C.prog W .any base t v) ->
  DataW.Whole enc C.prog fn.params.toList s.vars apart W args.toList ds gs before->X W args->W.ShapedOpen C.prog ->
  Calls C.prog f args W fun e W'=>∃ v,e=.returned v/\s.post enc C.prog fn apart fresh handsOn again W args v W') :
 ReturnsInHanded {} C os f .any (fun w args=>(s.pre enc C.prog fn [] apart w args/\X w args)/\sizedMet enc C.prog fn (OpenSpec.ofChange s) apart w args) (s.post enc C.prog fn apart fresh handsOn again):=by
 refine returnsInHanded_of_calls own started noInit witness ?_
 intro w tape i _ hsh _ hok hpre _
 obtain ⟨_,_,_,fn',hfn',_,_,_,_,hval⟩:=hok
 obtain rfl:fn'=fn:=Option.some.inj (hfn'.symm.trans hfn)
 obtain ⟨⟨⟨ds,gs,before,hw,hc⟩,hx⟩,hz⟩:=hpre
 have hw':=DataW.Whole.of_heap (w':=w.forCall tape i) (by rfl) hw
 refine (walk (w.forCall tape i) w.heap.size i.args ds gs before hval hw' (hX (w.forCall tape i).memory (w.forCall tape i) _ rfl hx) hsh).mono fun e W' ⟨v,he,hp⟩=>?_
 subst he
 exact ChangeSpec.post_blind hp
end Hs0
namespace Zt1
open Go.RowKit
open Zs7 (TabE)
open Zt0 (tabz_of_laid)
theorem split {P:Program} {laid:List (String × DataW Unit)} {w:World} (h:laidMetH P laid w):laidMet P (laid.filter fun x=>x.2.handleName?.isNone) w/\handlesMet P (laid.filter fun x=>x.2.handleName?.isSome) w:=by
 unfold laidMetH at h
 split at h
 ·rename_i e
  refine ⟨?_,by rw [e];intro x hx;cases hx⟩
  have:(laid.filter fun x=>x.2.handleName?.isNone)=laid:=by
   rw [List.filter_eq_self]
   intro x hx
   cases hn:x.2.handleName? with
   | none=>rfl
   | some s =>
     have:x∈laid.filter fun x=>x.2.handleName?.isSome:=List.mem_filter.2 ⟨hx,by rw [hn];rfl⟩
     rw [e] at this
     cases this
  rw [this]
  exact h
 ·rename_i hd tl e
  rw [e]
  exact h
theorem et:Tryz.prog.globalNamed "errors.errorType" = some 0:=by kernel_rfl
theorem rt:(Tryz.prog.cutTypes.find? (·.1 == "internal/reflectlite.rtype")).map (·.2)=some 165:=by kernel_rfl
theorem oneRow:((List.range 248).filter fun t=>Tryz.prog.rowNamed t [101,114,114,111,114])=[63]:=by kernel_rfl
theorem size:Tryz.prog.types.size=248:=by kernel_rfl
theorem tabe_of_laid {W:World} {laid:List (String × DataW Unit)} (hH:laidMetH Tryz.prog laid W)
 (h1:("internal/strconv.uint64pow10",Rows.laid_internal_strconv_uint64pow10)∈laid) (h2:("strconv.ErrSyntax",Rows.laid_strconv_ErrSyntax)∈laid) (h3:("strconv.ErrRange",Rows.laid_strconv_ErrRange)∈laid) (h4:W.ShapedOpen Tryz.prog) (h5:("errors.errorType",Rows.laid_errors_errorType)∈laid):TabE W:=by
 obtain ⟨hP,hh⟩:=split hH
 refine ⟨tabz_of_laid hP (List.mem_filter.2 ⟨h1,by kernel_rfl⟩) (List.mem_filter.2 ⟨h2,by kernel_rfl⟩) (List.mem_filter.2 ⟨h3,by kernel_rfl⟩) h4,?_⟩
 have h6:=hh _ (List.mem_filter.2 ⟨h5,by kernel_rfl⟩)
 obtain ⟨name,u,ty,e1,e2,e3,e4,e5⟩:=h6
 have en:name=[101,114,114,111,114]:=(Option.some.inj e1).symm
 subst en
 obtain rfl:=Option.some.inj (rt.symm.trans e2)
 have hm:ty∈(List.range 248).filter fun t=>Tryz.prog.rowNamed t [101,114,114,111,114]:=List.mem_filter.2 ⟨List.mem_range.2 (by rw [<- size];exact e3),e4⟩
 rw [oneRow] at hm
 obtain rfl:=List.mem_singleton.1 hm
 have hT:typeHandle Tryz.prog 63=.pointer (some ⟨9,63,none⟩):=by kernel_rfl
 rw [hT] at e5
 simpa using World.var?_cell et e5 0
end Zt1
namespace Zt2
/-- The settled world, errors.errorType laid. -/
noncomputable def w0h (os:Os):World :=
 let w0:=World.holding Tryz.prog os ⟨#[],#[],[]⟩
 { w0 with heap:=w0.heap.modify 0 fun
  | .cells _ t frozen=>.cells #[.iface 165 (.agg #[.pointer (some ⟨9,63,none⟩)])] t frozen
  | o=>o }
/-- All that a row lists, laid. -/
noncomputable def laidW (os:Os) (laid:List (String × DataW Unit)):World:=(w0h os).layVars Tryz.prog (laid.filter fun x=>x.2.handleName?.isNone)
theorem laidW_os (os:Os) (laid:List (String × DataW Unit)):(laidW os laid).os=os:=(World.layVars_os _ _ _).trans rfl
theorem laidW_met {os:Os} {laid:List (String × DataW Unit)} (args:Array Value)
 (hf:(w0h os).layFits Tryz.prog (laid.filter fun x=>x.2.handleName?.isNone) []=true)
 (hi:(w0h os).layIfaces Tryz.prog (laid.filter fun x=>x.2.handleName?.isNone) (laidW os laid)=true) :
 laidMet Tryz.prog (laid.filter fun x=>x.2.handleName?.isNone) ((laidW os laid).forCall (fun _ _=>0) ⟨#[],args,[]⟩).memory:=by
 obtain ⟨l,hl⟩:∃ l,l=laid.filter fun x=>x.2.handleName?.isNone:=⟨_,rfl⟩
 have e1:(l.filter fun x=>(l.map (·.1)).contains x.1)=l:=List.filter_eq_self.2 fun x hx=>List.contains_iff_mem.2 (List.mem_map.2 ⟨x,hx,rfl⟩)
 have e2:(l.filter fun x => !(l.map (·.1)).contains x.1)=[]:=List.filter_eq_nil_iff.2 fun x hx=>by rw [List.contains_iff_mem.2 (List.mem_map.2 ⟨x,hx,rfl⟩)];simp
 rw [<- hl] at hf hi ⊢
 have h:laidMet Tryz.prog l (laidW os laid):=laidMet_layVars (w0:=w0h os) (l.map (·.1)) [] (by rw [e1];unfold laidW;rw [<- hl]) (by rw [e1];exact hf) (by rw [e1];exact hi) (by rw [e2];exact LaidIn.none)
 exact h.of_heap (by simp [World.memory,World.forCall,Input.heap])
theorem fits (os:Os):(w0h os).layFits Tryz.prog (Rows.fnSaveRow.laid.filter fun x=>x.2.handleName?.isNone) []=true:=by kernel_rfl
theorem ifaces (os:Os):(w0h os).layIfaces Tryz.prog (Rows.fnSaveRow.laid.filter fun x=>x.2.handleName?.isNone) (laidW os Rows.fnSaveRow.laid)=true:=by kernel_rfl
theorem met (os:Os) (args:Array Value):laidMetH Tryz.prog Rows.fnSaveRow.laid ((laidW os Rows.fnSaveRow.laid).forCall (fun _ _=>0) ⟨#[],args,[]⟩).memory :=
 laidMetH_of_parts3 (fuel:=8) (laidW_met args (fits os) (ifaces os)) (by kernel_rfl) (by kernel_rfl)
theorem shape (os:Os) (args:Array Value):((laidW os Rows.fnSaveRow.laid).forCall (fun _ _=>0) ⟨#[],args,[]⟩).Shaped Tryz.prog:=World.shaped_of_ZipB (by kernel_rfl) (by kernel_rfl)
end Zt2
end Go.Proofs.YtjajkmdoggbicaaGreatDoor
