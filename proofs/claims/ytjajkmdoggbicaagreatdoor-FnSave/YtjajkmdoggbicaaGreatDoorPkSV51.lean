import Derived.Test.YtjajkmdoggbicaaGreatDoorZl8
import Derived.Test.YtjajkmdoggbicaaGreatDoorPkSV24
namespace Go.Proofs.YtjajkmdoggbicaaGreatDoor
set_option maxRecDepth 100000
set_option maxHeartbeats 8000000
set_option linter.unusedVariables false
namespace Zl9
open Go.RowKit
open Nd0 (Kept At lt_of_cell)
open Mm0 (Mc Mb Mr Mok mval)
open Ss0 (bs bs_size)
open Ss1 (tl tl_bs bs_tl tl_length)
open Zk0 (cutF cutS cutF_le cutS_le)
open Zt0 (TabZ iCut)
open Zs3 (LV lv0 lv1 lv2 lv3 lv4 lv5 lv6 lv7)
open Zl0 Zl1 Zl8
/-- What holds of a machine of which i lines are read. -/
structure St (i:Nat) (m:Mc):Prop where
 memo:i < 7->m.memo=[]
 vals:i<=3->m.vals=[]
 len:m.memo.length<=i
 S:m.S.size<=400000
 K:∀ x∈m.memo,x.k.size<=400000
theorem St.zero:St 0 mc0:=⟨fun _=>rfl,fun _=>rfl,Nat.le_refl _,Nat.zero_le _,fun x hx=>by cases hx⟩
theorem St.next {i:Nat} {m m':Mc} {t:List UInt8} (h:St i m) (ht:t.length<=400000) (e:tkL i m t=some m'):St (i+1) m':=by
 unfold tkL at e
 split at e
 rotate_left
 ·cases e
 have hc:(cutS 32 t).length<=400000:=by have:=cutS_le 32 t;omega
 generalize cutS 32 t=b at e hc
 match i,e with
 | 0,e =>
   simp only [rd] at e
   split at e<;>cases e
   exact ⟨fun _=>h.memo (by omega),fun _=>h.vals (by omega),by have:=h.len;simp only;omega,h.S,h.K⟩
 | 1,e =>
   simp only [rd] at e
   split at e<;>cases e
   exact ⟨fun _=>h.memo (by omega),fun _=>h.vals (by omega),by have:=h.len;simp only;omega,by simp only [bs_size];have:=cutS_le 58 b;omega,h.K⟩
 | 2,e =>
   simp only [rd] at e
   split at e<;>cases e
   exact ⟨fun _=>h.memo (by omega),fun _=>h.vals (by omega),by have:=h.len;simp only;omega,h.S,h.K⟩
 | 3,e =>
   simp only [rd] at e
   split at e<;>cases e
   exact ⟨fun _=>h.memo (by omega),fun z=>by omega,by have:=h.len;simp only;omega,h.S,h.K⟩
 | 4,e =>
   simp only [rd] at e
   split at e<;>cases e
   exact ⟨fun _=>h.memo (by omega),fun z=>by omega,by have:=h.len;simp only;omega,h.S,h.K⟩
 | 5,e =>
   simp only [rd] at e
   split at e<;>cases e
   exact ⟨fun _=>h.memo (by omega),fun z=>by omega,by have:=h.len;simp only;omega,h.S,h.K⟩
 | 6,e =>
   simp only [rd] at e
   split at e<;>cases e
   exact ⟨fun z=>by omega,fun z=>by omega,by have:=h.len;simp only;omega,h.S,h.K⟩
 | k+7,e =>
   simp only [rd] at e
   split at e<;>cases e
   refine ⟨fun z=>by omega,fun z=>by omega,by have:=h.len;simp only [List.length_append,List.length_singleton];omega,h.S,fun x hx=>?_⟩
   rcases List.mem_append.1 hx with hx|hx
   ·exact h.K x hx
   ·obtain rfl:=List.mem_singleton.1 hx
    simp only [bs_size]
    have:=cutF_le 32 b
    omega
/-- A line taken. -/
theorem iTake (W:World) (q:Nat) (m:Mc) (ra va ma:Option Addr) (rc vc mc u1 u2:Nat) (h:Ld W q m ra va ma rc vc mc u1 u2) (t:List UInt8) (ht:t.length<=400000) (hT:TabZ W) (i:Nat) (hi:i<=400000) (hS:St i m) (v:Value) (hv:LV W v i) :
 Calls Tryz.prog 87 #[v,.pointer (some ⟨q,0,none⟩),.string (bs t)] W (TkO W q ma (tkL i m t)):=by
 match i,hv with
 | 0,hv=>obtain rfl:=hv;exact tk0 W q m ra va ma rc vc mc u1 u2 h t ht hT (hS.vals (by omega)) (hS.memo (by omega))
 | 1,hv=>obtain rfl:=hv;exact tk1 W q m ra va ma rc vc mc u1 u2 h t ht hT
 | 2,hv=>obtain rfl:=hv;exact tk2 W q m ra va ma rc vc mc u1 u2 h t ht hT
 | 3,hv=>obtain rfl:=hv;exact tk3 W q m ra va ma rc vc mc u1 u2 h t ht hT (hS.memo (by omega))
 | 4,hv=>obtain rfl:=hv;exact tk4 W q m ra va ma rc vc mc u1 u2 h t ht hT
 | 5,hv=>obtain rfl:=hv;exact tk5 W q m ra va ma rc vc mc u1 u2 h t ht hT
 | 6,hv=>obtain rfl:=hv;exact tk6 W q m ra va ma rc vc mc u1 u2 h t ht hT
 | k+7,hv =>
   obtain ⟨bx,rfl,_⟩:=hv
   exact tk7 W q m ra va ma rc vc mc u1 u2 h t ht hT k (by have:=hS.len;omega) bx
end Zl9
namespace Zl10
open Go.RowKit
open Nd0 (Kept At lt_of_cell)
open Mm0 (Mc Mb Mr Mok mval)
open Mx0 (Mf Mz)
open Ss0 (bs bs_size)
open Ss1 (tl tl_bs bs_tl tl_length)
open Zk0 (cutF cutS cutF_le cutS_le cut_lt)
open Zt0 (TabZ iCut)
open Zs0 (savT svB)
open Zs3 (LV iLineAt)
open Zs5 (rfv iSaved StP)
open Zl0 Zl1 Zl2 Zl8 Zl9
/-- What reading a whole text comes to. -/
def SmP (s:List UInt8) (B:Nat) (e:Ending) (w':World):Prop :=
 (∀ m,ldP s=some m->∃ q ra va ma rc vc mc u1 u2,e=.returned (.tuple #[mval m ra va ma rc vc mc,.nilIface])/\B<=q/\Ld w' q m ra va ma rc vc mc u1 u2)/\(ldP s=none->∃ m ra va ma rc vc mc x,e=.returned (.tuple #[mval m ra va ma rc vc mc,rfv x]))
theorem SmP.no {s:List UInt8} {B:Nat} {w':World} {m:Mc} {ra va ma:Option Addr} {rc vc mc:Nat} {x:ByteArray} (h:ldP s=none):SmP s B (.returned (.tuple #[mval m ra va ma rc vc mc,rfv x])) w' :=
 ⟨fun m hm=>(by rw [h] at hm;cases hm),fun _=>⟨m,ra,va,ma,rc,vc,mc,x,rfl⟩⟩
theorem SmP.yes {s:List UInt8} {B:Nat} {w':World} {q:Nat} {m:Mc} {ra va ma:Option Addr} {rc vc mc u1 u2:Nat} (h:ldP s=some m) (hq:B<=q) (hl:Ld w' q m ra va ma rc vc mc u1 u2):SmP s B (.returned (.tuple #[mval m ra va ma rc vc mc,.nilIface])) w' :=
 ⟨fun m' hm=>(by rw [h] at hm;cases hm;exact ⟨q,ra,va,ma,rc,vc,mc,u1,u2,rfl,hq,hl⟩),fun e=>(by rw [h] at e;cases e)⟩
theorem ld_long {s:List UInt8} (h:¬ s.length<=400000):ldP s=none:=by
 cases hp:ldP s with
 | none=>rfl
 | some m =>
   have:=ldP_ok hp
   unfold okL at this
   simp only [Bool.and_eq_true,decide_eq_true_eq] at this
   obtain ⟨h1,h2⟩:=this
   unfold svB at h1
   simp only [Bool.and_eq_true,decide_eq_true_eq] at h1
   exact absurd (by rw [<- h2];exact h1.2.2) h
theorem ld_rd0 {s:List UInt8} (h:rdS s=none):ldP s=none:=by unfold ldP;rw [h]
theorem ld_rd {s:List UInt8} {m:Mc} (h:rdS s=some m):ldP s=if okL s m=true then some m else none:=by unfold ldP;rw [h]
theorem memo_ge {W:World} {q:Nat} {m:Mc} {ra va ma:Option Addr} {rc vc mc u1 u2:Nat} (h:Ld W q m ra va ma rc vc mc u1 u2):∀ b,At ma b->q < b:=by
 intro b hb
 obtain ⟨a,ha,rfl⟩:=hb
 have hm:=h.memo
 have h1:=h.h1
 have h2:=h.h2
 rcases h.memo with ⟨e,_⟩|⟨g,o,cap,e,_,hl⟩
 ·rw [ha] at e;cases e
 ·rw [e] at hm
  rw [ha] at e
  cases e
  have:=(hm.lt _ _ _ _ rfl).1
  show q < g
  omega
/-- At the loop's head. -/
structure At2 (s:List UInt8) (k:Nat) (m:Mc) (r:List UInt8):Prop where
 f:∃ f,r.length<=f/\rdAll f k m r=rdS s
 st:St k m
 le:k+r.length<=s.length
theorem At2.done {s:List UInt8} {k:Nat} {m:Mc} (h:At2 s k m []):rdS s=some m:=by
 obtain ⟨f,_,e⟩:=h.f
 rw [<- e]
 cases f<;>simp [rdAll]
theorem At2.no {s r:List UInt8} {k:Nat} {m:Mc} (h:At2 s k m r) (hr:r≠[]) (e:tkL k m (cutF 10 r)=none):rdS s=none:=by
 obtain ⟨f,hf,e2⟩:=h.f
 cases f with
 | zero=>exact absurd (List.eq_nil_of_length_eq_zero (by omega)) hr
 | succ f=>rw [<- e2];unfold rdAll;rw [if_neg hr,e]
theorem At2.next {s r:List UInt8} {k:Nat} {m m':Mc} (h:At2 s k m r) (hs:s.length<=400000) (hr:r≠[]) (e:tkL k m (cutF 10 r)=some m'):At2 s (k+1) m' (cutS 10 r):=by
 have hl:=cut_lt 10 hr
 have h3:=h.le
 refine ⟨?_,h.st.next (by have:=cutF_le 10 r;omega) e,by omega⟩
 obtain ⟨f,hf,e2⟩:=h.f
 cases f with
 | zero=>exact absurd (List.eq_nil_of_length_eq_zero (by omega)) hr
 | succ f=>exact ⟨f,by omega,by rw [<- e2];conv=>rhs;unfold rdAll
                                rw [if_neg hr,e]⟩
theorem iSavedMachine (s:List UInt8) (w:World) (hs:s.length<=1048576) (hT:TabZ w) :
 Calls Tryz.prog 50 #[.string (bs s)] w fun e w'=>SmP s w.heap.size e w'/\Below w.heap.size w w':=by
 obtain ⟨X0,hX0⟩:∃ X,X=w.alloc (.cells #[.slice none 0 0,.int .i64 0,.string ⟨#[]⟩,.int .i64 0,.slice none 0 0,.int .i64 0,.bool false,.int .i64 0,.int .i64 0,.int .i64 0,.slice none 0 0] 30):=⟨_,rfl⟩
 have hE:w.alloc (.cells #[.slice none 0 0,.int .i64 0,.string ⟨#[]⟩,.int .i64 0,.slice none 0 0,.int .i64 0,.bool false,.int .i64 0,.int .i64 0,.int .i64 0,.slice none 0 0] 30)=X0:=hX0.symm
 have HB0:Hid (Below w.heap.size w X0):=by rw [hX0];exact (Below.refl _ _).alloc (Nat.le_refl _) _
 have HZ0:Hid (Mf X0 w.heap.size [.slice none 0 0,.int .i64 0,.string ⟨#[]⟩,.int .i64 0,.slice none 0 0,.int .i64 0,.bool false,.int .i64 0,.int .i64 0,.int .i64 0,.slice none 0 0]):=by rw [hX0];exact Mf.made _ _ _
 have HX0:Hid (X0.heap.size=w.heap.size+1):=by rw [hX0];show _=_;simp
 have HT:Hid (TabZ w):=hT
 obtain ⟨S,hS⟩:∃ S,S=bs s:=⟨_,rfl⟩
 have HS:Hid (S=bs s):=hS
 have hSz:S.size=s.length:=by rw [hS,bs_size]
 rw [<- hS]
 clear hX0 hT hS
 go_enter Tryz.func50,Tryz.ntmps50
 go_upto_region 1 with fail
 clear hE
 by_cases hbig:(400000:Int) < (S.size:Int)
 ·have HN:Hid (ldP s=none):=ld_long (by omega)
  clear hSz hs
  obtain ⟨d0,d1,d2,d3,d4,d5,d6,d7,d8,d9,d10,z0,z1,z2,z3,z4,z5,z6,z7,z8,z9,z10⟩:=HZ0.out.all
  go_wp2
  clear d0 d1 d2 d3 d4 d5 d6 d7 d8 d9 d10 z0 z1 z2 z3 z4 z5 z6 z7 z8 z9 z10
  obtain ⟨WF,hWF⟩:∃ WF,WF=(((((((((((X0).setCell ⟨w.heap.size,0,none⟩ (.slice none 0 0)).setCell ⟨w.heap.size,1,none⟩ (.int .i64 0)).setCell ⟨w.heap.size,2,none⟩ (.string ⟨#[]⟩)).setCell ⟨w.heap.size,3,none⟩ (.int .i64 0)).setCell ⟨w.heap.size,4,none⟩ (.slice none 0 0)).setCell ⟨w.heap.size,5,none⟩ (.int .i64 0)).setCell ⟨w.heap.size,6,none⟩ (.bool false)).setCell ⟨w.heap.size,7,none⟩ (.int .i64 0)).setCell ⟨w.heap.size,8,none⟩ (.int .i64 0)).setCell ⟨w.heap.size,9,none⟩ (.int .i64 0)).setCell ⟨w.heap.size,10,none⟩ (.slice none 0 0):=⟨_,rfl⟩
  rw [<- hWF]
  have KF:Kept (fun b=>b=w.heap.size) X0 WF:=by rw [hWF];exact ((((((((((((Kept.refl (fun b=>b=w.heap.size) X0).setCell (p:=⟨w.heap.size,0,none⟩) rfl _).setCell (p:=⟨w.heap.size,1,none⟩) rfl _).setCell (p:=⟨w.heap.size,2,none⟩) rfl _).setCell (p:=⟨w.heap.size,3,none⟩) rfl _).setCell (p:=⟨w.heap.size,4,none⟩) rfl _).setCell (p:=⟨w.heap.size,5,none⟩) rfl _).setCell (p:=⟨w.heap.size,6,none⟩) rfl _).setCell (p:=⟨w.heap.size,7,none⟩) rfl _).setCell (p:=⟨w.heap.size,8,none⟩) rfl _).setCell (p:=⟨w.heap.size,9,none⟩) rfl _).setCell (p:=⟨w.heap.size,10,none⟩) rfl _)
  have HF:Mf WF w.heap.size [.slice none 0 0,.int .i64 0,.string ⟨#[]⟩,.int .i64 0,.slice none 0 0,.int .i64 0,.bool false,.int .i64 0,.int .i64 0,.int .i64 0,.slice none 0 0]:=by
   rw [hWF]
   exact (((((((((((HZ0.out.set 0 (.slice none 0 0)).set 1 (.int .i64 0)).set 2 (.string ⟨#[]⟩)).set 3 (.int .i64 0)).set 4 (.slice none 0 0)).set 5 (.int .i64 0)).set 6 (.bool false)).set 7 (.int .i64 0)).set 8 (.int .i64 0)).set 9 (.int .i64 0)).set 10 (.slice none 0 0))
  obtain ⟨e0,e1,e2,e3,e4,e5,e6,e7,e8,e9,e10,f0,f1,f2,f3,f4,f5,f6,f7,f8,f9,f10⟩:=HF.all
  exact bodyPost_ret (v:=.tuple #[mval mc0 none none none 0 0 0,rfv ⟨#[108,101,110,103,116,104]⟩]) (by simp [results,Tryz.results50,go_sem,mc0,e0,e1,e2,e3,e4,e5,e6,e7,e8,e9,e10]) rfl ⟨SmP.no HN.out,HB0.out.trans (KF.below (fun b hb=>by omega) HB0.out.size)⟩
 have HL:Hid (s.length<=400000):=by show _<=_;omega
 obtain ⟨X1,hX1⟩:∃ X,X=X0.alloc (.cells #[.slice none 0 0,.int .i64 0,.string ⟨#[]⟩,.int .i64 0,.slice none 0 0,.int .i64 0,.bool false,.int .i64 0,.int .i64 0,.int .i64 0,.slice none 0 0] 30):=⟨_,rfl⟩
 have HE1:Hid (X0.alloc (.cells #[.slice none 0 0,.int .i64 0,.string ⟨#[]⟩,.int .i64 0,.slice none 0 0,.int .i64 0,.bool false,.int .i64 0,.int .i64 0,.int .i64 0,.slice none 0 0] 30)=X1):=hX1.symm
 have HB1:Hid (Below w.heap.size w X1):=by rw [hX1];exact HB0.out.alloc HB0.out.size _
 have HZ1:Hid (Mf X1 w.heap.size [.slice none 0 0,.int .i64 0,.string ⟨#[]⟩,.int .i64 0,.slice none 0 0,.int .i64 0,.bool false,.int .i64 0,.int .i64 0,.int .i64 0,.slice none 0 0]):=by rw [hX1];exact HZ0.out.alloc _
 have HL1:Hid (Ld X1 (w.heap.size+1) mc0 none none none 0 0 0 (w.heap.size+2) (w.heap.size+2)):=by
  have h1:=Mf.made X0 #[.slice none 0 0,.int .i64 0,.string ⟨#[]⟩,.int .i64 0,.slice none 0 0,.int .i64 0,.bool false,.int .i64 0,.int .i64 0,.int .i64 0,.slice none 0 0] 30
  have h2:X1.heap.size=w.heap.size+2:=by rw [hX1];have:=HX0.out;simp;omega
  rw [HX0.out,<- hX1] at h1
  exact ⟨h1,by omega,by omega,by omega,nil_bools _ rfl,nil_ints _ rfl,.inl ⟨rfl,rfl⟩,fun _=>rfl⟩
 have HX1:Hid (X0.heap.size=w.heap.size+1):=HX0.out
 clear hX1
 have hx0:=HX0.out
 have hSl:s.length < 400001:=by have:=HL.out;omega
 go_upto_region 5 with fail
 rw [HE1.out]
 go_wp2
 clear hx0 hSz hs hbig HE1
 go_loopw [5,6,7] (fun t r i wr=>∃ (k:Nat) (m:Mc) (rl:List UInt8) (tt:ByteArray) (ra va ma:Option Addr) (rc vc mc u1 u2:Nat),i=.int .i64 k/\r=.string (bs rl)/\t=.string tt/\At2 s k m rl/\Ld wr (w.heap.size+1) m ra va ma rc vc mc u1 u2/\Mf wr w.heap.size [.slice none 0 0,.int .i64 0,.string ⟨#[]⟩,.int .i64 0,.slice none 0 0,.int .i64 0,.bool false,.int .i64 0,.int .i64 0,.int .i64 0,.slice none 0 0]/\Below w.heap.size w wr) (fun _ _ i _=>s.length+1 - (intOf i).toNat)
 case atStart=>exact ⟨0,mc0,s,⟨#[]⟩,none,none,none,0,0,0,_,_,rfl,by rw [HS.out],rfl,⟨⟨s.length,Nat.le_refl _,rfl⟩,St.zero,by omega⟩,HL1.out,HZ1.out,HB1.out⟩
 case round =>
  clear HB1 HZ1 HL1 HX1 HX0 HB0 HZ0
  obtain ⟨k,m,rl,tt,ra,va,ma,rc,vc,mc,u1,u2,rfl,rfl,rfl,hat,hld,hmf,hbr⟩:=hrel
  have HA:Hid (At2 s k m rl):=hat
  have HD:Hid (Ld wr (w.heap.size+1) m ra va ma rc vc mc u1 u2):=hld
  have HZ:Hid (Mf wr w.heap.size [.slice none 0 0,.int .i64 0,.string ⟨#[]⟩,.int .i64 0,.slice none 0 0,.int .i64 0,.bool false,.int .i64 0,.int .i64 0,.int .i64 0,.slice none 0 0]):=hmf
  have HB:Hid (Below w.heap.size w wr):=hbr
  clear hat hld hmf hbr
  obtain ⟨R,hR⟩:∃ R,R=bs rl:=⟨_,rfl⟩
  have HR:Hid (R=bs rl):=hR
  rw [<- hR]
  by_cases hr:rl=[]
  ·have hemp:(R.toList==[])=true:=Ss1.eql_true (by rw [hR,tl_bs];exact hr)
   have HRD:Hid (rdS s=some m):=by subst hr;exact HA.out.done
   clear hR hr
   obtain ⟨d0,d1,d2,d3,d4,d5,d6,d7,d8,d9,d10,z0,z1,z2,z3,z4,z5,z6,z7,z8,z9,z10⟩:=HD.out.mf.all
   go_wp2_with fail
   clear d0 d1 d2 d3 d4 d5 d6 d7 d8 d9 d10 z0 z1 z2 z3 z4 z5 z6 z7 z8 z9 z10
   refine Calls.mono (iSaved m ra va ma rc vc mc wr HD.out.mr (by have:=HA.out.st.S;omega) (fun x hx=>by have:=HA.out.st.K x hx;omega) (HT.out.below HB.out)) ?_
   rintro e w1 ⟨hst,hb1⟩
   have HB1:Hid (Below w.heap.size w w1):=HB.out.trans (hb1.mono HB.out.size)
   have HD1:Hid (Ld w1 (w.heap.size+1) m ra va ma rc vc mc u1 u2):=HD.out.below hb1
   have HZ1:Hid (Mf w1 w.heap.size [.slice none 0 0,.int .i64 0,.string ⟨#[]⟩,.int .i64 0,.slice none 0 0,.int .i64 0,.bool false,.int .i64 0,.int .i64 0,.int .i64 0,.slice none 0 0]):=HZ.out.below hb1
   clear hb1 hemp
   rcases hst with ⟨hv,rfl⟩|⟨hv,x,rfl⟩
   ·obtain ⟨V,hV⟩:∃ V,V=bs (savT m):=⟨_,rfl⟩
    rw [<- hV]
    by_cases hvs:savT m=s
    ·have HP:Hid (ldP s=some m):=by show _=_;rw [ld_rd HRD.out];unfold okL;rw [hv,hvs];simp
     have hVS:V=S:=by rw [hV,hvs,HS.out]
     subst hVS
     clear hV hv hvs
     obtain ⟨d0,d1,d2,d3,d4,d5,d6,d7,d8,d9,d10,z0,z1,z2,z3,z4,z5,z6,z7,z8,z9,z10⟩:=HZ1.out.all
     obtain ⟨a0,a1,a2,a3,a4,a5,a6,a7,a8,a9,a10,y0,y1,y2,y3,y4,y5,y6,y7,y8,y9,y10⟩:=HD1.out.mf.all
     go_wp2
     clear d0 d1 d2 d3 d4 d5 d6 d7 d8 d9 d10 z0 z1 z2 z3 z4 z5 z6 z7 z8 z9 z10 a0 a1 a2 a3 a4 a5 a6 a7 a8 a9 a10 y0 y1 y2 y3 y4 y5 y6 y7 y8 y9 y10
     obtain ⟨WF,hWF⟩:∃ WF,WF=(((((((((((w1).setCell ⟨w.heap.size,0,none⟩ (.slice ra m.row.length rc)).setCell ⟨w.heap.size,1,none⟩ (.int .i64 m.N)).setCell ⟨w.heap.size,2,none⟩ (.string m.S)).setCell ⟨w.heap.size,3,none⟩ (.int .i64 m.room)).setCell ⟨w.heap.size,4,none⟩ (.slice va m.vals.length vc)).setCell ⟨w.heap.size,5,none⟩ (.int .i64 m.ret)).setCell ⟨w.heap.size,6,none⟩ (.bool m.over)).setCell ⟨w.heap.size,7,none⟩ (.int .i64 m.steps)).setCell ⟨w.heap.size,8,none⟩ (.int .i64 m.looks)).setCell ⟨w.heap.size,9,none⟩ (.int .i64 m.hits)).setCell ⟨w.heap.size,10,none⟩ (.slice ma m.memo.length mc):=⟨_,rfl⟩
     rw [<- hWF]
     have KF:Kept (fun b=>b=w.heap.size) w1 WF:=by rw [hWF];exact ((((((((((((Kept.refl (fun b=>b=w.heap.size) w1).setCell (p:=⟨w.heap.size,0,none⟩) rfl _).setCell (p:=⟨w.heap.size,1,none⟩) rfl _).setCell (p:=⟨w.heap.size,2,none⟩) rfl _).setCell (p:=⟨w.heap.size,3,none⟩) rfl _).setCell (p:=⟨w.heap.size,4,none⟩) rfl _).setCell (p:=⟨w.heap.size,5,none⟩) rfl _).setCell (p:=⟨w.heap.size,6,none⟩) rfl _).setCell (p:=⟨w.heap.size,7,none⟩) rfl _).setCell (p:=⟨w.heap.size,8,none⟩) rfl _).setCell (p:=⟨w.heap.size,9,none⟩) rfl _).setCell (p:=⟨w.heap.size,10,none⟩) rfl _)
     have HF:Mf WF w.heap.size [.slice ra m.row.length rc,.int .i64 m.N,.string m.S,.int .i64 m.room,.slice va m.vals.length vc,.int .i64 m.ret,.bool m.over,.int .i64 m.steps,.int .i64 m.looks,.int .i64 m.hits,.slice ma m.memo.length mc]:=by
      rw [hWF]
      exact (((((((((((HZ1.out.set 0 (.slice ra m.row.length rc)).set 1 (.int .i64 m.N)).set 2 (.string m.S)).set 3 (.int .i64 m.room)).set 4 (.slice va m.vals.length vc)).set 5 (.int .i64 m.ret)).set 6 (.bool m.over)).set 7 (.int .i64 m.steps)).set 8 (.int .i64 m.looks)).set 9 (.int .i64 m.hits)).set 10 (.slice ma m.memo.length mc))
     obtain ⟨e0,e1,e2,e3,e4,e5,e6,e7,e8,e9,e10,f0,f1,f2,f3,f4,f5,f6,f7,f8,f9,f10⟩:=HF.all
     exact bodyPost_ret (v:=.tuple #[mval m ra va ma rc vc mc,.nilIface]) (by simp [results,Tryz.results50,go_sem,e0,e1,e2,e3,e4,e5,e6,e7,e8,e9,e10]) rfl ⟨SmP.yes HP.out (Nat.le_succ _) (HD1.out.kept KF (fun b h1 h2=>by omega)),HB1.out.trans (KF.below (fun b hb=>by omega) HB1.out.size)⟩
    ·have HP:Hid (ldP s=none):=by show _=_;rw [ld_rd HRD.out];unfold okL;rw [decide_eq_false hvs];simp
     have hne:(V.toList==S.toList)=false:=Ss1.eql_false (by rw [hV,tl_bs];intro e;exact hvs (by rw [e,HS.out,ByteArray.toList_eq];exact tl_bs s))
     clear hV hv hvs
     obtain ⟨d0,d1,d2,d3,d4,d5,d6,d7,d8,d9,d10,z0,z1,z2,z3,z4,z5,z6,z7,z8,z9,z10⟩:=HZ1.out.all
     obtain ⟨a0,a1,a2,a3,a4,a5,a6,a7,a8,a9,a10,y0,y1,y2,y3,y4,y5,y6,y7,y8,y9,y10⟩:=HD1.out.mf.all
     go_wp2
     clear d0 d1 d2 d3 d4 d5 d6 d7 d8 d9 d10 z0 z1 z2 z3 z4 z5 z6 z7 z8 z9 z10 a0 a1 a2 a3 a4 a5 a6 a7 a8 a9 a10 y0 y1 y2 y3 y4 y5 y6 y7 y8 y9 y10
     obtain ⟨WF,hWF⟩:∃ WF,WF=(((((((((((w1).setCell ⟨w.heap.size,0,none⟩ (.slice ra m.row.length rc)).setCell ⟨w.heap.size,1,none⟩ (.int .i64 m.N)).setCell ⟨w.heap.size,2,none⟩ (.string m.S)).setCell ⟨w.heap.size,3,none⟩ (.int .i64 m.room)).setCell ⟨w.heap.size,4,none⟩ (.slice va m.vals.length vc)).setCell ⟨w.heap.size,5,none⟩ (.int .i64 m.ret)).setCell ⟨w.heap.size,6,none⟩ (.bool m.over)).setCell ⟨w.heap.size,7,none⟩ (.int .i64 m.steps)).setCell ⟨w.heap.size,8,none⟩ (.int .i64 m.looks)).setCell ⟨w.heap.size,9,none⟩ (.int .i64 m.hits)).setCell ⟨w.heap.size,10,none⟩ (.slice ma m.memo.length mc):=⟨_,rfl⟩
     rw [<- hWF]
     have KF:Kept (fun b=>b=w.heap.size) w1 WF:=by rw [hWF];exact ((((((((((((Kept.refl (fun b=>b=w.heap.size) w1).setCell (p:=⟨w.heap.size,0,none⟩) rfl _).setCell (p:=⟨w.heap.size,1,none⟩) rfl _).setCell (p:=⟨w.heap.size,2,none⟩) rfl _).setCell (p:=⟨w.heap.size,3,none⟩) rfl _).setCell (p:=⟨w.heap.size,4,none⟩) rfl _).setCell (p:=⟨w.heap.size,5,none⟩) rfl _).setCell (p:=⟨w.heap.size,6,none⟩) rfl _).setCell (p:=⟨w.heap.size,7,none⟩) rfl _).setCell (p:=⟨w.heap.size,8,none⟩) rfl _).setCell (p:=⟨w.heap.size,9,none⟩) rfl _).setCell (p:=⟨w.heap.size,10,none⟩) rfl _)
     have HF:Mf WF w.heap.size [.slice ra m.row.length rc,.int .i64 m.N,.string m.S,.int .i64 m.room,.slice va m.vals.length vc,.int .i64 m.ret,.bool m.over,.int .i64 m.steps,.int .i64 m.looks,.int .i64 m.hits,.slice ma m.memo.length mc]:=by
      rw [hWF]
      exact (((((((((((HZ1.out.set 0 (.slice ra m.row.length rc)).set 1 (.int .i64 m.N)).set 2 (.string m.S)).set 3 (.int .i64 m.room)).set 4 (.slice va m.vals.length vc)).set 5 (.int .i64 m.ret)).set 6 (.bool m.over)).set 7 (.int .i64 m.steps)).set 8 (.int .i64 m.looks)).set 9 (.int .i64 m.hits)).set 10 (.slice ma m.memo.length mc))
     obtain ⟨e0,e1,e2,e3,e4,e5,e6,e7,e8,e9,e10,f0,f1,f2,f3,f4,f5,f6,f7,f8,f9,f10⟩:=HF.all
     exact bodyPost_ret (v:=.tuple #[mval m ra va ma rc vc mc,rfv ⟨#[102,111,114,109]⟩]) (by simp [results,Tryz.results50,go_sem,e0,e1,e2,e3,e4,e5,e6,e7,e8,e9,e10]) rfl ⟨SmP.no HP.out,HB1.out.trans (KF.below (fun b hb=>by omega) HB1.out.size)⟩
   ·have HP:Hid (ldP s=none):=by show _=_;rw [ld_rd HRD.out];unfold okL;rw [hv];simp
    clear hv
    obtain ⟨d0,d1,d2,d3,d4,d5,d6,d7,d8,d9,d10,z0,z1,z2,z3,z4,z5,z6,z7,z8,z9,z10⟩:=HZ1.out.all
    obtain ⟨a0,a1,a2,a3,a4,a5,a6,a7,a8,a9,a10,y0,y1,y2,y3,y4,y5,y6,y7,y8,y9,y10⟩:=HD1.out.mf.all
    go_wp2
    clear d0 d1 d2 d3 d4 d5 d6 d7 d8 d9 d10 z0 z1 z2 z3 z4 z5 z6 z7 z8 z9 z10 a0 a1 a2 a3 a4 a5 a6 a7 a8 a9 a10 y0 y1 y2 y3 y4 y5 y6 y7 y8 y9 y10
    obtain ⟨WF,hWF⟩:∃ WF,WF=(((((((((((w1).setCell ⟨w.heap.size,0,none⟩ (.slice ra m.row.length rc)).setCell ⟨w.heap.size,1,none⟩ (.int .i64 m.N)).setCell ⟨w.heap.size,2,none⟩ (.string m.S)).setCell ⟨w.heap.size,3,none⟩ (.int .i64 m.room)).setCell ⟨w.heap.size,4,none⟩ (.slice va m.vals.length vc)).setCell ⟨w.heap.size,5,none⟩ (.int .i64 m.ret)).setCell ⟨w.heap.size,6,none⟩ (.bool m.over)).setCell ⟨w.heap.size,7,none⟩ (.int .i64 m.steps)).setCell ⟨w.heap.size,8,none⟩ (.int .i64 m.looks)).setCell ⟨w.heap.size,9,none⟩ (.int .i64 m.hits)).setCell ⟨w.heap.size,10,none⟩ (.slice ma m.memo.length mc):=⟨_,rfl⟩
    rw [<- hWF]
    have KF:Kept (fun b=>b=w.heap.size) w1 WF:=by rw [hWF];exact ((((((((((((Kept.refl (fun b=>b=w.heap.size) w1).setCell (p:=⟨w.heap.size,0,none⟩) rfl _).setCell (p:=⟨w.heap.size,1,none⟩) rfl _).setCell (p:=⟨w.heap.size,2,none⟩) rfl _).setCell (p:=⟨w.heap.size,3,none⟩) rfl _).setCell (p:=⟨w.heap.size,4,none⟩) rfl _).setCell (p:=⟨w.heap.size,5,none⟩) rfl _).setCell (p:=⟨w.heap.size,6,none⟩) rfl _).setCell (p:=⟨w.heap.size,7,none⟩) rfl _).setCell (p:=⟨w.heap.size,8,none⟩) rfl _).setCell (p:=⟨w.heap.size,9,none⟩) rfl _).setCell (p:=⟨w.heap.size,10,none⟩) rfl _)
    have HF:Mf WF w.heap.size [.slice ra m.row.length rc,.int .i64 m.N,.string m.S,.int .i64 m.room,.slice va m.vals.length vc,.int .i64 m.ret,.bool m.over,.int .i64 m.steps,.int .i64 m.looks,.int .i64 m.hits,.slice ma m.memo.length mc]:=by
     rw [hWF]
     exact (((((((((((HZ1.out.set 0 (.slice ra m.row.length rc)).set 1 (.int .i64 m.N)).set 2 (.string m.S)).set 3 (.int .i64 m.room)).set 4 (.slice va m.vals.length vc)).set 5 (.int .i64 m.ret)).set 6 (.bool m.over)).set 7 (.int .i64 m.steps)).set 8 (.int .i64 m.looks)).set 9 (.int .i64 m.hits)).set 10 (.slice ma m.memo.length mc))
    obtain ⟨e0,e1,e2,e3,e4,e5,e6,e7,e8,e9,e10,f0,f1,f2,f3,f4,f5,f6,f7,f8,f9,f10⟩:=HF.all
    exact bodyPost_ret (v:=.tuple #[mval m ra va ma rc vc mc,rfv x]) (by simp [results,Tryz.results50,go_sem,e0,e1,e2,e3,e4,e5,e6,e7,e8,e9,e10]) rfl ⟨SmP.no HP.out,HB1.out.trans (KF.below (fun b hb=>by omega) HB1.out.size)⟩
  have hemp:(R.toList==[])=false:=Ss1.eql_false (by rw [hR,tl_bs];exact hr)
  have HRN:Hid (rl≠[]):=hr
  have HC:Hid _:=iCut 10 R wr (HT.out.below HB.out) (by have h1:=HA.out.le;rw [hR,bs_size];omega)
  rw [show tl R=rl by rw [hR,tl_bs]] at HC
  obtain ⟨T1,hT1⟩:∃ X,X=bs (cutF 10 rl):=⟨_,rfl⟩
  obtain ⟨R2,hR2⟩:∃ X,X=bs (cutS 10 rl):=⟨_,rfl⟩
  have HT1:Hid (T1=bs (cutF 10 rl)):=hT1
  have HR2:Hid (R2=bs (cutS 10 rl)):=hR2
  rw [<- hT1,<- hR2] at HC
  clear hR hr hT1 hR2
  go_wp2_with fail
  refine Calls.mono HC.out ?_
  rintro e w1 ⟨⟨cb,rfl⟩,hb1⟩
  have HB1:Hid (Below w.heap.size w w1):=HB.out.trans (hb1.mono HB.out.size)
  have HD1:Hid (Ld w1 (w.heap.size+1) m ra va ma rc vc mc u1 u2):=HD.out.below hb1
  have HZ1:Hid (Mf w1 w.heap.size [.slice none 0 0,.int .i64 0,.string ⟨#[]⟩,.int .i64 0,.slice none 0 0,.int .i64 0,.bool false,.int .i64 0,.int .i64 0,.int .i64 0,.slice none 0 0]):=HZ.out.below hb1
  have hk9:k<=400000:=by have:=HA.out.le;omega
  clear hb1 hemp HC HB HD HZ
  go_wp2_with fail
  refine (iLineAt k (by omega) w1).mono ?_
  rintro e w2 ⟨v,rfl,hlv,hb2⟩
  have HB2:Hid (Below w.heap.size w w2):=HB1.out.trans (hb2.mono HB1.out.size)
  have HD2:Hid (Ld w2 (w.heap.size+1) m ra va ma rc vc mc u1 u2):=HD1.out.below hb2
  have HZ2:Hid (Mf w2 w.heap.size [.slice none 0 0,.int .i64 0,.string ⟨#[]⟩,.int .i64 0,.slice none 0 0,.int .i64 0,.bool false,.int .i64 0,.int .i64 0,.int .i64 0,.slice none 0 0]):=HZ1.out.below hb2
  have HTK:Hid (Calls Tryz.prog 87 #[v,.pointer (some ⟨w.heap.size+1,0,none⟩),.string T1] w2 (TkO w2 (w.heap.size+1) ma (tkL k m (cutF 10 rl)))):=by
   rw [HT1.out]
   exact iTake w2 _ m ra va ma rc vc mc u1 u2 HD2.out _ (by have:=HA.out.le;have:=cutF_le 10 rl;omega) (HT.out.below HB2.out) k hk9 HA.out.st v hlv
  clear hb2 hlv HB1 HD1 HZ1
  go_wp2_with fail
  refine Calls.mono HTK.out ?_
  rintro e w3 ⟨hno,hyes,hk3⟩
  have HGE:Hid (∀ b,(b=w.heap.size+1\/At ma b)->w.heap.size < b):=fun b hb=>by
   rcases hb with hb|hb
   ·omega
   ·have:=memo_ge HD2.out b hb;omega
  have HB3:Hid (Below w.heap.size w w3):=HB2.out.trans (hk3.below (fun b hb=>Nat.le_of_lt (HGE.out b hb)) HB2.out.size)
  have HZ3:Hid (Mf w3 w.heap.size [.slice none 0 0,.int .i64 0,.string ⟨#[]⟩,.int .i64 0,.slice none 0 0,.int .i64 0,.bool false,.int .i64 0,.int .i64 0,.int .i64 0,.slice none 0 0]):=HZ2.out.kept hk3 (fun hb=>by have:=HGE.out _ hb;omega)
  clear hk3 HTK HGE
  cases htk:tkL k m (cutF 10 rl) with
  | none =>
    have HP:Hid (ldP s=none):=ld_rd0 (HA.out.no HRN.out htk)
    obtain ⟨x,rfl⟩:=hno htk
    clear hno hyes htk hk9
    obtain ⟨d0,d1,d2,d3,d4,d5,d6,d7,d8,d9,d10,z0,z1,z2,z3,z4,z5,z6,z7,z8,z9,z10⟩:=HZ3.out.all
    go_wp2
    clear d0 d1 d2 d3 d4 d5 d6 d7 d8 d9 d10 z0 z1 z2 z3 z4 z5 z6 z7 z8 z9 z10
    obtain ⟨WF,hWF⟩:∃ WF,WF=(((((((((((w3).setCell ⟨w.heap.size,0,none⟩ (.slice none 0 0)).setCell ⟨w.heap.size,1,none⟩ (.int .i64 0)).setCell ⟨w.heap.size,2,none⟩ (.string ⟨#[]⟩)).setCell ⟨w.heap.size,3,none⟩ (.int .i64 0)).setCell ⟨w.heap.size,4,none⟩ (.slice none 0 0)).setCell ⟨w.heap.size,5,none⟩ (.int .i64 0)).setCell ⟨w.heap.size,6,none⟩ (.bool false)).setCell ⟨w.heap.size,7,none⟩ (.int .i64 0)).setCell ⟨w.heap.size,8,none⟩ (.int .i64 0)).setCell ⟨w.heap.size,9,none⟩ (.int .i64 0)).setCell ⟨w.heap.size,10,none⟩ (.slice none 0 0):=⟨_,rfl⟩
    rw [<- hWF]
    have KF:Kept (fun b=>b=w.heap.size) w3 WF:=by rw [hWF];exact ((((((((((((Kept.refl (fun b=>b=w.heap.size) w3).setCell (p:=⟨w.heap.size,0,none⟩) rfl _).setCell (p:=⟨w.heap.size,1,none⟩) rfl _).setCell (p:=⟨w.heap.size,2,none⟩) rfl _).setCell (p:=⟨w.heap.size,3,none⟩) rfl _).setCell (p:=⟨w.heap.size,4,none⟩) rfl _).setCell (p:=⟨w.heap.size,5,none⟩) rfl _).setCell (p:=⟨w.heap.size,6,none⟩) rfl _).setCell (p:=⟨w.heap.size,7,none⟩) rfl _).setCell (p:=⟨w.heap.size,8,none⟩) rfl _).setCell (p:=⟨w.heap.size,9,none⟩) rfl _).setCell (p:=⟨w.heap.size,10,none⟩) rfl _)
    have HF:Mf WF w.heap.size [.slice none 0 0,.int .i64 0,.string ⟨#[]⟩,.int .i64 0,.slice none 0 0,.int .i64 0,.bool false,.int .i64 0,.int .i64 0,.int .i64 0,.slice none 0 0]:=by
     rw [hWF]
     exact (((((((((((HZ3.out.set 0 (.slice none 0 0)).set 1 (.int .i64 0)).set 2 (.string ⟨#[]⟩)).set 3 (.int .i64 0)).set 4 (.slice none 0 0)).set 5 (.int .i64 0)).set 6 (.bool false)).set 7 (.int .i64 0)).set 8 (.int .i64 0)).set 9 (.int .i64 0)).set 10 (.slice none 0 0))
    obtain ⟨e0,e1,e2,e3,e4,e5,e6,e7,e8,e9,e10,f0,f1,f2,f3,f4,f5,f6,f7,f8,f9,f10⟩:=HF.all
    exact bodyPost_ret (v:=.tuple #[mval mc0 none none none 0 0 0,rfv x]) (by simp [results,Tryz.results50,go_sem,mc0,e0,e1,e2,e3,e4,e5,e6,e7,e8,e9,e10]) rfl ⟨SmP.no HP.out,HB3.out.trans (KF.below (fun b hb=>by omega) HB3.out.size)⟩
  | some m' =>
    have HN:Hid (At2 s (k+1) m' (cutS 10 rl)):=HA.out.next HL.out HRN.out htk
    obtain ⟨rfl,hld⟩:=hyes m' htk
    have HLD:Hid (∃ ra va ma rc vc mc u1 u2,Ld w3 (w.heap.size+1) m' ra va ma rc vc mc u1 u2):=hld
    clear hno hyes htk hld
    go_wp2
    go_roundw
    case rel =>
     obtain ⟨ra',va',ma',rc',vc',mc',u1',u2',h'⟩:=HLD.out
     exact ⟨k+1,m',cutS 10 rl,T1,ra',va',ma',rc',vc',mc',u1',u2',by go_num,by rw [HR2.out],rfl,HN.out,h',HZ3.out,HB3.out⟩
    case measure=>have:=HA.out.le;have:=HN.out.le;simp [intOf];omega
end Zl10
end Go.Proofs.YtjajkmdoggbicaaGreatDoor
