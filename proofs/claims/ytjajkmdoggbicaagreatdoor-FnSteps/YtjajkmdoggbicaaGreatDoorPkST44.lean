import Derived.Test.YtjajkmdoggbicaaGreatDoorPkST41
import Derived.Test.YtjajkmdoggbicaaGreatDoorMw14
import Derived.Test.YtjajkmdoggbicaaGreatDoorMw15
import Derived.Test.YtjajkmdoggbicaaGreatDoorPkST35
import Derived.Test.YtjajkmdoggbicaaGreatDoorPkST22
namespace Go.Proofs.YtjajkmdoggbicaaGreatDoor
set_option maxRecDepth 100000
set_option maxHeartbeats 8000000
set_option linter.unusedVariables false
namespace Mw20
open Go.RowKit
open Nd0 (Kept Ints lt_of_cell At)
open Ap0 Ap1 Qc0 Cp0 Mm0 Mx0 Mu1 Mu2 Mu6 Mu8 Mw0 Mw6 Mw7 Mw9 Mw14 Mw15 Mw16 Mw17 Mw19 Ms0 Tk0
open Mi4 (iMachineOk)
open Mm2 (mokB)
open Ta1 Mi1
open Ss0 (bs bs_size)
open Ss1 (tl)
/-- A machine whose lists lie in blocks of its own, from B on; what it remembers may begin inside its block. -/
structure PO (W:World) (B:Nat) (m:Mc) (ra va ma:Option Addr) (rc vc mc:Nat):Prop where
 row:Owb W B (.slice ra m.row.length rc) m.row
 vals:Ows W B (.slice va m.vals.length vc) m.vals
 memo:OwSo W B (.slice ma m.memo.length mc) m.memo
 rv:∀ k,At ra k->¬ At va k
 rm:∀ k,At ra k->¬ At ma k
 vm:∀ k,At va k->¬ At ma k
theorem so_mono {w:World} {B B':Nat} {v:Value} {l:List Sn} (h:OwSo w B v l) (hB:B'<=B):OwSo w B' v l:=by
 rcases h with e|⟨g,o,cap,e,hb,r⟩
 ·exact .inl e
 ·exact .inr ⟨g,o,cap,e,by omega,r⟩
theorem PO.of {W:World} {B:Nat} {m:Mc} {ra va ma:Option Addr} {rc vc mc:Nat} (h:MO W B m ra va ma rc vc mc):PO W B m ra va ma rc vc mc :=
 ⟨h.row,h.vals,OwSo.of h.memo,fun k hr hv=>by obtain ⟨x,hx,rfl⟩:=hr;obtain ⟨y,hy,e⟩:=hv;exact h.rv x y hx hy e,fun k hr hv=>by obtain ⟨x,hx,rfl⟩:=hr;obtain ⟨y,hy,e⟩:=hv;exact h.rm x y hx hy e,fun k hr hv=>by obtain ⟨x,hx,rfl⟩:=hr;obtain ⟨y,hy,e⟩:=hv;exact h.vm x y hx hy e⟩
theorem PO.kept {W W':World} {B:Nat} {m:Mc} {ra va ma:Option Addr} {rc vc mc:Nat} (h:PO W B m ra va ma rc vc mc) {S:Nat->Prop} (k:Kept S W W') (h1:∀ b,At ra b->¬ S b) (h2:∀ b,At va b->¬ S b) (h3:∀ b,At ma b->¬ S b):PO W' B m ra va ma rc vc mc :=
 ⟨h.row.kept k (fun i hi=>h1 i (at_own hi)),h.vals.kept k (fun i hi=>h2 i (at_own hi)),h.memo.kept k (fun g o n c e=>h3 g (by cases e;exact ⟨_,rfl,rfl⟩)),h.rv,h.rm,h.vm⟩
theorem PO.below {W W':World} {B:Nat} {m:Mc} {ra va ma:Option Addr} {rc vc mc:Nat} (h:PO W B m ra va ma rc vc mc) (k:Below W.heap.size W W'):PO W' B m ra va ma rc vc mc:=h.kept (S:=fun _=>False) (Kept.ofBelow k) (fun _ _ h=>h) (fun _ _ h=>h) (fun _ _ h=>h)
theorem PO.mono {W:World} {B B':Nat} {m:Mc} {ra va ma:Option Addr} {rc vc mc:Nat} (h:PO W B m ra va ma rc vc mc) (hB:B'<=B):PO W B' m ra va ma rc vc mc:=⟨ob_mono h.row hB,oi_mono h.vals hB,so_mono h.memo hB,h.rv,h.rm,h.vm⟩
theorem PO.mr {W:World} {B:Nat} {m:Mc} {ra va ma:Option Addr} {rc vc mc:Nat} (h:PO W B m ra va ma rc vc mc):Mr W m ra va ma:=by
 obtain ⟨a1,c1,e1,f1⟩:=h.row.form
 obtain ⟨a2,c2,e2,f2⟩:=h.vals.form
 obtain ⟨a3,c3,e3,f3,_⟩:=h.memo.form
 cases e1
 cases e2
 cases e3
 exact ⟨Nd6.WBools.plain f1,f2.ints,f3.plain⟩
theorem PO.ge {W:World} {B:Nat} {m:Mc} {ra va ma:Option Addr} {rc vc mc:Nat} (h:PO W B m ra va ma rc vc mc) {k:Nat} (hk:At ra k\/At va k\/At ma k):B<=k/\k < W.heap.size:=by
 rcases hk with e|e|e
 ·exact h.row.lt k (own_at e)
 ·exact h.vals.lt k (own_at e)
 ·exact os_ge h.memo e
theorem Wk.po {W1 W:World} {p bm:Nat} {m:Mc} {ra va ma:Option Addr} {rc vc mc:Nat} (h:Wk W1 p bm W m ra va ma rc vc mc):PO W W1.heap.size m ra va ma rc vc mc:=⟨h.row,h.vals,h.memo,h.rv,h.rm,h.vm⟩
theorem Wk.below {W1 W W':World} {p bm:Nat} {m:Mc} {ra va ma:Option Addr} {rc vc mc:Nat} (h:Wk W1 p bm W m ra va ma rc vc mc) (k:Below W.heap.size W W'):Wk W1 p bm W' m ra va ma rc vc mc:=h.only (Kept.ofBelow k) (h.sb.below k) rfl rfl rfl
/-- i steps. -/
def itM (n:Nat) (F:Nat->Bool) (m:Mc):Nat->Mc
 | 0=>m
 | k+1=>stepM n F (itM n F m k)
theorem stop_not {m:Mc} (h:stopB m=false):m.over=false/\m.steps≠1000000000/\m.looks≠1000000000/\m.hits≠1000000000:=by
 unfold stopB inB at h
 simp at h
 obtain ⟨h1,h2,h3,h4⟩:=h
 exact ⟨h1,fun e=>h2 e.symm,fun e=>h3 e.symm,fun e=>h4 e.symm⟩
theorem stop_yes {m:Mc} (h:stopB m=true):m.over=true\/m.steps=1000000000\/m.looks=1000000000\/m.hits=1000000000:=by
 unfold stopB inB at h
 simp at h
 rcases h with h|h|h|h
 ·exact .inl h
 ·exact .inr (.inl h.symm)
 ·exact .inr (.inr (.inl h.symm))
 ·exact .inr (.inr (.inr h.symm))
theorem it_succ (n:Nat) (F:Nat->Bool) (m:Mc) (k:Nat):itM n F m (k+1)=itM n F (stepM n F m) k:=by
 induction k with
 | zero=>rfl
 | succ k ih =>
   show stepM n F (itM n F m (k+1))=stepM n F (itM n F (stepM n F m) k)
   rw [ih]
theorem run_still {n:Nat} {F:Nat->Bool} {m:Mc} (h:stepM n F m=m) (k:Nat):runM n F k m=m:=by
 induction k with
 | zero=>rfl
 | succ k ih =>
   by_cases e:m.over=true\/1000000000<=m.looks\/1000000000<=m.hits
   ·exact runM_stop e _
   ·rw [runM_next e,h,ih]
theorem run_stopped {n:Nat} {F:Nat->Bool} {m:Mc} (h:stopB m=true) (k:Nat):runM n F k m=m:=by
 rcases stop_yes h with e|e|e|e
 ·exact runM_stop (.inl e) _
 ·exact run_still (by unfold stepM;exact if_pos (.inr (by omega))) k
 ·exact runM_stop (.inr (.inl (by omega))) _
 ·exact runM_stop (.inr (.inr (by omega))) _
/-- A right machine of a right table. -/
structure Rm (n:Nat) (F:Nat->Bool) (m:Mc):Prop where
 hN:m.N=(n:Int)
 hS:m.S=bs (tab n F)
 ok:Mok m
theorem Rm.step {n:Nat} {F:Nat->Bool} {m:Mc} (h:Rm n F m) (hs:stopB m=false):Rm n F (stepM n F m):=by
 obtain ⟨h1,h2,h3,h4⟩:=stop_not hs
 have hl:=h.ok.looks
 have hh:=h.ok.hits
 obtain ⟨k1,k2,k3,_,_⟩:=step_ok (F:=F) h.ok h.hN (by omega) (by omega)
 exact ⟨k2.trans h.hN,k3.trans h.hS,k1⟩
theorem run_it {n:Nat} {F:Nat->Bool} {m:Mc} (ok:Rm n F m) (N k:Nat) (hk:k<=N) (hs:k=N\/stopB (itM n F m k)=true) (hp:∀ t,t < k->stopB (itM n F m t)=false):itM n F m k=runM n F N m:=by
 induction k generalizing m N with
 | zero =>
   rcases hs with e|e
   ·subst e;rfl
   ·exact (run_stopped e N).symm
 | succ k ih =>
   have h0:=hp 0 (by omega)
   obtain ⟨N',rfl⟩:∃ N',N=N'+1:=⟨N - 1,by omega⟩
   obtain ⟨g1,g2,g3,g4⟩:=stop_not h0
   have g1':m.over=false:=g1
   have g3':m.looks≠1000000000:=g3
   have g4':m.hits≠1000000000:=g4
   have hl:=ok.ok.looks
   have hh:=ok.ok.hits
   rw [it_succ,runM_next (by rw [g1'];intro e;rcases e with e|e|e;(cases e);(omega);(omega))]
   refine ih (ok.step h0) N' (by omega) ?_ fun t ht=>?_
   ·rcases hs with e|e
    ·exact .inl (by omega)
    ·exact .inr (by rw [<- it_succ];exact e)
   ·rw [<- it_succ];exact hp (t+1) (by omega)
theorem rm_all {n:Nat} {F:Nat->Bool} {m:Mc} (ok:Rm n F m) (i:Nat) (hp:∀ t,t < i->stopB (itM n F m t)=false):Rm n F (itM n F m i):=by
 induction i with
 | zero=>exact ok
 | succ i ih=>exact (ih fun t ht=>hp t (by omega)).step (hp i (by omega))
/-- What stands in the loop of MachineRun. -/
def Inv (n:Nat) (F:Nat->Bool) (m:Mc) (W1:World) (p i:Nat) (W:World):Prop :=
 Rm n F (itM n F m i)/\∃ bm ra va ma rc vc mc,Wk W1 p bm W (itM n F m i) ra va ma rc vc mc
theorem sb_same {W:World} {p bm bm':Nat} {m:Mc} {ra va ma ra' va' ma':Option Addr} {rc vc mc rc' vc' mc':Nat} (h:Sb W p m ra va ma rc vc mc bm) (k:Sb W p m ra' va' ma' rc' vc' mc' bm'):ra=ra'/\va=va'/\ma=ma'/\rc=rc'/\vc=vc'/\mc=mc':=by
 have a0:=h.all.c0
 have b0:=k.all.c0
 rw [a0] at b0
 have a4:=h.all.c4
 have b4:=k.all.c4
 rw [a4] at b4
 have a10:=h.all.c10
 have b10:=k.all.c10
 rw [a10] at b10
 injection b0 with b0
 injection b0 with e1 e2 e3
 injection b4 with b4
 injection b4 with e4 e5 e6
 injection b10 with b10
 injection b10 with e7 e8 e9
 exact ⟨e1,e4,e7,e3,e6,e9⟩
/-- What MachineRun of a right machine comes to. -/
def RunOut (w:World) (M:Mc) (e:Ending) (w':World):Prop:=∃ ra va ma rc vc mc,e=.returned (mval M ra va ma rc vc mc)/\PO w' w.heap.size M ra va ma rc vc mc/\Below w.heap.size w w'
theorem iRun (n:Nat) (F:Nat->Bool) (m:Mc) (ra va ma:Option Addr) (rc vc mc N:Nat) (w:World) (hn:n<=12) (ok:Rm n F m) (hN:N<=100000) (hR:Mr w m ra va ma) (hk:∀ x∈m.memo,x.k.size<=maxLen) (hT:TabK w) :
 Calls Tryz.prog 8 #[mval m ra va ma rc vc mc,.int .i64 (N:Int)] w (RunOut w (runM n F N m)):=by
 have hsz:m.S.size<=1048576:=by
  rw [ok.hS,bs_size,tab_length]
  have:=(p12 hn).2
  omega
 have o:=ok.ok
 have h1:=o.row
 have h2:=o.vals
 have h3:=o.memo
 have h4:=o.room
 have h5:=ok.hN
 refine (iRunOk w N hN m ra va ma rc vc mc (Inv n F m) (fun i=>stopB (itM n F m i)) (itM n F m) (fun W hb=>?_) (fun W hb=>?_) (fun W1 p i W hi=>?_) (fun W1 p i W hi=>?_) (fun W1 p i W hi hs=>?_) (fun W1 p i W hi=>?_)).mono ?_
 ·have:=iMachineOk m ra va ma rc vc mc W hsz (hR.below hb) hk
  rwa [(mok_iff m).2 o] at this
 ·refine (iNew W m ra va ma rc vc mc (hR.below hb) (by omega) (by omega) (by omega) hk o.seen).mono ?_
  rintro e w' ⟨p,ra',va',ma',rc',vc',mc',bm,rfl,hsb,hmo,hms,hsx,hbl⟩
  rw [(cnt_apart m.memo).2 o.keys,says_sg m.memo o.seen o.keys] at hms
  have po:=PO.of hmo
  refine ⟨p,rfl,ok,bm,ra',va',ma',rc',vc',mc',hbl,hT.below hb,hk,hsb,po.row,po.vals,po.memo,hms,hsx.hp,hsx.hb,hsx.hn,?_,?_,?_,?_,?_,?_,po.rv,po.rm,po.vm⟩
  ·rintro ⟨x,hx,e⟩;exact (hsx.r x hx).1 e.symm
  ·rintro ⟨x,hx,e⟩;exact (hsx.r x hx).2 e.symm
  ·rintro ⟨x,hx,e⟩;exact (hsx.v x hx).1 e.symm
  ·rintro ⟨x,hx,e⟩;exact (hsx.v x hx).2 e.symm
  ·rintro ⟨x,hx,e⟩;exact (hsx.mm x hx).1 e.symm
  ·rintro ⟨x,hx,e⟩;exact (hsx.mm x hx).2 e.symm
 ·obtain ⟨hr,bm,ra',va',ma',rc',vc',mc',h⟩:=hi
  exact h.fr
 ·obtain ⟨hr,bm,ra',va',ma',rc',vc',mc',h⟩:=hi
  refine (iStopped W p (itM n F m i) ra' va' ma' rc' vc' mc' bm h.sb).mono ?_
  rintro e w' ⟨rfl,hb⟩
  exact ⟨rfl,hr,bm,ra',va',ma',rc',vc',mc',Wk.below h hb⟩
 ·obtain ⟨hr,bm,ra',va',ma',rc',vc',mc',h⟩:=hi
  obtain ⟨g1,g2,g3,g4⟩:=stop_not hs
  have a1:=hr.ok.steps
  have a2:=hr.ok.looks
  have a3:=hr.ok.hits
  refine (step_wk n F W1 W p bm (itM n F m i) ra' va' ma' rc' vc' mc' hn hr.hN hr.hS hr.ok h g1 (by omega) (by omega) (by omega)).mono ?_
  rintro e w' ⟨rfl,va2,ma2,vc2,mc2,h2⟩
  exact ⟨rfl,hr.step hs,bm,ra',va2,ma2,rc',vc2,mc2,h2⟩
 ·obtain ⟨hr,bm,ra',va',ma',rc',vc',mc',h⟩:=hi
  exact ⟨ra',va',ma',rc',vc',mc',bm,h.sb⟩
 ·rintro e w' ⟨k,p,ra',va',ma',rc',vc',mc',bm,W1,w2,rfl,hb1,hs1,hk1,hst,hpast,⟨hr,bm2,ra2,va2,ma2,rc2,vc2,mc2,h⟩,hsb,hkp⟩
  obtain ⟨rfl,rfl,rfl,rfl,rfl,rfl⟩:=sb_same hsb h.sb
  have po:=Wk.po h
  have hne:∀ b,W1.heap.size<=b->¬ b=w.heap.size+1:=fun b hb=>by omega
  refine ⟨ra',va',ma',rc',vc',mc',?_,?_,?_⟩
  ·rw [run_it ok N k hk1 hst hpast]
  ·rw [<- run_it ok N k hk1 hst hpast]
   exact (po.kept hkp (fun b hb=>hne b (po.ge (.inl hb)).1) (fun b hb=>hne b (po.ge (.inr (.inl hb))).1) (fun b hb=>hne b (po.ge (.inr (.inr hb))).1)).mono (by omega)
  ·exact (hb1.trans (h.fr.mono hb1.size)).trans (hkp.below (fun b hb=>by omega) (by have:=hb1.size;have:=h.fr.size;omega))
theorem iCopyO (w:World) (m:Mc) (ra va ma:Option Addr) (rc vc mc:Nat) (hR:Mr w m ra va ma) (hr:m.row.length<=1048576) (hv:m.vals.length<=1048576) (hm:m.memo.length<=1048576) :
 Calls Tryz.prog 23 #[mval m ra va ma rc vc mc] w fun e w'=>∃ ra' va' ma' rc' vc' mc',e=.returned (mval m ra' va' ma' rc' vc' mc')/\PO w' w.heap.size m ra' va' ma' rc' vc' mc'/\Below w.heap.size w w':=by
 refine (iCopied w m ra va ma rc vc mc hR hr hv hm).mono ?_
 rintro _ x1 ⟨ra',va',ma',rc',vc',mc',U1,U2,rfl,hu0,hu1,hu2,ho1,hl1,ho2,hl2,ho3,hb1⟩
 have l2:=ho2.lt
 have l3:=ho3.lt
 refine ⟨ra',va',ma',rc',vc',mc',rfl,⟨ho1,oi_mono ho2 (by omega),so_mono (OwSo.of ho3) (by omega),?_,?_,?_⟩,hb1⟩
 ·rintro k ⟨x,hx,rfl⟩ hv
  have a:=hl1 x hx
  have b:=l2 _ (own_at hv)
  omega
 ·rintro k ⟨x,hx,rfl⟩ hv
  have a:=hl1 x hx
  have b:=l3 _ (own_at hv)
  omega
 ·rintro k ⟨x,hx,rfl⟩ hv
  have a:=hl2 x hx
  have b:=l3 _ (own_at hv)
  omega
theorem iRunBad (w:World) (N:Int) (m:Mc) (ra va ma:Option Addr) (rc vc mc:Nat) (hS:m.S.size<=1048576) (hR:Mr w m ra va ma) (hr:m.row.length<=1048576) (hv:m.vals.length<=1048576) (hm:m.memo.length<=1048576) (hk:∀ x∈m.memo,x.k.size<=maxLen) (hno:¬ (mokB m=true/\0<=N/\N<=100000)) :
 Calls Tryz.prog 8 #[mval m ra va ma rc vc mc,.int .i64 N] w (RunOut w m):=by
 have fin:∀ e w',(∃ ra' va' ma' rc' vc' mc' W w2,e=Ending.returned (mval m ra' va' ma' rc' vc' mc')/\Below w.heap.size w W/\w.heap.size+2<=W.heap.size/\PO w2 W.heap.size m ra' va' ma' rc' vc' mc'/\Below W.heap.size W w2/\Kept (fun b=>b=w.heap.size+1) w2 w')->RunOut w m e w':=by
  rintro e w' ⟨ra',va',ma',rc',vc',mc',W,w2,rfl,hb1,hs1,po,hb2,hkp⟩
  have hne:∀ b,W.heap.size<=b->¬ b=w.heap.size+1:=fun b hb=>by omega
  exact ⟨ra',va',ma',rc',vc',mc',rfl,(po.kept hkp (fun b hb=>hne b (po.ge (.inl hb)).1) (fun b hb=>hne b (po.ge (.inr (.inl hb))).1) (fun b hb=>hne b (po.ge (.inr (.inr hb))).1)).mono (by omega),(hb1.trans (hb2.mono hb1.size)).trans (hkp.below (fun b hb=>by omega) (by have:=hb1.size;have:=hb2.size;omega))⟩
 have cp:∀ W,Below w.heap.size w W->Calls Tryz.prog 23 #[mval m ra va ma rc vc mc] W fun e w'=>∃ ra' va' ma' rc' vc' mc',e=.returned (mval m ra' va' ma' rc' vc' mc')/\PO w' W.heap.size m ra' va' ma' rc' vc' mc'/\Below W.heap.size W w':=fun W hb=>iCopyO W m ra va ma rc vc mc (hR.below hb) hr hv hm
 by_cases h1:N < 0
 ·exact (iRunLow w N m ra va ma rc vc mc (fun ra va ma rc vc mc W w'=>PO w' W.heap.size m ra va ma rc vc mc) h1 cp).mono fin
 by_cases h2:100000 < N
 ·exact (iRunHigh w N m ra va ma rc vc mc (fun ra va ma rc vc mc W w'=>PO w' W.heap.size m ra va ma rc vc mc) h1 h2 cp).mono fin
 have hf:mokB m=false:=by
  cases e:mokB m
  ·rfl
  ·exact absurd ⟨e,by omega,by omega⟩ hno
 exact (iRunNot w N m ra va ma rc vc mc (fun ra va ma rc vc mc W w'=>PO w' W.heap.size m ra va ma rc vc mc) h1 h2 (fun W hb=>by
  have:=iMachineOk m ra va ma rc vc mc W hS (hR.below hb) hk
  rwa [hf] at this) cp).mono fin
/-- What MachineStep comes to. -/
def stM (n:Nat) (F:Nat->Bool) (m:Mc):Mc:=if 1000000000<=m.looks\/1000000000<=m.hits then m else stepM n F m
theorem run_one (n:Nat) (F:Nat->Bool) (m:Mc):runM n F 1 m=stM n F m:=by
 unfold stM
 by_cases h:m.over=true\/1000000000<=m.looks\/1000000000<=m.hits
 ·rw [runM_stop h]
  by_cases h2:1000000000<=m.looks\/1000000000<=m.hits
  ·rw [if_pos h2]
  ·rw [if_neg h2]
   have ho:m.over=true:=by rcases h with e|e;(exact e);(exact absurd e h2)
   unfold stepM
   rw [if_pos (.inl ho)]
 ·rw [runM_next h,if_neg (fun e=>h (.inr e))]
  rfl
theorem iStepOf (w:World) (m M:Mc) (ra va ma:Option Addr) (rc vc mc:Nat) (hR:∀ W,Below w.heap.size w W->Calls Tryz.prog 8 #[mval m ra va ma rc vc mc,.int .i64 1] W (RunOut W M)) :
 Calls Tryz.prog 16 #[mval m ra va ma rc vc mc] w (RunOut w M):=by
 refine (iMStep w m ra va ma rc vc mc (fun m' ra va ma rc vc mc W w'=>m'=M/\PO w' W.heap.size M ra va ma rc vc mc) (fun W hb=>(hR W hb).mono ?_)).mono ?_
 ·rintro e w' ⟨ra',va',ma',rc',vc',mc',rfl,po,hb2⟩
  exact ⟨M,ra',va',ma',rc',vc',mc',rfl,⟨rfl,po⟩,hb2⟩
 ·rintro e w' ⟨m',ra',va',ma',rc',vc',mc',W,w2,rfl,hb1,hs1,⟨rfl,po⟩,hb2,hkp⟩
  have hne:∀ b,W.heap.size<=b->¬ b=w.heap.size+1:=fun b hb=>by omega
  exact ⟨ra',va',ma',rc',vc',mc',rfl,(po.kept hkp (fun b hb=>hne b (po.ge (.inl hb)).1) (fun b hb=>hne b (po.ge (.inr (.inl hb))).1) (fun b hb=>hne b (po.ge (.inr (.inr hb))).1)).mono (by omega),(hb1.trans (hb2.mono hb1.size)).trans (hkp.below (fun b hb=>by omega) (by have:=hb1.size;have:=hb2.size;omega))⟩
end Mw20
namespace Sq1
open Go.RowKit
open Ta0 Ta1 Tc2 Tdw Ap0 Ap1 Ddr Mm0 Mx0 Mu2 Mu6 Mu8 Rd0 Rdp
open Nd0 (Kept set_same set_other lt_of_cell)
open Nd6 (Bools BoolsIn)
open Dr0 (Cur Only Bytes)
open Ss0 (bs bs_size)
open Ss1 (tl)
open Sa0 (startM)
set_option linter.unusedSimpArgs false
/-- A machine of n bits, its table F, some steps behind its start. -/
structure Rn (n:Nat) (F:Nat->Bool) (m:Mc):Prop where
 n6:n<=6
 is:∃ (row:List Bool) (room:Nat) (k:Nat),row.length=n/\room<=20/\k < 60/\m=runM n F k (startM row (n:Int) (bs (tab n F)) (room:Int))/\Iv n F row (room:Int) m
def RnP (w:World) (e:Ending) (w':World):Prop :=
 ∃ (n:Nat) (F:Nat->Bool) (m:Mc) (ra va ma:Option Addr) (rc vc mc:Nat),e=.returned (mval m ra va ma rc vc mc)/\Rn n F m/\Mr w' m ra va ma/\Below w.heap.size w w'
theorem drawRun (w:World) (a:Option Addr) (len cap:Nat) (hb:Bytes w a len) :
 Calls Tryz.prog 6 #[.slice a len cap] w (RnP w):=by
 obtain ⟨W0,hW0⟩:∃ W,W=w.alloc (.cells #[.slice none 0 0,.int .i64 0,.string ⟨#[]⟩,.int .i64 0,.slice none 0 0,.int .i64 0,.bool false,.int .i64 0,.int .i64 0,.int .i64 0,.slice none 0 0] 30):=⟨_,rfl⟩
 have HE0:Hid (w.alloc (.cells #[.slice none 0 0,.int .i64 0,.string ⟨#[]⟩,.int .i64 0,.slice none 0 0,.int .i64 0,.bool false,.int .i64 0,.int .i64 0,.int .i64 0,.slice none 0 0] 30)=W0):=hW0.symm
 have hb0:Below w.heap.size w W0:=by rw [hW0];exact (Below.refl _ _).alloc (Nat.le_refl _) _
 have HB0:Hid (Below w.heap.size w W0):=hb0
 have HM0:Hid (Mf W0 w.heap.size [.slice none 0 0,.int .i64 0,.string ⟨#[]⟩,.int .i64 0,.slice none 0 0,.int .i64 0,.bool false,.int .i64 0,.int .i64 0,.int .i64 0,.slice none 0 0]):=by rw [hW0];exact Mf.made _ _ _
 have HBY:Hid (Bytes W0 a len):=hb.below hb0
 have hsz0:W0.heap.size=w.heap.size+1:=by rw [hW0];simp
 clear hW0 hb hb0
 obtain ⟨r,hr⟩:∃ r,r=w.heap.size:=⟨_,rfl⟩
 rw [<- hr] at HM0
 have HRW:Hid (r=w.heap.size):=hr
 go_enter Tryz.func6,Tryz.ntmps6
 go_wp2_with fail
 rw [HE0.out,<- hr]
 clear HE0 hr
 refine (Dr4.new _ a len cap HBY.out).mono ?_
 rintro e wc ⟨rfl,hcc,hbc⟩
 have HC0:Hid (Cur wc W0.heap.size a len cap):=hcc
 have HBC:Hid (Below w.heap.size w wc):=HB0.out.trans (hbc.mono HB0.out.size)
 have HMC:Hid (Mf wc r [.slice none 0 0,.int .i64 0,.string ⟨#[]⟩,.int .i64 0,.slice none 0 0,.int .i64 0,.bool false,.int .i64 0,.int .i64 0,.int .i64 0,.slice none 0 0]):=HM0.out.below hbc
 obtain ⟨b,hb⟩:∃ b,b=W0.heap.size:=⟨_,rfl⟩
 rw [<- hb] at HC0 ⊢
 have HBB:Hid (b=w.heap.size+1):=hb.trans hsz0
 clear hcc hbc hb hsz0 HB0 HM0 HBY
 go_wp2_with fail
 refine (Rd0.start _ b a len cap HC0.out).mono ?_
 rintro e w1 ⟨⟨n,F,m0,g,c,rfl,hdm,⟨B1,U1,hB1,hbi⟩,hv0,hm0⟩,hc1,ho1⟩
 have HC1:Hid (Cur w1 b a len cap):=hc1
 have HO1:Hid (Below w.heap.size w w1):=HBC.out.trans ((kept_of_only ho1).below (fun k (e:k=b)=>by have:=HBB.out;omega) HBC.out.size)
 have HM1:Hid (Mf w1 r [.slice none 0 0,.int .i64 0,.string ⟨#[]⟩,.int .i64 0,.slice none 0 0,.int .i64 0,.bool false,.int .i64 0,.int .i64 0,.int .i64 0,.slice none 0 0]):=HMC.out.kept (kept_of_only ho1) (fun h=>by have h':r=b:=h;have:=HRW.out;have:=HBB.out;omega)
 have HBI:Hid (BoolsIn w1 B1 U1 (some ⟨g,0,none⟩) m0.row):=hbi
 have HB1:Hid (b < B1):=by have:=HC0.out.lt;show b < B1;omega
 have HV0:Hid (m0.vals=[]/\m0.memo=[]):=⟨hv0,hm0⟩
 have HDM:Hid (Dm m0 n F):=hdm
 clear hc1 ho1 HC0 HBC HMC hbi hB1 hv0 hm0 hdm
 go_wp2_with fail
 refine (Dr1.below _ b a len cap 60 (by omega) (by omega) HC1.out).mono ?_
 rintro e w2 ⟨⟨x,rfl,hx0,hx1⟩,hc2,ho2⟩
 obtain ⟨k,rfl⟩:=Int.eq_ofNat_of_zero_le hx0
 have HB2:Hid (Below w.heap.size w w2):=HO1.out.trans ((kept_of_only ho2).below (fun k (e:k=b)=>by have:=HBB.out;omega) HO1.out.size)
 have HM2:Hid (Mf w2 r [.slice none 0 0,.int .i64 0,.string ⟨#[]⟩,.int .i64 0,.slice none 0 0,.int .i64 0,.bool false,.int .i64 0,.int .i64 0,.int .i64 0,.slice none 0 0]):=HM1.out.kept (kept_of_only ho2) (fun h=>by have h':r=b:=h;have:=HRW.out;have:=HBB.out;omega)
 have hR2:Mr w2 m0 (some ⟨g,0,none⟩) none none:=by
  refine ⟨(HBI.out.kept (kept_of_only ho2) (fun k h1 h2 h3=>by have h4:k=b:=h3;have:=HB1.out;omega)).plain,?_,?_⟩
  ·rw [HV0.out.1];exact ⟨Nat.zero_le _,.inl rfl⟩
  ·rw [HV0.out.2];exact ⟨Nat.zero_le _,.inl rfl⟩
 obtain ⟨row,room',hm0,hrl,hro0,hro1⟩:=HDM.out.is
 obtain ⟨room,rfl⟩:=Int.eq_ofNat_of_zero_le hro0
 have hn6:=HDM.out.n6
 have hIv0:Iv n F row (room:Int) m0:=by
  refine ⟨by rw [hm0];rfl,by rw [hm0];rfl,HDM.out.ok,by rw [hm0];rfl,by rw [hm0];rfl,?_⟩
  intro x hx
  rw [HV0.out.2] at hx
  cases hx
 have hIv:=iv_run k hIv0
 have HRU:Hid (Calls Tryz.prog 9 #[mval m0 (some ⟨g,0,none⟩) none none c 0 0,.int .i64 (k:Int)] w2 fun e w'=>∃ ra' va' ma' rc' vc' mc',e=.returned (mval (runM n F k m0) ra' va' ma' rc' vc' mc')/\MO w' w2.heap.size (runM n F k m0) ra' va' ma' rc' vc' mc'/\Below w2.heap.size w2 w'):=sRun n F m0 _ _ _ _ _ _ k w2 (by omega) hIv0.hN hIv0.hS hIv0.ok (by omega) hR2
 have HLV:Hid (m0.vals.length=0/\m0.memo.length=0):=by rw [HV0.out.1,HV0.out.2];exact ⟨rfl,rfl⟩
 have HRN:Hid (Rn n F (runM n F k m0)):=⟨hn6,row,room,k,hrl,by omega,by omega,by rw [hm0],hIv⟩
 obtain ⟨m,hm⟩:∃ m,m=runM n F k m0:=⟨_,rfl⟩
 rw [<- hm] at HRU HRN
 clear hm hm0 hrl hro0 hro1 hIv hIv0 hR2 hc2 ho2 HC1 HO1 HM1 HBI HB1 HDM HV0
 have hrw2:r < w2.heap.size:=HM2.out.lt (by simp)
 go_wp2_with fail
 refine Calls.mono HRU.out ?_
 rintro e w3 ⟨ra,va,ma,rc,vc,mc,rfl,hmo,hb3⟩
 have HB3:Hid (Below w.heap.size w w3):=HB2.out.trans (hb3.mono HB2.out.size)
 have HMO:Hid (MO w3 w2.heap.size m ra va ma rc vc mc):=hmo
 have HM3:Hid (Mf w3 r [.slice none 0 0,.int .i64 0,.string ⟨#[]⟩,.int .i64 0,.slice none 0 0,.int .i64 0,.bool false,.int .i64 0,.int .i64 0,.int .i64 0,.slice none 0 0]):=HM2.out.below hb3
 clear hmo hb3 HB2 HM2 HRU
 obtain ⟨r0,r1,r2,r3,r4,r5,r6,r7,r8,r9,r10,z0,z1,z2,z3,z4,z5,z6,z7,z8,z9,z10⟩:=HM3.out.all
 go_wp2
 clear r0 z0 r1 z1 r2 z2 r3 z3 r4 z4 r5 z5 r6 z6 r7 z7 r8 z8 r9 z9 r10 z10
 obtain ⟨WF,hWF⟩:∃ WF,WF=(((((((((((w3).setCell ⟨r,0,none⟩ (.slice ra m.row.length rc)).setCell ⟨r,1,none⟩ (.int .i64 m.N)).setCell ⟨r,2,none⟩ (.string m.S)).setCell ⟨r,3,none⟩ (.int .i64 m.room)).setCell ⟨r,4,none⟩ (.slice va m.vals.length vc)).setCell ⟨r,5,none⟩ (.int .i64 m.ret)).setCell ⟨r,6,none⟩ (.bool m.over)).setCell ⟨r,7,none⟩ (.int .i64 m.steps)).setCell ⟨r,8,none⟩ (.int .i64 m.looks)).setCell ⟨r,9,none⟩ (.int .i64 m.hits)).setCell ⟨r,10,none⟩ (.slice ma m.memo.length mc):=⟨_,rfl⟩
 rw [<- hWF]
 have KF:Kept (fun k=>k=r) w3 WF:=by
  rw [hWF]
  exact (((((((((((Kept.refl (fun k=>k=r) w3).setCell (p:=⟨r,0,none⟩) rfl _).setCell (p:=⟨r,1,none⟩) rfl _).setCell (p:=⟨r,2,none⟩) rfl _).setCell (p:=⟨r,3,none⟩) rfl _).setCell (p:=⟨r,4,none⟩) rfl _).setCell (p:=⟨r,5,none⟩) rfl _).setCell (p:=⟨r,6,none⟩) rfl _).setCell (p:=⟨r,7,none⟩) rfl _).setCell (p:=⟨r,8,none⟩) rfl _).setCell (p:=⟨r,9,none⟩) rfl _).setCell (p:=⟨r,10,none⟩) rfl _
 have hMF:Mf WF r [.slice ra m.row.length rc,.int .i64 m.N,.string m.S,.int .i64 m.room,.slice va m.vals.length vc,.int .i64 m.ret,.bool m.over,.int .i64 m.steps,.int .i64 m.looks,.int .i64 m.hits,.slice ma m.memo.length mc]:=by
  rw [hWF]
  exact (((((((((((HM3.out).set 0 (.slice ra m.row.length rc)).set 1 (.int .i64 m.N)).set 2 (.string m.S)).set 3 (.int .i64 m.room)).set 4 (.slice va m.vals.length vc)).set 5 (.int .i64 m.ret)).set 6 (.bool m.over)).set 7 (.int .i64 m.steps)).set 8 (.int .i64 m.looks)).set 9 (.int .i64 m.hits)).set 10 (.slice ma m.memo.length mc)
 have hMR:Mr WF m ra va ma:=by
  refine (HMO.out.kept KF ?_ ?_ ?_).mr
  ·intro x hx e
   cases hx
   have e':x.block=r:=e
   have:=(HMO.out.row.lt x.block rfl).1
   omega
  ·intro x hx e
   cases hx
   have e':x.block=r:=e
   have:=(HMO.out.vals.lt x.block rfl).1
   omega
  ·intro x hx e
   cases hx
   have e':x.block=r:=e
   have:=(HMO.out.memo.lt x.block rfl).1
   omega
 have hBF:Below w.heap.size w WF:=HB3.out.trans (KF.below (fun k (e:k=r)=>by have:=HRW.out;omega) HB3.out.size)
 obtain ⟨r0,r1,r2,r3,r4,r5,r6,r7,r8,r9,r10,z0,z1,z2,z3,z4,z5,z6,z7,z8,z9,z10⟩:=hMF.all
 exact bodyPost_ret (v:=.agg #[.slice ra m.row.length rc,.int .i64 m.N,.string m.S,.int .i64 m.room,.slice va m.vals.length vc,.int .i64 m.ret,.bool m.over,.int .i64 m.steps,.int .i64 m.looks,.int .i64 m.hits,.slice ma m.memo.length mc]) (by simp [results,Tryz.results6,go_sem,r0,r1,r2,r3,r4,r5,r6,r7,r8,r9,r10]) rfl ⟨n,F,m,ra,va,ma,rc,vc,mc,rfl,HRN.out,hMR,hBF⟩
end Sq1
end Go.Proofs.YtjajkmdoggbicaaGreatDoor
