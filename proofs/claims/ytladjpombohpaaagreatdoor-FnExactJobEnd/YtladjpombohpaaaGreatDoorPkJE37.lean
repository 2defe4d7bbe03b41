import Derived.Test.YtladjpombohpaaaGreatDoorPkJE35
import Derived.Test.YtladjpombohpaaaGreatDoorMw15
namespace Go.Proofs.YtladjpombohpaaaGreatDoor
set_option maxRecDepth 100000
set_option maxHeartbeats 8000000
set_option linter.unusedVariables false
namespace Mw20
open Go.RowKit
open Nd0 (Kept Ints lt_of_cell At)
open Ap0 Ap1 Qc0 Cp0 Mm0 Mx0 Mu1 Mu2 Mu6 Mu8 Mw0 Mw6 Mw7 Mw9 Mw14 Mw15 Mw16 Mw17 Mw19 Ms0 Tk0
open Mi4 (iMachineOk)
open Mm2 (mokB)
open Ta1 Mi1
open Ss0 (bs bs_size)
open Ss1 (tl)
/-- A machine whose lists lie in blocks of its own, from B on; what it remembers may begin inside its block. -/
structure PO (W:World) (B:Nat) (m:Mc) (ra va ma:Option Addr) (rc vc mc:Nat):Prop where
 row:Owb W B (.slice ra m.row.length rc) m.row
 vals:Ows W B (.slice va m.vals.length vc) m.vals
 memo:OwSo W B (.slice ma m.memo.length mc) m.memo
 rv:∀ k,At ra k->¬ At va k
 rm:∀ k,At ra k->¬ At ma k
 vm:∀ k,At va k->¬ At ma k
theorem so_mono {w:World} {B B':Nat} {v:Value} {l:List Sn} (h:OwSo w B v l) (hB:B'<=B):OwSo w B' v l:=by
 rcases h with e|⟨g,o,cap,e,hb,r⟩
 ·exact .inl e
 ·exact .inr ⟨g,o,cap,e,by omega,r⟩
theorem PO.of {W:World} {B:Nat} {m:Mc} {ra va ma:Option Addr} {rc vc mc:Nat} (h:MO W B m ra va ma rc vc mc):PO W B m ra va ma rc vc mc :=
 ⟨h.row,h.vals,OwSo.of h.memo,fun k hr hv=>by obtain ⟨x,hx,rfl⟩:=hr;obtain ⟨y,hy,e⟩:=hv;exact h.rv x y hx hy e,fun k hr hv=>by obtain ⟨x,hx,rfl⟩:=hr;obtain ⟨y,hy,e⟩:=hv;exact h.rm x y hx hy e,fun k hr hv=>by obtain ⟨x,hx,rfl⟩:=hr;obtain ⟨y,hy,e⟩:=hv;exact h.vm x y hx hy e⟩
theorem PO.kept {W W':World} {B:Nat} {m:Mc} {ra va ma:Option Addr} {rc vc mc:Nat} (h:PO W B m ra va ma rc vc mc) {S:Nat->Prop} (k:Kept S W W') (h1:∀ b,At ra b->¬ S b) (h2:∀ b,At va b->¬ S b) (h3:∀ b,At ma b->¬ S b):PO W' B m ra va ma rc vc mc :=
 ⟨h.row.kept k (fun i hi=>h1 i (at_own hi)),h.vals.kept k (fun i hi=>h2 i (at_own hi)),h.memo.kept k (fun g o n c e=>h3 g (by cases e;exact ⟨_,rfl,rfl⟩)),h.rv,h.rm,h.vm⟩
theorem PO.below {W W':World} {B:Nat} {m:Mc} {ra va ma:Option Addr} {rc vc mc:Nat} (h:PO W B m ra va ma rc vc mc) (k:Below W.heap.size W W'):PO W' B m ra va ma rc vc mc:=h.kept (S:=fun _=>False) (Kept.ofBelow k) (fun _ _ h=>h) (fun _ _ h=>h) (fun _ _ h=>h)
theorem PO.mono {W:World} {B B':Nat} {m:Mc} {ra va ma:Option Addr} {rc vc mc:Nat} (h:PO W B m ra va ma rc vc mc) (hB:B'<=B):PO W B' m ra va ma rc vc mc:=⟨ob_mono h.row hB,oi_mono h.vals hB,so_mono h.memo hB,h.rv,h.rm,h.vm⟩
theorem PO.mr {W:World} {B:Nat} {m:Mc} {ra va ma:Option Addr} {rc vc mc:Nat} (h:PO W B m ra va ma rc vc mc):Mr W m ra va ma:=by
 obtain ⟨a1,c1,e1,f1⟩:=h.row.form
 obtain ⟨a2,c2,e2,f2⟩:=h.vals.form
 obtain ⟨a3,c3,e3,f3,_⟩:=h.memo.form
 cases e1
 cases e2
 cases e3
 exact ⟨Nd6.WBools.plain f1,f2.ints,f3.plain⟩
theorem PO.ge {W:World} {B:Nat} {m:Mc} {ra va ma:Option Addr} {rc vc mc:Nat} (h:PO W B m ra va ma rc vc mc) {k:Nat} (hk:At ra k\/At va k\/At ma k):B<=k/\k < W.heap.size:=by
 rcases hk with e|e|e
 ·exact h.row.lt k (own_at e)
 ·exact h.vals.lt k (own_at e)
 ·exact os_ge h.memo e
theorem Wk.po {W1 W:World} {p bm:Nat} {m:Mc} {ra va ma:Option Addr} {rc vc mc:Nat} (h:Wk W1 p bm W m ra va ma rc vc mc):PO W W1.heap.size m ra va ma rc vc mc:=⟨h.row,h.vals,h.memo,h.rv,h.rm,h.vm⟩
theorem Wk.below {W1 W W':World} {p bm:Nat} {m:Mc} {ra va ma:Option Addr} {rc vc mc:Nat} (h:Wk W1 p bm W m ra va ma rc vc mc) (k:Below W.heap.size W W'):Wk W1 p bm W' m ra va ma rc vc mc:=h.only (Kept.ofBelow k) (h.sb.below k) rfl rfl rfl
/-- i steps. -/
def itM (n:Nat) (F:Nat->Bool) (m:Mc):Nat->Mc
 | 0=>m
 | k+1=>stepM n F (itM n F m k)
theorem stop_not {m:Mc} (h:stopB m=false):m.over=false/\m.steps≠1000000000/\m.looks≠1000000000/\m.hits≠1000000000:=by
 unfold stopB inB at h
 simp at h
 obtain ⟨h1,h2,h3,h4⟩:=h
 exact ⟨h1,fun e=>h2 e.symm,fun e=>h3 e.symm,fun e=>h4 e.symm⟩
theorem stop_yes {m:Mc} (h:stopB m=true):m.over=true\/m.steps=1000000000\/m.looks=1000000000\/m.hits=1000000000:=by
 unfold stopB inB at h
 simp at h
 rcases h with h|h|h|h
 ·exact .inl h
 ·exact .inr (.inl h.symm)
 ·exact .inr (.inr (.inl h.symm))
 ·exact .inr (.inr (.inr h.symm))
theorem it_succ (n:Nat) (F:Nat->Bool) (m:Mc) (k:Nat):itM n F m (k+1)=itM n F (stepM n F m) k:=by
 induction k with
 | zero=>rfl
 | succ k ih =>
   show stepM n F (itM n F m (k+1))=stepM n F (itM n F (stepM n F m) k)
   rw [ih]
theorem run_still {n:Nat} {F:Nat->Bool} {m:Mc} (h:stepM n F m=m) (k:Nat):runM n F k m=m:=by
 induction k with
 | zero=>rfl
 | succ k ih =>
   by_cases e:m.over=true\/1000000000<=m.looks\/1000000000<=m.hits
   ·exact runM_stop e _
   ·rw [runM_next e,h,ih]
theorem run_stopped {n:Nat} {F:Nat->Bool} {m:Mc} (h:stopB m=true) (k:Nat):runM n F k m=m:=by
 rcases stop_yes h with e|e|e|e
 ·exact runM_stop (.inl e) _
 ·exact run_still (by unfold stepM;exact if_pos (.inr (by omega))) k
 ·exact runM_stop (.inr (.inl (by omega))) _
 ·exact runM_stop (.inr (.inr (by omega))) _
/-- A right machine of a right table. -/
structure Rm (n:Nat) (F:Nat->Bool) (m:Mc):Prop where
 hN:m.N=(n:Int)
 hS:m.S=bs (tab n F)
 ok:Mok m
theorem Rm.step {n:Nat} {F:Nat->Bool} {m:Mc} (h:Rm n F m) (hs:stopB m=false):Rm n F (stepM n F m):=by
 obtain ⟨h1,h2,h3,h4⟩:=stop_not hs
 have hl:=h.ok.looks
 have hh:=h.ok.hits
 obtain ⟨k1,k2,k3,_,_⟩:=step_ok (F:=F) h.ok h.hN (by omega) (by omega)
 exact ⟨k2.trans h.hN,k3.trans h.hS,k1⟩
theorem run_it {n:Nat} {F:Nat->Bool} {m:Mc} (ok:Rm n F m) (N k:Nat) (hk:k<=N) (hs:k=N\/stopB (itM n F m k)=true) (hp:∀ t,t < k->stopB (itM n F m t)=false):itM n F m k=runM n F N m:=by
 induction k generalizing m N with
 | zero =>
   rcases hs with e|e
   ·subst e;rfl
   ·exact (run_stopped e N).symm
 | succ k ih =>
   have h0:=hp 0 (by omega)
   obtain ⟨N',rfl⟩:∃ N',N=N'+1:=⟨N - 1,by omega⟩
   obtain ⟨g1,g2,g3,g4⟩:=stop_not h0
   have g1':m.over=false:=g1
   have g3':m.looks≠1000000000:=g3
   have g4':m.hits≠1000000000:=g4
   have hl:=ok.ok.looks
   have hh:=ok.ok.hits
   rw [it_succ,runM_next (by rw [g1'];intro e;rcases e with e|e|e;(cases e);(omega);(omega))]
   refine ih (ok.step h0) N' (by omega) ?_ fun t ht=>?_
   ·rcases hs with e|e
    ·exact .inl (by omega)
    ·exact .inr (by rw [<- it_succ];exact e)
   ·rw [<- it_succ];exact hp (t+1) (by omega)
theorem rm_all {n:Nat} {F:Nat->Bool} {m:Mc} (ok:Rm n F m) (i:Nat) (hp:∀ t,t < i->stopB (itM n F m t)=false):Rm n F (itM n F m i):=by
 induction i with
 | zero=>exact ok
 | succ i ih=>exact (ih fun t ht=>hp t (by omega)).step (hp i (by omega))
/-- What stands in the loop of MachineRun. -/
def Inv (n:Nat) (F:Nat->Bool) (m:Mc) (W1:World) (p i:Nat) (W:World):Prop :=
 Rm n F (itM n F m i)/\∃ bm ra va ma rc vc mc,Wk W1 p bm W (itM n F m i) ra va ma rc vc mc
theorem sb_same {W:World} {p bm bm':Nat} {m:Mc} {ra va ma ra' va' ma':Option Addr} {rc vc mc rc' vc' mc':Nat} (h:Sb W p m ra va ma rc vc mc bm) (k:Sb W p m ra' va' ma' rc' vc' mc' bm'):ra=ra'/\va=va'/\ma=ma'/\rc=rc'/\vc=vc'/\mc=mc':=by
 have a0:=h.all.c0
 have b0:=k.all.c0
 rw [a0] at b0
 have a4:=h.all.c4
 have b4:=k.all.c4
 rw [a4] at b4
 have a10:=h.all.c10
 have b10:=k.all.c10
 rw [a10] at b10
 injection b0 with b0
 injection b0 with e1 e2 e3
 injection b4 with b4
 injection b4 with e4 e5 e6
 injection b10 with b10
 injection b10 with e7 e8 e9
 exact ⟨e1,e4,e7,e3,e6,e9⟩
/-- What MachineRun of a right machine comes to. -/
def RunOut (w:World) (M:Mc) (e:Ending) (w':World):Prop:=∃ ra va ma rc vc mc,e=.returned (mval M ra va ma rc vc mc)/\PO w' w.heap.size M ra va ma rc vc mc/\Below w.heap.size w w'
theorem iRun (n:Nat) (F:Nat->Bool) (m:Mc) (ra va ma:Option Addr) (rc vc mc N:Nat) (w:World) (hn:n<=12) (ok:Rm n F m) (hN:N<=100000) (hR:Mr w m ra va ma) (hk:∀ x∈m.memo,x.k.size<=maxLen) (hT:TabK w) :
 Calls Tryz.prog 115 #[mval m ra va ma rc vc mc,.int .i64 (N:Int)] w (RunOut w (runM n F N m)):=by
 have hsz:m.S.size<=1048576:=by
  rw [ok.hS,bs_size,tab_length]
  have:=(p12 hn).2
  omega
 have o:=ok.ok
 have h1:=o.row
 have h2:=o.vals
 have h3:=o.memo
 have h4:=o.room
 have h5:=ok.hN
 refine (iRunOk w N hN m ra va ma rc vc mc (Inv n F m) (fun i=>stopB (itM n F m i)) (itM n F m) (fun W hb=>?_) (fun W hb=>?_) (fun W1 p i W hi=>?_) (fun W1 p i W hi=>?_) (fun W1 p i W hi hs=>?_) (fun W1 p i W hi=>?_)).mono ?_
 ·have:=iMachineOk m ra va ma rc vc mc W hsz (hR.below hb) hk
  rwa [(mok_iff m).2 o] at this
 ·refine (iNew W m ra va ma rc vc mc (hR.below hb) (by omega) (by omega) (by omega) hk o.seen).mono ?_
  rintro e w' ⟨p,ra',va',ma',rc',vc',mc',bm,rfl,hsb,hmo,hms,hsx,hbl⟩
  rw [(cnt_apart m.memo).2 o.keys,says_sg m.memo o.seen o.keys] at hms
  have po:=PO.of hmo
  refine ⟨p,rfl,ok,bm,ra',va',ma',rc',vc',mc',hbl,hT.below hb,hk,hsb,po.row,po.vals,po.memo,hms,hsx.hp,hsx.hb,hsx.hn,?_,?_,?_,?_,?_,?_,po.rv,po.rm,po.vm⟩
  ·rintro ⟨x,hx,e⟩;exact (hsx.r x hx).1 e.symm
  ·rintro ⟨x,hx,e⟩;exact (hsx.r x hx).2 e.symm
  ·rintro ⟨x,hx,e⟩;exact (hsx.v x hx).1 e.symm
  ·rintro ⟨x,hx,e⟩;exact (hsx.v x hx).2 e.symm
  ·rintro ⟨x,hx,e⟩;exact (hsx.mm x hx).1 e.symm
  ·rintro ⟨x,hx,e⟩;exact (hsx.mm x hx).2 e.symm
 ·obtain ⟨hr,bm,ra',va',ma',rc',vc',mc',h⟩:=hi
  exact h.fr
 ·obtain ⟨hr,bm,ra',va',ma',rc',vc',mc',h⟩:=hi
  refine (iStopped W p (itM n F m i) ra' va' ma' rc' vc' mc' bm h.sb).mono ?_
  rintro e w' ⟨rfl,hb⟩
  exact ⟨rfl,hr,bm,ra',va',ma',rc',vc',mc',Wk.below h hb⟩
 ·obtain ⟨hr,bm,ra',va',ma',rc',vc',mc',h⟩:=hi
  obtain ⟨g1,g2,g3,g4⟩:=stop_not hs
  have a1:=hr.ok.steps
  have a2:=hr.ok.looks
  have a3:=hr.ok.hits
  refine (step_wk n F W1 W p bm (itM n F m i) ra' va' ma' rc' vc' mc' hn hr.hN hr.hS hr.ok h g1 (by omega) (by omega) (by omega)).mono ?_
  rintro e w' ⟨rfl,va2,ma2,vc2,mc2,h2⟩
  exact ⟨rfl,hr.step hs,bm,ra',va2,ma2,rc',vc2,mc2,h2⟩
 ·obtain ⟨hr,bm,ra',va',ma',rc',vc',mc',h⟩:=hi
  exact ⟨ra',va',ma',rc',vc',mc',bm,h.sb⟩
 ·rintro e w' ⟨k,p,ra',va',ma',rc',vc',mc',bm,W1,w2,rfl,hb1,hs1,hk1,hst,hpast,⟨hr,bm2,ra2,va2,ma2,rc2,vc2,mc2,h⟩,hsb,hkp⟩
  obtain ⟨rfl,rfl,rfl,rfl,rfl,rfl⟩:=sb_same hsb h.sb
  have po:=Wk.po h
  have hne:∀ b,W1.heap.size<=b->¬ b=w.heap.size+1:=fun b hb=>by omega
  refine ⟨ra',va',ma',rc',vc',mc',?_,?_,?_⟩
  ·rw [run_it ok N k hk1 hst hpast]
  ·rw [<- run_it ok N k hk1 hst hpast]
   exact (po.kept hkp (fun b hb=>hne b (po.ge (.inl hb)).1) (fun b hb=>hne b (po.ge (.inr (.inl hb))).1) (fun b hb=>hne b (po.ge (.inr (.inr hb))).1)).mono (by omega)
  ·exact (hb1.trans (h.fr.mono hb1.size)).trans (hkp.below (fun b hb=>by omega) (by have:=hb1.size;have:=h.fr.size;omega))
theorem iCopyO (w:World) (m:Mc) (ra va ma:Option Addr) (rc vc mc:Nat) (hR:Mr w m ra va ma) (hr:m.row.length<=1048576) (hv:m.vals.length<=1048576) (hm:m.memo.length<=1048576) :
 Calls Tryz.prog 107 #[mval m ra va ma rc vc mc] w fun e w'=>∃ ra' va' ma' rc' vc' mc',e=.returned (mval m ra' va' ma' rc' vc' mc')/\PO w' w.heap.size m ra' va' ma' rc' vc' mc'/\Below w.heap.size w w':=by
 refine (iCopied w m ra va ma rc vc mc hR hr hv hm).mono ?_
 rintro _ x1 ⟨ra',va',ma',rc',vc',mc',U1,U2,rfl,hu0,hu1,hu2,ho1,hl1,ho2,hl2,ho3,hb1⟩
 have l2:=ho2.lt
 have l3:=ho3.lt
 refine ⟨ra',va',ma',rc',vc',mc',rfl,⟨ho1,oi_mono ho2 (by omega),so_mono (OwSo.of ho3) (by omega),?_,?_,?_⟩,hb1⟩
 ·rintro k ⟨x,hx,rfl⟩ hv
  have a:=hl1 x hx
  have b:=l2 _ (own_at hv)
  omega
 ·rintro k ⟨x,hx,rfl⟩ hv
  have a:=hl1 x hx
  have b:=l3 _ (own_at hv)
  omega
 ·rintro k ⟨x,hx,rfl⟩ hv
  have a:=hl2 x hx
  have b:=l3 _ (own_at hv)
  omega
theorem iRunBad (w:World) (N:Int) (m:Mc) (ra va ma:Option Addr) (rc vc mc:Nat) (hS:m.S.size<=1048576) (hR:Mr w m ra va ma) (hr:m.row.length<=1048576) (hv:m.vals.length<=1048576) (hm:m.memo.length<=1048576) (hk:∀ x∈m.memo,x.k.size<=maxLen) (hno:¬ (mokB m=true/\0<=N/\N<=100000)) :
 Calls Tryz.prog 115 #[mval m ra va ma rc vc mc,.int .i64 N] w (RunOut w m):=by
 have fin:∀ e w',(∃ ra' va' ma' rc' vc' mc' W w2,e=Ending.returned (mval m ra' va' ma' rc' vc' mc')/\Below w.heap.size w W/\w.heap.size+2<=W.heap.size/\PO w2 W.heap.size m ra' va' ma' rc' vc' mc'/\Below W.heap.size W w2/\Kept (fun b=>b=w.heap.size+1) w2 w')->RunOut w m e w':=by
  rintro e w' ⟨ra',va',ma',rc',vc',mc',W,w2,rfl,hb1,hs1,po,hb2,hkp⟩
  have hne:∀ b,W.heap.size<=b->¬ b=w.heap.size+1:=fun b hb=>by omega
  exact ⟨ra',va',ma',rc',vc',mc',rfl,(po.kept hkp (fun b hb=>hne b (po.ge (.inl hb)).1) (fun b hb=>hne b (po.ge (.inr (.inl hb))).1) (fun b hb=>hne b (po.ge (.inr (.inr hb))).1)).mono (by omega),(hb1.trans (hb2.mono hb1.size)).trans (hkp.below (fun b hb=>by omega) (by have:=hb1.size;have:=hb2.size;omega))⟩
 have cp:∀ W,Below w.heap.size w W->Calls Tryz.prog 107 #[mval m ra va ma rc vc mc] W fun e w'=>∃ ra' va' ma' rc' vc' mc',e=.returned (mval m ra' va' ma' rc' vc' mc')/\PO w' W.heap.size m ra' va' ma' rc' vc' mc'/\Below W.heap.size W w':=fun W hb=>iCopyO W m ra va ma rc vc mc (hR.below hb) hr hv hm
 by_cases h1:N < 0
 ·exact (iRunLow w N m ra va ma rc vc mc (fun ra va ma rc vc mc W w'=>PO w' W.heap.size m ra va ma rc vc mc) h1 cp).mono fin
 by_cases h2:100000 < N
 ·exact (iRunHigh w N m ra va ma rc vc mc (fun ra va ma rc vc mc W w'=>PO w' W.heap.size m ra va ma rc vc mc) h1 h2 cp).mono fin
 have hf:mokB m=false:=by
  cases e:mokB m
  ·rfl
  ·exact absurd ⟨e,by omega,by omega⟩ hno
 exact (iRunNot w N m ra va ma rc vc mc (fun ra va ma rc vc mc W w'=>PO w' W.heap.size m ra va ma rc vc mc) h1 h2 (fun W hb=>by
  have:=iMachineOk m ra va ma rc vc mc W hS (hR.below hb) hk
  rwa [hf] at this) cp).mono fin
/-- What MachineStep comes to. -/
def stM (n:Nat) (F:Nat->Bool) (m:Mc):Mc:=if 1000000000<=m.looks\/1000000000<=m.hits then m else stepM n F m
theorem run_one (n:Nat) (F:Nat->Bool) (m:Mc):runM n F 1 m=stM n F m:=by
 unfold stM
 by_cases h:m.over=true\/1000000000<=m.looks\/1000000000<=m.hits
 ·rw [runM_stop h]
  by_cases h2:1000000000<=m.looks\/1000000000<=m.hits
  ·rw [if_pos h2]
  ·rw [if_neg h2]
   have ho:m.over=true:=by rcases h with e|e;(exact e);(exact absurd e h2)
   unfold stepM
   rw [if_pos (.inl ho)]
 ·rw [runM_next h,if_neg (fun e=>h (.inr e))]
  rfl
end Mw20
namespace Mk0
open Go.RowKit
open Nd0 (Kept Ints WInts Ats marks)
open Nd6 (Bools markBoolS heldBoolS markB markIntB heldIntB BoolsIn)
open Ap1 (WBools)
open Mm0 Mx0
theorem markSeen0 (w:World) (a:Option Addr) (c:Nat) (k:Int):Calls Tryz.prog 44 #[.slice a 0 c,.int .i64 k] w fun e w'=>e=.returned (.int .i64 k)/\w'=w:=by
 go_enter Tryz.func44,Tryz.ntmps44
 go_wp2
 go_loopw [1,5] (fun q i wr=>i=.int .i64 0/\q=.int .i64 k/\wr=w) (fun _ _ _=>0)
 case atStart=>exact ⟨rfl,rfl,rfl⟩
 case round =>
  obtain ⟨rfl,rfl,hw⟩:=hrel
  subst hw
  go_wp2
  go_ret
  exact ⟨rfl,rfl⟩
theorem heldSeen0 (w:World) (a:Option Addr) (c:Nat) (k:Int):Calls Tryz.prog 47 #[.slice a 0 c,.int .i64 k] w fun e w'=>e=.returned (.int .i64 k)/\w'=w:=by
 go_enter Tryz.func47,Tryz.ntmps47
 go_wp2
 go_loopw [1,5] (fun q i wr=>i=.int .i64 0/\q=.int .i64 k/\wr=w) (fun _ _ _=>0)
 case atStart=>exact ⟨rfl,rfl,rfl⟩
 case round =>
  obtain ⟨rfl,rfl,hw⟩:=hrel
  subst hw
  go_wp2
  go_ret
  exact ⟨rfl,rfl⟩
theorem markMachine0 (w:World) (m:Mc) (ra va ma:Option Addr) (rc vc mc B:Nat) (hv:m.vals=[]) (hm:m.memo=[]) (h:WBools w B ra m.row) (hl:m.row.length<=1048576) :
 Calls Tryz.prog 16 #[mval m ra va ma rc vc mc,.int .i64 1] w fun e w'=>e=.returned (.int .i64 (1+m.row.length))/\WBools w' B ra (markB m.row.length 1)/\Kept (Ats m.row.length ra) w w':=by
 have HW:Hid (WBools w B ra m.row):=h
 have HV:Hid (m.vals=[]):=hv
 have HM:Hid (m.memo=[]):=hm
 clear h hv hm
 have HVL:Hid (m.vals.length=0):=by show _=_;rw [HV.out];rfl
 have HML:Hid (m.memo.length=0):=by show _=_;rw [HM.out];rfl
 have HA0:Hid (Mb (w.alloc (.cells #[.slice ra m.row.length rc,.int .i64 m.N,.string m.S,.int .i64 m.room,.slice va m.vals.length vc,.int .i64 m.ret,.bool m.over,.int .i64 m.steps,.int .i64 m.looks,.int .i64 m.hits,.slice ma m.memo.length mc] 35)) w.heap.size m ra va ma rc vc mc):=Mb.made _ _ _ _ _ _ _ _ _
 have K0:Kept (fun _=>False) w (w.alloc (.cells #[.slice ra m.row.length rc,.int .i64 m.N,.string m.S,.int .i64 m.room,.slice va m.vals.length vc,.int .i64 m.ret,.bool m.over,.int .i64 m.steps,.int .i64 m.looks,.int .i64 m.hits,.slice ma m.memo.length mc] 35)):=(Kept.refl _ _).alloc _
 have HK0:Hid (Kept (Ats m.row.length ra) w (w.alloc (.cells #[.slice ra m.row.length rc,.int .i64 m.N,.string m.S,.int .i64 m.room,.slice va m.vals.length vc,.int .i64 m.ret,.bool m.over,.int .i64 m.steps,.int .i64 m.looks,.int .i64 m.hits,.slice ma m.memo.length mc] 35))):=K0.mono (fun _ e=>e.elim)
 have HW0:Hid (WBools (w.alloc (.cells #[.slice ra m.row.length rc,.int .i64 m.N,.string m.S,.int .i64 m.room,.slice va m.vals.length vc,.int .i64 m.ret,.bool m.over,.int .i64 m.steps,.int .i64 m.looks,.int .i64 m.hits,.slice ma m.memo.length mc] 35)) B ra m.row):=((Nd6.WBools.within HW.out).kept K0 (fun _ _ _ e=>e)).wr
 have HIN:Hid (BoolsIn w B w.heap.size ra m.row):=Nd6.WBools.within HW.out
 clear K0
 go_enter Tryz.func16,Tryz.ntmps16
 go_wp2_with fail
 refine (markBoolS _ B ra m.row rc HW0.out 1 (by omega) (by omega) hl).mono ?_
 rintro e w1 ⟨rfl,hw1,hk1⟩
 have HW1:Hid (WBools w1 B ra (markB m.row.length 1)):=hw1
 have HK1:Hid (Kept (Ats m.row.length ra) w w1):=HK0.out.trans hk1
 have HA1:Hid (Mb w1 w.heap.size m ra va ma rc vc mc):=HA0.out.kept hk1 (fun h=>by have:=HIN.out.ats h;omega)
 clear hw1 hk1 HA0 HK0 HW0
 obtain ⟨m0,m1,m2,m3,m4,m5,m6,m7,m8,m9,m10⟩:=HA1.out
 go_wp2_with fail
 have hI:WInts w1 B va m.vals:=by rw [HV.out];exact ⟨Nat.zero_le _,.inl rfl⟩
 refine (markIntB w1 B va m.vals vc hI (1+(m.row.length:Int)) (by omega) (by omega) (by rw [HVL.out];omega)).mono ?_
 rintro e w2 ⟨rfl,_,hk2⟩
 rw [HVL.out] at hk2 ⊢
 have K2:Kept (fun _=>False) w1 w2:=⟨hk2.os,hk2.tape,hk2.output,hk2.size,fun k hk hn=>hk2.block k hk (fun h=>by have:=h.1;omega)⟩
 have HW2:Hid (WBools w2 B ra (markB m.row.length 1)):=((Nd6.WBools.within HW1.out).kept K2 (fun _ _ _ e=>e)).wr
 have HK2:Hid (Kept (Ats m.row.length ra) w w2):=HK1.out.trans (K2.mono (fun _ e=>e.elim))
 have HA2:Hid (Mb w2 w.heap.size m ra va ma rc vc mc):=HA1.out.kept K2 (fun h=>h)
 clear hk2 K2 hI m0 m1 m2 m3 m4 m5 m6 m7 m8 m9 m10 HA1 HK1 HW1
 obtain ⟨m0,m1,m2,m3,m4,m5,m6,m7,m8,m9,m10⟩:=HA2.out
 rw [HML.out] at m10
 go_wp2_with fail
 refine (markSeen0 _ ma mc _).mono ?_
 rintro e w3 ⟨rfl,hw3⟩
 have hw3':=hw3.symm
 clear hw3
 subst hw3'
 go_wp2
 go_ret
 exact ⟨by simp,HW2.out,HK2.out⟩
theorem heldMachine0 (w:World) (m:Mc) (ra va ma:Option Addr) (rc vc mc:Nat) (hv:m.vals=[]) (hm:m.memo=[]) (h:Bools w ra (markB m.row.length 1)) (hl:m.row.length<=1048576) :
 Calls Tryz.prog 17 #[mval m ra va ma rc vc mc,.int .i64 1] w fun e w'=>e=.returned (.int .i64 (1+m.row.length))/\Below w.heap.size w w':=by
 have HW:Hid (Bools w ra (markB m.row.length 1)):=h
 have HV:Hid (m.vals=[]):=hv
 clear h hv
 have HVL:Hid (m.vals.length=0):=by show _=_;rw [HV.out];rfl
 have HML:Hid (m.memo.length=0):=by show _=_;rw [hm];rfl
 clear hm
 have HA0:Hid (Mb (w.alloc (.cells #[.slice ra m.row.length rc,.int .i64 m.N,.string m.S,.int .i64 m.room,.slice va m.vals.length vc,.int .i64 m.ret,.bool m.over,.int .i64 m.steps,.int .i64 m.looks,.int .i64 m.hits,.slice ma m.memo.length mc] 35)) w.heap.size m ra va ma rc vc mc):=Mb.made _ _ _ _ _ _ _ _ _
 have HB0:Hid (Below w.heap.size w (w.alloc (.cells #[.slice ra m.row.length rc,.int .i64 m.N,.string m.S,.int .i64 m.room,.slice va m.vals.length vc,.int .i64 m.ret,.bool m.over,.int .i64 m.steps,.int .i64 m.looks,.int .i64 m.hits,.slice ma m.memo.length mc] 35))):=(Below.refl _ _).alloc (Nat.le_refl _) _
 have hq:¬ (1:Int)+(m.row.length:Int) < 0:=by omega
 go_enter Tryz.func17,Tryz.ntmps17
 go_wp2_with fail
 refine (heldBoolS _ ra m.row.length rc 1 (HW.out.below HB0.out) (by omega) (by omega) hl).mono ?_
 rintro e w1 ⟨rfl,hw1⟩
 have HB1:Hid (Below w.heap.size w w1):=by rw [hw1];exact HB0.out
 have HA1:Hid (Mb w1 w.heap.size m ra va ma rc vc mc):=by rw [hw1];exact HA0.out
 clear hw1 HB0 HA0
 obtain ⟨m0,m1,m2,m3,m4,m5,m6,m7,m8,m9,m10⟩:=HA1.out
 rw [HVL.out] at m4
 rw [HML.out] at m10
 go_wp2_with fail
 refine (heldIntB w1 va 0 vc (1+(m.row.length:Int)) ⟨Nat.zero_le _,.inl rfl⟩ (by omega) (by omega) (by omega)).mono ?_
 rintro e w2 ⟨rfl,hw2⟩
 have hw2':=hw2.symm
 clear hw2
 subst hw2'
 have hz:(1:Int)+(m.row.length:Int)+((0:Nat):Int)=1+(m.row.length:Int):=by omega
 rw [hz]
 go_wp2_with fail
 refine (heldSeen0 _ ma mc _).mono ?_
 rintro e w3 ⟨rfl,hw3⟩
 have hw3':=hw3.symm
 clear hw3
 subst hw3'
 go_wp2
 go_ret
 exact ⟨rfl,HB1.out⟩
end Mk0
namespace Mk1
open Go.RowKit
open Nd0 Tx0
open Ss0 (bs bs_app bs_size)
/-- The text of a mark. -/
def mt (k:Nat):ByteArray:=bs (109 :: digs k)
theorem markText (k:Nat) (w:World) (h0:0 < k) (h:k < 1000000000) :
 Calls Tryz.prog 77 #[.int .i64 k] w fun e w'=>e=.returned (.string (mt k))/\Below w.heap.size w w':=by
 have hz:¬ (k:Int)<=0:=by omega
 go_enter Tryz.func77,Tryz.ntmps77
 go_wp2
 go_loopw [0,3] (fun m o wr=>∃ (j:Nat) (s:List UInt8),j<=k/\m=.int .i64 j/\o=.string (bs s)/\digs k=digs j++s/\s.length+(digs j).length<=9/\Below w.heap.size w wr) (fun m _ _=>(intOf m).toNat)
 case atStart=>exact ⟨k,[],Nat.le_refl _,rfl,rfl,by simp,by have:=digs_len 9 k h;simpa using this,Below.refl _ _⟩
 case round =>
  obtain ⟨j,s,hj,rfl,rfl,hd,hl,hb⟩:=hrel
  have HD:Hid (digs k=digs j++s):=hd
  have HB:Hid (Below w.heap.size w wr):=hb
  clear hd hb
  by_cases hj0:j=0
  ·subst hj0
   have HE:Hid (⟨#[109]⟩++bs s=mt k):=by
    show _=_
    unfold mt
    rw [show (⟨#[109]⟩:ByteArray)=bs [109] from rfl,bs_app,HD.out,digs_zero]
    rfl
   have hss:(bs s).size<=9:=by rw [bs_size];omega
   go_wp2
   go_ret
   exact ⟨Ss0.ret_str HE.out,HB.out⟩
  ·have hkz:(0:Int) < (j:Int):=by omega
   have hr1:0<=(j:Int) % 10:=by omega
   have hr2:(j:Int) % 10 < 10:=by omega
   have hss:(bs s).size<=9:=by rw [bs_size];omega
   have hp:=digs_pos (n:=j) (by omega)
   have HN:Hid (digs k=digs (j / 10)++(UInt8.ofNat (48+j % 10) :: s)):=by
    show _=_
    rw [HD.out,hp];simp
   have HL:Hid ((UInt8.ofNat (48+j % 10) :: s).length+(digs (j / 10)).length<=9):=by
    show _<=_
    rw [hp] at hl
    simp at hl ⊢;omega
   clear hp
   have hcv:(convert 138 9 (.slice (some ⟨wr.heap.size,0,none⟩) 1 1)).run Tryz.prog (wr.alloc (.cells #[.int .u8 (48+(j:Int) % 10)] 5))=.ok (.string (bs [UInt8.ofNat (48+j % 10)])) (wr.alloc (.cells #[.int .u8 (48+(j:Int) % 10)] 5)):=by
    refine run_convert_bytes_back (P:=Tryz.prog) _ 138 9 5 ⟨wr.heap.size,0,none⟩ 1 [UInt8.ofNat (48+j % 10)] Tryz.underlying138 Tryz.underlying5 Tryz.underlying9 (fun i hi=>?_)
    have:i=0:=by simpa using hi
    subst this
    rw [Addr.add_lit,World.cell?_alloc_new]
    simp
    omega
   obtain ⟨D,hD⟩:∃ D,D=bs [UInt8.ofNat (48+j % 10)]:=⟨_,rfl⟩
   have hs1:D.size<=1:=by rw [hD,bs_size];simp
   rw [<- hD] at hcv
   have HDD:Hid (D=bs [UInt8.ofNat (48+j % 10)]):=hD
   clear hD
   have hsum:¬ 9223372036854775807 < D.size+(bs s).size:=by omega
   go_wp2
   go_roundw
   case rel=>exact ⟨j / 10,UInt8.ofNat (48+j % 10) :: s,by omega,by go_num,by rw [HDD.out,bs_app];rfl,HN.out,HL.out,HB.out.alloc HB.out.size _⟩
   case measure=>simp [intOf];omega
end Mk1
end Go.Proofs.YtladjpombohpaaaGreatDoor
