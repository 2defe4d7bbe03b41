import Derived.Test.YtjajkmdoggbicaaGreatDoorPkST17
import Derived.Test.YtjajkmdoggbicaaGreatDoorPkST19
import Derived.Test.YtjajkmdoggbicaaGreatDoorPkST40
import Derived.Test.YtjajkmdoggbicaaGreatDoorPkST38
import Derived.Test.YtjajkmdoggbicaaGreatDoorPkST39
import Derived.Test.YtjajkmdoggbicaaGreatDoorMu8
namespace Go.Proofs.YtjajkmdoggbicaaGreatDoor
set_option maxRecDepth 100000
set_option maxHeartbeats 8000000
set_option linter.unusedVariables false
namespace Mw17
open Go.RowKit
open Qc0 (Sn)
open Ms0 (putF delF)
open Mm0 Mu1 Mu3 Mu5 Mu6 Mi1
def sg (l:List Sn):ByteArray->Option Int:=fun k=>if 0<=fnd l k then some (fnd l k) else none
theorem fnd_snoc {l:List Sn} {y:Sn} (hr:∀ x∈l,0<=x.r/\x.r<=1) (q:ByteArray):fnd (l++[y]) q=if 0<=fnd l q then fnd l q else if y.k=q then y.r else -1:=by
 induction l with
 | nil=>rfl
 | cons x l ih =>
   have h1:=ih (fun z hz=>hr z (List.mem_cons_of_mem _ hz))
   show fnd (x :: (l++[y])) q=_
   unfold fnd
   by_cases e:x.k=q
   ·have h2:=(hr x List.mem_cons_self).1
    rw [if_pos e,if_pos e,if_pos h2]
   ·rw [if_neg e,if_neg e]
    exact h1
theorem fnd_none {l:List Sn} {k:ByteArray} (h:∀ x∈l,x.k≠k):fnd l k = -1:=by
 induction l with
 | nil=>rfl
 | cons x l ih =>
   unfold fnd
   rw [if_neg (h x List.mem_cons_self)]
   exact ih fun z hz=>h z (List.mem_cons_of_mem _ hz)
theorem sg_snoc {l:List Sn} {y:Sn} (hr:∀ x∈l,0<=x.r/\x.r<=1) (hy:0<=y.r) (hn:∀ x∈l,x.k≠y.k):putF (sg l) y.k y.r=sg (l++[y]):=by
 funext q
 unfold putF sg
 rw [fnd_snoc hr]
 by_cases e:q=y.k
 ·subst e
  have e1:(if (0:Int) <= -1 then (-1:Int) else if y.k=y.k then y.r else -1)=y.r:=by rw [if_neg (by decide),if_pos rfl]
  rw [fnd_none hn,if_pos rfl,e1,if_pos hy]
 ·rw [if_neg e]
  by_cases h:0<=fnd l q
  ·rw [if_pos h,if_pos h,if_pos h]
  ·have e1:(if 0<=fnd l q then fnd l q else if y.k=q then y.r else -1) = -1:=by rw [if_neg h,if_neg (fun e2=>e e2.symm)]
   rw [e1,if_neg h,if_neg (by decide)]
theorem sg_tail {x:Sn} {l:List Sn} (hn:∀ z∈l,z.k≠x.k):delF (sg (x :: l)) x.k=sg l:=by
 funext q
 unfold delF sg
 by_cases e:q=x.k
 ·subst e
  rw [if_pos rfl,fnd_none hn,if_neg (by decide)]
 ·rw [if_neg e]
  have:fnd (x :: l) q=fnd l q:=by
   conv=>lhs;unfold fnd
   rw [if_neg (fun h=>e h.symm)]
  rw [this]
theorem says_pre (l:List Sn) (y:Sn) (j:Nat) (h:j<=l.length):says (l++[y]) j=says l j:=by
 induction j with
 | zero=>rfl
 | succ j ih =>
   have e:(l++[y]).getD j Sn.zero=l.getD j Sn.zero:=by
    simp [List.getD,List.getElem?_append_left (show j < l.length by omega)]
   show putF (says (l++[y]) j) ((l++[y]).getD j Sn.zero).k ((l++[y]).getD j Sn.zero).r=putF (says l j) (l.getD j Sn.zero).k (l.getD j Sn.zero).r
   rw [e,ih (by omega)]
theorem apart_init {l:List Sn} {y:Sn} (h:apart (l++[y])):apart l/\∀ x∈l,x.k≠y.k:=by
 constructor
 ·intro i j hi hj hji
  have:=h i j (by rw [List.length_append];omega) (by rw [List.length_append];omega) hji
  rw [List.getElem_append_left hi,List.getElem_append_left hj] at this
  exact this
 ·intro x hx
  obtain ⟨i,hi,rfl⟩:=List.getElem_of_mem hx
  have:=h l.length i (by simp) (by rw [List.length_append];omega) hi
  rw [List.getElem_append_left hi,List.getElem_append_right (by omega)] at this
  simpa using this
theorem says_sg (l:List Sn):(∀ x∈l,0<=x.r/\x.r<=1)->apart l->says l l.length=sg l:=by
 intro hr ha
 generalize hk:l.length=k
 induction k generalizing l with
 | zero =>
   have:l=[]:=List.eq_nil_of_length_eq_zero hk
   subst this
   rfl
 | succ k ih =>
   have hne:l≠[]:=fun e=>by subst e;cases hk
   have hl:=(List.dropLast_concat_getLast hne).symm
   generalize l.dropLast=r at hl
   generalize l.getLast hne=y at hl
   subst hl
   have hlen:r.length=k:=by rw [List.length_append] at hk;simpa using hk
   obtain ⟨h1,h2⟩:=apart_init ha
   have hy:=hr y (by simp)
   have hrr:∀ x∈r,0<=x.r/\x.r<=1:=fun x hx=>hr x (by simp [hx])
   have e:(r++[y]).getD k Sn.zero=y:=by simp [List.getD,<- hlen]
   show putF (says (r++[y]) k) ((r++[y]).getD k Sn.zero).k ((r++[y]).getD k Sn.zero).r=_
   rw [e,says_pre r y k (by omega),ih r hrr h1 hlen,sg_snoc hrr hy.1 h2]
theorem apart_tail {x:Sn} {l:List Sn} (h:apart (x :: l)):apart l/\∀ z∈l,z.k≠x.k:=by
 constructor
 ·intro i j hi hj hji
  have:=h (i+1) (j+1) (by simpa using hi) (by simpa using hj) (by omega)
  simpa using this
 ·intro z hz
  obtain ⟨i,hi,rfl⟩:=List.getElem_of_mem hz
  have:=h (i+1) 0 (by simpa using hi) (by simp) (by omega)
  intro e
  exact this (by simpa using e.symm)
end Mw17
namespace Mw18
open Go.RowKit
open Nd0 (Kept Ints lt_of_cell At)
open Mm0 Mx0 Mu2 Mw0 Mw9 Ms0 Tk0 Qc0 Mw17 Mu1 Mu5
open Ta1 Ta2 Mc0 Mm1
open Ss0 (bs)
structure RemPost (w:World) (p bm B:Nat) (m:Mc) (ra va ma:Option Addr) (rc vc:Nat) (K:ByteArray) (ma':Option Addr) (mc':Nat) (w':World):Prop where
 sb:Sb w' p { m with memo:=keepM m.room m.memo K m.ret } ra va ma' rc vc mc' bm
 ms:Ms w' bm (keepM m.room m.memo K m.ret).length (sg (keepM m.room m.memo K m.ret))
 own:OwSo w' B (.slice ma' (keepM m.room m.memo K m.ret).length mc') (keepM m.room m.memo K m.ret)
 kept:Kept (fun b=>b=p\/b=bm\/At ma b) w w'
 lies:∀ b,At ma' b->At ma b\/w.heap.size<=b
 np:¬ At ma' p
 nb:¬ At ma' bm
theorem sg_some (l:List Sn) (k:ByteArray):(sg l k).isSome=true↔0<=fnd l k:=by
 unfold sg
 by_cases h:0<=fnd l k
 ·rw [if_pos h];simp [h]
 ·rw [if_neg h];simp [h]
theorem fnd_lt {l:List Sn} {k:ByteArray} (h:¬ 0<=fnd l k):sg l k=none:=by
 unfold sg
 rw [if_neg h]
theorem iRem (n:Nat) (F:Nat->Bool) (vb:List Bool) (w:World) (p:Nat) (m:Mc) (ra va ma:Option Addr) (rc vc mc bm:Nat) (hn:n<=12) (hN:m.N=(n:Int)) (hS:m.S=bs (tab n F)) (hv:m.vals=vb.map bi) (hk:vb.length<=n) (hks:(bs (keyL (n - vb.length) (tab (n - vb.length) (lft n F vb)))).size<=maxLen) (hI:Ints w va m.vals) (hM:Ms w bm m.memo.length (sg m.memo)) (hT:TabK w) (h:Sb w p m ra va ma rc vc mc bm)
 (B:Nat) (hB:B<=w.heap.size) (hroom:0<=m.room/\m.room<=40) (hlen:(m.memo.length:Int)<=m.room) (hbits:∀ x∈m.memo,0<=x.r/\x.r<=1) (hap:apart m.memo) (hkeys:∀ x∈m.memo,x.k.size<=maxLen) (hrt:0<=m.ret/\m.ret<=1) (hO:OwSo w B (.slice ma m.memo.length mc) m.memo) (hpb:¬ p=bm) (hpa:¬ At ma p) (hba:¬ At ma bm) :
 Calls Tryz.prog 92 #[.pointer (some ⟨p,0,none⟩)] w fun e w'=>e=.returned (.tuple #[])/\∃ ma' mc',RemPost w p bm B m ra va ma rc vc (bs (keyL (n - vb.length) (tab (n - vb.length) (lft n F vb)))) ma' mc' w':=by
 have same:keepM m.room m.memo (bs (keyL (n - vb.length) (tab (n - vb.length) (lft n F vb)))) m.ret=m.memo->∀ w',Below w.heap.size w w'->∃ ma' mc',RemPost w p bm B m ra va ma rc vc (bs (keyL (n - vb.length) (tab (n - vb.length) (lft n F vb)))) ma' mc' w':=by
  intro hE w' hb
  refine ⟨ma,mc,?_,?_,?_,Kept.ofBelow hb,fun b hb=>.inl hb,hpa,hba⟩
  ·rw [hE];exact h.below hb
  ·rw [hE];exact hM.below hb
  ·rw [hE];exact hO.kept (S:=fun _=>False) (Kept.ofBelow hb) (fun _ _ _ _ _ h=>h)
 by_cases hs:0<=fnd m.memo (bs (keyL (n - vb.length) (tab (n - vb.length) (lft n F vb))))
 ·refine (Mw11.iRemSeen n F vb w p _ _ m ra va ma rc vc mc bm hn hN hS hv hk hks hI hM hT h ((sg_some _ _).2 hs)).mono ?_
  rintro e w' ⟨rfl,hb⟩
  exact ⟨rfl,same (by unfold keepM;rw [if_neg (by omega)]) w' hb⟩
 have hnone:=fnd_lt hs
 by_cases hr:m.room=0
 ·refine (Mw11.iRemNoRoom n F vb w p _ _ m ra va ma rc vc mc bm hn hN hS hv hk hks hI hM hT h hnone hr).mono ?_
  rintro e w' ⟨rfl,hb⟩
  exact ⟨rfl,same (by unfold keepM;rw [if_neg (by omega)]) w' hb⟩
 have hfn:=Mu6.fnd_not hbits (by omega:fnd m.memo (bs (keyL (n - vb.length) (tab (n - vb.length) (lft n F vb)))) < 0)
 by_cases hne:(m.memo.length:Int)=m.room
 ·obtain ⟨x,l,hm⟩:∃ x l,m.memo=x :: l:=by
   cases hml:m.memo with
   | nil=>rw [hml] at hne;exact absurd hne.symm hr
   | cons x l=>exact ⟨x,l,rfl⟩
  have hE:keepM m.room m.memo (bs (keyL (n - vb.length) (tab (n - vb.length) (lft n F vb)))) m.ret=l++[⟨bs (keyL (n - vb.length) (tab (n - vb.length) (lft n F vb))),m.ret⟩]:=by
   unfold keepM
   rw [if_pos (by omega),if_pos (by rw [List.length_append,List.length_singleton];omega),hm]
   rfl
  have hap2:=hap
  have hbits2:=hbits
  have hfn2:=hfn
  have hM2:=hM
  rw [hm] at hap2 hbits2 hfn2 hM2
  obtain ⟨ha1,ha2⟩:=apart_tail hap2
  have hx:=hbits2 x List.mem_cons_self
  have hxs:(sg m.memo x.k).isSome=true:=by
   rw [sg_some,hm]
   unfold fnd
   rw [if_pos rfl]
   exact hx.1
  have hll:(l.length:Int)+1=m.room:=by rw [hm,List.length_cons] at hne;exact_mod_cast hne
  refine (Mw13.iRemFull n F vb w p l.length x l (sg m.memo) m ra va ma rc vc mc bm hn hN hS hv hk hks hI (by rw [hm];exact hM2) hT h B hB hnone hr hm hne (hkeys x (by rw [hm];exact List.mem_cons_self)) hxs hrt (by omega) (by omega) hO hpb hpa hba).mono ?_
  rintro e w' ⟨rfl,g,q,cp,h1,h2,h3,h4,h5,h6,h7⟩
  have hd:delF (sg m.memo) x.k=sg l:=by rw [hm];exact sg_tail ha2
  have hf0:∀ z∈l,z.k≠bs (keyL (n - vb.length) (tab (n - vb.length) (lft n F vb))):=fun z hz=>hfn2 z (List.mem_cons_of_mem _ hz)
  have hp2:=sg_snoc (y:=⟨bs (keyL (n - vb.length) (tab (n - vb.length) (lft n F vb))),m.ret⟩) (fun z hz=>hbits2 z (List.mem_cons_of_mem _ hz)) hrt.1 hf0
  have hno:sg l (bs (keyL (n - vb.length) (tab (n - vb.length) (lft n F vb))))=none:=fnd_lt (by rw [fnd_none hf0];decide)
  rw [hd,hno,hp2] at h2
  refine ⟨rfl,some ⟨g,q,none⟩,cp,?_,?_,?_,h4,?_,?_,?_⟩
  ·rw [hE];exact h1
  ·rw [hE,List.length_append];exact h2
  ·rw [hE,List.length_append];exact h3
  ·rintro b ⟨y,hy,rfl⟩;cases hy;exact h5
  ·rintro ⟨y,hy,e⟩;cases hy;exact h6 e.symm
  ·rintro ⟨y,hy,e⟩;cases hy;exact h7 e.symm
 ·have hE:keepM m.room m.memo (bs (keyL (n - vb.length) (tab (n - vb.length) (lft n F vb)))) m.ret=m.memo++[⟨bs (keyL (n - vb.length) (tab (n - vb.length) (lft n F vb))),m.ret⟩]:=by
   unfold keepM
   rw [if_pos (by omega),if_neg (by rw [List.length_append,List.length_singleton];omega)]
  refine (Mw12.iRemMore n F vb w p m.memo.length (sg m.memo) m ra va ma rc vc mc bm hn hN hS hv hk hks hI hM hT h B hB hnone hr hne hrt (by omega) (by omega) hO hpb hpa hba).mono ?_
  rintro e w' ⟨rfl,g,q,cp,h1,h2,h3,h4,h5,h6,h7⟩
  have hp2:=sg_snoc (y:=⟨bs (keyL (n - vb.length) (tab (n - vb.length) (lft n F vb))),m.ret⟩) hbits hrt.1 hfn
  rw [hnone,hp2] at h2
  refine ⟨rfl,some ⟨g,q,none⟩,cp,?_,?_,?_,h4,?_,?_,?_⟩
  ·rw [hE];exact h1
  ·rw [hE,List.length_append];exact h2
  ·rw [hE,List.length_append];exact h3
  ·rintro b ⟨y,hy,rfl⟩;cases hy;exact h5
  ·rintro ⟨y,hy,e⟩;cases hy;exact h6 e.symm
  ·rintro ⟨y,hy,e⟩;cases hy;exact h7 e.symm
end Mw18
namespace Mw19
open Go.RowKit
open Nd0 (Kept Ints lt_of_cell At)
open Ap0 Ap1 Qc0 Mm0 Mx0 Mu1 Mu2 Mu3 Mu4 Mu5 Mu6 Mu8 Mw0 Mw1 Mw2 Mw3 Mw4 Mw5 Mw6 Mw7 Mw8 Mw9 Mw10 Mw17 Mw18 Ms0 Tk0
open Ta1 Ta2 Td1 Mc0 Mm1
open Ss0 (bs bs_size)
/-- The machine m at work in the block p of W, all of it in memory made since W1. -/
structure Wk (W1:World) (p bm:Nat) (W:World) (m:Mc) (ra va ma:Option Addr) (rc vc mc:Nat):Prop where
 fr:Below W1.heap.size W1 W
 tk:TabK W1
 keys:∀ x∈m.memo,x.k.size<=maxLen
 sb:Sb W p m ra va ma rc vc mc bm
 row:Owb W W1.heap.size (.slice ra m.row.length rc) m.row
 vals:Ows W W1.heap.size (.slice va m.vals.length vc) m.vals
 memo:OwSo W W1.heap.size (.slice ma m.memo.length mc) m.memo
 ms:Ms W bm m.memo.length (sg m.memo)
 hp:W1.heap.size<=p
 hb:W1.heap.size<=bm
 hn:¬ p=bm
 rp:¬ At ra p
 rb:¬ At ra bm
 vp:¬ At va p
 vb:¬ At va bm
 mp:¬ At ma p
 mb:¬ At ma bm
 rv:∀ k,At ra k->¬ At va k
 rm:∀ k,At ra k->¬ At ma k
 vm:∀ k,At va k->¬ At ma k
theorem at_own {a:Option Addr} {n c k:Nat} (h:((.slice a n c):Value).ownBlock=some k):At a k:=by
 cases a with
 | none=>cases h
 | some x=>exact ⟨x,rfl,by simpa [Value.ownBlock] using h.symm⟩
theorem own_at {a:Option Addr} {n c k:Nat} (h:At a k):((.slice a n c):Value).ownBlock=some k:=by
 obtain ⟨x,rfl,rfl⟩:=h
 rfl
theorem Wk.tab {W1 W:World} {p bm:Nat} {m:Mc} {ra va ma:Option Addr} {rc vc mc:Nat} (h:Wk W1 p bm W m ra va ma rc vc mc):TabK W:=h.tk.below h.fr
theorem Wk.ints {W1 W:World} {p bm:Nat} {m:Mc} {ra va ma:Option Addr} {rc vc mc:Nat} (h:Wk W1 p bm W m ra va ma rc vc mc):Ints W va m.vals:=by
 obtain ⟨a2,c2,e2,f2⟩:=h.vals.form
 cases e2
 exact f2.ints
theorem Wk.flags {W1 W:World} {p bm:Nat} {m:Mc} {ra va ma:Option Addr} {rc vc mc:Nat} (h:Wk W1 p bm W m ra va ma rc vc mc):Nd6.Bools W ra m.row:=by
 obtain ⟨a2,c2,e2,f2⟩:=h.row.form
 cases e2
 exact Nd6.WBools.plain f2
theorem Wk.va_ge {W1 W:World} {p bm:Nat} {m:Mc} {ra va ma:Option Addr} {rc vc mc:Nat} (h:Wk W1 p bm W m ra va ma rc vc mc) {k:Nat} (hk:At va k):W1.heap.size<=k/\k < W.heap.size:=h.vals.lt k (own_at hk)
theorem Wk.ra_ge {W1 W:World} {p bm:Nat} {m:Mc} {ra va ma:Option Addr} {rc vc mc:Nat} (h:Wk W1 p bm W m ra va ma rc vc mc) {k:Nat} (hk:At ra k):W1.heap.size<=k/\k < W.heap.size:=h.row.lt k (own_at hk)
theorem os_ge {W:World} {B:Nat} {ma:Option Addr} {n mc:Nat} {l:List Sn} (h:OwSo W B (.slice ma n mc) l) {k:Nat} (hk:At ma k):B<=k/\k < W.heap.size:=by
 obtain ⟨x,rfl,rfl⟩:=hk
 rcases h with ⟨e,_⟩|⟨g,o,cap,e,hb,H⟩
 ·cases e
 ·cases e
  exact ⟨hb,H.lt⟩
theorem Wk.ma_ge {W1 W:World} {p bm:Nat} {m:Mc} {ra va ma:Option Addr} {rc vc mc:Nat} (h:Wk W1 p bm W m ra va ma rc vc mc) {k:Nat} (hk:At ma k):W1.heap.size<=k/\k < W.heap.size:=os_ge h.memo hk
/-- Only the machine's own block has turned. -/
theorem Wk.only {W1 W W':World} {p bm:Nat} {m m':Mc} {ra va ma:Option Addr} {rc vc mc:Nat} (h:Wk W1 p bm W m ra va ma rc vc mc) (k:Kept (fun b=>b=p) W W') (hs:Sb W' p m' ra va ma rc vc mc bm) (e1:m'.row=m.row) (e2:m'.vals=m.vals) (e3:m'.memo=m.memo):Wk W1 p bm W' m' ra va ma rc vc mc:=by
 refine ⟨h.fr.trans (k.below (fun b hb=>by rw [hb];exact h.hp) h.fr.size),h.tk,by rw [e3];exact h.keys,hs,?_,?_,?_,?_,h.hp,h.hb,h.hn,h.rp,h.rb,h.vp,h.vb,h.mp,h.mb,h.rv,h.rm,h.vm⟩
 ·rw [e1];exact h.row.kept k (fun i hi e=>h.rp (e ▸ at_own hi))
 ·rw [e2];exact h.vals.kept k (fun i hi e=>h.vp (e ▸ at_own hi))
 ·rw [e3];exact h.memo.kept k (fun g o n c e hg=>h.mp (by cases e;exact ⟨_,rfl,hg.symm⟩))
 ·rw [e3];exact h.ms.kept k (fun e=>h.hn e.symm)
/-- Its values have turned. -/
theorem Wk.turned {W1 W W':World} {p bm:Nat} {m m':Mc} {ra va va' ma:Option Addr} {rc vc vc' mc:Nat} (h:Wk W1 p bm W m ra va ma rc vc mc) (k:Kept (fun b=>b=p\/At va b) W W') (hs:Sb W' p m' ra va' ma rc vc' mc bm) (e1:m'.row=m.row) (e3:m'.memo=m.memo)
 (ho:Ows W' W1.heap.size (.slice va' m'.vals.length vc') m'.vals) (hl:∀ b,At va' b->At va b\/W.heap.size<=b):Wk W1 p bm W' m' ra va' ma rc vc' mc:=by
 have hpl:=h.sb.lt
 have hml:=h.ms.lt
 refine ⟨h.fr.trans (k.below (fun b hb=>by rcases hb with e|e;(rw [e];exact h.hp);(exact (h.va_ge e).1)) h.fr.size),h.tk,by rw [e3];exact h.keys,hs,?_,ho,?_,?_,h.hp,h.hb,h.hn,h.rp,h.rb,fun e=>?_,fun e=>?_,h.mp,h.mb,fun b hr hv=>?_,h.rm,fun b hv hm=>?_⟩
 ·rw [e1];exact h.row.kept k (fun i hi e=>by rcases e with e|e;(exact h.rp (e ▸ at_own hi));(exact h.rv _ (at_own hi) e))
 ·rw [e3];exact h.memo.kept k (fun g o n c e hg=>by
   cases e
   rcases hg with hg|hg
   ·exact h.mp ⟨_,rfl,hg.symm⟩
   ·exact h.vm _ hg ⟨_,rfl,rfl⟩)
 ·rw [e3];exact h.ms.kept k (fun e=>by rcases e with e|e;(exact h.hn e.symm);(exact h.vb e))
 ·rcases hl _ e with e|e
  ·exact h.vp e
  ·omega
 ·rcases hl _ e with e|e
  ·exact h.vb e
  ·omega
 ·rcases hl _ hv with e|e
  ·exact h.rv _ hr e
  ·have:=h.ra_ge hr;omega
 ·rcases hl _ hv with e|e
  ·exact h.vm _ e hm
  ·have:=h.ma_ge hm;omega
theorem key_short {n:Nat} (hn:n<=12) (F:Nat->Bool):(bs (keyL n (tab n F))).size<=maxLen:=by
 have h1:=dec_short hn
 rw [bs_size] at h1
 have h2:=(p12 hn).2
 rw [bs_size]
 unfold keyL
 rw [List.length_append,List.length_cons,tab_length]
 unfold maxLen
 omega
theorem keep_keys {room:Int} {l:List Sn} {k:ByteArray} {r:Int} (h:∀ x∈l,x.k.size<=maxLen) (hk:k.size<=maxLen):∀ x∈keepM room l k r,x.k.size<=maxLen:=by
 have h1:∀ x∈l++[(⟨k,r⟩:Sn)],x.k.size<=maxLen:=fun x hx=>by
  rcases List.mem_append.1 hx with e|e
  ·exact h x e
  ·rw [List.mem_singleton.1 e];exact hk
 unfold keepM
 split
 ·split
  ·exact fun x hx=>h1 x (List.mem_of_mem_drop hx)
  ·exact h1
 ·exact h
/-- What it remembers has turned, and its values are less by the last one. -/
theorem Wk.gone {W1 W W' W2:World} {p bm:Nat} {m:Mc} {ra va ma ma':Option Addr} {rc vc mc mc':Nat} (K:ByteArray) (hK:K.size<=maxLen) (h:Wk W1 p bm W m ra va ma rc vc mc) (k:Kept (fun b=>b=p) W W2) (vl:List Int) (ho:Ows W2 W1.heap.size (.slice va vl.length vc) vl)
 (hr:RemPost W2 p bm W1.heap.size { m with vals:=vl } ra va ma rc vc K ma' mc' W'):Wk W1 p bm W' { m with vals:=vl,memo:=keepM m.room m.memo K m.ret } ra va ma' rc vc mc':=by
 obtain ⟨h1,h2,h3,h4,h5,h6,h7⟩:=hr
 have hs2:=k.size
 refine ⟨(h.fr.trans (k.below (fun b hb=>by rw [hb];exact h.hp) h.fr.size)).trans (h4.below (fun b hb=>by rcases hb with e|e|e;(rw [e];exact h.hp);(rw [e];exact h.hb);(exact (h.ma_ge e).1)) (by have:=h.fr.size;omega)),h.tk,keep_keys h.keys hK,h1,?_,?_,h3,h2,h.hp,h.hb,h.hn,h.rp,h.rb,h.vp,h.vb,h6,h7,h.rv,fun b hr hm=>?_,fun b hv hm=>?_⟩
 ·exact (h.row.kept k (fun i hi e=>h.rp (e ▸ at_own hi))).kept h4 (fun i hi e=>by
   rcases e with e|e|e
   ·exact h.rp (e ▸ at_own hi)
   ·exact h.rb (e ▸ at_own hi)
   ·exact h.rm _ (at_own hi) e)
 ·exact ho.kept h4 (fun i hi e=>by
   rcases e with e|e|e
   ·exact h.vp (e ▸ at_own hi)
   ·exact h.vb (e ▸ at_own hi)
   ·exact h.vm _ (at_own hi) e)
 ·rcases h5 _ hm with e|e
  ·exact h.rm _ hr e
  ·have:=h.ra_ge hr;omega
 ·rcases h5 _ hm with e|e
  ·exact h.vm _ hv e
  ·have:=h.va_ge hv;omega
theorem knw_bit (e:Nat) (G:Nat->Bool):bitB (knw e G)=true↔0<=knw e G:=by
 have:=knw_range e G
 unfold bitB
 rw [decide_eq_true_iff]
 omega
theorem ows_at {w:World} {B:Nat} {a:Option Addr} {n c:Nat} {l:List Int} (h:Ows w B (.slice a n c) l) (hl:1<=l.length):∃ g,a=some ⟨g,0,none⟩:=by
 rcases h.2 with ⟨e,h0⟩|⟨g,cap,cur,e,hb,hg,_⟩
 ·omega
 ·cases e
  exact ⟨g,rfl⟩
theorem keyF {room:Int} {m:Mc} {n:Nat} {F:Nat->Bool} {vl:List Int} (vb:List Bool) (e:vb=bools vl):bs (keyL (n - vb.length) (tab (n - vb.length) (lft n F vb)))=kyM n F vl:=by
 subst e
 rfl
/-- A step of the program. -/
theorem step_wk (n:Nat) (F:Nat->Bool) (W1 W:World) (p bm:Nat) (m:Mc) (ra va ma:Option Addr) (rc vc mc:Nat) (hn:n<=12) (hN:m.N=(n:Int)) (hS:m.S=bs (tab n F)) (ok:Mok m) (h:Wk W1 p bm W m ra va ma rc vc mc) (hov:m.over=false) (hst:m.steps < 1000000000) (hlo:m.looks < 1000000000) (hhi:m.hits < 1000000000) :
 Calls Tryz.prog 26 #[.pointer (some ⟨p,0,none⟩)] W fun e w'=>e=.returned (.tuple #[])/\∃ va' ma' vc' mc',Wk W1 p bm w' (stepM n F m) ra va' ma' rc vc' mc':=by
 obtain ⟨vb,hvb⟩:∃ vb,vb=bools m.vals:=⟨_,rfl⟩
 have hv:m.vals=vb.map bi:=by rw [hvb];exact bools_bi ok.bits
 have hvl:vb.length=m.vals.length:=by rw [hvb];exact bools_len _
 have hk:vb.length<=n:=by have:=ok.vals;omega
 have hks:=key_short (Nat.le_trans (Nat.sub_le n vb.length) hn) (lft n F vb)
 have hsteps:=ok.steps
 have hE:stepM n F m=if m.ret < 0 then downM n F vb { m with steps:=m.steps+1 } else upM n F { m with steps:=m.steps+1 }:=by
  unfold stepM
  rw [if_neg (by rw [hov];intro h;rcases h with h|h;(cases h);omega),hvb]
 by_cases hr:m.ret < 0
 ·rw [if_pos hr] at hE
  have hr1:m.ret = -1:=by have:=ok.ret;omega
  have hat:∀ W',Kept (fun b=>b=p) W W'->Sb W' p { m with steps:=m.steps+1 } ra va ma rc vc mc bm->Calls Tryz.prog 68 #[.pointer (some ⟨p,0,none⟩)] W' fun e w'=>e=.returned (.int .i64 (atD (knw (n - vb.length) (lft n F vb)) (sg m.memo (bs (keyL (n - vb.length) (tab (n - vb.length) (lft n F vb)))))))/\Below W'.heap.size W' w':=fun W' k hs=>by
   have h':=h.only k hs rfl rfl rfl
   exact iAtD n F vb W' p m.memo.length (sg m.memo) { m with steps:=m.steps+1 } ra va ma rc vc mc bm hn hN hS hv hk hks h'.ints h'.ms h'.tab hr1 hs
  by_cases hA:0<=knw (n - vb.length) (lft n F vb)
  ·have hD:atD (knw (n - vb.length) (lft n F vb)) (sg m.memo (bs (keyL (n - vb.length) (tab (n - vb.length) (lft n F vb)))))=0:=by
    unfold atD
    rw [if_pos ((knw_bit _ _).2 hA)]
   rw [hD] at hat
   have hE2:stepM n F m={ m with steps:=m.steps+1,ret:=knw (n - vb.length) (lft n F vb),looks:=m.looks+1 }:=by
    rw [hE]
    unfold downM
    rw [if_pos hA]
   rw [hE2]
   exact step_look W p m ra va ma rc vc mc bm _ ⟨hsteps.1,by omega⟩ h.sb hat fun W' k hs=>by
    have h':=h.only k hs rfl rfl rfl
    refine (iLook n F vb W' p { m with steps:=m.steps+1 } ra va ma rc vc mc bm hn hN hS hv hk ⟨ok.looks.1,by show m.looks<=_;omega⟩ h'.ints hs).mono ?_
    rintro e w' ⟨rfl,h2,h3⟩
    exact ⟨rfl,va,ma,vc,mc,h'.only h3 h2 rfl rfl rfl⟩
  by_cases hf:0<=fnd m.memo (bs (keyL (n - vb.length) (tab (n - vb.length) (lft n F vb))))
  ·have hsg:sg m.memo (bs (keyL (n - vb.length) (tab (n - vb.length) (lft n F vb))))=some (fnd m.memo (bs (keyL (n - vb.length) (tab (n - vb.length) (lft n F vb))))):=by
    unfold sg
    rw [if_pos hf]
   have hD:atD (knw (n - vb.length) (lft n F vb)) (sg m.memo (bs (keyL (n - vb.length) (tab (n - vb.length) (lft n F vb)))))=1:=by
    unfold atD
    rw [if_neg (fun e=>hA ((knw_bit _ _).1 e)),hsg]
    rfl
   rw [hD] at hat
   have hE2:stepM n F m={ m with steps:=m.steps+1,ret:=fnd m.memo (bs (keyL (n - vb.length) (tab (n - vb.length) (lft n F vb)))),hits:=m.hits+1 }:=by
    rw [hE]
    unfold downM
    rw [if_neg hA]
    exact if_pos hf
   rw [hE2]
   exact step_recall W p m ra va ma rc vc mc bm _ ⟨hsteps.1,by omega⟩ h.sb hat fun W' k hs=>by
    have h':=h.only k hs rfl rfl rfl
    refine (iRecall n F vb W' p m.memo.length (sg m.memo) { m with steps:=m.steps+1 } ra va ma rc vc mc bm hn hN hS hv hk hks h'.ints h'.ms h'.tab _ hsg ⟨ok.hits.1,by show m.hits<=_;omega⟩ hs).mono ?_
    rintro e w' ⟨rfl,h2,h3⟩
    exact ⟨rfl,va,ma,vc,mc,h'.only h3 h2 rfl rfl rfl⟩
  ·have hsg:sg m.memo (bs (keyL (n - vb.length) (tab (n - vb.length) (lft n F vb))))=none:=by
    unfold sg
    rw [if_neg hf]
   have hD:atD (knw (n - vb.length) (lft n F vb)) (sg m.memo (bs (keyL (n - vb.length) (tab (n - vb.length) (lft n F vb)))))=2:=by
    unfold atD
    rw [if_neg (fun e=>hA ((knw_bit _ _).1 e)),hsg]
    rfl
   rw [hD] at hat
   have hE2:stepM n F m={ m with steps:=m.steps+1,vals:=m.vals++[0] }:=by
    rw [hE]
    unfold downM
    rw [if_neg hA]
    exact if_neg hf
   rw [hE2]
   exact step_goDown W p m ra va ma rc vc mc bm _ ⟨hsteps.1,by omega⟩ h.sb hat fun W' k hs=>by
    have h':=h.only k hs rfl rfl rfl
    refine (iGoDown W' p W1.heap.size { m with steps:=m.steps+1 } ra va ma rc vc mc bm (by show m.vals.length<=12;omega) h'.fr.size (fun x hx e=>h.vp ⟨x,hx,e.symm⟩) h'.vals hs).mono ?_
    rintro e w' ⟨rfl,g,cp,h2,h3,h4,h5⟩
    exact ⟨rfl,some ⟨g,0,none⟩,ma,cp,mc,h'.turned h4 h2 rfl rfl h3 (fun b hb=>by obtain ⟨x,hx,rfl⟩:=hb;cases hx;exact h5)⟩
 ·rw [if_neg hr] at hE
  have hrm:¬ m.ret = -1:=by omega
  have hret:=ok.ret
  by_cases he:m.vals=[]
  ·have hE2:stepM n F m={ m with steps:=m.steps+1,over:=true }:=by
    rw [hE]
    unfold upM
    exact if_pos he
   rw [hE2]
   refine Mw8.step_end W p m ra va ma rc vc mc bm _ ⟨hsteps.1,by omega⟩ h.sb (fun W' k hs=>?_) fun W' k hs=>?_
   ·refine (iAtTop W' p { m with steps:=m.steps+1 } ra va ma rc vc mc bm hrm he hs).mono ?_
    rintro e w' ⟨rfl,rfl⟩
    exact ⟨rfl,Below.refl _ _⟩
   ·have h':=h.only k hs rfl rfl rfl
    refine (iEnd W' p { m with steps:=m.steps+1 } ra va ma rc vc mc bm hs).mono ?_
    rintro e w' ⟨rfl,h2,h3⟩
    exact ⟨rfl,va,ma,vc,mc,h'.only h3 h2 rfl rfl rfl⟩
  obtain ⟨vl,hvl2⟩:∃ vl,vl=m.vals.dropLast:=⟨_,rfl⟩
  obtain ⟨x,hx⟩:∃ x,x=m.vals.getLastD 0:=⟨_,rfl⟩
  have hd:m.vals=vl++[x]:=by rw [hvl2,hx];exact drop_last he
  have hdl:vl.length+1=m.vals.length:=by rw [hd,List.length_append];rfl
  have hrl:vl.length < m.row.length:=by have:=ok.row;have:=ok.vals;omega
  have hx01:=ok.bits x (by rw [hd];simp)
  obtain ⟨d,hdd⟩:∃ d,m.row[vl.length]=d:=⟨_,rfl⟩
  have hgd:m.row.getD vl.length false=d:=by rw [<- hdd];simp [List.getD,List.getElem?_eq_getElem hrl]
  have hat:∀ W',Kept (fun b=>b=p) W W'->Sb W' p { m with steps:=m.steps+1 } ra va ma rc vc mc bm->Calls Tryz.prog 68 #[.pointer (some ⟨p,0,none⟩)] W' fun e w'=>e=.returned (.int .i64 (if ((m.ret==b01 (!d))||(x==1))=true then 4 else 5))/\Below W'.heap.size W' w':=fun W' k hs=>by
   have h':=h.only k hs rfl rfl rfl
   refine (iAtUp vl x d W' p { m with steps:=m.steps+1 } ra va ma rc vc mc bm hrm hd (by omega) hrl hdd h'.ints h'.flags hs).mono ?_
   rintro e w' ⟨rfl,q,rfl⟩
   exact ⟨rfl,⟨rfl,rfl,rfl,Nat.le_refl _,fun _ _=>rfl⟩⟩
  obtain ⟨g,hg⟩:=ows_at h.vals (by omega)
  subst hg
  have hE3:stepM n F m=if (d != (m.ret==0))&&(x==0) then { m with steps:=m.steps+1,vals:=vl++[1],ret := -1 } else { m with steps:=m.steps+1,vals:=vl,memo:=keepM m.room m.memo (kyM n F vl) m.ret }:=by
   rw [hE]
   unfold upM
   rw [if_neg he]
   show (if (m.row.getD m.vals.dropLast.length false != (m.ret==0))&&(m.vals.getLastD 0==0) then _ else _)=_
   rw [<- hvl2,<- hx,hgd]
  by_cases ht:((d != (m.ret==0))&&(x==0))=true
  ·rw [if_pos ht] at hE3
   rw [hE3]
   have hx0:x=0:=by
    have h2:=(Bool.and_eq_true _ _ ▸ ht).2
    simpa using h2
   subst hx0
   have ht2:((m.ret==b01 (!d))||((0:Int)==1))=false:=by
    have h2:=(Bool.and_eq_true _ _ ▸ ht).1
    have hr2:m.ret=0\/m.ret=1:=by omega
    rcases hr2 with e|e<;>rw [e] at h2 ⊢ <;> cases d<;>revert h2<;>decide
   rw [ht2] at hat
   refine Mw8.step_turn W p m ra (some ⟨g,0,none⟩) ma rc vc mc bm _ ⟨hsteps.1,by omega⟩ h.sb hat fun W' k hs=>?_
   have h':=h.only k hs rfl rfl rfl
   refine (iTurn vl W' p W1.heap.size g { m with steps:=m.steps+1 } ra (some ⟨g,0,none⟩) ma rc vc mc bm hd (by omega) rfl (fun e=>h.vp ⟨_,rfl,e⟩) h'.vals hs).mono ?_
   rintro e w' ⟨rfl,h2,h3,h4⟩
   exact ⟨rfl,some ⟨g,0,none⟩,ma,vc,mc,h'.turned (h4.mono (fun b hb=>by rcases hb with e|e;(exact .inl e);(exact .inr ⟨_,rfl,e⟩))) h2 rfl rfl h3 (fun b hb=>.inl hb)⟩
  ·rw [if_neg ht] at hE3
   rw [hE3]
   have ht2:((m.ret==b01 (!d))||(x==1))=true:=by
    have hr2:m.ret=0\/m.ret=1:=by omega
    have hx2:x=0\/x=1:=by omega
    rcases hr2 with e|e<;>rcases hx2 with e2|e2<;>rw [e,e2] at ht ⊢ <;> cases d<;>revert ht<;>decide
   rw [ht2] at hat
   refine step_goUp W p m ra (some ⟨g,0,none⟩) ma rc vc mc bm _ ⟨hsteps.1,by omega⟩ h.sb hat fun W' k hs=>?_
   have h':=h.only k hs rfl rfl rfl
   have hcap:=ows_cap h.vals
   refine iGoUp vl x W' p g { m with steps:=m.steps+1 } ra (some ⟨g,0,none⟩) ma rc vc mc bm hd (by omega) rfl (by omega) hs _ fun W2 hs2 k2=>?_
   obtain ⟨vb2,hvb2⟩:∃ vb2,vb2=bools vl:=⟨_,rfl⟩
   have hbl:∀ y∈vl,0<=y/\y<=1:=fun y hy=>ok.bits y (by rw [hd];simp [hy])
   have hv2:vl=vb2.map bi:=by rw [hvb2];exact bools_bi hbl
   have hl2:vb2.length=vl.length:=by rw [hvb2];exact bools_len _
   have hks2:=key_short (Nat.le_trans (Nat.sub_le n vb2.length) hn) (lft n F vb2)
   have hov2:Ows W2 W1.heap.size (.slice (some ⟨g,0,none⟩) vl.length vc) vl:=by
    have h1:=ows_take (h'.vals.kept k2 (fun i hi e=>h.vp (e ▸ at_own hi))) vl.length (by show vl.length<=m.vals.length;omega)
    have h2:({ m with steps:=m.steps+1 }:Mc).vals.take vl.length=vl:=by
     show m.vals.take vl.length=vl
     rw [hd];simp
    rw [h2] at h1
    exact h1
   have hi2:Ints W2 (some ⟨g,0,none⟩) vl:=by
    obtain ⟨a2,c2,e2,f2⟩:=hov2.form
    cases e2
    exact f2.ints
   refine (iRem n F vb2 W2 p { m with steps:=m.steps+1,vals:=vl } ra (some ⟨g,0,none⟩) ma rc vc mc bm hn hN hS hv2 (by omega) hks2 hi2 (h'.ms.kept k2 (fun e=>h.hn e.symm)) (h.tk.below (h'.fr.trans (k2.below (fun b hb=>by rw [hb];exact h.hp) h'.fr.size))) hs2 W1.heap.size (by have:=h'.fr.size;have:=k2.size;omega) ok.room ok.memo ok.seen ok.keys h.keys (by show 0<=m.ret/\m.ret<=1;omega) (h'.memo.kept k2 (fun g o n c e hg=>h.mp (by cases e;exact ⟨_,rfl,hg.symm⟩))) h.hn h.mp h.mb).mono ?_
   rintro e w' ⟨rfl,ma',mc',hrem⟩
   refine ⟨rfl,some ⟨g,0,none⟩,ma',vc,mc',?_⟩
   have:=h'.gone _ hks2 k2 vl hov2 hrem
   rw [show kyM n F vl=bs (keyL (n - vb2.length) (tab (n - vb2.length) (lft n F vb2))) by rw [hvb2];rfl]
   exact this
end Mw19
end Go.Proofs.YtjajkmdoggbicaaGreatDoor
