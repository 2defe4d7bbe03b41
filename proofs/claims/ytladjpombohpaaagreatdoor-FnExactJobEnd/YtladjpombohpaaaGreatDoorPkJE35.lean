import Derived.Test.YtladjpombohpaaaGreatDoorPkJE28
import Derived.Test.YtladjpombohpaaaGreatDoorMu8
namespace Go.Proofs.YtladjpombohpaaaGreatDoor
set_option maxRecDepth 100000
set_option maxHeartbeats 8000000
set_option linter.unusedVariables false
namespace Mw19
open Go.RowKit
open Nd0 (Kept Ints lt_of_cell At)
open Ap0 Ap1 Qc0 Mm0 Mx0 Mu1 Mu2 Mu3 Mu4 Mu5 Mu6 Mu8 Mw0 Mw1 Mw2 Mw3 Mw4 Mw5 Mw6 Mw7 Mw8 Mw9 Mw10 Mw17 Mw18 Ms0 Tk0
open Ta1 Ta2 Td1 Mc0 Mm1
open Ss0 (bs bs_size)
/-- The machine m at work in the block p of W, all of it in memory made since W1. -/
structure Wk (W1:World) (p bm:Nat) (W:World) (m:Mc) (ra va ma:Option Addr) (rc vc mc:Nat):Prop where
 fr:Below W1.heap.size W1 W
 tk:TabK W1
 keys:∀ x∈m.memo,x.k.size<=maxLen
 sb:Sb W p m ra va ma rc vc mc bm
 row:Owb W W1.heap.size (.slice ra m.row.length rc) m.row
 vals:Ows W W1.heap.size (.slice va m.vals.length vc) m.vals
 memo:OwSo W W1.heap.size (.slice ma m.memo.length mc) m.memo
 ms:Ms W bm m.memo.length (sg m.memo)
 hp:W1.heap.size<=p
 hb:W1.heap.size<=bm
 hn:¬ p=bm
 rp:¬ At ra p
 rb:¬ At ra bm
 vp:¬ At va p
 vb:¬ At va bm
 mp:¬ At ma p
 mb:¬ At ma bm
 rv:∀ k,At ra k->¬ At va k
 rm:∀ k,At ra k->¬ At ma k
 vm:∀ k,At va k->¬ At ma k
theorem at_own {a:Option Addr} {n c k:Nat} (h:((.slice a n c):Value).ownBlock=some k):At a k:=by
 cases a with
 | none=>cases h
 | some x=>exact ⟨x,rfl,by simpa [Value.ownBlock] using h.symm⟩
theorem own_at {a:Option Addr} {n c k:Nat} (h:At a k):((.slice a n c):Value).ownBlock=some k:=by
 obtain ⟨x,rfl,rfl⟩:=h
 rfl
theorem Wk.tab {W1 W:World} {p bm:Nat} {m:Mc} {ra va ma:Option Addr} {rc vc mc:Nat} (h:Wk W1 p bm W m ra va ma rc vc mc):TabK W:=h.tk.below h.fr
theorem Wk.ints {W1 W:World} {p bm:Nat} {m:Mc} {ra va ma:Option Addr} {rc vc mc:Nat} (h:Wk W1 p bm W m ra va ma rc vc mc):Ints W va m.vals:=by
 obtain ⟨a2,c2,e2,f2⟩:=h.vals.form
 cases e2
 exact f2.ints
theorem Wk.flags {W1 W:World} {p bm:Nat} {m:Mc} {ra va ma:Option Addr} {rc vc mc:Nat} (h:Wk W1 p bm W m ra va ma rc vc mc):Nd6.Bools W ra m.row:=by
 obtain ⟨a2,c2,e2,f2⟩:=h.row.form
 cases e2
 exact Nd6.WBools.plain f2
theorem Wk.va_ge {W1 W:World} {p bm:Nat} {m:Mc} {ra va ma:Option Addr} {rc vc mc:Nat} (h:Wk W1 p bm W m ra va ma rc vc mc) {k:Nat} (hk:At va k):W1.heap.size<=k/\k < W.heap.size:=h.vals.lt k (own_at hk)
theorem Wk.ra_ge {W1 W:World} {p bm:Nat} {m:Mc} {ra va ma:Option Addr} {rc vc mc:Nat} (h:Wk W1 p bm W m ra va ma rc vc mc) {k:Nat} (hk:At ra k):W1.heap.size<=k/\k < W.heap.size:=h.row.lt k (own_at hk)
theorem os_ge {W:World} {B:Nat} {ma:Option Addr} {n mc:Nat} {l:List Sn} (h:OwSo W B (.slice ma n mc) l) {k:Nat} (hk:At ma k):B<=k/\k < W.heap.size:=by
 obtain ⟨x,rfl,rfl⟩:=hk
 rcases h with ⟨e,_⟩|⟨g,o,cap,e,hb,H⟩
 ·cases e
 ·cases e
  exact ⟨hb,H.lt⟩
theorem Wk.ma_ge {W1 W:World} {p bm:Nat} {m:Mc} {ra va ma:Option Addr} {rc vc mc:Nat} (h:Wk W1 p bm W m ra va ma rc vc mc) {k:Nat} (hk:At ma k):W1.heap.size<=k/\k < W.heap.size:=os_ge h.memo hk
/-- Only the machine's own block has turned. -/
theorem Wk.only {W1 W W':World} {p bm:Nat} {m m':Mc} {ra va ma:Option Addr} {rc vc mc:Nat} (h:Wk W1 p bm W m ra va ma rc vc mc) (k:Kept (fun b=>b=p) W W') (hs:Sb W' p m' ra va ma rc vc mc bm) (e1:m'.row=m.row) (e2:m'.vals=m.vals) (e3:m'.memo=m.memo):Wk W1 p bm W' m' ra va ma rc vc mc:=by
 refine ⟨h.fr.trans (k.below (fun b hb=>by rw [hb];exact h.hp) h.fr.size),h.tk,by rw [e3];exact h.keys,hs,?_,?_,?_,?_,h.hp,h.hb,h.hn,h.rp,h.rb,h.vp,h.vb,h.mp,h.mb,h.rv,h.rm,h.vm⟩
 ·rw [e1];exact h.row.kept k (fun i hi e=>h.rp (e ▸ at_own hi))
 ·rw [e2];exact h.vals.kept k (fun i hi e=>h.vp (e ▸ at_own hi))
 ·rw [e3];exact h.memo.kept k (fun g o n c e hg=>h.mp (by cases e;exact ⟨_,rfl,hg.symm⟩))
 ·rw [e3];exact h.ms.kept k (fun e=>h.hn e.symm)
/-- Its values have turned. -/
theorem Wk.turned {W1 W W':World} {p bm:Nat} {m m':Mc} {ra va va' ma:Option Addr} {rc vc vc' mc:Nat} (h:Wk W1 p bm W m ra va ma rc vc mc) (k:Kept (fun b=>b=p\/At va b) W W') (hs:Sb W' p m' ra va' ma rc vc' mc bm) (e1:m'.row=m.row) (e3:m'.memo=m.memo)
 (ho:Ows W' W1.heap.size (.slice va' m'.vals.length vc') m'.vals) (hl:∀ b,At va' b->At va b\/W.heap.size<=b):Wk W1 p bm W' m' ra va' ma rc vc' mc:=by
 have hpl:=h.sb.lt
 have hml:=h.ms.lt
 refine ⟨h.fr.trans (k.below (fun b hb=>by rcases hb with e|e;(rw [e];exact h.hp);(exact (h.va_ge e).1)) h.fr.size),h.tk,by rw [e3];exact h.keys,hs,?_,ho,?_,?_,h.hp,h.hb,h.hn,h.rp,h.rb,fun e=>?_,fun e=>?_,h.mp,h.mb,fun b hr hv=>?_,h.rm,fun b hv hm=>?_⟩
 ·rw [e1];exact h.row.kept k (fun i hi e=>by rcases e with e|e;(exact h.rp (e ▸ at_own hi));(exact h.rv _ (at_own hi) e))
 ·rw [e3];exact h.memo.kept k (fun g o n c e hg=>by
   cases e
   rcases hg with hg|hg
   ·exact h.mp ⟨_,rfl,hg.symm⟩
   ·exact h.vm _ hg ⟨_,rfl,rfl⟩)
 ·rw [e3];exact h.ms.kept k (fun e=>by rcases e with e|e;(exact h.hn e.symm);(exact h.vb e))
 ·rcases hl _ e with e|e
  ·exact h.vp e
  ·omega
 ·rcases hl _ e with e|e
  ·exact h.vb e
  ·omega
 ·rcases hl _ hv with e|e
  ·exact h.rv _ hr e
  ·have:=h.ra_ge hr;omega
 ·rcases hl _ hv with e|e
  ·exact h.vm _ e hm
  ·have:=h.ma_ge hm;omega
theorem key_short {n:Nat} (hn:n<=12) (F:Nat->Bool):(bs (keyL n (tab n F))).size<=maxLen:=by
 have h1:=dec_short hn
 rw [bs_size] at h1
 have h2:=(p12 hn).2
 rw [bs_size]
 unfold keyL
 rw [List.length_append,List.length_cons,tab_length]
 unfold maxLen
 omega
theorem keep_keys {room:Int} {l:List Sn} {k:ByteArray} {r:Int} (h:∀ x∈l,x.k.size<=maxLen) (hk:k.size<=maxLen):∀ x∈keepM room l k r,x.k.size<=maxLen:=by
 have h1:∀ x∈l++[(⟨k,r⟩:Sn)],x.k.size<=maxLen:=fun x hx=>by
  rcases List.mem_append.1 hx with e|e
  ·exact h x e
  ·rw [List.mem_singleton.1 e];exact hk
 unfold keepM
 split
 ·split
  ·exact fun x hx=>h1 x (List.mem_of_mem_drop hx)
  ·exact h1
 ·exact h
/-- What it remembers has turned, and its values are less by the last one. -/
theorem Wk.gone {W1 W W' W2:World} {p bm:Nat} {m:Mc} {ra va ma ma':Option Addr} {rc vc mc mc':Nat} (K:ByteArray) (hK:K.size<=maxLen) (h:Wk W1 p bm W m ra va ma rc vc mc) (k:Kept (fun b=>b=p) W W2) (vl:List Int) (ho:Ows W2 W1.heap.size (.slice va vl.length vc) vl)
 (hr:RemPost W2 p bm W1.heap.size { m with vals:=vl } ra va ma rc vc K ma' mc' W'):Wk W1 p bm W' { m with vals:=vl,memo:=keepM m.room m.memo K m.ret } ra va ma' rc vc mc':=by
 obtain ⟨h1,h2,h3,h4,h5,h6,h7⟩:=hr
 have hs2:=k.size
 refine ⟨(h.fr.trans (k.below (fun b hb=>by rw [hb];exact h.hp) h.fr.size)).trans (h4.below (fun b hb=>by rcases hb with e|e|e;(rw [e];exact h.hp);(rw [e];exact h.hb);(exact (h.ma_ge e).1)) (by have:=h.fr.size;omega)),h.tk,keep_keys h.keys hK,h1,?_,?_,h3,h2,h.hp,h.hb,h.hn,h.rp,h.rb,h.vp,h.vb,h6,h7,h.rv,fun b hr hm=>?_,fun b hv hm=>?_⟩
 ·exact (h.row.kept k (fun i hi e=>h.rp (e ▸ at_own hi))).kept h4 (fun i hi e=>by
   rcases e with e|e|e
   ·exact h.rp (e ▸ at_own hi)
   ·exact h.rb (e ▸ at_own hi)
   ·exact h.rm _ (at_own hi) e)
 ·exact ho.kept h4 (fun i hi e=>by
   rcases e with e|e|e
   ·exact h.vp (e ▸ at_own hi)
   ·exact h.vb (e ▸ at_own hi)
   ·exact h.vm _ (at_own hi) e)
 ·rcases h5 _ hm with e|e
  ·exact h.rm _ hr e
  ·have:=h.ra_ge hr;omega
 ·rcases h5 _ hm with e|e
  ·exact h.vm _ hv e
  ·have:=h.va_ge hv;omega
theorem knw_bit (e:Nat) (G:Nat->Bool):bitB (knw e G)=true↔0<=knw e G:=by
 have:=knw_range e G
 unfold bitB
 rw [decide_eq_true_iff]
 omega
theorem ows_at {w:World} {B:Nat} {a:Option Addr} {n c:Nat} {l:List Int} (h:Ows w B (.slice a n c) l) (hl:1<=l.length):∃ g,a=some ⟨g,0,none⟩:=by
 rcases h.2 with ⟨e,h0⟩|⟨g,cap,cur,e,hb,hg,_⟩
 ·omega
 ·cases e
  exact ⟨g,rfl⟩
theorem keyF {room:Int} {m:Mc} {n:Nat} {F:Nat->Bool} {vl:List Int} (vb:List Bool) (e:vb=bools vl):bs (keyL (n - vb.length) (tab (n - vb.length) (lft n F vb)))=kyM n F vl:=by
 subst e
 rfl
/-- A step of the program. -/
theorem step_wk (n:Nat) (F:Nat->Bool) (W1 W:World) (p bm:Nat) (m:Mc) (ra va ma:Option Addr) (rc vc mc:Nat) (hn:n<=12) (hN:m.N=(n:Int)) (hS:m.S=bs (tab n F)) (ok:Mok m) (h:Wk W1 p bm W m ra va ma rc vc mc) (hov:m.over=false) (hst:m.steps < 1000000000) (hlo:m.looks < 1000000000) (hhi:m.hits < 1000000000) :
 Calls Tryz.prog 164 #[.pointer (some ⟨p,0,none⟩)] W fun e w'=>e=.returned (.tuple #[])/\∃ va' ma' vc' mc',Wk W1 p bm w' (stepM n F m) ra va' ma' rc vc' mc':=by
 obtain ⟨vb,hvb⟩:∃ vb,vb=bools m.vals:=⟨_,rfl⟩
 have hv:m.vals=vb.map bi:=by rw [hvb];exact bools_bi ok.bits
 have hvl:vb.length=m.vals.length:=by rw [hvb];exact bools_len _
 have hk:vb.length<=n:=by have:=ok.vals;omega
 have hks:=key_short (Nat.le_trans (Nat.sub_le n vb.length) hn) (lft n F vb)
 have hsteps:=ok.steps
 have hE:stepM n F m=if m.ret < 0 then downM n F vb { m with steps:=m.steps+1 } else upM n F { m with steps:=m.steps+1 }:=by
  unfold stepM
  rw [if_neg (by rw [hov];intro h;rcases h with h|h;(cases h);omega),hvb]
 by_cases hr:m.ret < 0
 ·rw [if_pos hr] at hE
  have hr1:m.ret = -1:=by have:=ok.ret;omega
  have hat:∀ W',Kept (fun b=>b=p) W W'->Sb W' p { m with steps:=m.steps+1 } ra va ma rc vc mc bm->Calls Tryz.prog 208 #[.pointer (some ⟨p,0,none⟩)] W' fun e w'=>e=.returned (.int .i64 (atD (knw (n - vb.length) (lft n F vb)) (sg m.memo (bs (keyL (n - vb.length) (tab (n - vb.length) (lft n F vb)))))))/\Below W'.heap.size W' w':=fun W' k hs=>by
   have h':=h.only k hs rfl rfl rfl
   exact iAtD n F vb W' p m.memo.length (sg m.memo) { m with steps:=m.steps+1 } ra va ma rc vc mc bm hn hN hS hv hk hks h'.ints h'.ms h'.tab hr1 hs
  by_cases hA:0<=knw (n - vb.length) (lft n F vb)
  ·have hD:atD (knw (n - vb.length) (lft n F vb)) (sg m.memo (bs (keyL (n - vb.length) (tab (n - vb.length) (lft n F vb)))))=0:=by
    unfold atD
    rw [if_pos ((knw_bit _ _).2 hA)]
   rw [hD] at hat
   have hE2:stepM n F m={ m with steps:=m.steps+1,ret:=knw (n - vb.length) (lft n F vb),looks:=m.looks+1 }:=by
    rw [hE]
    unfold downM
    rw [if_pos hA]
   rw [hE2]
   exact step_look W p m ra va ma rc vc mc bm _ ⟨hsteps.1,by omega⟩ h.sb hat fun W' k hs=>by
    have h':=h.only k hs rfl rfl rfl
    refine (iLook n F vb W' p { m with steps:=m.steps+1 } ra va ma rc vc mc bm hn hN hS hv hk ⟨ok.looks.1,by show m.looks<=_;omega⟩ h'.ints hs).mono ?_
    rintro e w' ⟨rfl,h2,h3⟩
    exact ⟨rfl,va,ma,vc,mc,h'.only h3 h2 rfl rfl rfl⟩
  by_cases hf:0<=fnd m.memo (bs (keyL (n - vb.length) (tab (n - vb.length) (lft n F vb))))
  ·have hsg:sg m.memo (bs (keyL (n - vb.length) (tab (n - vb.length) (lft n F vb))))=some (fnd m.memo (bs (keyL (n - vb.length) (tab (n - vb.length) (lft n F vb))))):=by
    unfold sg
    rw [if_pos hf]
   have hD:atD (knw (n - vb.length) (lft n F vb)) (sg m.memo (bs (keyL (n - vb.length) (tab (n - vb.length) (lft n F vb)))))=1:=by
    unfold atD
    rw [if_neg (fun e=>hA ((knw_bit _ _).1 e)),hsg]
    rfl
   rw [hD] at hat
   have hE2:stepM n F m={ m with steps:=m.steps+1,ret:=fnd m.memo (bs (keyL (n - vb.length) (tab (n - vb.length) (lft n F vb)))),hits:=m.hits+1 }:=by
    rw [hE]
    unfold downM
    rw [if_neg hA]
    exact if_pos hf
   rw [hE2]
   exact step_recall W p m ra va ma rc vc mc bm _ ⟨hsteps.1,by omega⟩ h.sb hat fun W' k hs=>by
    have h':=h.only k hs rfl rfl rfl
    refine (iRecall n F vb W' p m.memo.length (sg m.memo) { m with steps:=m.steps+1 } ra va ma rc vc mc bm hn hN hS hv hk hks h'.ints h'.ms h'.tab _ hsg ⟨ok.hits.1,by show m.hits<=_;omega⟩ hs).mono ?_
    rintro e w' ⟨rfl,h2,h3⟩
    exact ⟨rfl,va,ma,vc,mc,h'.only h3 h2 rfl rfl rfl⟩
  ·have hsg:sg m.memo (bs (keyL (n - vb.length) (tab (n - vb.length) (lft n F vb))))=none:=by
    unfold sg
    rw [if_neg hf]
   have hD:atD (knw (n - vb.length) (lft n F vb)) (sg m.memo (bs (keyL (n - vb.length) (tab (n - vb.length) (lft n F vb)))))=2:=by
    unfold atD
    rw [if_neg (fun e=>hA ((knw_bit _ _).1 e)),hsg]
    rfl
   rw [hD] at hat
   have hE2:stepM n F m={ m with steps:=m.steps+1,vals:=m.vals++[0] }:=by
    rw [hE]
    unfold downM
    rw [if_neg hA]
    exact if_neg hf
   rw [hE2]
   exact step_goDown W p m ra va ma rc vc mc bm _ ⟨hsteps.1,by omega⟩ h.sb hat fun W' k hs=>by
    have h':=h.only k hs rfl rfl rfl
    refine (iGoDown W' p W1.heap.size { m with steps:=m.steps+1 } ra va ma rc vc mc bm (by show m.vals.length<=12;omega) h'.fr.size (fun x hx e=>h.vp ⟨x,hx,e.symm⟩) h'.vals hs).mono ?_
    rintro e w' ⟨rfl,g,cp,h2,h3,h4,h5⟩
    exact ⟨rfl,some ⟨g,0,none⟩,ma,cp,mc,h'.turned h4 h2 rfl rfl h3 (fun b hb=>by obtain ⟨x,hx,rfl⟩:=hb;cases hx;exact h5)⟩
 ·rw [if_neg hr] at hE
  have hrm:¬ m.ret = -1:=by omega
  have hret:=ok.ret
  by_cases he:m.vals=[]
  ·have hE2:stepM n F m={ m with steps:=m.steps+1,over:=true }:=by
    rw [hE]
    unfold upM
    exact if_pos he
   rw [hE2]
   refine Mw8.step_end W p m ra va ma rc vc mc bm _ ⟨hsteps.1,by omega⟩ h.sb (fun W' k hs=>?_) fun W' k hs=>?_
   ·refine (iAtTop W' p { m with steps:=m.steps+1 } ra va ma rc vc mc bm hrm he hs).mono ?_
    rintro e w' ⟨rfl,rfl⟩
    exact ⟨rfl,Below.refl _ _⟩
   ·have h':=h.only k hs rfl rfl rfl
    refine (iEnd W' p { m with steps:=m.steps+1 } ra va ma rc vc mc bm hs).mono ?_
    rintro e w' ⟨rfl,h2,h3⟩
    exact ⟨rfl,va,ma,vc,mc,h'.only h3 h2 rfl rfl rfl⟩
  obtain ⟨vl,hvl2⟩:∃ vl,vl=m.vals.dropLast:=⟨_,rfl⟩
  obtain ⟨x,hx⟩:∃ x,x=m.vals.getLastD 0:=⟨_,rfl⟩
  have hd:m.vals=vl++[x]:=by rw [hvl2,hx];exact drop_last he
  have hdl:vl.length+1=m.vals.length:=by rw [hd,List.length_append];rfl
  have hrl:vl.length < m.row.length:=by have:=ok.row;have:=ok.vals;omega
  have hx01:=ok.bits x (by rw [hd];simp)
  obtain ⟨d,hdd⟩:∃ d,m.row[vl.length]=d:=⟨_,rfl⟩
  have hgd:m.row.getD vl.length false=d:=by rw [<- hdd];simp [List.getD,List.getElem?_eq_getElem hrl]
  have hat:∀ W',Kept (fun b=>b=p) W W'->Sb W' p { m with steps:=m.steps+1 } ra va ma rc vc mc bm->Calls Tryz.prog 208 #[.pointer (some ⟨p,0,none⟩)] W' fun e w'=>e=.returned (.int .i64 (if ((m.ret==b01 (!d))||(x==1))=true then 4 else 5))/\Below W'.heap.size W' w':=fun W' k hs=>by
   have h':=h.only k hs rfl rfl rfl
   refine (iAtUp vl x d W' p { m with steps:=m.steps+1 } ra va ma rc vc mc bm hrm hd (by omega) hrl hdd h'.ints h'.flags hs).mono ?_
   rintro e w' ⟨rfl,q,rfl⟩
   exact ⟨rfl,⟨rfl,rfl,rfl,Nat.le_refl _,fun _ _=>rfl⟩⟩
  obtain ⟨g,hg⟩:=ows_at h.vals (by omega)
  subst hg
  have hE3:stepM n F m=if (d != (m.ret==0))&&(x==0) then { m with steps:=m.steps+1,vals:=vl++[1],ret := -1 } else { m with steps:=m.steps+1,vals:=vl,memo:=keepM m.room m.memo (kyM n F vl) m.ret }:=by
   rw [hE]
   unfold upM
   rw [if_neg he]
   show (if (m.row.getD m.vals.dropLast.length false != (m.ret==0))&&(m.vals.getLastD 0==0) then _ else _)=_
   rw [<- hvl2,<- hx,hgd]
  by_cases ht:((d != (m.ret==0))&&(x==0))=true
  ·rw [if_pos ht] at hE3
   rw [hE3]
   have hx0:x=0:=by
    have h2:=(Bool.and_eq_true _ _ ▸ ht).2
    simpa using h2
   subst hx0
   have ht2:((m.ret==b01 (!d))||((0:Int)==1))=false:=by
    have h2:=(Bool.and_eq_true _ _ ▸ ht).1
    have hr2:m.ret=0\/m.ret=1:=by omega
    rcases hr2 with e|e<;>rw [e] at h2 ⊢ <;> cases d<;>revert h2<;>decide
   rw [ht2] at hat
   refine Mw8.step_turn W p m ra (some ⟨g,0,none⟩) ma rc vc mc bm _ ⟨hsteps.1,by omega⟩ h.sb hat fun W' k hs=>?_
   have h':=h.only k hs rfl rfl rfl
   refine (iTurn vl W' p W1.heap.size g { m with steps:=m.steps+1 } ra (some ⟨g,0,none⟩) ma rc vc mc bm hd (by omega) rfl (fun e=>h.vp ⟨_,rfl,e⟩) h'.vals hs).mono ?_
   rintro e w' ⟨rfl,h2,h3,h4⟩
   exact ⟨rfl,some ⟨g,0,none⟩,ma,vc,mc,h'.turned (h4.mono (fun b hb=>by rcases hb with e|e;(exact .inl e);(exact .inr ⟨_,rfl,e⟩))) h2 rfl rfl h3 (fun b hb=>.inl hb)⟩
  ·rw [if_neg ht] at hE3
   rw [hE3]
   have ht2:((m.ret==b01 (!d))||(x==1))=true:=by
    have hr2:m.ret=0\/m.ret=1:=by omega
    have hx2:x=0\/x=1:=by omega
    rcases hr2 with e|e<;>rcases hx2 with e2|e2<;>rw [e,e2] at ht ⊢ <;> cases d<;>revert ht<;>decide
   rw [ht2] at hat
   refine step_goUp W p m ra (some ⟨g,0,none⟩) ma rc vc mc bm _ ⟨hsteps.1,by omega⟩ h.sb hat fun W' k hs=>?_
   have h':=h.only k hs rfl rfl rfl
   have hcap:=ows_cap h.vals
   refine iGoUp vl x W' p g { m with steps:=m.steps+1 } ra (some ⟨g,0,none⟩) ma rc vc mc bm hd (by omega) rfl (by omega) hs _ fun W2 hs2 k2=>?_
   obtain ⟨vb2,hvb2⟩:∃ vb2,vb2=bools vl:=⟨_,rfl⟩
   have hbl:∀ y∈vl,0<=y/\y<=1:=fun y hy=>ok.bits y (by rw [hd];simp [hy])
   have hv2:vl=vb2.map bi:=by rw [hvb2];exact bools_bi hbl
   have hl2:vb2.length=vl.length:=by rw [hvb2];exact bools_len _
   have hks2:=key_short (Nat.le_trans (Nat.sub_le n vb2.length) hn) (lft n F vb2)
   have hov2:Ows W2 W1.heap.size (.slice (some ⟨g,0,none⟩) vl.length vc) vl:=by
    have h1:=ows_take (h'.vals.kept k2 (fun i hi e=>h.vp (e ▸ at_own hi))) vl.length (by show vl.length<=m.vals.length;omega)
    have h2:({ m with steps:=m.steps+1 }:Mc).vals.take vl.length=vl:=by
     show m.vals.take vl.length=vl
     rw [hd];simp
    rw [h2] at h1
    exact h1
   have hi2:Ints W2 (some ⟨g,0,none⟩) vl:=by
    obtain ⟨a2,c2,e2,f2⟩:=hov2.form
    cases e2
    exact f2.ints
   refine (iRem n F vb2 W2 p { m with steps:=m.steps+1,vals:=vl } ra (some ⟨g,0,none⟩) ma rc vc mc bm hn hN hS hv2 (by omega) hks2 hi2 (h'.ms.kept k2 (fun e=>h.hn e.symm)) (h.tk.below (h'.fr.trans (k2.below (fun b hb=>by rw [hb];exact h.hp) h'.fr.size))) hs2 W1.heap.size (by have:=h'.fr.size;have:=k2.size;omega) ok.room ok.memo ok.seen ok.keys h.keys (by show 0<=m.ret/\m.ret<=1;omega) (h'.memo.kept k2 (fun g o n c e hg=>h.mp (by cases e;exact ⟨_,rfl,hg.symm⟩))) h.hn h.mp h.mb).mono ?_
   rintro e w' ⟨rfl,ma',mc',hrem⟩
   refine ⟨rfl,some ⟨g,0,none⟩,ma',vc,mc',?_⟩
   have:=h'.gone _ hks2 k2 vl hov2 hrem
   rw [show kyM n F vl=bs (keyL (n - vb2.length) (tab (n - vb2.length) (lft n F vb2))) by rw [hvb2];rfl]
   exact this
end Mw19
namespace Mw14
open Go.RowKit
open Nd0 (Kept Ints lt_of_cell At)
open Mm0 Mx0 Mu2 Mw0
end Mw14
end Go.Proofs.YtladjpombohpaaaGreatDoor
