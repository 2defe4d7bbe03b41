import Derived.Test.YtladjpombohpaaaGreatDoorMu5
import Derived.Test.YtladjpombohpaaaGreatDoorPkJE30
namespace Go.Proofs.YtladjpombohpaaaGreatDoor
set_option maxRecDepth 100000
set_option maxHeartbeats 8000000
set_option linter.unusedVariables false
namespace Mu6
open Go.RowKit
open Qc0 (Sn)
open Mm0 Mu1 Mu3 Mu5
open Ta0 Ta1 Ta2 Ta3 Tc2 Td1 Mc0 Mm1
open Tk0 (keyL)
open Ss0 (bs)
open Ss1 (tl)
/-- Values as flags. -/
def bools (l:List Int):List Bool:=l.map fun x=>decide (x=1)
theorem bools_bi {l:List Int} (h:∀ x∈l,0<=x/\x<=1):l=(bools l).map bi:=by
 unfold bools
 rw [List.map_map]
 conv=>lhs;rw [<- List.map_id l]
 apply List.map_congr_left
 intro x hx
 have:=h x hx
 have hx2:x=0\/x=1:=by omega
 rcases hx2 with rfl|rfl<;>rfl
theorem bools_len (l:List Int):(bools l).length=l.length:=by unfold bools;rw [List.length_map]
/-- The key of what is left. -/
def kyM (n:Nat) (F:Nat->Bool) (l:List Int):ByteArray:=bs (keyL (n - (bools l).length) (tab (n - (bools l).length) (lft n F (bools l))))
/-- The way up. -/
def upM (n:Nat) (F:Nat->Bool) (m:Mc):Mc :=
 if m.vals=[] then { m with over:=true }
 else if (m.row.getD m.vals.dropLast.length false != (m.ret==0))&&(m.vals.getLastD 0==0) then { m with vals:=m.vals.dropLast++[1],ret := -1 }
 else { m with vals:=m.vals.dropLast,memo:=keepM m.room m.memo (kyM n F m.vals.dropLast) m.ret }
/-- A step. -/
def stepM (n:Nat) (F:Nat->Bool) (m:Mc):Mc :=
 if m.over=true\/1000000000<=m.steps then m
 else if m.ret < 0 then downM n F (bools m.vals) { m with steps:=m.steps+1 } else upM n F { m with steps:=m.steps+1 }
theorem fnd_in {l:List Sn} {k:ByteArray} (h:0<=fnd l k):∃ x∈l,x.k=k/\x.r=fnd l k:=by
 induction l with
 | nil=>exact absurd (show (0:Int) <= -1 from h) (by decide)
 | cons x r ih =>
   unfold fnd at h ⊢
   by_cases e:x.k=k
   ·rw [if_pos e];exact ⟨x,List.mem_cons_self,e,rfl⟩
   ·rw [if_neg e] at h ⊢
    obtain ⟨y,hy,h1,h2⟩:=ih h
    exact ⟨y,List.mem_cons_of_mem _ hy,h1,h2⟩
theorem fnd_not {l:List Sn} {k:ByteArray} (hr:∀ x∈l,0<=x.r/\x.r<=1) (h:fnd l k < 0):∀ x∈l,x.k≠k:=by
 induction l with
 | nil=>intro x hx;cases hx
 | cons y r ih =>
   intro x hx
   unfold fnd at h
   by_cases e:y.k=k
   ·rw [if_pos e] at h
    have:=hr y List.mem_cons_self
    omega
   ·rw [if_neg e] at h
    rcases List.mem_cons.1 hx with rfl|hx
    ·exact e
    ·exact ih (fun z hz=>hr z (List.mem_cons_of_mem _ hz)) h x hx
theorem apart_snoc {l:List Sn} {y:Sn} (h:apart l) (hn:∀ x∈l,x.k≠y.k):apart (l++[y]):=by
 intro i j hi hj hji
 rw [List.length_append,List.length_singleton] at hi hj
 have hjl:j < l.length:=by omega
 rw [List.getElem_append_left hjl]
 by_cases e:i < l.length
 ·rw [List.getElem_append_left e]
  exact h i j e hjl hji
 ·have:(l++[y])[i]'(by rw [List.length_append];simpa using hi)=y:=by
   rw [List.getElem_append_right (by omega)]
   simp
  rw [this]
  exact hn _ (List.getElem_mem hjl)
theorem apart_drop {l:List Sn} (h:apart l):apart (l.drop 1):=by
 intro i j hi hj hji
 rw [List.length_drop] at hi hj
 rw [List.getElem_drop,List.getElem_drop]
 exact h (1+i) (1+j) (by omega) (by omega) (by omega)
theorem keepM_ok {room:Int} {l:List Sn} {k:ByteArray} {r:Int} (hl:(l.length:Int)<=room) (hs:∀ x∈l,0<=x.r/\x.r<=1) (ha:apart l) (hr:0<=r/\r<=1):((keepM room l k r).length:Int)<=room/\(∀ x∈keepM room l k r,0<=x.r/\x.r<=1)/\apart (keepM room l k r):=by
 unfold keepM
 by_cases h:0 < room/\fnd l k < 0
 ·rw [if_pos h]
  have h1:∀ x∈l++[(⟨k,r⟩:Sn)],0<=x.r/\x.r<=1:=fun x hx=>by
   rcases List.mem_append.1 hx with e|e
   ·exact hs x e
   ·rw [List.mem_singleton.1 e];exact hr
  have h2:apart (l++[(⟨k,r⟩:Sn)]):=apart_snoc ha (fnd_not hs h.2)
  by_cases e:room < ((l++[(⟨k,r⟩:Sn)]).length:Int)
  ·rw [if_pos e]
   refine ⟨?_,fun x hx=>h1 x (List.mem_of_mem_drop hx),apart_drop h2⟩
   rw [List.length_drop,List.length_append,List.length_singleton]
   omega
  ·rw [if_neg e]
   exact ⟨by omega,h1,h2⟩
 ·rw [if_neg h]
  exact ⟨hl,hs,ha⟩
theorem knw_range (e:Nat) (G:Nat->Bool) : -1<=knw e G/\knw e G<=1:=by
 unfold knw
 split
 ·omega
 ·split<;>omega
theorem knw_full {G:Nat->Bool}:0<=knw 0 G:=by
 rw [knw_same (fun j hj=>by have:j=0:=(by simpa using hj);rw [this])]
 omega
theorem drop_last {l:List Int} (h:l≠[]):l=l.dropLast++[l.getLastD 0]:=by
 have h1:=(List.dropLast_concat_getLast h).symm
 have h2:l.getLastD 0=l.getLast h:=by
  rw [List.getLastD_eq_getLast?,List.getLast?_eq_some_getLast h]
  rfl
 rw [h2]
 exact h1
/-- A right machine stays right. -/
theorem step_ok {n:Nat} {F:Nat->Bool} {m:Mc} (h:Mok m) (hN:m.N=(n:Int)) (hl:m.looks < 1000000000) (hh:m.hits < 1000000000):Mok (stepM n F m)/\(stepM n F m).N=m.N/\(stepM n F m).S=m.S/\(stepM n F m).row=m.row/\(stepM n F m).room=m.room:=by
 obtain ⟨h1,h2,h3,h4,h5,h6,h7,h8,h9,h10,h11,h12,h13⟩:=h
 unfold stepM
 by_cases ho:m.over=true\/1000000000<=m.steps
 ·rw [if_pos ho]
  exact ⟨⟨h1,h2,h3,h4,h5,h6,h7,h8,h9,h10,h11,h12,h13⟩,rfl,rfl,rfl,rfl⟩
 rw [if_neg ho]
 have hov:m.over=false:=by
  cases e:m.over
  ·rfl
  ·exact absurd (.inl e) ho
 have hst:¬ 1000000000<=m.steps:=fun e=>ho (.inr e)
 have h8':0<=m.steps+1/\m.steps+1<=1000000000:=by omega
 by_cases hr:m.ret < 0
 ·rw [if_pos hr]
  unfold downM
  by_cases hA:0<=knw (n - (bools m.vals).length) (lft n F (bools m.vals))
  ·rw [if_pos hA]
   have hk:=knw_range (n - (bools m.vals).length) (lft n F (bools m.vals))
   refine ⟨⟨h1,h2,h3,h4,h5,hk,fun e=>?_,h8',?_,h10,h11,h12,h13⟩,rfl,rfl,rfl,rfl⟩
   ·exact absurd (show m.over=true from e) (by rw [hov];simp)
   ·show 0<=m.looks+1/\m.looks+1<=1000000000
    omega
  ·rw [if_neg hA]
   split
   ·rename_i hf
    obtain ⟨x,hx,hxk,hxr⟩:=fnd_in hf
    have:=h12 x hx
    refine ⟨⟨h1,h2,h3,h4,h5,?_,fun e=>?_,h8',h9,?_,h11,h12,h13⟩,rfl,rfl,rfl,rfl⟩
    ·show -1<=fnd m.memo _/\fnd m.memo _<=1
     rw [<- hxr]
     omega
    ·exact absurd (show m.over=true from e) (by rw [hov];simp)
    ·show 0<=m.hits+1/\m.hits+1<=1000000000
     omega
   ·refine ⟨⟨h1,h2,h3,h4,?_,h6,fun e=>?_,h8',h9,h10,fun x hx=>?_,h12,h13⟩,rfl,rfl,rfl,rfl⟩
    ·show (((m.vals++[0]).length:Nat):Int)<=m.N
     rw [List.length_append,List.length_singleton]
     have hlt:(bools m.vals).length < n:=by
      apply Classical.byContradiction
      intro hc
      have e:n - (bools m.vals).length=0:=by omega
      rw [e] at hA
      exact hA knw_full
     rw [bools_len] at hlt
     omega
    ·exact absurd (show m.over=true from e) (by rw [hov];simp)
    ·rcases List.mem_append.1 hx with e|e
     ·exact h11 x e
     ·rw [List.mem_singleton.1 e];omega
 ·rw [if_neg hr]
  unfold upM
  by_cases hv:m.vals=[]
  ·rw [if_pos hv]
   exact ⟨⟨h1,h2,h3,h4,h5,h6,fun _=>⟨by show 0<=m.ret;omega,by show m.vals.length=0;rw [hv];rfl⟩,h8',h9,h10,h11,h12,h13⟩,rfl,rfl,rfl,rfl⟩
  ·rw [if_neg hv]
   have hd:=drop_last hv
   have hdl:m.vals.dropLast.length+1=m.vals.length:=by
    have:=congrArg List.length hd
    rw [List.length_append,List.length_singleton] at this
    omega
   have hmem:∀ x∈m.vals.dropLast,x∈m.vals:=fun x hx=>List.dropLast_subset _ hx
   split
   ·refine ⟨⟨h1,h2,h3,h4,?_,⟨by show (-1:Int) <= -1;omega,by show (-1:Int)<=1;omega⟩,fun e=>?_,h8',h9,h10,fun x hx=>?_,h12,h13⟩,rfl,rfl,rfl,rfl⟩
    ·show (((m.vals.dropLast++[1]).length:Nat):Int)<=m.N
     rw [List.length_append,List.length_singleton]
     omega
    ·exact absurd (show m.over=true from e) (by rw [hov];simp)
    ·rcases List.mem_append.1 hx with e|e
     ·exact h11 x (hmem x e)
     ·rw [List.mem_singleton.1 e];omega
   ·obtain ⟨k1,k2,k3⟩:=keepM_ok (k:=kyM n F m.vals.dropLast) (r:=m.ret) h4 h12 h13 (by omega)
    refine ⟨⟨h1,h2,h3,k1,?_,h6,fun e=>?_,h8',h9,h10,fun x hx=>h11 x (hmem x hx),k2,k3⟩,rfl,rfl,rfl,rfl⟩
    ·show ((m.vals.dropLast.length:Nat):Int)<=m.N
     omega
    ·exact absurd (show m.over=true from e) (by rw [hov];simp)
end Mu6
namespace Mw17
open Go.RowKit
open Qc0 (Sn)
open Ms0 (putF delF)
open Mm0 Mu1 Mu3 Mu5 Mu6 Mi1
def sg (l:List Sn):ByteArray->Option Int:=fun k=>if 0<=fnd l k then some (fnd l k) else none
theorem fnd_snoc {l:List Sn} {y:Sn} (hr:∀ x∈l,0<=x.r/\x.r<=1) (q:ByteArray):fnd (l++[y]) q=if 0<=fnd l q then fnd l q else if y.k=q then y.r else -1:=by
 induction l with
 | nil=>rfl
 | cons x l ih =>
   have h1:=ih (fun z hz=>hr z (List.mem_cons_of_mem _ hz))
   show fnd (x :: (l++[y])) q=_
   unfold fnd
   by_cases e:x.k=q
   ·have h2:=(hr x List.mem_cons_self).1
    rw [if_pos e,if_pos e,if_pos h2]
   ·rw [if_neg e,if_neg e]
    exact h1
theorem fnd_none {l:List Sn} {k:ByteArray} (h:∀ x∈l,x.k≠k):fnd l k = -1:=by
 induction l with
 | nil=>rfl
 | cons x l ih =>
   unfold fnd
   rw [if_neg (h x List.mem_cons_self)]
   exact ih fun z hz=>h z (List.mem_cons_of_mem _ hz)
theorem sg_snoc {l:List Sn} {y:Sn} (hr:∀ x∈l,0<=x.r/\x.r<=1) (hy:0<=y.r) (hn:∀ x∈l,x.k≠y.k):putF (sg l) y.k y.r=sg (l++[y]):=by
 funext q
 unfold putF sg
 rw [fnd_snoc hr]
 by_cases e:q=y.k
 ·subst e
  have e1:(if (0:Int) <= -1 then (-1:Int) else if y.k=y.k then y.r else -1)=y.r:=by rw [if_neg (by decide),if_pos rfl]
  rw [fnd_none hn,if_pos rfl,e1,if_pos hy]
 ·rw [if_neg e]
  by_cases h:0<=fnd l q
  ·rw [if_pos h,if_pos h,if_pos h]
  ·have e1:(if 0<=fnd l q then fnd l q else if y.k=q then y.r else -1) = -1:=by rw [if_neg h,if_neg (fun e2=>e e2.symm)]
   rw [e1,if_neg h,if_neg (by decide)]
theorem sg_tail {x:Sn} {l:List Sn} (hn:∀ z∈l,z.k≠x.k):delF (sg (x :: l)) x.k=sg l:=by
 funext q
 unfold delF sg
 by_cases e:q=x.k
 ·subst e
  rw [if_pos rfl,fnd_none hn,if_neg (by decide)]
 ·rw [if_neg e]
  have:fnd (x :: l) q=fnd l q:=by
   conv=>lhs;unfold fnd
   rw [if_neg (fun h=>e h.symm)]
  rw [this]
theorem says_pre (l:List Sn) (y:Sn) (j:Nat) (h:j<=l.length):says (l++[y]) j=says l j:=by
 induction j with
 | zero=>rfl
 | succ j ih =>
   have e:(l++[y]).getD j Sn.zero=l.getD j Sn.zero:=by
    simp [List.getD,List.getElem?_append_left (show j < l.length by omega)]
   show putF (says (l++[y]) j) ((l++[y]).getD j Sn.zero).k ((l++[y]).getD j Sn.zero).r=putF (says l j) (l.getD j Sn.zero).k (l.getD j Sn.zero).r
   rw [e,ih (by omega)]
theorem apart_init {l:List Sn} {y:Sn} (h:apart (l++[y])):apart l/\∀ x∈l,x.k≠y.k:=by
 constructor
 ·intro i j hi hj hji
  have:=h i j (by rw [List.length_append];omega) (by rw [List.length_append];omega) hji
  rw [List.getElem_append_left hi,List.getElem_append_left hj] at this
  exact this
 ·intro x hx
  obtain ⟨i,hi,rfl⟩:=List.getElem_of_mem hx
  have:=h l.length i (by simp) (by rw [List.length_append];omega) hi
  rw [List.getElem_append_left hi,List.getElem_append_right (by omega)] at this
  simpa using this
theorem says_sg (l:List Sn):(∀ x∈l,0<=x.r/\x.r<=1)->apart l->says l l.length=sg l:=by
 intro hr ha
 generalize hk:l.length=k
 induction k generalizing l with
 | zero =>
   have:l=[]:=List.eq_nil_of_length_eq_zero hk
   subst this
   rfl
 | succ k ih =>
   have hne:l≠[]:=fun e=>by subst e;cases hk
   have hl:=(List.dropLast_concat_getLast hne).symm
   generalize l.dropLast=r at hl
   generalize l.getLast hne=y at hl
   subst hl
   have hlen:r.length=k:=by rw [List.length_append] at hk;simpa using hk
   obtain ⟨h1,h2⟩:=apart_init ha
   have hy:=hr y (by simp)
   have hrr:∀ x∈r,0<=x.r/\x.r<=1:=fun x hx=>hr x (by simp [hx])
   have e:(r++[y]).getD k Sn.zero=y:=by simp [List.getD,<- hlen]
   show putF (says (r++[y]) k) ((r++[y]).getD k Sn.zero).k ((r++[y]).getD k Sn.zero).r=_
   rw [e,says_pre r y k (by omega),ih r hrr h1 hlen,sg_snoc hrr hy.1 h2]
theorem apart_tail {x:Sn} {l:List Sn} (h:apart (x :: l)):apart l/\∀ z∈l,z.k≠x.k:=by
 constructor
 ·intro i j hi hj hji
  have:=h (i+1) (j+1) (by simpa using hi) (by simpa using hj) (by omega)
  simpa using this
 ·intro z hz
  obtain ⟨i,hi,rfl⟩:=List.getElem_of_mem hz
  have:=h (i+1) 0 (by simpa using hi) (by simp) (by omega)
  intro e
  exact this (by simpa using e.symm)
end Mw17
namespace Mw18
open Go.RowKit
open Nd0 (Kept Ints lt_of_cell At)
open Mm0 Mx0 Mu2 Mw0 Mw9 Ms0 Tk0 Qc0 Mw17 Mu1 Mu5
open Ta1 Ta2 Mc0 Mm1
open Ss0 (bs)
structure RemPost (w:World) (p bm B:Nat) (m:Mc) (ra va ma:Option Addr) (rc vc:Nat) (K:ByteArray) (ma':Option Addr) (mc':Nat) (w':World):Prop where
 sb:Sb w' p { m with memo:=keepM m.room m.memo K m.ret } ra va ma' rc vc mc' bm
 ms:Ms w' bm (keepM m.room m.memo K m.ret).length (sg (keepM m.room m.memo K m.ret))
 own:OwSo w' B (.slice ma' (keepM m.room m.memo K m.ret).length mc') (keepM m.room m.memo K m.ret)
 kept:Kept (fun b=>b=p\/b=bm\/At ma b) w w'
 lies:∀ b,At ma' b->At ma b\/w.heap.size<=b
 np:¬ At ma' p
 nb:¬ At ma' bm
theorem sg_some (l:List Sn) (k:ByteArray):(sg l k).isSome=true↔0<=fnd l k:=by
 unfold sg
 by_cases h:0<=fnd l k
 ·rw [if_pos h];simp [h]
 ·rw [if_neg h];simp [h]
theorem fnd_lt {l:List Sn} {k:ByteArray} (h:¬ 0<=fnd l k):sg l k=none:=by
 unfold sg
 rw [if_neg h]
theorem iRem (n:Nat) (F:Nat->Bool) (vb:List Bool) (w:World) (p:Nat) (m:Mc) (ra va ma:Option Addr) (rc vc mc bm:Nat) (hn:n<=12) (hN:m.N=(n:Int)) (hS:m.S=bs (tab n F)) (hv:m.vals=vb.map bi) (hk:vb.length<=n) (hks:(bs (keyL (n - vb.length) (tab (n - vb.length) (lft n F vb)))).size<=maxLen) (hI:Ints w va m.vals) (hM:Ms w bm m.memo.length (sg m.memo)) (hT:TabK w) (h:Sb w p m ra va ma rc vc mc bm)
 (B:Nat) (hB:B<=w.heap.size) (hroom:0<=m.room/\m.room<=40) (hlen:(m.memo.length:Int)<=m.room) (hbits:∀ x∈m.memo,0<=x.r/\x.r<=1) (hap:apart m.memo) (hkeys:∀ x∈m.memo,x.k.size<=maxLen) (hrt:0<=m.ret/\m.ret<=1) (hO:OwSo w B (.slice ma m.memo.length mc) m.memo) (hpb:¬ p=bm) (hpa:¬ At ma p) (hba:¬ At ma bm) :
 Calls Tryz.prog 260 #[.pointer (some ⟨p,0,none⟩)] w fun e w'=>e=.returned (.tuple #[])/\∃ ma' mc',RemPost w p bm B m ra va ma rc vc (bs (keyL (n - vb.length) (tab (n - vb.length) (lft n F vb)))) ma' mc' w':=by
 have same:keepM m.room m.memo (bs (keyL (n - vb.length) (tab (n - vb.length) (lft n F vb)))) m.ret=m.memo->∀ w',Below w.heap.size w w'->∃ ma' mc',RemPost w p bm B m ra va ma rc vc (bs (keyL (n - vb.length) (tab (n - vb.length) (lft n F vb)))) ma' mc' w':=by
  intro hE w' hb
  refine ⟨ma,mc,?_,?_,?_,Kept.ofBelow hb,fun b hb=>.inl hb,hpa,hba⟩
  ·rw [hE];exact h.below hb
  ·rw [hE];exact hM.below hb
  ·rw [hE];exact hO.kept (S:=fun _=>False) (Kept.ofBelow hb) (fun _ _ _ _ _ h=>h)
 by_cases hs:0<=fnd m.memo (bs (keyL (n - vb.length) (tab (n - vb.length) (lft n F vb))))
 ·refine (Mw11.iRemSeen n F vb w p _ _ m ra va ma rc vc mc bm hn hN hS hv hk hks hI hM hT h ((sg_some _ _).2 hs)).mono ?_
  rintro e w' ⟨rfl,hb⟩
  exact ⟨rfl,same (by unfold keepM;rw [if_neg (by omega)]) w' hb⟩
 have hnone:=fnd_lt hs
 by_cases hr:m.room=0
 ·refine (Mw11.iRemNoRoom n F vb w p _ _ m ra va ma rc vc mc bm hn hN hS hv hk hks hI hM hT h hnone hr).mono ?_
  rintro e w' ⟨rfl,hb⟩
  exact ⟨rfl,same (by unfold keepM;rw [if_neg (by omega)]) w' hb⟩
 have hfn:=Mu6.fnd_not hbits (by omega:fnd m.memo (bs (keyL (n - vb.length) (tab (n - vb.length) (lft n F vb)))) < 0)
 by_cases hne:(m.memo.length:Int)=m.room
 ·obtain ⟨x,l,hm⟩:∃ x l,m.memo=x :: l:=by
   cases hml:m.memo with
   | nil=>rw [hml] at hne;exact absurd hne.symm hr
   | cons x l=>exact ⟨x,l,rfl⟩
  have hE:keepM m.room m.memo (bs (keyL (n - vb.length) (tab (n - vb.length) (lft n F vb)))) m.ret=l++[⟨bs (keyL (n - vb.length) (tab (n - vb.length) (lft n F vb))),m.ret⟩]:=by
   unfold keepM
   rw [if_pos (by omega),if_pos (by rw [List.length_append,List.length_singleton];omega),hm]
   rfl
  have hap2:=hap
  have hbits2:=hbits
  have hfn2:=hfn
  have hM2:=hM
  rw [hm] at hap2 hbits2 hfn2 hM2
  obtain ⟨ha1,ha2⟩:=apart_tail hap2
  have hx:=hbits2 x List.mem_cons_self
  have hxs:(sg m.memo x.k).isSome=true:=by
   rw [sg_some,hm]
   unfold fnd
   rw [if_pos rfl]
   exact hx.1
  have hll:(l.length:Int)+1=m.room:=by rw [hm,List.length_cons] at hne;exact_mod_cast hne
  refine (Mw13.iRemFull n F vb w p l.length x l (sg m.memo) m ra va ma rc vc mc bm hn hN hS hv hk hks hI (by rw [hm];exact hM2) hT h B hB hnone hr hm hne (hkeys x (by rw [hm];exact List.mem_cons_self)) hxs hrt (by omega) (by omega) hO hpb hpa hba).mono ?_
  rintro e w' ⟨rfl,g,q,cp,h1,h2,h3,h4,h5,h6,h7⟩
  have hd:delF (sg m.memo) x.k=sg l:=by rw [hm];exact sg_tail ha2
  have hf0:∀ z∈l,z.k≠bs (keyL (n - vb.length) (tab (n - vb.length) (lft n F vb))):=fun z hz=>hfn2 z (List.mem_cons_of_mem _ hz)
  have hp2:=sg_snoc (y:=⟨bs (keyL (n - vb.length) (tab (n - vb.length) (lft n F vb))),m.ret⟩) (fun z hz=>hbits2 z (List.mem_cons_of_mem _ hz)) hrt.1 hf0
  have hno:sg l (bs (keyL (n - vb.length) (tab (n - vb.length) (lft n F vb))))=none:=fnd_lt (by rw [fnd_none hf0];decide)
  rw [hd,hno,hp2] at h2
  refine ⟨rfl,some ⟨g,q,none⟩,cp,?_,?_,?_,h4,?_,?_,?_⟩
  ·rw [hE];exact h1
  ·rw [hE,List.length_append];exact h2
  ·rw [hE,List.length_append];exact h3
  ·rintro b ⟨y,hy,rfl⟩;cases hy;exact h5
  ·rintro ⟨y,hy,e⟩;cases hy;exact h6 e.symm
  ·rintro ⟨y,hy,e⟩;cases hy;exact h7 e.symm
 ·have hE:keepM m.room m.memo (bs (keyL (n - vb.length) (tab (n - vb.length) (lft n F vb)))) m.ret=m.memo++[⟨bs (keyL (n - vb.length) (tab (n - vb.length) (lft n F vb))),m.ret⟩]:=by
   unfold keepM
   rw [if_pos (by omega),if_neg (by rw [List.length_append,List.length_singleton];omega)]
  refine (Mw12.iRemMore n F vb w p m.memo.length (sg m.memo) m ra va ma rc vc mc bm hn hN hS hv hk hks hI hM hT h B hB hnone hr hne hrt (by omega) (by omega) hO hpb hpa hba).mono ?_
  rintro e w' ⟨rfl,g,q,cp,h1,h2,h3,h4,h5,h6,h7⟩
  have hp2:=sg_snoc (y:=⟨bs (keyL (n - vb.length) (tab (n - vb.length) (lft n F vb))),m.ret⟩) hbits hrt.1 hfn
  rw [hnone,hp2] at h2
  refine ⟨rfl,some ⟨g,q,none⟩,cp,?_,?_,?_,h4,?_,?_,?_⟩
  ·rw [hE];exact h1
  ·rw [hE,List.length_append];exact h2
  ·rw [hE,List.length_append];exact h3
  ·rintro b ⟨y,hy,rfl⟩;cases hy;exact h5
  ·rintro ⟨y,hy,e⟩;cases hy;exact h6 e.symm
  ·rintro ⟨y,hy,e⟩;cases hy;exact h7 e.symm
end Mw18
end Go.Proofs.YtladjpombohpaaaGreatDoor
