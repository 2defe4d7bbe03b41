import Derived.Test.YtjajkmdoggbicaaGreatDoorPkST9
import Derived.Test.YtjajkmdoggbicaaGreatDoorMu8
import Derived.Test.YtjajkmdoggbicaaGreatDoorPkST33
import Derived.Test.YtjajkmdoggbicaaGreatDoorPkST4
import Derived.Test.YtjajkmdoggbicaaGreatDoorPkST44
namespace Go.Proofs.YtjajkmdoggbicaaGreatDoor
set_option maxRecDepth 100000
set_option maxHeartbeats 8000000
set_option linter.unusedVariables false
namespace Mc1
open Go.RowKit
open Ta0 Ta1 Ta3 Td1 De0 Dv0 Mc0 Mm0 Mm1 Mu1 Mu3 Mu5 Mu6 Mu8
open Qc0 (Sn)
open Tk0 (keyL)
open Ss0 (bs bs_inj)
open Sa0 (startM)
open Tx0
theorem sep_inj:∀ {a a' t t':List UInt8},(∀ c∈a,c≠58)->(∀ c∈a',c≠58)->a++58 :: t=a'++58 :: t'->a=a'/\t=t':=by
 intro a
 induction a with
 | nil =>
   intro a' t t' _ h' e
   cases a' with
   | nil=>exact ⟨rfl,(List.cons.inj e).2⟩
   | cons x r=>exact absurd (List.cons.inj e).1.symm (h' x List.mem_cons_self)
 | cons y r ih =>
   intro a' t t' h h' e
   cases a' with
   | nil=>exact absurd (List.cons.inj e).1 (h y List.mem_cons_self)
   | cons x r' =>
     obtain ⟨e1,e2⟩:=List.cons.inj e
     obtain ⟨e3,e4⟩:=ih (fun c hc=>h c (List.mem_cons_of_mem _ hc)) (fun c hc=>h' c (List.mem_cons_of_mem _ hc)) e2
     exact ⟨by rw [e1,e3],e4⟩
theorem dec_not (n:Nat):∀ c∈dec n,c≠58:=by
 intro c hc e
 subst e
 unfold dec at hc
 split at hc
 ·simp at hc
 ·have:=digs_all n _ hc
  revert this
  decide
theorem digs_inj (n:Nat):∀ m,digs n=digs m->n=m:=by
 induction n using Nat.strongRecOn with
 | ind n ih =>
   intro m h
   by_cases hn:n=0
   ·subst hn
    by_cases hm:m=0
    ·exact hm.symm
    ·have:=digs_one (n:=m) (by omega)
     rw [<- h,digs_zero] at this
     exact absurd this (by decide)
   ·by_cases hm:m=0
    ·subst hm
     have:=digs_one (n:=n) (by omega)
     rw [h,digs_zero] at this
     exact absurd this (by decide)
    ·rw [digs_pos (n:=n) (by omega),digs_pos (n:=m) (by omega)] at h
     obtain ⟨h1,h2⟩:=List.append_inj' h rfl
     have h3:=ih (n / 10) (by omega) _ h1
     have h4:=congrArg UInt8.toNat (List.cons.inj h2).1
     rw [UInt8.toNat_ofNat',UInt8.toNat_ofNat'] at h4
     omega
theorem dec_inj {n m:Nat} (h:dec n=dec m):n=m:=by
 have z:∀ k,0 < k->digs k≠[48]:=by
  intro k hk e
  rw [digs_pos hk] at e
  obtain ⟨h1,h2⟩:=List.append_inj' (show digs (k / 10)++[UInt8.ofNat (48+k % 10)]=[]++[48] from e) rfl
  have h3:=digs_inj (k / 10) 0 (by rw [h1,digs_zero])
  have h4:=congrArg UInt8.toNat (List.cons.inj h2).1
  rw [UInt8.toNat_ofNat'] at h4
  have h5:(48:UInt8).toNat=48:=rfl
  omega
 unfold dec at h
 by_cases hn:n=0
 ·by_cases hm:m=0
  ·omega
  ·rw [if_pos hn,if_neg hm] at h
   exact absurd h.symm (z m (by omega))
 ·by_cases hm:m=0
  ·rw [if_neg hn,if_pos hm] at h
   exact absurd h (z n (by omega))
  ·rw [if_neg hn,if_neg hm] at h
   exact digs_inj n m h
theorem key_two (e:Nat) (t:List UInt8) (e':Nat) (t':List UInt8) (h:keyL e t=keyL e' t'):e=e'/\t=t':=by
 unfold keyL at h
 obtain ⟨h1,h2⟩:=sep_inj (dec_not e) (dec_not e') h
 exact ⟨dec_inj h1,h2⟩
def snO (y:List UInt8 × Bool):Sn:=⟨bs y.1,bi y.2⟩
def rtO:Option Bool->Int
 | none => -1
 | some b=>bi b
def toMc (row:List Bool) (F:Nat->Bool) (room:Nat) (s:St):Mc:=⟨row,(row.length:Int),bs (tab row.length F),(room:Int),s.vals.map bi,rtO s.ret,s.over,(s.steps:Int),(s.looks:Int),(s.hits:Int),s.memo.map snO⟩
theorem fnd_find (m:List (List UInt8 × Bool)) (x:List UInt8):fnd (m.map snO) (bs x)=rtO (find m x):=by
 induction m with
 | nil=>rfl
 | cons y r ih =>
   obtain ⟨k,v⟩:=y
   show fnd (snO (k,v) :: r.map snO) (bs x)=_
   unfold fnd find
   by_cases e:k=x
   ·subst e
    rw [if_pos rfl,if_pos (show (snO (k,v)).k=bs k from rfl)]
    rfl
   ·rw [if_neg e,if_neg (show ¬ (snO (k,v)).k=bs x from fun h=>e (bs_inj h)),ih]
theorem bools_map (l:List Bool):bools (l.map bi)=l:=by
 unfold bools
 rw [List.map_map]
 conv=>rhs;rw [<- List.map_id l]
 apply List.map_congr_left
 intro b _
 cases b<;>rfl
theorem rt_neg (o:Option Bool):rtO o < 0↔o=none:=by
 cases o with
 | none=>exact ⟨fun _=>rfl,fun _=>by show (-1:Int) < 0;decide⟩
 | some b=>exact ⟨fun h=>by cases b<;>exact absurd h (by decide),fun h=>by cases h⟩
theorem keep_map (room:Nat) (m:List (List UInt8 × Bool)) (x:List UInt8) (v:Bool):keepM (room:Int) (m.map snO) (bs x) (bi v)=(keep room m x v).map snO:=by
 have e1:m.map snO++[(⟨bs x,bi v⟩:Sn)]=(m++[(x,v)]).map snO:=by rw [List.map_append];rfl
 have e2:(0 < (room:Int)/\fnd (m.map snO) (bs x) < 0)↔(0 < room/\find m x=none):=by rw [fnd_find,rt_neg];exact ⟨fun h=>⟨by omega,h.2⟩,fun h=>⟨by omega,h.2⟩⟩
 unfold keepM keep
 by_cases h:0 < room/\find m x=none
 ·rw [if_pos h,if_pos (e2.2 h),e1,List.length_map]
  by_cases h2:room < (m++[(x,v)]).length
  ·rw [if_pos h2,if_pos (by omega),List.map_drop]
  ·rw [if_neg h2,if_neg (by omega)]
 ·rw [if_neg h,if_neg (fun c=>h (e2.1 c))]
theorem knw_first {e:Nat} {G:Nat->Bool} (h:0<=knw e G):knw e G=bi (G 0):=knw_same (con_of h)
theorem down_mc {row:List Bool} {F:Nat->Bool} {room:Nat} (s:St) (hr:s.ret=none):downM row.length F s.vals (toMc row F room s)=toMc row F room (down row.length F keyL s):=by
 unfold downM
 show _=toMc row F room (if 0<=knw (row.length - s.vals.length) (lft row.length F s.vals) then { s with ret:=some (lft row.length F s.vals 0),looks:=s.looks+1 } else match find s.memo (keyL (row.length - s.vals.length) (tab (row.length - s.vals.length) (lft row.length F s.vals))) with|some v=>{ s with ret:=some v,hits:=s.hits+1 }|none=>{ s with vals:=s.vals++[false] })
 have hf:=fnd_find s.memo (keyL (row.length - s.vals.length) (tab (row.length - s.vals.length) (lft row.length F s.vals)))
 by_cases h:0<=knw (row.length - s.vals.length) (lft row.length F s.vals)
 ·rw [if_pos h,if_pos h,knw_first h]
  rfl
 ·rw [if_neg h,if_neg h]
  show (if 0<=fnd (s.memo.map snO) (bs (keyL (row.length - s.vals.length) (tab (row.length - s.vals.length) (lft row.length F s.vals)))) then _ else _)=_
  cases hfd:find s.memo (keyL (row.length - s.vals.length) (tab (row.length - s.vals.length) (lft row.length F s.vals))) with
  | none =>
    rw [hfd] at hf
    rw [if_neg (by rw [hf];decide)]
    show _=toMc row F room { s with vals:=s.vals++[false] }
    unfold toMc
    simp [bi]
  | some v =>
    rw [hfd] at hf
    rw [if_pos (by rw [hf];cases v<;>decide)]
    show _=toMc row F room { s with ret:=some v,hits:=s.hits+1 }
    unfold toMc
    show _=(⟨_,_,_,_,_,rtO (some v),_,_,_,_,_⟩:Mc)
    rw [<- hf]
    rfl
theorem step_mc {row:List Bool} {F:Nat->Bool} {room:Nat} (s:St) (ho:s.over=false) (hs:s.steps < 1000000000):stepM row.length F (toMc row F room s)=toMc row F room (Mc0.step row F keyL room s):=by
 unfold stepM
 rw [if_neg (by
  rintro (h|h)
  ·exact absurd (show s.over=true from h) (by rw [ho];simp)
  ·have:(1000000000:Int)<=(s.steps:Int):=h
   omega)]
 cases hr:s.ret with
 | none =>
   have e:(toMc row F room s).ret < 0:=by show rtO s.ret < 0;rw [hr];decide
   rw [if_pos e]
   have e2:Mc0.step row F keyL room s=down row.length F keyL { s with steps:=s.steps+1 }:=by
    unfold Mc0.step
    rw [if_neg (by rw [ho];simp),hr]
   rw [e2,<- down_mc { s with steps:=s.steps+1 } hr]
   show downM row.length F (bools (s.vals.map bi)) _=_
   rw [bools_map]
   rfl
 | some r =>
   have e:¬ (toMc row F room s).ret < 0:=by show ¬ rtO s.ret < 0;rw [hr,rt_neg];simp
   rw [if_neg e]
   unfold upM
   show (if s.vals.map bi=[] then _ else _)=_
   by_cases hv:s.vals=[]
   ·rw [if_pos (by rw [hv];rfl)]
    have e2:Mc0.step row F keyL room s={ s with steps:=s.steps+1,over:=true }:=by
     unfold Mc0.step
     rw [if_neg (by rw [ho];simp),hr]
     show up _ _ _ _ _ _=_
     unfold up
     exact if_pos hv
    rw [e2]
    rfl
   ·rw [if_neg (by intro c;exact hv (List.map_eq_nil_iff.1 c))]
    obtain ⟨vs,v,hvv⟩:∃ vs v,s.vals=vs++[v]:=⟨s.vals.dropLast,s.vals.getLast hv,(List.dropLast_concat_getLast hv).symm⟩
    have e3:(s.vals.map bi).dropLast=vs.map bi:=by rw [hvv,List.map_append];simp
    have e4:(s.vals.map bi).getLastD 0=bi v:=by rw [hvv,List.map_append];simp
    have e5:((toMc row F room s).row.getD (vs.map bi).length false != (rtO s.ret==0))=(row.getD vs.length false != (r==false)):=by
     rw [hr,List.length_map]
     cases r<;>rfl
    have e6:(bi v==0)=(v==false):=by cases v<;>rfl
    show (if (row.getD (s.vals.map bi).dropLast.length false != (rtO s.ret==0))&&((s.vals.map bi).getLastD 0==0) then ({ toMc row F room s with steps:=(s.steps:Int)+1,vals:=(s.vals.map bi).dropLast++[1],ret := -1 }:Mc) else { toMc row F room s with steps:=(s.steps:Int)+1,vals:=(s.vals.map bi).dropLast,memo:=keepM (room:Int) (s.memo.map snO) (kyM row.length F (s.vals.map bi).dropLast) (rtO s.ret) })=_
    rw [e3,e4,e6]
    have e5':(row.getD (vs.map bi).length false != (rtO s.ret==0))=(row.getD vs.length false != (r==false)):=e5
    rw [e5']
    cases hc:((row.getD vs.length false != (r==false))&&(v==false))
    ·rw [Mc0.step_pop hr ho hvv hc]
     rw [if_neg (by simp)]
     have e7:kyM row.length F (vs.map bi)=bs (keyL (row.length - vs.length) (tab (row.length - vs.length) (lft row.length F vs))):=by
      unfold kyM
      rw [bools_map]
     rw [e7,hr]
     show ({ toMc row F room s with steps:=(s.steps:Int)+1,vals:=vs.map bi,memo:=keepM (room:Int) (s.memo.map snO) (bs (keyL (row.length - vs.length) (tab (row.length - vs.length) (lft row.length F vs)))) (bi r) }:Mc)=_
     rw [keep_map]
     unfold toMc
     simp [hr]
    ·rw [Mc0.step_turn hr ho hvv hc]
     rw [if_pos rfl]
     unfold toMc
     simp [bi,rtO]
theorem step_le {row:List Bool} {F:Nat->Bool} {room:Nat} (s:St):(Mc0.step row F keyL room s).steps<=s.steps+1/\(Mc0.step row F keyL room s).looks<=s.looks+1/\(Mc0.step row F keyL room s).hits<=s.hits+1:=by
 unfold Mc0.step
 split
 ·exact ⟨by omega,by omega,by omega⟩
 ·split
  ·unfold down
   simp only
   split
   ·exact ⟨Nat.le_refl _,Nat.le_refl _,Nat.le_succ _⟩
   ·split
    ·exact ⟨Nat.le_refl _,Nat.le_succ _,Nat.le_refl _⟩
    ·exact ⟨Nat.le_refl _,Nat.le_succ _,Nat.le_succ _⟩
  ·unfold up
   simp only
   split
   ·exact ⟨Nat.le_refl _,Nat.le_succ _,Nat.le_succ _⟩
   ·split
    ·exact ⟨Nat.le_refl _,Nat.le_succ _,Nat.le_succ _⟩
    ·exact ⟨Nat.le_refl _,Nat.le_succ _,Nat.le_succ _⟩
theorem run_mc {row:List Bool} {F:Nat->Bool} {room:Nat} (k:Nat):∀ s:St,s.steps+k < 1000000000->s.looks+k < 1000000000->s.hits+k < 1000000000->runM row.length F k (toMc row F room s)=toMc row F room (Mc0.runN row F keyL room k s):=by
 induction k with
 | zero=>intro s _ _ _;rfl
 | succ k ih =>
   intro s h1 h2 h3
   cases ho:s.over
   ·have hn:¬ ((toMc row F room s).over=true\/1000000000<=(toMc row F room s).looks\/1000000000<=(toMc row F room s).hits):=by
     rintro (h|h|h)
     ·exact absurd (show s.over=true from h) (by rw [ho];simp)
     ·have:(1000000000:Int)<=(s.looks:Int):=h
      omega
     ·have:(1000000000:Int)<=(s.hits:Int):=h
      omega
    rw [runM_next hn,step_mc s ho (by omega)]
    obtain ⟨g1,g2,g3⟩:=step_le (row:=row) (F:=F) (room:=room) s
    exact ih _ (by omega) (by omega) (by omega)
   ·rw [runM_stop (.inl ho),run_over ho]
/-- A machine from its start on, after steps enough. -/
structure Ended (row:List Bool) (F:Nat->Bool) (room K:Nat) (M:Mc):Prop where
 over:M.over=true
 ret:M.ret=bi (dc row F)
 memo:M.memo.length<=room
 steps:M.steps<=(K:Int)
 hits:room=0->M.hits=0
theorem ended (row:List Bool) (F:Nat->Bool) (room K:Nat) (h1:4*2 ^ row.length<=K+2) (h2:K<=100000):Ended row F room K (runM row.length F K (startM row (row.length:Int) (bs (tab row.length F)) (room:Int))):=by
 obtain ⟨k,s',hk,hrun,ho,hv,hr,hg,hm,hst,hlo,hhi,hz⟩:=ends (row:=row) (F:=F) (room:=room) (key:=keyL) key_two
 have e:startM row (row.length:Int) (bs (tab row.length F)) (room:Int)=toMc row F room st0:=rfl
 have hrun2:Mc0.runN row F keyL room K st0=s':=by
  rw [show K=k+(K - k) by omega,Mc0.runN_add,hrun,run_over ho]
 rw [e,run_mc K st0 (by show 0+K < _;omega) (by show 0+K < _;omega) (by show 0+K < _;omega),hrun2]
 refine ⟨ho,?_,?_,?_,fun hz0=>?_⟩
 ·show rtO s'.ret=_
  rw [hr]
  rfl
 ·show (s'.memo.map snO).length<=room
  rw [List.length_map]
  exact hm
 ·show (s'.steps:Int)<=(K:Int)
  omega
 ·show (s'.hits:Int)=0
  rw [hz hz0]
  rfl
end Mc1
namespace Sq2
open Go.RowKit
open Ta0 Ta1 Ta3 Td1 De0 Dv0 Mc0
section
variable {row:List Bool} {F:Nat->Bool} {key:Nat->List UInt8->List UInt8} {room:Nat}
/-- The verdict at a place. -/
def D (row:List Bool) (F:Nat->Bool) (vs:List Bool):Bool:=dcAt row F vs.length (pl vs)
theorem d_snoc {vs:List Bool} (h:vs.length < row.length):D row F vs=if row.getD vs.length false=true then D row F (vs++[false])&&D row F (vs++[true]) else D row F (vs++[false])||D row F (vs++[true]):=by
 unfold D
 rw [List.length_append,List.length_append,List.length_singleton,List.length_singleton,pl_snoc,pl_snoc,dcAt_step h,show row.getD vs.length false=row[vs.length] by simp [List.getD,List.getElem?_eq_getElem h]]
 rfl
/-- What stands of a machine on its way. -/
structure In (row:List Bool) (F:Nat->Bool) (key:Nat->List UInt8->List UInt8) (s:St):Prop where
 good:Mc0.Good row key s.memo
 len:s.vals.length<=row.length
 ret:∀ r,s.ret=some r->r=D row F s.vals
 path:∀ vs,(vs++[true]) <+: s.vals->(row.getD vs.length false != (D row F (vs++[false])==false))=true
theorem pre_snoc {us vs:List Bool} {b:Bool} (h:(us++[true]) <+: (vs++[b])):(us++[true]) <+: vs\/(us=vs/\b=true):=by
 rcases Nat.lt_or_ge (us++[true]).length (vs++[b]).length with hl|hl
 ·left
  have h1:=List.prefix_iff_eq_take.1 h
  rw [List.length_append,List.length_append,List.length_singleton,List.length_singleton] at hl
  rw [List.take_append_of_le_length (by rw [List.length_append,List.length_singleton];omega)] at h1
  rw [h1]
  exact List.take_prefix _ _
 ·right
  have h2:=h.eq_of_length_le hl
  have h3:=List.append_inj' h2 rfl
  exact ⟨h3.1,(List.cons.inj h3.2).1.symm⟩
theorem In.step (hinj:∀ e t e' t',key e t=key e' t'->e=e'/\t=t') {s:St} (h:In row F key s):In row F key (Mc0.step row F key room s):=by
 cases ho:s.over
 rotate_left
 ·rw [show Mc0.step row F key room s=s from by unfold Mc0.step;rw [if_pos ho]]
  exact h
 cases hr:s.ret with
 | none =>
   by_cases hk:0<=knw (row.length - s.vals.length) (lft row.length F s.vals)
   ·rw [step_known hr ho hk]
    refine ⟨h.good,h.len,fun r hr'=>?_,h.path⟩
    have e:lft row.length F s.vals 0=r:=Option.some.inj hr'
    rw [<- e]
    exact (dc_con _ (fun q hq=>con_of hk q (by rw [List.length_drop] at hq;exact hq))).symm
   ·cases hf:find s.memo (key (row.length - s.vals.length) (tab (row.length - s.vals.length) (lft row.length F s.vals))) with
    | some v =>
      rw [step_hit hr ho hk hf]
      refine ⟨h.good,h.len,fun r hr'=>?_,h.path⟩
      have e:v=r:=Option.some.inj hr'
      rw [<- e]
      have h1:=h.good _ (find_mem hf) _ _ (Nat.sub_le _ _) rfl
      have h2:row.length - (row.length - s.vals.length)=s.vals.length:=by have:=h.len;omega
      rw [h2] at h1
      exact h1
    | none =>
      rw [step_on hr ho hk hf]
      have hlt:s.vals.length < row.length:=by
       apply Classical.byContradiction
       intro hc
       have h0:row.length - s.vals.length=0:=by omega
       rw [h0] at hk
       exact hk Mu6.knw_full
      refine ⟨h.good,by show (s.vals++[false]).length<=_;rw [List.length_append,List.length_singleton];omega,fun r hr'=>?_,fun vs hv=>?_⟩
      ·have hr2:s.ret=some r:=hr'
       rw [hr] at hr2
       cases hr2
      ·rcases pre_snoc hv with h1|h1
       ·exact h.path vs h1
       ·cases h1.2
 | some r =>
   have hD:=h.ret r hr
   rcases List.eq_nil_or_concat s.vals with hv|⟨vs,v,hv⟩
   ·rw [show Mc0.step row F key room s={ s with over:=true,steps:=s.steps+1 } from by
     unfold Mc0.step
     rw [if_neg (by rw [ho];simp),hr]
     show up _ _ _ _ _ _=_
     unfold up
     exact if_pos hv]
    exact ⟨h.good,h.len,fun r' hr'=>h.ret r' hr',h.path⟩
   ·rw [List.concat_eq_append] at hv
    have hlen:vs.length < row.length:=by have:=h.len;rw [hv,List.length_append,List.length_singleton] at this;omega
    rw [hv] at hD
    cases hc:((row.getD vs.length false != (r==false))&&(v==false))
    ·rw [step_pop hr ho hv hc]
     have hr2:r=D row F vs:=by
      rw [d_snoc hlen]
      cases v with
      | false =>
        rw [<- hD]
        have hc2:(row.getD vs.length false != (r==false))=false:=by simpa using hc
        cases hq:row.getD vs.length false<;>rw [hq] at hc2<;>cases r<;>first|rfl|simp at hc2 ⊢
      | true =>
        rw [<- hD]
        have hp:=h.path vs (by rw [hv];exact List.prefix_refl _)
        cases hq:row.getD vs.length false<;>rw [hq] at hp<;>cases h0:D row F (vs++[false])<;>rw [h0] at hp<;>first|(cases r<;>rfl)|(simp at hp)
     refine ⟨h.good.add hinj (Nat.sub_le _ _) ?_,by show vs.length<=_;omega,fun r' hr'=>?_,fun us hu=>h.path us (hu.trans (by rw [hv];exact List.prefix_append _ _))⟩
     ·rw [hr2,show row.length - (row.length - vs.length)=vs.length by omega]
      rfl
     ·have e:s.ret=some r':=hr'
      rw [hr] at e
      rw [<- Option.some.inj e]
      exact hr2
    ·rw [step_turn hr ho hv hc]
     obtain ⟨hc1,hc2⟩:=Bool.and_eq_true_iff.1 hc
     have hvf:v=false:=by simpa using hc2
     subst hvf
     refine ⟨h.good,by show (vs++[true]).length<=_;rw [List.length_append,List.length_singleton];omega,fun r' hr'=>(by cases hr'),fun us hu=>?_⟩
     rcases pre_snoc hu with h1|h1
     ·exact h.path us (h1.trans (by rw [hv];exact List.prefix_append _ _))
     ·rw [h1.1,<- hD]
      exact hc1
theorem in_run (hinj:∀ e t e' t',key e t=key e' t'->e=e'/\t=t') (k:Nat):∀ {s:St},In row F key s->In row F key (Mc0.runN row F key room k s):=by
 induction k with
 | zero=>exact fun h=>h
 | succ k ih=>exact fun h=>ih (h.step hinj)
theorem in_start:In row F key st0:=⟨fun y hy=>(by cases hy),Nat.zero_le _,fun r hr=>(by cases hr),fun vs hv=>(by
 have:=List.prefix_nil.1 hv
 simp at this)⟩
end
end Sq2
end Go.Proofs.YtjajkmdoggbicaaGreatDoor
