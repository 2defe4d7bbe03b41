import Derived.Test.YtladjpombohpaaaGreatDoorPkJE11
namespace Go.Proofs.YtladjpombohpaaaGreatDoor
set_option maxRecDepth 100000
set_option maxHeartbeats 8000000
set_option linter.unusedVariables false
namespace Mc0
open Go.RowKit
open Ta0 Ta1 Ta3 Td1 De0 Dv0
/-- A row of values as a number. -/
def pl (vs:List Bool):Nat:=vs.foldl (fun a b=>2*a+b.toNat) 0
theorem pl_nil:pl []=0:=rfl
theorem pl_snoc (vs:List Bool) (b:Bool):pl (vs++[b])=2*pl vs+b.toNat:=by unfold pl;rw [List.foldl_append];rfl
/-- What is left of the table. -/
def lft (n:Nat) (F:Nat->Bool) (vs:List Bool) (q:Nat):Bool:=F (pl vs*2 ^ (n - vs.length)+q)
theorem dcAt_lft (row:List Bool) (F:Nat->Bool) (vs:List Bool):dcAt row F vs.length (pl vs)=dc (row.drop vs.length) (lft row.length F vs):=rfl
theorem dc_con (r:List Bool):∀ {G:Nat->Bool} {b:Bool},(∀ q,q < 2 ^ r.length->G q=b)->dc r G=b:=by
 induction r with
 | nil=>exact fun h=>h 0 (by simp)
 | cons x r ih =>
   intro G b h
   have e:∀ c,c<=1->dc r (hb r.length c G)=b:=fun c hc=>ih fun q hq=>h _ (half_lt hc hq)
   rw [dc,e 0 (by omega),e 1 (by omega)]
   cases x<;>cases b<;>rfl
/-- The machine. -/
structure St where
 vals:List Bool
 ret:Option Bool
 over:Bool
 steps:Nat
 looks:Nat
 hits:Nat
 memo:List (List UInt8 × Bool)
/-- What a memo says of a key. -/
def find:List (List UInt8 × Bool)->List UInt8->Option Bool
 | [],_=>none
 | (k,v) :: r,x=>if k=x then some v else find r x
theorem find_mem {m:List (List UInt8 × Bool)} {x:List UInt8} {v:Bool} (h:find m x=some v):(x,v)∈m:=by
 induction m with
 | nil=>cases h
 | cons a r ih =>
   obtain ⟨k,u⟩:=a
   unfold find at h
   by_cases e:k=x
   ·rw [if_pos e] at h
    cases h
    rw [e]
    exact List.mem_cons_self
   ·rw [if_neg e] at h
    exact List.mem_cons_of_mem _ (ih h)
/-- One more, the oldest going where there would be more than room. -/
def keep (room:Nat) (m:List (List UInt8 × Bool)) (x:List UInt8) (v:Bool):List (List UInt8 × Bool) :=
 if 0 < room/\find m x=none then (if room < (m++[(x,v)]).length then (m++[(x,v)]).drop 1 else m++[(x,v)]) else m
theorem keep_len {room:Nat} {m:List (List UInt8 × Bool)} (x:List UInt8) (v:Bool) (h:m.length<=room):(keep room m x v).length<=room:=by
 unfold keep
 split
 ·split
  ·rw [List.length_drop,List.length_append];simp;omega
  ·omega
 ·exact h
theorem keep_mem {room:Nat} {m:List (List UInt8 × Bool)} {x:List UInt8} {v:Bool} {y:List UInt8 × Bool} (h:y∈keep room m x v):y∈m\/y=(x,v):=by
 unfold keep at h
 split at h
 ·have:y∈m++[(x,v)]:=by
   split at h
   ·exact List.mem_of_mem_drop h
   ·exact h
  rcases List.mem_append.1 this with h1|h1
  ·exact .inl h1
  ·exact .inr (List.mem_singleton.1 h1)
 ·exact .inl h
/-- The way down. -/
def down (n:Nat) (F:Nat->Bool) (key:Nat->List UInt8->List UInt8) (s:St):St :=
 let e:=n - s.vals.length
 let G:=lft n F s.vals
 if 0<=knw e G then { s with ret:=some (G 0),looks:=s.looks+1 }
 else match find s.memo (key e (tab e G)) with
  | some v=>{ s with ret:=some v,hits:=s.hits+1 }
  | none=>{ s with vals:=s.vals++[false] }
/-- The way up, with a verdict r. -/
def up (row:List Bool) (F:Nat->Bool) (key:Nat->List UInt8->List UInt8) (room:Nat) (s:St) (r:Bool):St :=
 if s.vals=[] then { s with over:=true }
 else
  let d:=s.vals.length - 1
  let vs:=s.vals.take d
  if (row.getD d false != (r==false))&&(s.vals.getD d false==false) then { s with vals:=vs++[true],ret:=none }
  else { s with vals:=vs,memo:=keep room s.memo (key (row.length - vs.length) (tab (row.length - vs.length) (lft row.length F vs))) r }
/-- A step of a machine that is not over. -/
def step (row:List Bool) (F:Nat->Bool) (key:Nat->List UInt8->List UInt8) (room:Nat) (s:St):St :=
 if s.over=true then s
 else match s.ret with
  | none=>down row.length F key { s with steps:=s.steps+1 }
  | some r=>up row F key room { s with steps:=s.steps+1 } r
def runN (row:List Bool) (F:Nat->Bool) (key:Nat->List UInt8->List UInt8) (room:Nat):Nat->St->St
 | 0,s=>s
 | k+1,s=>runN row F key room k (step row F key room s)
theorem runN_add (row:List Bool) (F:Nat->Bool) (key:Nat->List UInt8->List UInt8) (room:Nat) (a b:Nat):∀ s,runN row F key room (a+b) s=runN row F key room b (runN row F key room a s):=by
 induction a with
 | zero=>intro s;rw [Nat.zero_add];rfl
 | succ a ih =>
   intro s
   rw [show a+1+b=(a+b)+1 by omega]
   exact ih _
/-- What is remembered is true. -/
def Good (row:List Bool) (key:Nat->List UInt8->List UInt8) (m:List (List UInt8 × Bool)):Prop:=∀ y∈m,∀ (e:Nat) (G:Nat->Bool),e<=row.length->y.1=key e (tab e G)->y.2=dc (row.drop (row.length - e)) G
/-- From one state to one behind it at the same node, its verdict told. -/
structure Node (row:List Bool) (F:Nat->Bool) (key:Nat->List UInt8->List UInt8) (room:Nat) (s s':St) (k:Nat):Prop where
 run:runN row F key room k s=s'
 vals:s'.vals=s.vals
 ret:s'.ret=some (dcAt row F s.vals.length (pl s.vals))
 over:s'.over=false
 good:Good row key s'.memo
 len:s'.memo.length<=room
 steps:s'.steps=s.steps+k
 looks:s'.looks<=s.looks+k
 hits:s'.hits<=s.hits+k
 none:room=0->s'.hits=s.hits
theorem con_of {e:Nat} {G:Nat->Bool} (h:0<=knw e G):∀ j,j < 2 ^ e->G j=G 0:=by
 apply Classical.byContradiction
 intro hc
 have:=knw_not (n:=e) (F:=G) hc
 omega
section
variable {row:List Bool} {F:Nat->Bool} {key:Nat->List UInt8->List UInt8} {room:Nat}
theorem Good.add {m:List (List UInt8 × Bool)} (hinj:∀ e t e' t',key e t=key e' t'->e=e'/\t=t') (h:Good row key m) {e:Nat} {G:Nat->Bool} {v:Bool} (he:e<=row.length) (hv:v=dc (row.drop (row.length - e)) G):Good row key (keep room m (key e (tab e G)) v):=by
 intro y hy e2 G2 he2 hk
 rcases keep_mem hy with h1|h1
 ·exact h y h1 e2 G2 he2 hk
 ·rw [h1] at hk ⊢
  obtain ⟨rfl,ht⟩:=hinj _ _ _ _ hk
  show v=_
  rw [hv]
  refine dc_ext _ fun q hq=>?_
  rw [List.length_drop] at hq
  exact tab_inj ht q (by rw [show row.length - (row.length - e)=e by omega] at hq;exact hq)
theorem step_known {s:St} (hr:s.ret=none) (ho:s.over=false) (hk:0<=knw (row.length - s.vals.length) (lft row.length F s.vals)):step row F key room s={ s with ret:=some (lft row.length F s.vals 0),looks:=s.looks+1,steps:=s.steps+1 }:=by
 unfold step
 rw [if_neg (by rw [ho];simp),hr]
 show down _ _ _ _=_
 unfold down
 exact if_pos hk
theorem step_hit {s:St} {v:Bool} (hr:s.ret=none) (ho:s.over=false) (hk:¬ 0<=knw (row.length - s.vals.length) (lft row.length F s.vals)) (hf:find s.memo (key (row.length - s.vals.length) (tab (row.length - s.vals.length) (lft row.length F s.vals)))=some v):step row F key room s={ s with ret:=some v,hits:=s.hits+1,steps:=s.steps+1 }:=by
 unfold step
 rw [if_neg (by rw [ho];simp),hr]
 show down _ _ _ _=_
 unfold down
 refine (if_neg hk).trans ?_
 show (match find s.memo (key (row.length - s.vals.length) (tab (row.length - s.vals.length) (lft row.length F s.vals))) with|some v=>_|none=>_)=_
 rw [hf]
theorem step_on {s:St} (hr:s.ret=none) (ho:s.over=false) (hk:¬ 0<=knw (row.length - s.vals.length) (lft row.length F s.vals)) (hf:find s.memo (key (row.length - s.vals.length) (tab (row.length - s.vals.length) (lft row.length F s.vals)))=none):step row F key room s={ s with vals:=s.vals++[false],steps:=s.steps+1 }:=by
 unfold step
 rw [if_neg (by rw [ho];simp),hr]
 show down _ _ _ _=_
 unfold down
 refine (if_neg hk).trans ?_
 show (match find s.memo (key (row.length - s.vals.length) (tab (row.length - s.vals.length) (lft row.length F s.vals))) with|some v=>_|none=>_)=_
 rw [hf]
theorem step_turn {s:St} {r v:Bool} {vs:List Bool} (hr:s.ret=some r) (ho:s.over=false) (hv:s.vals=vs++[v]) (hc:((row.getD vs.length false != (r==false))&&(v==false))=true):step row F key room s={ s with vals:=vs++[true],ret:=none,steps:=s.steps+1 }:=by
 unfold step
 rw [if_neg (by rw [ho];simp),hr]
 show up _ _ _ _ _ _=_
 unfold up
 have hne:¬ s.vals=[]:=by rw [hv];simp
 have hd:s.vals.length - 1=vs.length:=by rw [hv,List.length_append];simp
 have hg:s.vals.getD vs.length false=v:=by rw [hv];simp [List.getD]
 have ht:s.vals.take vs.length=vs:=by rw [hv];simp
 refine (if_neg hne).trans ?_
 show (if (row.getD (s.vals.length - 1) false != (r==false))&&(s.vals.getD (s.vals.length - 1) false==false) then _ else _)=_
 rw [hd,hg,if_pos hc,ht]
theorem step_pop {s:St} {r v:Bool} {vs:List Bool} (hr:s.ret=some r) (ho:s.over=false) (hv:s.vals=vs++[v]) (hc:((row.getD vs.length false != (r==false))&&(v==false))=false):step row F key room s={ s with vals:=vs,memo:=keep room s.memo (key (row.length - vs.length) (tab (row.length - vs.length) (lft row.length F vs))) r,steps:=s.steps+1 }:=by
 unfold step
 rw [if_neg (by rw [ho];simp),hr]
 show up _ _ _ _ _ _=_
 unfold up
 have hne:¬ s.vals=[]:=by rw [hv];simp
 have hd:s.vals.length - 1=vs.length:=by rw [hv,List.length_append];simp
 have hg:s.vals.getD vs.length false=v:=by rw [hv];simp [List.getD]
 have ht:s.vals.take vs.length=vs:=by rw [hv];simp
 refine (if_neg hne).trans ?_
 show (if (row.getD (s.vals.length - 1) false != (r==false))&&(s.vals.getD (s.vals.length - 1) false==false) then _ else _)=_
 rw [hd,hg,if_neg (by rw [hc];simp),ht]
theorem run1 (s:St):runN row F key room 1 s=step row F key room s:=rfl
theorem node_known {s:St} {e:Nat} (hl:s.vals.length+e=row.length) (hr:s.ret=none) (ho:s.over=false) (hg:Good row key s.memo) (hm:s.memo.length<=room) (hk:0<=knw (row.length - s.vals.length) (lft row.length F s.vals)):∃ s',Node row F key room s s' 1:=by
 refine ⟨_,(run1 s).trans (step_known hr ho hk),rfl,?_,ho,hg,hm,rfl,Nat.le_refl _,Nat.le_succ _,fun _=>rfl⟩
 show some _=some _
 rw [dcAt_lft,dc_con _ (b:=lft row.length F s.vals 0)]
 intro q hq
 rw [List.length_drop] at hq
 exact con_of hk q hq
theorem node (hinj:∀ e t e' t',key e t=key e' t'->e=e'/\t=t') (e:Nat):∀ s:St,s.vals.length+e=row.length->s.ret=none->s.over=false->Good row key s.memo->s.memo.length<=room->∃ k s',1<=k/\k+3<=4*2 ^ e/\Node row F key room s s' k:=by
 induction e with
 | zero =>
   intro s hl hr ho hg hm
   have hk:0<=knw (row.length - s.vals.length) (lft row.length F s.vals):=by
    rw [show row.length - s.vals.length=0 by omega,knw_same (fun j hj=>by have:j=0:=(by simpa using hj);rw [this])];omega
   obtain ⟨s',h⟩:=node_known hl hr ho hg hm hk
   exact ⟨1,s',by omega,by simp,h⟩
 | succ e ih =>
   intro s hl hr ho hg hm
   have hp:=Nat.one_le_two_pow (n:=e)
   have hpe:4*2 ^ (e+1)=4*2 ^ e+4*2 ^ e:=by rw [Nat.pow_succ];omega
   have hne:row.length - s.vals.length=e+1:=by omega
   by_cases hk:0<=knw (row.length - s.vals.length) (lft row.length F s.vals)
   ·obtain ⟨s',h⟩:=node_known hl hr ho hg hm hk
    exact ⟨1,s',by omega,by omega,h⟩
   cases hf:find s.memo (key (row.length - s.vals.length) (tab (row.length - s.vals.length) (lft row.length F s.vals))) with
   | some v =>
     refine ⟨1,_,by omega,by omega,(run1 s).trans (step_hit hr ho hk hf),rfl,?_,ho,hg,hm,rfl,Nat.le_succ _,Nat.le_refl _,fun h0=>?_⟩
     ·show some v=some _
      rw [dcAt_lft]
      have:=hg _ (find_mem hf) _ _ (by omega) rfl
      rw [show row.length - (row.length - s.vals.length)=s.vals.length by omega] at this
      exact congrArg some this
     ·have:s.memo=[]:=List.eq_nil_of_length_eq_zero (by omega)
      rw [this] at hf
      cases hf
   | none =>
     have hs1:=step_on (key:=key) (room:=room) hr ho hk hf
     have hlt:s.vals.length < row.length:=by omega
     have hstep:=dcAt_step hlt F (pl s.vals)
     have hgd:row.getD s.vals.length false=row[s.vals.length]:=by simp [List.getD,hlt]
     obtain ⟨k1,s1,hk1,hb1,h1⟩:=ih { s with vals:=s.vals++[false],steps:=s.steps+1 } (by rw [List.length_append];simp;omega) hr ho hg hm
     have hv1:s1.vals=s.vals++[false]:=h1.vals
     have hr1:s1.ret=some (dcAt row F (s.vals.length+1) (2*pl s.vals)):=by
      have:=h1.ret
      rw [pl_snoc,List.length_append] at this
      exact this
     have hrun1:runN row F key room (1+k1) s=s1:=by rw [runN_add,run1,hs1];exact h1.run
     have hst1:s1.steps=s.steps+1+k1:=h1.steps
     have hlk1:s1.looks<=s.looks+k1:=h1.looks
     have hht1:s1.hits<=s.hits+k1:=h1.hits
     have hno1:room=0->s1.hits=s.hits:=h1.none
     generalize dcAt row F (s.vals.length+1) (2*pl s.vals)=r0 at *
     cases hc:((row.getD s.vals.length false != (r0==false))&&(false==false))
     ·have hs2:=step_pop (F:=F) (key:=key) (room:=room) hr1 h1.over hv1 hc
      have hver:r0=dcAt row F s.vals.length (pl s.vals):=by
       rw [hstep]
       rw [hgd] at hc
       revert hc
       cases row[s.vals.length]<;>cases r0<;>simp
      refine ⟨1+k1+1,{ s1 with vals:=s.vals,memo:=keep room s1.memo (key (row.length - s.vals.length) (tab (row.length - s.vals.length) (lft row.length F s.vals))) r0,steps:=s1.steps+1 },by omega,by omega,(by rw [runN_add,hrun1,run1,hs2]),rfl,?_,h1.over,?_,keep_len _ _ h1.len,?_,?_,?_,?_⟩
      ·exact hr1.trans (congrArg some hver)
      ·exact h1.good.add hinj (by omega) (by rw [hver,dcAt_lft,show row.length - (row.length - s.vals.length)=s.vals.length by omega])
      ·show s1.steps+1=_;omega
      ·show s1.looks<=_;omega
      ·show s1.hits<=_;omega
      ·exact hno1
     ·have hs2:=step_turn (F:=F) (key:=key) (room:=room) hr1 h1.over hv1 hc
      obtain ⟨k2,s2,hk2,hb2,h2⟩:=ih { s1 with vals:=s.vals++[true],ret:=none,steps:=s1.steps+1 } (by rw [List.length_append];simp;omega) rfl h1.over h1.good h1.len
      have hv2:s2.vals=s.vals++[true]:=h2.vals
      have hr2:s2.ret=some (dcAt row F (s.vals.length+1) (2*pl s.vals+1)):=by
       have:=h2.ret
       rw [pl_snoc,List.length_append] at this
       exact this
      have hst2:s2.steps=s1.steps+1+k2:=h2.steps
      have hlk2:s2.looks<=s1.looks+k2:=h2.looks
      have hht2:s2.hits<=s1.hits+k2:=h2.hits
      have hno2:room=0->s2.hits=s1.hits:=h2.none
      generalize dcAt row F (s.vals.length+1) (2*pl s.vals+1)=r1 at *
      have hs3:=step_pop (row:=row) (F:=F) (key:=key) (room:=room) hr2 h2.over hv2 (by simp)
      have hver:r1=dcAt row F s.vals.length (pl s.vals):=by
       rw [hstep]
       rw [hgd] at hc
       revert hc
       cases row[s.vals.length]<;>cases r0<;>simp
      refine ⟨1+k1+1+k2+1,{ s2 with vals:=s.vals,memo:=keep room s2.memo (key (row.length - s.vals.length) (tab (row.length - s.vals.length) (lft row.length F s.vals))) r1,steps:=s2.steps+1 },by omega,by omega,(by rw [runN_add,runN_add,runN_add,hrun1,run1,run1,hs2,h2.run,hs3]),rfl,?_,h2.over,?_,keep_len _ _ h2.len,?_,?_,?_,?_⟩
      ·exact hr2.trans (congrArg some hver)
      ·exact h2.good.add hinj (by omega) (by rw [hver,dcAt_lft,show row.length - (row.length - s.vals.length)=s.vals.length by omega])
      ·show s2.steps+1=_;omega
      ·show s2.looks<=_;omega
      ·show s2.hits<=_;omega
      ·exact fun h0=>(hno2 h0).trans (hno1 h0)
/-- A machine at its start. -/
def st0:St:=⟨[],none,false,0,0,0,[]⟩
/-- It comes to its end, with the verdict. -/
theorem ends (hinj:∀ e t e' t',key e t=key e' t'->e=e'/\t=t'):∃ k s',k+2<=4*2 ^ row.length/\runN row F key room k st0=s'/\s'.over=true/\s'.vals=[]/\s'.ret=some (dc row F)/\Good row key s'.memo/\s'.memo.length<=room/\s'.steps=k/\s'.looks<=k/\s'.hits<=k/\(room=0->s'.hits=0):=by
 obtain ⟨k,s',h1,h2,h⟩:=node (row:=row) (F:=F) (room:=room) hinj row.length st0 (by simp [st0]) rfl rfl (fun y hy=>by cases hy) (Nat.zero_le _)
 have hr:s'.ret=some (dc row F):=by
  have:=h.ret
  rw [show st0.vals=[] from rfl,pl_nil,List.length_nil,dcAt_0] at this
  exact this
 have hv:s'.vals=[]:=h.vals
 have hs:step row F key room s'={ s' with over:=true,steps:=s'.steps+1 }:=by
  unfold step
  rw [if_neg (by rw [h.over];simp),hr]
  show up _ _ _ _ _ _=_
  unfold up
  exact if_pos hv
 have h3:s'.steps=0+k:=h.steps
 have h4:s'.looks<=0+k:=h.looks
 have h5:s'.hits<=0+k:=h.hits
 refine ⟨k+1,{ s' with over:=true,steps:=s'.steps+1 },by omega,by rw [runN_add,h.run,run1,hs],rfl,hv,hr,h.good,h.len,?_,?_,?_,h.none⟩
 ·show s'.steps+1=_;omega
 ·show s'.looks<=_;omega
 ·show s'.hits<=_;omega
/-- Behind its end it does nothing more. -/
theorem run_over {s:St} (h:s.over=true) (k:Nat):runN row F key room k s=s:=by
 induction k with
 | zero=>rfl
 | succ k ih =>
   show runN row F key room k (step row F key room s)=s
   rw [show step row F key room s=s from by unfold step;rw [if_pos h]]
   exact ih
end
end Mc0
namespace Td2
open Go.RowKit
open Ta0 Ta1 Tc2 Tc5 Ap9 Td1
open Nd0 (Kept set_other set_same lt_of_cell)
open Ss0 (bs bs_size ret_str bs_ext)
open Ss1 (tl tl_length tl_get tl_take bs_tl tl_bs tl_inj eqb)
theorem _root_.Go.Proofs.YtladjpombohpaaaGreatDoor.Ap9.Owu.text {W:World} {B:Nat} {v:Value} {l:List UInt8} (h:Owu W B v l) (hl:1<=l.length):(convert 138 9 v).run Tryz.prog W=.ok (.string (bs l)) W:=by
 obtain ⟨a,c,rfl,hw⟩:=h.form
 rcases hw.2 with h0|⟨b,o,rfl,_,hc⟩
 ·omega
 ·exact run_convert_bytes_back (P:=Tryz.prog) W 138 9 5 ⟨b,o,none⟩ c l Tryz.underlying138 Tryz.underlying5 Tryz.underlying9 (fun j hj=>by rw [Addr.add_lit];exact (hc j hj).1)
/-- The first k signs. -/
def tk (n:Nat) (G:Nat->Bool) (k:Nat):List UInt8:=(tab n G).take k
theorem tk_zero (n:Nat) (G:Nat->Bool):tk n G 0=[]:=rfl
theorem tk_len {n:Nat} {G:Nat->Bool} {k:Nat} (h:k<=2 ^ n):(tk n G k).length=k:=by unfold tk;rw [List.length_take,tab_length];omega
theorem tk_succ {n:Nat} {G:Nat->Bool} {k:Nat} (h:k < 2 ^ n):tk n G (k+1)=tk n G k++[sgn (G k)]:=by
 unfold tk
 rw [List.take_succ_eq_append_getElem (by rw [tab_length];exact h),tab_get]
theorem tk_all (n:Nat) (G:Nat->Bool):tk n G (2 ^ n)=tab n G:=by unfold tk;rw [List.take_of_length_le (by rw [tab_length];omega)]
/-- What stands while a table is written. -/
structure OT (w:World) (B r:Nat) (N:Int) (S:ByteArray) (v:Value) (l:List UInt8) (W:World):Prop where
 lay:Lay W B (.int .i64 N) (.string S)
 res:Lay W r (.int .i64 0) (.string ByteArray.empty)
 own:Owu W (r+1) v l
 siz:r+1<=W.heap.size
 bel:Below w.heap.size w W
theorem OT.next {w W W':World} {B r:Nat} {N:Int} {S:ByteArray} {v v':Value} {l l':List UInt8} (h:OT w B r N S v l W) (hB:B < r+1) (hw:w.heap.size<=r) (hk:Kept (fun k=>v.ownBlock=some k) W W') (ho:Owu W' (r+1) v' l'):OT w B r N S v' l' W' :=
 ⟨h.lay.kept hk (fun e=>by have:=(h.own.lt _ e).1;omega),h.res.kept hk (fun e=>by have:=(h.own.lt _ e).1;omega),ho,by have:=hk.size;have:=h.siz;omega,h.bel.trans (hk.below (fun b hb=>by have:=(h.own.lt _ hb).1;omega) h.bel.size)⟩
theorem finT {w W:World} {r:Nat} {a b:Value} (hr:Lay W r a b) (hb:Below w.heap.size w W) (hw:w.heap.size<=r) (x y:Value) :
 ∃ W',W'=(W.setCell ⟨r,0,none⟩ x).setCell ⟨r,1,none⟩ y/\Lay W' r x y/\Below w.heap.size w W':=by
 have K:Kept (fun b=>b=r) W ((W.setCell ⟨r,0,none⟩ x).setCell ⟨r,1,none⟩ y):=kset (S:=fun b=>b=r) (kset (S:=fun b=>b=r) (Kept.refl (fun b=>b=r) W) rfl _) rfl _
 exact ⟨_,rfl,hr.put x y,hb.trans (K.below (fun b hb=>by omega) hb.size)⟩
end Td2
namespace Td3
open Go.RowKit
open Ta0 Ta1 Tc2 Tc5 Ap9 Td1 Td2
open Nd0 (Kept set_other set_same lt_of_cell)
open Ss0 (bs bs_size ret_str bs_ext)
open Ss1 (tl tl_length tl_get tl_take bs_tl tl_bs tl_inj eqb)
/-- What stands while a table is written out of two. -/
structure OB (w:World) (N:Int) (S T:ByteArray) (v:Value) (l:List UInt8) (W:World):Prop where
 lay:Lay W w.heap.size (.int .i64 N) (.string S)
 lay2:Lay W (w.heap.size+1) (.int .i64 N) (.string T)
 res:Lay W (w.heap.size+1+1) (.int .i64 0) (.string ByteArray.empty)
 own:Owu W (w.heap.size+1+1+1) v l
 siz:w.heap.size+1+1+1<=W.heap.size
 bel:Below w.heap.size w W
theorem OB.next {w W W':World} {N:Int} {S T:ByteArray} {v v':Value} {l l':List UInt8} (h:OB w N S T v l W) (hk:Kept (fun k=>v.ownBlock=some k) W W') (ho:Owu W' (w.heap.size+1+1+1) v' l'):OB w N S T v' l' W' :=
 ⟨h.lay.kept hk (fun e=>by have:=(h.own.lt _ e).1;omega),h.lay2.kept hk (fun e=>by have:=(h.own.lt _ e).1;omega),h.res.kept hk (fun e=>by have:=(h.own.lt _ e).1;omega),ho,by have:=hk.size;have:=h.siz;omega,h.bel.trans (hk.below (fun b hb=>by have:=(h.own.lt _ hb).1;omega) h.bel.size)⟩
theorem OB.drewN {w W:World} {N:Int} {S T:ByteArray} {v:Value} {l:List UInt8} (h:OB w N S T v l W) (n:Nat):OB w N S T v l (W.drewN n) :=
 ⟨h.lay.kept (S:=fun _=>False) ((Kept.refl _ _).drewN n) (fun h=>h),h.lay2.kept (S:=fun _=>False) ((Kept.refl _ _).drewN n) (fun h=>h),h.res.kept (S:=fun _=>False) ((Kept.refl _ _).drewN n) (fun h=>h),h.own.kept (S:=fun _=>False) ((Kept.refl _ _).drewN n) (fun _ _ h=>h),h.siz,below_drewN h.bel n⟩
end Td3
end Go.Proofs.YtladjpombohpaaaGreatDoor
