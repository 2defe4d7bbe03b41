import Derived.Test.YthanhcobfehmnaaGreatPkQU211
namespace Go.Proofs.YthanhcobfehmnaaGreat
set_option maxRecDepth 100000
set_option maxHeartbeats 8000000
set_option linter.unusedVariables false
namespace Tm8
open Nd0 Pl1 Tm0 Tm1 Tm2 Tm3
theorem markAll_flag (ps:List Int):∀ (bs:List Bool) (i:Nat),i < bs.length->flag (markAll bs ps) i=(flag bs i||ps.any fun p=>p.toNat==i):=by
 induction ps with
 | nil=>intro bs i _;simp [markAll]
 | cons p ps ih =>
   intro bs i hi
   show flag (markAll (bs.set p.toNat true) ps) i=_
   rw [ih _ _ (by rw [List.length_set];exact hi)]
   by_cases hp:p.toNat < bs.length
   ·rw [flag_set hp]
    by_cases e:p.toNat=i
    ·simp [e]
    ·have e':(p.toNat==i)=false:=by simpa using e
     rw [if_neg e,List.any_cons,e',Bool.false_or]
   ·have:bs.set p.toNat true=bs:=List.set_eq_of_length_le (by omega)
    rw [this]
    have e':(p.toNat==i)=false:=by simp;omega
    rw [List.any_cons,e',Bool.false_or]
def Down (l:List Nd):Prop:=∀ i,i < l.length->∀ p∈parts (nth l i),0<=p/\p < (i:Int)
theorem down_of {l:List Nd} (h:termOk l=true):Down l:=by
 intro i hi p hp
 obtain ⟨j,hj,rfl⟩:=List.getElem_of_mem hp
 exact parts_ok (term_node h hi) j hj
theorem step_flag {l:List Nd} (bs:List Bool) (k i:Nat) (hi:i < bs.length):flag (reachStep l bs k) i=(flag bs i||(flag bs k&&(parts (nth l k)).any fun p=>p.toNat==i)):=by
 unfold reachStep
 cases h:flag bs k
 ·simp
 ·rw [if_pos rfl,markAll_flag _ _ _ hi];simp
theorem down_high {l:List Nd} (hD:Down l):∀ (k:Nat) (bs:List Bool),bs.length=l.length->k<=l.length->∀ i,k<=i+1->i < l.length->flag (reachDown l k bs) i=flag bs i:=by
 intro k
 induction k with
 | zero=>intro bs _ _ i _ _;rfl
 | succ k ih =>
   intro bs hb hk i hi hl
   show flag (reachDown l k (reachStep l bs k)) i=_
   rw [ih _ (by rw [reachStep_length];exact hb) (by omega) i (by omega) hl,step_flag _ _ _ (by omega)]
   have:((parts (nth l k)).any fun p=>p.toNat==i)=false:=by
    rw [List.any_eq_false]
    intro p hp
    have:=hD k (by omega) p hp
    simp;omega
   rw [this];simp
theorem down_closed {l:List Nd} (hD:Down l):∀ (k:Nat) (bs:List Bool),bs.length=l.length->k<=l.length->(∀ i,k<=i->i < l.length->flag bs i=true->∀ p∈parts (nth l i),flag bs p.toNat=true) ->
 ∀ i,i < l.length->flag (reachDown l k bs) i=true->∀ p∈parts (nth l i),flag (reachDown l k bs) p.toNat=true:=by
 intro k
 induction k with
 | zero=>intro bs _ _ h i hi hf p hp;exact h i (by omega) hi hf p hp
 | succ k ih =>
   intro bs hb hk h
   refine ih (reachStep l bs k) (by rw [reachStep_length];exact hb) (by omega) ?_
   intro i hki hi hf p hp
   have hpd:=hD i hi p hp
   rw [step_flag _ _ _ (by omega)] at hf
   rw [step_flag _ _ _ (by omega)]
   have hna:((parts (nth l k)).any fun q=>q.toNat==i)=false:=by
    rw [List.any_eq_false]
    intro q hq
    have:=hD k (by omega) q hq
    simp;omega
   rw [hna,Bool.and_false,Bool.or_false] at hf
   by_cases e:i=k
   ·subst e
    rw [hf]
    have:((parts (nth l i)).any fun q=>q.toNat==p.toNat)=true:=List.any_eq_true.2 ⟨p,hp,by simp⟩
    rw [this];simp
   ·rw [h i (by omega) hi hf p hp];simp
theorem init_flag (n i:Nat) (h:i < n):flag (reachInit n) i=(i+1==n):=by simp [flag,reachInit,List.getD,h]
theorem reach_closed {l:List Nd} (hD:Down l) {i:Nat} (hi:i < l.length) (hf:flag (reachL l) i=true) {p:Int} (hp:p∈parts (nth l i)):flag (reachL l) p.toNat=true :=
 down_closed hD l.length _ (reachInit_length _) (Nat.le_refl _) (fun i h1 h2=>by omega) i hi hf p hp
theorem down_more {l:List Nd}:∀ (k:Nat) (bs:List Bool),bs.length=l.length->∀ i,i < l.length->flag bs i=true->flag (reachDown l k bs) i=true:=by
 intro k
 induction k with
 | zero=>intro bs _ i _ h;exact h
 | succ k ih =>
   intro bs hb i hi h
   refine ih (reachStep l bs k) (by rw [reachStep_length];exact hb) i hi ?_
   rw [step_flag _ _ _ (by omega),h];rfl
theorem reach_root {l:List Nd} (h:1<=l.length):flag (reachL l) (l.length - 1)=true :=
 down_more l.length _ (reachInit_length _) _ (by omega) (by rw [init_flag _ _ (by omega)];simp;omega)
theorem down_why {l:List Nd} (hD:Down l):∀ (k:Nat) (bs:List Bool),bs.length=l.length->k<=l.length->∀ i,i < l.length->flag (reachDown l k bs) i=true->flag bs i=true\/∃ j,i < j/\j < l.length/\flag (reachDown l k bs) j=true/\(i:Int)∈parts (nth l j):=by
 intro k
 induction k with
 | zero=>intro bs _ _ i _ h;exact .inl h
 | succ k ih =>
   intro bs hb hk i hi h
   rcases ih (reachStep l bs k) (by rw [reachStep_length];exact hb) (by omega) i hi h with h1|h1
   ·rw [step_flag _ _ _ (by omega)] at h1
    simp only [Bool.or_eq_true,Bool.and_eq_true] at h1
    rcases h1 with h1|⟨h1,h2⟩
    ·exact .inl h1
    ·obtain ⟨p,hp,hpe⟩:=List.any_eq_true.1 h2
     have hd:=hD k (by omega) p hp
     simp at hpe
     have hpi:p=(i:Int):=by omega
     subst hpi
     refine .inr ⟨k,by omega,by omega,?_,hp⟩
     exact down_more k _ (by rw [reachStep_length];exact hb) k (by omega) (by rw [step_flag _ _ _ (by omega),h1];rfl)
   ·exact .inr h1
theorem reach_why {l:List Nd} (hD:Down l) {i:Nat} (hi:i < l.length) (hf:flag (reachL l) i=true):i+1=l.length\/∃ j,i < j/\j < l.length/\flag (reachL l) j=true/\(i:Int)∈parts (nth l j):=by
 rcases down_why hD l.length _ (reachInit_length _) (Nat.le_refl _) i hi hf with h|h
 ·rw [init_flag _ _ hi] at h;exact .inl (by simpa using h)
 ·exact .inr h
theorem reach_at (l:List Nd):∀ (k j:Nat) (h:j < (reachTo l k).length),∃ x:Nat,(reachTo l k)[j]=(x:Int)/\x < k/\flag (reachL l) x=true/\(reachTo l x).length=j:=by
 intro k
 induction k with
 | zero=>intro j h;simp [reachTo] at h
 | succ k ih =>
   intro j h
   have e:=reachTo_succ l k
   cases hf:flag (reachL l) k
   ·rw [hf] at e
    simp only [Bool.false_eq_true,if_false] at e
    have h':j < (reachTo l k).length:=by rw [<- e];exact h
    obtain ⟨x,h1,h2,h3,h4⟩:=ih j h'
    exact ⟨x,by simp only [e];exact h1,by omega,h3,h4⟩
   ·rw [hf,if_pos rfl] at e
    have hlen:(reachTo l (k+1)).length=(reachTo l k).length+1:=by rw [e];simp
    by_cases hj:j < (reachTo l k).length
    ·obtain ⟨x,h1,h2,h3,h4⟩:=ih j hj
     refine ⟨x,?_,by omega,h3,h4⟩
     simp only [e]
     rw [List.getElem_append_left hj];exact h1
    ·have hje:j=(reachTo l k).length:=by omega
     refine ⟨k,?_,by omega,hf,hje.symm⟩
     simp only [e,hje]
     rw [List.getElem_append_right (Nat.le_refl _)]
     simp
theorem reachTo_mono (l:List Nd) {a b:Nat} (h:a<=b):(reachTo l a).length<=(reachTo l b).length:=by
 induction b with
 | zero=>have:a=0:=by omega
         subst this;exact Nat.le_refl _
 | succ b ih =>
   by_cases e:a=b+1
   ·subst e;exact Nat.le_refl _
   ·refine Nat.le_trans (ih (by omega)) ?_
    rw [reachTo_succ];split
    ·simp
    ·exact Nat.le_refl _
theorem reachTo_lt (l:List Nd) {a b:Nat} (h:a < b) (hf:flag (reachL l) a=true):(reachTo l a).length < (reachTo l b).length:=by
 have h1:=reachTo_mono l (a:=a+1) (b:=b) (by omega)
 rw [reachTo_succ,hf,if_pos rfl,List.length_append] at h1
 simp at h1;omega
theorem reachTo_inj (l:List Nd) {a b:Nat} (ha:flag (reachL l) a=true) (hb:flag (reachL l) b=true) (h:(reachTo l a).length=(reachTo l b).length):a=b:=by
 rcases Nat.lt_trichotomy a b with h1|h1|h1
 ·have:=reachTo_lt l h1 ha;omega
 ·exact h1
 ·have:=reachTo_lt l h1 hb;omega
end Tm8
namespace Tm10
open Nd0 Pl1 Tm0 Tm1 Tm2 Tm3 Tm4 Tm5 Tm6 Tm8 Tm9 Rw1
theorem quants_skip1 (l:List Nd) (x:Nat) (h:flag (reachL l) x=false):quantsTo l (x+1)=quantsTo l x:=by
 show (quantsTo l x).bind _=_
 cases hq:quantsTo l x with
 | none=>rfl
 | some ws=>show qStep l ws x=_;unfold qStep;rw [h];rfl
theorem flag_between (l:List Nd) {x y z:Nat} (h:(reachTo l x).length=(reachTo l y).length) (h1:x<=z) (h2:z < y):flag (reachL l) z=false:=by
 cases hf:flag (reachL l) z
 ·rfl
 ·have a1:=reachTo_mono l h1
  have a2:=reachTo_lt l h2 hf
  omega
theorem quants_skip (l:List Nd) {x y:Nat} (hxy:x<=y) (h:(reachTo l x).length=(reachTo l y).length):quantsTo l y=quantsTo l x:=by
 induction y with
 | zero=>have:x=0:=by omega
         subst this;rfl
 | succ y ih =>
   by_cases e:x=y+1
   ·subst e;rfl
   ·have hf:flag (reachL l) y=false:=flag_between l h (by omega) (by omega)
    rw [quants_skip1 l y hf]
    refine ih (by omega) ?_
    have:=reachTo_succ l y
    rw [hf] at this
    rw [h,this];rfl
theorem quants_same (l:List Nd) {x y:Nat} (h:(reachTo l x).length=(reachTo l y).length):quantsTo l y=quantsTo l x:=by
 rcases Nat.le_total x y with hh|hh
 ·exact quants_skip l hh h
 ·exact (quants_skip l hh h.symm).symm
theorem quants_len {l:List Nd}:∀ {k:Nat} {ws:List Int},quantsTo l k=some ws->ws.length=8:=by
 intro k
 induction k with
 | zero=>intro ws h;cases h;rfl
 | succ k ih =>
   intro ws h
   cases hq:quantsTo l k with
   | none=>rw [quants_none hq _ (Nat.le_succ _)] at h;cases h
   | some w0 =>
     rw [quants_succ hq] at h
     unfold qStep at h
     split at h
     ·split at h
      ·cases h;rw [List.length_set];exact ih hq
      ·cases h
     ·cases h;exact ih hq
def usesF (l:List Nd):Nat->List Int
 | 0=>List.replicate l.length 0
 | k+1=>if flag (reachL l) k then addUses (usesF l k) (parts (nth l k)) else usesF l k
theorem usesF_length (l:List Nd) (k:Nat):(usesF l k).length=l.length:=by
 induction k with
 | zero=>simp [usesF]
 | succ k ih=>unfold usesF;split
              ·rw [addUses_length];exact ih
              ·exact ih
theorem uses_some {l:List Nd} {ws:List Int}:∀ {k:Nat},(∀ i,i < k->flag (reachL l) i=true->badNode l ws i=false)->usesTo l ws k=some (usesF l k):=by
 intro k
 induction k with
 | zero=>intro _;rfl
 | succ k ih =>
   intro h
   rw [uses_succ (ih (fun i hi=>h i (by omega)))]
   show uStep l ws (usesF l k) k=some (if flag (reachL l) k then addUses (usesF l k) (parts (nth l k)) else usesF l k)
   unfold uStep
   cases hf:flag (reachL l) k
   ·rfl
   ·rw [if_pos rfl,if_pos rfl,h k (by omega) hf];rfl
theorem uses_bad {l:List Nd} {ws:List Int} {i k:Nat} (hi:i < k) (hf:flag (reachL l) i=true) (hb:badNode l ws i=true):usesTo l ws k=none:=by
 have:usesTo l ws (i+1)=none:=by
  show (usesTo l ws i).bind _=none
  cases hu:usesTo l ws i with
  | none=>rfl
  | some us=>show uStep l ws us i=none;unfold uStep;rw [hf,if_pos rfl,hb];rfl
 exact uses_none this _ (by omega)
theorem usesF_skip (l:List Nd) {x y:Nat} (hxy:x<=y) (h:(reachTo l x).length=(reachTo l y).length):usesF l y=usesF l x:=by
 induction y with
 | zero=>have:x=0:=by omega
         subst this;rfl
 | succ y ih =>
   by_cases e:x=y+1
   ·subst e;rfl
   ·have hf:flag (reachL l) y=false:=flag_between l h (by omega) (by omega)
    have e1:usesF l (y+1)=usesF l y:=by show (if _ then _ else _)=_;rw [hf];rfl
    rw [e1]
    refine ih (by omega) ?_
    have:=reachTo_succ l y
    rw [hf] at this
    rw [h,this];rfl
theorem usesF_same (l:List Nd) {x y:Nat} (h:(reachTo l x).length=(reachTo l y).length):usesF l y=usesF l x:=by
 rcases Nat.le_total x y with hh|hh
 ·exact usesF_skip l hh h
 ·exact (usesF_skip l hh h.symm).symm
theorem addUses_le (ps:List Int):∀ (us:List Int) (q:Nat),wd us (q:Int)<=wd (addUses us ps) (q:Int):=by
 induction ps with
 | nil=>intro us q;exact Int.le_refl _
 | cons p ps ih =>
   intro us q
   refine Int.le_trans ?_ (ih (us.set p.toNat (wd us p+1)) q)
   by_cases hp:p.toNat < us.length
   ·rw [wd_set hp]
    split
    ·rename_i e
     have e2:=wd_toNat us p
     rw [<- e] at e2
     omega
    ·exact Int.le_refl _
   ·rw [List.set_eq_of_length_le (by omega)];exact Int.le_refl _
theorem usesF_le (l:List Nd) {x y:Nat} (h:x<=y) (q:Nat):wd (usesF l x) (q:Int)<=wd (usesF l y) (q:Int):=by
 induction y with
 | zero=>have:x=0:=by omega
         subst this;exact Int.le_refl _
 | succ y ih =>
   by_cases e:x=y+1
   ·subst e;exact Int.le_refl _
   ·refine Int.le_trans (ih (by omega)) ?_
    show _<=wd (if _ then _ else _) _
    split
    ·exact addUses_le _ _ _
    ·exact Int.le_refl _
theorem hold_prefix (l:List Nd) {k n i:Nat} (hi:i < k) (hk:k<=n):flag (holdTo l n) i=flag (holdTo l k) i:=by
 induction n with
 | zero=>omega
 | succ n ih =>
   by_cases e:k=n+1
   ·subst e;rfl
   ·rw [<- ih (by omega)]
    show flag (holdTo l n++[_]) i=_
    unfold flag
    rw [List.getD_eq_getElem?_getD,List.getElem?_append_left (by rw [holdTo_length];omega),<- List.getD_eq_getElem?_getD]
theorem hold_at {l:List Nd} (hD:Down l) {i:Nat} (hi:i < l.length):flag (holdTo l l.length) i=(quant (nth l i).op||below (holdTo l l.length) (parts (nth l i))):=by
 rw [hold_prefix l (k:=i+1) (n:=l.length) (by omega) (by omega)]
 have e1:flag (holdTo l (i+1)) i=(quant (nth l i).op||below (holdTo l i) (parts (nth l i))):=by
  show flag (holdTo l i++[_]) i=_
  unfold flag
  rw [List.getD_eq_getElem?_getD,List.getElem?_append_right (by rw [holdTo_length];exact Nat.le_refl _),holdTo_length]
  simp
 rw [e1]
 congr 1
 unfold below
 rw [Bool.eq_iff_iff,List.any_eq_true,List.any_eq_true]
 constructor
 ·rintro ⟨p,hp,hf⟩
  have hd:=hD i hi p hp
  exact ⟨p,hp,by rw [hold_prefix l (k:=i) (n:=l.length) (by omega) (by omega)];exact hf⟩
 ·rintro ⟨p,hp,hf⟩
  have hd:=hD i hi p hp
  exact ⟨p,hp,by rw [<- hold_prefix l (k:=i) (n:=l.length) (by omega) (by omega)];exact hf⟩
def Mov (l:List Nd):Prop:=(∀ i,i < l.length->flag (reachL l) i=true->flag (holdTo l l.length) i=true->outer (nth l i).op=true)/\∀ i,i < l.length->flag (reachL l) i=true->flag (holdTo l l.length) i=true->wd (usesF l l.length) (i:Int)<=1
def Wid (l:List Nd) (ws:List Int):Prop:=∀ i,i < l.length->flag (reachL l) i=true->(nth l i).op=1->(nth l i).w=wd ws (nth l i).k
theorem sent_all {l:List Nd} {ws:List Int} (h1:termOk l=true) (h2:(nth l (l.length - 1)).w=1) (h3:(freeL l).length=0) (hq:quantsTo l l.length=some ws) (hw:Wid l ws) (hm:Mov l):sentB l=true:=by
 have hu:usesTo l ws l.length=some (usesF l l.length):=uses_some (fun i hi hf=>by
  unfold badNode
  have a1:((nth l i).op==1&&wd ws (nth l i).k != (nth l i).w)=false:=by
   cases ho:((nth l i).op==1)
   ·rfl
   ·have:=hw i hi hf (by simpa using ho)
    simp [this]
  have a2:(flag (holdTo l l.length) i && !outer (nth l i).op)=false:=by
   cases hh:flag (holdTo l l.length) i
   ·rfl
   ·rw [hm.1 i hi hf hh];rfl
  rw [a1,a2];rfl)
 rw [sent_twice h1 h2 h3 hq hu]
 have:twice l (usesF l l.length) l.length=false:=by
  unfold twice
  rw [List.any_eq_false]
  intro i hi
  have hi':=List.mem_range.1 hi
  cases hf:flag (reachL l) i
  ·simp
  ·cases hh:flag (holdTo l l.length) i
   ·simp
   ·have:=hm.2 i hi' hf hh
    simp;omega
 rw [this];rfl
theorem sent_wid {l:List Nd} {ws:List Int} (hq:quantsTo l l.length=some ws) {i:Nat} (hi:i < l.length) (hf:flag (reachL l) i=true) (ho:(nth l i).op=1) (hw:(nth l i).w≠wd ws (nth l i).k):sentB l=false :=
 sent_uses (k:=l.length) (Nat.le_refl _) hq (uses_bad hi hf (by
  unfold badNode
  have:((nth l i).op==1&&wd ws (nth l i).k != (nth l i).w)=true:=by
   rw [Bool.and_eq_true];exact ⟨by simpa using ho,by simp;exact fun e=>hw e.symm⟩
  rw [this];rfl))
theorem sent_outer {l:List Nd} {i:Nat} (hi:i < l.length) (hf:flag (reachL l) i=true) (hh:flag (holdTo l l.length) i=true) (ho:outer (nth l i).op=false):sentB l=false:=by
 cases hq:quantsTo l l.length with
 | none=>exact sent_quants (Nat.le_refl _) hq
 | some ws=>exact sent_uses (k:=l.length) (Nat.le_refl _) hq (uses_bad hi hf (by unfold badNode;rw [hh,ho];simp))
theorem sent_used {l:List Nd} {i:Nat} (hi:i < l.length) (hf:flag (reachL l) i=true) (hh:flag (holdTo l l.length) i=true) (hu:1 < wd (usesF l l.length) (i:Int)):sentB l=false:=by
 cases hq:quantsTo l l.length with
 | none=>exact sent_quants (Nat.le_refl _) hq
 | some ws =>
   cases hus:usesTo l ws l.length with
   | none=>exact sent_uses (k:=l.length) (Nat.le_refl _) hq hus
   | some us =>
     have hno:∀ i,i < l.length->flag (reachL l) i=true->badNode l ws i=false:=by
      intro j hj hjf
      cases hb:badNode l ws j
      ·rfl
      ·rw [uses_bad hj hjf hb] at hus;cases hus
     have e:=uses_some (k:=l.length) hno
     rw [hus] at e
     cases e
     unfold sentB
     rw [hq];simp only
     rw [hus];simp only
     rw [twice_found hi hf hh hu];simp
end Tm10
namespace Tm11
open Nd0 Pl1 Tm0 Tm1 Tm2 Tm4 Tm5 Tm6 Tm8 Tm9 Tm10
def bitsTo (l:List Nd):Nat->Int
 | 0=>0
 | k+1=>if flag (reachL l) k&&quant (nth l k).op then bitsTo l k+(nth l k).b else bitsTo l k
def bitsL (l:List Nd):Int:=if sentB l then bitsTo l l.length else 0
theorem quant_b {l:List Nd} {k:Nat} (h:nodeOk l k=true) (hq:quant (nth l k).op=true):1<=(nth l k).b/\(nth l k).b<=8:=by
 simp only [nodeOk,Bool.and_eq_true] at h
 have hs:=h.2
 unfold shapeOk at hs
 have h2:(nth l k).op=19\/(nth l k).op=20:=by simpa [quant] using hq
 rw [if_neg (by omega),if_neg (by omega),if_neg (by omega),if_neg (by omega),if_neg (by omega),if_neg (by omega),if_neg (by omega),if_neg (by omega),if_pos h2] at hs
 simp at hs;omega
theorem bits_bound {l:List Nd} (hT:termOk l=true):∀ k,k<=l.length->0<=bitsTo l k/\bitsTo l k<=8*(k:Int):=by
 intro k
 induction k with
 | zero=>intro _;exact ⟨Int.le_refl _,Int.le_refl _⟩
 | succ k ih =>
   intro hk
   have:=ih (by omega)
   have e:bitsTo l (k+1)=if flag (reachL l) k&&quant (nth l k).op then bitsTo l k+(nth l k).b else bitsTo l k:=rfl
   rw [e]
   split
   ·rename_i h
    simp only [Bool.and_eq_true] at h
    have:=quant_b (term_node hT (by omega:k < l.length)) h.2
    omega
   ·omega
theorem bits_skip (l:List Nd) {x y:Nat} (hxy:x<=y) (h:(reachTo l x).length=(reachTo l y).length):bitsTo l y=bitsTo l x:=by
 induction y with
 | zero=>have:x=0:=by omega
         subst this;rfl
 | succ y ih =>
   by_cases e:x=y+1
   ·subst e;rfl
   ·have hf:flag (reachL l) y=false:=flag_between l h (by omega) (by omega)
    have e1:bitsTo l (y+1)=bitsTo l y:=by show (if _ then _ else _)=_;rw [hf];rfl
    rw [e1]
    refine ih (by omega) ?_
    have:=reachTo_succ l y
    rw [hf] at this
    rw [h,this];rfl
theorem bits_same (l:List Nd) {x y:Nat} (h:(reachTo l x).length=(reachTo l y).length):bitsTo l y=bitsTo l x:=by
 rcases Nat.le_total x y with hh|hh
 ·exact bits_skip l hh h
 ·exact (bits_skip l hh h.symm).symm
end Tm11
namespace Lx1
open Go.RowKit
open Nd0 Nd3 Tm0 Tm1 Tm2 Tm3 Tm4 Tm5 Tm6 Tm11
/-- What the program's TermOk is to do. -/
def ITermOk:Prop:=∀ (w:World) (a:Option Addr) (l:List Nd) (c:Nat),Nodes w a l->l.length<=c->l.length<=1048576 ->
 Calls Tryz.prog 15 #[.slice a l.length c] w fun e w'=>e=.returned (.bool (termOk l))/\Below w.heap.size w w'
end Lx1
namespace Lx2
open Go.RowKit
open Nd0 Nd3 Tm0 Tm1 Tm2 Tm3 Tm4 Tm5 Tm6 Tm11
/-- What the program's Reached is to do. -/
def IReached:Prop:=∀ (w:World) (a:Option Addr) (l:List Nd) (c:Nat),Nodes w a l->l.length<=c->l.length<=1048576 ->
 Calls Tryz.prog 85 #[.slice a l.length c] w fun e w'=>(∃ a' c',e=.returned (.slice a' (reachedL l).length c')/\WInts w' w.heap.size a' (reachedL l))/\Below w.heap.size w w'
end Lx2
namespace Lx3
open Go.RowKit
open Nd0 Nd3 Tm0 Tm1 Tm2 Tm3 Tm4 Tm5 Tm6 Tm11
end Lx3
namespace Lx4
open Go.RowKit
open Nd0 Nd3 Tm0 Tm1 Tm2 Tm3 Tm4 Tm5 Tm6 Tm11
end Lx4
namespace Lx6
open Go.RowKit
open Nd0 Nd3 Tm0 Tm1 Tm2 Tm3 Tm4 Tm5 Tm6 Tm11
/-- What the program's Sentence is to do. -/
def ISentence:Prop:=∀ (w:World) (a:Option Addr) (l:List Nd) (c:Nat),Nodes w a l->l.length<=c->l.length<=1048576 ->
 Calls Tryz.prog 78 #[.slice a l.length c] w fun e w'=>e=.returned (.bool (sentB l))/\Below w.heap.size w w'
end Lx6
namespace Tx0
open Nd0 Pl1 Tm0 Tm1
def digs (n:Nat):List UInt8:=if n=0 then [] else digs (n / 10)++[UInt8.ofNat (48+n % 10)]
termination_by n
decreasing_by omega
def dec (n:Nat):List UInt8:=if n=0 then [48] else digs n
theorem digs_zero:digs 0=[]:=by unfold digs;rfl
theorem digs_pos {n:Nat} (h:0 < n):digs n=digs (n / 10)++[UInt8.ofNat (48+n % 10)]:=by
 rw [digs.eq_def,if_neg (by omega)]
theorem dig_nat (d:Nat) (h:d < 10):(UInt8.ofNat (48+d)).toNat=48+d:=by
 rw [UInt8.toNat_ofNat'];exact Nat.mod_eq_of_lt (by omega)
def isDig (c:UInt8):Bool:=decide (48<=c.toNat/\c.toNat<=57)
theorem digs_all (n:Nat):∀ c∈digs n,isDig c=true:=by
 induction n using Nat.strongRecOn with
 | ind n ih =>
   intro c hc
   by_cases h:n=0
   ·subst h;rw [digs_zero] at hc;cases hc
   ·rw [digs_pos (by omega)] at hc
    rcases List.mem_append.1 hc with h1|h1
    ·exact ih (n / 10) (by omega) c h1
    ·have e:c=UInt8.ofNat (48+n % 10):=by simpa using h1
     subst e
     unfold isDig
     rw [dig_nat _ (by omega)]
     simp;omega
theorem digs_len (k:Nat):∀ n,n < 10 ^ k->(digs n).length<=k:=by
 induction k with
 | zero=>intro n h;have e:n=0:=by omega
         subst e;rw [digs_zero];exact Nat.le_refl _
 | succ k ih =>
   intro n h
   by_cases e:n=0
   ·subst e;rw [digs_zero];exact Nat.zero_le _
   ·rw [digs_pos (by omega),List.length_append]
    have:=ih (n / 10) (by rw [Nat.pow_succ] at h;omega)
    simp;omega
theorem digs_one {n:Nat} (h:0 < n):1<=(digs n).length:=by rw [digs_pos h];simp
theorem dec_all (n:Nat):∀ c∈dec n,isDig c=true:=by
 unfold dec
 split
 ·intro c hc;have:c=48:=by simpa using hc
  subst this;rfl
 ·exact digs_all n
theorem dec_len {n:Nat} (h:n < 10 ^ 9):1<=(dec n).length/\(dec n).length<=9:=by
 unfold dec
 split
 ·simp
 ·exact ⟨digs_one (by omega),digs_len 9 n h⟩
def valL (s:List UInt8):Nat:=s.foldl (fun n c=>10*n+(c.toNat - 48)) 0
theorem valL_snoc (s:List UInt8) (c:UInt8):valL (s++[c])=10*valL s+(c.toNat - 48):=by
 unfold valL;rw [List.foldl_append];rfl
theorem val_digs (n:Nat):valL (digs n)=n:=by
 induction n using Nat.strongRecOn with
 | ind n ih =>
   by_cases h:n=0
   ·subst h;rw [digs_zero];rfl
   ·rw [digs_pos (by omega),valL_snoc,ih (n / 10) (by omega),dig_nat _ (by omega)]
    omega
theorem val_dec (n:Nat):valL (dec n)=n:=by
 unfold dec
 split
 ·rename_i h;subst h;rfl
 ·exact val_digs n
theorem val_lt (s:List UInt8) (h:∀ c∈s,isDig c=true):valL s < 10 ^ s.length:=by
 have key:∀ (k:Nat) (s:List UInt8),s.length=k->(∀ c∈s,isDig c=true)->valL s < 10 ^ k:=by
  intro k
  induction k with
  | zero=>intro s hs _;have:s=[]:=List.eq_nil_of_length_eq_zero hs
          subst this;decide
  | succ k ih =>
    intro s hs hd
    have hne:s≠[]:=by intro e;rw [e] at hs;simp at hs
    have e:=(List.dropLast_concat_getLast hne).symm
    have hl:s.dropLast.length=k:=by rw [List.length_dropLast];omega
    have h1:=ih s.dropLast hl (fun c hc=>hd c (List.dropLast_subset s hc))
    have h2:=hd _ (List.getLast_mem hne)
    rw [e,valL_snoc]
    unfold isDig at h2
    simp at h2
    rw [Nat.pow_succ]
    omega
 exact key _ s rfl h
def numL (s:List UInt8):Option Nat :=
 if s.length=0\/9 < s.length then none
 else if s.all isDig then (if dec (valL s)=s then some (valL s) else none) else none
theorem num_dec {n:Nat} (h:n < 10 ^ 9):numL (dec n)=some n:=by
 have hl:=dec_len h
 unfold numL
 rw [if_neg (by omega),if_pos (List.all_eq_true.2 (dec_all n)),val_dec,if_pos rfl]
theorem num_some {s:List UInt8} {n:Nat} (h:numL s=some n):dec n=s/\n < 10 ^ 9/\s.length<=9:=by
 unfold numL at h
 split at h
 ·cases h
 ·rename_i hl
  split at h
  ·rename_i ha
   split at h
   ·rename_i hd
    cases h
    have hv:=val_lt s (List.all_eq_true.1 ha)
    exact ⟨hd,Nat.lt_of_lt_of_le hv (Nat.pow_le_pow_right (by omega) (by omega)),by omega⟩
   ·cases h
  ·cases h
def twoL (head:UInt8):List UInt8->Option (Nat × Nat)
 | []=>none
 | c :: w=>if c=head then
  match w.dropWhile (fun x=>x != 58) with
  | []=>none
  | _ :: y=>match numL (w.takeWhile (fun x=>x != 58)),numL y with
    | some a,some b=>some (a,b)
    | _,_=>none
  else none
def wordsL:List (List UInt8):=[[97,110,100],[111,114],[120,111,114],[97,100,100],[115,117,98],[109,117,108],[100,105,118],[114,101,109],[115,104,108],[115,104,114],[61],[60],[115,60],[106,111,105,110]]
def wNot:List UInt8:=[110,111,116]
def wSlice:List UInt8:=[115,108,105,99,101]
def wIf:List UInt8:=[105,102]
def wAll:List UInt8:=[97,108,108]
def wSome:List UInt8:=[115,111,109,101]
def headL (n:Nd):List UInt8 :=
 if n.op=2 then wNot
 else if n.op=17 then wSlice++[32]++dec n.k.toNat++[32]++dec n.w.toNat
 else if n.op=18 then wIf
 else if n.op=19 then wAll++[32,118]++dec n.k.toNat++[58]++dec n.b.toNat
 else if n.op=20 then wSome++[32,118]++dec n.k.toNat++[58]++dec n.b.toNat
 else wordsL.getD (n.op - 3).toNat []
def txt (ts:List (List UInt8)) (p:Int):List UInt8:=ts.getD p.toNat []
def withParts (ts:List (List UInt8)):List UInt8->List Int->Option (List UInt8)
 | h,[]=>some h
 | h,p :: ps=>if txt ts p=[] then none else withParts ts (h++[32]++txt ts p) ps
def showN (n:Nd) (ts:List (List UInt8)):List UInt8 :=
 if n.op=0 then [35]++dec n.w.toNat++[58]++dec n.k.toNat
 else if n.op=1 then [118]++dec n.k.toNat++[58]++dec n.w.toNat
 else match withParts ts (headL n) (parts n) with
  | none=>[]
  | some h=>if 4000 < h.length+2 then [] else [40]++h++[41]
def showTo (l:List Nd):Nat->List (List UInt8)
 | 0=>[]
 | k+1=>showTo l k++[showN (nth l k) (showTo l k)]
theorem showTo_length (l:List Nd) (k:Nat):(showTo l k).length=k:=by
 induction k with
 | zero=>rfl
 | succ k ih=>show (showTo l k++[_]).length=_;rw [List.length_append,ih];rfl
def showL (l:List Nd):List UInt8:=if termOk l then txt (showTo l l.length) ((l.length:Int) - 1) else []
def placeOf (t:List Nd) (n:Nd):Option Nat:=(List.range t.length).find? fun i=>decide ((nth t i).op=n.op/\(nth t i).w=n.w/\(nth t i).k=n.k/\(nth t i).a=n.a/\(nth t i).b=n.b/\(nth t i).c=n.c)
def putL (t:List Nd) (n:Nd) (p:Nat):Except (Int × Nat) (List Nd × Nat) :=
 match placeOf t n with
 | some i=>.ok (t,i)
 | none=>if nodeOk (t++[n]) t.length then (if 80 < t.length+1 then .error (4,p) else .ok (t++[n],t.length)) else .error (3,p)
def inWord (c:UInt8):Bool:=c != 32&&c != 41
def opOf (w:List UInt8):Option (Int × Nat) :=
 match (List.range 14).find? (fun i=>decide (wordsL.getD i []=w)) with
 | some i=>some (3+(i:Int),2)
 | none=>if w=wNot then some (2,1) else if w=wSlice then some (17,1) else if w=wIf then some (18,3) else if w=wAll then some (19,1) else if w=wSome then some (20,1) else none
structure Rd where
 p:Nat
 r:List UInt8
 t:List Nd
def Rd.word (st:Rd):List UInt8:=st.r.takeWhile inWord
def Rd.past (st:Rd):Rd:=⟨st.p+(st.r.takeWhile inWord).length,st.r.dropWhile inWord,st.t⟩
def Rd.blank (st:Rd):Option Rd:=match st.r with
 | []=>none
 | c :: r=>if c=32 then some ⟨st.p+1,r,st.t⟩ else none
def numsL (op:Int) (st:Rd):Option (Rd × Nd) :=
 if op=17 then
  match st.blank with
  | none=>none
  | some s1=>match numL s1.word with
    | none=>none
    | some k=>match s1.past.blank with
      | none=>none
      | some s2=>match numL s2.word with
        | none=>none
        | some w=>some (s2.past,⟨op,w,k,0,0,0⟩)
 else if op=19\/op=20 then
  match st.blank with
  | none=>none
  | some s1=>match twoL 118 s1.word with
    | none=>none
    | some (k,b)=>some (s1.past,⟨op,1,k,0,b,0⟩)
 else some (st,⟨op,0,0,0,0,0⟩)
def partsL (rd:Rd->Except (Int × Nat) (Rd × Nat)) (p0:Nat):Nat->Rd->Except (Int × Nat) (Rd × List Nat)
 | 0,st=>.ok (st,[])
 | c+1,st=>match st.blank with
   | none=>.error (2,p0)
   | some s1=>match rd s1 with
     | .error e=>.error e
     | .ok (s2,i)=>match partsL rd p0 c s2 with
       | .error e=>.error e
       | .ok (s3,is)=>.ok (s3,i :: is)
def madeL (n:Nd) (t:List Nd) (is:List Nat):Nd :=
 let a:Int:=is.getD 0 0
 let b:Int:=if 1 < is.length then (is.getD 1 0:Nat) else n.b
 let c:Int:=if 2 < is.length then (is.getD 2 0:Nat) else 0
 let w:Int:=if n.op=17\/n.op=19\/n.op=20 then n.w
  else if 13<=n.op/\n.op<=15 then 1
  else if n.op=16 then width t a+width t b
  else if n.op=18 then width t b
  else width t a
 ⟨n.op,w,n.k,a,b,c⟩
def innerL (rd:Rd->Except (Int × Nat) (Rd × Nat)) (p0:Nat) (st:Rd):Except (Int × Nat) (Rd × Nat) :=
 match opOf st.word with
 | none=>.error (2,p0)
 | some (op,count)=>match numsL op st.past with
   | none=>.error (2,p0)
   | some (s1,n)=>match partsL rd p0 count s1 with
     | .error e=>.error e
     | .ok (s2,is)=>match s2.r with
       | []=>.error (2,p0)
       | c :: r=>if c=41 then
        match putL s2.t (madeL n s2.t is) p0 with
        | .error e=>.error e
        | .ok (t,i)=>.ok (⟨s2.p+1,r,t⟩,i)
        else .error (2,p0)
def leafL (st:Rd):Except (Int × Nat) (Rd × Nat) :=
 match twoL 35 st.word with
 | some (a,b)=>match putL st.t ⟨0,a,b,0,0,0⟩ st.p with
   | .error e=>.error e
   | .ok (t,i)=>.ok (⟨st.past.p,st.past.r,t⟩,i)
 | none=>match twoL 118 st.word with
   | some (a,b)=>match putL st.t ⟨1,b,a,0,0,0⟩ st.p with
     | .error e=>.error e
     | .ok (t,i)=>.ok (⟨st.past.p,st.past.r,t⟩,i)
   | none=>.error (2,st.p)
def opens (r:List UInt8):Bool:=match r with
 | []=>false
 | c :: _=>c==40
def rdL:Nat->Rd->Except (Int × Nat) (Rd × Nat)
 | 0,_=>.error (2,0)
 | f+1,st=>if opens st.r then innerL (rdL f) st.p ⟨st.p+1,st.r.tail,st.t⟩ else leafL st
def readL (s:List UInt8):List Nd × Int × Int :=
 if 4000 < s.length then ([],1,0)
 else match rdL (s.length+1) ⟨0,s,[]⟩ with
  | .error (c,p)=>([],c,p)
  | .ok (st,i)=>if st.r.length=0 then (st.t.take (i+1),0,0) else ([],5,st.p)
def canonL (l:List Nd):List Nd:=if (showL l).length=0 then [] else (readL (showL l)).1
end Tx0
end Go.Proofs.YthanhcobfehmnaaGreat
