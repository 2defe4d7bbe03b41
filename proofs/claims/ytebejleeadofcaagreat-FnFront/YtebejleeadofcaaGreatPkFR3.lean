import Derived.Test.YtebejleeadofcaaGreatRows
import Derived.Deep.AppendLies
import Derived.OwnWalk
import Derived.WalkKit
import Derived.WalkSpells
import Derived.WalkLawsBesides
import Derived.Test.YtebejleeadofcaaGreatPkFR0
import Derived.Test.YtebejleeadofcaaGreatPkFR2
import Derived.Test.YtebejleeadofcaaGreatPkFR1
namespace Go.Proofs.YtebejleeadofcaaGreat
set_option maxRecDepth 100000
set_option maxHeartbeats 8000000
set_option linter.unusedVariables false
namespace Ap1
open Go.RowKit
open Nd0
def WBools (w:World) (B:Nat) (a:Option Addr) (l:List Bool):Prop :=
 l.length<=maxLen/\(l.length=0\/∃ b o,a=some ⟨b,o,none⟩/\B<=b/\∀ i (h:i < l.length),w.cell? ⟨b,o+i,none⟩=some (.bool l[i])/\w.frozen? ⟨b,o+i,none⟩=false)
theorem infoBool:(Tryz.prog.info? 4).map (fun i=>(i.zero,i.size,i.bytes))=some (some (.bool false),1,1):=by kernel_rfl
def Owb (w:World) (B:Nat) (v:Value) (l:List Bool):Prop:=w.ownsRow B 4 1 v l.length (l.map fun x=>.bool x)
theorem Owb.form {w:World} {B:Nat} {v:Value} {l:List Bool} (h:Owb w B v l):∃ a c,v=.slice a l.length c/\WBools w B a l:=by
 obtain ⟨h1,h2⟩:=h
 rcases h2 with ⟨rfl,h0⟩|⟨g,cap,cur,rfl,hb,hg,hn,hm,hs,ht⟩
 ·have:l=[]:=List.eq_nil_of_length_eq_zero h0
  subst this
  exact ⟨none,0,rfl,Nat.zero_le _,.inl rfl⟩
 ·refine ⟨_,_,rfl,by omega,.inr ⟨g,0,rfl,hb,fun i hi=>⟨?_,?_⟩⟩⟩
  ·rw [Nat.zero_add,cell_of_row w g i cur _ _ hg]
   have e:(cur.toList.take (l.length*1))[i]? = some (.bool l[i]):=by rw [ht];simp [hi]
   rw [List.getElem?_take_of_lt (by omega)] at e
   simpa using e
  ·rw [Nat.zero_add]
   simp [World.frozen?,hg]
theorem Owb.lit (w:World) (B:Nat) (hB:B<=w.heap.size):Owb (w.alloc (.cells #[] 4)) B (.slice (some ⟨w.heap.size,0,none⟩) 0 0) [] :=
 World.ownsRow_lit w #[] 0 hB (Nat.zero_le _) rfl
theorem Owb.lt {w:World} {B:Nat} {v:Value} {l:List Bool} (h:Owb w B v l):∀ k,v.ownBlock=some k->B<=k/\k < w.heap.size:=World.ownsRow.lt h
theorem Owb.kept {w w':World} {B:Nat} {v:Value} {l:List Bool} (h:Owb w B v l) {S:Nat->Prop} (k:Kept S w w') (hs:∀ i,v.ownBlock=some i->¬ S i):Owb w' B v l:=by
 refine ⟨h.1,?_⟩
 rcases h.2 with hn|⟨g,cap,cur,rfl,hb,hgg,rest⟩
 ·exact .inl hn
 ·refine .inr ⟨g,cap,cur,rfl,hb,?_,rest⟩
  rw [k.block g (Array.getElem?_eq_some_iff.1 hgg).1 (hs g rfl)]
  exact hgg
theorem Owb.set {w:World} {B g cap:Nat} {l:List Bool} (h:Owb w B (.slice (some ⟨g,0,none⟩) l.length cap) l) (j:Nat) (x:Bool):Owb (w.setCell ⟨g,j,none⟩ (.bool x)) B (.slice (some ⟨g,0,none⟩) l.length cap) (l.set j x):=by
 have h1:=(World.ownsRow.stored h j (.bool x)).1
 unfold Owb
 rw [List.map_set,List.length_set]
 exact h1
theorem Owb.cell {w:World} {B g cap:Nat} {l:List Bool} (h:Owb w B (.slice (some ⟨g,0,none⟩) l.length cap) l) (j:Nat) (hj:j < l.length):w.cell? ⟨g,j,none⟩=some (.bool l[j])/\w.frozen? ⟨g,j,none⟩=false:=by
 obtain ⟨a,c,hv,hw⟩:=h.form
 cases hv
 rcases hw.2 with h0|⟨b,o,hb,_,hc⟩
 ·omega
 ·cases hb
  have:=hc j hj
  rw [Nat.zero_add] at this
  exact this
theorem Owb.set' {w:World} {B g cap n:Nat} {l:List Bool} (h:Owb w B (.slice (some ⟨g,0,none⟩) n cap) l) (hn:l.length=n) (j:Nat) (x:Bool):Owb (w.setCell ⟨g,j,none⟩ (.bool x)) B (.slice (some ⟨g,0,none⟩) n cap) (l.set j x):=by
 subst hn;exact h.set j x
theorem Owb.cell' {w:World} {B g cap n:Nat} {l:List Bool} (h:Owb w B (.slice (some ⟨g,0,none⟩) n cap) l) (hn:l.length=n) (j:Nat) (hj:j < n):w.cell? ⟨g,j,none⟩=some (.bool (l[j]'(by omega)))/\w.frozen? ⟨g,j,none⟩=false:=by
 subst hn;exact h.cell j hj
theorem Owb.at {w:World} {B:Nat} {v:Value} {l:List Bool} (h:Owb w B v l) (hl:1<=l.length):∃ g c,v=.slice (some ⟨g,0,none⟩) l.length c/\B<=g/\g < w.heap.size:=by
 rcases h.2 with ⟨rfl,h0⟩|⟨g,cap,cur,rfl,hb,hg,_⟩
 ·omega
 ·exact ⟨g,cap,rfl,hb,(Array.getElem?_eq_some_iff.1 hg).1⟩
theorem app_bool {ops:Array Oper} {rest:List Oper} {o:Oper} {a:Act} {Q:Exit->Act->World->Prop} (W:World) (hgd:o.guard=none) (s x:Operand)
 (ho:o.op=.call { callee:=.builtin .append,args := #[s,x],argTypes := #[33,33] })
 (B:Nat) (v:Value) (l:List Bool) (y:Bool) (hs:a.eval s=v) (hx:a.eval x=.slice (some ⟨W.heap.size,0,none⟩) 1 1)
 (hown:Owb W B v l) (hB:B<=W.heap.size) (hlen:l.length<=1048576)
 (h:∀ g cap w',Owb w' B (.slice (some ⟨g,0,none⟩) (l.length+1) cap) (l++[y])->Kept (fun k=>v.ownBlock=some k) W w'->(v.ownBlock=some g\/W.heap.size<=g)->wpList Tryz.prog ops Q rest (a.put o.dst (.slice (some ⟨g,0,none⟩) (l.length+1) cap)) w') :
 wpList Tryz.prog ops Q (o :: rest) a (W.alloc (.cells #[.bool y] 4)):=by
 obtain ⟨i,hi,hzz⟩:=Option.map_eq_some_iff.1 infoBool
 simp only [Prod.mk.injEq] at hzz
 obtain ⟨hz,hsz,hb⟩:=hzz
 refine wpList_append_lies (W.alloc (.cells #[.bool y] 4)) hgd s x 33 ho B 4 i (.bool false) 1 1 Tryz.underlying33 hi hz hsz hb rfl (by omega) v l.length (l.map fun x=>.bool x) hs (World.ownsRow.alloc hown _)
  ⟨W.heap.size,0,none⟩ 1 1 [.bool y] hx rfl ?_ ?_ (by omega) (by unfold maxLen;omega) (by omega) (by simp;omega) _ rfl ?_
 ·intro j u hu
  exact World.news_of_block (heap_alloc_new W _) j u hu
 ·intro u hu
  simp at hu
  subst hu
  rfl
 ·intro g cap w' h1 h2 h3 h4
  refine h g cap w' ?_ ?_ ?_
  ·unfold Owb
   simpa using h1
  ·have k1:Kept (fun k=>v.ownBlock=some k) W (W.alloc (.cells #[.bool y] 4)):=(Kept.refl _ W).alloc _
   exact k1.trans ⟨h2.os,h2.tape,h2.output,h2.size,fun k hk hn=>h2.block k hk (fun e=>hn e.symm)⟩
  ·rcases h3 with h3|h3
   ·exact .inl h3
   ·exact .inr (by rw [h3];simp)
end Ap1
namespace Rw1
open Go.RowKit
open Nd0 Tm1 Tm6 Ap0 Ap1 Rw0
theorem row_bools {w:World} {B:Nat} {v:Value} {l:List Bool} (h:Owb w B v l) (hl:1<=l.length):∃ g c,v=.slice (some ⟨g,0,none⟩) l.length c/\B<=g/\g < w.heap.size/\Row w g l.length (fun i=>.bool (flag l i)):=by
 obtain ⟨g,c,rfl,h1,h2⟩:=h.at hl
 refine ⟨g,c,rfl,h1,h2,fun i hi=>?_⟩
 have h9:=h.cell i hi
 rw [flag_get] at h9
 exact h9
theorem row_ints {w:World} {B:Nat} {v:Value} {l:List Int} (h:Ows w B v l) (hl:1<=l.length):∃ g c,v=.slice (some ⟨g,0,none⟩) l.length c/\B<=g/\g < w.heap.size/\Row w g l.length (fun i=>.int .i64 (wd l (i:Int))):=by
 have hlt:=h.lt
 obtain ⟨h1,h2⟩:=h
 rcases h2 with ⟨rfl,h0⟩|⟨g,cap,cur,rfl,hb,hg,hn,hm,hs,ht⟩
 ·omega
 ·refine ⟨g,cap,rfl,hb,(hlt g rfl).2,fun i hi=>⟨?_,by simp [World.frozen?,hg]⟩⟩
  rw [cell_of_row w g i cur _ _ hg]
  have e:(cur.toList.take (l.length*1))[i]? = some (.int .i64 l[i]):=by rw [ht];simp [hi]
  rw [List.getElem?_take_of_lt (by omega)] at e
  rw [wd_get hi] at e
  simpa using e
theorem wd_set {us:List Int} {i:Nat} (h:i < us.length) (x:Int) (j:Nat):wd (us.set i x) (j:Int)=if j=i then x else wd us (j:Int):=by
 by_cases e:j=i
 ·subst e;simp [wd,List.getD,h]
 ·have e':¬ i=j:=fun x=>e x.symm
  simp [wd,List.getD,e,e']
theorem row_set_int {w:World} {g n:Nat} {us:List Int} (h:Row w g n (fun i=>.int .i64 (wd us (i:Int)))) (hn:us.length=n) {p:Nat} (hp:p < n) (x:Int):Row (w.setCell ⟨g,p,none⟩ (.int .i64 x)) g n (fun i=>.int .i64 (wd (us.set p x) (i:Int))):=by
 refine (h.set hp _).congr (fun i hi=>?_)
 rw [wd_set (by omega)]
 by_cases e:i=p
 ·rw [if_pos e,if_pos e]
 ·rw [if_neg e,if_neg e]
end Rw1
namespace Tm9
open Nd0 Pl1 Tm0 Tm1 Tm4 Tm5 Tm6 Rw1
theorem addUses_length (ps:List Int):∀ us:List Int,(addUses us ps).length=us.length:=by
 induction ps with
 | nil=>intro us;rfl
 | cons p ps ih=>intro us;show (addUses (us.set p.toNat (wd us p+1)) ps).length=_;rw [ih,List.length_set]
theorem uses_length {l:List Nd} {ws:List Int}:∀ {k:Nat} {us:List Int},usesTo l ws k=some us->us.length=l.length:=by
 intro k
 induction k with
 | zero=>intro us h;cases h;simp
 | succ k ih =>
   intro us h
   cases hu:usesTo l ws k with
   | none=>rw [uses_none hu _ (Nat.le_succ _)] at h;cases h
   | some u0 =>
     rw [uses_succ hu] at h
     unfold uStep at h
     split at h
     ·split at h
      ·cases h
      ·cases h;rw [addUses_length];exact ih hu
     ·cases h;exact ih hu
def Upto (us:List Int) (B:Int):Prop:=∀ p:Int,0<=wd us p/\wd us p<=B
theorem upto_zero (n:Nat):Upto (List.replicate n 0) 0:=by
 intro p
 have:wd (List.replicate n 0) p=0:=by
  unfold wd;rw [List.getD_eq_getElem?_getD]
  rcases Nat.lt_or_ge p.toNat n with h|h
  ·rw [List.getElem?_replicate,if_pos h];rfl
  ·rw [List.getElem?_replicate,if_neg (by omega)];rfl
 rw [this];exact ⟨Int.le_refl _,Int.le_refl _⟩
theorem upto_mono {us:List Int} {B C:Int} (h:Upto us B) (hc:B<=C):Upto us C:=fun p=>⟨(h p).1,Int.le_trans (h p).2 hc⟩
theorem wd_toNat (us:List Int) (q:Int):wd us q=wd us ((q.toNat:Nat):Int):=by unfold wd;rw [Int.toNat_natCast]
theorem upto_set {us:List Int} {B:Int} (h:Upto us B) (p:Nat):Upto (us.set p (wd us (p:Int)+1)) (B+1):=by
 intro q
 have hq:=h q
 have hp:=h (p:Int)
 by_cases hl:p < us.length
 ·have e:=wd_toNat (us.set p (wd us (p:Int)+1)) q
  have e2:=wd_toNat us q
  rw [e,wd_set hl]
  split
  ·omega
  ·rw [<- e2];omega
 ·rw [List.set_eq_of_length_le (by omega)];omega
theorem twice_succ (l:List Nd) (us:List Int) (k:Nat):twice l us (k+1)=(twice l us k||(flag (reachL l) k&&flag (holdTo l l.length) k&&decide (1 < wd us (k:Int)))):=by
 unfold twice
 rw [List.range_succ,List.any_append]
 simp
theorem twice_found {l:List Nd} {us:List Int} {k n:Nat} (h:k < n) (h1:flag (reachL l) k=true) (h2:flag (holdTo l l.length) k=true) (h3:1 < wd us (k:Int)):twice l us n=true:=by
 unfold twice
 rw [List.any_eq_true]
 exact ⟨k,List.mem_range.2 h,by rw [h1,h2];simpa using h3⟩
end Tm9
namespace Tm10
open Nd0 Pl1 Tm0 Tm1 Tm2 Tm3 Tm4 Tm5 Tm6 Tm8 Tm9 Rw1
theorem quants_skip1 (l:List Nd) (x:Nat) (h:flag (reachL l) x=false):quantsTo l (x+1)=quantsTo l x:=by
 show (quantsTo l x).bind _=_
 cases hq:quantsTo l x with
 | none=>rfl
 | some ws=>show qStep l ws x=_;unfold qStep;rw [h];rfl
theorem flag_between (l:List Nd) {x y z:Nat} (h:(reachTo l x).length=(reachTo l y).length) (h1:x<=z) (h2:z < y):flag (reachL l) z=false:=by
 cases hf:flag (reachL l) z
 ·rfl
 ·have a1:=reachTo_mono l h1
  have a2:=reachTo_lt l h2 hf
  omega
theorem quants_skip (l:List Nd) {x y:Nat} (hxy:x<=y) (h:(reachTo l x).length=(reachTo l y).length):quantsTo l y=quantsTo l x:=by
 induction y with
 | zero=>have:x=0:=by omega
         subst this;rfl
 | succ y ih =>
   by_cases e:x=y+1
   ·subst e;rfl
   ·have hf:flag (reachL l) y=false:=flag_between l h (by omega) (by omega)
    rw [quants_skip1 l y hf]
    refine ih (by omega) ?_
    have:=reachTo_succ l y
    rw [hf] at this
    rw [h,this];rfl
theorem quants_same (l:List Nd) {x y:Nat} (h:(reachTo l x).length=(reachTo l y).length):quantsTo l y=quantsTo l x:=by
 rcases Nat.le_total x y with hh|hh
 ·exact quants_skip l hh h
 ·exact (quants_skip l hh h.symm).symm
theorem quants_len {l:List Nd}:∀ {k:Nat} {ws:List Int},quantsTo l k=some ws->ws.length=8:=by
 intro k
 induction k with
 | zero=>intro ws h;cases h;rfl
 | succ k ih =>
   intro ws h
   cases hq:quantsTo l k with
   | none=>rw [quants_none hq _ (Nat.le_succ _)] at h;cases h
   | some w0 =>
     rw [quants_succ hq] at h
     unfold qStep at h
     split at h
     ·split at h
      ·cases h;rw [List.length_set];exact ih hq
      ·cases h
     ·cases h;exact ih hq
def usesF (l:List Nd):Nat->List Int
 | 0=>List.replicate l.length 0
 | k+1=>if flag (reachL l) k then addUses (usesF l k) (parts (nth l k)) else usesF l k
theorem usesF_length (l:List Nd) (k:Nat):(usesF l k).length=l.length:=by
 induction k with
 | zero=>simp [usesF]
 | succ k ih=>unfold usesF;split
              ·rw [addUses_length];exact ih
              ·exact ih
theorem uses_some {l:List Nd} {ws:List Int}:∀ {k:Nat},(∀ i,i < k->flag (reachL l) i=true->badNode l ws i=false)->usesTo l ws k=some (usesF l k):=by
 intro k
 induction k with
 | zero=>intro _;rfl
 | succ k ih =>
   intro h
   rw [uses_succ (ih (fun i hi=>h i (by omega)))]
   show uStep l ws (usesF l k) k=some (if flag (reachL l) k then addUses (usesF l k) (parts (nth l k)) else usesF l k)
   unfold uStep
   cases hf:flag (reachL l) k
   ·rfl
   ·rw [if_pos rfl,if_pos rfl,h k (by omega) hf];rfl
theorem uses_bad {l:List Nd} {ws:List Int} {i k:Nat} (hi:i < k) (hf:flag (reachL l) i=true) (hb:badNode l ws i=true):usesTo l ws k=none:=by
 have:usesTo l ws (i+1)=none:=by
  show (usesTo l ws i).bind _=none
  cases hu:usesTo l ws i with
  | none=>rfl
  | some us=>show uStep l ws us i=none;unfold uStep;rw [hf,if_pos rfl,hb];rfl
 exact uses_none this _ (by omega)
theorem usesF_skip (l:List Nd) {x y:Nat} (hxy:x<=y) (h:(reachTo l x).length=(reachTo l y).length):usesF l y=usesF l x:=by
 induction y with
 | zero=>have:x=0:=by omega
         subst this;rfl
 | succ y ih =>
   by_cases e:x=y+1
   ·subst e;rfl
   ·have hf:flag (reachL l) y=false:=flag_between l h (by omega) (by omega)
    have e1:usesF l (y+1)=usesF l y:=by show (if _ then _ else _)=_;rw [hf];rfl
    rw [e1]
    refine ih (by omega) ?_
    have:=reachTo_succ l y
    rw [hf] at this
    rw [h,this];rfl
theorem usesF_same (l:List Nd) {x y:Nat} (h:(reachTo l x).length=(reachTo l y).length):usesF l y=usesF l x:=by
 rcases Nat.le_total x y with hh|hh
 ·exact usesF_skip l hh h
 ·exact (usesF_skip l hh h.symm).symm
theorem addUses_le (ps:List Int):∀ (us:List Int) (q:Nat),wd us (q:Int)<=wd (addUses us ps) (q:Int):=by
 induction ps with
 | nil=>intro us q;exact Int.le_refl _
 | cons p ps ih =>
   intro us q
   refine Int.le_trans ?_ (ih (us.set p.toNat (wd us p+1)) q)
   by_cases hp:p.toNat < us.length
   ·rw [wd_set hp]
    split
    ·rename_i e
     have e2:=wd_toNat us p
     rw [<- e] at e2
     omega
    ·exact Int.le_refl _
   ·rw [List.set_eq_of_length_le (by omega)];exact Int.le_refl _
theorem usesF_le (l:List Nd) {x y:Nat} (h:x<=y) (q:Nat):wd (usesF l x) (q:Int)<=wd (usesF l y) (q:Int):=by
 induction y with
 | zero=>have:x=0:=by omega
         subst this;exact Int.le_refl _
 | succ y ih =>
   by_cases e:x=y+1
   ·subst e;exact Int.le_refl _
   ·refine Int.le_trans (ih (by omega)) ?_
    show _<=wd (if _ then _ else _) _
    split
    ·exact addUses_le _ _ _
    ·exact Int.le_refl _
theorem hold_prefix (l:List Nd) {k n i:Nat} (hi:i < k) (hk:k<=n):flag (holdTo l n) i=flag (holdTo l k) i:=by
 induction n with
 | zero=>omega
 | succ n ih =>
   by_cases e:k=n+1
   ·subst e;rfl
   ·rw [<- ih (by omega)]
    show flag (holdTo l n++[_]) i=_
    unfold flag
    rw [List.getD_eq_getElem?_getD,List.getElem?_append_left (by rw [holdTo_length];omega),<- List.getD_eq_getElem?_getD]
theorem hold_at {l:List Nd} (hD:Down l) {i:Nat} (hi:i < l.length):flag (holdTo l l.length) i=(quant (nth l i).op||below (holdTo l l.length) (parts (nth l i))):=by
 rw [hold_prefix l (k:=i+1) (n:=l.length) (by omega) (by omega)]
 have e1:flag (holdTo l (i+1)) i=(quant (nth l i).op||below (holdTo l i) (parts (nth l i))):=by
  show flag (holdTo l i++[_]) i=_
  unfold flag
  rw [List.getD_eq_getElem?_getD,List.getElem?_append_right (by rw [holdTo_length];exact Nat.le_refl _),holdTo_length]
  simp
 rw [e1]
 congr 1
 unfold below
 rw [Bool.eq_iff_iff,List.any_eq_true,List.any_eq_true]
 constructor
 ·rintro ⟨p,hp,hf⟩
  have hd:=hD i hi p hp
  exact ⟨p,hp,by rw [hold_prefix l (k:=i) (n:=l.length) (by omega) (by omega)];exact hf⟩
 ·rintro ⟨p,hp,hf⟩
  have hd:=hD i hi p hp
  exact ⟨p,hp,by rw [<- hold_prefix l (k:=i) (n:=l.length) (by omega) (by omega)];exact hf⟩
def Mov (l:List Nd):Prop:=(∀ i,i < l.length->flag (reachL l) i=true->flag (holdTo l l.length) i=true->outer (nth l i).op=true)/\∀ i,i < l.length->flag (reachL l) i=true->flag (holdTo l l.length) i=true->wd (usesF l l.length) (i:Int)<=1
def Wid (l:List Nd) (ws:List Int):Prop:=∀ i,i < l.length->flag (reachL l) i=true->(nth l i).op=1->(nth l i).w=wd ws (nth l i).k
theorem sent_all {l:List Nd} {ws:List Int} (h1:termOk l=true) (h2:(nth l (l.length - 1)).w=1) (h3:(freeL l).length=0) (hq:quantsTo l l.length=some ws) (hw:Wid l ws) (hm:Mov l):sentB l=true:=by
 have hu:usesTo l ws l.length=some (usesF l l.length):=uses_some (fun i hi hf=>by
  unfold badNode
  have a1:((nth l i).op==1&&wd ws (nth l i).k != (nth l i).w)=false:=by
   cases ho:((nth l i).op==1)
   ·rfl
   ·have:=hw i hi hf (by simpa using ho)
    simp [this]
  have a2:(flag (holdTo l l.length) i && !outer (nth l i).op)=false:=by
   cases hh:flag (holdTo l l.length) i
   ·rfl
   ·rw [hm.1 i hi hf hh];rfl
  rw [a1,a2];rfl)
 rw [sent_twice h1 h2 h3 hq hu]
 have:twice l (usesF l l.length) l.length=false:=by
  unfold twice
  rw [List.any_eq_false]
  intro i hi
  have hi':=List.mem_range.1 hi
  cases hf:flag (reachL l) i
  ·simp
  ·cases hh:flag (holdTo l l.length) i
   ·simp
   ·have:=hm.2 i hi' hf hh
    simp;omega
 rw [this];rfl
theorem sent_wid {l:List Nd} {ws:List Int} (hq:quantsTo l l.length=some ws) {i:Nat} (hi:i < l.length) (hf:flag (reachL l) i=true) (ho:(nth l i).op=1) (hw:(nth l i).w≠wd ws (nth l i).k):sentB l=false :=
 sent_uses (k:=l.length) (Nat.le_refl _) hq (uses_bad hi hf (by
  unfold badNode
  have:((nth l i).op==1&&wd ws (nth l i).k != (nth l i).w)=true:=by
   rw [Bool.and_eq_true];exact ⟨by simpa using ho,by simp;exact fun e=>hw e.symm⟩
  rw [this];rfl))
theorem sent_outer {l:List Nd} {i:Nat} (hi:i < l.length) (hf:flag (reachL l) i=true) (hh:flag (holdTo l l.length) i=true) (ho:outer (nth l i).op=false):sentB l=false:=by
 cases hq:quantsTo l l.length with
 | none=>exact sent_quants (Nat.le_refl _) hq
 | some ws=>exact sent_uses (k:=l.length) (Nat.le_refl _) hq (uses_bad hi hf (by unfold badNode;rw [hh,ho];simp))
theorem sent_used {l:List Nd} {i:Nat} (hi:i < l.length) (hf:flag (reachL l) i=true) (hh:flag (holdTo l l.length) i=true) (hu:1 < wd (usesF l l.length) (i:Int)):sentB l=false:=by
 cases hq:quantsTo l l.length with
 | none=>exact sent_quants (Nat.le_refl _) hq
 | some ws =>
   cases hus:usesTo l ws l.length with
   | none=>exact sent_uses (k:=l.length) (Nat.le_refl _) hq hus
   | some us =>
     have hno:∀ i,i < l.length->flag (reachL l) i=true->badNode l ws i=false:=by
      intro j hj hjf
      cases hb:badNode l ws j
      ·rfl
      ·rw [uses_bad hj hjf hb] at hus;cases hus
     have e:=uses_some (k:=l.length) hno
     rw [hus] at e
     cases e
     unfold sentB
     rw [hq];simp only
     rw [hus];simp only
     rw [twice_found hi hf hh hu];simp
end Tm10
namespace Tm11
open Nd0 Pl1 Tm0 Tm1 Tm2 Tm4 Tm5 Tm6 Tm8 Tm9 Tm10
def bitsTo (l:List Nd):Nat->Int
 | 0=>0
 | k+1=>if flag (reachL l) k&&quant (nth l k).op then bitsTo l k+(nth l k).b else bitsTo l k
def bitsL (l:List Nd):Int:=if sentB l then bitsTo l l.length else 0
theorem quant_b {l:List Nd} {k:Nat} (h:nodeOk l k=true) (hq:quant (nth l k).op=true):1<=(nth l k).b/\(nth l k).b<=8:=by
 simp only [nodeOk,Bool.and_eq_true] at h
 have hs:=h.2
 unfold shapeOk at hs
 have h2:(nth l k).op=19\/(nth l k).op=20:=by simpa [quant] using hq
 rw [if_neg (by omega),if_neg (by omega),if_neg (by omega),if_neg (by omega),if_neg (by omega),if_neg (by omega),if_neg (by omega),if_neg (by omega),if_pos h2] at hs
 simp at hs;omega
theorem bits_bound {l:List Nd} (hT:termOk l=true):∀ k,k<=l.length->0<=bitsTo l k/\bitsTo l k<=8*(k:Int):=by
 intro k
 induction k with
 | zero=>intro _;exact ⟨Int.le_refl _,Int.le_refl _⟩
 | succ k ih =>
   intro hk
   have:=ih (by omega)
   have e:bitsTo l (k+1)=if flag (reachL l) k&&quant (nth l k).op then bitsTo l k+(nth l k).b else bitsTo l k:=rfl
   rw [e]
   split
   ·rename_i h
    simp only [Bool.and_eq_true] at h
    have:=quant_b (term_node hT (by omega:k < l.length)) h.2
    omega
   ·omega
theorem bits_skip (l:List Nd) {x y:Nat} (hxy:x<=y) (h:(reachTo l x).length=(reachTo l y).length):bitsTo l y=bitsTo l x:=by
 induction y with
 | zero=>have:x=0:=by omega
         subst this;rfl
 | succ y ih =>
   by_cases e:x=y+1
   ·subst e;rfl
   ·have hf:flag (reachL l) y=false:=flag_between l h (by omega) (by omega)
    have e1:bitsTo l (y+1)=bitsTo l y:=by show (if _ then _ else _)=_;rw [hf];rfl
    rw [e1]
    refine ih (by omega) ?_
    have:=reachTo_succ l y
    rw [hf] at this
    rw [h,this];rfl
theorem bits_same (l:List Nd) {x y:Nat} (h:(reachTo l x).length=(reachTo l y).length):bitsTo l y=bitsTo l x:=by
 rcases Nat.le_total x y with hh|hh
 ·exact bits_skip l hh h
 ·exact (bits_skip l hh h.symm).symm
theorem sent_ok {l:List Nd} (h:sentB l=true):termOk l=true:=by
 cases ht:termOk l
 ·rw [sent_term ht] at h;cases h
 ·rfl
end Tm11
namespace Dq0
open Nd0 Tm0 Tm1 Tm5 Tm6 Tm11
def sq (l:List Nd):Int:=(l.map fun n=>if quant n.op then n.b else 0).sum
theorem sq_snoc (l:List Nd) (n:Nd):sq (l++[n])=sq l+if quant n.op then n.b else 0:=by simp [sq]
theorem sq_non {l:List Nd} {n:Nd} (h:n.op < 19\/20 < n.op):sq (l++[n])=sq l:=by
 have hq:quant n.op=false:=by
  unfold quant
  rw [Bool.or_eq_false_iff]
  exact ⟨beq_eq_false_iff_ne.2 (by omega),beq_eq_false_iff_ne.2 (by omega)⟩
 rw [sq_snoc,hq];simp
theorem sq_one (l:List Nd) {n:Nd} (h:0<=n.b):sq (l++[n])<=sq l+n.b:=by
 rw [sq_snoc];split<;>omega
theorem bits_sq {l:List Nd} (hT:termOk l=true):∀ k,k<=l.length->bitsTo l k<=sq (l.take k):=by
 intro k
 induction k with
 | zero=>intro _;exact Int.le_refl _
 | succ k ih =>
   intro hk
   have h:=ih (by omega)
   rw [List.take_succ_eq_append_getElem (by omega),sq_snoc,nth_get (by omega)]
   show (if flag (reachL l) k&&quant (nth l k).op then bitsTo l k+(nth l k).b else bitsTo l k)<=_
   cases hq:quant (nth l k).op
   ·simp;exact h
   ·have hb:=quant_b (term_node hT (by omega)) hq
    simp only [Bool.and_true,if_true]
    split<;>omega
theorem bits_le {l:List Nd} (hS:sentB l=true):bitsL l<=sq l:=by
 unfold bitsL
 rw [hS,if_pos rfl]
 have h:=bits_sq (sent_ok hS) l.length (Nat.le_refl _)
 rw [List.take_length] at h
 exact h
end Dq0
namespace Ws1
open Go.RowKit
open Pl1
theorem ret_int {k:IntKind} {a b:Int} (h:a=b):Ending.returned (.int k a)=.returned (.int k b):=by rw [h]
theorem ret_bool {a b:Bool} (h:a=b):Ending.returned (.bool a)=.returned (.bool b):=by rw [h]
theorem spow (m:Int) (w:World) (h0:0<=m) (h1:m<=8) :
 Calls Tryz.prog 78 #[.int .i64 m] w fun e w'=>e=.returned (.int .i64 (p2 m.toNat))/\w'=w:=by
 obtain ⟨n,rfl⟩:=Int.eq_ofNat_of_zero_le h0
 rw [Int.toNat_natCast]
 go_enter Tryz.func78,Tryz.ntmps78
 go_wp2
 go_loop [3,4] (fun x i=>∃ k:Nat,k<=n/\i=.int .i64 k/\x=.int .i64 (p2 k)) (fun _ i=>n - (intOf i).toNat)
 case atStart=>exact ⟨0,Nat.zero_le _,rfl,rfl⟩
 case round =>
  obtain ⟨k,hk,rfl,rfl⟩:=hrel
  have hp:=p2_pos k
  have hl:=p2_le k (by omega)
  by_cases hlt:k < n
  ·go_wp2
   go_round
   case rel=>exact ⟨k+1,by omega,by go_num,by rw [p2_succ]⟩
   case measure=>simp [intOf];omega
  ·go_wp2
   go_ret
   have:k=n:=by omega
   subst this
   exact ⟨rfl,rfl⟩
theorem sIn (x a b:Int) (w:World) :
 Calls Tryz.prog 75 #[.int .i64 x,.int .i64 a,.int .i64 b] w fun e w'=>e=.returned (.bool (decide (a<=x/\x<=b)))/\w'=w:=by
 by_cases h1:a<=x<;>by_cases h2:x<=b
 all_goals
  go_enter Tryz.func75,Tryz.ntmps75
  go_wp2
  go_ret
  exact ⟨ret_bool (by simp<;>omega),rfl⟩
theorem sWordOk (m a:Int) (w:World) :
 Calls Tryz.prog 79 #[.int .i64 m,.int .i64 a] w fun e w'=>e=.returned (.bool (wok m a))/\w'=w:=by
 by_cases h:1<=m/\m<=8
 ·have hp:=p2_pos m.toNat
  have hl:=p2_le m.toNat (by omega)
  have hd:decide (1<=m/\m<=8)=true:=by simpa using h
  go_enter Tryz.func79,Tryz.ntmps79
  go_wp2_with (first|(go_at_call 75;refine (sIn _ _ _ _).mono ?_;rintro e w' ⟨rfl,rfl⟩)|(go_at_call 78;refine (spow m _ (by omega) (by omega)).mono ?_;rintro e w' ⟨rfl,rfl⟩))
  go_ret
  exact ⟨ret_bool (by rw [Bool.eq_iff_iff];simp [wok];omega),rfl⟩
 ·have hd:decide (1<=m/\m<=8)=false:=by simpa using h
  go_enter Tryz.func79,Tryz.ntmps79
  go_wp2_with (go_at_call 75;refine (sIn _ _ _ _).mono ?_;rintro e w' ⟨rfl,rfl⟩)
  go_ret
  exact ⟨ret_bool (by unfold wok;symm;rw [decide_eq_false_iff_not];omega),rfl⟩
end Ws1
end Go.Proofs.YtebejleeadofcaaGreat
