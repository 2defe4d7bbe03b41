import Derived.Test.YthanhcobfehmnaaGreatPkQU229
import Derived.Test.YthanhcobfehmnaaGreatSv5
namespace Go.Proofs.YthanhcobfehmnaaGreat
set_option maxRecDepth 100000
set_option maxHeartbeats 8000000
set_option linter.unusedVariables false
namespace Pv5
open Go.RowKit
open Nd0 Pl1 Vl1 Vl2
open Wd1 (ret_int ret_bool)
open Pg1 (iWordOk)
theorem and1 {d:Nat} (h:d < 2 ^ 9):(bits .and .u16 (d:Int) 1==1)=decide (d % 2=1):=by
 have h2:∀ d:Fin 512,(bits .and .u16 ((d:Nat):Int) 1==1)=decide ((d:Nat) % 2=1):=by decide +kernel
 exact h2 ⟨d,h⟩
theorem or16 {a b:Nat} (ha:a < 2 ^ 9) (hb:b < 2 ^ 9):bits .or .u16 (a:Int) (b:Int)=((a ||| b:Nat):Int):=by
 have e:bits .or .u16 (a:Int) (b:Int)=IntKind.u16.wrap ((BitVec.ofInt 16 (a:Int) ||| BitVec.ofInt 16 (b:Int)).toNat:Int):=rfl
 have h:=Nat.or_lt_two_pow ha hb
 rw [e,BitVec.toNat_or,BitVec.ofInt_natCast,BitVec.ofInt_natCast,BitVec.toNat_ofNat,BitVec.toNat_ofNat,Nat.mod_eq_of_lt (by omega),Nat.mod_eq_of_lt (by omega)]
 unfold IntKind.wrap
 simp [IntKind.signed,IntKind.bits]
 omega
theorem not16 {a j:Nat} (ha:a < 2 ^ 9) (hj:j<=8):(bits .andNot .u16 (a:Int) ((2 ^ j:Nat):Int) != 0)=decide (a≠0/\a≠2 ^ j):=by
 have h2:∀ j:Fin 9,∀ d:Fin 512,(bits .andNot .u16 ((d:Nat):Int) ((2 ^ (j:Nat):Nat):Int) != 0)=decide ((d:Nat)≠0/\(d:Nat)≠2 ^ (j:Nat)):=by decide +kernel
 exact h2 ⟨j,by omega⟩ ⟨a,ha⟩
theorem wrap16 {j:Nat} (h8:j<=8):IntKind.u16.wrap ((2 ^ j:Nat):Int)=((2 ^ j:Nat):Int):=by
 have h2:∀ j:Fin 9,IntKind.u16.wrap ((2 ^ (j:Nat):Nat):Int)=((2 ^ (j:Nat):Nat):Int):=by decide +kernel
 exact h2 ⟨j,by omega⟩
theorem iJustW (j:Nat) (w:World) (h8:j<=8) :
 Calls Tryz.prog 87 #[.int .i64 (j:Int)] w fun e w'=>e=.returned (.int .u16 ((2 ^ j:Nat):Int))/\w'=w:=by
 have hjz:¬ (j:Int) < 0:=by omega
 go_enter Tryz.func87,Tryz.ntmps87
 go_wp2
 go_ret
 exact ⟨ret_int (by have:=wrap16 h8;push_cast at this;exact this),rfl⟩
theorem iHas (m j:Nat) (w:World) (hm:m < 2 ^ 9) (h1:1<=j) (h8:j<=8) :
 Calls Tryz.prog 88 #[.int .u16 (m:Int),.int .i64 (j:Int)] w fun e w'=>e=.returned (.bool (m.testBit j))/\w'=w:=by
 have hjz:¬ (j:Int) < 0:=by omega
 have HB:Hid ((bits .and .u16 ((m:Int) / 2 ^ j) 1==1)=m.testBit j):=by
  show _=_
  have h2:(m:Int) / 2 ^ j=((m / 2 ^ j:Nat):Int):=by push_cast;rfl
  rw [h2,and1 (Nat.lt_of_le_of_lt (Nat.div_le_self _ _) hm),Nat.testBit_eq_decide_div_mod_eq]
 go_enter Tryz.func88,Tryz.ntmps88
 go_wp2
 go_ret
 exact ⟨ret_bool HB.out,rfl⟩
def wordsB (m:Nat) (k:Int):Bool:=(List.range 8).all fun (j:Nat) => !m.testBit (j+1)||wok ((j:Int)+1) k
theorem words_iff {m:Nat} {k:Int}:wordsB m k=true↔∀ j,1<=j->j<=8->m.testBit j=true->wok (j:Int) k=true:=by
 unfold wordsB
 rw [List.all_eq_true]
 constructor
 ·intro h j h1 h8 hb
  have:=h (j - 1) (List.mem_range.2 (by omega))
  rw [show j - 1+1=j by omega,hb] at this
  rw [show ((j - 1:Nat):Int)+1=(j:Int) by omega] at this
  simpa using this
 ·intro h j hj
  have hj:=List.mem_range.1 hj
  cases hb:m.testBit (j+1)
  ·rfl
  ·have:=h (j+1) (by omega) (by omega) hb
   push_cast at this
   simp [this]
theorem iWords (m:Nat) (k:Int) (w:World) (hm:m < 2 ^ 9) :
 Calls Tryz.prog 47 #[.int .u16 (m:Int),.int .i64 k] w fun e w'=>e=.returned (.bool (wordsB m k))/\w'=w:=by
 go_enter Tryz.func47,Tryz.ntmps47
 go_wp2
 go_loop [5] (fun q=>∃ j:Nat,1<=j/\j<=9/\q=.int .i64 (j:Int)/\∀ i,1<=i->i < j->m.testBit i=true->wok (i:Int) k=true) (fun q=>9 - (intOf q).toNat)
 case atStart=>exact ⟨1,by omega,by omega,rfl,fun i h1 h2=>by omega⟩
 case round =>
  obtain ⟨j,h1,h9,rfl,hok⟩:=hrel
  have HOK:Hid (∀ i,1<=i->i < j->m.testBit i=true->wok (i:Int) k=true):=hok
  clear hok
  by_cases hj:j<=8
  ·have hjz:(j:Int)<=8:=by omega
   cases hb:m.testBit j
   ·go_wp2_with (first|(go_at_call 88;refine (iHas m j _ hm h1 hj).mono ?_;rintro e w ⟨rfl,rfl⟩;rw [hb])|(go_at_call 89;refine (iWordOk _ _ _).mono ?_;rintro e w ⟨rfl,rfl⟩))
    go_round
    case rel=>exact ⟨j+1,by omega,by omega,by go_num,fun i h2 h3 h4=>by
     by_cases e1:i=j
     ·rw [e1,hb] at h4;cases h4
     ·exact HOK.out i h2 (by omega) h4⟩
    case measure=>simp [intOf];omega
   ·cases hwk:wok (j:Int) k
    ·have HF:Hid (wordsB m k=false):=by
      show _=_
      cases hf:wordsB m k
      ·rfl
      ·rw [words_iff.1 hf j h1 hj hb] at hwk;cases hwk
     go_wp2_with (first|(go_at_call 88;refine (iHas m j _ hm h1 hj).mono ?_;rintro e w ⟨rfl,rfl⟩;rw [hb])|(go_at_call 89;refine (iWordOk _ _ _).mono ?_;rintro e w ⟨rfl,rfl⟩;rw [hwk]))
     go_ret
     exact ⟨ret_bool HF.out.symm,rfl⟩
    ·go_wp2_with (first|(go_at_call 88;refine (iHas m j _ hm h1 hj).mono ?_;rintro e w ⟨rfl,rfl⟩;rw [hb])|(go_at_call 89;refine (iWordOk _ _ _).mono ?_;rintro e w ⟨rfl,rfl⟩;rw [hwk]))
     go_round
     case rel=>exact ⟨j+1,by omega,by omega,by go_num,fun i h2 h3 h4=>by
      by_cases e1:i=j
      ·rw [e1];exact hwk
      ·exact HOK.out i h2 (by omega) h4⟩
     case measure=>simp [intOf];omega
  ·have hjz:¬ (j:Int)<=8:=by omega
   have HF:Hid (wordsB m k=true):=words_iff.2 (fun i h1 h2 h3=>HOK.out i h1 (by omega) h3)
   go_wp2
   go_ret
   exact ⟨ret_bool HF.out.symm,rfl⟩
end Pv5
namespace Vm3
open Go.RowKit
open Nd0 Pl1 Tm0 Tm1 Tm2 Tm5 Tm6 Tm8 Tr0 Rw0 Vl1 Vl2 Vm0 Vm1 Sv5
def doneB (l:List Nd) (m i:Nat):Bool:=flag (reachL l) i&&decide ((reachTo l i).length < m)
theorem done_zero (l:List Nd) (i:Nat):doneB l 0 i=false:=by simp [doneB]
structure Next (l:List Nd) (m x:Nat):Prop where
 lt:x < l.length
 fl:flag (reachL l) x=true
 rank:(reachTo l x).length=m
theorem Next.not {l:List Nd} {m x:Nat} (h:Next l m x):doneB l m x=false:=by
 unfold doneB;rw [h.rank];simp
theorem Next.succ {l:List Nd} {m x:Nat} (h:Next l m x) (i:Nat):doneB l (m+1) i=(doneB l m i||decide (i=x)):=by
 by_cases e:i=x
 ·subst e
  unfold doneB;rw [h.rank,h.fl];simp
 ·rw [decide_eq_false e,Bool.or_false]
  unfold doneB
  cases hf:flag (reachL l) i with
  | false=>rfl
  | true =>
    rw [Bool.true_and,Bool.true_and]
    have hne:(reachTo l i).length≠m:=fun h2=>e (reachTo_inj l hf h.fl (h2.trans h.rank.symm))
    exact decide_eq_decide.2 (by omega)
theorem Next.part {l:List Nd} {m x:Nat} (h:Next l m x) (hD:Down l) {p:Int} (hp:p∈parts (nth l x)):doneB l m p.toNat=true/\0<=p/\p.toNat < x:=by
 have hf:=reach_closed hD h.lt h.fl hp
 have hd:=hD x h.lt p hp
 have hl:p.toNat < x:=by omega
 have:=reachTo_lt l hl hf
 rw [h.rank] at this
 unfold doneB
 rw [hf]
 exact ⟨by simpa using this,hd.1,hl⟩
theorem done_root {l:List Nd} (h:1<=l.length):doneB l (reachTo l l.length).length (l.length - 1)=true:=by
 have hf:=reach_root h
 have:=reachTo_lt l (a:=l.length - 1) (b:=l.length) (by omega) hf
 unfold doneB
 rw [hf]
 simpa using this
def R2 (F:Nat->Nat->Nat):Nat->Value:=fun j=>.int .u16 ((F (j / 8) (j % 8):Nat):Int)
def put (F:Nat->Nat->Nat) (x v z:Nat):Nat->Nat->Nat:=fun i u=>if i=x/\u=v then z else F i u
theorem row_at {w:World} {g:Nat} {F:Nat->Nat->Nat} (h:Row w g 640 (R2 F)) {x v:Nat} (hx:x < 80) (hv:v < 8):w.cell? ⟨g,x*8+v,none⟩=some (.int .u16 ((F x v:Nat):Int))/\w.frozen? ⟨g,x*8+v,none⟩=false:=by
 have h2:=h (x*8+v) (by omega)
 unfold R2 at h2
 rw [show (x*8+v) / 8=x by omega,show (x*8+v) % 8=v by omega] at h2
 exact h2
theorem row_put {w:World} {g:Nat} {F:Nat->Nat->Nat} (h:Row w g 640 (R2 F)) {x v:Nat} (hx:x < 80) (hv:v < 8) (z:Nat):Row (w.setCell ⟨g,x*8+v,none⟩ (.int .u16 ((z:Nat):Int))) g 640 (R2 (put F x v z)):=by
 refine (h.set (p:=x*8+v) (by omega) _).congr (fun j hj=>?_)
 unfold R2 put
 by_cases e:j=x*8+v
 ·rw [if_pos e,if_pos (by omega)]
 ·rw [if_neg e,if_neg (by omega)]
theorem row_congr {w:World} {g:Nat} {F F':Nat->Nat->Nat} (h:Row w g 640 (R2 F)) (e:∀ i u,u < 8->F i u=F' i u):Row w g 640 (R2 F'):=h.congr (fun j hj=>by
 unfold R2
 rw [e _ _ (by omega)])
def stage (l:List Nd) (m:Nat):Nat->Nat->Nat:=fun i u=>if doneB l m i then rowV l (nth l i) u else 0
def mid (l:List Nd) (m x d v:Nat):Nat->Nat->Nat:=fun i u=>if i=x then (if u < v then preN l (nth l x) u (d+1) else preN l (nth l x) u d) else stage l m i u
theorem mid_step (l:List Nd) (m x d v:Nat):∀ i u,put (mid l m x d v) x v (preN l (nth l x) v (d+1)) i u=mid l m x d (v+1) i u:=by
 intro i u
 unfold put mid
 by_cases hi:i=x
 ·by_cases hu:u=v
  ·rw [if_pos ⟨hi,hu⟩,if_pos hi,if_pos (by omega),hu]
  ·rw [if_neg (fun h=>hu h.2),if_pos hi,if_pos hi]
   by_cases h2:u < v
   ·rw [if_pos h2,if_pos (by omega)]
   ·rw [if_neg h2,if_neg (by omega)]
 ·rw [if_neg (fun h=>hi h.1),if_neg hi,if_neg hi]
theorem mid_next (l:List Nd) (m x d:Nat):∀ i u,u < 8->mid l m x d 8 i u=mid l m x (d+1) 0 i u:=by
 intro i u hu
 unfold mid
 by_cases hi:i=x
 ·rw [if_pos hi,if_pos hi,if_pos hu,if_neg (by omega)]
 ·rw [if_neg hi,if_neg hi]
theorem mid_at (l:List Nd) (m x d u:Nat):mid l m x d 0 x u=preN l (nth l x) u d:=by
 unfold mid;rw [if_pos rfl,if_neg (by omega)]
theorem mid_ne (l:List Nd) {m x d v i:Nat} (u:Nat) (h:¬ i=x):mid l m x d v i u=stage l m i u:=by
 unfold mid;rw [if_neg h]
theorem stage_x {l:List Nd} {m x:Nat} (hX:Next l m x) (u:Nat):stage l m x u=0:=by
 unfold stage;rw [hX.not];rfl
theorem mid_var {l:List Nd} {m x:Nat} (hX:Next l m x) (h1:(nth l x).op=1) (hk:0<=(nth l x).k):∀ i u,put (stage l m) x (nth l x).k.toNat (2 ^ (nth l x).w.toNat) i u=mid l m x 0 0 i u:=by
 intro i u
 by_cases hi:i=x
 ·subst hi
  rw [mid_at]
  unfold put
  show _=if _ then _ else _
  by_cases hu:u=(nth l i).k.toNat
  ·rw [if_pos ⟨rfl,hu⟩,if_pos ⟨h1,by omega⟩]
  ·rw [if_neg (fun h=>hu h.2),if_neg (fun h=>hu (by omega)),stage_x hX]
 ·rw [mid_ne l u hi]
  unfold put
  rw [if_neg (fun h=>hi h.1)]
theorem mid_other {l:List Nd} {m x:Nat} (hX:Next l m x) (h1:¬ (nth l x).op=1):∀ i u,stage l m i u=mid l m x 0 0 i u:=by
 intro i u
 by_cases hi:i=x
 ·subst hi
  rw [mid_at,stage_x hX]
  show _=if _ then _ else _
  rw [if_neg (fun h=>h1 h.1)]
 ·rw [mid_ne l u hi]
theorem mid_end {l:List Nd} {m x:Nat} (hX:Next l m x) (hq:quant (nth l x).op=false):∀ i u,mid l m x (parts (nth l x)).length 0 i u=stage l (m+1) i u:=by
 intro i u
 by_cases hi:i=x
 ·subst hi
  rw [mid_at]
  unfold stage
  rw [hX.succ i,decide_eq_true rfl,Bool.or_true,if_pos rfl]
  unfold rowV
  rw [if_neg (by rw [hq];simp)];rfl
 ·rw [mid_ne l u hi]
  unfold stage
  rw [hX.succ i,decide_eq_false hi,Bool.or_false]
theorem mid_quant {l:List Nd} {m x:Nat} (hX:Next l m x) (hq:quant (nth l x).op=true) (hk:0<=(nth l x).k):∀ i u,put (mid l m x (parts (nth l x)).length 0) x (nth l x).k.toNat 0 i u=stage l (m+1) i u:=by
 intro i u
 by_cases hi:i=x
 ·subst hi
  unfold put stage
  rw [hX.succ i,decide_eq_true rfl,Bool.or_true]
  by_cases hu:u=(nth l i).k.toNat
  ·rw [if_pos ⟨rfl,hu⟩,if_pos rfl]
   unfold rowV
   rw [if_pos ⟨hq,by omega⟩]
  ·rw [if_neg (fun h=>hu h.2),mid_at,if_pos rfl]
   unfold rowV
   rw [if_neg (fun h=>hu (by omega))];rfl
 ·unfold put
  rw [if_neg (fun h=>hi h.1),mid_ne l u hi]
  unfold stage
  rw [hX.succ i,decide_eq_false hi,Bool.or_false]
def Goods (l:List Nd) (m:Nat):Prop:=∀ i,i < l.length->doneB l m i=true->Sv5.Good l i
theorem goods_next {l:List Nd} (hT:termOk l=true) {m x:Nat} (hX:Next l m x) (hG:Goods l m) (hb:badQ l (nth l x)=false) (hk:quant (nth l x).op=true->0<=(nth l x).k):Goods l (m+1):=by
 intro i hi hd
 rw [hX.succ i] at hd
 by_cases e:i=x
 ·subst e
  exact need_some (down_of hT) hi (fun p hp=>by
   obtain ⟨h1,h2,h3⟩:=hX.part (down_of hT) hp
   exact (hG p.toNat (by omega) h1).some) hb hk
 ·rw [decide_eq_false e,Bool.or_false] at hd
  exact hG i hi hd
theorem bad_none {l:List Nd} (hT:termOk l=true) {m x:Nat} (hX:Next l m x) (hG:Goods l m) (hb:badQ l (nth l x)=true):needT (root l)=none:=by
 refine root_none (down_of hT) (l.length - x - 1) x (by have:=hX.lt;omega) hX.fl ?_
 exact need_none (down_of hT) hX.lt (fun p hp=>by
  obtain ⟨h1,h2,h3⟩:=hX.part (down_of hT) hp
  exact (hG p.toNat (by have:=hX.lt;omega) h1).some) hb
theorem pre_step {l:List Nd} (hT:termOk l=true) {m x:Nat} (hX:Next l m x) (hG:Goods l m) {d:Nat} (hd:d < (parts (nth l x)).length) {v:Nat} (hv:v < 8) :
 preN l (nth l x) v (d+1)=preN l (nth l x) v d ||| stage l m ((parts (nth l x))[d]).toNat v:=by
 obtain ⟨h1,h2,h3⟩:=hX.part (down_of hT) (List.getElem_mem hd)
 have e:(parts (nth l x)).getD d 0=(parts (nth l x))[d]:=by rw [List.getD_eq_getElem?_getD,List.getElem?_eq_getElem hd];rfl
 show _ ||| _=_
 rw [e,(hG _ (by have:=hX.lt;omega) h1).row hv]
 unfold stage
 rw [if_pos h1]
theorem stage_bd {l:List Nd} (hT:termOk l=true) {m:Nat} (hG:Goods l m) {i v:Nat} (hi:i < l.length) (hv:v < 8):stage l m i v < 2 ^ 9:=by
 unfold stage
 split
 ·rename_i h
  exact (hG i hi h).bd hT hi hv
 ·decide
theorem preN_bd {l:List Nd} (hT:termOk l=true) {m x:Nat} (hX:Next l m x) (hG:Goods l m) {v:Nat} (hv:v < 8):∀ d,d<=(parts (nth l x)).length->preN l (nth l x) v d < 2 ^ 9:=by
 intro d
 induction d with
 | zero =>
   intro _
   have h8:=(node_width (term_node hT hX.lt)).2
   show (if _ then _ else _) < _
   split
   ·exact Nat.lt_of_le_of_lt (Nat.pow_le_pow_right (by omega) (show (nth l x).w.toNat<=8 by omega)) (by decide)
   ·decide
 | succ d ih =>
   intro hd
   rw [pre_step hT hX hG hd hv]
   obtain ⟨h1,h2,h3⟩:=hX.part (down_of hT) (List.getElem_mem hd)
   exact Nat.or_lt_two_pow (ih (by omega)) (stage_bd hT hG (by have:=hX.lt;omega) hv)
end Vm3
end Go.Proofs.YthanhcobfehmnaaGreat
