import Derived.Test.YtladjpombohpaaaGreatDoorPkJE0
namespace Go.Proofs.YtladjpombohpaaaGreatDoor
set_option maxRecDepth 100000
set_option maxHeartbeats 8000000
set_option linter.unusedVariables false
namespace Pl1
open Go.RowKit
/-- 2 to the k, as an integer; kept shut for the walks. -/
def p2 (k:Nat):Int:=2 ^ k
theorem p2_zero:p2 0=1:=rfl
theorem p2_succ (k:Nat):p2 (k+1)=2*p2 k:=by unfold p2;rw [Int.pow_succ];omega
theorem p2_pos (k:Nat):1<=p2 k:=by
 induction k with
 | zero=>simp [p2]
 | succ n ih=>rw [p2_succ];omega
theorem p2_mono {a b:Nat} (h:a<=b):p2 a<=p2 b:=by
 induction b with
 | zero=>have:a=0:=by omega
         subst this;exact Int.le_refl _
 | succ n ih =>
   by_cases e:a=n+1
   ·subst e;exact Int.le_refl _
   ·have:=ih (by omega);have:=p2_pos n;rw [p2_succ];omega
theorem p2_le (k:Nat) (h:k<=8):p2 k<=256:=by
 have:=p2_mono h;have e:p2 8=256:=rfl;omega
/-- Whether a is a word of width w. -/
def wok (w a:Int):Bool:=decide (1<=w/\w<=8/\0<=a/\a < p2 w.toNat)
theorem wok_iff {w a:Int}:wok w a=true↔1<=w/\w<=8/\0<=a/\a < p2 w.toNat:=by simp [wok]
theorem wok_lt {w a:Int} (h:wok w a=true):0<=a/\a<=255:=by
 obtain ⟨h1,h2,h3,h4⟩:=wok_iff.1 h
 have:=p2_le w.toNat (by omega);omega
/-- A width is one of eight. -/
theorem eight {w:Int} (h1:1<=w) (h2:w<=8):w=1\/w=2\/w=3\/w=4\/w=5\/w=6\/w=7\/w=8:=by omega
theorem bits_and_u8_nat (a b:Nat) (ha:a < 256) (hb:b < 256):bits .and .u8 (a:Int) (b:Int)=((a &&& b:Nat):Int):=by
 have hx:a &&& b < 2 ^ 8:=Nat.and_lt_two_pow _ (by omega)
 have h1:(BitVec.ofInt 8 (a:Int)).toNat=a:=by
  rw [BitVec.ofInt_natCast,BitVec.toNat_ofNat];exact Nat.mod_eq_of_lt (by omega)
 have h2:(BitVec.ofInt 8 (b:Int)).toNat=b:=by
  rw [BitVec.ofInt_natCast,BitVec.toNat_ofNat];exact Nat.mod_eq_of_lt (by omega)
 show IntKind.u8.wrap ((BitVec.ofInt 8 (a:Int) &&& BitVec.ofInt 8 (b:Int)).toNat:Int)=_
 rw [BitVec.toNat_and,h1,h2]
 simp only [IntKind.wrap,IntKind.signed,IntKind.bits]
 simp
 omega
theorem bits_or_u8_nat (a b:Nat) (ha:a < 256) (hb:b < 256):bits .or .u8 (a:Int) (b:Int)=((a ||| b:Nat):Int):=by
 have hx:a ||| b < 2 ^ 8:=Nat.or_lt_two_pow (by omega) (by omega)
 have h1:(BitVec.ofInt 8 (a:Int)).toNat=a:=by
  rw [BitVec.ofInt_natCast,BitVec.toNat_ofNat];exact Nat.mod_eq_of_lt (by omega)
 have h2:(BitVec.ofInt 8 (b:Int)).toNat=b:=by
  rw [BitVec.ofInt_natCast,BitVec.toNat_ofNat];exact Nat.mod_eq_of_lt (by omega)
 show IntKind.u8.wrap ((BitVec.ofInt 8 (a:Int) ||| BitVec.ofInt 8 (b:Int)).toNat:Int)=_
 rw [BitVec.toNat_or,h1,h2]
 simp only [IntKind.wrap,IntKind.signed,IntKind.bits]
 simp
 omega
/-- To mask the k lowest bits is the rest by 2 to the k. -/
theorem and_mask (a:Int) (k:Nat) (h0:0<=a) (h1:a<=255) (hk:k<=8):bits .and .u8 a (p2 k - 1)=a % p2 k:=by
 obtain ⟨n,rfl⟩:=Int.eq_ofNat_of_zero_le h0
 have hp:=p2_pos k
 have hl:=p2_le k hk
 have e:p2 k - 1=((2 ^ k - 1:Nat):Int):=by
  have:1<=2 ^ k:=Nat.one_le_two_pow
  unfold p2;push_cast [this];rfl
 have e2:p2 k=((2 ^ k:Nat):Int):=by unfold p2;push_cast;rfl
 rw [e,bits_and_u8_nat n (2 ^ k - 1) (by omega) (by omega),Nat.and_two_pow_sub_one_eq_mod,e2]
 omega
theorem dvd256 (k:Nat) (hk:k<=8):p2 k∣256:=by
 refine ⟨p2 (8 - k),?_⟩
 unfold p2
 rw [<- Int.pow_add,show k+(8 - k)=8 by omega];rfl
theorem mod256 (x:Int) (k:Nat) (hk:k<=8):x % 256 % p2 k=x % p2 k:=Int.emod_emod_of_dvd x (dvd256 k hk)
theorem wrap_p2 (k:Nat) (hk:k<=8):wrap64 (2 ^ k)=p2 k:=by
 have h:=p2_pos k
 have h':=p2_le k hk
 show wrap64 (p2 k)=p2 k
 unfold wrap64;omega
theorem p2_pow (k:Nat):(2:Int) ^ k=p2 k:=rfl
theorem shl8 (a b:Int) (yk:IntKind) (h:8<=b):Op.shift .shl .u8 a yk b=pure (.int .u8 0):=by
 have hm:min b.toNat 8=8:=by omega
 have hn:¬ b < 0:=by omega
 simp only [Op.shift,IntKind.bits,hm,if_neg hn]
 have:IntKind.u8.wrap (a*2 ^ 8)=0:=by
  simp only [IntKind.wrap,IntKind.signed,IntKind.bits]
  simp
 rw [this]
theorem shr8 (a b:Int) (yk:IntKind) (h:8<=b) (h0:0<=a) (h1:a<=255):Op.shift .shr .u8 a yk b=pure (.int .u8 0):=by
 have hm:min b.toNat 8=8:=by omega
 have hn:¬ b < 0:=by omega
 simp only [Op.shift,IntKind.bits,hm,if_neg hn]
 have:a.fdiv (2 ^ 8)=0:=by
  rw [Int.fdiv_eq_ediv_of_nonneg _ (by decide)];omega
 rw [this]
def vAdd (w a b:Int):Int:=if wok w a&&wok w b then (a+b) % p2 w.toNat else 0
def vSub (w a b:Int):Int:=if wok w a&&wok w b then (a - b) % p2 w.toNat else 0
def vMul (w a b:Int):Int:=if wok w a&&wok w b then a*b % p2 w.toNat else 0
def vDiv (w a b:Int):Int:=if wok w a&&wok w b then (if b=0 then p2 w.toNat - 1 else a / b) else 0
def vRem (w a b:Int):Int:=if wok w a&&wok w b then (if b=0 then a else a % b) else 0
def vShl (w a b:Int):Int:=if wok w a&&wok w b then (if w<=b then 0 else a*p2 b.toNat % p2 w.toNat) else 0
def vShr (w a b:Int):Int:=if wok w a&&wok w b then (if w<=b then 0 else a / p2 b.toNat) else 0
def vFlip (w a:Int):Int:=if wok w a then p2 w.toNat - 1 - a else 0
def sgn (w a:Int):Int:=if p2 (w - 1).toNat<=a then a - p2 w.toNat else a
def vSigned (w a:Int):Int:=if wok w a then sgn w a else 0
def vLess (w a b:Int):Int:=if wok w a&&wok w b&&decide (a < b) then 1 else 0
def vLessSigned (w a b:Int):Int:=if wok w a&&wok w b&&decide (vSigned w a < vSigned w b) then 1 else 0
def vJoin (w a v b:Int):Int:=if wok w a&&wok v b&&decide (w+v<=8) then a*p2 v.toNat+b else 0
def vSlice (w a low n:Int):Int:=if wok w a&&decide (0<=low/\1<=n/\n<=w - low) then a / p2 low.toNat % p2 n.toNat else 0
theorem sgn_pos {w a:Int} (h:p2 (w - 1).toNat<=a):sgn w a=a - p2 w.toNat:=if_pos h
theorem sgn_neg {w a:Int} (h:¬ p2 (w - 1).toNat<=a):sgn w a=a:=if_neg h
theorem sgn_hi {w a:Int} (h0:1<=w) (h:p2 (w - 1).toNat<=a):(a / 2 ^ (w.toNat - 1)==0)=false:=by
 rw [p2_pow,show w.toNat - 1=(w - 1).toNat by omega]
 have hp:=p2_pos (w - 1).toNat
 have:1<=a / p2 (w - 1).toNat:=Int.le_ediv_of_mul_le (by omega) (by omega)
 rw [beq_eq_false_iff_ne];omega
theorem sgn_lo {w a:Int} (h0:1<=w) (ha:0<=a) (h:¬ p2 (w - 1).toNat<=a):(a / 2 ^ (w.toNat - 1)==0)=true:=by
 rw [p2_pow,show w.toNat - 1=(w - 1).toNat by omega]
 have:a / p2 (w - 1).toNat=0:=Int.ediv_eq_zero_of_lt ha (by omega)
 rw [beq_iff_eq];exact this
theorem xor255 (a:Int) (h0:0<=a) (h1:a<=255):bits .xor .u8 IntKind.u8.max a=255 - a:=by
 obtain ⟨n,rfl⟩:=Int.eq_ofNat_of_zero_le h0
 have h2:(BitVec.ofInt 8 (n:Int)).toNat=n:=by
  rw [BitVec.ofInt_natCast,BitVec.toNat_ofNat];exact Nat.mod_eq_of_lt (by omega)
 have e:BitVec.ofInt 8 IntKind.u8.max=BitVec.allOnes 8:=by decide
 show IntKind.u8.wrap ((BitVec.ofInt 8 IntKind.u8.max ^^^ BitVec.ofInt 8 (n:Int)).toNat:Int)=_
 rw [e,BitVec.allOnes_xor,BitVec.toNat_not,h2]
 simp only [IntKind.wrap,IntKind.signed,IntKind.bits]
 simp
 omega
theorem flip_spec (a:Int) (k:Nat) (hk:k<=8) (h0:0<=a) (h1:a < p2 k):(255 - a) % p2 k=p2 k - 1 - a:=by
 have hl:=p2_le k hk
 have e:255 - a=(-1 - a) % 256:=by omega
 rw [e,mod256 _ k hk,<- Int.add_emod_right,Int.emod_eq_of_lt (by omega) (by omega)]
 omega
theorem join_spec (a b:Int) (j k:Nat) (h:j+k<=8) (ha:0<=a) (ha':a < p2 j) (hb:0<=b) (hb':b < p2 k) :
 a*p2 k % p2 (j+k)=a*p2 k/\bits .or .u8 (a*p2 k) b=a*p2 k+b/\0<=a*p2 k+b/\a*p2 k+b < p2 (j+k):=by
 have hl:=p2_le (j+k) h
 have e:p2 (j+k)=p2 j*p2 k:=by unfold p2;rw [Int.pow_add]
 have hk:=p2_pos k
 have h1:0<=a*p2 k:=Int.mul_nonneg ha (by omega)
 have h2:a*p2 k+p2 k<=p2 j*p2 k:=by
  have:=Int.mul_le_mul_of_nonneg_right (show a+1<=p2 j by omega) (show 0<=p2 k by omega)
  rw [Int.add_mul,Int.one_mul] at this;exact this
 have h3:a*p2 k+p2 k<=256:=by omega
 refine ⟨Int.emod_eq_of_lt h1 (by omega),?_,by omega,by omega⟩
 clear h2 e hl
 obtain ⟨n,rfl⟩:=Int.eq_ofNat_of_zero_le ha
 obtain ⟨c,rfl⟩:=Int.eq_ofNat_of_zero_le hb
 have e2:p2 k=((2 ^ k:Nat):Int):=by unfold p2;push_cast;rfl
 rw [e2] at hb' h1 h3 ⊢
 have e3:(n:Int)*((2 ^ k:Nat):Int)=((n <<< k:Nat):Int):=by rw [Nat.shiftLeft_eq];push_cast;rfl
 rw [e3] at h1 h3 ⊢
 rw [bits_or_u8_nat _ _ (by omega) (by omega),<- Nat.shiftLeft_add_eq_or_of_lt (by omega)]
 push_cast;rfl
theorem sub_spec (a b:Int) (k:Nat):(a+p2 k - b) % p2 k=(a - b) % p2 k:=by
 rw [show a+p2 k - b=(a - b)+p2 k by omega,Int.add_emod_right]
theorem mul_bd {a b:Int} (ha:0<=a) (ha':a<=255) (hb:0<=b) (hb':b<=255):0<=a*b/\a*b<=65025 :=
 ⟨Int.mul_nonneg ha hb,by have:=Int.mul_le_mul ha' hb' hb (by omega:(0:Int)<=255);omega⟩
theorem emod_le {a:Int} (k:Nat):0<=a % p2 k/\a % p2 k < p2 k :=
 ⟨Int.emod_nonneg _ (by have:=p2_pos k;omega),Int.emod_lt_of_pos _ (by have:=p2_pos k;omega)⟩
end Pl1
namespace Tm0
open Nd0 Pl1
/-- The places of a node's parts. -/
def parts (n:Nd):List Int :=
 if n.op=2\/n.op=17\/n.op=19\/n.op=20 then [n.a]
 else if 3<=n.op/\n.op<=16 then [n.a,n.b]
 else if n.op=18 then [n.a,n.b,n.c]
 else []
theorem parts_one {n:Nd} (h:n.op=2\/n.op=17\/n.op=19\/n.op=20):parts n=[n.a]:=if_pos h
theorem parts_two {n:Nd} (h:3<=n.op/\n.op<=16):parts n=[n.a,n.b]:=by
 unfold parts;rw [if_neg (by omega),if_pos h]
theorem parts_three {n:Nd} (h:n.op=18):parts n=[n.a,n.b,n.c]:=by
 unfold parts;rw [if_neg (by omega),if_neg (by omega),if_pos h]
theorem parts_none {n:Nd} (h:¬ (n.op=2\/n.op=17\/n.op=19\/n.op=20)) (h2:¬ (3<=n.op/\n.op<=16)) (h3:¬ n.op=18):parts n=[]:=by
 unfold parts;rw [if_neg h,if_neg h2,if_neg h3]
theorem parts_le (n:Nd):(parts n).length<=3:=by
 unfold parts;split
 ·simp
 ·split
  ·simp
  ·split<;>simp
/-- Whether a node is right whose parts have the widths ws. -/
def shapeOk (n:Nd) (ws:List Int):Bool :=
 if n.op=0 then wok n.w n.k&&decide (n.a=0/\n.b=0/\n.c=0)
 else if n.op=1 then decide (0<=n.k/\n.k<=7/\n.a=0/\n.b=0/\n.c=0)
 else if n.op=2 then decide (ws.getD 0 0=n.w/\n.k=0/\n.b=0/\n.c=0)
 else if 3<=n.op/\n.op<=12 then decide (ws.getD 0 0=n.w/\ws.getD 1 0=n.w/\n.k=0/\n.c=0)
 else if 13<=n.op/\n.op<=15 then decide (ws.getD 0 0=ws.getD 1 0/\n.w=1/\n.k=0/\n.c=0)
 else if n.op=16 then decide (ws.getD 0 0+ws.getD 1 0=n.w/\n.k=0/\n.c=0)
 else if n.op=17 then decide (0<=n.k/\n.k<=ws.getD 0 0 - n.w/\n.b=0/\n.c=0)
 else if n.op=18 then decide (ws.getD 0 0=1/\ws.getD 1 0=n.w/\ws.getD 2 0=n.w/\n.k=0)
 else if n.op=19\/n.op=20 then decide (0<=n.k/\n.k<=7/\1<=n.b/\n.b<=8/\ws.getD 0 0=1/\n.w=1/\n.c=0)
 else false
def width (l:List Nd) (p:Int):Int:=(nth l p.toNat).w
/-- Whether node i of a list is right, when those ahead are. -/
def nodeOk (l:List Nd) (i:Nat):Bool :=
 let n:=nth l i
 (parts n).all (fun p=>decide (0<=p/\p < i))&&decide (1<=n.w/\n.w<=8)&&shapeOk n ((parts n).map (width l))
theorem node_bad_part {l:List Nd} {i:Nat} (k:Nat) (hk:k < (parts (nth l i)).length) (h:¬ (0<=(parts (nth l i))[k]/\(parts (nth l i))[k] < i)):nodeOk l i=false:=by
 have:(parts (nth l i)).all (fun p=>decide (0<=p/\p < i))=false:=by
  rw [List.all_eq_false]
  exact ⟨_,List.getElem_mem hk,by simpa using h⟩
 simp only [nodeOk]
 rw [this]
 simp
theorem node_bad_width {l:List Nd} {i:Nat} (h:¬ (1<=(nth l i).w/\(nth l i).w<=8)):nodeOk l i=false:=by
 simp only [nodeOk]
 rw [decide_eq_false h]
 simp
theorem node_kind {l:List Nd} {i:Nat} (h:∀ k (hk:k < (parts (nth l i)).length),0<=(parts (nth l i))[k]/\(parts (nth l i))[k] < i) (hw:1<=(nth l i).w/\(nth l i).w<=8) :
 nodeOk l i=shapeOk (nth l i) ((parts (nth l i)).map (width l)):=by
 have:(parts (nth l i)).all (fun p=>decide (0<=p/\p < i))=true:=by
  rw [List.all_eq_true]
  intro p hp
  obtain ⟨k,hk,rfl⟩:=List.getElem_of_mem hp
  simpa using h k hk
 simp only [nodeOk]
 rw [this,decide_eq_true hw]
 simp
theorem node_width {l:List Nd} {i:Nat} (h:nodeOk l i=true):1<=(nth l i).w/\(nth l i).w<=8:=by
 simp only [nodeOk,Bool.and_eq_true,decide_eq_true_eq] at h
 exact h.1.2
/-- Whether a list of nodes is a term. -/
def termOk (l:List Nd):Bool:=decide (1<=l.length/\l.length<=80)&&(List.range l.length).all (nodeOk l)
theorem term_long {l:List Nd} (h:¬ (1<=l.length/\l.length<=80)):termOk l=false:=by
 unfold termOk;rw [decide_eq_false h];rfl
theorem term_bad {l:List Nd} (k:Nat) (hk:k < l.length) (h:nodeOk l k=false):termOk l=false:=by
 have:(List.range l.length).all (nodeOk l)=false:=by
  rw [List.all_eq_false];exact ⟨k,List.mem_range.2 hk,by simp [h]⟩
 unfold termOk;rw [this,Bool.and_false]
theorem term_good {l:List Nd} (h:1<=l.length/\l.length<=80) (ha:∀ k,k < l.length->nodeOk l k=true):termOk l=true:=by
 have:(List.range l.length).all (nodeOk l)=true:=by
  rw [List.all_eq_true];intro x hx;exact ha x (List.mem_range.1 hx)
 unfold termOk;rw [this,decide_eq_true h];rfl
theorem term_len {l:List Nd} (h:termOk l=true):1<=l.length/\l.length<=80:=by
 simp only [termOk,Bool.and_eq_true,decide_eq_true_eq] at h;exact h.1
theorem term_node {l:List Nd} (h:termOk l=true) {k:Nat} (hk:k < l.length):nodeOk l k=true:=by
 simp only [termOk,Bool.and_eq_true,List.all_eq_true] at h;exact h.2 k (List.mem_range.2 hk)
end Tm0
namespace Tm1
open Nd0 Pl1 Tm0
def markAll (bs:List Bool) (ps:List Int):List Bool:=ps.foldl (fun b p=>b.set p.toNat true) bs
theorem markAll_length (ps:List Int):∀ bs:List Bool,(markAll bs ps).length=bs.length:=by
 induction ps with
 | nil=>intro bs;rfl
 | cons p ps ih=>intro bs;show (markAll (bs.set p.toNat true) ps).length=_;rw [ih,List.length_set]
def flag (bs:List Bool) (i:Nat):Bool:=bs.getD i false
theorem flag_get {bs:List Bool} {i:Nat} (h:i < bs.length):bs[i]=flag bs i:=by simp [flag,List.getD,h]
theorem flag_set {bs:List Bool} {i j:Nat} (h:i < bs.length) (x:Bool):flag (bs.set i x) j=if i=j then x else flag bs j:=by
 by_cases e:i=j
 ·subst e;simp [flag,List.getD,h]
 ·simp [flag,List.getD,e]
def reachStep (l:List Nd) (bs:List Bool) (i:Nat):List Bool:=if flag bs i then markAll bs (parts (nth l i)) else bs
def reachDown (l:List Nd):Nat->List Bool->List Bool
 | 0,bs=>bs
 | k+1,bs=>reachDown l k (reachStep l bs k)
def reachInit (n:Nat):List Bool:=(List.range n).map fun i=>i+1==n
/-- For each node whether the root reaches it. -/
def reachL (l:List Nd):List Bool:=reachDown l l.length (reachInit l.length)
theorem reachStep_length (l:List Nd) (bs:List Bool) (i:Nat):(reachStep l bs i).length=bs.length:=by
 unfold reachStep;split
 ·exact markAll_length _ _
 ·rfl
theorem reachDown_length (l:List Nd):∀ (k:Nat) (bs:List Bool),(reachDown l k bs).length=bs.length:=by
 intro k
 induction k with
 | zero=>intro bs;rfl
 | succ k ih=>intro bs;show (reachDown l k (reachStep l bs k)).length=_;rw [ih,reachStep_length]
theorem reachInit_length (n:Nat):(reachInit n).length=n:=by simp [reachInit]
theorem reachL_length (l:List Nd):(reachL l).length=l.length:=by unfold reachL;rw [reachDown_length,reachInit_length]
theorem parts_ok {l:List Nd} {i:Nat} (h:nodeOk l i=true):∀ k (hk:k < (parts (nth l i)).length),0<=(parts (nth l i))[k]/\(parts (nth l i))[k] < i:=by
 simp only [nodeOk,Bool.and_eq_true,List.all_eq_true,decide_eq_true_eq] at h
 intro k hk
 exact h.1.1 _ (List.getElem_mem hk)
end Tm1
namespace Tm2
open Nd0 Pl1 Tm0 Tm1
def reachTo (l:List Nd) (k:Nat):List Int:=((List.range k).filter (flag (reachL l))).map fun (i:Nat)=>(i:Int)
/-- The places that the root reaches, ascending. -/
def reachedL (l:List Nd):List Int:=if termOk l then reachTo l l.length else []
theorem reachTo_succ (l:List Nd) (k:Nat):reachTo l (k+1)=if flag (reachL l) k then reachTo l k++[(k:Int)] else reachTo l k:=by
 unfold reachTo
 rw [List.range_succ,List.filter_append,List.map_append]
 cases h:flag (reachL l) k<;>simp [h]
theorem reachTo_length (l:List Nd) (k:Nat):(reachTo l k).length<=k:=by
 unfold reachTo
 rw [List.length_map]
 exact Nat.le_trans (List.length_filter_le _ _) (by simp)
theorem reachedL_le (l:List Nd):(reachedL l).length<=l.length:=by
 unfold reachedL;split
 ·exact reachTo_length l _
 ·exact Nat.zero_le _
end Tm2
namespace Tm3
open Nd0 Pl1 Tm0 Tm1 Tm2
/-- The new place of a node. -/
def plc (l:List Nd) (p:Int):Int:=((reachTo l p.toNat).length:Int)
def places (l:List Nd) (k:Nat):List Int:=(List.range k).map fun i=>((reachTo l i).length:Int)
theorem places_length (l:List Nd) (k:Nat):(places l k).length=k:=by simp [places]
theorem places_get (l:List Nd) (k i:Nat) (h:i < (places l k).length):(places l k)[i]=plc l (i:Int):=by simp [places,plc]
theorem places_succ (l:List Nd) (k:Nat):places l (k+1)=places l k++[((reachTo l k).length:Int)]:=by
 unfold places;rw [List.range_succ,List.map_append];rfl
/-- A node with its parts told by their new places. -/
def remap (l:List Nd) (n:Nd):Nd :=
 ⟨n.op,n.w,n.k,if 0 < (parts n).length then plc l n.a else n.a,if 1 < (parts n).length then plc l n.b else n.b,if 2 < (parts n).length then plc l n.c else n.c⟩
def pruneTo (l:List Nd) (k:Nat):List Nd:=((List.range k).filter (flag (reachL l))).map fun i=>remap l (nth l i)
def pruneL (l:List Nd):List Nd:=if termOk l then pruneTo l l.length else []
theorem pruneTo_succ (l:List Nd) (k:Nat):pruneTo l (k+1)=if flag (reachL l) k then pruneTo l k++[remap l (nth l k)] else pruneTo l k:=by
 unfold pruneTo
 rw [List.range_succ,List.filter_append,List.map_append]
 cases h:flag (reachL l) k<;>simp [h]
theorem pruneTo_length (l:List Nd) (k:Nat):(pruneTo l k).length=(reachTo l k).length:=by simp [pruneTo,reachTo]
theorem pruneL_le (l:List Nd):(pruneL l).length<=l.length:=by
 unfold pruneL;split
 ·rw [pruneTo_length];exact reachTo_length l _
 ·exact Nat.zero_le _
theorem parts_cases (n:Nd):parts n=[]\/parts n=[n.a]\/parts n=[n.a,n.b]\/parts n=[n.a,n.b,n.c]:=by
 unfold parts
 split
 ·exact .inr (.inl rfl)
 ·split
  ·exact .inr (.inr (.inl rfl))
  ·split
   ·exact .inr (.inr (.inr rfl))
   ·exact .inl rfl
end Tm3
end Go.Proofs.YtladjpombohpaaaGreatDoor
