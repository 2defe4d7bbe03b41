import Derived.WalkKit
namespace Go.Proofs.Ytfhdbcfhhbdiiaa
set_option maxRecDepth 100000
set_option maxHeartbeats 8000000
set_option linter.unusedVariables false
namespace Pl1
open Go.RowKit
/-- 2 to the k, as an integer; kept shut for the walks. -/
def p2 (k:Nat):Int:=2 ^ k
theorem p2_zero:p2 0=1:=rfl
theorem p2_succ (k:Nat):p2 (k+1)=2*p2 k:=by unfold p2;rw [Int.pow_succ];omega
theorem p2_pos (k:Nat):1<=p2 k:=by
 induction k with
 | zero=>simp [p2]
 | succ n ih=>rw [p2_succ];omega
theorem p2_mono {a b:Nat} (h:a<=b):p2 a<=p2 b:=by
 induction b with
 | zero=>have:a=0:=by omega
         subst this;exact Int.le_refl _
 | succ n ih =>
   by_cases e:a=n+1
   ·subst e;exact Int.le_refl _
   ·have:=ih (by omega);have:=p2_pos n;rw [p2_succ];omega
theorem p2_le (k:Nat) (h:k<=8):p2 k<=256:=by
 have:=p2_mono h;have e:p2 8=256:=rfl;omega
/-- Whether a is a word of width w. -/
def wok (w a:Int):Bool:=decide (1<=w/\w<=8/\0<=a/\a < p2 w.toNat)
theorem wok_iff {w a:Int}:wok w a=true↔1<=w/\w<=8/\0<=a/\a < p2 w.toNat:=by simp [wok]
theorem wok_lt {w a:Int} (h:wok w a=true):0<=a/\a<=255:=by
 obtain ⟨h1,h2,h3,h4⟩:=wok_iff.1 h
 have:=p2_le w.toNat (by omega);omega
/-- A width is one of eight. -/
theorem eight {w:Int} (h1:1<=w) (h2:w<=8):w=1\/w=2\/w=3\/w=4\/w=5\/w=6\/w=7\/w=8:=by omega
theorem bits_and_u8_nat (a b:Nat) (ha:a < 256) (hb:b < 256):bits .and .u8 (a:Int) (b:Int)=((a &&& b:Nat):Int):=by
 have hx:a &&& b < 2 ^ 8:=Nat.and_lt_two_pow _ (by omega)
 have h1:(BitVec.ofInt 8 (a:Int)).toNat=a:=by
  rw [BitVec.ofInt_natCast,BitVec.toNat_ofNat];exact Nat.mod_eq_of_lt (by omega)
 have h2:(BitVec.ofInt 8 (b:Int)).toNat=b:=by
  rw [BitVec.ofInt_natCast,BitVec.toNat_ofNat];exact Nat.mod_eq_of_lt (by omega)
 show IntKind.u8.wrap ((BitVec.ofInt 8 (a:Int) &&& BitVec.ofInt 8 (b:Int)).toNat:Int)=_
 rw [BitVec.toNat_and,h1,h2]
 simp only [IntKind.wrap,IntKind.signed,IntKind.bits]
 simp
 omega
theorem bits_or_u8_nat (a b:Nat) (ha:a < 256) (hb:b < 256):bits .or .u8 (a:Int) (b:Int)=((a ||| b:Nat):Int):=by
 have hx:a ||| b < 2 ^ 8:=Nat.or_lt_two_pow (by omega) (by omega)
 have h1:(BitVec.ofInt 8 (a:Int)).toNat=a:=by
  rw [BitVec.ofInt_natCast,BitVec.toNat_ofNat];exact Nat.mod_eq_of_lt (by omega)
 have h2:(BitVec.ofInt 8 (b:Int)).toNat=b:=by
  rw [BitVec.ofInt_natCast,BitVec.toNat_ofNat];exact Nat.mod_eq_of_lt (by omega)
 show IntKind.u8.wrap ((BitVec.ofInt 8 (a:Int) ||| BitVec.ofInt 8 (b:Int)).toNat:Int)=_
 rw [BitVec.toNat_or,h1,h2]
 simp only [IntKind.wrap,IntKind.signed,IntKind.bits]
 simp
 omega
/-- To mask the k lowest bits is the rest by 2 to the k. -/
theorem and_mask (a:Int) (k:Nat) (h0:0<=a) (h1:a<=255) (hk:k<=8):bits .and .u8 a (p2 k - 1)=a % p2 k:=by
 obtain ⟨n,rfl⟩:=Int.eq_ofNat_of_zero_le h0
 have hp:=p2_pos k
 have hl:=p2_le k hk
 have e:p2 k - 1=((2 ^ k - 1:Nat):Int):=by
  have:1<=2 ^ k:=Nat.one_le_two_pow
  unfold p2;push_cast [this];rfl
 have e2:p2 k=((2 ^ k:Nat):Int):=by unfold p2;push_cast;rfl
 rw [e,bits_and_u8_nat n (2 ^ k - 1) (by omega) (by omega),Nat.and_two_pow_sub_one_eq_mod,e2]
 omega
theorem dvd256 (k:Nat) (hk:k<=8):p2 k∣256:=by
 refine ⟨p2 (8 - k),?_⟩
 unfold p2
 rw [<- Int.pow_add,show k+(8 - k)=8 by omega];rfl
theorem mod256 (x:Int) (k:Nat) (hk:k<=8):x % 256 % p2 k=x % p2 k:=Int.emod_emod_of_dvd x (dvd256 k hk)
theorem wrap_p2 (k:Nat) (hk:k<=8):wrap64 (2 ^ k)=p2 k:=by
 have h:=p2_pos k
 have h':=p2_le k hk
 show wrap64 (p2 k)=p2 k
 unfold wrap64;omega
theorem p2_pow (k:Nat):(2:Int) ^ k=p2 k:=rfl
theorem shl8 (a b:Int) (yk:IntKind) (h:8<=b):Op.shift .shl .u8 a yk b=pure (.int .u8 0):=by
 have hm:min b.toNat 8=8:=by omega
 have hn:¬ b < 0:=by omega
 simp only [Op.shift,IntKind.bits,hm,if_neg hn]
 have:IntKind.u8.wrap (a*2 ^ 8)=0:=by
  simp only [IntKind.wrap,IntKind.signed,IntKind.bits]
  simp
 rw [this]
theorem shr8 (a b:Int) (yk:IntKind) (h:8<=b) (h0:0<=a) (h1:a<=255):Op.shift .shr .u8 a yk b=pure (.int .u8 0):=by
 have hm:min b.toNat 8=8:=by omega
 have hn:¬ b < 0:=by omega
 simp only [Op.shift,IntKind.bits,hm,if_neg hn]
 have:a.fdiv (2 ^ 8)=0:=by
  rw [Int.fdiv_eq_ediv_of_nonneg _ (by decide)];omega
 rw [this]
def vAdd (w a b:Int):Int:=if wok w a&&wok w b then (a+b) % p2 w.toNat else 0
def vSub (w a b:Int):Int:=if wok w a&&wok w b then (a - b) % p2 w.toNat else 0
def vMul (w a b:Int):Int:=if wok w a&&wok w b then a*b % p2 w.toNat else 0
def vDiv (w a b:Int):Int:=if wok w a&&wok w b then (if b=0 then p2 w.toNat - 1 else a / b) else 0
def vRem (w a b:Int):Int:=if wok w a&&wok w b then (if b=0 then a else a % b) else 0
def vShl (w a b:Int):Int:=if wok w a&&wok w b then (if w<=b then 0 else a*p2 b.toNat % p2 w.toNat) else 0
def vShr (w a b:Int):Int:=if wok w a&&wok w b then (if w<=b then 0 else a / p2 b.toNat) else 0
def vFlip (w a:Int):Int:=if wok w a then p2 w.toNat - 1 - a else 0
def sgn (w a:Int):Int:=if p2 (w - 1).toNat<=a then a - p2 w.toNat else a
def vSigned (w a:Int):Int:=if wok w a then sgn w a else 0
def vLess (w a b:Int):Int:=if wok w a&&wok w b&&decide (a < b) then 1 else 0
def vLessSigned (w a b:Int):Int:=if wok w a&&wok w b&&decide (vSigned w a < vSigned w b) then 1 else 0
def vJoin (w a v b:Int):Int:=if wok w a&&wok v b&&decide (w+v<=8) then a*p2 v.toNat+b else 0
def vSlice (w a low n:Int):Int:=if wok w a&&decide (0<=low/\1<=n/\n<=w - low) then a / p2 low.toNat % p2 n.toNat else 0
theorem sgn_pos {w a:Int} (h:p2 (w - 1).toNat<=a):sgn w a=a - p2 w.toNat:=if_pos h
theorem sgn_neg {w a:Int} (h:¬ p2 (w - 1).toNat<=a):sgn w a=a:=if_neg h
theorem sgn_hi {w a:Int} (h0:1<=w) (h:p2 (w - 1).toNat<=a):(a / 2 ^ (w.toNat - 1)==0)=false:=by
 rw [p2_pow,show w.toNat - 1=(w - 1).toNat by omega]
 have hp:=p2_pos (w - 1).toNat
 have:1<=a / p2 (w - 1).toNat:=Int.le_ediv_of_mul_le (by omega) (by omega)
 rw [beq_eq_false_iff_ne];omega
theorem sgn_lo {w a:Int} (h0:1<=w) (ha:0<=a) (h:¬ p2 (w - 1).toNat<=a):(a / 2 ^ (w.toNat - 1)==0)=true:=by
 rw [p2_pow,show w.toNat - 1=(w - 1).toNat by omega]
 have:a / p2 (w - 1).toNat=0:=Int.ediv_eq_zero_of_lt ha (by omega)
 rw [beq_iff_eq];exact this
theorem xor255 (a:Int) (h0:0<=a) (h1:a<=255):bits .xor .u8 IntKind.u8.max a=255 - a:=by
 obtain ⟨n,rfl⟩:=Int.eq_ofNat_of_zero_le h0
 have h2:(BitVec.ofInt 8 (n:Int)).toNat=n:=by
  rw [BitVec.ofInt_natCast,BitVec.toNat_ofNat];exact Nat.mod_eq_of_lt (by omega)
 have e:BitVec.ofInt 8 IntKind.u8.max=BitVec.allOnes 8:=by decide
 show IntKind.u8.wrap ((BitVec.ofInt 8 IntKind.u8.max ^^^ BitVec.ofInt 8 (n:Int)).toNat:Int)=_
 rw [e,BitVec.allOnes_xor,BitVec.toNat_not,h2]
 simp only [IntKind.wrap,IntKind.signed,IntKind.bits]
 simp
 omega
theorem flip_spec (a:Int) (k:Nat) (hk:k<=8) (h0:0<=a) (h1:a < p2 k):(255 - a) % p2 k=p2 k - 1 - a:=by
 have hl:=p2_le k hk
 have e:255 - a=(-1 - a) % 256:=by omega
 rw [e,mod256 _ k hk,<- Int.add_emod_right,Int.emod_eq_of_lt (by omega) (by omega)]
 omega
theorem join_spec (a b:Int) (j k:Nat) (h:j+k<=8) (ha:0<=a) (ha':a < p2 j) (hb:0<=b) (hb':b < p2 k) :
 a*p2 k % p2 (j+k)=a*p2 k/\bits .or .u8 (a*p2 k) b=a*p2 k+b/\0<=a*p2 k+b/\a*p2 k+b < p2 (j+k):=by
 have hl:=p2_le (j+k) h
 have e:p2 (j+k)=p2 j*p2 k:=by unfold p2;rw [Int.pow_add]
 have hk:=p2_pos k
 have h1:0<=a*p2 k:=Int.mul_nonneg ha (by omega)
 have h2:a*p2 k+p2 k<=p2 j*p2 k:=by
  have:=Int.mul_le_mul_of_nonneg_right (show a+1<=p2 j by omega) (show 0<=p2 k by omega)
  rw [Int.add_mul,Int.one_mul] at this;exact this
 have h3:a*p2 k+p2 k<=256:=by omega
 refine ⟨Int.emod_eq_of_lt h1 (by omega),?_,by omega,by omega⟩
 clear h2 e hl
 obtain ⟨n,rfl⟩:=Int.eq_ofNat_of_zero_le ha
 obtain ⟨c,rfl⟩:=Int.eq_ofNat_of_zero_le hb
 have e2:p2 k=((2 ^ k:Nat):Int):=by unfold p2;push_cast;rfl
 rw [e2] at hb' h1 h3 ⊢
 have e3:(n:Int)*((2 ^ k:Nat):Int)=((n <<< k:Nat):Int):=by rw [Nat.shiftLeft_eq];push_cast;rfl
 rw [e3] at h1 h3 ⊢
 rw [bits_or_u8_nat _ _ (by omega) (by omega),<- Nat.shiftLeft_add_eq_or_of_lt (by omega)]
 push_cast;rfl
theorem sub_spec (a b:Int) (k:Nat):(a+p2 k - b) % p2 k=(a - b) % p2 k:=by
 rw [show a+p2 k - b=(a - b)+p2 k by omega,Int.add_emod_right]
theorem mul_bd {a b:Int} (ha:0<=a) (ha':a<=255) (hb:0<=b) (hb':b<=255):0<=a*b/\a*b<=65025 :=
 ⟨Int.mul_nonneg ha hb,by have:=Int.mul_le_mul ha' hb' hb (by omega:(0:Int)<=255);omega⟩
theorem emod_le {a:Int} (k:Nat):0<=a % p2 k/\a % p2 k < p2 k :=
 ⟨Int.emod_nonneg _ (by have:=p2_pos k;omega),Int.emod_lt_of_pos _ (by have:=p2_pos k;omega)⟩
end Pl1
end Go.Proofs.Ytfhdbcfhhbdiiaa
