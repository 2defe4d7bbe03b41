import Derived.WalkKit
import Derived.Laws.Bits64
import Derived.Laws.Bits64b
namespace Go.Proofs.YtladjpombohpaaaGreatDoor
set_option maxRecDepth 100000
set_option maxHeartbeats 8000000
set_option linter.unusedVariables false
namespace Ta0
/-- The number of the first k bits of F, bit j worth 2^j. -/
def wdN (F:Nat->Bool):Nat->Nat
 | 0=>0
 | k+1=>wdN F k+(if F k then 2 ^ k else 0)
theorem wdN_lt (F:Nat->Bool) (k:Nat):wdN F k < 2 ^ k:=by
 induction k with
 | zero=>simp [wdN]
 | succ k ih=>unfold wdN;rw [Nat.pow_succ];split<;>omega
theorem wdN_bit (F:Nat->Bool) (k j:Nat):(wdN F k).testBit j=(decide (j < k)&&F j):=by
 induction k with
 | zero=>simp [wdN]
 | succ k ih =>
   unfold wdN
   have hl:=wdN_lt F k
   split
   ·rename_i h
    rw [Nat.add_comm]
    by_cases e:j=k
    ·subst e;rw [Nat.testBit_two_pow_add_eq,ih];simp [h]
    ·by_cases hj:j < k
     ·rw [Nat.testBit_two_pow_add_gt hj,ih];simp [hj];intro;omega
     ·rw [Nat.testBit_lt_two_pow (Nat.lt_of_lt_of_le (by rw [Nat.pow_succ];omega:2 ^ k+wdN F k < 2 ^ (k+1)) (Nat.pow_le_pow_right (by omega) (by omega)))]
      simp;intro;omega
   ·rename_i h
    rw [Nat.add_zero,ih]
    by_cases e:j=k
    ·subst e;simp [h]
    ·have:(j < k)↔(j < k+1):=by omega
     simp [this]
theorem wdN_of (x k:Nat) (F:Nat->Bool) (hx:∀ j,x.testBit j=(decide (j < k)&&F j)):x=wdN F k :=
 Nat.eq_of_testBit_eq fun j=>by rw [hx,wdN_bit]
/-- Word i of the bits F. -/
def wd (F:Nat->Bool) (i:Nat):Nat:=wdN (fun j=>F (64*i+j)) 64
theorem wd_bit (F:Nat->Bool) (i j:Nat):(wd F i).testBit j=(decide (j < 64)&&F (64*i+j)):=wdN_bit _ _ _
theorem wd_lt (F:Nat->Bool) (i:Nat):wd F i < 18446744073709551616:=wdN_lt _ 64
theorem wd_of {x:Nat} {F:Nat->Bool} {i:Nat} (hx:∀ j,x.testBit j=(decide (j < 64)&&F (64*i+j))):x=wd F i:=wdN_of _ _ _ hx
theorem wd_congr {F G:Nat->Bool} {i:Nat} (h:∀ j,j < 64->F (64*i+j)=G (64*i+j)):wd F i=wd G i :=
 wd_of fun j=>by rw [wd_bit];by_cases hj:j < 64<;>simp [hj,h]
theorem wd_zero {F:Nat->Bool} {i:Nat} (h:∀ j,j < 64->F (64*i+j)=false):wd F i=0:=by
 refine (wd_of fun j=>?_).symm
 by_cases hj:j < 64<;>simp [hj,h]
/-- The bits below m alone. -/
def upto (m:Nat) (F:Nat->Bool) (p:Nat):Bool:=decide (p < m)&&F p
theorem upto_zero (F:Nat->Bool) (i:Nat):wd (upto 0 F) i=0:=wd_zero fun j _=>by simp [upto]
theorem wd_next_other (F:Nat->Bool) (k i:Nat) (h:i≠k / 64):wd (upto (k+1) F) i=wd (upto k F) i:=by
 refine wd_congr fun j hj=>?_
 have e:(64*i+j < k+1)↔(64*i+j < k):=by
  have:64*i+j≠k:=by omega
  omega
 simp [upto,e]
theorem wd_next_no (F:Nat->Bool) (k i:Nat) (h:F k=false):wd (upto (k+1) F) i=wd (upto k F) i:=by
 refine wd_congr fun j hj=>?_
 by_cases e:64*i+j=k
 ·simp [upto,e,h]
 ·have e:(64*i+j < k+1)↔(64*i+j < k):=by omega
  simp [upto,e]
theorem wd_next_yes (F:Nat->Bool) (k:Nat) (h:F k=true):wd (upto (k+1) F) (k / 64)=wd (upto k F) (k / 64) ||| 2 ^ (k % 64):=by
 refine (wd_of fun j=>?_).symm
 rw [Nat.testBit_or,wd_bit,Nat.testBit_two_pow]
 by_cases hj:j < 64
 ·by_cases e:k % 64=j
  ·have:64*(k / 64)+j=k:=by omega
   simp [upto,this,h,e,hj]
  ·have:(64*(k / 64)+j < k+1)↔(64*(k / 64)+j < k):=by omega
   simp [upto,this,e,hj]
 ·have:¬ k % 64=j:=by omega
  simp [hj,this]
/-- The bit at place p, out of its word. -/
theorem wd_at (F:Nat->Bool) (p:Nat):wd F (p / 64) / 2 ^ (p % 64) % 2=(F p).toNat:=by
 have h:=wd_bit F (p / 64) (p % 64)
 rw [show 64*(p / 64)+p % 64=p by omega,decide_eq_true (by omega:p % 64 < 64),Bool.true_and] at h
 have e:=Nat.testBit_eq_decide_div_mod_eq (x:=wd F (p / 64)) (i:=p % 64)
 rw [h] at e
 cases hF:F p
 ·rw [hF] at e;have:=of_decide_eq_false e.symm;simp;omega
 ·rw [hF] at e;have:=of_decide_eq_true e.symm;simp;omega
theorem wd_and (F G:Nat->Bool) (i:Nat):wd F i &&& wd G i=wd (fun p=>F p&&G p) i:=by
 refine wd_of fun j=>?_
 rw [Nat.testBit_and,wd_bit,wd_bit];by_cases hj:j < 64<;>simp [hj]
theorem wd_xor (F G:Nat->Bool) (i:Nat):wd F i ^^^ wd G i=wd (fun p=>F p ^^ G p) i:=by
 refine wd_of fun j=>?_
 rw [Nat.testBit_xor,wd_bit,wd_bit];by_cases hj:j < 64<;>simp [hj]
/-- The bits of a word that are places: of m places. -/
def use (m:Nat):Nat:=if m < 64 then 2 ^ m - 1 else 2 ^ 64 - 1
theorem use_bit (m j:Nat):(use m).testBit j=(decide (j < 64)&&decide (j < m)):=by
 unfold use
 split
 ·rw [Nat.testBit_two_pow_sub_one]
  have:(j < m)↔(j < 64/\j < m):=by omega
  by_cases h:j < m<;>simp [h]<;>omega
 ·rw [Nat.testBit_two_pow_sub_one]
  by_cases h:j < 64<;>simp [h];omega
theorem wd_not (F:Nat->Bool) (n i:Nat) (hi:i < (2 ^ n+63) / 64):(18446744073709551615 - wd (upto (2 ^ n) F) i) &&& use (2 ^ n)=wd (upto (2 ^ n) fun p => !F p) i:=by
 refine wd_of fun j=>?_
 rw [Nat.testBit_and,use_bit]
 have h:=Nat.testBit_two_pow_sub_succ (n:=64) (x:=wd (upto (2 ^ n) F) i) (wd_lt _ _) j
 rw [show 18446744073709551615 - wd (upto (2 ^ n) F) i=2 ^ 64 - (wd (upto (2 ^ n) F) i+1) by have:=wd_lt (upto (2 ^ n) F) i;omega,h,wd_bit]
 by_cases hj:j < 64
 ·by_cases hn:n < 6
  ·have h6:2 ^ n<=2 ^ 5:=Nat.pow_le_pow_right (by omega) (by omega)
   have hi0:i=0:=by omega
   subst hi0
   by_cases hm:j < 2 ^ n<;>simp [upto,hj,hm]
  ·have hd:2 ^ n=64*2 ^ (n - 6):=by rw [show (64:Nat)=2 ^ 6 from rfl,<- Nat.pow_add];congr 1;omega
   have hm:j < 2 ^ n:=by have:=Nat.one_le_two_pow (n:=n - 6);omega
   have hp:64*i+j < 2 ^ n:=by omega
   simp [upto,hj,hm,hp]
 ·simp [hj]
/-- Half b of a table of at most 64 places. -/
theorem wd_half_low (F:Nat->Bool) (n b:Nat) (hn:n < 6) (hb:b<=1):wd (upto (2 ^ (n+1)) F) 0 / 2 ^ (b*2 ^ n) &&& use (2 ^ n)=wd (upto (2 ^ n) fun p=>F (b*2 ^ n+p)) 0:=by
 refine wd_of fun j=>?_
 rw [Nat.testBit_and,use_bit,Nat.testBit_div_two_pow,wd_bit]
 have h6:2 ^ n<=2 ^ 5:=Nat.pow_le_pow_right (by omega) (by omega)
 have hp:2 ^ (n+1)=2*2 ^ n:=by rw [Nat.pow_succ];omega
 by_cases hj:j < 64
 ·by_cases hm:j < 2 ^ n
  ·have h1:j+b*2 ^ n < 64:=by rcases (by omega:b=0\/b=1) with rfl|rfl<;>omega
   have h2:j+b*2 ^ n < 2 ^ (n+1):=by rcases (by omega:b=0\/b=1) with rfl|rfl<;>omega
   simp [upto,hj,hm,h1,h2,Nat.add_comm]
  ·simp [upto,hj,hm]
 ·simp [hj]
/-- Half b of a greater one: whole words. -/
theorem wd_half_high (F:Nat->Bool) (n b i:Nat) (hn:6<=n) (hb:b<=1) (hi:i < 2 ^ n / 64):wd (upto (2 ^ (n+1)) F) (b*(2 ^ n / 64)+i)=wd (upto (2 ^ n) fun p=>F (b*2 ^ n+p)) i:=by
 refine wd_of fun j=>?_
 rw [wd_bit]
 have hd:2 ^ n=64*2 ^ (n - 6):=by rw [show (64:Nat)=2 ^ 6 from rfl,<- Nat.pow_add];congr 1;omega
 have hp:2 ^ (n+1)=2*2 ^ n:=by rw [Nat.pow_succ];omega
 by_cases hj:j < 64
 ·have h1:64*i+j < 2 ^ n:=by omega
  have e:64*(b*(2 ^ n / 64)+i)+j=b*2 ^ n+(64*i+j):=by
   rcases (by omega:b=0\/b=1) with rfl|rfl<;>omega
  have h2:b*2 ^ n+(64*i+j) < 2 ^ (n+1):=by rcases (by omega:b=0\/b=1) with rfl|rfl<;>omega
  rw [e]
  simp [upto,hj,h1,h2]
 ·simp [hj]
/-- How many of the first k bits are set. -/
def cnt (F:Nat->Bool):Nat->Nat
 | 0=>0
 | k+1=>cnt F k+(F k).toNat
theorem cnt_le (F:Nat->Bool) (k:Nat):cnt F k<=k:=by
 induction k with
 | zero=>exact Nat.le_refl _
 | succ k ih=>unfold cnt;cases F k<;>simp<;>omega
theorem cnt_congr {F G:Nat->Bool} (k:Nat) (h:∀ j,j < k->F j=G j):cnt F k=cnt G k:=by
 induction k with
 | zero=>rfl
 | succ k ih=>unfold cnt;rw [ih fun j hj=>h j (by omega),h k (by omega)]
theorem cnt_add (F:Nat->Bool) (k m:Nat):cnt F (k+m)=cnt F k+cnt (fun j=>F (k+j)) m:=by
 induction m with
 | zero=>rfl
 | succ m ih=>rw [<- Nat.add_assoc];show cnt F (k+m)+(F (k+m)).toNat=cnt F k+(cnt (fun j=>F (k+j)) m+(F (k+m)).toNat);rw [ih];omega
theorem cnt_none (F:Nat->Bool) (k:Nat) (h:∀ j,j < k->F j=false):cnt F k=0:=by
 induction k with
 | zero=>rfl
 | succ k ih=>unfold cnt;rw [ih fun j hj=>h j (by omega),h k (by omega)];rfl
theorem cnt_zero (F:Nat->Bool) (k:Nat):cnt F k=0↔∀ j,j < k->F j=false:=by
 refine ⟨?_,cnt_none F k⟩
 induction k with
 | zero=>intro _ j hj;omega
 | succ k ih =>
   intro h j hj
   unfold cnt at h
   by_cases e:j=k
   ·subst e;cases hF:F j
    ·rfl
    ·rw [hF] at h;simp at h
   ·exact ih (by omega) j (by omega)
theorem cnt_all (F:Nat->Bool) (k:Nat):cnt F k=k↔∀ j,j < k->F j=true:=by
 induction k with
 | zero=>exact ⟨fun _ j hj=>by omega,fun _=>rfl⟩
 | succ k ih =>
   have hl:=cnt_le F k
   unfold cnt
   constructor
   ·intro h j hj
    have hk:F k=true:=by
     cases hF:F k
     ·rw [hF] at h;simp at h;omega
     ·rfl
    by_cases e:j=k
    ·subst e;exact hk
    ·rw [hk] at h;simp at h;exact ih.1 (by omega) j (by omega)
   ·intro h
    rw [h k (by omega),ih.2 fun j hj=>h j (by omega)];rfl
/-- The bits set in the words ahead of word i. -/
theorem cnt_wd (F:Nat->Bool) (i:Nat):cnt F (64*(i+1))=cnt F (64*i)+cnt (wd F i).testBit 64:=by
 rw [show 64*(i+1)=64*i+64 by omega,cnt_add]
 congr 1
 exact cnt_congr 64 fun j hj=>by rw [wd_bit];simp [hj]
theorem cnt_past (F:Nat->Bool) (m k:Nat) (h:m<=k):cnt (upto m F) k=cnt F m:=by
 obtain ⟨d,rfl⟩:∃ d,k=m+d:=⟨k - m,by omega⟩
 rw [cnt_add,cnt_none (fun j=>upto m F (m+j)) d fun j _=>by unfold upto;rw [decide_eq_false (by omega),Bool.false_and],Nat.add_zero]
 exact cnt_congr m fun j hj=>by simp [upto,hj]
/-- Bytes: a mask of n bytes m. -/
def msk (m:Nat):Nat->Nat
 | 0=>0
 | n+1=>m+256*msk m n
theorem land_step (x m M:Nat) (hm:m < 256):x &&& (m+256*M)=(x % 256 &&& m)+256*(x / 256 &&& M):=by
 have hlt:x % 256 &&& m < 2 ^ 8:=Nat.lt_of_le_of_lt Nat.and_le_right hm
 refine Nat.eq_of_testBit_eq fun j=>?_
 rw [Nat.add_comm m,Nat.add_comm (x % 256 &&& m)]
 have h1:=Nat.testBit_two_pow_mul_add M (i:=8) (b:=m) hm j
 have h2:=Nat.testBit_two_pow_mul_add (x / 256 &&& M) (i:=8) hlt j
 rw [show (2:Nat) ^ 8=256 from rfl] at h1 h2
 rw [Nat.testBit_and,h1,h2]
 by_cases hj:j < 8
 ·have h3:=Nat.testBit_mod_two_pow x 8 j
  rw [show (2:Nat) ^ 8=256 from rfl] at h3
  rw [if_pos hj,if_pos hj,Nat.testBit_and,h3];simp [hj]
 ·have h3:(x / 2 ^ 8).testBit (j - 8)=x.testBit (j - 8+8):=by rw [Nat.testBit_div_two_pow]
  rw [show (2:Nat) ^ 8=256 from rfl] at h3
  rw [if_neg hj,if_neg hj,Nat.testBit_and,h3,show j - 8+8=j by omega]
/-- The first three steps of the count, byte by byte. -/
def s1 (b:Nat):Nat:=(b / 2 &&& 85)+(b &&& 85)
def s2 (b:Nat):Nat:=(b / 4 &&& 51)+(b &&& 51)
def s3 (b:Nat):Nat:=(b / 16+b) &&& 15
def ech (f:Nat->Nat):Nat->Nat->Nat
 | 0,_=>0
 | n+1,x=>f (x % 256)+256*ech f n (x / 256)
theorem d1:∀ b:Fin 512,(b.val / 2 % 256) &&& 85=(b.val % 256 / 2) &&& 85:=by decide +kernel
theorem d2:∀ b:Fin 1024,(b.val / 4 % 256) &&& 51=(b.val % 256 / 4) &&& 51:=by decide +kernel
theorem step1 (n x:Nat):(x / 2 &&& msk 85 n)+(x &&& msk 85 n)=ech s1 n x:=by
 induction n generalizing x with
 | zero=>simp [msk,ech]
 | succ n ih =>
   show (x / 2 &&& (85+256*msk 85 n))+(x &&& (85+256*msk 85 n))=s1 (x % 256)+256*ech s1 n (x / 256)
   have h:=d1 ⟨x % 512,by omega⟩
   simp only at h
   rw [land_step _ _ _ (by omega),land_step x _ _ (by omega),<- ih,show x / 2 / 256=x / 256 / 2 by omega,show x / 2 % 256=x % 512 / 2 % 256 by omega,h,show x % 512 % 256=x % 256 by omega]
   unfold s1;omega
theorem step2 (n x:Nat):(x / 4 &&& msk 51 n)+(x &&& msk 51 n)=ech s2 n x:=by
 induction n generalizing x with
 | zero=>simp [msk,ech]
 | succ n ih =>
   show (x / 4 &&& (51+256*msk 51 n))+(x &&& (51+256*msk 51 n))=s2 (x % 256)+256*ech s2 n (x / 256)
   have h:=d2 ⟨x % 1024,by omega⟩
   simp only at h
   rw [land_step _ _ _ (by omega),land_step x _ _ (by omega),<- ih,show x / 4 / 256=x / 256 / 4 by omega,show x / 4 % 256=x % 1024 / 4 % 256 by omega,h,show x % 1024 % 256=x % 256 by omega]
   unfold s2;omega
/-- Bytes whose two halves are at most 4. -/
def Low:Nat->Nat->Prop
 | 0,x=>x=0
 | n+1,x=>x % 16<=4/\x / 16 % 16<=4/\Low n (x / 256)
theorem low_nib (n x:Nat) (h:Low n x):x % 16<=4:=by
 cases n with
 | zero=>have h:x=0:=h;omega
 | succ n=>exact h.1
theorem d3:∀ b:Fin 256,(b.val &&& 15)=b.val % 16:=by decide +kernel
theorem and15 (x:Nat):x % 256 &&& 15=x % 16:=by have:=d3 ⟨x % 256,by omega⟩;simp only at this;omega
theorem step3 (n x:Nat) (h:Low n x):(x / 16+x) &&& msk 15 n=ech s3 n x:=by
 induction n generalizing x with
 | zero=>simp [msk,ech]
 | succ n ih =>
   obtain ⟨h0,h1,h2⟩:=h
   have hn:=low_nib _ _ h2
   show (x / 16+x) &&& (15+256*msk 15 n)=s3 (x % 256)+256*ech s3 n (x / 256)
   have hq:(x / 16+x) / 256=x / 256 / 16+x / 256:=by
    obtain ⟨a,b,c,d,rfl,ha,hb,hc⟩:∃ a b c d,x=a+16*(b+16*(c+16*d))/\a < 16/\b < 16/\c < 16:=⟨x % 16,x / 16 % 16,x / 256 % 16,x / 4096,by omega,by omega,by omega,by omega⟩
    have e1:(a+16*(b+16*(c+16*d))) / 16=b+16*(c+16*d):=by omega
    have e2:(a+16*(b+16*(c+16*d))) / 256=c+16*d:=by omega
    have e3:(c+16*d) / 16=d:=by omega
    rw [e1] at h1
    rw [e2] at hn
    rw [e1,e2,e3]
    have:a<=4:=by omega
    have:b<=4:=by omega
    have:c<=4:=by omega
    omega
   rw [land_step _ _ _ (by omega),<- ih _ h2,hq,and15]
   unfold s3
   have e:(x % 256 / 16+x % 256) % 256 &&& 15=(x % 256 / 16+x % 256) % 16:=and15 _
   have e2:(x % 256 / 16+x % 256) &&& 15=(x % 256 / 16+x % 256) % 16:=by
    rw [show (15:Nat)=2 ^ 4 - 1 from rfl,Nat.and_two_pow_sub_one_eq_mod]
   rw [e2];omega
theorem ech_lt (f:Nat->Nat) (hf:∀ b,b < 256->f b < 256) (n x:Nat):ech f (n+1) x % 256=f (x % 256)/\ech f (n+1) x / 256=ech f n (x / 256):=by
 have h:=hf (x % 256) (by omega)
 show (f (x % 256)+256*ech f n (x / 256)) % 256=_/\(f (x % 256)+256*ech f n (x / 256)) / 256=_
 omega
theorem b1:∀ b:Fin 256,s1 b.val < 256:=by decide +kernel
theorem b2:∀ b:Fin 256,s2 b.val < 256:=by decide +kernel
theorem b12:∀ b:Fin 256,s2 (s1 b.val) % 16<=4/\s2 (s1 b.val) / 16 % 16<=4:=by decide +kernel
theorem b123:∀ b:Fin 256,s3 (s2 (s1 b.val))=cnt b.val.testBit 8:=by decide +kernel
theorem ech_ech (f g:Nat->Nat) (hf:∀ b,b < 256->f b < 256) (n x:Nat):ech g n (ech f n x)=ech (fun b=>g (f b)) n x:=by
 induction n generalizing x with
 | zero=>rfl
 | succ n ih =>
   obtain ⟨h1,h2⟩:=ech_lt f hf n x
   show g (ech f (n+1) x % 256)+256*ech g n (ech f (n+1) x / 256)=g (f (x % 256))+256*ech _ n (x / 256)
   rw [h1,h2,ih]
theorem low_ech (n x:Nat):Low n (ech (fun b=>s2 (s1 b)) n x):=by
 induction n generalizing x with
 | zero=>rfl
 | succ n ih =>
   have hb:=b12 ⟨x % 256,by omega⟩
   have hl:=b2 ⟨s1 (x % 256),b1 ⟨x % 256,by omega⟩⟩
   simp only at hb hl
   have e:ech (fun b=>s2 (s1 b)) (n+1) x=s2 (s1 (x % 256))+256*ech (fun b=>s2 (s1 b)) n (x / 256):=rfl
   refine ⟨by rw [e];omega,by rw [e];omega,?_⟩
   rw [show ech (fun b=>s2 (s1 b)) (n+1) x / 256=ech (fun b=>s2 (s1 b)) n (x / 256) by rw [e];omega]
   exact ih _
/-- Behind the first three steps each byte has its own count. -/
theorem bytes_count (x:Nat) (y z:Nat) (hy:y=(x / 2 &&& msk 85 8)+(x &&& msk 85 8)) (hz:z=(y / 4 &&& msk 51 8)+(y &&& msk 51 8)) :
 (z / 16+z) &&& msk 15 8=ech (fun b=>cnt b.testBit 8) 8 x:=by
 have l1:∀ b,b < 256->s1 b < 256:=fun b h=>b1 ⟨b,h⟩
 have l2:∀ b,b < 256->s2 b < 256:=fun b h=>b2 ⟨b,h⟩
 rw [step1] at hy
 rw [step2,hy,ech_ech _ _ l1] at hz
 have e:∀ n x,ech (fun b=>s3 (s2 (s1 b))) n x=ech (fun b=>cnt b.testBit 8) n x:=by
  intro n
  induction n with
  | zero=>intro x;rfl
  | succ n ih=>intro x;show _+_=_+_;rw [ih];congr 1;exact b123 ⟨x % 256,by omega⟩
 rw [hz,step3 _ _ (low_ech _ _),ech_ech _ _ (fun b h=>l2 _ (l1 b h)),e]
/-- The sum of n bytes. -/
def sumB:Nat->Nat->Nat
 | 0,_=>0
 | n+1,x=>x % 256+sumB n (x / 256)
theorem sum_count (n x:Nat):sumB n (ech (fun b=>cnt b.testBit 8) n x)=cnt x.testBit (8*n):=by
 induction n generalizing x with
 | zero=>rfl
 | succ n ih =>
   obtain ⟨h1,h2⟩:=ech_lt (fun b=>cnt b.testBit 8) (fun b _=>by have:=cnt_le b.testBit 8;omega) n x
   show ech _ (n+1) x % 256+sumB n (ech _ (n+1) x / 256)=_
   rw [h1,h2,ih,show 8*(n+1)=8+8*n by omega,cnt_add]
   congr 1
   ·exact cnt_congr 8 fun j hj=>by rw [show (256:Nat)=2 ^ 8 from rfl,Nat.testBit_mod_two_pow];simp [hj]
   ·exact cnt_congr _ fun j hj=>by rw [show (256:Nat)=2 ^ 8 from rfl,Nat.testBit_div_two_pow,Nat.add_comm]
theorem ech_le (n x:Nat) (m:Nat):ech (fun b=>cnt b.testBit 8) n x < 256 ^ n:=by
 induction n generalizing x with
 | zero=>exact Nat.one_pos
 | succ n ih =>
   have h:=ih (x / 256)
   have:=cnt_le (x % 256).testBit 8
   show cnt (x % 256).testBit 8+256*ech _ n (x / 256) < _
   rw [Nat.pow_succ];omega
/-- The last three steps add the bytes. -/
theorem cut_at (r K m q:Nat) (h:r < m) (hq:q=r+m*K):q / m=K:=by
 subst hq;rw [Nat.add_mul_div_left _ _ (by omega),Nat.div_eq_of_lt h,Nat.zero_add]
theorem f1 (b0 b1 b2 b3 b4 b5 b6 b7:Nat):b0+256*(b1+256*(b2+256*(b3+256*(b4+256*(b5+256*(b6+256*b7))))))+(b1+256*(b2+256*(b3+256*(b4+256*(b5+256*(b6+256*b7))))))
 = (b0+b1+256*(b1+b2))+65536*((b2+b3)+256*((b3+b4)+256*((b4+b5)+256*((b5+b6)+256*((b6+b7)+256*b7))))):=by omega
theorem f2 (b0 b1 b2 b3 b4 b5 b6 b7:Nat):(b0+b1+256*(b1+b2))+65536*((b2+b3)+256*((b3+b4)+256*((b4+b5)+256*((b5+b6)+256*((b6+b7)+256*b7)))))+((b2+b3)+256*((b3+b4)+256*((b4+b5)+256*((b5+b6)+256*((b6+b7)+256*b7)))))
 = (b0+b1+b2+b3+256*(b1+b2+b3+b4)+65536*(b2+b3+b4+b5)+16777216*(b3+b4+b5+b6))+4294967296*((b4+b5+b6+b7)+256*((b5+b6+b7)+256*((b6+b7)+256*b7))):=by omega
theorem f3 (b0 b1 b2 b3 b4 b5 b6 b7:Nat):(b0+b1+b2+b3+256*(b1+b2+b3+b4)+65536*(b2+b3+b4+b5)+16777216*(b3+b4+b5+b6))+4294967296*((b4+b5+b6+b7)+256*((b5+b6+b7)+256*((b6+b7)+256*b7)))+((b4+b5+b6+b7)+256*((b5+b6+b7)+256*((b6+b7)+256*b7)))
 = (b0+b1+b2+b3+b4+b5+b6+b7)+128*(2*((b1+b2+b3+b4+b5+b6+b7)+256*((b2+b3+b4+b5+b6+b7)+256*((b3+b4+b5+b6+b7)+256*((b4+b5+b6+b7)+256*((b5+b6+b7)+256*((b6+b7)+256*b7))))))):=by omega
theorem f4 (b0 b1 b2 b3 b4 b5 b6 b7:Nat) (h0:b0<=8) (h1:b1<=8) (h2:b2<=8) (h3:b3<=8) (h4:b4<=8) (h5:b5<=8) (h6:b6<=8) (h7:b7<=8):(b0+b1+b2+b3+b4+b5+b6+b7)+128*(2*((b1+b2+b3+b4+b5+b6+b7)+256*((b2+b3+b4+b5+b6+b7)+256*((b3+b4+b5+b6+b7)+256*((b4+b5+b6+b7)+256*((b5+b6+b7)+256*((b6+b7)+256*b7))))))) < 18446744073709551616:=by omega
theorem fold_sum (z:Nat) (b0 b1 b2 b3 b4 b5 b6 b7:Nat) (hz:z=b0+256*(b1+256*(b2+256*(b3+256*(b4+256*(b5+256*(b6+256*b7)))))))
 (h0:b0<=8) (h1:b1<=8) (h2:b2<=8) (h3:b3<=8) (h4:b4<=8) (h5:b5<=8) (h6:b6<=8) (h7:b7<=8) (u v t:Nat) (hu:u=z+z / 256) (hv:v=u+u / 65536) (ht:t=v+v / 4294967296) :
 t < 18446744073709551616/\t % 128=b0+b1+b2+b3+b4+b5+b6+b7:=by
 have l1:b0 < 256:=by clear hz hu hv ht;omega
 have l2:b0+b1+256*(b1+b2) < 65536:=by clear hz hu hv ht;omega
 have l3:b0+b1+b2+b3+256*(b1+b2+b3+b4)+65536*(b2+b3+b4+b5)+16777216*(b3+b4+b5+b6) < 4294967296:=by clear hz hu hv ht;omega
 have l4:b0+b1+b2+b3+b4+b5+b6+b7 < 128:=by clear hz hu hv ht;omega
 have q1:=cut_at b0 _ 256 z l1 hz
 rw [q1,hz,f1] at hu
 have q2:=cut_at _ _ 65536 u l2 hu
 rw [q2,hu,f2] at hv
 have q3:=cut_at _ _ 4294967296 v l3 hv
 rw [q3,hv,f3] at ht
 refine ⟨?_,?_⟩
 ·rw [ht];exact f4 _ _ _ _ _ _ _ _ h0 h1 h2 h3 h4 h5 h6 h7
 ·rw [ht,Nat.add_mul_mod_self_left,Nat.mod_eq_of_lt l4]
/-- The count of a word's bits, whole. -/
theorem pop64 (x y z t u v r:Nat) (hx:x < 18446744073709551616) (hy:y=(x / 2 &&& msk 85 8)+(x &&& msk 85 8)) (hz:z=(y / 4 &&& msk 51 8)+(y &&& msk 51 8))
 (ht:t=(z / 16+z) &&& msk 15 8) (hu:u=t+t / 256) (hv:v=u+u / 65536) (hr:r=v+v / 4294967296) :
 r < 18446744073709551616/\r % 128=cnt x.testBit 64:=by
 have h:=bytes_count x y z hy hz
 rw [<- ht] at h
 have hc:=fun k=>cnt_le (k:Nat).testBit 8
 have hf:=fold_sum t (cnt (x % 256).testBit 8) (cnt (x / 256 % 256).testBit 8) (cnt (x / 256 / 256 % 256).testBit 8) (cnt (x / 256 / 256 / 256 % 256).testBit 8) (cnt (x / 256 / 256 / 256 / 256 % 256).testBit 8) (cnt (x / 256 / 256 / 256 / 256 / 256 % 256).testBit 8) (cnt (x / 256 / 256 / 256 / 256 / 256 / 256 % 256).testBit 8) (cnt (x / 256 / 256 / 256 / 256 / 256 / 256 / 256 % 256).testBit 8)
  (by rw [h];rfl) (hc _) (hc _) (hc _) (hc _) (hc _) (hc _) (hc _) (hc _) u v r hu hv hr
 refine ⟨hf.1,?_⟩
 rw [hf.2,<- sum_count 8 x]
 have g:∀ n y,sumB (n+1) (ech (fun b=>cnt b.testBit 8) (n+1) y)=cnt (y % 256).testBit 8+sumB n (ech (fun b=>cnt b.testBit 8) n (y / 256)):=by
  intro n y
  obtain ⟨h1,h2⟩:=ech_lt (fun b=>cnt b.testBit 8) (fun b _=>by have:=cnt_le b.testBit 8;omega) n y
  show ech _ (n+1) y % 256+sumB n (ech _ (n+1) y / 256)=_
  rw [h1,h2]
 rw [g,g,g,g,g,g,g,g]
 show _=_+(_+(_+(_+(_+(_+(_+(_+0)))))))
 omega
end Ta0
namespace Ta1
open Go.RowKit
open Ta0
/-- The sign of a bit. -/
def sgn (b:Bool):UInt8:=if b then 49 else 48
theorem sgn_inj {a b:Bool} (h:sgn a=sgn b):a=b:=by
 cases a<;>cases b<;>first|rfl|(exfalso;revert h;decide)
theorem sgn_toNat (b:Bool):(sgn b).toNat=48+b.toNat:=by cases b<;>rfl
/-- The table of n bits that has F's bits. -/
def tab (n:Nat) (F:Nat->Bool):List UInt8:=(List.range (2 ^ n)).map fun i=>sgn (F i)
theorem tab_length (n:Nat) (F:Nat->Bool):(tab n F).length=2 ^ n:=by simp [tab]
theorem tab_get (n:Nat) (F:Nat->Bool) (i:Nat) (h:i < (tab n F).length):(tab n F)[i]=sgn (F i):=by simp [tab]
theorem tab_ext {n:Nat} {F G:Nat->Bool} (h:∀ i,i < 2 ^ n->F i=G i):tab n F=tab n G:=by
 unfold tab
 refine List.map_congr_left fun i hi=>?_
 rw [h i (List.mem_range.1 hi)]
theorem tab_inj {n:Nat} {F G:Nat->Bool} (h:tab n F=tab n G):∀ i,i < 2 ^ n->F i=G i:=by
 intro i hi
 have h1:=tab_get n F i (by rw [tab_length];exact hi)
 have h2:=tab_get n G i (by rw [tab_length];exact hi)
 refine sgn_inj ?_
 rw [<- h1,<- h2]
 congr 1
theorem list_tab {n:Nat} {F:Nat->Bool} {l:List UInt8} (hl:l.length=2 ^ n) (h:∀ i (hi:i < l.length),l[i]=sgn (F i)):l=tab n F :=
 List.ext_getElem (by rw [tab_length,hl]) fun i h1 h2=>by rw [h i h1,tab_get]
/-- What TableOk asks. -/
def tokB (N:Int) (l:List UInt8):Bool:=decide (0<=N/\N<=12/\l.length=2 ^ N.toNat/\∀ c∈l,c=48\/c=49)
theorem tok_tab {N:Int} {l:List UInt8} (h:tokB N l=true):∃ (n:Nat) (F:Nat->Bool),n<=12/\N=(n:Int)/\l=tab n F:=by
 obtain ⟨h0,h1,h2,h3⟩:=of_decide_eq_true h
 refine ⟨N.toNat,fun i=>l.getD i 48==49,by omega,by omega,list_tab h2 fun i hi=>?_⟩
 have e:l.getD i 48=l[i]:=by simp [List.getD,hi]
 show _=sgn (l.getD i 48==49)
 rw [e]
 rcases h3 l[i] (List.getElem_mem hi) with h|h<;>rw [h]<;>rfl
theorem tab_tok {n:Nat} (F:Nat->Bool) (hn:n<=12):tokB (n:Int) (tab n F)=true:=by
 refine decide_eq_true ⟨by omega,by omega,by rw [tab_length,Int.toNat_natCast],fun c hc=>?_⟩
 obtain ⟨i,_,rfl⟩:=List.mem_map.1 hc
 cases F i
 ·exact .inl rfl
 ·exact .inr rfl
theorem tok_no {N:Int} {l:List UInt8} (h:¬ (0<=N/\N<=12)):tokB N l=false:=decide_eq_false fun k=>h ⟨k.1,k.2.1⟩
theorem tok_len {N:Int} {l:List UInt8} (h:l.length≠2 ^ N.toNat):tokB N l=false:=decide_eq_false fun k=>h k.2.2.1
theorem tok_sign {N:Int} {l:List UInt8} {c:UInt8} (hc:c∈l) (h:c≠48/\c≠49):tokB N l=false:=decide_eq_false fun k=>by
 rcases k.2.2.2 c hc with e|e
 ·exact h.1 e
 ·exact h.2 e
theorem p12 {n:Nat} (h:n<=12):1<=2 ^ n/\2 ^ n<=4096:=⟨Nat.one_le_two_pow,Nat.pow_le_pow_right (by omega) h⟩
theorem p12z {n:Nat} (h:n<=12):(1:Int)<=(2:Int) ^ n/\(2:Int) ^ n<=4096:=by
 have:=p12 h
 have e:((2 ^ n:Nat):Int)=(2:Int) ^ n:=by push_cast;rfl
 omega
theorem pcast (n:Nat):(2:Int) ^ n=((2 ^ n:Nat):Int):=by push_cast;rfl
theorem band62 {m n:Nat} (hm:m < 2 ^ 62) (hn:n < 2 ^ 62):bits .and .i64 (m:Int) (n:Int)=((m &&& n:Nat):Int):=by
 have e:bits .and .i64 (m:Int) (n:Int)=IntKind.i64.wrap ((BitVec.ofInt 64 (m:Int) &&& BitVec.ofInt 64 (n:Int)).toNat:Int):=rfl
 have h:=Nat.and_lt_two_pow m hn
 rw [e,BitVec.toNat_and,BitVec.ofInt_natCast,BitVec.ofInt_natCast,BitVec.toNat_ofNat,BitVec.toNat_ofNat,Nat.mod_eq_of_lt (by omega),Nat.mod_eq_of_lt (by omega),IntKind.wrap_i64]
 omega
theorem bor62 {m n:Nat} (hm:m < 2 ^ 62) (hn:n < 2 ^ 62):bits .or .i64 (m:Int) (n:Int)=((m ||| n:Nat):Int):=by
 have e:bits .or .i64 (m:Int) (n:Int)=IntKind.i64.wrap ((BitVec.ofInt 64 (m:Int) ||| BitVec.ofInt 64 (n:Int)).toNat:Int):=rfl
 have h:=Nat.or_lt_two_pow hm hn
 rw [e,BitVec.toNat_or,BitVec.ofInt_natCast,BitVec.ofInt_natCast,BitVec.toNat_ofNat,BitVec.toNat_ofNat,Nat.mod_eq_of_lt (by omega),Nat.mod_eq_of_lt (by omega),IntKind.wrap_i64]
 omega
theorem bxor62 {m n:Nat} (hm:m < 2 ^ 62) (hn:n < 2 ^ 62):bits .xor .i64 (m:Int) (n:Int)=((m ^^^ n:Nat):Int):=by
 have e:bits .xor .i64 (m:Int) (n:Int)=IntKind.i64.wrap ((BitVec.ofInt 64 (m:Int) ^^^ BitVec.ofInt 64 (n:Int)).toNat:Int):=rfl
 have h:=Nat.xor_lt_two_pow hm hn
 rw [e,BitVec.toNat_xor,BitVec.ofInt_natCast,BitVec.ofInt_natCast,BitVec.toNat_ofNat,BitVec.toNat_ofNat,Nat.mod_eq_of_lt (by omega),Nat.mod_eq_of_lt (by omega),IntKind.wrap_i64]
 omega
theorem wrapu {x:Nat} (h:x < 18446744073709551616):IntKind.u64.wrap (x:Int)=(x:Int):=by rw [IntKind.wrap_u64];omega
end Ta1
end Go.Proofs.YtladjpombohpaaaGreatDoor
