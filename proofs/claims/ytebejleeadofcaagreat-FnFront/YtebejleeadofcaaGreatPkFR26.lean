import Derived.Deep.QuietTactic
import Derived.BigQuiet
import Derived.Test.YtebejleeadofcaaGreatPkFR0
import Derived.Test.YtebejleeadofcaaGreatPkFR2
import Derived.Test.YtebejleeadofcaaGreatPkFR3
import Derived.Test.YtebejleeadofcaaGreatPkFR17
import Derived.Test.YtebejleeadofcaaGreatPkFR25
namespace Go.Proofs.YtebejleeadofcaaGreat
set_option maxRecDepth 100000
set_option maxHeartbeats 8000000
set_option linter.unusedVariables false
namespace Kp1
open Go.RowKit
open Nd0 Rw0 Rw1 Tm6
theorem Kept.past {S T:Nat->Prop} {u v w:World} (h:Kept S u v) (k:Kept T v w) (hT:∀ b,T b->S b\/u.heap.size<=b):Kept S u w :=
 ⟨k.os.trans h.os,k.tape.trans h.tape,k.output.trans h.output,Nat.le_trans h.size k.size,fun i hi hb=>(k.block i (Nat.lt_of_lt_of_le hi h.size) (fun t=>by
  rcases hT i t with e|e
  ·exact hb e
  ·omega)).trans (h.block i hi hb)⟩
def Env (w:World) (g:Nat) (e:List Int):Prop:=Row w g 8 (fun i=>.int .i64 (wd e (i:Int)))
theorem Env.kept {w w':World} {g:Nat} {e:List Int} (h:Env w g e) {S:Nat->Prop} (k:Kept S w w') (hs:¬ S g):Env w' g e:=Row.kept h k hs
theorem Env.lt {w:World} {g:Nat} {e:List Int} (h:Env w g e):g < w.heap.size:=Row.lt h (by omega)
theorem Env.set {w:World} {g:Nat} {e:List Int} (h:Env w g e) (he:e.length=8) {p:Nat} (hp:p < 8) (x:Int):Env (w.setCell ⟨g,p,none⟩ (.int .i64 x)) g (e.set p x):=row_set_int h he hp x
theorem Env.at {w:World} {g:Nat} {e:List Int} (h:Env w g e) {k:Int} (h0:0<=k) (h7:k<=7):w.cell? ⟨g,k.toNat,none⟩=some (.int .i64 (wd e k))/\w.frozen? ⟨g,k.toNat,none⟩=false:=by
 have:=h k.toNat (by omega)
 dsimp only at this
 rw [Int.toNat_of_nonneg h0] at this
 exact this
end Kp1
namespace Bt0
open Go.RowKit
open Pl1 Vl1 Vl2
theorem nat8 {a:Int} (h:0<=a/\a<=255):∃ m:Nat,a=(m:Int)/\m < 2 ^ 8:=⟨a.toNat,by omega,by omega⟩
theorem wrap8 {m:Nat} (h:m < 2 ^ 8):IntKind.i64.wrap (m:Int)=(m:Int):=by rw [IntKind.wrap_i64];omega
theorem mod64 {m:Nat} (h:m < 2 ^ 8):m % 2 ^ 64=m:=Nat.mod_eq_of_lt (by omega)
theorem band {a b:Int} (ha:0<=a/\a<=255) (hb:0<=b/\b<=255):bits .and .i64 a b=nAnd a b:=by
 obtain ⟨m,rfl,hm⟩:=nat8 ha
 obtain ⟨n,rfl,hn⟩:=nat8 hb
 have e:bits .and .i64 (m:Int) (n:Int)=IntKind.i64.wrap ((BitVec.ofInt 64 (m:Int) &&& BitVec.ofInt 64 (n:Int)).toNat:Int):=rfl
 rw [e,BitVec.toNat_and,BitVec.ofInt_natCast,BitVec.ofInt_natCast,BitVec.toNat_ofNat,BitVec.toNat_ofNat,mod64 hm,mod64 hn,wrap8 (Nat.and_lt_two_pow _ hn)]
 rfl
theorem bor {a b:Int} (ha:0<=a/\a<=255) (hb:0<=b/\b<=255):bits .or .i64 a b=nOr a b:=by
 obtain ⟨m,rfl,hm⟩:=nat8 ha
 obtain ⟨n,rfl,hn⟩:=nat8 hb
 have e:bits .or .i64 (m:Int) (n:Int)=IntKind.i64.wrap ((BitVec.ofInt 64 (m:Int) ||| BitVec.ofInt 64 (n:Int)).toNat:Int):=rfl
 rw [e,BitVec.toNat_or,BitVec.ofInt_natCast,BitVec.ofInt_natCast,BitVec.toNat_ofNat,BitVec.toNat_ofNat,mod64 hm,mod64 hn,wrap8 (Nat.or_lt_two_pow hm hn)]
 rfl
theorem bxor {a b:Int} (ha:0<=a/\a<=255) (hb:0<=b/\b<=255):bits .xor .i64 a b=nXor a b:=by
 obtain ⟨m,rfl,hm⟩:=nat8 ha
 obtain ⟨n,rfl,hn⟩:=nat8 hb
 have e:bits .xor .i64 (m:Int) (n:Int)=IntKind.i64.wrap ((BitVec.ofInt 64 (m:Int) ^^^ BitVec.ofInt 64 (n:Int)).toNat:Int):=rfl
 rw [e,BitVec.toNat_xor,BitVec.ofInt_natCast,BitVec.ofInt_natCast,BitVec.toNat_ofNat,BitVec.toNat_ofNat,mod64 hm,mod64 hn,wrap8 (Nat.xor_lt_two_pow hm hn)]
 rfl
theorem bor16 {m n:Nat} (hm:m < 2 ^ 9) (hn:n < 2 ^ 9):bits .or .i64 (m:Int) (n:Int)=((m ||| n:Nat):Int):=by
 have e:bits .or .i64 (m:Int) (n:Int)=IntKind.i64.wrap ((BitVec.ofInt 64 (m:Int) ||| BitVec.ofInt 64 (n:Int)).toNat:Int):=rfl
 have h:=Nat.or_lt_two_pow hm hn
 rw [e,BitVec.toNat_or,BitVec.ofInt_natCast,BitVec.ofInt_natCast,BitVec.toNat_ofNat,BitVec.toNat_ofNat,Nat.mod_eq_of_lt (by omega),Nat.mod_eq_of_lt (by omega),IntKind.wrap_i64]
 omega
end Bt0
namespace Wd5
open Go.RowKit
open Pl1 Wd1 Wd2 Wd3 Wd4
theorem iLess (m a b:Int) (w:World) :
 Calls Tryz.prog 131 #[.int .i64 m,.int .i64 a,.int .i64 b] w fun e w'=>e=.returned (.int .i64 (vLess m a b))/\w'=w:=by
 cases h:(wok m a&&wok m b)
 ·have HV:Hid (vLess m a b=0):=by show vLess m a b=0;simp only [vLess,h];rfl
  go_enter Tryz.func131,Tryz.ntmps131
  go_wp2_with (first|(go_at_call 139;refine (iTwo _ _ _ _).mono ?_;rintro e w' ⟨rfl,rfl⟩)|(go_at_call 37;refine (iOne _ _).mono ?_;rintro e w' ⟨rfl,rfl⟩))
  go_ret
  exact ⟨ret_int HV.out.symm,rfl⟩
 ·by_cases hl:a < b
  ·have HV:Hid (vLess m a b=1):=by show vLess m a b=1;simp only [vLess,h,hl];rfl
   go_enter Tryz.func131,Tryz.ntmps131
   go_wp2_with (first|(go_at_call 139;refine (iTwo _ _ _ _).mono ?_;rintro e w' ⟨rfl,rfl⟩)|(go_at_call 37;refine (iOne _ _).mono ?_;rintro e w' ⟨rfl,rfl⟩))
   go_ret
   exact ⟨ret_int HV.out.symm,rfl⟩
  ·have HV:Hid (vLess m a b=0):=by show vLess m a b=0;simp only [vLess,h,hl];rfl
   go_enter Tryz.func131,Tryz.ntmps131
   go_wp2_with (first|(go_at_call 139;refine (iTwo _ _ _ _).mono ?_;rintro e w' ⟨rfl,rfl⟩)|(go_at_call 37;refine (iOne _ _).mono ?_;rintro e w' ⟨rfl,rfl⟩))
   go_ret
   exact ⟨ret_int HV.out.symm,rfl⟩
theorem iLessSigned (m a b:Int) (w:World) :
 Calls Tryz.prog 133 #[.int .i64 m,.int .i64 a,.int .i64 b] w fun e w'=>e=.returned (.int .i64 (vLessSigned m a b))/\w'=w:=by
 cases h:(wok m a&&wok m b)
 ·have HV:Hid (vLessSigned m a b=0):=by show vLessSigned m a b=0;simp only [vLessSigned,h];rfl
  go_enter Tryz.func133,Tryz.ntmps133
  go_wp2_with (first|(go_at_call 139;refine (iTwo _ _ _ _).mono ?_;rintro e w' ⟨rfl,rfl⟩)|(go_at_call 37;refine (iOne _ _).mono ?_;rintro e w' ⟨rfl,rfl⟩))
  go_ret
  exact ⟨ret_int HV.out.symm,rfl⟩
 ·obtain ⟨h1,h2,h3,h4,h5,h6,h7⟩:=two_iff h
  have ea:vSigned m a=sgn m a:=by rw [Bool.and_eq_true] at h;simp [vSigned,h.1]
  have eb:vSigned m b=sgn m b:=by rw [Bool.and_eq_true] at h;simp [vSigned,h.2]
  by_cases hl:sgn m a < sgn m b
  ·have HV:Hid (vLessSigned m a b=1):=by show vLessSigned m a b=1;simp only [vLessSigned,ea,eb,h,hl];rfl
   clear ea eb
   go_enter Tryz.func133,Tryz.ntmps133
   go_wp2_with (first|(go_at_call 139;refine (iTwo _ _ _ _).mono ?_;rintro e w' ⟨rfl,rfl⟩)|(go_at_call 37;refine (iOne _ _).mono ?_;rintro e w' ⟨rfl,rfl⟩)|(go_at_call 147;refine (signed _ m _ (by omega) (by omega) h1 h2).mono ?_;rintro e w' ⟨rfl,rfl⟩))
   go_ret
   exact ⟨ret_int HV.out.symm,rfl⟩
  ·have HV:Hid (vLessSigned m a b=0):=by show vLessSigned m a b=0;simp only [vLessSigned,ea,eb,h,hl];rfl
   clear ea eb
   go_enter Tryz.func133,Tryz.ntmps133
   go_wp2_with (first|(go_at_call 139;refine (iTwo _ _ _ _).mono ?_;rintro e w' ⟨rfl,rfl⟩)|(go_at_call 37;refine (iOne _ _).mono ?_;rintro e w' ⟨rfl,rfl⟩)|(go_at_call 147;refine (signed _ m _ (by omega) (by omega) h1 h2).mono ?_;rintro e w' ⟨rfl,rfl⟩))
   go_ret
   exact ⟨ret_int HV.out.symm,rfl⟩
theorem sLess (m a b:Int) (w:World) :
 Calls Tryz.prog 102 #[.int .i64 m,.int .i64 a,.int .i64 b] w fun e w'=>e=.returned (.int .i64 (vLess m a b))/\w'=w:=by
 cases h:(wok m a&&wok m b)
 ·have HV:Hid (vLess m a b=0):=by show vLess m a b=0;simp only [vLess,h];rfl
  go_enter Tryz.func102,Tryz.ntmps102
  go_wp2_with (first|(go_at_call 107;refine (sTwo _ _ _ _).mono ?_;rintro e w' ⟨rfl,rfl⟩)|(go_at_call 101;refine (sOne _ _).mono ?_;rintro e w' ⟨rfl,rfl⟩))
  go_ret
  exact ⟨ret_int HV.out.symm,rfl⟩
 ·by_cases hl:a < b
  ·have HV:Hid (vLess m a b=1):=by show vLess m a b=1;simp only [vLess,h,hl];rfl
   go_enter Tryz.func102,Tryz.ntmps102
   go_wp2_with (first|(go_at_call 107;refine (sTwo _ _ _ _).mono ?_;rintro e w' ⟨rfl,rfl⟩)|(go_at_call 101;refine (sOne _ _).mono ?_;rintro e w' ⟨rfl,rfl⟩))
   go_ret
   exact ⟨ret_int HV.out.symm,rfl⟩
  ·have HV:Hid (vLess m a b=0):=by show vLess m a b=0;simp only [vLess,h,hl];rfl
   go_enter Tryz.func102,Tryz.ntmps102
   go_wp2_with (first|(go_at_call 107;refine (sTwo _ _ _ _).mono ?_;rintro e w' ⟨rfl,rfl⟩)|(go_at_call 101;refine (sOne _ _).mono ?_;rintro e w' ⟨rfl,rfl⟩))
   go_ret
   exact ⟨ret_int HV.out.symm,rfl⟩
theorem sLessSigned (m a b:Int) (w:World) :
 Calls Tryz.prog 103 #[.int .i64 m,.int .i64 a,.int .i64 b] w fun e w'=>e=.returned (.int .i64 (vLessSigned m a b))/\w'=w:=by
 cases h:(wok m a&&wok m b)
 ·have HV:Hid (vLessSigned m a b=0):=by show vLessSigned m a b=0;simp only [vLessSigned,h];rfl
  go_enter Tryz.func103,Tryz.ntmps103
  go_wp2_with (first|(go_at_call 107;refine (sTwo _ _ _ _).mono ?_;rintro e w' ⟨rfl,rfl⟩)|(go_at_call 101;refine (sOne _ _).mono ?_;rintro e w' ⟨rfl,rfl⟩))
  go_ret
  exact ⟨ret_int HV.out.symm,rfl⟩
 ·obtain ⟨h1,h2,h3,h4,h5,h6,h7⟩:=two_iff h
  by_cases hl:vSigned m a < vSigned m b
  ·have HV:Hid (vLessSigned m a b=1):=by show vLessSigned m a b=1;simp only [vLessSigned,h,hl];rfl
   skip
   go_enter Tryz.func103,Tryz.ntmps103
   go_wp2_with (first|(go_at_call 107;refine (sTwo _ _ _ _).mono ?_;rintro e w' ⟨rfl,rfl⟩)|(go_at_call 101;refine (sOne _ _).mono ?_;rintro e w' ⟨rfl,rfl⟩)|(go_at_call 108;refine (sSigned _ _ _).mono ?_;rintro e w' ⟨rfl,rfl⟩))
   go_ret
   exact ⟨ret_int HV.out.symm,rfl⟩
  ·have HV:Hid (vLessSigned m a b=0):=by show vLessSigned m a b=0;simp only [vLessSigned,h,hl];rfl
   skip
   go_enter Tryz.func103,Tryz.ntmps103
   go_wp2_with (first|(go_at_call 107;refine (sTwo _ _ _ _).mono ?_;rintro e w' ⟨rfl,rfl⟩)|(go_at_call 101;refine (sOne _ _).mono ?_;rintro e w' ⟨rfl,rfl⟩)|(go_at_call 108;refine (sSigned _ _ _).mono ?_;rintro e w' ⟨rfl,rfl⟩))
   go_ret
   exact ⟨ret_int HV.out.symm,rfl⟩
theorem wrap_sub {m n:Int} (h1:1<=m) (h2:m<=8) (hn:0<=n) (hw:(Lit.int .i64 n).wf=true):wrap64 (m - n)=m - n:=by
 have:n<=9223372036854775807:=by
  simp [Lit.wf,IntKind.min,IntKind.max,IntKind.signed,IntKind.bits] at hw;omega
 unfold wrap64;omega
theorem iSlice (m a l n:Int) (w:World) (hwn:(Lit.int .i64 n).wf=true) :
 Calls Tryz.prog 136 #[.int .i64 m,.int .i64 a,.int .i64 l,.int .i64 n] w fun e w'=>e=.returned (.int .i64 (vSlice m a l n))/\w'=w:=by
 cases h:wok m a
 ·clear hwn
  have HV:Hid (vSlice m a l n=0):=by show vSlice m a l n=0;simp [vSlice,h]
  go_enter Tryz.func136,Tryz.ntmps136
  go_wp2_with (go_at_call 83;refine (iWordOk _ _ _).mono ?_;rintro e w' ⟨rfl,rfl⟩)
  go_ret
  exact ⟨ret_int HV.out.symm,rfl⟩
 ·obtain ⟨h1,h2,h3,h4,h7⟩:=one_iff h
  by_cases hn:n < 1
  ·clear hwn
   have HV:Hid (vSlice m a l n=0):=by show vSlice m a l n=0;unfold vSlice;rw [if_neg];simp;omega
   go_enter Tryz.func136,Tryz.ntmps136
   go_wp2_with (go_at_call 83;refine (iWordOk _ _ _).mono ?_;rintro e w' ⟨rfl,rfl⟩)
   go_ret
   exact ⟨ret_int HV.out.symm,rfl⟩
  ·have hw:=wrap_sub h1 h2 (show 0<=n by omega) hwn
   clear hwn
   by_cases hl:l < 0
   ·have HV:Hid (vSlice m a l n=0):=by show vSlice m a l n=0;unfold vSlice;rw [if_neg];simp;omega
    go_enter Tryz.func136,Tryz.ntmps136
    go_wp2_with (go_at_call 83;refine (iWordOk _ _ _).mono ?_;rintro e w' ⟨rfl,rfl⟩)
    go_ret
    exact ⟨ret_int HV.out.symm,rfl⟩
   ·by_cases hs:m - n < l
    ·have HV:Hid (vSlice m a l n=0):=by show vSlice m a l n=0;unfold vSlice;rw [if_neg];simp;omega
     go_enter Tryz.func136,Tryz.ntmps136
     go_wp2_with (go_at_call 83;refine (iWordOk _ _ _).mono ?_;rintro e w' ⟨rfl,rfl⟩)
     go_ret
     exact ⟨ret_int HV.out.symm,rfl⟩
    ·have HV:Hid (vSlice m a l n=a / p2 l.toNat % p2 n.toNat):=by
      show vSlice m a l n=_
      unfold vSlice;rw [if_pos];simp [h];omega
     clear hw
     obtain ⟨hd1,hd2⟩:=div_bd h3 (show 0<=p2 l.toNat by have:=p2_pos l.toNat;omega)
     have hm:=emod_le (a:=a / p2 l.toNat) n.toNat
     have hk:=p2_le n.toNat (by omega)
     go_enter Tryz.func136,Tryz.ntmps136
     go_wp2_with (first|(go_at_call 83;refine (iWordOk _ _ _).mono ?_;rintro e w' ⟨rfl,rfl⟩)|(go_at_call 146;refine (down a _ _ h3 (by omega) (by omega) (by omega)).mono ?_;rintro e w' ⟨rfl,rfl⟩)|(go_at_call 148;refine (cut _ n _ (by omega) (by omega) (by omega) (by omega)).mono ?_;rintro e w' ⟨rfl,rfl⟩))
     go_ret
     exact ⟨ret_int HV.out.symm,rfl⟩
theorem sSlice (m a l n:Int) (w:World) (hwl:(Lit.int .i64 l).wf=true) :
 Calls Tryz.prog 104 #[.int .i64 m,.int .i64 a,.int .i64 l,.int .i64 n] w fun e w'=>e=.returned (.int .i64 (vSlice m a l n))/\∃ k,w'=w.drewN k:=by
 cases h:wok m a
 ·clear hwl
  have HV:Hid (vSlice m a l n=0):=by show vSlice m a l n=0;simp [vSlice,h]
  go_enter Tryz.func104,Tryz.ntmps104
  go_wp2_with (go_at_call 79;refine (sWordOk _ _ _).mono ?_;rintro e w' ⟨rfl,rfl⟩)
  go_ret
  exact ⟨ret_int HV.out.symm,0,rfl⟩
 ·obtain ⟨h1,h2,h3,h4,h7⟩:=one_iff h
  by_cases hl:l < 0
  ·clear hwl
   have HV:Hid (vSlice m a l n=0):=by show vSlice m a l n=0;unfold vSlice;rw [if_neg];simp;omega
   go_enter Tryz.func104,Tryz.ntmps104
   go_wp2_with (go_at_call 79;refine (sWordOk _ _ _).mono ?_;rintro e w' ⟨rfl,rfl⟩)
   go_ret
   exact ⟨ret_int HV.out.symm,0,rfl⟩
  ·have hw:=wrap_sub h1 h2 (show 0<=l by omega) hwl
   clear hwl
   by_cases hs:1<=n/\n<=m - l
   ·have hd:decide (1<=n/\n<=m - l)=true:=by simpa using hs
    have HV:Hid (vSlice m a l n=a / p2 l.toNat % p2 n.toNat):=by
     show vSlice m a l n=_
     unfold vSlice;rw [if_pos];simp [h];omega
    obtain ⟨hs1,hs2⟩:=hs
    clear hw
    have hq:=p2_pos l.toNat
    have hr:=p2_pos n.toNat
    obtain ⟨hd1,hd2⟩:=div_bd h3 (show 0<=p2 l.toNat by omega)
    go_enter Tryz.func104,Tryz.ntmps104
    go_wp2_with (first|(go_at_call 79;refine (sWordOk _ _ _).mono ?_;rintro e w' ⟨rfl,rfl⟩)|(go_at_call 75;refine (sIn _ _ _ _).mono ?_;rintro e w' ⟨rfl,rfl⟩)|(go_at_call 78;refine (spow _ _ (by omega) (by omega)).mono ?_;rintro e w' ⟨rfl,rfl⟩))
    go_quiet ((go_at_call 78;exact Calls.quiet_of_same (spow _ _ (by omega) (by omega))))
    go_wp2
    go_ret
    exact ⟨ret_int HV.out.symm,_,rfl⟩
   ·have hd:decide (1<=n/\n<=m - l)=false:=by simpa using hs
    have HV:Hid (vSlice m a l n=0):=by show vSlice m a l n=0;unfold vSlice;rw [if_neg];simp;omega
    go_enter Tryz.func104,Tryz.ntmps104
    go_wp2_with (first|(go_at_call 79;refine (sWordOk _ _ _).mono ?_;rintro e w' ⟨rfl,rfl⟩)|(go_at_call 75;refine (sIn _ _ _ _).mono ?_;rintro e w' ⟨rfl,rfl⟩))
    go_ret
    exact ⟨ret_int HV.out.symm,0,rfl⟩
end Wd5
namespace Kp0
open Go.RowKit
open Nd0
theorem below_drewN {B:Nat} {u w:World} (h:Below B u w) (n:Nat):Below B u (w.drewN n):=⟨h.os,h.tape,h.output,h.size,h.block⟩
end Kp0
end Go.Proofs.YtebejleeadofcaaGreat
