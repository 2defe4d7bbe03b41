import Derived.Test.YthanhcobfehmnaaGreatPkQU218
namespace Go.Proofs.YthanhcobfehmnaaGreat
set_option maxRecDepth 100000
set_option maxHeartbeats 8000000
set_option linter.unusedVariables false
namespace Wd5
open Go.RowKit
open Pl1 Wd1 Wd2 Wd3 Wd4
theorem iLess (m a b:Int) (w:World) :
 Calls Tryz.prog 150 #[.int .i64 m,.int .i64 a,.int .i64 b] w fun e w'=>e=.returned (.int .i64 (vLess m a b))/\w'=w:=by
 cases h:(wok m a&&wok m b)
 ·have HV:Hid (vLess m a b=0):=by show vLess m a b=0;simp only [vLess,h];rfl
  go_enter Tryz.func150,Tryz.ntmps150
  go_wp2_with (first|(go_at_call 160;refine (iTwo _ _ _ _).mono ?_;rintro e w' ⟨rfl,rfl⟩)|(go_at_call 90;refine (iOne _ _).mono ?_;rintro e w' ⟨rfl,rfl⟩))
  go_ret
  exact ⟨ret_int HV.out.symm,rfl⟩
 ·by_cases hl:a < b
  ·have HV:Hid (vLess m a b=1):=by show vLess m a b=1;simp only [vLess,h,hl];rfl
   go_enter Tryz.func150,Tryz.ntmps150
   go_wp2_with (first|(go_at_call 160;refine (iTwo _ _ _ _).mono ?_;rintro e w' ⟨rfl,rfl⟩)|(go_at_call 90;refine (iOne _ _).mono ?_;rintro e w' ⟨rfl,rfl⟩))
   go_ret
   exact ⟨ret_int HV.out.symm,rfl⟩
  ·have HV:Hid (vLess m a b=0):=by show vLess m a b=0;simp only [vLess,h,hl];rfl
   go_enter Tryz.func150,Tryz.ntmps150
   go_wp2_with (first|(go_at_call 160;refine (iTwo _ _ _ _).mono ?_;rintro e w' ⟨rfl,rfl⟩)|(go_at_call 90;refine (iOne _ _).mono ?_;rintro e w' ⟨rfl,rfl⟩))
   go_ret
   exact ⟨ret_int HV.out.symm,rfl⟩
theorem iLessSigned (m a b:Int) (w:World) :
 Calls Tryz.prog 152 #[.int .i64 m,.int .i64 a,.int .i64 b] w fun e w'=>e=.returned (.int .i64 (vLessSigned m a b))/\w'=w:=by
 cases h:(wok m a&&wok m b)
 ·have HV:Hid (vLessSigned m a b=0):=by show vLessSigned m a b=0;simp only [vLessSigned,h];rfl
  go_enter Tryz.func152,Tryz.ntmps152
  go_wp2_with (first|(go_at_call 160;refine (iTwo _ _ _ _).mono ?_;rintro e w' ⟨rfl,rfl⟩)|(go_at_call 90;refine (iOne _ _).mono ?_;rintro e w' ⟨rfl,rfl⟩))
  go_ret
  exact ⟨ret_int HV.out.symm,rfl⟩
 ·obtain ⟨h1,h2,h3,h4,h5,h6,h7⟩:=two_iff h
  have ea:vSigned m a=sgn m a:=by rw [Bool.and_eq_true] at h;simp [vSigned,h.1]
  have eb:vSigned m b=sgn m b:=by rw [Bool.and_eq_true] at h;simp [vSigned,h.2]
  by_cases hl:sgn m a < sgn m b
  ·have HV:Hid (vLessSigned m a b=1):=by show vLessSigned m a b=1;simp only [vLessSigned,ea,eb,h,hl];rfl
   clear ea eb
   go_enter Tryz.func152,Tryz.ntmps152
   go_wp2_with (first|(go_at_call 160;refine (iTwo _ _ _ _).mono ?_;rintro e w' ⟨rfl,rfl⟩)|(go_at_call 90;refine (iOne _ _).mono ?_;rintro e w' ⟨rfl,rfl⟩)|(go_at_call 168;refine (signed _ m _ (by omega) (by omega) h1 h2).mono ?_;rintro e w' ⟨rfl,rfl⟩))
   go_ret
   exact ⟨ret_int HV.out.symm,rfl⟩
  ·have HV:Hid (vLessSigned m a b=0):=by show vLessSigned m a b=0;simp only [vLessSigned,ea,eb,h,hl];rfl
   clear ea eb
   go_enter Tryz.func152,Tryz.ntmps152
   go_wp2_with (first|(go_at_call 160;refine (iTwo _ _ _ _).mono ?_;rintro e w' ⟨rfl,rfl⟩)|(go_at_call 90;refine (iOne _ _).mono ?_;rintro e w' ⟨rfl,rfl⟩)|(go_at_call 168;refine (signed _ m _ (by omega) (by omega) h1 h2).mono ?_;rintro e w' ⟨rfl,rfl⟩))
   go_ret
   exact ⟨ret_int HV.out.symm,rfl⟩
theorem sLess (m a b:Int) (w:World) :
 Calls Tryz.prog 60 #[.int .i64 m,.int .i64 a,.int .i64 b] w fun e w'=>e=.returned (.int .i64 (vLess m a b))/\w'=w:=by
 cases h:(wok m a&&wok m b)
 ·have HV:Hid (vLess m a b=0):=by show vLess m a b=0;simp only [vLess,h];rfl
  go_enter Tryz.func60,Tryz.ntmps60
  go_wp2_with (first|(go_at_call 95;refine (sTwo _ _ _ _).mono ?_;rintro e w' ⟨rfl,rfl⟩)|(go_at_call 59;refine (sOne _ _).mono ?_;rintro e w' ⟨rfl,rfl⟩))
  go_ret
  exact ⟨ret_int HV.out.symm,rfl⟩
 ·by_cases hl:a < b
  ·have HV:Hid (vLess m a b=1):=by show vLess m a b=1;simp only [vLess,h,hl];rfl
   go_enter Tryz.func60,Tryz.ntmps60
   go_wp2_with (first|(go_at_call 95;refine (sTwo _ _ _ _).mono ?_;rintro e w' ⟨rfl,rfl⟩)|(go_at_call 59;refine (sOne _ _).mono ?_;rintro e w' ⟨rfl,rfl⟩))
   go_ret
   exact ⟨ret_int HV.out.symm,rfl⟩
  ·have HV:Hid (vLess m a b=0):=by show vLess m a b=0;simp only [vLess,h,hl];rfl
   go_enter Tryz.func60,Tryz.ntmps60
   go_wp2_with (first|(go_at_call 95;refine (sTwo _ _ _ _).mono ?_;rintro e w' ⟨rfl,rfl⟩)|(go_at_call 59;refine (sOne _ _).mono ?_;rintro e w' ⟨rfl,rfl⟩))
   go_ret
   exact ⟨ret_int HV.out.symm,rfl⟩
theorem sLessSigned (m a b:Int) (w:World) :
 Calls Tryz.prog 61 #[.int .i64 m,.int .i64 a,.int .i64 b] w fun e w'=>e=.returned (.int .i64 (vLessSigned m a b))/\w'=w:=by
 cases h:(wok m a&&wok m b)
 ·have HV:Hid (vLessSigned m a b=0):=by show vLessSigned m a b=0;simp only [vLessSigned,h];rfl
  go_enter Tryz.func61,Tryz.ntmps61
  go_wp2_with (first|(go_at_call 95;refine (sTwo _ _ _ _).mono ?_;rintro e w' ⟨rfl,rfl⟩)|(go_at_call 59;refine (sOne _ _).mono ?_;rintro e w' ⟨rfl,rfl⟩))
  go_ret
  exact ⟨ret_int HV.out.symm,rfl⟩
 ·obtain ⟨h1,h2,h3,h4,h5,h6,h7⟩:=two_iff h
  by_cases hl:vSigned m a < vSigned m b
  ·have HV:Hid (vLessSigned m a b=1):=by show vLessSigned m a b=1;simp only [vLessSigned,h,hl];rfl
   skip
   go_enter Tryz.func61,Tryz.ntmps61
   go_wp2_with (first|(go_at_call 95;refine (sTwo _ _ _ _).mono ?_;rintro e w' ⟨rfl,rfl⟩)|(go_at_call 59;refine (sOne _ _).mono ?_;rintro e w' ⟨rfl,rfl⟩)|(go_at_call 96;refine (sSigned _ _ _).mono ?_;rintro e w' ⟨rfl,rfl⟩))
   go_ret
   exact ⟨ret_int HV.out.symm,rfl⟩
  ·have HV:Hid (vLessSigned m a b=0):=by show vLessSigned m a b=0;simp only [vLessSigned,h,hl];rfl
   skip
   go_enter Tryz.func61,Tryz.ntmps61
   go_wp2_with (first|(go_at_call 95;refine (sTwo _ _ _ _).mono ?_;rintro e w' ⟨rfl,rfl⟩)|(go_at_call 59;refine (sOne _ _).mono ?_;rintro e w' ⟨rfl,rfl⟩)|(go_at_call 96;refine (sSigned _ _ _).mono ?_;rintro e w' ⟨rfl,rfl⟩))
   go_ret
   exact ⟨ret_int HV.out.symm,rfl⟩
theorem wrap_sub {m n:Int} (h1:1<=m) (h2:m<=8) (hn:0<=n) (hw:(Lit.int .i64 n).wf=true):wrap64 (m - n)=m - n:=by
 have:n<=9223372036854775807:=by
  simp [Lit.wf,IntKind.min,IntKind.max,IntKind.signed,IntKind.bits] at hw;omega
 unfold wrap64;omega
theorem iSlice (m a l n:Int) (w:World) (hwn:(Lit.int .i64 n).wf=true) :
 Calls Tryz.prog 155 #[.int .i64 m,.int .i64 a,.int .i64 l,.int .i64 n] w fun e w'=>e=.returned (.int .i64 (vSlice m a l n))/\w'=w:=by
 cases h:wok m a
 ·clear hwn
  have HV:Hid (vSlice m a l n=0):=by show vSlice m a l n=0;simp [vSlice,h]
  go_enter Tryz.func155,Tryz.ntmps155
  go_wp2_with (go_at_call 89;refine (iWordOk _ _ _).mono ?_;rintro e w' ⟨rfl,rfl⟩)
  go_ret
  exact ⟨ret_int HV.out.symm,rfl⟩
 ·obtain ⟨h1,h2,h3,h4,h7⟩:=one_iff h
  by_cases hn:n < 1
  ·clear hwn
   have HV:Hid (vSlice m a l n=0):=by show vSlice m a l n=0;unfold vSlice;rw [if_neg];simp;omega
   go_enter Tryz.func155,Tryz.ntmps155
   go_wp2_with (go_at_call 89;refine (iWordOk _ _ _).mono ?_;rintro e w' ⟨rfl,rfl⟩)
   go_ret
   exact ⟨ret_int HV.out.symm,rfl⟩
  ·have hw:=wrap_sub h1 h2 (show 0<=n by omega) hwn
   clear hwn
   by_cases hl:l < 0
   ·have HV:Hid (vSlice m a l n=0):=by show vSlice m a l n=0;unfold vSlice;rw [if_neg];simp;omega
    go_enter Tryz.func155,Tryz.ntmps155
    go_wp2_with (go_at_call 89;refine (iWordOk _ _ _).mono ?_;rintro e w' ⟨rfl,rfl⟩)
    go_ret
    exact ⟨ret_int HV.out.symm,rfl⟩
   ·by_cases hs:m - n < l
    ·have HV:Hid (vSlice m a l n=0):=by show vSlice m a l n=0;unfold vSlice;rw [if_neg];simp;omega
     go_enter Tryz.func155,Tryz.ntmps155
     go_wp2_with (go_at_call 89;refine (iWordOk _ _ _).mono ?_;rintro e w' ⟨rfl,rfl⟩)
     go_ret
     exact ⟨ret_int HV.out.symm,rfl⟩
    ·have HV:Hid (vSlice m a l n=a / p2 l.toNat % p2 n.toNat):=by
      show vSlice m a l n=_
      unfold vSlice;rw [if_pos];simp [h];omega
     clear hw
     obtain ⟨hd1,hd2⟩:=div_bd h3 (show 0<=p2 l.toNat by have:=p2_pos l.toNat;omega)
     have hm:=emod_le (a:=a / p2 l.toNat) n.toNat
     have hk:=p2_le n.toNat (by omega)
     go_enter Tryz.func155,Tryz.ntmps155
     go_wp2_with (first|(go_at_call 89;refine (iWordOk _ _ _).mono ?_;rintro e w' ⟨rfl,rfl⟩)|(go_at_call 167;refine (down a _ _ h3 (by omega) (by omega) (by omega)).mono ?_;rintro e w' ⟨rfl,rfl⟩)|(go_at_call 169;refine (cut _ n _ (by omega) (by omega) (by omega) (by omega)).mono ?_;rintro e w' ⟨rfl,rfl⟩))
     go_ret
     exact ⟨ret_int HV.out.symm,rfl⟩
theorem sSlice (m a l n:Int) (w:World) (hwl:(Lit.int .i64 l).wf=true) :
 Calls Tryz.prog 63 #[.int .i64 m,.int .i64 a,.int .i64 l,.int .i64 n] w fun e w'=>e=.returned (.int .i64 (vSlice m a l n))/\∃ k,w'=w.drewN k:=by
 cases h:wok m a
 ·clear hwl
  have HV:Hid (vSlice m a l n=0):=by show vSlice m a l n=0;simp [vSlice,h]
  go_enter Tryz.func63,Tryz.ntmps63
  go_wp2_with (go_at_call 50;refine (sWordOk _ _ _).mono ?_;rintro e w' ⟨rfl,rfl⟩)
  go_ret
  exact ⟨ret_int HV.out.symm,0,rfl⟩
 ·obtain ⟨h1,h2,h3,h4,h7⟩:=one_iff h
  by_cases hl:l < 0
  ·clear hwl
   have HV:Hid (vSlice m a l n=0):=by show vSlice m a l n=0;unfold vSlice;rw [if_neg];simp;omega
   go_enter Tryz.func63,Tryz.ntmps63
   go_wp2_with (go_at_call 50;refine (sWordOk _ _ _).mono ?_;rintro e w' ⟨rfl,rfl⟩)
   go_ret
   exact ⟨ret_int HV.out.symm,0,rfl⟩
  ·have hw:=wrap_sub h1 h2 (show 0<=l by omega) hwl
   clear hwl
   by_cases hs:1<=n/\n<=m - l
   ·have hd:decide (1<=n/\n<=m - l)=true:=by simpa using hs
    have HV:Hid (vSlice m a l n=a / p2 l.toNat % p2 n.toNat):=by
     show vSlice m a l n=_
     unfold vSlice;rw [if_pos];simp [h];omega
    obtain ⟨hs1,hs2⟩:=hs
    clear hw
    have hq:=p2_pos l.toNat
    have hr:=p2_pos n.toNat
    obtain ⟨hd1,hd2⟩:=div_bd h3 (show 0<=p2 l.toNat by omega)
    go_enter Tryz.func63,Tryz.ntmps63
    go_wp2_with (first|(go_at_call 50;refine (sWordOk _ _ _).mono ?_;rintro e w' ⟨rfl,rfl⟩)|(go_at_call 41;refine (sIn _ _ _ _).mono ?_;rintro e w' ⟨rfl,rfl⟩)|(go_at_call 62;refine (spow _ _ (by omega) (by omega)).mono ?_;rintro e w' ⟨rfl,rfl⟩))
    go_quiet ((go_at_call 62;exact Calls.quiet_of_same (spow _ _ (by omega) (by omega))))
    go_wp2
    go_ret
    exact ⟨ret_int HV.out.symm,_,rfl⟩
   ·have hd:decide (1<=n/\n<=m - l)=false:=by simpa using hs
    have HV:Hid (vSlice m a l n=0):=by show vSlice m a l n=0;unfold vSlice;rw [if_neg];simp;omega
    go_enter Tryz.func63,Tryz.ntmps63
    go_wp2_with (first|(go_at_call 50;refine (sWordOk _ _ _).mono ?_;rintro e w' ⟨rfl,rfl⟩)|(go_at_call 41;refine (sIn _ _ _ _).mono ?_;rintro e w' ⟨rfl,rfl⟩))
    go_ret
    exact ⟨ret_int HV.out.symm,0,rfl⟩
end Wd5
namespace Kp0
open Go.RowKit
open Nd0
theorem below_drewN {B:Nat} {u w:World} (h:Below B u w) (n:Nat):Below B u (w.drewN n):=⟨h.os,h.tape,h.output,h.size,h.block⟩
end Kp0
namespace Sv1
open Go.RowKit
open Nd0 Pl1 Pl2 Vl1 Vl2 Bt0 Wd1 Wd2 Wd3 Wd4 Wd5
structure Rg (n:Nd) (W a b c:Int):Prop where
 h1:decide (1<=n.w/\n.w<=8)=true
 h2:decide (1<=W/\W<=8)=true
 h3:decide (0<=a/\a<=255)=true
 h4:decide (0<=b/\b<=255)=true
 h5:decide (0<=c/\c<=255)=true
def sApp (n:Nd) (W a b c:Int) (w:World):Prop :=
 Calls Tryz.prog 29 #[.agg #[.int .i64 n.op,.int .i64 n.w,.int .i64 n.k,.int .i64 n.a,.int .i64 n.b,.int .i64 n.c],.int .i64 W,.int .i64 a,.int .i64 b,.int .i64 c] w fun e w'=>e=.returned (.int .i64 (applyL n.op n.w n.k W a b c))/\Below w.heap.size w w'
theorem Rg.eq {n:Nd} {W a b c:Int} (h:Rg n W a b c):applyL n.op n.w n.k W a b c=opL n.op n.w n.k W a b c:=by
 have h1:=of_decide_eq_true h.h1
 have h2:=of_decide_eq_true h.h2
 have h3:=of_decide_eq_true h.h3
 have h4:=of_decide_eq_true h.h4
 have h5:=of_decide_eq_true h.h5
 exact app_in h1 h2 h3 h4 h5
theorem below1 (w:World) (o:Obj):Below w.heap.size w (w.alloc o):=(Below.refl _ _).alloc (Nat.le_refl _) _
theorem a0 {n:Nd} {W a b c:Int} (w:World) (hk:(Lit.int .i64 n.k).wf=true) (h:Rg n W a b c) (hop:n.op=0):sApp n W a b c w:=by
 have HV:Hid (applyL n.op n.w n.k W a b c=n.k):=by
  show _=_
  rw [h.eq,hop];simp [opL]
 obtain ⟨h1,h2,h3,h4,h5⟩:=h
 have r1:=of_decide_eq_true h1
 have r2:=of_decide_eq_true h2
 have r3:=of_decide_eq_true h3
 have r4:=of_decide_eq_true h4
 have r5:=of_decide_eq_true h5
 unfold sApp
 go_enter Tryz.func29,Tryz.ntmps29
 go_wp2_with (first|(go_at_call 41;refine (sIn _ _ _ _).mono ?_;rintro e w' ⟨rfl,rfl⟩))
 go_ret
 exact ⟨ret_int (by rw [HV.out]),below1 _ _⟩
theorem a2 {n:Nd} {W a b c:Int} (w:World) (hk:(Lit.int .i64 n.k).wf=true) (h:Rg n W a b c) (hop:n.op=2):sApp n W a b c w:=by
 have HV:Hid (applyL n.op n.w n.k W a b c=vFlip n.w a):=by
  show _=_
  rw [h.eq,hop];simp [opL]
 obtain ⟨h1,h2,h3,h4,h5⟩:=h
 have r1:=of_decide_eq_true h1
 have r2:=of_decide_eq_true h2
 have r3:=of_decide_eq_true h3
 have r4:=of_decide_eq_true h4
 have r5:=of_decide_eq_true h5
 unfold sApp
 go_enter Tryz.func29,Tryz.ntmps29
 go_wp2_with (first|(go_at_call 41;refine (sIn _ _ _ _).mono ?_;rintro e w' ⟨rfl,rfl⟩)|(go_at_call 51;refine (sFlip _ _ _).mono ?_;rintro e w' ⟨rfl,rfl⟩))
 go_ret
 exact ⟨ret_int (by rw [HV.out]),below1 _ _⟩
theorem a3 {n:Nd} {W a b c:Int} (w:World) (hk:(Lit.int .i64 n.k).wf=true) (h:Rg n W a b c) (hop:n.op=3):sApp n W a b c w:=by
 have HV:Hid (applyL n.op n.w n.k W a b c=nAnd a b):=by
  show _=_
  rw [h.eq,hop];simp [opL]
 obtain ⟨h1,h2,h3,h4,h5⟩:=h
 have r1:=of_decide_eq_true h1
 have r2:=of_decide_eq_true h2
 have r3:=of_decide_eq_true h3
 have r4:=of_decide_eq_true h4
 have r5:=of_decide_eq_true h5
 unfold sApp
 have HB:Hid (bits .and .i64 a b=nAnd a b):=band r3 r4
 go_enter Tryz.func29,Tryz.ntmps29
 go_wp2_with (first|(go_at_call 41;refine (sIn _ _ _ _).mono ?_;rintro e w' ⟨rfl,rfl⟩))
 go_ret
 exact ⟨ret_int (by rw [HV.out];first|exact HB.out|exact HB.out.symm),below1 _ _⟩
theorem a4 {n:Nd} {W a b c:Int} (w:World) (hk:(Lit.int .i64 n.k).wf=true) (h:Rg n W a b c) (hop:n.op=4):sApp n W a b c w:=by
 have HV:Hid (applyL n.op n.w n.k W a b c=nOr a b):=by
  show _=_
  rw [h.eq,hop];simp [opL]
 obtain ⟨h1,h2,h3,h4,h5⟩:=h
 have r1:=of_decide_eq_true h1
 have r2:=of_decide_eq_true h2
 have r3:=of_decide_eq_true h3
 have r4:=of_decide_eq_true h4
 have r5:=of_decide_eq_true h5
 unfold sApp
 have HB:Hid (bits .or .i64 a b=nOr a b):=bor r3 r4
 go_enter Tryz.func29,Tryz.ntmps29
 go_wp2_with (first|(go_at_call 41;refine (sIn _ _ _ _).mono ?_;rintro e w' ⟨rfl,rfl⟩))
 go_ret
 exact ⟨ret_int (by rw [HV.out];first|exact HB.out|exact HB.out.symm),below1 _ _⟩
theorem a5 {n:Nd} {W a b c:Int} (w:World) (hk:(Lit.int .i64 n.k).wf=true) (h:Rg n W a b c) (hop:n.op=5):sApp n W a b c w:=by
 have HV:Hid (applyL n.op n.w n.k W a b c=nXor a b):=by
  show _=_
  rw [h.eq,hop];simp [opL]
 obtain ⟨h1,h2,h3,h4,h5⟩:=h
 have r1:=of_decide_eq_true h1
 have r2:=of_decide_eq_true h2
 have r3:=of_decide_eq_true h3
 have r4:=of_decide_eq_true h4
 have r5:=of_decide_eq_true h5
 unfold sApp
 have HB:Hid (bits .xor .i64 a b=nXor a b):=bxor r3 r4
 go_enter Tryz.func29,Tryz.ntmps29
 go_wp2_with (first|(go_at_call 41;refine (sIn _ _ _ _).mono ?_;rintro e w' ⟨rfl,rfl⟩))
 go_ret
 exact ⟨ret_int (by rw [HV.out];first|exact HB.out|exact HB.out.symm),below1 _ _⟩
theorem a6 {n:Nd} {W a b c:Int} (w:World) (hk:(Lit.int .i64 n.k).wf=true) (h:Rg n W a b c) (hop:n.op=6):sApp n W a b c w:=by
 have HV:Hid (applyL n.op n.w n.k W a b c=vAdd n.w a b):=by
  show _=_
  rw [h.eq,hop];simp [opL]
 obtain ⟨h1,h2,h3,h4,h5⟩:=h
 have r1:=of_decide_eq_true h1
 have r2:=of_decide_eq_true h2
 have r3:=of_decide_eq_true h3
 have r4:=of_decide_eq_true h4
 have r5:=of_decide_eq_true h5
 unfold sApp
 go_enter Tryz.func29,Tryz.ntmps29
 go_wp2_with (first|(go_at_call 41;refine (sIn _ _ _ _).mono ?_;rintro e w' ⟨rfl,rfl⟩)|(go_at_call 52;refine (sAdd _ _ _ _).mono ?_;rintro e w' ⟨rfl,rfl⟩))
 go_ret
 exact ⟨ret_int (by rw [HV.out]),below1 _ _⟩
theorem a7 {n:Nd} {W a b c:Int} (w:World) (hk:(Lit.int .i64 n.k).wf=true) (h:Rg n W a b c) (hop:n.op=7):sApp n W a b c w:=by
 have HV:Hid (applyL n.op n.w n.k W a b c=vSub n.w a b):=by
  show _=_
  rw [h.eq,hop];simp [opL]
 obtain ⟨h1,h2,h3,h4,h5⟩:=h
 have r1:=of_decide_eq_true h1
 have r2:=of_decide_eq_true h2
 have r3:=of_decide_eq_true h3
 have r4:=of_decide_eq_true h4
 have r5:=of_decide_eq_true h5
 unfold sApp
 go_enter Tryz.func29,Tryz.ntmps29
 go_wp2_with (first|(go_at_call 41;refine (sIn _ _ _ _).mono ?_;rintro e w' ⟨rfl,rfl⟩)|(go_at_call 53;refine (sSub _ _ _ _).mono ?_;rintro e w' ⟨rfl,rfl⟩))
 go_ret
 exact ⟨ret_int (by rw [HV.out]),below1 _ _⟩
theorem a8 {n:Nd} {W a b c:Int} (w:World) (hk:(Lit.int .i64 n.k).wf=true) (h:Rg n W a b c) (hop:n.op=8):sApp n W a b c w:=by
 have HV:Hid (applyL n.op n.w n.k W a b c=vMul n.w a b):=by
  show _=_
  rw [h.eq,hop];simp [opL]
 obtain ⟨h1,h2,h3,h4,h5⟩:=h
 have r1:=of_decide_eq_true h1
 have r2:=of_decide_eq_true h2
 have r3:=of_decide_eq_true h3
 have r4:=of_decide_eq_true h4
 have r5:=of_decide_eq_true h5
 unfold sApp
 go_enter Tryz.func29,Tryz.ntmps29
 go_wp2_with (first|(go_at_call 41;refine (sIn _ _ _ _).mono ?_;rintro e w' ⟨rfl,rfl⟩)|(go_at_call 54;refine (sMul _ _ _ _).mono ?_;rintro e w' ⟨rfl,rfl⟩))
 go_ret
 exact ⟨ret_int (by rw [HV.out]),below1 _ _⟩
theorem a9 {n:Nd} {W a b c:Int} (w:World) (hk:(Lit.int .i64 n.k).wf=true) (h:Rg n W a b c) (hop:n.op=9):sApp n W a b c w:=by
 have HV:Hid (applyL n.op n.w n.k W a b c=vDiv n.w a b):=by
  show _=_
  rw [h.eq,hop];simp [opL]
 obtain ⟨h1,h2,h3,h4,h5⟩:=h
 have r1:=of_decide_eq_true h1
 have r2:=of_decide_eq_true h2
 have r3:=of_decide_eq_true h3
 have r4:=of_decide_eq_true h4
 have r5:=of_decide_eq_true h5
 unfold sApp
 go_enter Tryz.func29,Tryz.ntmps29
 go_wp2_with (first|(go_at_call 41;refine (sIn _ _ _ _).mono ?_;rintro e w' ⟨rfl,rfl⟩)|(go_at_call 55;refine (sDiv _ _ _ _).mono ?_;rintro e w' ⟨rfl,rfl⟩))
 go_ret
 exact ⟨ret_int (by rw [HV.out]),below1 _ _⟩
theorem a10 {n:Nd} {W a b c:Int} (w:World) (hk:(Lit.int .i64 n.k).wf=true) (h:Rg n W a b c) (hop:n.op=10):sApp n W a b c w:=by
 have HV:Hid (applyL n.op n.w n.k W a b c=vRem n.w a b):=by
  show _=_
  rw [h.eq,hop];simp [opL]
 obtain ⟨h1,h2,h3,h4,h5⟩:=h
 have r1:=of_decide_eq_true h1
 have r2:=of_decide_eq_true h2
 have r3:=of_decide_eq_true h3
 have r4:=of_decide_eq_true h4
 have r5:=of_decide_eq_true h5
 unfold sApp
 go_enter Tryz.func29,Tryz.ntmps29
 go_wp2_with (first|(go_at_call 41;refine (sIn _ _ _ _).mono ?_;rintro e w' ⟨rfl,rfl⟩)|(go_at_call 56;refine (sRem _ _ _ _).mono ?_;rintro e w' ⟨rfl,rfl⟩))
 go_ret
 exact ⟨ret_int (by rw [HV.out]),below1 _ _⟩
theorem a11 {n:Nd} {W a b c:Int} (w:World) (hk:(Lit.int .i64 n.k).wf=true) (h:Rg n W a b c) (hop:n.op=11):sApp n W a b c w:=by
 have HV:Hid (applyL n.op n.w n.k W a b c=vShl n.w a b):=by
  show _=_
  rw [h.eq,hop];simp [opL]
 obtain ⟨h1,h2,h3,h4,h5⟩:=h
 have r1:=of_decide_eq_true h1
 have r2:=of_decide_eq_true h2
 have r3:=of_decide_eq_true h3
 have r4:=of_decide_eq_true h4
 have r5:=of_decide_eq_true h5
 unfold sApp
 go_enter Tryz.func29,Tryz.ntmps29
 go_wp2_with (first|(go_at_call 41;refine (sIn _ _ _ _).mono ?_;rintro e w' ⟨rfl,rfl⟩)|(go_at_call 57;refine (sShl _ _ _ _).mono ?_;rintro e w' ⟨rfl,rfl⟩))
 go_ret
 exact ⟨ret_int (by rw [HV.out]),below1 _ _⟩
theorem a12 {n:Nd} {W a b c:Int} (w:World) (hk:(Lit.int .i64 n.k).wf=true) (h:Rg n W a b c) (hop:n.op=12):sApp n W a b c w:=by
 have HV:Hid (applyL n.op n.w n.k W a b c=vShr n.w a b):=by
  show _=_
  rw [h.eq,hop];simp [opL]
 obtain ⟨h1,h2,h3,h4,h5⟩:=h
 have r1:=of_decide_eq_true h1
 have r2:=of_decide_eq_true h2
 have r3:=of_decide_eq_true h3
 have r4:=of_decide_eq_true h4
 have r5:=of_decide_eq_true h5
 unfold sApp
 go_enter Tryz.func29,Tryz.ntmps29
 go_wp2_with (first|(go_at_call 41;refine (sIn _ _ _ _).mono ?_;rintro e w' ⟨rfl,rfl⟩)|(go_at_call 58;refine (sShr _ _ _ _).mono ?_;rintro e w' ⟨rfl,rfl⟩))
 go_ret
 exact ⟨ret_int (by rw [HV.out]),below1 _ _⟩
theorem a13 {n:Nd} {W a b c:Int} (w:World) (hk:(Lit.int .i64 n.k).wf=true) (h:Rg n W a b c) (hop:n.op=13):sApp n W a b c w:=by
 have HV:Hid (applyL n.op n.w n.k W a b c=if (a==b) then 1 else 0):=by
  show _=_
  rw [h.eq,hop];simp [opL]
 obtain ⟨h1,h2,h3,h4,h5⟩:=h
 unfold sApp
 cases hab:(a==b)
 all_goals
  go_enter Tryz.func29,Tryz.ntmps29
  go_wp2_with (first|(go_at_call 41;refine (sIn _ _ _ _).mono ?_;rintro e w' ⟨rfl,rfl⟩)|(go_at_call 59;refine (sOne _ _).mono ?_;rintro e w' ⟨rfl,rfl⟩))
  go_ret
  exact ⟨ret_int (by rw [HV.out,hab];rfl),below1 _ _⟩
theorem a14 {n:Nd} {W a b c:Int} (w:World) (hk:(Lit.int .i64 n.k).wf=true) (h:Rg n W a b c) (hop:n.op=14):sApp n W a b c w:=by
 have HV:Hid (applyL n.op n.w n.k W a b c=vLess W a b):=by
  show _=_
  rw [h.eq,hop];simp [opL]
 obtain ⟨h1,h2,h3,h4,h5⟩:=h
 have r1:=of_decide_eq_true h1
 have r2:=of_decide_eq_true h2
 have r3:=of_decide_eq_true h3
 have r4:=of_decide_eq_true h4
 have r5:=of_decide_eq_true h5
 unfold sApp
 go_enter Tryz.func29,Tryz.ntmps29
 go_wp2_with (first|(go_at_call 41;refine (sIn _ _ _ _).mono ?_;rintro e w' ⟨rfl,rfl⟩)|(go_at_call 60;refine (sLess _ _ _ _).mono ?_;rintro e w' ⟨rfl,rfl⟩))
 go_ret
 exact ⟨ret_int (by rw [HV.out]),below1 _ _⟩
theorem a15 {n:Nd} {W a b c:Int} (w:World) (hk:(Lit.int .i64 n.k).wf=true) (h:Rg n W a b c) (hop:n.op=15):sApp n W a b c w:=by
 have HV:Hid (applyL n.op n.w n.k W a b c=vLessSigned W a b):=by
  show _=_
  rw [h.eq,hop];simp [opL]
 obtain ⟨h1,h2,h3,h4,h5⟩:=h
 have r1:=of_decide_eq_true h1
 have r2:=of_decide_eq_true h2
 have r3:=of_decide_eq_true h3
 have r4:=of_decide_eq_true h4
 have r5:=of_decide_eq_true h5
 unfold sApp
 go_enter Tryz.func29,Tryz.ntmps29
 go_wp2_with (first|(go_at_call 41;refine (sIn _ _ _ _).mono ?_;rintro e w' ⟨rfl,rfl⟩)|(go_at_call 61;refine (sLessSigned _ _ _ _).mono ?_;rintro e w' ⟨rfl,rfl⟩))
 go_ret
 exact ⟨ret_int (by rw [HV.out]),below1 _ _⟩
theorem a16 {n:Nd} {W a b c:Int} (w:World) (hk:(Lit.int .i64 n.k).wf=true) (h:Rg n W a b c) (hop:n.op=16):sApp n W a b c w:=by
 have HV:Hid (applyL n.op n.w n.k W a b c=if n.w < W then b else a*p2 (n.w - W).toNat+b):=by
  show _=_
  rw [h.eq,hop];simp [opL]
 obtain ⟨h1,h2,h3,h4,h5⟩:=h
 have r1:=of_decide_eq_true h1
 have r2:=of_decide_eq_true h2
 have r3:=of_decide_eq_true h3
 have r4:=of_decide_eq_true h4
 unfold sApp
 by_cases hlt:n.w < W
 ·have HV2:Hid (applyL n.op n.w n.k W a b c=b):=by
   show _=_
   rw [HV.out,if_pos hlt]
  go_enter Tryz.func29,Tryz.ntmps29
  go_wp2_with (go_at_call 41;refine (sIn _ _ _ _).mono ?_;rintro e w' ⟨rfl,rfl⟩)
  go_ret
  exact ⟨ret_int (by rw [HV2.out]),below1 _ _⟩
 ·have HV2:Hid (applyL n.op n.w n.k W a b c=a*p2 (n.w - W).toNat+b):=by
   show _=_
   rw [HV.out,if_neg hlt]
  have hr:=p2_mono (show (n.w - W).toNat<=7 by omega)
  have hq:=p2_pos (n.w - W).toNat
  have hr7:p2 7=128:=rfl
  obtain ⟨hb1,hb2⟩:=mul_bd r3.1 r3.2 (show 0<=p2 (n.w - W).toNat by omega) (by omega)
  go_enter Tryz.func29,Tryz.ntmps29
  go_wp2_with (first|(go_at_call 41;refine (sIn _ _ _ _).mono ?_;rintro e w' ⟨rfl,rfl⟩)|(go_at_call 62;refine (spow _ _ (by omega) (by omega)).mono ?_;rintro e w' ⟨rfl,rfl⟩))
  go_ret
  exact ⟨ret_int (by rw [HV2.out]),below1 _ _⟩
theorem a17 {n:Nd} {W a b c:Int} (w:World) (hk:(Lit.int .i64 n.k).wf=true) (h:Rg n W a b c) (hop:n.op=17):sApp n W a b c w:=by
 have HV:Hid (applyL n.op n.w n.k W a b c=vSlice W a n.k n.w):=by
  show _=_
  rw [h.eq,hop];simp [opL]
 obtain ⟨h1,h2,h3,h4,h5⟩:=h
 have r1:=of_decide_eq_true h1
 have r2:=of_decide_eq_true h2
 have r3:=of_decide_eq_true h3
 have r4:=of_decide_eq_true h4
 have r5:=of_decide_eq_true h5
 unfold sApp
 go_enter Tryz.func29,Tryz.ntmps29
 go_wp2_with (first|(go_at_call 41;refine (sIn _ _ _ _).mono ?_;rintro e w' ⟨rfl,rfl⟩)|(go_at_call 63;refine (sSlice _ _ _ _ _ hk).mono ?_;rintro e w' ⟨rfl,kk,rfl⟩))
 go_ret
 exact ⟨ret_int (by rw [HV.out]),Kp0.below_drewN (below1 _ _) _⟩
theorem a18 {n:Nd} {W a b c:Int} (w:World) (hk:(Lit.int .i64 n.k).wf=true) (h:Rg n W a b c) (hop:n.op=18):sApp n W a b c w:=by
 have HV:Hid (applyL n.op n.w n.k W a b c=if a=1 then b else c):=by
  show _=_
  rw [h.eq,hop];simp [opL]
 obtain ⟨h1,h2,h3,h4,h5⟩:=h
 unfold sApp
 cases ha:(a==1)
 ·have HV2:Hid (applyL n.op n.w n.k W a b c=c):=by
   show _=_
   rw [HV.out,if_neg (by simpa using ha)]
  go_enter Tryz.func29,Tryz.ntmps29
  go_wp2_with (go_at_call 41;refine (sIn _ _ _ _).mono ?_;rintro e w' ⟨rfl,rfl⟩)
  go_ret
  exact ⟨ret_int (by rw [HV2.out]),below1 _ _⟩
 ·have HV2:Hid (applyL n.op n.w n.k W a b c=b):=by
   show _=_
   rw [HV.out,if_pos (by simpa using ha)]
  go_enter Tryz.func29,Tryz.ntmps29
  go_wp2_with (go_at_call 41;refine (sIn _ _ _ _).mono ?_;rintro e w' ⟨rfl,rfl⟩)
  go_ret
  exact ⟨ret_int (by rw [HV2.out]),below1 _ _⟩
theorem aNo {n:Nd} {W a b c:Int} (w:World) (h:Rg n W a b c) (g0:¬ n.op=0) (g2:¬ n.op=2) (g3:¬ n.op=3) (g4:¬ n.op=4) (g5:¬ n.op=5) (g6:¬ n.op=6) (g7:¬ n.op=7) (g8:¬ n.op=8) (g9:¬ n.op=9) (g10:¬ n.op=10) (g11:¬ n.op=11) (g12:¬ n.op=12) (g13:¬ n.op=13) (g14:¬ n.op=14) (g15:¬ n.op=15) (g16:¬ n.op=16) (g17:¬ n.op=17) (g18:¬ n.op=18):sApp n W a b c w:=by
 have HV:Hid (applyL n.op n.w n.k W a b c=0):=by
  show _=_
  rw [h.eq];unfold opL
  rw [if_neg g0,if_neg g2,if_neg g3,if_neg g4,if_neg g5,if_neg g6,if_neg g7,if_neg g8,if_neg g9,if_neg g10,if_neg g11,if_neg g12,if_neg g13,if_neg g14,if_neg g15,if_neg g16,if_neg g17,if_neg g18]
 obtain ⟨h1,h2,h3,h4,h5⟩:=h
 have t0:(n.op==0)=false:=by simp;omega
 have t2:(n.op==2)=false:=by simp;omega
 have t3:(n.op==3)=false:=by simp;omega
 have t4:(n.op==4)=false:=by simp;omega
 have t5:(n.op==5)=false:=by simp;omega
 have t6:(n.op==6)=false:=by simp;omega
 have t7:(n.op==7)=false:=by simp;omega
 have t8:(n.op==8)=false:=by simp;omega
 have t9:(n.op==9)=false:=by simp;omega
 have t10:(n.op==10)=false:=by simp;omega
 have t11:(n.op==11)=false:=by simp;omega
 have t12:(n.op==12)=false:=by simp;omega
 have t13:(n.op==13)=false:=by simp;omega
 have t14:(n.op==14)=false:=by simp;omega
 have t15:(n.op==15)=false:=by simp;omega
 have t16:(n.op==16)=false:=by simp;omega
 have t17:(n.op==17)=false:=by simp;omega
 have t18:(n.op==18)=false:=by simp;omega
 clear g0 g2 g3 g4 g5 g6 g7 g8 g9 g10 g11 g12 g13 g14 g15 g16 g17 g18
 unfold sApp
 go_enter Tryz.func29,Tryz.ntmps29
 go_wp2_with (go_at_call 41;refine (sIn _ _ _ _).mono ?_;rintro e w' ⟨rfl,rfl⟩)
 go_ret
 exact ⟨ret_int (by rw [HV.out]),below1 _ _⟩
theorem out1 {n:Nd} {W a b c:Int} (w:World) (h1:decide (1<=n.w/\n.w<=8)=false):sApp n W a b c w:=by
 have HV:Hid (applyL n.op n.w n.k W a b c=0):=by
  show _=_
  unfold applyL inR
  rw [h1];simp
 unfold sApp
 go_enter Tryz.func29,Tryz.ntmps29
 go_wp2_with (go_at_call 41;refine (sIn _ _ _ _).mono ?_;rintro e w' ⟨rfl,rfl⟩)
 go_ret
 exact ⟨ret_int (by rw [HV.out]),below1 _ _⟩
theorem out2 {n:Nd} {W a b c:Int} (w:World) (h1:decide (1<=n.w/\n.w<=8)=true) (h2:decide (1<=W/\W<=8)=false):sApp n W a b c w:=by
 have HV:Hid (applyL n.op n.w n.k W a b c=0):=by
  show _=_
  unfold applyL inR
  rw [h2];simp
 unfold sApp
 go_enter Tryz.func29,Tryz.ntmps29
 go_wp2_with (go_at_call 41;refine (sIn _ _ _ _).mono ?_;rintro e w' ⟨rfl,rfl⟩)
 go_ret
 exact ⟨ret_int (by rw [HV.out]),below1 _ _⟩
theorem out3 {n:Nd} {W a b c:Int} (w:World) (h1:decide (1<=n.w/\n.w<=8)=true) (h2:decide (1<=W/\W<=8)=true) (h3:decide (0<=a/\a<=255)=false):sApp n W a b c w:=by
 have HV:Hid (applyL n.op n.w n.k W a b c=0):=by
  show _=_
  unfold applyL inR
  rw [h3];simp
 unfold sApp
 go_enter Tryz.func29,Tryz.ntmps29
 go_wp2_with (go_at_call 41;refine (sIn _ _ _ _).mono ?_;rintro e w' ⟨rfl,rfl⟩)
 go_ret
 exact ⟨ret_int (by rw [HV.out]),below1 _ _⟩
theorem out4 {n:Nd} {W a b c:Int} (w:World) (h1:decide (1<=n.w/\n.w<=8)=true) (h2:decide (1<=W/\W<=8)=true) (h3:decide (0<=a/\a<=255)=true) (h4:decide (0<=b/\b<=255)=false):sApp n W a b c w:=by
 have HV:Hid (applyL n.op n.w n.k W a b c=0):=by
  show _=_
  unfold applyL inR
  rw [h4];simp
 unfold sApp
 go_enter Tryz.func29,Tryz.ntmps29
 go_wp2_with (go_at_call 41;refine (sIn _ _ _ _).mono ?_;rintro e w' ⟨rfl,rfl⟩)
 go_ret
 exact ⟨ret_int (by rw [HV.out]),below1 _ _⟩
theorem out5 {n:Nd} {W a b c:Int} (w:World) (h1:decide (1<=n.w/\n.w<=8)=true) (h2:decide (1<=W/\W<=8)=true) (h3:decide (0<=a/\a<=255)=true) (h4:decide (0<=b/\b<=255)=true) (h5:decide (0<=c/\c<=255)=false):sApp n W a b c w:=by
 have HV:Hid (applyL n.op n.w n.k W a b c=0):=by
  show _=_
  unfold applyL inR
  rw [h5];simp
 unfold sApp
 go_enter Tryz.func29,Tryz.ntmps29
 go_wp2_with (go_at_call 41;refine (sIn _ _ _ _).mono ?_;rintro e w' ⟨rfl,rfl⟩)
 go_ret
 exact ⟨ret_int (by rw [HV.out]),below1 _ _⟩
theorem sApply (n:Nd) (W a b c:Int) (w:World) (hk:(Lit.int .i64 n.k).wf=true):sApp n W a b c w:=by
 cases h1:decide (1<=n.w/\n.w<=8)
 ·exact out1 w h1
 cases h2:decide (1<=W/\W<=8)
 ·exact out2 w h1 h2
 cases h3:decide (0<=a/\a<=255)
 ·exact out3 w h1 h2 h3
 cases h4:decide (0<=b/\b<=255)
 ·exact out4 w h1 h2 h3 h4
 cases h5:decide (0<=c/\c<=255)
 ·exact out5 w h1 h2 h3 h4 h5
 have h:Rg n W a b c:=⟨h1,h2,h3,h4,h5⟩
 by_cases g0:n.op=0
 ·exact a0 w hk h g0
 by_cases g2:n.op=2
 ·exact a2 w hk h g2
 by_cases g3:n.op=3
 ·exact a3 w hk h g3
 by_cases g4:n.op=4
 ·exact a4 w hk h g4
 by_cases g5:n.op=5
 ·exact a5 w hk h g5
 by_cases g6:n.op=6
 ·exact a6 w hk h g6
 by_cases g7:n.op=7
 ·exact a7 w hk h g7
 by_cases g8:n.op=8
 ·exact a8 w hk h g8
 by_cases g9:n.op=9
 ·exact a9 w hk h g9
 by_cases g10:n.op=10
 ·exact a10 w hk h g10
 by_cases g11:n.op=11
 ·exact a11 w hk h g11
 by_cases g12:n.op=12
 ·exact a12 w hk h g12
 by_cases g13:n.op=13
 ·exact a13 w hk h g13
 by_cases g14:n.op=14
 ·exact a14 w hk h g14
 by_cases g15:n.op=15
 ·exact a15 w hk h g15
 by_cases g16:n.op=16
 ·exact a16 w hk h g16
 by_cases g17:n.op=17
 ·exact a17 w hk h g17
 by_cases g18:n.op=18
 ·exact a18 w hk h g18
 exact aNo w h g0 g2 g3 g4 g5 g6 g7 g8 g9 g10 g11 g12 g13 g14 g15 g16 g17 g18
end Sv1
end Go.Proofs.YthanhcobfehmnaaGreat
