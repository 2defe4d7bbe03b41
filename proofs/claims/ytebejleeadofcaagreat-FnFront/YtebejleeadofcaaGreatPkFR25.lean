import Derived.Test.YtebejleeadofcaaGreatPkFR24
import Derived.Test.YtebejleeadofcaaGreatPkFR18
import Derived.Test.YtebejleeadofcaaGreatPkFR3
import Derived.Test.YtebejleeadofcaaGreatSp2
import Derived.Test.YtebejleeadofcaaGreatPkFR9
import Derived.Test.YtebejleeadofcaaGreatPkFR13
namespace Go.Proofs.YtebejleeadofcaaGreat
set_option maxRecDepth 100000
set_option maxHeartbeats 8000000
set_option linter.unusedVariables false
namespace Wd3
open Go.RowKit
open Pl1 Wd1 Wd2
theorem div_bd {a b:Int} (ha:0<=a) (hb:0<=b):0<=a / b/\a / b<=a:=⟨Int.ediv_nonneg ha hb,Int.ediv_le_self _ ha⟩
theorem rem_bd {a b:Int} (ha:0<=a) (hb:0<=b) (hz:¬ b=0):0<=a % b/\a % b < b:=⟨Int.emod_nonneg _ hz,Int.emod_lt_of_pos _ (by omega)⟩
theorem iDiv (m a b:Int) (w:World) :
 Calls Tryz.prog 122 #[.int .i64 m,.int .i64 a,.int .i64 b] w fun e w'=>e=.returned (.int .i64 (vDiv m a b))/\w'=w:=by
 cases h:(wok m a&&wok m b)
 ·have HV:Hid (vDiv m a b=0):=by show vDiv m a b=0;simp [vDiv,h]
  go_enter Tryz.func122,Tryz.ntmps122
  go_wp2_with (go_at_call 139;refine (iTwo _ _ _ _).mono ?_;rintro e w' ⟨rfl,rfl⟩)
  go_ret
  exact ⟨ret_int HV.out.symm,rfl⟩
 ·obtain ⟨h1,h2,h3,h4,h5,h6,h7⟩:=two_iff h
  by_cases hz:b=0
  ·subst hz
   have HV:Hid (vDiv m a 0=p2 m.toNat - 1):=by show vDiv m a 0=_;unfold vDiv;rw [h];rfl
   have hp:=p2_pos m.toNat
   go_enter Tryz.func122,Tryz.ntmps122
   go_wp2_with (first|(go_at_call 139;refine (iTwo _ _ _ _).mono ?_;rintro e w' ⟨rfl,rfl⟩)|(go_at_call 143;refine (over a _ m _ h3 (by omega) h5 (by omega) h1 h2).mono ?_;rintro e w' ⟨rfl,rfl⟩))
   all_goals
    go_ret
    exact ⟨ret_int HV.out.symm,rfl⟩
  ·have HV:Hid (vDiv m a b=a / b):=by show vDiv m a b=_;simp [vDiv,h,hz]
   have hp:=p2_pos m.toNat
   have hz':(b==0)=false:=by simpa using hz
   obtain ⟨hd1,hd2⟩:=div_bd h3 h5
   go_enter Tryz.func122,Tryz.ntmps122
   go_wp2_with (first|(go_at_call 139;refine (iTwo _ _ _ _).mono ?_;rintro e w' ⟨rfl,rfl⟩)|(go_at_call 143;refine (over a _ m _ h3 (by omega) h5 (by omega) h1 h2).mono ?_;rintro e w' ⟨rfl,rfl⟩))
   all_goals
    go_ret
    exact ⟨ret_int HV.out.symm,rfl⟩
theorem iRem (m a b:Int) (w:World) :
 Calls Tryz.prog 124 #[.int .i64 m,.int .i64 a,.int .i64 b] w fun e w'=>e=.returned (.int .i64 (vRem m a b))/\w'=w:=by
 cases h:(wok m a&&wok m b)
 ·have HV:Hid (vRem m a b=0):=by show vRem m a b=0;simp [vRem,h]
  go_enter Tryz.func124,Tryz.ntmps124
  go_wp2_with (go_at_call 139;refine (iTwo _ _ _ _).mono ?_;rintro e w' ⟨rfl,rfl⟩)
  go_ret
  exact ⟨ret_int HV.out.symm,rfl⟩
 ·obtain ⟨h1,h2,h3,h4,h5,h6,h7⟩:=two_iff h
  by_cases hz:b=0
  ·subst hz
   have HV:Hid (vRem m a 0=a):=by show vRem m a 0=_;unfold vRem;rw [h];rfl
   have hp:=p2_pos m.toNat
   go_enter Tryz.func124,Tryz.ntmps124
   go_wp2_with (first|(go_at_call 139;refine (iTwo _ _ _ _).mono ?_;rintro e w' ⟨rfl,rfl⟩)|(go_at_call 144;refine (rest a _ _ h3 (by omega) h5 (by omega)).mono ?_;rintro e w' ⟨rfl,rfl⟩))
   all_goals
    go_ret
    exact ⟨ret_int HV.out.symm,rfl⟩
  ·have HV:Hid (vRem m a b=a % b):=by show vRem m a b=_;simp [vRem,h,hz]
   have hp:=p2_pos m.toNat
   have hz':(b==0)=false:=by simpa using hz
   obtain ⟨hd1,hd2⟩:=rem_bd h3 h5 hz
   go_enter Tryz.func124,Tryz.ntmps124
   go_wp2_with (first|(go_at_call 139;refine (iTwo _ _ _ _).mono ?_;rintro e w' ⟨rfl,rfl⟩)|(go_at_call 144;refine (rest a _ _ h3 (by omega) h5 (by omega)).mono ?_;rintro e w' ⟨rfl,rfl⟩))
   all_goals
    go_ret
    exact ⟨ret_int HV.out.symm,rfl⟩
theorem sDiv (m a b:Int) (w:World) :
 Calls Tryz.prog 97 #[.int .i64 m,.int .i64 a,.int .i64 b] w fun e w'=>e=.returned (.int .i64 (vDiv m a b))/\w'=w:=by
 cases h:(wok m a&&wok m b)
 ·have HV:Hid (vDiv m a b=0):=by show vDiv m a b=0;simp [vDiv,h]
  go_enter Tryz.func97,Tryz.ntmps97
  go_wp2_with (go_at_call 107;refine (sTwo _ _ _ _).mono ?_;rintro e w' ⟨rfl,rfl⟩)
  go_ret
  exact ⟨ret_int HV.out.symm,rfl⟩
 ·obtain ⟨h1,h2,h3,h4,h5,h6,h7⟩:=two_iff h
  by_cases hz:b=0
  ·subst hz
   have HV:Hid (vDiv m a 0=p2 m.toNat - 1):=by show vDiv m a 0=_;unfold vDiv;rw [h];rfl
   have hp:=p2_pos m.toNat
   go_enter Tryz.func97,Tryz.ntmps97
   go_wp2_with (first|(go_at_call 107;refine (sTwo _ _ _ _).mono ?_;rintro e w' ⟨rfl,rfl⟩)|(go_at_call 78;refine (spow _ _ (by omega) (by omega)).mono ?_;rintro e w' ⟨rfl,rfl⟩))
   all_goals
    go_ret
    exact ⟨ret_int HV.out.symm,rfl⟩
  ·have HV:Hid (vDiv m a b=a / b):=by show vDiv m a b=_;simp [vDiv,h,hz]
   have hp:=p2_pos m.toNat
   have hz':(b==0)=false:=by simpa using hz
   obtain ⟨hd1,hd2⟩:=div_bd h3 h5
   go_enter Tryz.func97,Tryz.ntmps97
   go_wp2_with (first|(go_at_call 107;refine (sTwo _ _ _ _).mono ?_;rintro e w' ⟨rfl,rfl⟩)|(go_at_call 78;refine (spow _ _ (by omega) (by omega)).mono ?_;rintro e w' ⟨rfl,rfl⟩))
   all_goals
    go_ret
    exact ⟨ret_int HV.out.symm,rfl⟩
theorem sRem (m a b:Int) (w:World) :
 Calls Tryz.prog 98 #[.int .i64 m,.int .i64 a,.int .i64 b] w fun e w'=>e=.returned (.int .i64 (vRem m a b))/\w'=w:=by
 cases h:(wok m a&&wok m b)
 ·have HV:Hid (vRem m a b=0):=by show vRem m a b=0;simp [vRem,h]
  go_enter Tryz.func98,Tryz.ntmps98
  go_wp2_with (go_at_call 107;refine (sTwo _ _ _ _).mono ?_;rintro e w' ⟨rfl,rfl⟩)
  go_ret
  exact ⟨ret_int HV.out.symm,rfl⟩
 ·obtain ⟨h1,h2,h3,h4,h5,h6,h7⟩:=two_iff h
  by_cases hz:b=0
  ·subst hz
   have HV:Hid (vRem m a 0=a):=by show vRem m a 0=_;unfold vRem;rw [h];rfl
   have hp:=p2_pos m.toNat
   go_enter Tryz.func98,Tryz.ntmps98
   go_wp2_with (first|(go_at_call 107;refine (sTwo _ _ _ _).mono ?_;rintro e w' ⟨rfl,rfl⟩)|fail)
   all_goals
    go_ret
    exact ⟨ret_int HV.out.symm,rfl⟩
  ·have HV:Hid (vRem m a b=a % b):=by show vRem m a b=_;simp [vRem,h,hz]
   have hp:=p2_pos m.toNat
   have hz':(b==0)=false:=by simpa using hz
   obtain ⟨hd1,hd2⟩:=rem_bd h3 h5 hz
   go_enter Tryz.func98,Tryz.ntmps98
   go_wp2_with (first|(go_at_call 107;refine (sTwo _ _ _ _).mono ?_;rintro e w' ⟨rfl,rfl⟩)|fail)
   all_goals
    go_ret
    exact ⟨ret_int HV.out.symm,rfl⟩
end Wd3
namespace Wd4
open Go.RowKit
open Pl1 Wd1 Wd2 Wd3
theorem shl_zero (a:Int) {m b:Int} (h1:1<=m) (h:m<=b):a*p2 b.toNat % p2 m.toNat=0:=by
 have e:p2 b.toNat=p2 m.toNat*p2 (b - m).toNat:=by
  unfold p2;rw [<- Int.pow_add,show m.toNat+(b - m).toNat=b.toNat by omega]
 rw [e,<- Int.mul_assoc,Int.mul_comm a,Int.mul_assoc]
 exact Int.mul_emod_right _ _
theorem shr_zero {a m b:Int} (h0:0<=a) (h:m<=b) (ha:a < p2 m.toNat):a / p2 b.toNat=0:=by
 have:=p2_mono (show m.toNat<=b.toNat by omega)
 exact Int.ediv_eq_zero_of_lt h0 (by omega)
theorem iShl (m a b:Int) (w:World) :
 Calls Tryz.prog 126 #[.int .i64 m,.int .i64 a,.int .i64 b] w fun e w'=>e=.returned (.int .i64 (vShl m a b))/\w'=w:=by
 cases h:(wok m a&&wok m b)
 ·have HV:Hid (vShl m a b=0):=by show vShl m a b=0;simp [vShl,h]
  go_enter Tryz.func126,Tryz.ntmps126
  go_wp2_with (go_at_call 139;refine (iTwo _ _ _ _).mono ?_;rintro e w' ⟨rfl,rfl⟩)
  go_ret
  exact ⟨ret_int HV.out.symm,rfl⟩
 ·obtain ⟨h1,h2,h3,h4,h5,h6,h7⟩:=two_iff h
  by_cases hb:b<=7
  ·have HV:Hid (vShl m a b=a*p2 b.toNat % p2 m.toNat):=by
    show vShl m a b=_
    unfold vShl;rw [h,if_pos rfl]
    by_cases hc:m<=b
    ·rw [if_pos hc,shl_zero a h1 hc]
    ·rw [if_neg hc]
   have hm:=emod_le (a:=a*p2 b.toNat) m.toNat
   go_enter Tryz.func126,Tryz.ntmps126
   go_wp2_with (first|(go_at_call 139;refine (iTwo _ _ _ _).mono ?_;rintro e w' ⟨rfl,rfl⟩)|(go_at_call 145;refine (up a _ m _ h3 (by omega) h5 (by omega) h1 h2).mono ?_;rintro e w' ⟨rfl,rfl⟩))
   go_ret
   exact ⟨ret_int HV.out.symm,rfl⟩
  ·have HV:Hid (vShl m a b=0):=by
    show vShl m a b=_
    unfold vShl;rw [h,if_pos rfl,if_pos (by omega)]
   go_enter Tryz.func126,Tryz.ntmps126
   go_wp2_with (first|(go_at_call 139;refine (iTwo _ _ _ _).mono ?_;rintro e w' ⟨rfl,rfl⟩)|(go_at_call 145;refine (upFar a _ m _ h3 (by omega) (by omega) h1 h2).mono ?_;rintro e w' ⟨rfl,rfl⟩))
   go_ret
   exact ⟨ret_int HV.out.symm,rfl⟩
theorem sShl (m a b:Int) (w:World) :
 Calls Tryz.prog 99 #[.int .i64 m,.int .i64 a,.int .i64 b] w fun e w'=>e=.returned (.int .i64 (vShl m a b))/\w'=w:=by
 cases h:(wok m a&&wok m b)
 ·have HV:Hid (vShl m a b=0):=by show vShl m a b=0;simp [vShl,h]
  go_enter Tryz.func99,Tryz.ntmps99
  go_wp2_with (go_at_call 107;refine (sTwo _ _ _ _).mono ?_;rintro e w' ⟨rfl,rfl⟩)
  go_ret
  exact ⟨ret_int HV.out.symm,rfl⟩
 ·obtain ⟨h1,h2,h3,h4,h5,h6,h7⟩:=two_iff h
  have hp:=p2_pos m.toNat
  by_cases hc:m<=b
  ·have HV:Hid (vShl m a b=0):=by
    show vShl m a b=_
    unfold vShl;rw [h,if_pos rfl,if_pos hc]
   go_enter Tryz.func99,Tryz.ntmps99
   go_wp2_with (go_at_call 107;refine (sTwo _ _ _ _).mono ?_;rintro e w' ⟨rfl,rfl⟩)
   go_ret
   exact ⟨ret_int HV.out.symm,rfl⟩
  ·have HV:Hid (vShl m a b=a*p2 b.toNat % p2 m.toNat):=by
    show vShl m a b=_
    unfold vShl;rw [h,if_pos rfl,if_neg hc]
   have hq:=p2_pos b.toNat
   have hr:=p2_mono (show b.toNat<=7 by omega)
   have hr7:p2 7=128:=rfl
   obtain ⟨hb1,hb2⟩:=mul_bd h3 (show a<=255 by omega) (show 0<=p2 b.toNat by omega) (by omega)
   go_enter Tryz.func99,Tryz.ntmps99
   go_wp2_with (first|(go_at_call 107;refine (sTwo _ _ _ _).mono ?_;rintro e w' ⟨rfl,rfl⟩)|(go_at_call 78;refine (spow _ _ (by omega) (by omega)).mono ?_;rintro e w' ⟨rfl,rfl⟩))
   go_ret
   exact ⟨ret_int HV.out.symm,rfl⟩
theorem iShr (m a b:Int) (w:World) :
 Calls Tryz.prog 128 #[.int .i64 m,.int .i64 a,.int .i64 b] w fun e w'=>e=.returned (.int .i64 (vShr m a b))/\w'=w:=by
 cases h:(wok m a&&wok m b)
 ·have HV:Hid (vShr m a b=0):=by show vShr m a b=0;simp [vShr,h]
  go_enter Tryz.func128,Tryz.ntmps128
  go_wp2_with (go_at_call 139;refine (iTwo _ _ _ _).mono ?_;rintro e w' ⟨rfl,rfl⟩)
  go_ret
  exact ⟨ret_int HV.out.symm,rfl⟩
 ·obtain ⟨h1,h2,h3,h4,h5,h6,h7⟩:=two_iff h
  by_cases hb:b<=7
  ·have HV:Hid (vShr m a b=a / p2 b.toNat):=by
    show vShr m a b=_
    unfold vShr;rw [h,if_pos rfl]
    by_cases hc:m<=b
    ·rw [if_pos hc,shr_zero h3 hc h4]
    ·rw [if_neg hc]
   obtain ⟨hd1,hd2⟩:=div_bd h3 (show 0<=p2 b.toNat by have:=p2_pos b.toNat;omega)
   go_enter Tryz.func128,Tryz.ntmps128
   go_wp2_with (first|(go_at_call 139;refine (iTwo _ _ _ _).mono ?_;rintro e w' ⟨rfl,rfl⟩)|(go_at_call 146;refine (down a _ _ h3 (by omega) h5 (by omega)).mono ?_;rintro e w' ⟨rfl,rfl⟩))
   go_ret
   exact ⟨ret_int HV.out.symm,rfl⟩
  ·have HV:Hid (vShr m a b=0):=by
    show vShr m a b=_
    unfold vShr;rw [h,if_pos rfl,if_pos (by omega)]
   go_enter Tryz.func128,Tryz.ntmps128
   go_wp2_with (first|(go_at_call 139;refine (iTwo _ _ _ _).mono ?_;rintro e w' ⟨rfl,rfl⟩)|(go_at_call 146;refine (downFar a _ _ h3 (by omega) (by omega)).mono ?_;rintro e w' ⟨rfl,rfl⟩))
   go_ret
   exact ⟨ret_int HV.out.symm,rfl⟩
theorem sShr (m a b:Int) (w:World) :
 Calls Tryz.prog 100 #[.int .i64 m,.int .i64 a,.int .i64 b] w fun e w'=>e=.returned (.int .i64 (vShr m a b))/\w'=w:=by
 cases h:(wok m a&&wok m b)
 ·have HV:Hid (vShr m a b=0):=by show vShr m a b=0;simp [vShr,h]
  go_enter Tryz.func100,Tryz.ntmps100
  go_wp2_with (go_at_call 107;refine (sTwo _ _ _ _).mono ?_;rintro e w' ⟨rfl,rfl⟩)
  go_ret
  exact ⟨ret_int HV.out.symm,rfl⟩
 ·obtain ⟨h1,h2,h3,h4,h5,h6,h7⟩:=two_iff h
  have hp:=p2_pos m.toNat
  by_cases hc:m<=b
  ·have HV:Hid (vShr m a b=0):=by
    show vShr m a b=_
    unfold vShr;rw [h,if_pos rfl,if_pos hc]
   go_enter Tryz.func100,Tryz.ntmps100
   go_wp2_with (go_at_call 107;refine (sTwo _ _ _ _).mono ?_;rintro e w' ⟨rfl,rfl⟩)
   go_ret
   exact ⟨ret_int HV.out.symm,rfl⟩
  ·have HV:Hid (vShr m a b=a / p2 b.toNat):=by
    show vShr m a b=_
    unfold vShr;rw [h,if_pos rfl,if_neg hc]
   have hq:=p2_pos b.toNat
   obtain ⟨hd1,hd2⟩:=div_bd h3 (show 0<=p2 b.toNat by omega)
   go_enter Tryz.func100,Tryz.ntmps100
   go_wp2_with (first|(go_at_call 107;refine (sTwo _ _ _ _).mono ?_;rintro e w' ⟨rfl,rfl⟩)|(go_at_call 78;refine (spow _ _ (by omega) (by omega)).mono ?_;rintro e w' ⟨rfl,rfl⟩))
   go_ret
   exact ⟨ret_int HV.out.symm,rfl⟩
theorem iFlip (m a:Int) (w:World) :
 Calls Tryz.prog 111 #[.int .i64 m,.int .i64 a] w fun e w'=>e=.returned (.int .i64 (vFlip m a))/\w'=w:=by
 cases h:wok m a
 ·have HV:Hid (vFlip m a=0):=by show vFlip m a=0;simp [vFlip,h]
  go_enter Tryz.func111,Tryz.ntmps111
  go_wp2_with (go_at_call 83;refine (iWordOk _ _ _).mono ?_;rintro e w' ⟨rfl,rfl⟩)
  go_ret
  exact ⟨ret_int HV.out.symm,rfl⟩
 ·obtain ⟨h1,h2,h3,h4,h7⟩:=one_iff h
  have HV:Hid (vFlip m a=p2 m.toNat - 1 - a):=by show vFlip m a=_;simp [vFlip,h]
  go_enter Tryz.func111,Tryz.ntmps111
  go_wp2_with (first|(go_at_call 83;refine (iWordOk _ _ _).mono ?_;rintro e w' ⟨rfl,rfl⟩)|(go_at_call 138;refine (flip a m _ h3 h4 h1 h2).mono ?_;rintro e w' ⟨rfl,rfl⟩))
  go_ret
  exact ⟨ret_int HV.out.symm,rfl⟩
theorem sFlip (m a:Int) (w:World) :
 Calls Tryz.prog 93 #[.int .i64 m,.int .i64 a] w fun e w'=>e=.returned (.int .i64 (vFlip m a))/\w'=w:=by
 cases h:wok m a
 ·have HV:Hid (vFlip m a=0):=by show vFlip m a=0;simp [vFlip,h]
  go_enter Tryz.func93,Tryz.ntmps93
  go_wp2_with (go_at_call 79;refine (sWordOk _ _ _).mono ?_;rintro e w' ⟨rfl,rfl⟩)
  go_ret
  exact ⟨ret_int HV.out.symm,rfl⟩
 ·obtain ⟨h1,h2,h3,h4,h7⟩:=one_iff h
  have HV:Hid (vFlip m a=p2 m.toNat - 1 - a):=by show vFlip m a=_;simp [vFlip,h]
  go_enter Tryz.func93,Tryz.ntmps93
  go_wp2_with (first|(go_at_call 79;refine (sWordOk _ _ _).mono ?_;rintro e w' ⟨rfl,rfl⟩)|(go_at_call 78;refine (spow _ _ (by omega) (by omega)).mono ?_;rintro e w' ⟨rfl,rfl⟩))
  go_ret
  exact ⟨ret_int HV.out.symm,rfl⟩
theorem sSigned (m a:Int) (w:World) :
 Calls Tryz.prog 108 #[.int .i64 m,.int .i64 a] w fun e w'=>e=.returned (.int .i64 (vSigned m a))/\w'=w:=by
 cases h:wok m a
 ·have HV:Hid (vSigned m a=0):=by show vSigned m a=0;simp [vSigned,h]
  go_enter Tryz.func108,Tryz.ntmps108
  go_wp2_with (go_at_call 79;refine (sWordOk _ _ _).mono ?_;rintro e w' ⟨rfl,rfl⟩)
  go_ret
  exact ⟨ret_int HV.out.symm,rfl⟩
 ·obtain ⟨h1,h2,h3,h4,h7⟩:=one_iff h
  have hq:=p2_pos m.toNat
  by_cases hs:p2 (m - 1).toNat<=a
  ·have HV:Hid (vSigned m a=a - p2 m.toNat):=by show vSigned m a=_;simp only [vSigned,h,if_pos];exact sgn_pos hs
   have hs2:p2 (m.toNat - 1)<=a:=by rw [show m.toNat - 1=(m - 1).toNat by omega];exact hs
   have hr:=p2_pos (m - 1).toNat
   go_enter Tryz.func108,Tryz.ntmps108
   go_wp2_with (first|(go_at_call 79;refine (sWordOk _ _ _).mono ?_;rintro e w' ⟨rfl,rfl⟩)|(go_at_call 78;refine (spow _ _ (by omega) (by omega)).mono ?_;rintro e w' ⟨rfl,rfl⟩))
   go_ret
   exact ⟨ret_int HV.out.symm,rfl⟩
  ·have HV:Hid (vSigned m a=a):=by show vSigned m a=_;simp only [vSigned,h,if_pos];exact sgn_neg hs
   have hs2:¬ p2 (m.toNat - 1)<=a:=by rw [show m.toNat - 1=(m - 1).toNat by omega];exact hs
   have hr:=p2_pos (m - 1).toNat
   go_enter Tryz.func108,Tryz.ntmps108
   go_wp2_with (first|(go_at_call 79;refine (sWordOk _ _ _).mono ?_;rintro e w' ⟨rfl,rfl⟩)|(go_at_call 78;refine (spow _ _ (by omega) (by omega)).mono ?_;rintro e w' ⟨rfl,rfl⟩))
   go_ret
   exact ⟨ret_int HV.out.symm,rfl⟩
theorem iOne (b:Bool) (w:World) :
 Calls Tryz.prog 37 #[.bool b] w fun e w'=>e=.returned (.int .i64 (if b then 1 else 0))/\w'=w:=by
 cases b
 all_goals
  go_enter Tryz.func37,Tryz.ntmps37
  go_wp2
  go_ret
  exact ⟨rfl,rfl⟩
theorem sOne (b:Bool) (w:World) :
 Calls Tryz.prog 101 #[.bool b] w fun e w'=>e=.returned (.int .i64 (if b then 1 else 0))/\w'=w:=by
 cases b
 all_goals
  go_enter Tryz.func101,Tryz.ntmps101
  go_wp2
  go_ret
  exact ⟨rfl,rfl⟩
end Wd4
namespace Fm1
open Go.RowKit
open Nd0 Qa0 Fr0 Ap1
open Ws1 (ret_int ret_bool)
open Wd4 (iOne)
open Pg1 (iWidthOk)
open Sp2 (sIn)
theorem quAt {w:World} {a:Option Addr} {q:List Qu} (h:Qus w a q) {k:Nat} (hk:k < q.length):∃ b o,a=some ⟨b,o,none⟩/\∀ j,j < q.length->QuAt w b (o+j*3) (qth q j):=by
 rcases h.2 with h0|⟨b,o,ha,hc⟩
 ·omega
 ·exact ⟨b,o,ha,fun j hj=>by rw [<- qth_get hj];exact hc j hj⟩
theorem below_drewN {B:Nat} {u w:World} (h:Below B u w) (n:Nat):Below B u (w.drewN n):=⟨h.os,h.tape,h.output,h.size,h.block⟩
theorem sSwaps (w:World) (a:Option Addr) (q:List Qu) (c:Nat) (hN:Qus w a q) (hl:q.length<=1048576) :
 Calls Tryz.prog 17 #[.slice a q.length c] w fun e w'=>e=.returned (.int .i64 (swapsL q:Int))/\Below w.heap.size w w':=by
 have HN:Hid (Qus w a q):=hN
 clear hN
 go_enter Tryz.func17,Tryz.ntmps17
 go_wp2
 go_loopw [3,4] (fun n i wr=>∃ k:Nat,1<=k/\(k<=q.length\/k=1)/\i=.int .i64 k/\n=.int .i64 (swTo q k:Int)/\Below w.heap.size w wr) (fun _ i _=>q.length - (intOf i).toNat)
 case atStart=>exact ⟨1,Nat.le_refl _,.inr rfl,rfl,by rw [sw_one];rfl,Below.refl _ _⟩
 case round =>
  obtain ⟨k,hk1,hk2,rfl,rfl,hb⟩:=hrel
  have HB:Hid (Below w.heap.size w wr):=hb
  clear hb
  by_cases hlt:k < q.length
  ·have hlz:(k:Int) < (q.length:Int):=by omega
   obtain ⟨b,o,rfl,hc⟩:=quAt (HN.out.below HB.out) hlt
   have p0:=(hc k hlt).c0
   have p1:=(hc (k - 1) (by omega)).c0
   have e1:IntKind.i64.wrap ((k:Int) - 1)=(k:Int) - 1:=by rw [IntKind.wrap_i64]<;>omega
   have e2:((k:Int) - 1).toNat=k - 1:=by omega
   have HS:Hid (swTo q (k+1)=swTo q k+(if (qth q k).all != (qth q (k - 1)).all then 1 else 0)):=sw_next q hk1
   have hsb:=swTo_le q k
   clear hc
   generalize swTo q k=s at HS hsb ⊢
   generalize (qth q k).all=x at p0 HS
   generalize (qth q (k - 1)).all=y at p1 HS
   have h0k:(1:Int)<=(k:Int):=by omega
   cases x<;>cases y
   all_goals
    go_wp2_with fail
    go_quiet (fail)
    go_wp2
    go_roundw
    case rel=>exact ⟨k+1,by omega,.inl (by omega),by go_num,by rw [HS.out];go_num,below_drewN HB.out _⟩
    case measure=>simp [intOf];omega
  ·have HE:Hid (swTo q k=swapsL q):=by
    show _=_
    unfold swapsL
    rcases hk2 with h|h
    ·rw [show k=q.length by omega]
    ·subst h
     have:q.length=0\/q.length=1:=by omega
     rcases this with h|h<;>rw [h]<;>rfl
   go_wp2
   go_ret
   exact ⟨ret_int (by rw [HE.out]),HB.out⟩
theorem iSwaps (w:World) (a:Option Addr) (q:List Qu) (c:Nat) (hN:Qus w a q) (hl:q.length<=1048576) :
 Calls Tryz.prog 16 #[.slice a q.length c] w fun e w'=>e=.returned (.int .i64 (swapsL q:Int))/\Below w.heap.size w w':=by
 have HN:Hid (Qus w a q):=hN
 clear hN
 go_enter Tryz.func16,Tryz.ntmps16
 go_wp2
 go_loopw [3,4] (fun n i wr=>∃ k:Nat,1<=k/\(k<=q.length\/k=1)/\i=.int .i64 k/\n=.int .i64 (swTo q k:Int)/\Below w.heap.size w wr) (fun _ i _=>q.length - (intOf i).toNat)
 case atStart=>exact ⟨1,Nat.le_refl _,.inr rfl,rfl,by rw [sw_one];rfl,Below.refl _ _⟩
 case round =>
  obtain ⟨k,hk1,hk2,rfl,rfl,hb⟩:=hrel
  have HB:Hid (Below w.heap.size w wr):=hb
  clear hb
  by_cases hlt:k < q.length
  ·have hlz:(k:Int) < (q.length:Int):=by omega
   obtain ⟨b,o,rfl,hc⟩:=quAt (HN.out.below HB.out) hlt
   have p0:=(hc k hlt).c0
   have p1:=(hc (k - 1) (by omega)).c0
   have e1:IntKind.i64.wrap ((k:Int) - 1)=(k:Int) - 1:=by rw [IntKind.wrap_i64]<;>omega
   have e2:((k:Int) - 1).toNat=k - 1:=by omega
   have HS:Hid (swTo q (k+1)=swTo q k+(if (qth q k).all != (qth q (k - 1)).all then 1 else 0)):=sw_next q hk1
   have hsb:=swTo_le q k
   clear hc
   generalize swTo q k=s at HS hsb ⊢
   generalize (qth q k).all=x at p0 HS
   generalize (qth q (k - 1)).all=y at p1 HS
   have h0k:(1:Int)<=(k:Int):=by omega
   cases x<;>cases y
   all_goals
    go_wp2_with fail
    go_quiet ((go_at_call 37;exact Calls.quiet_of_same (iOne _ _)))
    go_wp2
    go_roundw
    case rel=>exact ⟨k+1,by omega,.inl (by omega),by go_num,by rw [HS.out];go_num,below_drewN HB.out _⟩
    case measure=>simp [intOf];omega
  ·have HE:Hid (swTo q k=swapsL q):=by
    show _=_
    unfold swapsL
    rcases hk2 with h|h
    ·rw [show k=q.length by omega]
    ·subst h
     have:q.length=0\/q.length=1:=by omega
     rcases this with h|h<;>rw [h]<;>rfl
   go_wp2
   go_ret
   exact ⟨ret_int (by rw [HE.out]),HB.out⟩
theorem iRowOf (w:World) (a:Option Addr) (q:List Qu) (c:Nat) (hN:Qus w a q) (hl:q.length<=1048576) :
 Calls Tryz.prog 30 #[.slice a q.length c] w fun e w'=>(∃ a' c',e=.returned (.tuple #[.slice a' (rowsL q).length c',.bool (fewB q)])/\WBools w' w.heap.size a' (rowsL q))/\Below w.heap.size w w':=by
 have HN:Hid (Qus w a q):=hN
 clear hN
 have HAL:Hid (Below w.heap.size w (w.alloc (.cells #[] 4))):=(Below.refl _ _).alloc (Nat.le_refl _) _
 have HO0:Hid (Owb (w.alloc (.cells #[] 4)) w.heap.size (.slice (some ⟨w.heap.size,0,none⟩) 0 0) []):=Owb.lit w _ (Nat.le_refl _)
 have HNO:Hid (fewB q=false->∀ (g:Nat) (W:World),Below w.heap.size w W->(∃ a' c',Ending.returned (.tuple #[.slice (some ⟨g,0,none⟩) 0 0,.bool false])=.returned (.tuple #[.slice a' (rowsL q).length c',.bool (fewB q)])/\WBools (W.alloc (.cells #[] 4)) w.heap.size a' (rowsL q))/\Below w.heap.size w (W.alloc (.cells #[] 4))):=fun hf g W hW=>by
  have e1:rowsL q=[]:=by unfold rowsL;rw [hf];rfl
  rw [e1,hf]
  exact ⟨⟨_,_,rfl,Nat.zero_le _,.inl rfl⟩,hW.alloc hW.size _⟩
 go_enter Tryz.func30,Tryz.ntmps30
 go_wp2
 go_loopw [4,10] (fun v i wr=>∃ k m:Nat,k<=q.length/\i=.int .i64 k/\bqTo q k=some m/\m<=12/\Owb wr w.heap.size v (rowTo q k)/\Below w.heap.size w wr) (fun _ i _=>q.length - (intOf i).toNat)
 case atStart=>exact ⟨0,0,Nat.zero_le _,rfl,rfl,Nat.zero_le _,HO0.out,HAL.out⟩
 case round =>
  obtain ⟨k,m,hk,rfl,hm,hm12,ho,hb⟩:=hrel
  have HO:Hid (Owb wr w.heap.size u4 (rowTo q k)):=ho
  have HB:Hid (Below w.heap.size w wr):=hb
  have HM:Hid (bqTo q k=some m):=hm
  have hrl:=rowTo_length m hm
  have hbs0:w.heap.size<=wr.heap.size:=hb.size
  obtain ⟨av,cv,hv,_⟩:=ho.form
  rw [hrl] at hv
  subst hv
  clear ho hm
  by_cases hlt:k < q.length
  ·have hlz:(k:Int) < (q.length:Int):=by omega
   obtain ⟨b,o,rfl,hc⟩:=quAt (HN.out.below hb) hlt
   obtain ⟨p0,p1,p2⟩:=hc k hlt
   clear hc hb
   have HR1:Hid (rowTo q (k+1)=rowTo q k++List.replicate (qth q k).bits.toNat (qth q k).all):=rfl
   have HRP:Hid (∀ j,rowTo q k++List.replicate (j+1) (qth q k).all=(rowTo q k++List.replicate j (qth q k).all)++[(qth q k).all]):=rowTo_part q k
   have HBAD:Hid (¬ (1<=(qth q k).bits/\(qth q k).bits<=8)->fewB q=false):=fun h=>few_bad (k:=k+1) (by omega) (bq_bad h)
   have HSUC:Hid (1<=(qth q k).bits/\(qth q k).bits<=8->bqTo q (k+1)=some (m+(qth q k).bits.toNat)):=fun h=>bq_succ HM.out h
   have HMUCH:Hid (1<=(qth q k).bits/\(qth q k).bits<=8->12 < m+(qth q k).bits.toNat->fewB q=false):=fun h h2=>few_much (k:=k+1) (by omega) (bq_succ HM.out h) h2
   generalize rowTo q k=R at HO HR1 HRP hrl
   generalize (qth q k).all=al at HR1 HRP p0
   generalize (qth q k).bits=bt at HR1 HBAD HSUC HMUCH p2
   generalize (qth q k).vr=vr at p1
   have HBX:Hid (Below w.heap.size w (wr.alloc (.cells #[.bool al,.int .i64 vr,.int .i64 bt] 42))):=HB.out.alloc hbs0 _
   by_cases hbt:1<=bt/\bt<=8
   ·have hd:decide (1<=bt/\bt<=8)=true:=decide_eq_true hbt
    obtain ⟨hb1,hb2⟩:=hbt
    by_cases hmu:12 < (m:Int)+bt
    ·have HF:Hid (fewB q=false):=HMUCH.out ⟨hb1,hb2⟩ (by omega)
     go_wp2_with (go_at_call 50;refine (iWidthOk _ _).mono ?_;rintro e w' ⟨rfl,rfl⟩;rw [hd])
     go_ret2
     exact HNO.out HF.out _ _ HBX.out
    ·have HS:Hid (bqTo q (k+1)=some (m+bt.toNat)):=HSUC.out ⟨hb1,hb2⟩
     have hmu2:(m:Int)+bt<=12:=by omega
     have HOX:Hid (Owb (wr.alloc (.cells #[.bool al,.int .i64 vr,.int .i64 bt] 42)) w.heap.size (.slice av m cv) R):=HO.out.kept (S:=fun _=>False) ((Kept.refl _ _).alloc _) (fun _ _ h=>h)
     have HNE:Hid ((Value.slice av m cv).ownBlock≠some wr.heap.size):=fun h=>by have:=(HO.out.lt _ h).2;omega
     obtain ⟨G,hG⟩:∃ G,G=wr.heap.size:=⟨_,rfl⟩
     have HG:Hid (G=wr.heap.size):=hG
     have HCX:Hid ((wr.alloc (.cells #[.bool al,.int .i64 vr,.int .i64 bt] 42)).cell? ⟨G,0,none⟩=some (.bool al)/\G < (wr.alloc (.cells #[.bool al,.int .i64 vr,.int .i64 bt] 42)).heap.size):=by
      rw [hG]
      exact ⟨by rw [World.cell?_alloc_new];rfl,by simp⟩
     clear hG HBAD HMUCH HSUC
     go_wp2_with (go_at_call 50;refine (iWidthOk _ _).mono ?_;rintro e w' ⟨rfl,rfl⟩;rw [hd])
     rw [<- HG.out]
     go_loopw [4,29] (fun v i wi=>∃ j:Nat,(j:Int)<=bt/\i=.int .i64 j/\Owb wi w.heap.size v (R++List.replicate j al)/\Below w.heap.size w wi/\wi.cell? ⟨G,0,none⟩=some (.bool al)/\G < wi.heap.size/\v.ownBlock≠some G) (fun _ i _=>bt.toNat - (intOf i).toNat)
     case atStart=>exact ⟨0,by omega,rfl,by rw [List.replicate_zero,List.append_nil];exact HOX.out,HBX.out,HCX.out.1,HCX.out.2,by rw [HG.out];exact HNE.out⟩
     case round =>
      obtain ⟨j,hj,rfl,ho,hb,hcx,hgx,hne⟩:=hrel
      have HOI:Hid (Owb wr w.heap.size u4 (R++List.replicate j al)):=ho
      have HBI:Hid (Below w.heap.size w wr):=hb
      have HCI:Hid (wr.cell? ⟨G,0,none⟩=some (.bool al)):=hcx
      have HNI:Hid (u4.ownBlock≠some G):=hne
      have hbs:w.heap.size<=wr.heap.size:=hb.size
      clear ho hb hne
      have HLN:Hid ((R++List.replicate j al).length=m+j):=by
       show _=_
       rw [List.length_append,List.length_replicate,hrl]
      have HRJ:Hid (R++List.replicate (j+1) al=(R++List.replicate j al)++[al]):=HRP.out j
      by_cases hjl:(j:Int) < bt
      ·generalize R++List.replicate j al=L at HOI HLN HRJ
       go_wp2_with (at_builtin;go_must (refine app_bool _ rfl _ _ rfl w.heap.size u4 L al rfl rfl HOI.out hbs (by rw [HLN.out];omega) ?_;intro g5 cp5 w5 ho5 hk5 hg5;have HO5:Hid (Owb w5 w.heap.size (.slice (some ⟨g5,0,none⟩) (L.length+1) cp5) (L++[al])):=ho5;have HB5:Hid (Below w.heap.size w w5):=HBI.out.trans (hk5.below (fun b hb=>(HOI.out.lt b hb).1) hbs);have HC5:Hid (w5.cell? ⟨G,0,none⟩=some (.bool al)):=(hk5.cell (p:=⟨G,0,none⟩) hgx HNI.out).trans HCI.out;have hs5:=hk5.size;have hn5:g5≠G:=(fun h=>by subst h;rcases hg5 with h1|h1;exact HNI.out h1;omega);clear ho5 hk5 hg5))
       go_roundw
       case rel=>exact ⟨j+1,by omega,by go_num,by rw [HRJ.out];exact HO5.out,HB5.out,HC5.out,by omega,fun h=>hn5 (by simpa [Value.ownBlock] using h)⟩
       case measure=>simp [intOf];omega
      ·have HJ:Hid (rowTo q (k+1)=R++List.replicate j al):=by
        show _=_
        rw [HR1.out,show bt.toNat=j by omega]
       go_wp2
       go_roundw
       case rel=>exact ⟨k+1,m+bt.toNat,by omega,by go_num,HS.out,by omega,by rw [HJ.out];exact HOI.out,HBI.out⟩
       case measure=>simp [intOf];omega
   ·have hd:decide (1<=bt/\bt<=8)=false:=decide_eq_false hbt
    have HF:Hid (fewB q=false):=HBAD.out hbt
    clear hbt
    go_wp2_with (go_at_call 50;refine (iWidthOk _ _).mono ?_;rintro e w' ⟨rfl,rfl⟩;rw [hd])
    go_ret2
    exact HNO.out HF.out _ _ HBX.out
  ·have HK:Hid (k=q.length):=by show _=_;omega
   have HF:Hid (fewB q=true):=few_yes (n:=m) (by rw [<- HK.out];exact HM.out) hm12
   have HE:Hid (rowsL q=rowTo q k):=by
    show _=_
    unfold rowsL;rw [HF.out,HK.out];rfl
   have HI:Hid (∃ a' c',Ending.returned (.tuple #[.slice av m cv,.bool true])=.returned (.tuple #[.slice a' (rowsL q).length c',.bool (fewB q)])/\WBools wr w.heap.size a' (rowsL q)):=by
    obtain ⟨av',cv',hv',hw'⟩:=HO.out.form
    rw [HE.out,HF.out]
    exact ⟨av',cv',by rw [hv'],hw'⟩
   clear hb
   go_wp2
   go_ret2
   exact ⟨HI.out,HB.out⟩
theorem iRows (w:World) (a:Option Addr) (q:List Qu) (c:Nat) (hN:Qus w a q) (hl:q.length<=1048576) :
 Calls Tryz.prog 10 #[.slice a q.length c] w fun e w'=>(∃ a' c',e=.returned (.slice a' (rowsL q).length c')/\WBools w' w.heap.size a' (rowsL q))/\Below w.heap.size w w':=by
 have HN:Hid (Qus w a q):=hN
 clear hN
 go_enter Tryz.func10,Tryz.ntmps10
 go_wp2_with fail
 refine (iRowOf _ a q c HN.out hl).mono ?_
 rintro e w1 ⟨⟨a1,c1,rfl,h1⟩,hb1⟩
 have H1:Hid (WBools w1 w.heap.size a1 (rowsL q)):=h1
 have HB1:Hid (Below w.heap.size w w1):=hb1
 clear h1 hb1
 go_wp2
 go_ret
 exact ⟨⟨_,_,rfl,H1.out⟩,HB1.out⟩
end Fm1
namespace Fm2
open Go.RowKit
open Nd0 Qa0 Tm0 Tm1 Tm5 Tm6 Ap0 Ap1 Rw0 Rw1 Fr0
open Fm1 (quAt below_drewN)
open Sp2 (sIn)
open Sp4 (sTermOk)
open Sp5 (sReach)
open Sp10 (sQuant)
open Ws1 (ret_int ret_bool)
end Fm2
end Go.Proofs.YtebejleeadofcaaGreat
