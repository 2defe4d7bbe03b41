import Derived.Deep.QuietTactic
import Derived.BigQuiet
import Derived.Test.YtbellafdjfliiaaGreatPkBOM18
import Derived.Test.YtbellafdjfliiaaGreatPkBOM0
namespace Go.Proofs.YtbellafdjfliiaaGreat
set_option maxRecDepth 100000
set_option maxHeartbeats 8000000
set_option linter.unusedVariables false
namespace Wd3
open Go.RowKit
open Pl1 Wd1 Wd2
theorem div_bd {a b:Int} (ha:0<=a) (hb:0<=b):0<=a / b/\a / b<=a:=⟨Int.ediv_nonneg ha hb,Int.ediv_le_self _ ha⟩
theorem rem_bd {a b:Int} (ha:0<=a) (hb:0<=b) (hz:¬ b=0):0<=a % b/\a % b < b:=⟨Int.emod_nonneg _ hz,Int.emod_lt_of_pos _ (by omega)⟩
theorem iDiv (m a b:Int) (w:World) :
 Calls Tryz.prog 128 #[.int .i64 m,.int .i64 a,.int .i64 b] w fun e w'=>e=.returned (.int .i64 (vDiv m a b))/\w'=w:=by
 cases h:(wok m a&&wok m b)
 ·have HV:Hid (vDiv m a b=0):=by show vDiv m a b=0;simp [vDiv,h]
  go_enter Tryz.func128,Tryz.ntmps128
  go_wp2_with (go_at_call 145;refine (iTwo _ _ _ _).mono ?_;rintro e w' ⟨rfl,rfl⟩)
  go_ret
  exact ⟨ret_int HV.out.symm,rfl⟩
 ·obtain ⟨h1,h2,h3,h4,h5,h6,h7⟩:=two_iff h
  by_cases hz:b=0
  ·subst hz
   have HV:Hid (vDiv m a 0=p2 m.toNat - 1):=by show vDiv m a 0=_;unfold vDiv;rw [h];rfl
   have hp:=p2_pos m.toNat
   go_enter Tryz.func128,Tryz.ntmps128
   go_wp2_with (first|(go_at_call 145;refine (iTwo _ _ _ _).mono ?_;rintro e w' ⟨rfl,rfl⟩)|(go_at_call 149;refine (over a _ m _ h3 (by omega) h5 (by omega) h1 h2).mono ?_;rintro e w' ⟨rfl,rfl⟩))
   all_goals
    go_ret
    exact ⟨ret_int HV.out.symm,rfl⟩
  ·have HV:Hid (vDiv m a b=a / b):=by show vDiv m a b=_;simp [vDiv,h,hz]
   have hp:=p2_pos m.toNat
   have hz':(b==0)=false:=by simpa using hz
   obtain ⟨hd1,hd2⟩:=div_bd h3 h5
   go_enter Tryz.func128,Tryz.ntmps128
   go_wp2_with (first|(go_at_call 145;refine (iTwo _ _ _ _).mono ?_;rintro e w' ⟨rfl,rfl⟩)|(go_at_call 149;refine (over a _ m _ h3 (by omega) h5 (by omega) h1 h2).mono ?_;rintro e w' ⟨rfl,rfl⟩))
   all_goals
    go_ret
    exact ⟨ret_int HV.out.symm,rfl⟩
theorem iRem (m a b:Int) (w:World) :
 Calls Tryz.prog 130 #[.int .i64 m,.int .i64 a,.int .i64 b] w fun e w'=>e=.returned (.int .i64 (vRem m a b))/\w'=w:=by
 cases h:(wok m a&&wok m b)
 ·have HV:Hid (vRem m a b=0):=by show vRem m a b=0;simp [vRem,h]
  go_enter Tryz.func130,Tryz.ntmps130
  go_wp2_with (go_at_call 145;refine (iTwo _ _ _ _).mono ?_;rintro e w' ⟨rfl,rfl⟩)
  go_ret
  exact ⟨ret_int HV.out.symm,rfl⟩
 ·obtain ⟨h1,h2,h3,h4,h5,h6,h7⟩:=two_iff h
  by_cases hz:b=0
  ·subst hz
   have HV:Hid (vRem m a 0=a):=by show vRem m a 0=_;unfold vRem;rw [h];rfl
   have hp:=p2_pos m.toNat
   go_enter Tryz.func130,Tryz.ntmps130
   go_wp2_with (first|(go_at_call 145;refine (iTwo _ _ _ _).mono ?_;rintro e w' ⟨rfl,rfl⟩)|(go_at_call 150;refine (rest a _ _ h3 (by omega) h5 (by omega)).mono ?_;rintro e w' ⟨rfl,rfl⟩))
   all_goals
    go_ret
    exact ⟨ret_int HV.out.symm,rfl⟩
  ·have HV:Hid (vRem m a b=a % b):=by show vRem m a b=_;simp [vRem,h,hz]
   have hp:=p2_pos m.toNat
   have hz':(b==0)=false:=by simpa using hz
   obtain ⟨hd1,hd2⟩:=rem_bd h3 h5 hz
   go_enter Tryz.func130,Tryz.ntmps130
   go_wp2_with (first|(go_at_call 145;refine (iTwo _ _ _ _).mono ?_;rintro e w' ⟨rfl,rfl⟩)|(go_at_call 150;refine (rest a _ _ h3 (by omega) h5 (by omega)).mono ?_;rintro e w' ⟨rfl,rfl⟩))
   all_goals
    go_ret
    exact ⟨ret_int HV.out.symm,rfl⟩
theorem sDiv (m a b:Int) (w:World) :
 Calls Tryz.prog 101 #[.int .i64 m,.int .i64 a,.int .i64 b] w fun e w'=>e=.returned (.int .i64 (vDiv m a b))/\w'=w:=by
 cases h:(wok m a&&wok m b)
 ·have HV:Hid (vDiv m a b=0):=by show vDiv m a b=0;simp [vDiv,h]
  go_enter Tryz.func101,Tryz.ntmps101
  go_wp2_with (go_at_call 112;refine (sTwo _ _ _ _).mono ?_;rintro e w' ⟨rfl,rfl⟩)
  go_ret
  exact ⟨ret_int HV.out.symm,rfl⟩
 ·obtain ⟨h1,h2,h3,h4,h5,h6,h7⟩:=two_iff h
  by_cases hz:b=0
  ·subst hz
   have HV:Hid (vDiv m a 0=p2 m.toNat - 1):=by show vDiv m a 0=_;unfold vDiv;rw [h];rfl
   have hp:=p2_pos m.toNat
   go_enter Tryz.func101,Tryz.ntmps101
   go_wp2_with (first|(go_at_call 112;refine (sTwo _ _ _ _).mono ?_;rintro e w' ⟨rfl,rfl⟩)|(go_at_call 79;refine (spow _ _ (by omega) (by omega)).mono ?_;rintro e w' ⟨rfl,rfl⟩))
   all_goals
    go_ret
    exact ⟨ret_int HV.out.symm,rfl⟩
  ·have HV:Hid (vDiv m a b=a / b):=by show vDiv m a b=_;simp [vDiv,h,hz]
   have hp:=p2_pos m.toNat
   have hz':(b==0)=false:=by simpa using hz
   obtain ⟨hd1,hd2⟩:=div_bd h3 h5
   go_enter Tryz.func101,Tryz.ntmps101
   go_wp2_with (first|(go_at_call 112;refine (sTwo _ _ _ _).mono ?_;rintro e w' ⟨rfl,rfl⟩)|(go_at_call 79;refine (spow _ _ (by omega) (by omega)).mono ?_;rintro e w' ⟨rfl,rfl⟩))
   all_goals
    go_ret
    exact ⟨ret_int HV.out.symm,rfl⟩
theorem sRem (m a b:Int) (w:World) :
 Calls Tryz.prog 102 #[.int .i64 m,.int .i64 a,.int .i64 b] w fun e w'=>e=.returned (.int .i64 (vRem m a b))/\w'=w:=by
 cases h:(wok m a&&wok m b)
 ·have HV:Hid (vRem m a b=0):=by show vRem m a b=0;simp [vRem,h]
  go_enter Tryz.func102,Tryz.ntmps102
  go_wp2_with (go_at_call 112;refine (sTwo _ _ _ _).mono ?_;rintro e w' ⟨rfl,rfl⟩)
  go_ret
  exact ⟨ret_int HV.out.symm,rfl⟩
 ·obtain ⟨h1,h2,h3,h4,h5,h6,h7⟩:=two_iff h
  by_cases hz:b=0
  ·subst hz
   have HV:Hid (vRem m a 0=a):=by show vRem m a 0=_;unfold vRem;rw [h];rfl
   have hp:=p2_pos m.toNat
   go_enter Tryz.func102,Tryz.ntmps102
   go_wp2_with (first|(go_at_call 112;refine (sTwo _ _ _ _).mono ?_;rintro e w' ⟨rfl,rfl⟩)|fail)
   all_goals
    go_ret
    exact ⟨ret_int HV.out.symm,rfl⟩
  ·have HV:Hid (vRem m a b=a % b):=by show vRem m a b=_;simp [vRem,h,hz]
   have hp:=p2_pos m.toNat
   have hz':(b==0)=false:=by simpa using hz
   obtain ⟨hd1,hd2⟩:=rem_bd h3 h5 hz
   go_enter Tryz.func102,Tryz.ntmps102
   go_wp2_with (first|(go_at_call 112;refine (sTwo _ _ _ _).mono ?_;rintro e w' ⟨rfl,rfl⟩)|fail)
   all_goals
    go_ret
    exact ⟨ret_int HV.out.symm,rfl⟩
end Wd3
namespace Wd4
open Go.RowKit
open Pl1 Wd1 Wd2 Wd3
theorem shl_zero (a:Int) {m b:Int} (h1:1<=m) (h:m<=b):a*p2 b.toNat % p2 m.toNat=0:=by
 have e:p2 b.toNat=p2 m.toNat*p2 (b - m).toNat:=by
  unfold p2;rw [<- Int.pow_add,show m.toNat+(b - m).toNat=b.toNat by omega]
 rw [e,<- Int.mul_assoc,Int.mul_comm a,Int.mul_assoc]
 exact Int.mul_emod_right _ _
theorem shr_zero {a m b:Int} (h0:0<=a) (h:m<=b) (ha:a < p2 m.toNat):a / p2 b.toNat=0:=by
 have:=p2_mono (show m.toNat<=b.toNat by omega)
 exact Int.ediv_eq_zero_of_lt h0 (by omega)
theorem iShl (m a b:Int) (w:World) :
 Calls Tryz.prog 132 #[.int .i64 m,.int .i64 a,.int .i64 b] w fun e w'=>e=.returned (.int .i64 (vShl m a b))/\w'=w:=by
 cases h:(wok m a&&wok m b)
 ·have HV:Hid (vShl m a b=0):=by show vShl m a b=0;simp [vShl,h]
  go_enter Tryz.func132,Tryz.ntmps132
  go_wp2_with (go_at_call 145;refine (iTwo _ _ _ _).mono ?_;rintro e w' ⟨rfl,rfl⟩)
  go_ret
  exact ⟨ret_int HV.out.symm,rfl⟩
 ·obtain ⟨h1,h2,h3,h4,h5,h6,h7⟩:=two_iff h
  by_cases hb:b<=7
  ·have HV:Hid (vShl m a b=a*p2 b.toNat % p2 m.toNat):=by
    show vShl m a b=_
    unfold vShl;rw [h,if_pos rfl]
    by_cases hc:m<=b
    ·rw [if_pos hc,shl_zero a h1 hc]
    ·rw [if_neg hc]
   have hm:=emod_le (a:=a*p2 b.toNat) m.toNat
   go_enter Tryz.func132,Tryz.ntmps132
   go_wp2_with (first|(go_at_call 145;refine (iTwo _ _ _ _).mono ?_;rintro e w' ⟨rfl,rfl⟩)|(go_at_call 151;refine (up a _ m _ h3 (by omega) h5 (by omega) h1 h2).mono ?_;rintro e w' ⟨rfl,rfl⟩))
   go_ret
   exact ⟨ret_int HV.out.symm,rfl⟩
  ·have HV:Hid (vShl m a b=0):=by
    show vShl m a b=_
    unfold vShl;rw [h,if_pos rfl,if_pos (by omega)]
   go_enter Tryz.func132,Tryz.ntmps132
   go_wp2_with (first|(go_at_call 145;refine (iTwo _ _ _ _).mono ?_;rintro e w' ⟨rfl,rfl⟩)|(go_at_call 151;refine (upFar a _ m _ h3 (by omega) (by omega) h1 h2).mono ?_;rintro e w' ⟨rfl,rfl⟩))
   go_ret
   exact ⟨ret_int HV.out.symm,rfl⟩
theorem sShl (m a b:Int) (w:World) :
 Calls Tryz.prog 103 #[.int .i64 m,.int .i64 a,.int .i64 b] w fun e w'=>e=.returned (.int .i64 (vShl m a b))/\w'=w:=by
 cases h:(wok m a&&wok m b)
 ·have HV:Hid (vShl m a b=0):=by show vShl m a b=0;simp [vShl,h]
  go_enter Tryz.func103,Tryz.ntmps103
  go_wp2_with (go_at_call 112;refine (sTwo _ _ _ _).mono ?_;rintro e w' ⟨rfl,rfl⟩)
  go_ret
  exact ⟨ret_int HV.out.symm,rfl⟩
 ·obtain ⟨h1,h2,h3,h4,h5,h6,h7⟩:=two_iff h
  have hp:=p2_pos m.toNat
  by_cases hc:m<=b
  ·have HV:Hid (vShl m a b=0):=by
    show vShl m a b=_
    unfold vShl;rw [h,if_pos rfl,if_pos hc]
   go_enter Tryz.func103,Tryz.ntmps103
   go_wp2_with (go_at_call 112;refine (sTwo _ _ _ _).mono ?_;rintro e w' ⟨rfl,rfl⟩)
   go_ret
   exact ⟨ret_int HV.out.symm,rfl⟩
  ·have HV:Hid (vShl m a b=a*p2 b.toNat % p2 m.toNat):=by
    show vShl m a b=_
    unfold vShl;rw [h,if_pos rfl,if_neg hc]
   have hq:=p2_pos b.toNat
   have hr:=p2_mono (show b.toNat<=7 by omega)
   have hr7:p2 7=128:=rfl
   obtain ⟨hb1,hb2⟩:=mul_bd h3 (show a<=255 by omega) (show 0<=p2 b.toNat by omega) (by omega)
   go_enter Tryz.func103,Tryz.ntmps103
   go_wp2_with (first|(go_at_call 112;refine (sTwo _ _ _ _).mono ?_;rintro e w' ⟨rfl,rfl⟩)|(go_at_call 79;refine (spow _ _ (by omega) (by omega)).mono ?_;rintro e w' ⟨rfl,rfl⟩))
   go_ret
   exact ⟨ret_int HV.out.symm,rfl⟩
theorem iShr (m a b:Int) (w:World) :
 Calls Tryz.prog 134 #[.int .i64 m,.int .i64 a,.int .i64 b] w fun e w'=>e=.returned (.int .i64 (vShr m a b))/\w'=w:=by
 cases h:(wok m a&&wok m b)
 ·have HV:Hid (vShr m a b=0):=by show vShr m a b=0;simp [vShr,h]
  go_enter Tryz.func134,Tryz.ntmps134
  go_wp2_with (go_at_call 145;refine (iTwo _ _ _ _).mono ?_;rintro e w' ⟨rfl,rfl⟩)
  go_ret
  exact ⟨ret_int HV.out.symm,rfl⟩
 ·obtain ⟨h1,h2,h3,h4,h5,h6,h7⟩:=two_iff h
  by_cases hb:b<=7
  ·have HV:Hid (vShr m a b=a / p2 b.toNat):=by
    show vShr m a b=_
    unfold vShr;rw [h,if_pos rfl]
    by_cases hc:m<=b
    ·rw [if_pos hc,shr_zero h3 hc h4]
    ·rw [if_neg hc]
   obtain ⟨hd1,hd2⟩:=div_bd h3 (show 0<=p2 b.toNat by have:=p2_pos b.toNat;omega)
   go_enter Tryz.func134,Tryz.ntmps134
   go_wp2_with (first|(go_at_call 145;refine (iTwo _ _ _ _).mono ?_;rintro e w' ⟨rfl,rfl⟩)|(go_at_call 152;refine (down a _ _ h3 (by omega) h5 (by omega)).mono ?_;rintro e w' ⟨rfl,rfl⟩))
   go_ret
   exact ⟨ret_int HV.out.symm,rfl⟩
  ·have HV:Hid (vShr m a b=0):=by
    show vShr m a b=_
    unfold vShr;rw [h,if_pos rfl,if_pos (by omega)]
   go_enter Tryz.func134,Tryz.ntmps134
   go_wp2_with (first|(go_at_call 145;refine (iTwo _ _ _ _).mono ?_;rintro e w' ⟨rfl,rfl⟩)|(go_at_call 152;refine (downFar a _ _ h3 (by omega) (by omega)).mono ?_;rintro e w' ⟨rfl,rfl⟩))
   go_ret
   exact ⟨ret_int HV.out.symm,rfl⟩
theorem sShr (m a b:Int) (w:World) :
 Calls Tryz.prog 104 #[.int .i64 m,.int .i64 a,.int .i64 b] w fun e w'=>e=.returned (.int .i64 (vShr m a b))/\w'=w:=by
 cases h:(wok m a&&wok m b)
 ·have HV:Hid (vShr m a b=0):=by show vShr m a b=0;simp [vShr,h]
  go_enter Tryz.func104,Tryz.ntmps104
  go_wp2_with (go_at_call 112;refine (sTwo _ _ _ _).mono ?_;rintro e w' ⟨rfl,rfl⟩)
  go_ret
  exact ⟨ret_int HV.out.symm,rfl⟩
 ·obtain ⟨h1,h2,h3,h4,h5,h6,h7⟩:=two_iff h
  have hp:=p2_pos m.toNat
  by_cases hc:m<=b
  ·have HV:Hid (vShr m a b=0):=by
    show vShr m a b=_
    unfold vShr;rw [h,if_pos rfl,if_pos hc]
   go_enter Tryz.func104,Tryz.ntmps104
   go_wp2_with (go_at_call 112;refine (sTwo _ _ _ _).mono ?_;rintro e w' ⟨rfl,rfl⟩)
   go_ret
   exact ⟨ret_int HV.out.symm,rfl⟩
  ·have HV:Hid (vShr m a b=a / p2 b.toNat):=by
    show vShr m a b=_
    unfold vShr;rw [h,if_pos rfl,if_neg hc]
   have hq:=p2_pos b.toNat
   obtain ⟨hd1,hd2⟩:=div_bd h3 (show 0<=p2 b.toNat by omega)
   go_enter Tryz.func104,Tryz.ntmps104
   go_wp2_with (first|(go_at_call 112;refine (sTwo _ _ _ _).mono ?_;rintro e w' ⟨rfl,rfl⟩)|(go_at_call 79;refine (spow _ _ (by omega) (by omega)).mono ?_;rintro e w' ⟨rfl,rfl⟩))
   go_ret
   exact ⟨ret_int HV.out.symm,rfl⟩
theorem iFlip (m a:Int) (w:World) :
 Calls Tryz.prog 117 #[.int .i64 m,.int .i64 a] w fun e w'=>e=.returned (.int .i64 (vFlip m a))/\w'=w:=by
 cases h:wok m a
 ·have HV:Hid (vFlip m a=0):=by show vFlip m a=0;simp [vFlip,h]
  go_enter Tryz.func117,Tryz.ntmps117
  go_wp2_with (go_at_call 91;refine (iWordOk _ _ _).mono ?_;rintro e w' ⟨rfl,rfl⟩)
  go_ret
  exact ⟨ret_int HV.out.symm,rfl⟩
 ·obtain ⟨h1,h2,h3,h4,h7⟩:=one_iff h
  have HV:Hid (vFlip m a=p2 m.toNat - 1 - a):=by show vFlip m a=_;simp [vFlip,h]
  go_enter Tryz.func117,Tryz.ntmps117
  go_wp2_with (first|(go_at_call 91;refine (iWordOk _ _ _).mono ?_;rintro e w' ⟨rfl,rfl⟩)|(go_at_call 144;refine (flip a m _ h3 h4 h1 h2).mono ?_;rintro e w' ⟨rfl,rfl⟩))
  go_ret
  exact ⟨ret_int HV.out.symm,rfl⟩
theorem sFlip (m a:Int) (w:World) :
 Calls Tryz.prog 97 #[.int .i64 m,.int .i64 a] w fun e w'=>e=.returned (.int .i64 (vFlip m a))/\w'=w:=by
 cases h:wok m a
 ·have HV:Hid (vFlip m a=0):=by show vFlip m a=0;simp [vFlip,h]
  go_enter Tryz.func97,Tryz.ntmps97
  go_wp2_with (go_at_call 78;refine (sWordOk _ _ _).mono ?_;rintro e w' ⟨rfl,rfl⟩)
  go_ret
  exact ⟨ret_int HV.out.symm,rfl⟩
 ·obtain ⟨h1,h2,h3,h4,h7⟩:=one_iff h
  have HV:Hid (vFlip m a=p2 m.toNat - 1 - a):=by show vFlip m a=_;simp [vFlip,h]
  go_enter Tryz.func97,Tryz.ntmps97
  go_wp2_with (first|(go_at_call 78;refine (sWordOk _ _ _).mono ?_;rintro e w' ⟨rfl,rfl⟩)|(go_at_call 79;refine (spow _ _ (by omega) (by omega)).mono ?_;rintro e w' ⟨rfl,rfl⟩))
  go_ret
  exact ⟨ret_int HV.out.symm,rfl⟩
theorem sSigned (m a:Int) (w:World) :
 Calls Tryz.prog 113 #[.int .i64 m,.int .i64 a] w fun e w'=>e=.returned (.int .i64 (vSigned m a))/\w'=w:=by
 cases h:wok m a
 ·have HV:Hid (vSigned m a=0):=by show vSigned m a=0;simp [vSigned,h]
  go_enter Tryz.func113,Tryz.ntmps113
  go_wp2_with (go_at_call 78;refine (sWordOk _ _ _).mono ?_;rintro e w' ⟨rfl,rfl⟩)
  go_ret
  exact ⟨ret_int HV.out.symm,rfl⟩
 ·obtain ⟨h1,h2,h3,h4,h7⟩:=one_iff h
  have hq:=p2_pos m.toNat
  by_cases hs:p2 (m - 1).toNat<=a
  ·have HV:Hid (vSigned m a=a - p2 m.toNat):=by show vSigned m a=_;simp only [vSigned,h,if_pos];exact sgn_pos hs
   have hs2:p2 (m.toNat - 1)<=a:=by rw [show m.toNat - 1=(m - 1).toNat by omega];exact hs
   have hr:=p2_pos (m - 1).toNat
   go_enter Tryz.func113,Tryz.ntmps113
   go_wp2_with (first|(go_at_call 78;refine (sWordOk _ _ _).mono ?_;rintro e w' ⟨rfl,rfl⟩)|(go_at_call 79;refine (spow _ _ (by omega) (by omega)).mono ?_;rintro e w' ⟨rfl,rfl⟩))
   go_ret
   exact ⟨ret_int HV.out.symm,rfl⟩
  ·have HV:Hid (vSigned m a=a):=by show vSigned m a=_;simp only [vSigned,h,if_pos];exact sgn_neg hs
   have hs2:¬ p2 (m.toNat - 1)<=a:=by rw [show m.toNat - 1=(m - 1).toNat by omega];exact hs
   have hr:=p2_pos (m - 1).toNat
   go_enter Tryz.func113,Tryz.ntmps113
   go_wp2_with (first|(go_at_call 78;refine (sWordOk _ _ _).mono ?_;rintro e w' ⟨rfl,rfl⟩)|(go_at_call 79;refine (spow _ _ (by omega) (by omega)).mono ?_;rintro e w' ⟨rfl,rfl⟩))
   go_ret
   exact ⟨ret_int HV.out.symm,rfl⟩
theorem iOne (b:Bool) (w:World) :
 Calls Tryz.prog 92 #[.bool b] w fun e w'=>e=.returned (.int .i64 (if b then 1 else 0))/\w'=w:=by
 cases b
 all_goals
  go_enter Tryz.func92,Tryz.ntmps92
  go_wp2
  go_ret
  exact ⟨rfl,rfl⟩
theorem sOne (b:Bool) (w:World) :
 Calls Tryz.prog 105 #[.bool b] w fun e w'=>e=.returned (.int .i64 (if b then 1 else 0))/\w'=w:=by
 cases b
 all_goals
  go_enter Tryz.func105,Tryz.ntmps105
  go_wp2
  go_ret
  exact ⟨rfl,rfl⟩
end Wd4
namespace Wd5
open Go.RowKit
open Pl1 Wd1 Wd2 Wd3 Wd4
theorem iLess (m a b:Int) (w:World) :
 Calls Tryz.prog 137 #[.int .i64 m,.int .i64 a,.int .i64 b] w fun e w'=>e=.returned (.int .i64 (vLess m a b))/\w'=w:=by
 cases h:(wok m a&&wok m b)
 ·have HV:Hid (vLess m a b=0):=by show vLess m a b=0;simp only [vLess,h];rfl
  go_enter Tryz.func137,Tryz.ntmps137
  go_wp2_with (first|(go_at_call 145;refine (iTwo _ _ _ _).mono ?_;rintro e w' ⟨rfl,rfl⟩)|(go_at_call 92;refine (iOne _ _).mono ?_;rintro e w' ⟨rfl,rfl⟩))
  go_ret
  exact ⟨ret_int HV.out.symm,rfl⟩
 ·by_cases hl:a < b
  ·have HV:Hid (vLess m a b=1):=by show vLess m a b=1;simp only [vLess,h,hl];rfl
   go_enter Tryz.func137,Tryz.ntmps137
   go_wp2_with (first|(go_at_call 145;refine (iTwo _ _ _ _).mono ?_;rintro e w' ⟨rfl,rfl⟩)|(go_at_call 92;refine (iOne _ _).mono ?_;rintro e w' ⟨rfl,rfl⟩))
   go_ret
   exact ⟨ret_int HV.out.symm,rfl⟩
  ·have HV:Hid (vLess m a b=0):=by show vLess m a b=0;simp only [vLess,h,hl];rfl
   go_enter Tryz.func137,Tryz.ntmps137
   go_wp2_with (first|(go_at_call 145;refine (iTwo _ _ _ _).mono ?_;rintro e w' ⟨rfl,rfl⟩)|(go_at_call 92;refine (iOne _ _).mono ?_;rintro e w' ⟨rfl,rfl⟩))
   go_ret
   exact ⟨ret_int HV.out.symm,rfl⟩
theorem iLessSigned (m a b:Int) (w:World) :
 Calls Tryz.prog 139 #[.int .i64 m,.int .i64 a,.int .i64 b] w fun e w'=>e=.returned (.int .i64 (vLessSigned m a b))/\w'=w:=by
 cases h:(wok m a&&wok m b)
 ·have HV:Hid (vLessSigned m a b=0):=by show vLessSigned m a b=0;simp only [vLessSigned,h];rfl
  go_enter Tryz.func139,Tryz.ntmps139
  go_wp2_with (first|(go_at_call 145;refine (iTwo _ _ _ _).mono ?_;rintro e w' ⟨rfl,rfl⟩)|(go_at_call 92;refine (iOne _ _).mono ?_;rintro e w' ⟨rfl,rfl⟩))
  go_ret
  exact ⟨ret_int HV.out.symm,rfl⟩
 ·obtain ⟨h1,h2,h3,h4,h5,h6,h7⟩:=two_iff h
  have ea:vSigned m a=sgn m a:=by rw [Bool.and_eq_true] at h;simp [vSigned,h.1]
  have eb:vSigned m b=sgn m b:=by rw [Bool.and_eq_true] at h;simp [vSigned,h.2]
  by_cases hl:sgn m a < sgn m b
  ·have HV:Hid (vLessSigned m a b=1):=by show vLessSigned m a b=1;simp only [vLessSigned,ea,eb,h,hl];rfl
   clear ea eb
   go_enter Tryz.func139,Tryz.ntmps139
   go_wp2_with (first|(go_at_call 145;refine (iTwo _ _ _ _).mono ?_;rintro e w' ⟨rfl,rfl⟩)|(go_at_call 92;refine (iOne _ _).mono ?_;rintro e w' ⟨rfl,rfl⟩)|(go_at_call 153;refine (signed _ m _ (by omega) (by omega) h1 h2).mono ?_;rintro e w' ⟨rfl,rfl⟩))
   go_ret
   exact ⟨ret_int HV.out.symm,rfl⟩
  ·have HV:Hid (vLessSigned m a b=0):=by show vLessSigned m a b=0;simp only [vLessSigned,ea,eb,h,hl];rfl
   clear ea eb
   go_enter Tryz.func139,Tryz.ntmps139
   go_wp2_with (first|(go_at_call 145;refine (iTwo _ _ _ _).mono ?_;rintro e w' ⟨rfl,rfl⟩)|(go_at_call 92;refine (iOne _ _).mono ?_;rintro e w' ⟨rfl,rfl⟩)|(go_at_call 153;refine (signed _ m _ (by omega) (by omega) h1 h2).mono ?_;rintro e w' ⟨rfl,rfl⟩))
   go_ret
   exact ⟨ret_int HV.out.symm,rfl⟩
theorem sLess (m a b:Int) (w:World) :
 Calls Tryz.prog 106 #[.int .i64 m,.int .i64 a,.int .i64 b] w fun e w'=>e=.returned (.int .i64 (vLess m a b))/\w'=w:=by
 cases h:(wok m a&&wok m b)
 ·have HV:Hid (vLess m a b=0):=by show vLess m a b=0;simp only [vLess,h];rfl
  go_enter Tryz.func106,Tryz.ntmps106
  go_wp2_with (first|(go_at_call 112;refine (sTwo _ _ _ _).mono ?_;rintro e w' ⟨rfl,rfl⟩)|(go_at_call 105;refine (sOne _ _).mono ?_;rintro e w' ⟨rfl,rfl⟩))
  go_ret
  exact ⟨ret_int HV.out.symm,rfl⟩
 ·by_cases hl:a < b
  ·have HV:Hid (vLess m a b=1):=by show vLess m a b=1;simp only [vLess,h,hl];rfl
   go_enter Tryz.func106,Tryz.ntmps106
   go_wp2_with (first|(go_at_call 112;refine (sTwo _ _ _ _).mono ?_;rintro e w' ⟨rfl,rfl⟩)|(go_at_call 105;refine (sOne _ _).mono ?_;rintro e w' ⟨rfl,rfl⟩))
   go_ret
   exact ⟨ret_int HV.out.symm,rfl⟩
  ·have HV:Hid (vLess m a b=0):=by show vLess m a b=0;simp only [vLess,h,hl];rfl
   go_enter Tryz.func106,Tryz.ntmps106
   go_wp2_with (first|(go_at_call 112;refine (sTwo _ _ _ _).mono ?_;rintro e w' ⟨rfl,rfl⟩)|(go_at_call 105;refine (sOne _ _).mono ?_;rintro e w' ⟨rfl,rfl⟩))
   go_ret
   exact ⟨ret_int HV.out.symm,rfl⟩
theorem sLessSigned (m a b:Int) (w:World) :
 Calls Tryz.prog 107 #[.int .i64 m,.int .i64 a,.int .i64 b] w fun e w'=>e=.returned (.int .i64 (vLessSigned m a b))/\w'=w:=by
 cases h:(wok m a&&wok m b)
 ·have HV:Hid (vLessSigned m a b=0):=by show vLessSigned m a b=0;simp only [vLessSigned,h];rfl
  go_enter Tryz.func107,Tryz.ntmps107
  go_wp2_with (first|(go_at_call 112;refine (sTwo _ _ _ _).mono ?_;rintro e w' ⟨rfl,rfl⟩)|(go_at_call 105;refine (sOne _ _).mono ?_;rintro e w' ⟨rfl,rfl⟩))
  go_ret
  exact ⟨ret_int HV.out.symm,rfl⟩
 ·obtain ⟨h1,h2,h3,h4,h5,h6,h7⟩:=two_iff h
  by_cases hl:vSigned m a < vSigned m b
  ·have HV:Hid (vLessSigned m a b=1):=by show vLessSigned m a b=1;simp only [vLessSigned,h,hl];rfl
   skip
   go_enter Tryz.func107,Tryz.ntmps107
   go_wp2_with (first|(go_at_call 112;refine (sTwo _ _ _ _).mono ?_;rintro e w' ⟨rfl,rfl⟩)|(go_at_call 105;refine (sOne _ _).mono ?_;rintro e w' ⟨rfl,rfl⟩)|(go_at_call 113;refine (sSigned _ _ _).mono ?_;rintro e w' ⟨rfl,rfl⟩))
   go_ret
   exact ⟨ret_int HV.out.symm,rfl⟩
  ·have HV:Hid (vLessSigned m a b=0):=by show vLessSigned m a b=0;simp only [vLessSigned,h,hl];rfl
   skip
   go_enter Tryz.func107,Tryz.ntmps107
   go_wp2_with (first|(go_at_call 112;refine (sTwo _ _ _ _).mono ?_;rintro e w' ⟨rfl,rfl⟩)|(go_at_call 105;refine (sOne _ _).mono ?_;rintro e w' ⟨rfl,rfl⟩)|(go_at_call 113;refine (sSigned _ _ _).mono ?_;rintro e w' ⟨rfl,rfl⟩))
   go_ret
   exact ⟨ret_int HV.out.symm,rfl⟩
theorem wrap_sub {m n:Int} (h1:1<=m) (h2:m<=8) (hn:0<=n) (hw:(Lit.int .i64 n).wf=true):wrap64 (m - n)=m - n:=by
 have:n<=9223372036854775807:=by
  simp [Lit.wf,IntKind.min,IntKind.max,IntKind.signed,IntKind.bits] at hw;omega
 unfold wrap64;omega
theorem iSlice (m a l n:Int) (w:World) (hwn:(Lit.int .i64 n).wf=true) :
 Calls Tryz.prog 142 #[.int .i64 m,.int .i64 a,.int .i64 l,.int .i64 n] w fun e w'=>e=.returned (.int .i64 (vSlice m a l n))/\w'=w:=by
 cases h:wok m a
 ·clear hwn
  have HV:Hid (vSlice m a l n=0):=by show vSlice m a l n=0;simp [vSlice,h]
  go_enter Tryz.func142,Tryz.ntmps142
  go_wp2_with (go_at_call 91;refine (iWordOk _ _ _).mono ?_;rintro e w' ⟨rfl,rfl⟩)
  go_ret
  exact ⟨ret_int HV.out.symm,rfl⟩
 ·obtain ⟨h1,h2,h3,h4,h7⟩:=one_iff h
  by_cases hn:n < 1
  ·clear hwn
   have HV:Hid (vSlice m a l n=0):=by show vSlice m a l n=0;unfold vSlice;rw [if_neg];simp;omega
   go_enter Tryz.func142,Tryz.ntmps142
   go_wp2_with (go_at_call 91;refine (iWordOk _ _ _).mono ?_;rintro e w' ⟨rfl,rfl⟩)
   go_ret
   exact ⟨ret_int HV.out.symm,rfl⟩
  ·have hw:=wrap_sub h1 h2 (show 0<=n by omega) hwn
   clear hwn
   by_cases hl:l < 0
   ·have HV:Hid (vSlice m a l n=0):=by show vSlice m a l n=0;unfold vSlice;rw [if_neg];simp;omega
    go_enter Tryz.func142,Tryz.ntmps142
    go_wp2_with (go_at_call 91;refine (iWordOk _ _ _).mono ?_;rintro e w' ⟨rfl,rfl⟩)
    go_ret
    exact ⟨ret_int HV.out.symm,rfl⟩
   ·by_cases hs:m - n < l
    ·have HV:Hid (vSlice m a l n=0):=by show vSlice m a l n=0;unfold vSlice;rw [if_neg];simp;omega
     go_enter Tryz.func142,Tryz.ntmps142
     go_wp2_with (go_at_call 91;refine (iWordOk _ _ _).mono ?_;rintro e w' ⟨rfl,rfl⟩)
     go_ret
     exact ⟨ret_int HV.out.symm,rfl⟩
    ·have HV:Hid (vSlice m a l n=a / p2 l.toNat % p2 n.toNat):=by
      show vSlice m a l n=_
      unfold vSlice;rw [if_pos];simp [h];omega
     clear hw
     obtain ⟨hd1,hd2⟩:=div_bd h3 (show 0<=p2 l.toNat by have:=p2_pos l.toNat;omega)
     have hm:=emod_le (a:=a / p2 l.toNat) n.toNat
     have hk:=p2_le n.toNat (by omega)
     go_enter Tryz.func142,Tryz.ntmps142
     go_wp2_with (first|(go_at_call 91;refine (iWordOk _ _ _).mono ?_;rintro e w' ⟨rfl,rfl⟩)|(go_at_call 152;refine (down a _ _ h3 (by omega) (by omega) (by omega)).mono ?_;rintro e w' ⟨rfl,rfl⟩)|(go_at_call 154;refine (cut _ n _ (by omega) (by omega) (by omega) (by omega)).mono ?_;rintro e w' ⟨rfl,rfl⟩))
     go_ret
     exact ⟨ret_int HV.out.symm,rfl⟩
theorem sSlice (m a l n:Int) (w:World) (hwl:(Lit.int .i64 l).wf=true) :
 Calls Tryz.prog 108 #[.int .i64 m,.int .i64 a,.int .i64 l,.int .i64 n] w fun e w'=>e=.returned (.int .i64 (vSlice m a l n))/\∃ k,w'=w.drewN k:=by
 cases h:wok m a
 ·clear hwl
  have HV:Hid (vSlice m a l n=0):=by show vSlice m a l n=0;simp [vSlice,h]
  go_enter Tryz.func108,Tryz.ntmps108
  go_wp2_with (go_at_call 78;refine (sWordOk _ _ _).mono ?_;rintro e w' ⟨rfl,rfl⟩)
  go_ret
  exact ⟨ret_int HV.out.symm,0,rfl⟩
 ·obtain ⟨h1,h2,h3,h4,h7⟩:=one_iff h
  by_cases hl:l < 0
  ·clear hwl
   have HV:Hid (vSlice m a l n=0):=by show vSlice m a l n=0;unfold vSlice;rw [if_neg];simp;omega
   go_enter Tryz.func108,Tryz.ntmps108
   go_wp2_with (go_at_call 78;refine (sWordOk _ _ _).mono ?_;rintro e w' ⟨rfl,rfl⟩)
   go_ret
   exact ⟨ret_int HV.out.symm,0,rfl⟩
  ·have hw:=wrap_sub h1 h2 (show 0<=l by omega) hwl
   clear hwl
   by_cases hs:1<=n/\n<=m - l
   ·have hd:decide (1<=n/\n<=m - l)=true:=by simpa using hs
    have HV:Hid (vSlice m a l n=a / p2 l.toNat % p2 n.toNat):=by
     show vSlice m a l n=_
     unfold vSlice;rw [if_pos];simp [h];omega
    obtain ⟨hs1,hs2⟩:=hs
    clear hw
    have hq:=p2_pos l.toNat
    have hr:=p2_pos n.toNat
    obtain ⟨hd1,hd2⟩:=div_bd h3 (show 0<=p2 l.toNat by omega)
    go_enter Tryz.func108,Tryz.ntmps108
    go_wp2_with (first|(go_at_call 78;refine (sWordOk _ _ _).mono ?_;rintro e w' ⟨rfl,rfl⟩)|(go_at_call 62;refine (sIn _ _ _ _).mono ?_;rintro e w' ⟨rfl,rfl⟩)|(go_at_call 79;refine (spow _ _ (by omega) (by omega)).mono ?_;rintro e w' ⟨rfl,rfl⟩))
    go_quiet ((go_at_call 79;exact Calls.quiet_of_same (spow _ _ (by omega) (by omega))))
    go_wp2
    go_ret
    exact ⟨ret_int HV.out.symm,_,rfl⟩
   ·have hd:decide (1<=n/\n<=m - l)=false:=by simpa using hs
    have HV:Hid (vSlice m a l n=0):=by show vSlice m a l n=0;unfold vSlice;rw [if_neg];simp;omega
    go_enter Tryz.func108,Tryz.ntmps108
    go_wp2_with (first|(go_at_call 78;refine (sWordOk _ _ _).mono ?_;rintro e w' ⟨rfl,rfl⟩)|(go_at_call 62;refine (sIn _ _ _ _).mono ?_;rintro e w' ⟨rfl,rfl⟩))
    go_ret
    exact ⟨ret_int HV.out.symm,0,rfl⟩
end Wd5
namespace Kp0
open Go.RowKit
open Nd0
theorem below_drewN {B:Nat} {u w:World} (h:Below B u w) (n:Nat):Below B u (w.drewN n):=⟨h.os,h.tape,h.output,h.size,h.block⟩
end Kp0
end Go.Proofs.YtbellafdjfliiaaGreat
