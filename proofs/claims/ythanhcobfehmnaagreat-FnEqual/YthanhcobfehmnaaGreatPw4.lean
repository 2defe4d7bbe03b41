import Derived.Test.YthanhcobfehmnaaGreatPkQU251
namespace Go.Proofs.YthanhcobfehmnaaGreat
set_option maxRecDepth 100000
set_option maxHeartbeats 8000000
set_option linter.unusedVariables false
namespace Pw4
open Go.RowKit
open Nd0 Pl1 Pl2 Vl1 Vl2 Bt0 Wd1 Wd2 Wd3 Wd4 Wd5 Ic4 Pv1 Pv3 Pw1
open Sv1 (Rg below1)
theorem out1 {n:Nd} {W a b c:Int} (w:World) (h1:decide (1<=n.w/\n.w<=8)=false):iApp n W a b c 0 w:=by
 unfold iApp
 go_enter Tryz.func92,Tryz.ntmps92
 go_wp2_with (first|(go_at_call 68;refine (iWidthOk _ _).mono ?_;rintro e w' ⟨rfl,rfl⟩)|(go_at_call 118;refine (byteOk _ _).mono ?_;rintro e w' ⟨rfl,rfl⟩))
 go_ret
 exact ⟨rfl,below1 _ _⟩
theorem out2 {n:Nd} {W a b c:Int} (w:World) (h1:decide (1<=n.w/\n.w<=8)=true) (h2:decide (1<=W/\W<=8)=false):iApp n W a b c 0 w:=by
 unfold iApp
 go_enter Tryz.func92,Tryz.ntmps92
 go_wp2_with (first|(go_at_call 68;refine (iWidthOk _ _).mono ?_;rintro e w' ⟨rfl,rfl⟩)|(go_at_call 118;refine (byteOk _ _).mono ?_;rintro e w' ⟨rfl,rfl⟩))
 go_ret
 exact ⟨rfl,below1 _ _⟩
theorem out3 {n:Nd} {W a b c:Int} (w:World) (h1:decide (1<=n.w/\n.w<=8)=true) (h2:decide (1<=W/\W<=8)=true) (h3:decide (0<=a/\a<=255)=false):iApp n W a b c 0 w:=by
 unfold iApp
 go_enter Tryz.func92,Tryz.ntmps92
 go_wp2_with (first|(go_at_call 68;refine (iWidthOk _ _).mono ?_;rintro e w' ⟨rfl,rfl⟩)|(go_at_call 118;refine (byteOk _ _).mono ?_;rintro e w' ⟨rfl,rfl⟩))
 go_ret
 exact ⟨rfl,below1 _ _⟩
theorem out4 {n:Nd} {W a b c:Int} (w:World) (h1:decide (1<=n.w/\n.w<=8)=true) (h2:decide (1<=W/\W<=8)=true) (h3:decide (0<=a/\a<=255)=true) (h4:decide (0<=b/\b<=255)=false):iApp n W a b c 0 w:=by
 unfold iApp
 go_enter Tryz.func92,Tryz.ntmps92
 go_wp2_with (first|(go_at_call 68;refine (iWidthOk _ _).mono ?_;rintro e w' ⟨rfl,rfl⟩)|(go_at_call 118;refine (byteOk _ _).mono ?_;rintro e w' ⟨rfl,rfl⟩))
 go_ret
 exact ⟨rfl,below1 _ _⟩
theorem out5 {n:Nd} {W a b c:Int} (w:World) (h1:decide (1<=n.w/\n.w<=8)=true) (h2:decide (1<=W/\W<=8)=true) (h3:decide (0<=a/\a<=255)=true) (h4:decide (0<=b/\b<=255)=true) (h5:decide (0<=c/\c<=255)=false):iApp n W a b c 0 w:=by
 unfold iApp
 go_enter Tryz.func92,Tryz.ntmps92
 go_wp2_with (first|(go_at_call 68;refine (iWidthOk _ _).mono ?_;rintro e w' ⟨rfl,rfl⟩)|(go_at_call 118;refine (byteOk _ _).mono ?_;rintro e w' ⟨rfl,rfl⟩))
 go_ret
 exact ⟨rfl,below1 _ _⟩
theorem lo {n:Nd} {W a b c:Int} (w:World) (h:Rg n W a b c) (g:n.op < 0):iApp n W a b c 0 w:=by
 obtain ⟨h1,h2,h3,h4,h5⟩:=h
 unfold iApp
 go_enter Tryz.func92,Tryz.ntmps92
 go_wp2_with (first|(go_at_call 68;refine (iWidthOk _ _).mono ?_;rintro e w' ⟨rfl,rfl⟩)|(go_at_call 118;refine (byteOk _ _).mono ?_;rintro e w' ⟨rfl,rfl⟩)|(go_at_call 119;refine (operators _).mono ?_;rintro e w' ⟨rfl,rfl⟩)|refine store_new _ rfl 138 (.tmp 11) (.tmp 36) rfl _ tab _ rfl (by simp) rfl sizeTab rfl oneTab ?_)
 go_ret
 exact ⟨rfl,(((Below.refl _ _).alloc (Nat.le_refl _) _).alloc (by simp) _).alloc (by simp;omega) _⟩
theorem hi {n:Nd} {W a b c:Int} (w:World) (h:Rg n W a b c) (g:19<=n.op):iApp n W a b c 0 w:=by
 obtain ⟨h1,h2,h3,h4,h5⟩:=h
 have g2:¬ n.op < 0:=by omega
 unfold iApp
 go_enter Tryz.func92,Tryz.ntmps92
 go_wp2_with (first|(go_at_call 68;refine (iWidthOk _ _).mono ?_;rintro e w' ⟨rfl,rfl⟩)|(go_at_call 118;refine (byteOk _ _).mono ?_;rintro e w' ⟨rfl,rfl⟩)|(go_at_call 119;refine (operators _).mono ?_;rintro e w' ⟨rfl,rfl⟩)|refine store_new _ rfl 138 (.tmp 11) (.tmp 36) rfl _ tab _ rfl (by simp) rfl sizeTab rfl oneTab ?_)
 go_ret
 exact ⟨rfl,(((Below.refl _ _).alloc (Nat.le_refl _) _).alloc (by simp) _).alloc (by simp;omega) _⟩
theorem nil {n:Nd} {W a b c:Int} (w:World) (h:Rg n W a b c) (g:n.op=1):iApp n W a b c 0 w:=by
 obtain ⟨h1,h2,h3,h4,h5⟩:=h
 have ht:tab[1]'(by decide)=.nilFunc:=rfl
 have hts:tab.size=19:=rfl
 have hef:=eql_nil
 unfold iApp
 go_enter Tryz.func92,Tryz.ntmps92
 go_wp2_with (first|(go_at_call 68;refine (iWidthOk _ _).mono ?_;rintro e w' ⟨rfl,rfl⟩)|(go_at_call 118;refine (byteOk _ _).mono ?_;rintro e w' ⟨rfl,rfl⟩)|(go_at_call 119;refine (operators _).mono ?_;rintro e w' ⟨rfl,rfl⟩)|refine store_new _ rfl 138 (.tmp 11) (.tmp 36) rfl _ tab _ rfl (by simp) rfl sizeTab rfl oneTab ?_)
 go_ret
 exact ⟨rfl,(((Below.refl _ _).alloc (Nat.le_refl _) _).alloc (by simp) _).alloc (by simp;omega) _⟩
theorem iApply:IApply:=by
 intro n W a b c w hk
 show iApp n W a b c (applyL n.op n.w n.k W a b c) w
 cases h1:decide (1<=n.w/\n.w<=8)
 ·have e:applyL n.op n.w n.k W a b c=0:=by
   unfold applyL inR
   rw [h1];simp
  rw [e];exact out1 w h1
 cases h2:decide (1<=W/\W<=8)
 ·have e:applyL n.op n.w n.k W a b c=0:=by
   unfold applyL inR
   rw [h2];simp
  rw [e];exact out2 w h1 h2
 cases h3:decide (0<=a/\a<=255)
 ·have e:applyL n.op n.w n.k W a b c=0:=by
   unfold applyL inR
   rw [h3];simp
  rw [e];exact out3 w h1 h2 h3
 cases h4:decide (0<=b/\b<=255)
 ·have e:applyL n.op n.w n.k W a b c=0:=by
   unfold applyL inR
   rw [h4];simp
  rw [e];exact out4 w h1 h2 h3 h4
 cases h5:decide (0<=c/\c<=255)
 ·have e:applyL n.op n.w n.k W a b c=0:=by
   unfold applyL inR
   rw [h5];simp
  rw [e];exact out5 w h1 h2 h3 h4 h5
 have h:Rg n W a b c:=⟨h1,h2,h3,h4,h5⟩
 rw [h.eq]
 have r1:=of_decide_eq_true h1
 have r2:=of_decide_eq_true h2
 have r3:=of_decide_eq_true h3
 have r4:=of_decide_eq_true h4
 have hw8:(Lit.int .i64 n.w).wf=true:=by simp [Lit.wf,IntKind.min,IntKind.max,IntKind.signed,IntKind.bits];omega
 by_cases g0:n.op=0
 ·have e:opL n.op n.w n.k W a b c=n.k:=by rw [g0];simp [opL]
  rw [e];exact iAt 0 128 w h g0 (by decide) rfl (enters_of Tryz.func128 (by kernel_rfl) rfl) (c0 n W a b c)
 by_cases g2:n.op=2
 ·have e:opL n.op n.w n.k W a b c=vFlip n.w a:=by rw [g2];simp [opL]
  rw [e];exact iAt 2 129 w h g2 (by decide) rfl (enters_of Tryz.func129 (by kernel_rfl) rfl) (c2 n W a b c)
 by_cases g3:n.op=3
 ·have e:opL n.op n.w n.k W a b c=nAnd a b:=by rw [g3];simp [opL]
  rw [e];exact iAt 3 131 w h g3 (by decide) rfl (enters_of Tryz.func131 (by kernel_rfl) rfl) (c3 n W a b c r3 r4)
 by_cases g4:n.op=4
 ·have e:opL n.op n.w n.k W a b c=nOr a b:=by rw [g4];simp [opL]
  rw [e];exact iAt 4 132 w h g4 (by decide) rfl (enters_of Tryz.func132 (by kernel_rfl) rfl) (c4 n W a b c r3 r4)
 by_cases g5:n.op=5
 ·have e:opL n.op n.w n.k W a b c=nXor a b:=by rw [g5];simp [opL]
  rw [e];exact iAt 5 133 w h g5 (by decide) rfl (enters_of Tryz.func133 (by kernel_rfl) rfl) (c5 n W a b c r3 r4)
 by_cases g6:n.op=6
 ·have e:opL n.op n.w n.k W a b c=vAdd n.w a b:=by rw [g6];simp [opL]
  rw [e];exact iAt 6 134 w h g6 (by decide) rfl (enters_of Tryz.func134 (by kernel_rfl) rfl) (c6 n W a b c)
 by_cases g7:n.op=7
 ·have e:opL n.op n.w n.k W a b c=vSub n.w a b:=by rw [g7];simp [opL]
  rw [e];exact iAt 7 136 w h g7 (by decide) rfl (enters_of Tryz.func136 (by kernel_rfl) rfl) (c7 n W a b c)
 by_cases g8:n.op=8
 ·have e:opL n.op n.w n.k W a b c=vMul n.w a b:=by rw [g8];simp [opL]
  rw [e];exact iAt 8 138 w h g8 (by decide) rfl (enters_of Tryz.func138 (by kernel_rfl) rfl) (c8 n W a b c)
 by_cases g9:n.op=9
 ·have e:opL n.op n.w n.k W a b c=vDiv n.w a b:=by rw [g9];simp [opL]
  rw [e];exact iAt 9 140 w h g9 (by decide) rfl (enters_of Tryz.func140 (by kernel_rfl) rfl) (c9 n W a b c)
 by_cases g10:n.op=10
 ·have e:opL n.op n.w n.k W a b c=vRem n.w a b:=by rw [g10];simp [opL]
  rw [e];exact iAt 10 142 w h g10 (by decide) rfl (enters_of Tryz.func142 (by kernel_rfl) rfl) (c10 n W a b c)
 by_cases g11:n.op=11
 ·have e:opL n.op n.w n.k W a b c=vShl n.w a b:=by rw [g11];simp [opL]
  rw [e];exact iAt 11 144 w h g11 (by decide) rfl (enters_of Tryz.func144 (by kernel_rfl) rfl) (c11 n W a b c)
 by_cases g12:n.op=12
 ·have e:opL n.op n.w n.k W a b c=vShr n.w a b:=by rw [g12];simp [opL]
  rw [e];exact iAt 12 146 w h g12 (by decide) rfl (enters_of Tryz.func146 (by kernel_rfl) rfl) (c12 n W a b c)
 by_cases g13:n.op=13
 ·have e:opL n.op n.w n.k W a b c=if a=b then 1 else 0:=by rw [g13];simp [opL]
  rw [e];exact iAt 13 148 w h g13 (by decide) rfl (enters_of Tryz.func148 (by kernel_rfl) rfl) (c13 n W a b c _ rfl)
 by_cases g14:n.op=14
 ·have e:opL n.op n.w n.k W a b c=vLess W a b:=by rw [g14];simp [opL]
  rw [e];exact iAt 14 149 w h g14 (by decide) rfl (enters_of Tryz.func149 (by kernel_rfl) rfl) (c14 n W a b c)
 by_cases g15:n.op=15
 ·have e:opL n.op n.w n.k W a b c=vLessSigned W a b:=by rw [g15];simp [opL]
  rw [e];exact iAt 15 151 w h g15 (by decide) rfl (enters_of Tryz.func151 (by kernel_rfl) rfl) (c15 n W a b c)
 by_cases g16:n.op=16
 ·have e:opL n.op n.w n.k W a b c=if n.w < W then b else a*p2 (n.w - W).toNat+b:=by rw [g16];simp [opL]
  rw [e];exact iAt 16 153 w h g16 (by decide) rfl (enters_of Tryz.func153 (by kernel_rfl) rfl) (c16 n W a b c r1 r2 r3 r4 _ rfl)
 by_cases g17:n.op=17
 ·have e:opL n.op n.w n.k W a b c=vSlice W a n.k n.w:=by rw [g17];simp [opL]
  rw [e];exact iAt 17 154 w h g17 (by decide) rfl (enters_of Tryz.func154 (by kernel_rfl) rfl) (c17 n W a b c hw8)
 by_cases g18:n.op=18
 ·have e:opL n.op n.w n.k W a b c=if a=1 then b else c:=by rw [g18];simp [opL]
  rw [e];exact iAt 18 156 w h g18 (by decide) rfl (enters_of Tryz.func156 (by kernel_rfl) rfl) (c18 n W a b c _ rfl)
 have e:opL n.op n.w n.k W a b c=0:=by
  unfold opL
  rw [if_neg g0,if_neg g2,if_neg g3,if_neg g4,if_neg g5,if_neg g6,if_neg g7,if_neg g8,if_neg g9,if_neg g10,if_neg g11,if_neg g12,if_neg g13,if_neg g14,if_neg g15,if_neg g16,if_neg g17,if_neg g18]
 rw [e]
 by_cases q1:n.op < 0
 ·exact lo w h q1
 by_cases q2:19<=n.op
 ·exact hi w h q2
 exact nil w h (by omega)
end Pw4
end Go.Proofs.YthanhcobfehmnaaGreat
