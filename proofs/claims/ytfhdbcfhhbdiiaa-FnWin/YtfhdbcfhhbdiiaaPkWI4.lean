import Derived.Test.YtfhdbcfhhbdiiaaPkWI3
namespace Go.Proofs.Ytfhdbcfhhbdiiaa
set_option maxRecDepth 100000
set_option maxHeartbeats 8000000
set_option linter.unusedVariables false
namespace Dr2
open Go.RowKit
open Dr0 Dr1 Pl1 Wd1
theorem belowBig (w:World) (b:Nat) (a:Option Addr) (len cap:Nat) (n:Int) (h0:257<=n) (hc:Cur w b a len cap) :
 Calls Try.prog 24 #[.pointer (some ⟨b,0,none⟩),.int .i64 n] w fun e w'=>(∃ x:Int,e=.returned (.int .i64 x)/\0<=x/\x < n)/\Cur w' b a len cap/\Only b w w':=by
 have HC:Hid (Cur w b a len cap):=hc
 clear hc
 go_enter Try.func24,Try.ntmps24
 go_wp2_with fail
 refine (byte _ b a len cap HC.out).mono ?_
 rintro e w1 ⟨⟨x,rfl,hx0,hx1⟩,hc',ho'⟩
 have HC1:Hid (Cur w1 b a len cap):=hc'
 have HO1:Hid (Only b w w1):=ho'
 clear hc' ho'
 go_wp2_with fail
 refine (byte _ b a len cap HC1.out).mono ?_
 rintro e w2 ⟨⟨y,rfl,hy0,hy1⟩,hc',ho'⟩
 have HC2:Hid (Cur w2 b a len cap):=hc'
 have HO2:Hid (Only b w w2):=HO1.out.trans ho'
 clear hc' ho'
 go_wp2_with fail
 refine (byte _ b a len cap HC2.out).mono ?_
 rintro e w3 ⟨⟨z,rfl,hz0,hz1⟩,hc',ho'⟩
 have HC3:Hid (Cur w3 b a len cap):=hc'
 have HO3:Hid (Only b w w3):=HO2.out.trans ho'
 clear hc' ho'
 go_wp2_with fail
 refine (byte _ b a len cap HC3.out).mono ?_
 rintro e w4 ⟨⟨u,rfl,hu0,hu1⟩,hc',ho'⟩
 have HC4:Hid (Cur w4 b a len cap):=hc'
 have HO4:Hid (Only b w w4):=HO3.out.trans ho'
 clear hc' ho'
 go_wp2
 go_ret
 exact ⟨⟨_,rfl,Int.emod_nonneg _ (by omega),Int.emod_lt_of_pos _ (by omega)⟩,HC4.out,HO4.out⟩
theorem pickNew (w:World) (b:Nat) (a:Option Addr) (len cap:Nat) (c:Array Value) (T n:Nat) (h0:1<=n) (h1:n<=256) (hC:∀ i,i < n->∃ v:Int,c[i]? = some (.int .i64 v)) (hc:Cur w b a len cap) :
 Calls Try.prog 42 #[.pointer (some ⟨b,0,none⟩),.slice (some ⟨w.heap.size,0,none⟩) n n] (w.alloc (.cells c T)) fun e w'=>(∃ x:Int,e=.returned (.int .i64 x))/\Cur w' b a len cap/\Only b w w':=by
 have hb:=hc.lt
 refine (pickInt _ b a len cap w.heap.size n n h0 h1 (by omega) ?_ (hc.alloc _)).mono ?_
 ·intro i hi
  obtain ⟨v,hv⟩:=hC i hi
  exact ⟨v,by rw [World.cell?_alloc_new];exact hv⟩
 ·rintro e w' ⟨h1,h2,h3⟩
  exact ⟨h1,h2,((Only.refl b w).alloc _).trans h3⟩
theorem new (w:World) (a:Option Addr) (len cap:Nat) (hb:Bytes w a len) :
 Calls Try.prog 23 #[.slice a len cap] w fun e w'=>e=.returned (.pointer (some ⟨w.heap.size,0,none⟩))/\Cur w' w.heap.size a len cap/\Below w.heap.size w w':=by
 have hm:=hb.1
 unfold maxLen at hm
 have HB:Hid (Bytes w a len):=hb
 clear hb
 go_enter Try.func23,Try.ntmps23
 go_wp2
 go_loop [3,4] (fun h i=>∃ (k:Nat) (x:Int),k<=len/\i=.int .i64 k/\h=.int .i64 x) (fun _ i=>len - (intOf i).toNat)
 case atStart=>exact ⟨0,_,Nat.zero_le _,rfl,rfl⟩
 case round =>
  obtain ⟨k,x,hk,rfl,rfl⟩:=hrel
  by_cases hlt:k < len/\k < 4000
  ·obtain ⟨hlt,hl4⟩:=hlt
   rcases HB.out.2 with h0|⟨xb,xo,rfl,hcell⟩
   ·omega
   obtain ⟨v,hv0,hv1,hv⟩:=hcell k hlt
   clear hcell
   go_wp2
   go_round
   case rel=>exact ⟨k+1,_,by omega,by go_num,rfl⟩
   case measure=>simp [intOf];omega
  ·have hd:(decide ((k:Int) < (len:Int))&&decide ((k:Int) < 4000))=false:=by simp;omega
   by_cases hlt:k < len
   ·have hl4:¬ (k:Int) < 4000:=by omega
    clear hd
    go_wp2
    go_ret
    exact ⟨rfl,Cur.made HB.out x _,(Below.refl _ w).alloc (Nat.le_refl _) _⟩
   ·have hl4:¬ (k:Int) < (len:Int):=by omega
    clear hd
    go_wp2
    go_ret
    exact ⟨rfl,Cur.made HB.out x _,(Below.refl _ w).alloc (Nat.le_refl _) _⟩
end Dr2
namespace Dr3
open Go.RowKit
open Dr0 Dr1 Dr2 Pl1 Wd1
theorem belowAny (w:World) (b:Nat) (a:Option Addr) (len cap:Nat) (n:Int) (h0:1<=n) (hc:Cur w b a len cap) :
 Calls Try.prog 24 #[.pointer (some ⟨b,0,none⟩),.int .i64 n] w fun e w'=>(∃ x:Int,e=.returned (.int .i64 x)/\0<=x/\x < n)/\Cur w' b a len cap/\Only b w w':=by
 by_cases h:n<=256
 ·exact below w b a len cap n h0 h hc
 ·exact belowBig w b a len cap n (by omega) hc
end Dr3
namespace Wd2
open Go.RowKit
open Pl1 Wd1
theorem two_iff {m a b:Int} (h:(wok m a&&wok m b)=true):1<=m/\m<=8/\0<=a/\a < p2 m.toNat/\0<=b/\b < p2 m.toNat/\p2 m.toNat<=256:=by
 rw [Bool.and_eq_true] at h
 obtain ⟨h1,h2,h3,h4⟩:=wok_iff.1 h.1
 obtain ⟨_,_,h5,h6⟩:=wok_iff.1 h.2
 exact ⟨h1,h2,h3,h4,h5,h6,p2_le _ (by omega)⟩
theorem one_iff {m a:Int} (h:wok m a=true):1<=m/\m<=8/\0<=a/\a < p2 m.toNat/\p2 m.toNat<=256:=by
 obtain ⟨h1,h2,h3,h4⟩:=wok_iff.1 h
 exact ⟨h1,h2,h3,h4,p2_le _ (by omega)⟩
end Wd2
namespace Wd3
open Go.RowKit
open Pl1 Wd1 Wd2
theorem div_bd {a b:Int} (ha:0<=a) (hb:0<=b):0<=a / b/\a / b<=a:=⟨Int.ediv_nonneg ha hb,Int.ediv_le_self _ ha⟩
theorem rem_bd {a b:Int} (ha:0<=a) (hb:0<=b) (hz:¬ b=0):0<=a % b/\a % b < b:=⟨Int.emod_nonneg _ hz,Int.emod_lt_of_pos _ (by omega)⟩
end Wd3
namespace Wd4
open Go.RowKit
open Pl1 Wd1 Wd2 Wd3
theorem shl_zero (a:Int) {m b:Int} (h1:1<=m) (h:m<=b):a*p2 b.toNat % p2 m.toNat=0:=by
 have e:p2 b.toNat=p2 m.toNat*p2 (b - m).toNat:=by
  unfold p2;rw [<- Int.pow_add,show m.toNat+(b - m).toNat=b.toNat by omega]
 rw [e,<- Int.mul_assoc,Int.mul_comm a,Int.mul_assoc]
 exact Int.mul_emod_right _ _
theorem shr_zero {a m b:Int} (h0:0<=a) (h:m<=b) (ha:a < p2 m.toNat):a / p2 b.toNat=0:=by
 have:=p2_mono (show m.toNat<=b.toNat by omega)
 exact Int.ediv_eq_zero_of_lt h0 (by omega)
theorem iOne (b:Bool) (w:World) :
 Calls Try.prog 67 #[.bool b] w fun e w'=>e=.returned (.int .i64 (if b then 1 else 0))/\w'=w:=by
 cases b
 all_goals
  go_enter Try.func67,Try.ntmps67
  go_wp2
  go_ret
  exact ⟨rfl,rfl⟩
end Wd4
namespace Wd5
open Go.RowKit
open Pl1 Wd1 Wd2 Wd3 Wd4
theorem less_of {p q:Bool} {x y:Int} (h:(p&&decide (x < y))=q):(if p&&decide (x < y) then (1:Int) else 0)=if q then 1 else 0:=by rw [h]
theorem wrap_sub {m n:Int} (h1:1<=m) (h2:m<=8) (hn:0<=n) (hw:(Lit.int .i64 n).wf=true):wrap64 (m - n)=m - n:=by
 have:n<=9223372036854775807:=by
  simp [Lit.wf,IntKind.min,IntKind.max,IntKind.signed,IntKind.bits] at hw;omega
 unfold wrap64;omega
end Wd5
namespace Lw0
open Go.RowKit
open Dr0 Dr1 Dr2 Dr3 Pl1 Wd1
theorem lat (w:World) (a:Option Addr) (len cap:Nat) (i:Int) (h0:0<=i) (hk:i<=1000) (hb:Bytes w a len) (hs:len<=1048576) :
 Calls Try.prog 10 #[.slice a len cap,.int .i64 i] w fun e w'=>(∃ x:Int,e=.returned (.int .i64 x)/\0<=x/\x<=255)/\w'=w:=by
 obtain ⟨k,rfl⟩:=Int.eq_ofNat_of_zero_le h0
 by_cases hlt:k < len
 ·rcases hb.2 with h0|⟨xb,xo,rfl,hcell⟩
  ·omega
  obtain ⟨v,hv0,hv1,hv⟩:=hcell k hlt
  clear hcell hb
  go_enter Try.func10,Try.ntmps10
  go_wp2
  go_ret
  exact ⟨⟨_,rfl,by omega,by omega⟩,rfl⟩
 ·clear hb
  go_enter Try.func10,Try.ntmps10
  go_wp2
  go_ret
  exact ⟨⟨_,rfl,by omega,by omega⟩,rfl⟩
theorem lbig (w:World) (a:Option Addr) (len cap:Nat) (b:Bool) (hb:b=decide (1048576 < len)) :
 Calls Try.prog 5 #[.slice a len cap] w fun e w'=>e=.returned (.bool b)/\w'=w:=by
 subst hb
 go_enter Try.func5,Try.ntmps5
 go_wp2
 go_ret
 exact ⟨ret_bool (by rw [Bool.eq_iff_iff];simp;omega),rfl⟩
end Lw0
end Go.Proofs.Ytfhdbcfhhbdiiaa
