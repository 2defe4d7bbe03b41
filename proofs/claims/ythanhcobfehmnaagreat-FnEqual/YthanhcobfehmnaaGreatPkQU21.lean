import Derived.Test.YthanhcobfehmnaaGreatPkQU20
namespace Go.Proofs.YthanhcobfehmnaaGreat
set_option maxRecDepth 100000
set_option maxHeartbeats 8000000
set_option linter.unusedVariables false
namespace Dw1
open Go.RowKit
open Nd0 Nd3 Ap2 Dw0
open Dr0 (Cur Only Bytes Off)
theorem push (w:World) (b:Nat) (a:Option Addr) (len cap:Nat) (v:Value) (L:List Nd) (n:Nd) (h:Dr w b a len cap v L) (hl:L.length<=1048576) :
 Calls Tryz.prog 157 #[v,.agg #[.int .i64 n.op,.int .i64 n.w,.int .i64 n.k,.int .i64 n.a,.int .i64 n.b,.int .i64 n.c]] w fun e w'=>∃ v',e=.returned (.tuple #[v',.int .i64 (L.length:Int)])/\Dr w' b a len cap v' (L++[n])/\Stp b v v' w w':=by
 have HD:Hid (Dr w b a len cap v L):=h
 obtain ⟨va,vc,rfl⟩:=h.slice
 have hsz:=h.size
 clear h
 obtain ⟨wb,hwb⟩:∃ wb:World,wb=w.alloc (.cells #[.int .i64 n.op,.int .i64 n.w,.int .i64 n.k,.int .i64 n.a,.int .i64 n.b,.int .i64 n.c] 44):=⟨_,rfl⟩
 have hbel:Below w.heap.size w wb:=by rw [hwb];exact (Below.refl _ _).alloc (Nat.le_refl _) _
 have HD1:Hid (Dr wb b a len cap (.slice va L.length vc) L):=HD.out.below hbel
 have HS1:Hid (Stp b (.slice va L.length vc) (.slice va L.length vc) w wb):=Stp.ofBelow hbel
 have hB:b+1<=wb.heap.size:=HD1.out.size
 have HWB:Hid (wb=w.alloc (.cells #[.int .i64 n.op,.int .i64 n.w,.int .i64 n.k,.int .i64 n.a,.int .i64 n.b,.int .i64 n.c] 44)):=hwb
 have hws:wb.heap.size=w.heap.size+1:=by rw [hwb];simp
 have HWS:Hid (wb.heap.size=w.heap.size+1):=hws
 clear hwb hws hbel
 go_enter Tryz.func157,Tryz.ntmps157
 go_wp2_with (at_builtin;go_must (rw [<- HWB.out];refine app_node wb rfl _ _ rfl (b+1) (.slice va L.length vc) L n rfl (w.heap.size+1) rfl HWS.out.symm HD1.out.own hB hl ?_;intro g5 cp5 w5 ho5 hk5 hg5))
 have HO5:Hid (Ap2.Own w5 (b+1) (.slice (some ⟨g5,0,none⟩) (L.length+1) cp5) (L++[n])):=ho5
 have HK5:Hid (Kept (fun k=>(Value.slice va L.length vc).ownBlock=some k) wb w5):=hk5
 have HG5:Hid ((Value.slice va L.length vc).ownBlock=some g5\/wb.heap.size<=g5):=hg5
 clear ho5 hk5 hg5
 go_wp2
 refine bodyPost_ret (v:=.tuple #[.slice (some ⟨g5,0,none⟩) (L.length+1) cp5,.int .i64 (L.length:Int)]) (by simp [results,Tryz.results157,go_sem]) rfl ?_
 refine ⟨_,rfl,HD1.out.grow HK5.out HO5.out,HS1.out.trans (Stp.grow HK5.out fun k hk=>?_)⟩
 cases hk
 exact HG5.out
end Dw1
namespace Ap0
open Go.RowKit
open Nd0
theorem infoInt:(Tryz.prog.info? 3).map (fun i=>(i.zero,i.size,i.bytes))=some (some (.int .i64 0),1,8):=by kernel_rfl
def Ows (w:World) (B:Nat) (v:Value) (l:List Int):Prop:=w.ownsRow B 3 1 v l.length (l.map fun x=>.int .i64 x)
theorem Ows.form {w:World} {B:Nat} {v:Value} {l:List Int} (h:Ows w B v l):∃ a c,v=.slice a l.length c/\WInts w B a l:=by
 obtain ⟨h1,h2⟩:=h
 rcases h2 with ⟨rfl,h0⟩|⟨g,cap,cur,rfl,hb,hg,hn,hm,hs,ht⟩
 ·have:l=[]:=List.eq_nil_of_length_eq_zero h0
  subst this
  exact ⟨none,0,rfl,Nat.zero_le _,.inl rfl⟩
 ·refine ⟨_,_,rfl,by omega,.inr ⟨g,0,rfl,hb,fun i hi=>⟨?_,?_⟩⟩⟩
  ·rw [Nat.zero_add,cell_of_row w g i cur _ _ hg]
   have e:(cur.toList.take (l.length*1))[i]? = some (.int .i64 l[i]):=by rw [ht];simp [hi]
   rw [List.getElem?_take_of_lt (by omega)] at e
   simpa using e
  ·rw [Nat.zero_add]
   simp [World.frozen?,hg]
theorem Ows.lit (w:World) (B:Nat) (hB:B<=w.heap.size):Ows (w.alloc (.cells #[] 3)) B (.slice (some ⟨w.heap.size,0,none⟩) 0 0) [] :=
 World.ownsRow_lit w #[] 0 hB (Nat.zero_le _) rfl
theorem Ows.lt {w:World} {B:Nat} {v:Value} {l:List Int} (h:Ows w B v l):∀ k,v.ownBlock=some k->B<=k/\k < w.heap.size:=World.ownsRow.lt h
theorem Ows.kept {w w':World} {B:Nat} {v:Value} {l:List Int} (h:Ows w B v l) {S:Nat->Prop} (k:Kept S w w') (hs:∀ i,v.ownBlock=some i->¬ S i):Ows w' B v l:=by
 refine ⟨h.1,?_⟩
 rcases h.2 with hn|⟨g,cap,cur,rfl,hb,hgg,rest⟩
 ·exact .inl hn
 ·refine .inr ⟨g,cap,cur,rfl,hb,?_,rest⟩
  rw [k.block g (Array.getElem?_eq_some_iff.1 hgg).1 (hs g rfl)]
  exact hgg
theorem app_int {ops:Array Oper} {rest:List Oper} {o:Oper} {a:Act} {Q:Exit->Act->World->Prop} (W:World) (hgd:o.guard=none) (s x:Operand)
 (ho:o.op=.call { callee:=.builtin .append,args := #[s,x],argTypes := #[29,29] })
 (B:Nat) (v:Value) (l:List Int) (y:Int) (hs:a.eval s=v) (hx:a.eval x=.slice (some ⟨W.heap.size,0,none⟩) 1 1)
 (hown:Ows W B v l) (hB:B<=W.heap.size) (hlen:l.length<=1048576)
 (h:∀ g cap w',Ows w' B (.slice (some ⟨g,0,none⟩) (l.length+1) cap) (l++[y])->Kept (fun k=>v.ownBlock=some k) W w'->(v.ownBlock=some g\/W.heap.size<=g)->wpList Tryz.prog ops Q rest (a.put o.dst (.slice (some ⟨g,0,none⟩) (l.length+1) cap)) w') :
 wpList Tryz.prog ops Q (o :: rest) a (W.alloc (.cells #[.int .i64 y] 3)):=by
 obtain ⟨i,hi,hzz⟩:=Option.map_eq_some_iff.1 infoInt
 simp only [Prod.mk.injEq] at hzz
 obtain ⟨hz,hsz,hb⟩:=hzz
 refine wpList_append_lies (W.alloc (.cells #[.int .i64 y] 3)) hgd s x 29 ho B 3 i (.int .i64 0) 1 8 Tryz.underlying29 hi hz hsz hb rfl (by omega) v l.length (l.map fun x=>.int .i64 x) hs (World.ownsRow.alloc hown _)
  ⟨W.heap.size,0,none⟩ 1 1 [.int .i64 y] hx rfl ?_ ?_ (by omega) (by unfold maxLen;omega) (by omega) (by simp;omega) _ rfl ?_
 ·intro j u hu
  exact World.news_of_block (heap_alloc_new W _) j u hu
 ·intro u hu
  simp at hu
  subst hu
  rfl
 ·intro g cap w' h1 h2 h3 h4
  refine h g cap w' ?_ ?_ ?_
  ·unfold Ows
   simpa using h1
  ·have k1:Kept (fun k=>v.ownBlock=some k) W (W.alloc (.cells #[.int .i64 y] 3)):=(Kept.refl _ W).alloc _
   exact k1.trans ⟨h2.os,h2.tape,h2.output,h2.size,fun k hk hn=>h2.block k hk (fun e=>hn e.symm)⟩
  ·rcases h3 with h3|h3
   ·exact .inl h3
   ·exact .inr (by rw [h3];simp)
end Ap0
namespace Pl1
open Go.RowKit
def p2 (k:Nat):Int:=2 ^ k
theorem p2_succ (k:Nat):p2 (k+1)=2*p2 k:=by unfold p2;rw [Int.pow_succ];omega
theorem p2_pos (k:Nat):1<=p2 k:=by
 induction k with
 | zero=>simp [p2]
 | succ n ih=>rw [p2_succ];omega
theorem p2_mono {a b:Nat} (h:a<=b):p2 a<=p2 b:=by
 induction b with
 | zero=>have:a=0:=by omega
         subst this;exact Int.le_refl _
 | succ n ih =>
   by_cases e:a=n+1
   ·subst e;exact Int.le_refl _
   ·have:=ih (by omega);have:=p2_pos n;rw [p2_succ];omega
theorem p2_le (k:Nat) (h:k<=8):p2 k<=256:=by
 have:=p2_mono h;have e:p2 8=256:=rfl;omega
def wok (w a:Int):Bool:=decide (1<=w/\w<=8/\0<=a/\a < p2 w.toNat)
theorem wok_iff {w a:Int}:wok w a=true↔1<=w/\w<=8/\0<=a/\a < p2 w.toNat:=by simp [wok]
theorem wok_lt {w a:Int} (h:wok w a=true):0<=a/\a<=255:=by
 obtain ⟨h1,h2,h3,h4⟩:=wok_iff.1 h
 have:=p2_le w.toNat (by omega);omega
theorem eight {w:Int} (h1:1<=w) (h2:w<=8):w=1\/w=2\/w=3\/w=4\/w=5\/w=6\/w=7\/w=8:=by omega
theorem bits_and_u8_nat (a b:Nat) (ha:a < 256) (hb:b < 256):bits .and .u8 (a:Int) (b:Int)=((a &&& b:Nat):Int):=by
 have hx:a &&& b < 2 ^ 8:=Nat.and_lt_two_pow _ (by omega)
 have h1:(BitVec.ofInt 8 (a:Int)).toNat=a:=by
  rw [BitVec.ofInt_natCast,BitVec.toNat_ofNat];exact Nat.mod_eq_of_lt (by omega)
 have h2:(BitVec.ofInt 8 (b:Int)).toNat=b:=by
  rw [BitVec.ofInt_natCast,BitVec.toNat_ofNat];exact Nat.mod_eq_of_lt (by omega)
 show IntKind.u8.wrap ((BitVec.ofInt 8 (a:Int) &&& BitVec.ofInt 8 (b:Int)).toNat:Int)=_
 rw [BitVec.toNat_and,h1,h2]
 simp only [IntKind.wrap,IntKind.signed,IntKind.bits]
 simp
 omega
theorem bits_or_u8_nat (a b:Nat) (ha:a < 256) (hb:b < 256):bits .or .u8 (a:Int) (b:Int)=((a ||| b:Nat):Int):=by
 have hx:a ||| b < 2 ^ 8:=Nat.or_lt_two_pow (by omega) (by omega)
 have h1:(BitVec.ofInt 8 (a:Int)).toNat=a:=by
  rw [BitVec.ofInt_natCast,BitVec.toNat_ofNat];exact Nat.mod_eq_of_lt (by omega)
 have h2:(BitVec.ofInt 8 (b:Int)).toNat=b:=by
  rw [BitVec.ofInt_natCast,BitVec.toNat_ofNat];exact Nat.mod_eq_of_lt (by omega)
 show IntKind.u8.wrap ((BitVec.ofInt 8 (a:Int) ||| BitVec.ofInt 8 (b:Int)).toNat:Int)=_
 rw [BitVec.toNat_or,h1,h2]
 simp only [IntKind.wrap,IntKind.signed,IntKind.bits]
 simp
 omega
theorem and_mask (a:Int) (k:Nat) (h0:0<=a) (h1:a<=255) (hk:k<=8):bits .and .u8 a (p2 k - 1)=a % p2 k:=by
 obtain ⟨n,rfl⟩:=Int.eq_ofNat_of_zero_le h0
 have hp:=p2_pos k
 have hl:=p2_le k hk
 have e:p2 k - 1=((2 ^ k - 1:Nat):Int):=by
  have:1<=2 ^ k:=Nat.one_le_two_pow
  unfold p2;push_cast [this];rfl
 have e2:p2 k=((2 ^ k:Nat):Int):=by unfold p2;push_cast;rfl
 rw [e,bits_and_u8_nat n (2 ^ k - 1) (by omega) (by omega),Nat.and_two_pow_sub_one_eq_mod,e2]
 omega
theorem dvd256 (k:Nat) (hk:k<=8):p2 k∣256:=by
 refine ⟨p2 (8 - k),?_⟩
 unfold p2
 rw [<- Int.pow_add,show k+(8 - k)=8 by omega];rfl
theorem mod256 (x:Int) (k:Nat) (hk:k<=8):x % 256 % p2 k=x % p2 k:=Int.emod_emod_of_dvd x (dvd256 k hk)
theorem wrap_p2 (k:Nat) (hk:k<=8):wrap64 (2 ^ k)=p2 k:=by
 have h:=p2_pos k
 have h':=p2_le k hk
 show wrap64 (p2 k)=p2 k
 unfold wrap64;omega
theorem p2_pow (k:Nat):(2:Int) ^ k=p2 k:=rfl
theorem shl8 (a b:Int) (yk:IntKind) (h:8<=b):Op.shift .shl .u8 a yk b=pure (.int .u8 0):=by
 have hm:min b.toNat 8=8:=by omega
 have hn:¬ b < 0:=by omega
 simp only [Op.shift,IntKind.bits,hm,if_neg hn]
 have:IntKind.u8.wrap (a*2 ^ 8)=0:=by
  simp only [IntKind.wrap,IntKind.signed,IntKind.bits]
  simp
 rw [this]
theorem shr8 (a b:Int) (yk:IntKind) (h:8<=b) (h0:0<=a) (h1:a<=255):Op.shift .shr .u8 a yk b=pure (.int .u8 0):=by
 have hm:min b.toNat 8=8:=by omega
 have hn:¬ b < 0:=by omega
 simp only [Op.shift,IntKind.bits,hm,if_neg hn]
 have:a.fdiv (2 ^ 8)=0:=by
  rw [Int.fdiv_eq_ediv_of_nonneg _ (by decide)];omega
 rw [this]
def vAdd (w a b:Int):Int:=if wok w a&&wok w b then (a+b) % p2 w.toNat else 0
def vSub (w a b:Int):Int:=if wok w a&&wok w b then (a - b) % p2 w.toNat else 0
def vMul (w a b:Int):Int:=if wok w a&&wok w b then a*b % p2 w.toNat else 0
def vDiv (w a b:Int):Int:=if wok w a&&wok w b then (if b=0 then p2 w.toNat - 1 else a / b) else 0
def vRem (w a b:Int):Int:=if wok w a&&wok w b then (if b=0 then a else a % b) else 0
def vShl (w a b:Int):Int:=if wok w a&&wok w b then (if w<=b then 0 else a*p2 b.toNat % p2 w.toNat) else 0
def vShr (w a b:Int):Int:=if wok w a&&wok w b then (if w<=b then 0 else a / p2 b.toNat) else 0
def vFlip (w a:Int):Int:=if wok w a then p2 w.toNat - 1 - a else 0
def sgn (w a:Int):Int:=if p2 (w - 1).toNat<=a then a - p2 w.toNat else a
def vSigned (w a:Int):Int:=if wok w a then sgn w a else 0
def vLess (w a b:Int):Int:=if wok w a&&wok w b&&decide (a < b) then 1 else 0
def vLessSigned (w a b:Int):Int:=if wok w a&&wok w b&&decide (vSigned w a < vSigned w b) then 1 else 0
def vSlice (w a low n:Int):Int:=if wok w a&&decide (0<=low/\1<=n/\n<=w - low) then a / p2 low.toNat % p2 n.toNat else 0
theorem sgn_pos {w a:Int} (h:p2 (w - 1).toNat<=a):sgn w a=a - p2 w.toNat:=if_pos h
theorem sgn_neg {w a:Int} (h:¬ p2 (w - 1).toNat<=a):sgn w a=a:=if_neg h
theorem sgn_hi {w a:Int} (h0:1<=w) (h:p2 (w - 1).toNat<=a):(a / 2 ^ (w.toNat - 1)==0)=false:=by
 rw [p2_pow,show w.toNat - 1=(w - 1).toNat by omega]
 have hp:=p2_pos (w - 1).toNat
 have:1<=a / p2 (w - 1).toNat:=Int.le_ediv_of_mul_le (by omega) (by omega)
 rw [beq_eq_false_iff_ne];omega
theorem sgn_lo {w a:Int} (h0:1<=w) (ha:0<=a) (h:¬ p2 (w - 1).toNat<=a):(a / 2 ^ (w.toNat - 1)==0)=true:=by
 rw [p2_pow,show w.toNat - 1=(w - 1).toNat by omega]
 have:a / p2 (w - 1).toNat=0:=Int.ediv_eq_zero_of_lt ha (by omega)
 rw [beq_iff_eq];exact this
theorem xor255 (a:Int) (h0:0<=a) (h1:a<=255):bits .xor .u8 IntKind.u8.max a=255 - a:=by
 obtain ⟨n,rfl⟩:=Int.eq_ofNat_of_zero_le h0
 have h2:(BitVec.ofInt 8 (n:Int)).toNat=n:=by
  rw [BitVec.ofInt_natCast,BitVec.toNat_ofNat];exact Nat.mod_eq_of_lt (by omega)
 have e:BitVec.ofInt 8 IntKind.u8.max=BitVec.allOnes 8:=by decide
 show IntKind.u8.wrap ((BitVec.ofInt 8 IntKind.u8.max ^^^ BitVec.ofInt 8 (n:Int)).toNat:Int)=_
 rw [e,BitVec.allOnes_xor,BitVec.toNat_not,h2]
 simp only [IntKind.wrap,IntKind.signed,IntKind.bits]
 simp
 omega
theorem flip_spec (a:Int) (k:Nat) (hk:k<=8) (h0:0<=a) (h1:a < p2 k):(255 - a) % p2 k=p2 k - 1 - a:=by
 have hl:=p2_le k hk
 have e:255 - a=(-1 - a) % 256:=by omega
 rw [e,mod256 _ k hk,<- Int.add_emod_right,Int.emod_eq_of_lt (by omega) (by omega)]
 omega
theorem sub_spec (a b:Int) (k:Nat):(a+p2 k - b) % p2 k=(a - b) % p2 k:=by
 rw [show a+p2 k - b=(a - b)+p2 k by omega,Int.add_emod_right]
theorem mul_bd {a b:Int} (ha:0<=a) (ha':a<=255) (hb:0<=b) (hb':b<=255):0<=a*b/\a*b<=65025 :=
 ⟨Int.mul_nonneg ha hb,by have:=Int.mul_le_mul ha' hb' hb (by omega:(0:Int)<=255);omega⟩
theorem emod_le {a:Int} (k:Nat):0<=a % p2 k/\a % p2 k < p2 k :=
 ⟨Int.emod_nonneg _ (by have:=p2_pos k;omega),Int.emod_lt_of_pos _ (by have:=p2_pos k;omega)⟩
end Pl1
namespace Ws1
open Go.RowKit
open Pl1
theorem ret_int {k:IntKind} {a b:Int} (h:a=b):Ending.returned (.int k a)=.returned (.int k b):=by rw [h]
theorem ret_bool {a b:Bool} (h:a=b):Ending.returned (.bool a)=.returned (.bool b):=by rw [h]
theorem spow (m:Int) (w:World) (h0:0<=m) (h1:m<=8) :
 Calls Tryz.prog 62 #[.int .i64 m] w fun e w'=>e=.returned (.int .i64 (p2 m.toNat))/\w'=w:=by
 obtain ⟨n,rfl⟩:=Int.eq_ofNat_of_zero_le h0
 rw [Int.toNat_natCast]
 go_enter Tryz.func62,Tryz.ntmps62
 go_wp2
 go_loop [3,4] (fun x i=>∃ k:Nat,k<=n/\i=.int .i64 k/\x=.int .i64 (p2 k)) (fun _ i=>n - (intOf i).toNat)
 case atStart=>exact ⟨0,Nat.zero_le _,rfl,rfl⟩
 case round =>
  obtain ⟨k,hk,rfl,rfl⟩:=hrel
  have hp:=p2_pos k
  have hl:=p2_le k (by omega)
  by_cases hlt:k < n
  ·go_wp2
   go_round
   case rel=>exact ⟨k+1,by omega,by go_num,by rw [p2_succ]⟩
   case measure=>simp [intOf];omega
  ·go_wp2
   go_ret
   have:k=n:=by omega
   subst this
   exact ⟨rfl,rfl⟩
theorem sIn (x a b:Int) (w:World) :
 Calls Tryz.prog 41 #[.int .i64 x,.int .i64 a,.int .i64 b] w fun e w'=>e=.returned (.bool (decide (a<=x/\x<=b)))/\w'=w:=by
 by_cases h1:a<=x<;>by_cases h2:x<=b
 all_goals
  go_enter Tryz.func41,Tryz.ntmps41
  go_wp2
  go_ret
  exact ⟨ret_bool (by simp<;>omega),rfl⟩
theorem sWordOk (m a:Int) (w:World) :
 Calls Tryz.prog 50 #[.int .i64 m,.int .i64 a] w fun e w'=>e=.returned (.bool (wok m a))/\w'=w:=by
 by_cases h:1<=m/\m<=8
 ·have hp:=p2_pos m.toNat
  have hl:=p2_le m.toNat (by omega)
  have hd:decide (1<=m/\m<=8)=true:=by simpa using h
  go_enter Tryz.func50,Tryz.ntmps50
  go_wp2_with (first|(go_at_call 41;refine (sIn _ _ _ _).mono ?_;rintro e w' ⟨rfl,rfl⟩)|(go_at_call 62;refine (spow m _ (by omega) (by omega)).mono ?_;rintro e w' ⟨rfl,rfl⟩))
  go_ret
  exact ⟨ret_bool (by rw [Bool.eq_iff_iff];simp [wok];omega),rfl⟩
 ·have hd:decide (1<=m/\m<=8)=false:=by simpa using h
  go_enter Tryz.func50,Tryz.ntmps50
  go_wp2_with (go_at_call 41;refine (sIn _ _ _ _).mono ?_;rintro e w' ⟨rfl,rfl⟩)
  go_ret
  exact ⟨ret_bool (by unfold wok;symm;rw [decide_eq_false_iff_not];omega),rfl⟩
end Ws1
end Go.Proofs.YthanhcobfehmnaaGreat
