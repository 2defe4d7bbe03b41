import Derived.Test.YtebejleeadofcaaGreatRows
import Derived.WalkSpells
import Derived.WalkLawsBesides
import Derived.Test.YtebejleeadofcaaGreatDu4
import Derived.Test.YtebejleeadofcaaGreatSp11
import Derived.Test.YtebejleeadofcaaGreatPkFR1
import Derived.Test.YtebejleeadofcaaGreatPkFR0
import Derived.Test.YtebejleeadofcaaGreatPkFR3
import Derived.Test.YtebejleeadofcaaGreatPkFR2
namespace Go.Proofs.YtebejleeadofcaaGreat
set_option maxRecDepth 100000
set_option maxHeartbeats 8000000
set_option linter.unusedVariables false
namespace Du5
open Go.RowKit
open Nd0 Nd3 Ap2 Dw0 Dw1 Du2 Du3 Du4 Dq0 Dw3 Dw4 Tm0 Tm6
open Dr0 (Cur Only Bytes Off)
open Dr1 (once below)
open Sp11 (sSentence)
theorem madeC (d:Nat):MadeC d:=by
 induction d with
 | zero=>exact madeAny 0 (fun d h=>by omega)
 | succ d ih=>exact madeAny (d+1) (fun d' h=>by have:d'=d:=by omega
                                                subst this;exact ih)
def SPost (bits:Int) (b:Nat) (a:Option Addr) (len cap:Nat) (w:World) (e:Ending) (w':World):Prop :=
 ∃ (g c:Nat) (L:List Nd),e=.returned (.slice (some ⟨g,0,none⟩) L.length c)/\Dr w' b a len cap (.slice (some ⟨g,0,none⟩) L.length c) L/\Kept (fun k=>k=b) w w'/\1<=L.length/\L.length<=80/\w.heap.size<=g/\sentB L=true/\sq L<=bits
theorem own_at {w:World} {B:Nat} {v:Value} {l:List Nd} (h:Ap2.Own w B v l) (hl:1<=l.length):∃ g c,v=.slice (some ⟨g,0,none⟩) l.length c:=by
 obtain ⟨h1,h2⟩:=h
 rcases h2 with ⟨rfl,h0⟩|⟨g,cap,cur,rfl,_⟩
 ·omega
 ·exact ⟨g,cap,rfl⟩
theorem sent_len {l:List Nd} (h:sentB l=true):1<=l.length:=by
 have:termOk l=true:=by
  cases ht:termOk l
  ·rw [sent_term ht] at h;cases h
  ·rfl
 exact (term_len this).1
theorem stp_kept {b:Nat} {v v':Value} {w0 w w':World} (hk:Kept (fun k=>k=b) w0 w) (s:Stp b v v' w w') (hv:∀ k,v.ownBlock=some k->w0.heap.size<=k):Kept (fun k=>k=b) w0 w':=by
 refine ⟨s.kept.os.trans hk.os,s.kept.tape.trans hk.tape,s.kept.output.trans hk.output,Nat.le_trans hk.size s.kept.size,fun i hi hb=>?_⟩
 rw [s.kept.block i (Nat.lt_of_lt_of_le hi hk.size) (fun e=>?_)]
 ·exact hk.block i hi hb
 ·rcases e with e|e
  ·exact hb e
  ·have:=hv i e;omega
theorem sentence (w:World) (b:Nat) (a:Option Addr) (len cap:Nat) (bits:Int) (hc:Cur w b a len cap) (hlo:Low a len b) (hb0:1<=bits) (hb1:bits<=100) :
 Calls Tryz.prog 19 #[.pointer (some ⟨b,0,none⟩),.int .i64 bits] w (SPost bits b a len cap w):=by
 have hbs:=hc.lt
 have hB1:Below w.heap.size w (w.alloc (.cells #[] 58)):=(Below.refl _ _).alloc (Nat.le_refl _) _
 have hB2:Below w.heap.size w ((w.alloc (.cells #[] 58)).alloc (.cells #[] 58)):=hB1.alloc (by simp) _
 have HD:Hid (Dr ((w.alloc (.cells #[] 58)).alloc (.cells #[] 58)) b a len cap (.slice (some ⟨w.heap.size,0,none⟩) 0 0) []) :=
  ⟨cur_kept hc (S:=fun _=>False) (Kept.ofBelow hB2) (fun h=>h) (.inr fun _ _ h=>h),World.ownsRow.alloc (Own.lit w _ (by omega)) _,hlo⟩
 have HK:Hid (Kept (fun k=>k=b) w ((w.alloc (.cells #[] 58)).alloc (.cells #[] 58))):=Kept.ofBelow hB2
 clear hc hlo hB1 hB2
 go_enter Tryz.func19,Tryz.ntmps19
 go_wp2_with fail
 refine (madeC 4 _ b a len cap (.slice (some ⟨w.heap.size,0,none⟩) 0 0) [] (some ⟨w.heap.size+1,0,none⟩) [] 0 0 bits 4 rfl HD.out ⟨⟨Nat.zero_le _,.inl rfl⟩,fun x h=>absurd h (Nat.not_lt_zero _)⟩ (fun i h=>absurd h (Nat.not_lt_zero _)) (fun i h=>absurd h (Nat.not_lt_zero _)) (by simp) (by omega) (by omega) hb1 (by show 0+gd 4<=_;decide)).mono ?_
 rintro e w1 ⟨v1,L1,at1,n1,lf1,rfl,hd,hs,hl,_,_,hlf,_,hz⟩
 have HZ1:Hid (sq L1<=bits):=by
  have e0:sq []=0:=rfl
  rw [e0] at hz
  show _<=_
  omega
 clear hz hlf
 obtain ⟨ta,tc,rfl⟩:=hd.slice
 have HD1:Hid (Dr w1 b a len cap (.slice ta L1.length tc) L1):=hd
 have HK1:Hid (Kept (fun k=>k=b) w w1):=stp_kept HK.out hs (fun k hk=>by cases hk;exact Nat.le_refl _)
 have hl1:L1.length<=700:=by
  have:gd 4=655:=by decide
  simp at hl;omega
 have HG1:Hid (∀ k,(Value.slice ta L1.length tc).ownBlock=some k->w.heap.size<=k):=by
  show ∀ _,_
  intro k hk
  rcases hs.new k hk with e|e
  ·cases e;exact Nat.le_refl _
  ·simp at e;omega
 clear hd hs hl HD HK
 have HLIT:Hid (∀ wz:World,Dr wz b a len cap (.slice ta L1.length tc) L1->Kept (fun k=>k=b) w wz->SPost bits b a len cap w (.returned (.slice (some ⟨wz.heap.size,0,none⟩) 2 2)) (wz.alloc (.cells #[.int .i64 1,.int .i64 1,.int .i64 0,.int .i64 0,.int .i64 0,.int .i64 0,.int .i64 20,.int .i64 1,.int .i64 0,.int .i64 0,.int .i64 1,.int .i64 0] 58))):=by
  show ∀ _,_
  intro wz hd hk
  refine ⟨wz.heap.size,2,[⟨1,1,0,0,0,0⟩,⟨20,1,0,0,1,0⟩],rfl,⟨cur_kept hd.cur (S:=fun _=>False) ((Kept.refl _ _).alloc _) (fun h=>h) (.inr fun _ _ h=>h),?_,hd.low⟩,hk.alloc _,by simp,by simp,hk.size,by decide,by show (1:Int)<=_;exact hb0⟩
  exact World.ownsRow_lit wz #[.int .i64 1,.int .i64 1,.int .i64 0,.int .i64 0,.int .i64 0,.int .i64 0,.int .i64 20,.int .i64 1,.int .i64 0,.int .i64 0,.int .i64 1,.int .i64 0] 2 hd.size (by decide) rfl
 by_cases h80:80 < L1.length
 ·have h81:(80:Int) < (L1.length:Int):=by omega
  go_wp2
  go_ret
  exact HLIT.out _ HD1.out HK1.out
 ·have h81:¬ (80:Int) < (L1.length:Int):=by omega
  go_wp2_with fail
  obtain ⟨a2,c2,hv2,hw2⟩:=HD1.out.own.form
  cases hv2
  refine (sSentence _ _ L1 _ hw2.nodes).mono ?_
  rintro e w2 ⟨rfl,hb2⟩
  have HD2:Hid (Dr w2 b a len cap (.slice ta L1.length tc) L1):=HD1.out.below hb2
  have HK2:Hid (Kept (fun k=>k=b) w w2):=HK1.out.trans (Kept.ofBelow hb2)
  clear hb2 hw2
  cases hS:sentB L1
  ·go_wp2
   go_ret
   exact HLIT.out _ HD2.out HK2.out
  ·have HS:Hid (sentB L1=true):=hS
   have h1:=sent_len hS
   obtain ⟨g3,c3,hv3⟩:=own_at HD2.out.own h1
   cases hv3
   clear hS
   go_wp2
   go_ret
   exact ⟨g3,tc,L1,rfl,HD2.out,HK2.out,h1,by omega,HG1.out _ rfl,HS.out,HZ1.out⟩
end Du5
namespace Dr4
open Go.RowKit
open Dr0 Dr1
theorem new (w:World) (a:Option Addr) (len cap:Nat) (hb:Bytes w a len) :
 Calls Tryz.prog 18 #[.slice a len cap] w fun e w'=>e=.returned (.pointer (some ⟨w.heap.size,0,none⟩))/\Cur w' w.heap.size a len cap/\Below w.heap.size w w':=by
 have hm:=hb.1
 unfold maxLen at hm
 have HB:Hid (Bytes w a len):=hb
 clear hb
 go_enter Tryz.func18,Tryz.ntmps18
 go_wp2
 go_loop [3,4] (fun h i=>∃ (k:Nat) (x:Int),k<=len/\i=.int .i64 k/\h=.int .i64 x) (fun _ i=>len - (intOf i).toNat)
 case atStart=>exact ⟨0,_,Nat.zero_le _,rfl,rfl⟩
 case round =>
  obtain ⟨k,x,hk,rfl,rfl⟩:=hrel
  by_cases hlt:k < len/\k < 4000
  ·obtain ⟨hlt,hl4⟩:=hlt
   rcases HB.out.2 with h0|⟨xb,xo,rfl,hcell⟩
   ·omega
   obtain ⟨v,hv0,hv1,hv⟩:=hcell k hlt
   clear hcell
   go_wp2
   go_round
   case rel=>exact ⟨k+1,_,by omega,by go_num,rfl⟩
   case measure=>simp [intOf];omega
  ·have hd:(decide ((k:Int) < (len:Int))&&decide ((k:Int) < 4000))=false:=by simp;omega
   by_cases hlt:k < len
   ·have hl4:¬ (k:Int) < 4000:=by omega
    clear hd
    go_wp2
    go_ret
    exact ⟨rfl,Cur.made HB.out x _,(Below.refl _ w).alloc (Nat.le_refl _) _⟩
   ·have hl4:¬ (k:Int) < (len:Int):=by omega
    clear hd
    go_wp2
    go_ret
    exact ⟨rfl,Cur.made HB.out x _,(Below.refl _ w).alloc (Nat.le_refl _) _⟩
end Dr4
namespace Ds1
open Go.RowKit
open Nd0 Nd3 Tm0 Tm6 Tm11 Ap2 Ap7 Dr0 Dr1 Dr4 Dw0 Dw1 Du5 Dq0
theorem low_of {w:World} {a:Option Addr} {len:Nat} (h:Bytes w a len):Low a len w.heap.size:=by
 rcases h.2 with h0|⟨xb,xo,rfl,hc⟩
 ·exact .inl h0
 ·by_cases hl:len=0
  ·exact .inl hl
  ·refine .inr fun x hx=>?_
   cases hx
   obtain ⟨v,_,_,hv⟩:=hc 0 (by omega)
   exact Nd0.lt_of_cell (p:=⟨xb,xo+0,none⟩) hv
def NPost (w:World) (e:Ending) (w':World):Prop :=
 ∃ (g c:Nat) (L:List Nd),e=.returned (.slice (some ⟨g,0,none⟩) L.length c)/\Nodes w' (some ⟨g,0,none⟩) L/\Below w.heap.size w w'/\1<=L.length/\L.length<=80/\L.length<=c/\sentB L=true/\bitsL L<=8
theorem drawSaid (w:World) (a:Option Addr) (len cap:Nat) (hb:Bytes w a len) :
 Calls Tryz.prog 5 #[.slice a len cap] w (NPost w):=by
 have HB:Hid (Bytes w a len):=hb
 clear hb
 go_enter Tryz.func5,Tryz.ntmps5
 go_wp2_with fail
 refine (Dr4.new _ a len cap HB.out).mono ?_
 rintro e w1 ⟨rfl,hc,hb1⟩
 have HC:Hid (Cur w1 w.heap.size a len cap):=hc
 have HB1:Hid (Below w.heap.size w w1):=hb1
 clear hc hb1
 go_wp2_with fail
 refine (sentence _ w.heap.size a len cap 8 HC.out (low_of HB.out) (by omega) (by omega)).mono ?_
 rintro e w2 ⟨g,c,L,rfl,hd,hk,h1,h2,h3,hS,hQ⟩
 have HSB:Hid (sentB L=true/\bitsL L<=8):=⟨hS,Int.le_trans (bits_le hS) hQ⟩
 have HP:Hid (Nodes w2 (some ⟨g,0,none⟩) L/\Below w.heap.size w w2):=by
  obtain ⟨a9,c9,hv9,hw9⟩:=hd.own.form
  cases hv9
  exact ⟨hw9.nodes,HB1.out.trans (hk.below (fun k (e:k=w.heap.size)=>by omega) HB1.out.size)⟩
 have hcc:L.length<=c:=(own_cap hd.own).2
 clear hd hk hS hQ
 go_wp2
 go_ret
 exact ⟨g,c,L,rfl,HP.out.1,HP.out.2,h1,h2,hcc,HSB.out.1,HSB.out.2⟩
end Ds1
namespace Lw4
open Go.RowKit
open Dr0 Dr1
open Ws1 (ret_int ret_bool)
theorem lbig (w:World) (a:Option Addr) (len cap:Nat) (b:Bool) (hb:b=decide (1048576 < len)) :
 Calls Tryz.prog 4 #[.slice a len cap] w fun e w'=>e=.returned (.bool b)/\w'=w:=by
 subst hb
 go_enter Tryz.func4,Tryz.ntmps4
 go_wp2
 go_ret
 exact ⟨ret_bool (by rw [Bool.eq_iff_iff];simp;omega),rfl⟩
end Lw4
namespace Lw5
open Go.RowKit
open Nd0
theorem sameNodes (w:World) (a a':Option Addr) (l:List Nd) (c c':Nat) (h:Nodes w a l) (h':Nodes w a' l) :
 Calls Tryz.prog 13 #[.slice a l.length c,.slice a' l.length c'] w fun e w'=>e=.returned (.bool true)/\∃ m,w'=w.drewN m:=by
 have H:Hid (Nodes w a l):=h
 have H':Hid (Nodes w a' l):=h'
 have hm:=h.1
 unfold maxLen at hm
 clear h h'
 go_enter Tryz.func13,Tryz.ntmps13
 go_wp2
 go_loopw [5] (fun i wr=>∃ k:Nat,k<=l.length/\i=.int .i64 k/\∃ m,wr=w.drewN m) (fun i _=>l.length - (intOf i).toNat)
 case atStart=>exact ⟨0,Nat.zero_le _,rfl,0,rfl⟩
 case round =>
  obtain ⟨k,hk,rfl,m,rfl⟩:=hrel
  by_cases hlt:k < l.length
  ·have hlz:(k:Int) < (l.length:Int):=by omega
   rcases H.out.2 with h0|⟨xb,xo,rfl,hc⟩
   ·omega
   rcases H'.out.2 with h0|⟨yb,yo,rfl,hc'⟩
   ·omega
   obtain ⟨p0,p1,p2,p3,p4,p5⟩:=hc k hlt
   obtain ⟨q0,q1,q2,q3,q4,q5⟩:=hc' k hlt
   clear hc hc'
   generalize l[k]=x at p0 p1 p2 p3 p4 p5 q0 q1 q2 q3 q4 q5
   obtain ⟨x0,x1,x2,x3,x4,x5⟩:=x
   simp only at p0 p1 p2 p3 p4 p5 q0 q1 q2 q3 q4 q5
   go_wp2
   go_quiet (fail)
   go_wp2
   go_roundw
   case rel=>exact ⟨k+1,by omega,by go_num,_,rfl⟩
   case measure=>simp [intOf];omega
  ·go_wp2
   go_ret
   exact ⟨rfl,_,rfl⟩
end Lw5
namespace Tx0
open Nd0 Pl1 Tm0 Tm1
end Tx0
namespace Tx1
open Nd0 Pl1 Tm0 Tm1 Tx0
end Tx1
namespace Tx2
open Nd0 Pl1 Tm0 Tm1 Tm3 Tm8 Tx0 Tx1
theorem nth_app {t m:List Nd} {j:Nat} (h:j < t.length):nth (t++m) j=nth t j:=by
 unfold nth
 rw [List.getD_eq_getElem?_getD,List.getElem?_append_left h,<- List.getD_eq_getElem?_getD]
end Tx2
namespace Tm7
open Nd0 Pl1 Tm0 Tm1 Tm4
open Go.RowKit
theorem bits_andNot_u8_nat (a b:Nat) (ha:a < 256) (hb:b < 256):bits .andNot .u8 (a:Int) (b:Int)=((a &&& (255 - b):Nat):Int):=by
 have hx:a &&& (255 - b) < 2 ^ 8:=Nat.and_lt_two_pow _ (by omega)
 have h1:(BitVec.ofInt 8 (a:Int)).toNat=a:=by
  rw [BitVec.ofInt_natCast,BitVec.toNat_ofNat];exact Nat.mod_eq_of_lt (by omega)
 have h2:(BitVec.ofInt 8 (b:Int)).toNat=b:=by
  rw [BitVec.ofInt_natCast,BitVec.toNat_ofNat];exact Nat.mod_eq_of_lt (by omega)
 show IntKind.u8.wrap ((BitVec.ofInt 8 (a:Int) &&& ~~~ BitVec.ofInt 8 (b:Int)).toNat:Int)=_
 rw [BitVec.toNat_and,BitVec.toNat_not,h1,h2]
 simp only [IntKind.wrap,IntKind.signed,IntKind.bits]
 simp
 omega
theorem bit_not (b v:Nat) (hb:b < 256) (hv:v < 8):(255 - b).testBit v = !b.testBit v:=by
 have h:=Nat.testBit_two_pow_sub_succ (x:=b) (n:=8) (by omega) v
 have e:2 ^ 8 - (b+1)=255 - b:=by omega
 rw [e] at h
 rw [h,decide_eq_true hv,Bool.true_and]
def numsTo (s k:Nat):List Int:=((List.range k).filter fun v=>s.testBit v).map fun (i:Nat)=>(i:Int)
def Has (s:Nat) (r:List Bool):Prop:=s < 256/\∀ v,v < 8->s.testBit v=flag r v
theorem bit_one (k v:Nat):(2 ^ k).testBit v=decide (k=v):=Nat.testBit_two_pow
def Some_ (s:Nat) (rows:List (List Bool)) (n:Nd) (j:Nat):Prop:=s < 256/\∀ v,v < 8->s.testBit v=((n.op==1&&n.k==(v:Int))||inParts rows ((parts n).take j) v)
theorem some_start_var {rows:List (List Bool)} {n:Nd} {kk:Nat} (h1:n.op=1) (hk:n.k=(kk:Int)) (h7:kk<=7):Some_ (2 ^ kk) rows n 0:=by
 have e:=Nat.pow_le_pow_right (n:=2) (by omega) h7
 refine ⟨by omega,fun v hv=>?_⟩
 rw [bit_one,h1,hk]
 simp only [List.take_zero,inParts,List.any_nil,Bool.or_false]
 rw [Bool.eq_iff_iff];simp
 omega
theorem some_start {rows:List (List Bool)} {n:Nd} (h1:(n.op==1)=false):Some_ 0 rows n 0:=by
 refine ⟨by omega,fun v hv=>?_⟩
 rw [h1];simp [inParts]
theorem some_next {s t:Nat} {rows:List (List Bool)} {n:Nd} {j:Nat} (h:Some_ s rows n j) (hj:j < (parts n).length) (ht:Has t (row rows (parts n)[j])):Some_ (s ||| t) rows n (j+1):=by
 refine ⟨Nat.or_lt_two_pow (n:=8) h.1 ht.1,fun v hv=>?_⟩
 rw [Nat.testBit_or,h.2 v hv,ht.2 v hv,inParts_take _ _ _ _ hj,Bool.or_assoc]
theorem flag_freeRow (rows:List (List Bool)) (n:Nd) (v:Nat) (hv:v < 8):flag (freeRow rows n) v=freeAt rows n v:=by
 simp [flag,freeRow,List.getD,hv]
theorem some_end {s:Nat} {rows:List (List Bool)} {n:Nd} {j:Nat} (h:Some_ s rows n j) (hj:(parts n).length<=j) (hq:(n.op==19||n.op==20)=false):Has s (freeRow rows n):=by
 refine ⟨h.1,fun v hv=>?_⟩
 rw [h.2 v hv,flag_freeRow _ _ _ hv,List.take_of_length_le hj]
 unfold freeAt
 rw [hq];simp
theorem some_end_quant {s:Nat} {rows:List (List Bool)} {n:Nd} {j kk:Nat} (h:Some_ s rows n j) (hj:(parts n).length<=j) (hq:(n.op==19||n.op==20)=true) (hk:n.k=(kk:Int)) (h7:kk<=7):Has (s &&& (255 - 2 ^ kk)) (freeRow rows n):=by
 have e:=Nat.pow_le_pow_right (n:=2) (by omega) h7
 refine ⟨Nat.and_lt_two_pow _ (n:=8) (Nat.lt_of_le_of_lt (Nat.sub_le _ _) (by decide)),fun v hv=>?_⟩
 rw [Nat.testBit_and,h.2 v hv,flag_freeRow _ _ _ hv,List.take_of_length_le hj,bit_not _ _ (by omega) hv,bit_one]
 unfold freeAt
 rw [hq,hk]
 by_cases ev:kk=v
 ·subst ev;simp
 ·have e1:((kk:Int)==(v:Int))=false:=by simp;omega
  rw [e1];simp [ev]
theorem row_old (l:List Nd) (k:Nat) (p:Int) (h0:0<=p) (hp:p < k):row (freeRows l (k+1)) p=row (freeRows l k) p:=by
 unfold row
 show (freeRows l k++[_]).getD p.toNat []=_
 rw [List.getD_eq_getElem?_getD,List.getElem?_append_left (by rw [freeRows_length];omega),<- List.getD_eq_getElem?_getD]
theorem row_new (l:List Nd) (k:Nat):row (freeRows l (k+1)) (k:Int)=freeRow (freeRows l k) (nth l k):=by
 unfold row
 show (freeRows l k++[_]).getD k []=_
 rw [List.getD_eq_getElem?_getD,List.getElem?_append_right (by rw [freeRows_length];exact Nat.le_refl _),freeRows_length]
 simp
theorem nums_free {l:List Nd} {s:Nat} (h:Has s (freeTop l)):numsTo s 8=freeTo l 8:=by
 unfold numsTo freeTo
 congr 1
 apply List.filter_congr
 intro v hv
 exact h.2 v (List.mem_range.1 hv)
theorem set_zero {l:List Nd} {s:Nat} (hT:termOk l=true) (h:Has s (freeTop l)):s=0↔(freeL l).length=0:=by
 have e:freeL l=numsTo s 8:=by unfold freeL;rw [hT,nums_free h];rfl
 rw [e]
 constructor
 ·intro h0;subst h0;simp [numsTo]
 ·intro h0
  apply Nat.eq_of_testBit_eq
  intro v
  rw [Nat.zero_testBit]
  by_cases hv:v < 8
  ·cases hb:s.testBit v
   ·rfl
   ·have:(v:Int)∈numsTo s 8:=by
     unfold numsTo
     exact List.mem_map.2 ⟨v,List.mem_filter.2 ⟨List.mem_range.2 hv,hb⟩,rfl⟩
    rw [List.eq_nil_of_length_eq_zero h0] at this
    cases this
  ·exact Nat.testBit_lt_two_pow (Nat.lt_of_lt_of_le h.1 (Nat.pow_le_pow_right (n:=2) (by omega) (by omega:8<=v)))
end Tm7
namespace Tm12
open Nd0 Pl1 Tm0 Tm1 Tm4 Tm7
theorem nth_app_left {l:List Nd} {n:Nd} {i:Nat} (h:i < l.length):nth (l++[n]) i=nth l i:=by
 unfold nth
 rw [List.getD_eq_getElem?_getD,List.getElem?_append_left h,<- List.getD_eq_getElem?_getD]
theorem nth_app_last (l:List Nd) (n:Nd):nth (l++[n]) l.length=n:=by
 unfold nth
 rw [List.getD_eq_getElem?_getD,List.getElem?_append_right (Nat.le_refl _)]
 simp
theorem nodeOk_app {l:List Nd} {n:Nd} {i:Nat} (hi:i < l.length) (h:nodeOk l i=true):nodeOk (l++[n]) i=true:=by
 have hp:=parts_ok h
 have e:(parts (nth (l++[n]) i)).map (width (l++[n]))=(parts (nth l i)).map (width l):=by
  rw [nth_app_left hi]
  apply List.map_congr_left
  intro p hpm
  obtain ⟨j,hj,rfl⟩:=List.getElem_of_mem hpm
  have:=hp j hj
  unfold width
  rw [nth_app_left (by omega)]
 simp only [nodeOk] at h ⊢
 rw [e,nth_app_left hi]
 exact h
theorem termOk_quant {l:List Nd} (hT:termOk l=true) (hw:(nth l (l.length - 1)).w=1) (hl:l.length < 80) {op k b:Int} (hop:op=19\/op=20) (hk:0<=k/\k<=7) (hb:1<=b/\b<=8) :
 termOk (l++[⟨op,1,k,(l.length:Int) - 1,b,0⟩])=true:=by
 obtain ⟨hl1,hl2⟩:=term_len hT
 refine term_good (by simp;omega) (fun i hi=>?_)
 simp at hi
 by_cases e:i < l.length
 ·exact nodeOk_app e (term_node hT e)
 ·have e2:i=l.length:=by omega
  subst e2
  have hp:parts (nth (l++[⟨op,1,k,(l.length:Int) - 1,b,0⟩]) l.length)=[(l.length:Int) - 1]:=by
   rw [nth_app_last];exact parts_one (by simp only;omega)
  refine (node_kind (fun j hj=>?_) ?_).trans ?_
  ·simp only [hp] at hj ⊢
   simp at hj
   subst hj
   simp;omega
  ·rw [nth_app_last];simp
  ·rw [hp]
   have ew:width (l++[⟨op,1,k,(l.length:Int) - 1,b,0⟩]) ((l.length:Int) - 1)=1:=by
    unfold width
    have:((l.length:Int) - 1).toNat=l.length - 1:=by omega
    rw [this,nth_app_left (by omega)];exact hw
   rw [nth_app_last]
   simp only [List.map_cons,List.map_nil,ew]
   unfold shapeOk
   dsimp only
   rw [if_neg (by omega),if_neg (by omega),if_neg (by omega),if_neg (by omega),if_neg (by omega),if_neg (by omega),if_neg (by omega),if_neg (by omega),if_pos hop]
   simp;omega
theorem freeRows_app (l:List Nd) (n:Nd):∀ k,k<=l.length->freeRows (l++[n]) k=freeRows l k:=by
 intro k
 induction k with
 | zero=>intro _;rfl
 | succ k ih =>
   intro hk
   show freeRows (l++[n]) k++[_]=freeRows l k++[_]
   rw [ih (by omega),nth_app_left (by omega)]
theorem free_quant {l:List Nd} (hT:termOk l=true) (hw:(nth l (l.length - 1)).w=1) (hl:l.length < 80) {op k b:Int} (hop:op=19\/op=20) (hk:0<=k/\k<=7) (hb:1<=b/\b<=8) :
 freeL (l++[⟨op,1,k,(l.length:Int) - 1,b,0⟩])=(freeL l).filter (fun x=>x != k):=by
 obtain ⟨hl1,hl2⟩:=term_len hT
 have hT2:=termOk_quant hT hw hl hop hk hb
 have et:freeTop (l++[⟨op,1,k,(l.length:Int) - 1,b,0⟩])=freeRow (freeRows l l.length) ⟨op,1,k,(l.length:Int) - 1,b,0⟩:=by
  unfold freeTop
  have e1:((l++[(⟨op,1,k,(l.length:Int) - 1,b,0⟩:Nd)]).length:Int) - 1=(l.length:Int):=by simp
  have e2:(l++[(⟨op,1,k,(l.length:Int) - 1,b,0⟩:Nd)]).length=l.length+1:=by simp
  rw [e1,e2,row_new,nth_app_last,freeRows_app l _ _ (Nat.le_refl _)]
 have ef:∀ v,v < 8->flag (freeTop (l++[⟨op,1,k,(l.length:Int) - 1,b,0⟩])) v=(flag (freeTop l) v && !(k==(v:Int))):=by
  intro v hv
  rw [et,flag_freeRow _ _ _ hv]
  unfold freeAt
  have hq:((op==19)||(op==20))=true:=by simp;omega
  have h1:(op==1)=false:=by simp;omega
  have hp:parts (⟨op,1,k,(l.length:Int) - 1,b,0⟩:Nd)=[(l.length:Int) - 1]:=parts_one (by simp only;omega)
  dsimp only
  rw [hq,h1,hp]
  have hin:inParts (freeRows l l.length) [(l.length:Int) - 1] v=flag (freeTop l) v:=by simp [inParts,freeTop]
  rw [hin]
  cases hkv:(k==(v:Int))<;>simp
 unfold freeL
 rw [hT,hT2]
 simp only [if_true]
 unfold freeTo
 rw [List.filter_map]
 congr 1
 rw [List.filter_filter]
 apply List.filter_congr
 intro v hv
 rw [ef v (List.mem_range.1 hv)]
 simp only [Function.comp]
 rw [Bool.and_comm]
 congr 1
 cases hkv:(k==(v:Int))
 ·have:¬ k=(v:Int):=by simpa using hkv
  simp;exact fun e=>this e.symm
 ·have:k=(v:Int):=by simpa using hkv
  simp [this]
end Tm12
namespace Tx3
open Nd0 Pl1 Tm0 Tm1 Tm3 Tm8 Tx0 Tx1 Tx2
end Tx3
namespace Tr0
open Nd0 Pl1 Tm0 Tm1 Tm3 Tm8 Tx0 Tx1 Tx2 Tx3
inductive Tr where
 | leaf (op w k:Int)
 | one (op w k b:Int) (x:Tr)
 | two (op w:Int) (x y:Tr)
 | three (op w:Int) (x y z:Tr)
def Tr.nil:Tr:=.leaf 0 0 0
def Tr.op:Tr->Int
 | .leaf o _ _=>o
 | .one o _ _ _ _=>o
 | .two o _ _ _=>o
 | .three o _ _ _ _=>o
def Tr.wid:Tr->Int
 | .leaf _ w _=>w
 | .one _ w _ _ _=>w
 | .two _ w _ _=>w
 | .three _ w _ _ _=>w
def mkF (n:Nd) (f:Nat->Tr):Tr :=
 if n.op=2\/n.op=17\/n.op=19\/n.op=20 then .one n.op n.w n.k n.b (f n.a.toNat)
 else if 3<=n.op/\n.op<=16 then .two n.op n.w (f n.a.toNat) (f n.b.toNat)
 else if n.op=18 then .three n.op n.w (f n.a.toNat) (f n.b.toNat) (f n.c.toNat)
 else .leaf n.op n.w n.k
def trTo (l:List Nd):Nat->List Tr
 | 0=>[]
 | k+1=>trTo l k++[mkF (nth l k) fun i=>(trTo l k).getD i Tr.nil]
def tr (l:List Nd) (i:Nat):Tr:=(trTo l l.length).getD i Tr.nil
theorem mk_one {n:Nd} (h:n.op=2\/n.op=17\/n.op=19\/n.op=20) (f:Nat->Tr):mkF n f=.one n.op n.w n.k n.b (f n.a.toNat):=if_pos h
theorem mk_two {n:Nd} (h:3<=n.op/\n.op<=16) (f:Nat->Tr):mkF n f=.two n.op n.w (f n.a.toNat) (f n.b.toNat):=by unfold mkF;rw [if_neg (by omega),if_pos h]
theorem mk_three {n:Nd} (h:n.op=18) (f:Nat->Tr):mkF n f=.three n.op n.w (f n.a.toNat) (f n.b.toNat) (f n.c.toNat):=by unfold mkF;rw [if_neg (by omega),if_neg (by omega),if_pos h]
theorem mk_leaf {n:Nd} (h:¬ (n.op=2\/n.op=17\/n.op=19\/n.op=20)) (h2:¬ (3<=n.op/\n.op<=16)) (h3:¬ n.op=18) (f:Nat->Tr):mkF n f=.leaf n.op n.w n.k:=by unfold mkF;rw [if_neg h,if_neg h2,if_neg h3]
theorem mk_wid (n:Nd) (f:Nat->Tr):(mkF n f).wid=n.w:=by
 unfold mkF
 split
 ·rfl
 ·split
  ·rfl
  ·split<;>rfl
theorem mk_congr {n:Nd} {f g:Nat->Tr} (h:∀ p∈parts n,f p.toNat=g p.toNat):mkF n f=mkF n g:=by
 by_cases h1:n.op=2\/n.op=17\/n.op=19\/n.op=20
 ·rw [parts_one h1] at h
  rw [mk_one h1,mk_one h1,h n.a (by simp)]
 ·by_cases h2:3<=n.op/\n.op<=16
  ·rw [parts_two h2] at h
   rw [mk_two h2,mk_two h2,h n.a (by simp),h n.b (by simp)]
  ·by_cases h3:n.op=18
   ·rw [parts_three h3] at h
    rw [mk_three h3,mk_three h3,h n.a (by simp),h n.b (by simp),h n.c (by simp)]
   ·rw [mk_leaf h1 h2 h3,mk_leaf h1 h2 h3]
theorem trTo_length (l:List Nd) (k:Nat):(trTo l k).length=k:=by
 induction k with
 | zero=>rfl
 | succ k ih=>show (trTo l k++[_]).length=_;rw [List.length_append,ih];rfl
theorem tr_prefix (l:List Nd) {i k:Nat} (hi:i < k):∀ n,k<=n->(trTo l n).getD i Tr.nil=(trTo l k).getD i Tr.nil:=by
 intro n hn
 obtain ⟨d,rfl⟩:∃ d,n=k+d:=⟨n - k,by omega⟩
 clear hn
 induction d with
 | zero=>rfl
 | succ d ih =>
   rw [<- ih]
   show (trTo l (k+d)++[_]).getD i Tr.nil=_
   rw [List.getD_eq_getElem?_getD,List.getElem?_append_left (by rw [trTo_length];omega),<- List.getD_eq_getElem?_getD]
theorem tr_at {l:List Nd} (hD:Down l) {i:Nat} (hi:i < l.length):tr l i=mkF (nth l i) (tr l):=by
 unfold tr
 rw [tr_prefix l (k:=i+1) (by omega) l.length (by omega)]
 show (trTo l i++[mkF (nth l i) fun j=>(trTo l i).getD j Tr.nil]).getD i Tr.nil=_
 rw [List.getD_eq_getElem?_getD,List.getElem?_append_right (by rw [trTo_length];exact Nat.le_refl _),trTo_length,Nat.sub_self]
 show mkF (nth l i) (fun j=>(trTo l i).getD j Tr.nil)=_
 refine mk_congr (fun p hp=>?_)
 have:=hD i hi p hp
 exact (tr_prefix l (i:=p.toNat) (k:=i) (by omega) l.length (by omega)).symm
theorem trTo_app (t m:List Nd):∀ k,k<=t.length->trTo (t++m) k=trTo t k:=by
 intro k
 induction k with
 | zero=>intro _;rfl
 | succ k ih =>
   intro hk
   show trTo (t++m) k++[_]=trTo t k++[_]
   rw [ih (by omega),nth_app (by omega)]
theorem tr_app (t m:List Nd) {j:Nat} (h:j < t.length):tr (t++m) j=tr t j:=by
 unfold tr
 rw [tr_prefix (t++m) (k:=t.length) h (t++m).length (by simp),trTo_app t m _ (Nat.le_refl _)]
end Tr0
namespace Pl2
open Go.RowKit
open Pl1
theorem wok_mod {m:Int} (x:Int) (h1:1<=m) (h2:m<=8):wok m (x % p2 m.toNat)=true :=
 wok_iff.2 ⟨h1,h2,emod_le _⟩
theorem add_eq {m a b:Int} (ha:wok m a=true) (hb:wok m b=true):vAdd m a b=(a+b) % p2 m.toNat:=by simp [vAdd,ha,hb]
theorem sub_eq {m a b:Int} (ha:wok m a=true) (hb:wok m b=true):vSub m a b=(a - b) % p2 m.toNat:=by simp [vSub,ha,hb]
theorem mul_eq {m a b:Int} (ha:wok m a=true) (hb:wok m b=true):vMul m a b=a*b % p2 m.toNat:=by simp [vMul,ha,hb]
theorem flip_eq {m a:Int} (ha:wok m a=true):vFlip m a=p2 m.toNat - 1 - a:=by simp [vFlip,ha]
theorem wok_add {m a b:Int} (ha:wok m a=true) (hb:wok m b=true):wok m (vAdd m a b)=true:=by
 obtain ⟨h1,h2,_⟩:=wok_iff.1 ha
 rw [add_eq ha hb];exact wok_mod _ h1 h2
theorem wok_sub {m a b:Int} (ha:wok m a=true) (hb:wok m b=true):wok m (vSub m a b)=true:=by
 obtain ⟨h1,h2,_⟩:=wok_iff.1 ha
 rw [sub_eq ha hb];exact wok_mod _ h1 h2
theorem wok_mul {m a b:Int} (ha:wok m a=true) (hb:wok m b=true):wok m (vMul m a b)=true:=by
 obtain ⟨h1,h2,_⟩:=wok_iff.1 ha
 rw [mul_eq ha hb];exact wok_mod _ h1 h2
theorem wok_flip {m a:Int} (ha:wok m a=true):wok m (vFlip m a)=true:=by
 obtain ⟨h1,h2,h3,h4⟩:=wok_iff.1 ha
 rw [flip_eq ha];exact wok_iff.2 ⟨h1,h2,by omega,by omega⟩
theorem wok_zero {m:Int} (h1:1<=m) (h2:m<=8):wok m 0=true:=wok_iff.2 ⟨h1,h2,by omega,by have:=p2_pos m.toNat;omega⟩
end Pl2
end Go.Proofs.YtebejleeadofcaaGreat
