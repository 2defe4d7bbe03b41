import Derived.Deep.CutRange
import Derived.Test.YtfhdbcfhhbdiiaaPkWI2
import Derived.Test.YtfhdbcfhhbdiiaaWr5
import Derived.Test.YtfhdbcfhhbdiiaaDm1
import Derived.Test.YtfhdbcfhhbdiiaaPkWI1
namespace Go.Proofs.Ytfhdbcfhhbdiiaa
set_option maxRecDepth 100000
set_option maxHeartbeats 8000000
set_option linter.unusedVariables false
namespace Tds
open Go.RowKit
open Ta0 Ta1 Tc2 Tc5 Td1 Td2 Tdr
open Nd0 (Kept set_same)
open Dr0 (Cur Only Bytes)
/-- What stands while any table is drawn. -/
structure DA (w:World) (b:Nat) (a:Option Addr) (len cap q:Nat) (N:Int) (S:ByteArray) (W:World):Prop where
 cur:Cur W b a len cap
 res:Lay W w.heap.size (.int .i64 0) (.string ByteArray.empty)
 box:Lay W q (.int .i64 N) (.string S)
 onl:Only b w W
theorem DA.only {w W W':World} {b:Nat} {a:Option Addr} {len cap q:Nat} {N:Int} {S:ByteArray} (h:DA w b a len cap q N S W) (hb:b < w.heap.size) (hq:w.heap.size < q) (hc:Cur W' b a len cap) (ho:Only b W W'):DA w b a len cap q N S W' :=
 ⟨hc,h.res.kept (kept_of_only ho) (by omega),h.box.kept (kept_of_only ho) (by omega),h.onl.trans ho⟩
theorem only_set {b z o:Nat} {u W:World} (h:Only b u W) (hz:u.heap.size<=z) (x:Value):Only b u (W.setCell ⟨z,o,none⟩ x):=by
 have K:=kset (S:=fun k=>k=z) (Kept.refl (fun k=>k=z) W) (b:=z) (o:=o) rfl x
 exact ⟨K.os.trans h.os,K.tape.trans h.tape,K.output.trans h.output,Nat.le_trans h.size K.size,fun i hi hb=>(K.block i (Nat.lt_of_lt_of_le hi h.size) (by omega)).trans (h.block i hi hb)⟩
theorem cur_set {b z o:Nat} {W:World} {a:Option Addr} {len cap B:Nat} (h:Cur W b a len cap) (hb:b < B) (hlo:Low a len B) (hz:B<=z) (x:Value):Cur (W.setCell ⟨z,o,none⟩ x) b a len cap:=by
 have K:=kset (S:=fun k=>k=z) (Kept.refl (fun k=>k=z) W) (b:=z) (o:=o) rfl x
 exact cur_kept h K (by omega) (hlo.imp id fun h x hx=>by have:=h x hx;omega)
theorem DA.setN {w W:World} {b:Nat} {a:Option Addr} {len cap q:Nat} {N:Int} {S:ByteArray} (h:DA w b a len cap q N S W) (hb:b < w.heap.size) (hlo:Low a len w.heap.size) (hq:w.heap.size < q) (x:Int):DA w b a len cap q x S (W.setCell ⟨q,0,none⟩ (.int .i64 x)):=by
 have K:=kset (S:=fun k=>k=q) (Kept.refl (fun k=>k=q) W) (b:=q) (o:=0) rfl (.int .i64 x)
 exact ⟨cur_set h.cur hb hlo (by omega) _,h.res.kept K (by omega),⟨set_same h.box.c0,by rw [Nd0.set_other (by simp)];exact h.box.c1,by rw [World.frozen?_setCell];exact h.box.f0,by rw [World.frozen?_setCell];exact h.box.f1⟩,only_set h.onl (by omega) _⟩
theorem DA.setS {w W:World} {b:Nat} {a:Option Addr} {len cap q:Nat} {N:Int} {S:ByteArray} (h:DA w b a len cap q N S W) (hb:b < w.heap.size) (hlo:Low a len w.heap.size) (hq:w.heap.size < q) (T:ByteArray):DA w b a len cap q N T (W.setCell ⟨q,1,none⟩ (.string T)):=by
 have K:=kset (S:=fun k=>k=q) (Kept.refl (fun k=>k=q) W) (b:=q) (o:=1) rfl (.string T)
 exact ⟨cur_set h.cur hb hlo (by omega) _,h.res.kept K (by omega),⟨by rw [Nd0.set_other (by simp)];exact h.box.c0,set_same h.box.c1,by rw [World.frozen?_setCell];exact h.box.f0,by rw [World.frozen?_setCell];exact h.box.f1⟩,only_set h.onl (by omega) _⟩
theorem l06Any (w:World) (b:Nat) (a:Option Addr) (len cap:Nat) (hc:Cur w b a len cap) :
 Calls Try.prog 71 #[.pointer (some ⟨b,0,none⟩)] w fun e w'=>(∃ (N:Int) (S:ByteArray),e=.returned (tv N S)/\S.size<=64)/\Cur w' b a len cap/\Only b w w':=by
 have HLO:Hid (Low a len w.heap.size):=low_of hc.bytes
 have hbl:b < w.heap.size:=hc.lt
 have HC0:Hid (Cur (w.alloc (.cells #[.int .i64 0,.string ByteArray.empty] 26)) b a len cap):=hc.alloc _
 have HR0:Hid (Lay (w.alloc (.cells #[.int .i64 0,.string ByteArray.empty] 26)) w.heap.size (.int .i64 0) (.string ByteArray.empty)):=Lay.made _ _ _ _
 have HO0:Hid (Only b w (w.alloc (.cells #[.int .i64 0,.string ByteArray.empty] 26))):=(Only.refl _ _).alloc _
 clear hc
 go_enter Try.func71,Try.ntmps71
 go_wp2_with fail
 refine (Dr1.below _ b a len cap 6 (by omega) (by omega) HC0.out).mono ?_
 rintro e w1 ⟨⟨x,rfl,hx0,hx1⟩,hc1,ho1⟩
 obtain ⟨n,rfl⟩:=Int.eq_ofNat_of_zero_le hx0
 have HC1:Hid (Cur w1 b a len cap):=hc1
 have HR1:Hid (Lay w1 w.heap.size (.int .i64 0) (.string ByteArray.empty)):=HR0.out.kept (kept_of_only ho1) (by omega)
 have HO1:Hid (Only b w w1):=HO0.out.trans ho1
 clear hc1 ho1
 go_wp2_with fail
 refine (l06Table _ b a len cap n (by omega) HC1.out).mono ?_
 rintro e w2 ⟨⟨S,rfl,hS1,hS2⟩,hc2,ho2⟩
 have HD2:Hid (DA w b a len cap w2.heap.size (n:Int) S (w2.alloc (.cells #[.int .i64 (n:Int),.string S] 26))) :=
  ⟨hc2.alloc _,(HR1.out.kept (kept_of_only ho2) (by omega)).alloc _,Lay.made _ _ _ _,(HO1.out.trans ho2).alloc _⟩
 have hq:w.heap.size < w2.heap.size:=(HR1.out.kept (kept_of_only ho2) (by omega)).lt
 clear hc2 ho2
 go_wp2_with fail
 refine (Dr1.below _ b a len cap 14 (by omega) (by omega) HD2.out.cur).mono ?_
 rintro e w3 ⟨⟨y,rfl,hy0,hy1⟩,hc3,ho3⟩
 have HD3:Hid (DA w b a len cap w2.heap.size (n:Int) S w3):=HD2.out.only hbl hq hc3 ho3
 clear hc3 ho3
 have hFIN:Hid (∀ (N:Int) (T:ByteArray) (W:World),DA w b a len cap w2.heap.size N T W->∃ W',W'=(W.setCell ⟨w.heap.size,0,none⟩ (.int .i64 N)).setCell ⟨w.heap.size,1,none⟩ (.string T)/\Lay W' w.heap.size (.int .i64 N) (.string T)/\Cur W' b a len cap/\Only b w W'):=fun N T W h =>
  ⟨_,rfl,h.res.put _ _,cur_set (cur_set h.cur hbl HLO.out (Nat.le_refl _) _) hbl HLO.out (Nat.le_refl _) _,only_set (only_set h.onl (Nat.le_refl _) _) (Nat.le_refl _) _⟩
 by_cases h0:y=0
 ·have hw0:(y==0)=true:=by rw [h0];rfl
  clear h0
  obtain ⟨x0,x1,x2,x3⟩:=HD3.out.box
  go_wp2_with fail
  refine (Dr4.pickNew w3 b a len cap _ _ 3 (by omega) (by omega) (fun i hi=>by
   rcases (by omega:i=0\/i=1\/i=2) with rfl|rfl|rfl
   ·exact ⟨_,rfl⟩
   ·exact ⟨_,rfl⟩
   ·exact ⟨_,rfl⟩) HD3.out.cur).mono ?_
  rintro e w4 ⟨⟨x,rfl⟩,hc4,ho4⟩
  have HD4:Hid (DA w b a len cap w2.heap.size (n:Int) S w4):=HD3.out.only hbl hq hc4 ho4
  clear hc4 ho4 x0 x1 x2 x3
  obtain ⟨x0,x1,x2,x3⟩:=HD4.out.box
  have HD5:=HD4.out.setN hbl HLO.out hq x
  have HD6:Hid _:=HD5
  clear HD5
  obtain ⟨y0,y1,_,_⟩:=HD6.out.box
  obtain ⟨r0,r1,r2,r3⟩:=HD6.out.res
  go_wp2
  obtain ⟨W,hW,hz,hcw,how⟩:=hFIN.out _ _ _ HD6.out
  rw [<- hW]
  obtain ⟨z0,z1,_,_⟩:=hz
  exact bodyPost_ret (v:=tv x S) (by simp [results,Try.results71,go_sem,z0,z1]) rfl ⟨⟨x,S,rfl,hS2⟩,hcw,how⟩
 ·have hw0:(y==0)=false:=beq_eq_false_iff_ne.2 h0
  clear h0
  obtain ⟨x0,x1,x2,x3⟩:=HD3.out.box
  obtain ⟨r0,r1,r2,r3⟩:=HD3.out.res
  by_cases h1:y=1
  ·have hw1:(y==1)=true:=by rw [h1];rfl
   clear h1
   have hSz:(1:Int)<=(S.size:Int):=by omega
   have HD5:Hid (DA w b a len cap w2.heap.size (n:Int) (S.extract 1 S.size++⟨#[50]⟩) (w3.setCell ⟨w2.heap.size,1,none⟩ (.string (S.extract 1 S.size++⟨#[50]⟩)))):=HD3.out.setS hbl HLO.out hq _
   obtain ⟨y0,y1,_,_⟩:=HD5.out.box
   obtain ⟨s0,s1,s2,s3⟩:=HD5.out.res
   have HZ:Hid ((S.extract 1 S.size++⟨#[50]⟩).size<=64):=by
    show _<=_
    have h2:(S.extract 1 S.size).size=S.size - 1:=by rw [ByteArray.size_extract];omega
    rw [ByteArray.size_append,h2]
    show S.size - 1+1<=64
    omega
   go_wp2
   obtain ⟨W,hW,hz,hcw,how⟩:=hFIN.out _ _ _ HD5.out
   rw [<- hW]
   obtain ⟨z0,z1,_,_⟩:=hz
   exact bodyPost_ret (v:=tv (n:Int) (S.extract 1 S.size++⟨#[50]⟩)) (by simp [results,Try.results71,go_sem,z0,z1]) rfl ⟨⟨_,_,rfl,HZ.out⟩,hcw,how⟩
  ·have hw1:(y==1)=false:=beq_eq_false_iff_ne.2 h1
   clear h1
   go_wp2
   obtain ⟨W,hW,hz,hcw,how⟩:=hFIN.out _ _ _ HD3.out
   rw [<- hW]
   obtain ⟨z0,z1,_,_⟩:=hz
   exact bodyPost_ret (v:=tv (n:Int) S) (by simp [results,Try.results71,go_sem,z0,z1]) rfl ⟨⟨(n:Int),S,rfl,hS2⟩,hcw,how⟩
end Tds
namespace Wt2
open Go.RowKit
open Ta0 Ta1 Tc2 Tc5 Tdw Ap1 Ddr
open Nd0 (Kept set_same set_other lt_of_cell)
open Nd0 (Ints)
open Nd6 (Bools)
open Dr0 (Cur Only Bytes)
open Ss0 (bs bs_size)
open Td2 (finT)
open Wr5 (step_call)
set_option linter.unusedSimpArgs false
theorem sMod (x n:Int) (w:World) (h0:1<=n) (h1:n<=1000) :
 Calls Try.prog 72 #[.int .i64 x,.int .i64 n] w fun e w'=>(∃ y:Nat,e=.returned (.int .i64 (y:Int))/\(y:Int) < n)/\w'=w:=by
 have hn0:(n==0)=false:=beq_eq_false_iff_ne.2 (by omega)
 have hm1:IntKind.i64.wrap (x.tmod n)=x.tmod n:=by
  have h2:=Int.tmod_lt_of_pos x (show 0 < n by omega)
  have h3 : -n < x.tmod n:=Int.lt_tmod_of_pos x (by omega)
  rw [IntKind.wrap_i64]<;>omega
 have h2:=Int.tmod_lt_of_pos x (show 0 < n by omega)
 have h3 : -n < x.tmod n:=Int.lt_tmod_of_pos x (by omega)
 by_cases hneg:x.tmod n < 0
 ·go_enter Try.func72,Try.ntmps72
  go_wp2
  go_ret
  exact ⟨⟨(x.tmod n+n).toNat,congrArg Ending.returned (congrArg (Value.int .i64) (by omega)),by omega⟩,rfl⟩
 ·go_enter Try.func72,Try.ntmps72
  go_wp2
  go_ret
  exact ⟨⟨(x.tmod n).toNat,congrArg Ending.returned (congrArg (Value.int .i64) (by omega)),by omega⟩,rfl⟩
/-- A row and any table are given back. -/
def AnyD (w:World) (e:Ending) (w':World):Prop:=(∃ (N:Int) (S:ByteArray) (row:List Bool) (ra:Option Addr) (c:Nat),S.size<=64/\row.length<=20/\row.length<=c/\e=.returned (.tuple #[.slice ra row.length c,tv N S])/\Bools w' ra row/\∀ x,ra=some x->0 < row.length->w.heap.size < x.block)/\Below w.heap.size w w'
theorem drawAny (w:World) (a:Option Addr) (len cap:Nat) (hb:Bytes w a len) :
 Calls Try.prog 40 #[.slice a len cap] w (AnyD w):=by
 have HB0:Hid (Bytes (w.alloc (.cells #[.int .i64 0,.string ByteArray.empty] 26)) a len):=hb.below ((Below.refl _ _).alloc (Nat.le_refl _) _)
 clear hb
 go_enter Try.func40,Try.ntmps40
 go_wp2_with fail
 refine (Dr4.new _ a len cap HB0.out).mono ?_
 rintro e w1 ⟨rfl,hc1,hb1⟩
 have HR1:Hid (Lay w1 w.heap.size (.int .i64 0) (.string ByteArray.empty)):=(Lay.made w _ _ _).below hb1
 have HB1:Hid (Below w.heap.size w w1):=((Below.refl _ _).alloc (Nat.le_refl _) _).trans (hb1.mono (by simp))
 have hc1':Cur w1 (w.heap.size+1) a len cap:=by simpa using hc1
 have HC1:Hid (Cur w1 (w.heap.size+1) a len cap):=hc1'
 clear hb1 hc1 hc1'
 go_wp2_with fail
 refine (Tds.l06Any _ (w.heap.size+1) a len cap HC1.out).mono ?_
 rintro e w2 ⟨⟨N,S,rfl,hS⟩,hc2,ho2⟩
 obtain ⟨w3,hw3⟩:∃ z,z=w2.alloc (.cells #[.int .i64 N,.string S] 26):=⟨_,rfl⟩
 obtain ⟨qt,hqt⟩:∃ z,z=w2.heap.size:=⟨_,rfl⟩
 have hb3:Below w2.heap.size w2 w3:=by rw [hw3];exact (Below.refl _ _).alloc (Nat.le_refl _) _
 have HT3:Hid (Lay w3 qt (.int .i64 N) (.string S)):=by rw [hw3,hqt];exact Lay.made _ _ _ _
 have HQ3:Hid (w.heap.size+1 < qt):=by rw [hqt];exact hc2.lt
 have HC3:Hid (Cur w3 (w.heap.size+1) a len cap):=by rw [hw3];exact hc2.alloc _
 have HR3:Hid (Lay w3 w.heap.size (.int .i64 0) (.string ByteArray.empty)):=(HR1.out.kept (kept_of_only ho2) (by omega)).below hb3
 have HB3:Hid (Below w.heap.size w w3):=(HB1.out.trans (ho2.below (by omega) HB1.out.size)).trans (hb3.mono (Nat.le_trans HB1.out.size ho2.size))
 go_upto_region 3 with fail
 rw [<- hw3,<- hqt]
 clear hw3 hqt hb3 hc2 ho2 HC1 HR1 HB1
 obtain ⟨t0,t1,_,_⟩:=HT3.out
 have tl:=lt_of_cell t0
 go_wp2_with fail
 clear t0 t1 tl
 refine (sMod N 14 w3 (by omega) (by omega)).mono ?_
 rintro e w' ⟨⟨y,rfl,hy⟩,hq⟩
 have hq':=hq.symm
 clear hq
 subst hq'
 go_wp2_with fail
 refine (Dr1.once _ (w.heap.size+1) a len cap 15 (by omega) (by omega) HC3.out).mono ?_
 rintro e w4 ⟨⟨z,rfl⟩,hc4,ho4⟩
 have HC4:Hid (Cur w4 (w.heap.size+1) a len cap):=hc4
 have HT4:Hid (Lay w4 qt (.int .i64 N) (.string S)):=HT3.out.kept (kept_of_only ho4) (by have:=HQ3.out;omega)
 have HR4:Hid (Lay w4 w.heap.size (.int .i64 0) (.string ByteArray.empty)):=HR3.out.kept (kept_of_only ho4) (by omega)
 have HB4:Hid (Below w.heap.size w w4):=HB3.out.trans (ho4.below (by omega) HB3.out.size)
 clear hc4 ho4 HC3 HT3 HR3 HB3
 have FIN:Hid (∀ m:Nat,m<=20->Calls Try.prog 25 #[.pointer (some ⟨w.heap.size+1,0,none⟩),.int .i64 (m:Int)] w4.drew fun e w'=>∃ v,e=.returned v/\DB w4.drew (w.heap.size+1) a len cap v m w'):=fun m hm=>l08Row _ (w.heap.size+1) a len cap m (by omega) HC4.out.drew
 have HT4D:Hid (Lay w4.drew qt (.int .i64 N) (.string S)):=HT4.out.below (Below.refl _ _).drew
 have HR4D:Hid (Lay w4.drew w.heap.size (.int .i64 0) (.string ByteArray.empty)):=HR4.out.below (Below.refl _ _).drew
 have HB4D:Hid (Below w.heap.size w w4.drew):=HB4.out.drew
 go_upto_if 15 with fail
 go_cut [6] from 16 to 17 (fun s6 wc=>∃ m:Nat,s6=.int .i64 (m:Int)/\m<=20/\wc=w4)
 case first =>
  cases z
  ·go_wp2_with fail
   go_meet
   case rel=>exact ⟨y,rfl,by omega,rfl⟩
  ·go_wp2_with fail
   go_meet
   case rel=>exact ⟨y+1,rfl,by omega,rfl⟩
 case rest =>
  obtain ⟨m,rfl,hm,rfl⟩:=hcut
  go_upto_region 6 with fail
  refine wp_region_held_drew (S:=fun W=>W.cell? ⟨qt,0,none⟩=some (.int .i64 N)/\W.cell? ⟨qt,1,none⟩=some (.string S)) (by kernel_rfl) (⟨HT4D.out.c0,HT4D.out.c1⟩) (fun hHeld=>?_)
  refine wpAnyH_take (i:=0) (v:=?_) rfl (by kernel_rfl) (by kernel_rfl) (by kernel_rfl) (fun _ _ _ h=>h) (Or.inl ⟨by rfl,?_⟩) hHeld ?_
  rotate_left
  ·intro v9 hS9
   try dsimp only at hS9
   skip
   go_simp
   try with_reducible rfl
  try simp only [Act.put,List.setIfInBounds_toArray,List.set_cons_zero,List.set_cons_succ,List.getElem_toArray,List.getElem_cons_zero]
  refine wpAnyH_take (i:=1) (v:=?_) rfl (by kernel_rfl) (by kernel_rfl) (by kernel_rfl) (fun _ _ _ h=>h) (Or.inl ⟨by rfl,?_⟩) hHeld ?_
  rotate_left
  ·intro v9 hS9
   try dsimp only at hS9
   skip
   go_simp
   try with_reducible rfl
  try simp only [Act.put,List.setIfInBounds_toArray,List.set_cons_zero,List.set_cons_succ,List.getElem_toArray,List.getElem_cons_zero,List.getElem_cons_succ]
  refine wpAnyH_take (i:=3) (v:=?_) rfl (by kernel_rfl) (by kernel_rfl) (by kernel_rfl) (fun _ _ _ h=>h) (Or.inl ⟨by rfl,?_⟩) hHeld ?_
  rotate_left
  ·intro v9 hS9
   try dsimp only at hS9
   obtain ⟨s0,s1⟩:=hS9
   go_simp
   try with_reducible rfl
  try simp only [Act.put,List.setIfInBounds_toArray,List.set_cons_zero,List.set_cons_succ,List.getElem_toArray,List.getElem_cons_zero,List.getElem_cons_succ]
  refine wpAnyH_ready (rs:=[2]) (by kernel_rfl) (by simp) ?_
  refine (AllReadyH.cons rfl (fun K hK=>?_) AllReadyH.nil)
  refine step_call (f:=25) (args := #[.pointer (some ⟨w.heap.size+1,0,none⟩),.int .i64 (m:Int)]) rfl (by go_simp) ?_
  refine (FIN.out m hm).mono ?_
  rintro e w5 ⟨v,rfl,hd⟩
  have HT5:Hid (Lay w5 qt (.int .i64 N) (.string S)):=HT4D.out.kept (kept_of_only hd.onl) (by have:=HQ3.out;omega)
  have HR5:Hid (Lay w5 w.heap.size (.int .i64 0) (.string ByteArray.empty)):=HR4D.out.kept (kept_of_only hd.onl) (by omega)
  have HB5:Hid (Below w.heap.size w w5):=HB4D.out.trans (hd.onl.below (by omega) HB4D.out.size)
  obtain ⟨row,hrl,hor⟩:=hd.own
  obtain ⟨ra,c,hv,hcp,hwb⟩:=owb_cap hor
  subst hv
  have HWB:Hid (Bools w5 ra row/\(∀ x,ra=some x->0 < row.length->w.heap.size < x.block)):=by
   refine ⟨Nd6.WBools.plain hwb,fun x hx h0=>?_⟩
   rcases hwb.2 with e|⟨y,o,e,hB,hc⟩
   ·omega
   ·rw [hx] at e
    cases e
    have:=HR4D.out.lt
    show w.heap.size < y
    omega
  have HRL:Hid (row.length<=c/\row.length<=20):=⟨hcp,by omega⟩
  clear hd hor hwb hcp hrl
  obtain ⟨r0,r1,r2,r3⟩:=HR5.out
  have rl:=lt_of_cell r0
  have HFN:Hid _:=finT HR5.out HB5.out (Nat.le_refl _) (.int .i64 N) (.string S)
  have HK:Hid (Kept (fun b=>b=w.heap.size) w5 ((w5.setCell ⟨w.heap.size,0,none⟩ (.int .i64 N)).setCell ⟨w.heap.size,1,none⟩ (.string S))):=kset (S:=fun b=>b=w.heap.size) (kset (S:=fun b=>b=w.heap.size) (Kept.refl (fun b=>b=w.heap.size) w5) rfl _) rfl _
  refine ⟨_,rfl,?_⟩
  refine hK.out _ _ (⟨HT5.out.c0,HT5.out.c1⟩) (fun hNext=>?_)
  clear hK K hHeld
  have hHeld:=hNext
  clear hNext
  try simp only [Act.put,List.setIfInBounds_toArray,List.set_cons_zero,List.set_cons_succ,List.getElem_toArray,List.getElem_cons_zero,List.getElem_cons_succ]
  refine wpAnyH_take (i:=4) (v:=?_) rfl (by kernel_rfl) (by kernel_rfl) (by kernel_rfl) (fun _ _ _ h=>h) (Or.inl ⟨by rfl,?_⟩) hHeld ?_
  rotate_left
  ·intro v9 hS9
   try dsimp only at hS9
   skip
   go_simp
   try with_reducible rfl
  try simp only [Act.put,List.setIfInBounds_toArray,List.set_cons_zero,List.set_cons_succ,List.getElem_toArray,List.getElem_cons_zero,List.getElem_cons_succ]
  refine wpAnyH_ready (rs:=[5]) (by kernel_rfl) (by simp) ?_
  refine (AllReadyH.cons rfl (fun K hK=>?_) AllReadyH.nil)
  go_simp
  have hq9:¬ qt=w.heap.size:=by have:=HQ3.out;omega
  refine hK.out _ _ (⟨(HT5.out.kept HK.out hq9).c0,(HT5.out.kept HK.out hq9).c1⟩) (fun hNext=>?_)
  clear hK K hHeld
  have hHeld:=hNext
  clear hNext
  try simp only [Act.put,List.setIfInBounds_toArray,List.set_cons_zero,List.set_cons_succ,List.getElem_toArray,List.getElem_cons_zero,List.getElem_cons_succ]
  refine wpAnyH_done (by kernel_rfl) ?_ _
  clear hHeld
  go_wp2
  obtain ⟨W,hW,hz,hbz⟩:=HFN.out
  have hK:=HK.out
  rw [<- hW] at hK ⊢
  obtain ⟨z0,z1,_,_⟩:=hz
  refine bodyPost_ret (v:=.tuple #[.slice ra row.length c,tv N S]) (by simp [results,Try.results40,go_sem,z0,z1]) rfl ⟨⟨N,S,row,ra,c,hS,HRL.out.2,HRL.out.1,rfl,?_,HWB.out.2⟩,hbz⟩
  refine ⟨HWB.out.1.1,?_⟩
  rcases HWB.out.1.2 with e|⟨y9,o9,e,hc⟩
  ·exact .inl e
  ·refine .inr ⟨y9,o9,e,fun i hi=>?_⟩
   have hn9:w.heap.size < y9:=HWB.out.2 _ e (by omega)
   have hne:¬ y9=w.heap.size:=by omega
   rw [hK.cell (p:=⟨y9,o9+i,none⟩) (lt_of_cell (hc i hi)) hne]
   exact hc i hi
end Wt2
namespace Wt3
open Go.RowKit
open Tdw
open Nd0 (Kept Ints WInts set_same set_other lt_of_cell)
open Op6 (Pk PkAt Pks)
open Dr0 (Cur Only Bytes)
open Ta2 (bitB)
open Ap0 Wq0 Wr0 Wr1
open Wr5 (step_call)
set_option linter.unusedSimpArgs false
/-- A number that fits. -/
abbrev Wf (x:Int):Prop:=(Lit.int .i64 x).wf=true
/-- A pick whose values lie from the block M on. -/
def PkF (W:World) (M b p:Nat) (k:Pk):Prop:=∃ a c,W.cell? ⟨b,p,none⟩=some (.slice a k.l.length c)/\W.cell? ⟨b,p+1,none⟩=some (.int .i64 k.v)/\Ints W a k.l/\∀ x,a=some x->0 < k.l.length->M<=x.block
def PksF (W:World) (M:Nat) (a:Option Addr) (ps:List Pk):Prop:=ps.length<=maxLen/\∃ b o,a=some ⟨b,o,none⟩/\M<=b/\∀ i (h:i < ps.length),PkF W M b (o+i*2) ps[i]
theorem PksF.kept {W W':World} {M:Nat} {a:Option Addr} {ps:List Pk} (h:PksF W M a ps) {S:Nat->Prop} (k:Kept S W W') (hs:∀ b,M<=b->¬ S b):Pks W' a ps:=by
 obtain ⟨h0,b,o,rfl,hb,hc⟩:=h
 refine ⟨h0,.inr ⟨b,o,rfl,fun i hi=>?_⟩⟩
 obtain ⟨a,c,c0,c1,hI,hf⟩:=hc i hi
 have hl:=lt_of_cell c0
 refine ⟨a,c,by rw [k.cell (p:=⟨b,o+i*2,none⟩) hl (hs b hb)];exact c0,by rw [k.cell (p:=⟨b,o+i*2+1,none⟩) hl (hs b hb)];exact c1,hI.1,?_⟩
 rcases hI.2 with e|⟨y,z,e,hx⟩
 ·exact .inl e
 ·refine .inr ⟨y,z,e,fun j hj=>?_⟩
  rw [k.cell (p:=⟨y,z+j,none⟩) (lt_of_cell (hx j hj)) (hs y (hf _ e (by omega)))]
  exact hx j hj
theorem pks_of {W:World} {M g o:Nat} (hM:M<=g) (m:Nat) (hm:m<=maxLen) (h:∀ j,j < m->∃ k:Pk,PkF W M g (o+j*2) k/\Wf k.v):∃ ps:List Pk,ps.length=m/\PksF W M (some ⟨g,o,none⟩) ps/\∀ p∈ps,Wf p.v:=by
 have key:∀ n,n<=m->∃ ps:List Pk,ps.length=n/\∀ j (hj:j < ps.length),PkF W M g (o+j*2) ps[j]/\Wf ps[j].v:=by
  intro n
  induction n with
  | zero=>exact fun _=>⟨[],rfl,fun j hj=>by cases hj⟩
  | succ n ih =>
    intro hn
    obtain ⟨ps,hl,hp⟩:=ih (by omega)
    obtain ⟨k,hk⟩:=h n (by omega)
    refine ⟨ps++[k],by rw [List.length_append,hl];rfl,fun j hj=>?_⟩
    by_cases e:j < ps.length
    ·rw [List.getElem_append_left e]
     exact hp j e
    ·have e2:j=n:=by rw [List.length_append,List.length_singleton] at hj;omega
     subst e2
     rw [List.getElem_append_right (by omega)]
     simp only [hl,Nat.sub_self,List.getElem_cons_zero]
     exact hk
 obtain ⟨ps,hl,hp⟩:=key m (Nat.le_refl _)
 refine ⟨ps,hl,⟨by omega,g,o,rfl,hM,fun i hi=>(hp i hi).1⟩,fun p hm=>?_⟩
 obtain ⟨j,hj,rfl⟩:=List.getElem_of_mem hm
 exact (hp j hj).2
theorem bit_wf {x:Int} (h:bitB x=true):Wf x:=by
 have h2:x=0\/x=1:=by
  simp [bitB] at h
  omega
 rcases h2 with e|e<;>rw [e]<;>rfl
/-- What is given back: a list that can be read. -/
def Pv (W':World) (M:Nat) (e:Ending):Prop:=∃ (a:Option Addr) (ps:List Pk) (c:Nat),e=.returned (.slice a ps.length c)/\PksF W' M a ps/\∀ p∈ps,Wf p.v
/-- A value of the list is another one. -/
theorem set_val {W:World} {B g cap:Nat} {qs:List Pq} (h:Lq W B g cap qs) (hb:∀ q∈qs,bitB q.v=true) {i:Nat} (hi:i < qs.length) (hl:qs.length<=maxLen) {x:Int} (hx:Wf x):∃ ps:List Pk,ps.length=qs.length/\PksF (W.setCell ⟨g,i*2+1,none⟩ (.int .i64 x)) B (some ⟨g,0,none⟩) ps/\∀ p∈ps,Wf p.v:=by
 have K:Kept (fun b=>b=g) W (W.setCell ⟨g,i*2+1,none⟩ (.int .i64 x)):=(Kept.refl (fun b=>b=g) W).setCell (p:=⟨g,i*2+1,none⟩) rfl _
 refine pks_of h.lt.1 qs.length hl fun j hj=>?_
 have hf:∀ x,qs[j].a=some x->0 < qs[j].l.length->B<=x.block:=fun x hx h0=>(wi_own (h.ins _ (List.getElem_mem hj)) ⟨h0,x,hx,rfl⟩).1
 have h0:=(h.at_ j hj 0 (by omega)).1
 have h1:=(h.at_ j hj 1 (by omega)).1
 have hin:Ints (W.setCell ⟨g,i*2+1,none⟩ (.int .i64 x)) qs[j].a qs[j].l:=(wi_kept (h.ins _ (List.getElem_mem hj)) K fun b hb2 hbg=>h.out _ (List.getElem_mem hj) (by rw [hbg] at hb2;exact hb2)).ints
 rw [Nat.zero_add]
 by_cases e:j=i
 ·subst e
  exact ⟨⟨qs[j].l,x⟩,⟨qs[j].a,qs[j].c,by rw [set_other (by simp)];exact h0,set_same h1,hin,hf⟩,hx⟩
 ·exact ⟨qs[j].pk,⟨qs[j].a,qs[j].c,by rw [set_other (by simp<;>omega)];exact h0,by rw [set_other (by simp<;>omega)];exact h1,hin,hf⟩,bit_wf (hb _ (List.getElem_mem hj))⟩
/-- A row of picks' cells that is one's own; their lists can be read since W0. -/
structure Rq (W0 W:World) (M B g cap:Nat) (qs:List Pq):Prop where
 row:W.ownsRow B 61 2 (.slice (some ⟨g,0,none⟩) qs.length cap) qs.length (flatP qs)
 ins:∀ q∈qs,Ints W0 q.a q.l
 far:∀ q∈qs,∀ x,q.a=some x->0 < q.l.length->M<=x.block
 bits:∀ q∈qs,bitB q.v=true
 bel:Below W0.heap.size W0 W
theorem Rq.pks {W0 W:World} {M B g cap:Nat} {qs:List Pq} (h:Rq W0 W M B g cap qs) (hMB:M<=B) (hl:qs.length<=maxLen):∃ ps:List Pk,ps.length=qs.length/\PksF W M (some ⟨g,0,none⟩) ps/\∀ p∈ps,Wf p.v:=by
 refine pks_of (Nat.le_trans hMB (World.ownsRow.lt h.row g rfl).1) qs.length hl fun j hj=>?_
 rcases h.row.2 with ⟨e,_⟩|⟨g',cap',cur,e,hb,hgg,_,_,hsz,ht⟩
 ·cases e
 ·cases e
  have at_:∀ d,d < 2->W.cell? ⟨g,j*2+d,none⟩=(qs[j].cells)[d]? := fun d hd=>by
   rw [cell_of_row W g (j*2+d) cur _ _ hgg]
   have e2:=flatP_get qs j d hj hd
   rw [<- ht,List.getElem?_take_of_lt (by omega)] at e2
   simpa using e2
  rw [Nat.zero_add]
  exact ⟨qs[j].pk,⟨qs[j].a,qs[j].c,at_ 0 (by omega),at_ 1 (by omega),(h.ins _ (List.getElem_mem hj)).below h.bel,h.far _ (List.getElem_mem hj)⟩,bit_wf (h.bits _ (List.getElem_mem hj))⟩
theorem wp_row {o:Oper} {a:Act} {K:Act->World->Prop} {Q:Exit->Act->World->Prop} (W0 W:World) (s x:Operand)
 (ho:o.op=.call { callee:=.builtin .append,args := #[s,x],argTypes := #[29,29] })
 (M g cap gx ox cx n m:Nat) (xs ys:List Pq) (hn:n=xs.length) (hm:m=ys.length) (hs:a.eval s=.slice (some ⟨g,0,none⟩) n cap) (hx:a.eval x=.slice (some ⟨gx,ox,none⟩) m cx)
 (h1:Rq W0 W M W0.heap.size g cap xs) (hy:∀ j u,(flatP ys)[j]? = some u->W.cell? ⟨gx,ox+j,none⟩=some u) (hyi:∀ q∈ys,Ints W0 q.a q.l) (hyf:∀ q∈ys,∀ x,q.a=some x->0 < q.l.length->M<=x.block) (hyb:∀ q∈ys,bitB q.v=true) (hlen:xs.length+ys.length<=1000000)
 (h:∀ g' cap' w',Rq W0 w' M W0.heap.size g' cap' (xs++ys)->K (a.put o.dst (.slice (some ⟨g',0,none⟩) (xs.length+ys.length) cap')) w') :
 Oper.wp Try.prog o a W K Q:=by
 subst hn hm
 obtain ⟨i,hi,hzz⟩:=Option.map_eq_some_iff.1 infoPk
 simp only [Prod.mk.injEq] at hzz
 obtain ⟨hz,hsz,hb⟩:=hzz
 obtain ⟨v',w',hr,k2,k3,k4,k5⟩:=run_append_own_at (P:=Try.prog) W W0.heap.size 29 o.type 61 i _ 2 32 Try.underlying29 hi hz hsz hb rfl (by omega) _ xs.length (flatP xs) h1.row ⟨gx,ox,none⟩ ys.length cx (flatP ys) (flatP_length ys) (fun j u hu=>by rw [add_at];exact hy j u hu) (fun u hu=>by
  obtain ⟨q,_,hq⟩:=List.mem_flatMap.1 hu
  simp [Pq.cells] at hq
  rcases hq with rfl|rfl<;>rfl) (by unfold maxLen;omega) (by omega) h1.bel.size
 unfold Oper.wp execOp
 simp only [ho,resolve,invoke,builtin,Sem.run_bind,Sem.run_pure,Result.andThen_ok,List.map_toArray,List.map_cons,List.map_nil,hs,hx,hr]
 have hg0:=(World.ownsRow.lt h1.row g rfl).1
 rcases k2.2 with ⟨e,_⟩|⟨g',cap',cur,e,hbg,hgg,rest⟩
 ·rw [e] at k4
  have:=k4.1 rfl
  cases this.1
 ·subst e
  have kk:Kept (fun k=>k=g) W w':=⟨k3.os,k3.tape,k3.output,k3.size,fun k hk hn=>k3.block k hk (fun e=>hn (by cases e;rfl))⟩
  refine h g' cap' w' ⟨by rw [flatP_app,List.length_append];exact k2,fun q hq=>?_,fun q hq=>?_,fun q hq=>?_,h1.bel.trans (kk.below (fun b hb=>by omega) h1.bel.size)⟩
  ·rcases List.mem_append.1 hq with e|e
   ·exact h1.ins q e
   ·exact hyi q e
  ·rcases List.mem_append.1 hq with e|e
   ·exact h1.far q e
   ·exact hyf q e
  ·rcases List.mem_append.1 hq with e|e
   ·exact h1.bits q e
   ·exact hyb q e
theorem step_row {ops:Array Oper} {o:Oper} {a:Act} {K:Act->World->Prop} {Q:Exit->Act->World->Prop} {E:Prop} (W0 W:World) (hgd:o.guard=none) (s x:Operand)
 (ho:o.op=.call { callee:=.builtin .append,args := #[s,x],argTypes := #[29,29] })
 (M g cap gx ox cx n m:Nat) (xs ys:List Pq) (hn:n=xs.length) (hm:m=ys.length) (hs:a.eval s=.slice (some ⟨g,0,none⟩) n cap) (hx:a.eval x=.slice (some ⟨gx,ox,none⟩) m cx)
 (h1:Rq W0 W M W0.heap.size g cap xs) (hy:∀ j u,(flatP ys)[j]? = some u->W.cell? ⟨gx,ox+j,none⟩=some u) (hyi:∀ q∈ys,Ints W0 q.a q.l) (hyf:∀ q∈ys,∀ x,q.a=some x->0 < q.l.length->M<=x.block) (hyb:∀ q∈ys,bitB q.v=true) (hlen:xs.length+ys.length<=1000000)
 (h:∀ g' cap' w',Rq W0 w' M W0.heap.size g' cap' (xs++ys)->K (a.put o.dst (.slice (some ⟨g',0,none⟩) (xs.length+ys.length) cap')) w') :
 if Region.wanted o (yielded ops a.tmps)=true then Oper.wp Try.prog o a W K Q else E:=by
 rw [if_pos (by simp [Region.wanted,hgd])]
 exact wp_row W0 W s x ho M g cap gx ox cx n m xs ys hn hm hs hx h1 hy hyi hyf hyb hlen h
theorem app_row {ops:Array Oper} {rest:List Oper} {o:Oper} {a:Act} {Q:Exit->Act->World->Prop} (W0 W:World) (hgd:o.guard=none) (s x:Operand)
 (ho:o.op=.call { callee:=.builtin .append,args := #[s,x],argTypes := #[29,29] })
 (M g cap gx ox cx n m:Nat) (xs ys:List Pq) (hn:n=xs.length) (hm:m=ys.length) (hs:a.eval s=.slice (some ⟨g,0,none⟩) n cap) (hx:a.eval x=.slice (some ⟨gx,ox,none⟩) m cx)
 (h1:Rq W0 W M W0.heap.size g cap xs) (hy:∀ j u,(flatP ys)[j]? = some u->W.cell? ⟨gx,ox+j,none⟩=some u) (hyi:∀ q∈ys,Ints W0 q.a q.l) (hyf:∀ q∈ys,∀ x,q.a=some x->0 < q.l.length->M<=x.block) (hyb:∀ q∈ys,bitB q.v=true) (hlen:xs.length+ys.length<=1000000)
 (h:∀ g' cap' w',Rq W0 w' M W0.heap.size g' cap' (xs++ys)->wpList Try.prog ops Q rest (a.put o.dst (.slice (some ⟨g',0,none⟩) (xs.length+ys.length) cap')) w') :
 wpList Try.prog ops Q (o :: rest) a W :=
 wpList_plain hgd fun K hK=>wp_row W0 W s x ho M g cap gx ox cx n m xs ys hn hm hs hx h1 hy hyi hyf hyb hlen fun g' cap' w' hr=>hK _ _ (h g' cap' w' hr)
theorem sl_h (b o n c k:Nat) (h:k<=c) (w:World) :
 (Instr.slice 29 (.slice (some ⟨b,o,none⟩) n c) none (some (.int .i64 (k:Int))) none).run Try.prog w=.ok (.slice (some ⟨b,o,none⟩) k c) w:=by
 rw [run_slice_h w 29 _ _ _ Try.underlying29 .i64 (k:Int) (by omega) (by omega)]
 by_cases e:c=0
 ·simp [go_sem,e,sliced]
 ·simp [go_sem,e,sliced]
theorem sl_l (b n c k:Nat) (h:k<=n) (hc:n<=c):∃ ox,(k < n->ox=k*2)/\∀ w:World,
 (Instr.slice 29 (.slice (some ⟨b,0,none⟩) n c) (some (.int .i64 (k:Int))) none none).run Try.prog w=.ok (.slice (some ⟨b,ox,none⟩) (n - k) (c - k)) w:=by
 by_cases e:c=k
 ·refine ⟨0,fun h2=>by omega,fun w=>?_⟩
  rw [run_slice_l w 29 _ _ _ Try.underlying29 .i64 (k:Int) (by omega) (by omega)]
  simp [go_sem,e,sliced]
 ·refine ⟨k*2,fun _=>rfl,fun w=>?_⟩
  rw [run_slice_l w 29 _ _ _ Try.underlying29 .i64 (k:Int) (by omega) (by omega)]
  simp [go_sem,e,sliced]
theorem pickP (w:World) (b:Nat) (a:Option Addr) (len cap:Nat) (c:Array Value) (T m:Nat) (P:Int->Prop) (h0:1<=m) (h1:m<=256) (hC:∀ i,i < m->∃ v:Int,c[i]? = some (.int .i64 v)/\P v) (hc:Cur w b a len cap) :
 Calls Try.prog 42 #[.pointer (some ⟨b,0,none⟩),.slice (some ⟨w.heap.size,0,none⟩) m m] (w.alloc (.cells c T)) fun e w'=>(∃ x:Int,e=.returned (.int .i64 x)/\P x)/\Cur w' b a len cap/\Only b w w':=by
 have hbl:=hc.lt
 have HC:Hid (Cur (w.alloc (.cells c T)) b a len cap):=hc.alloc _
 have HI:Hid (∀ i,i < m->∃ v:Int,(w.alloc (.cells c T)).cell? ⟨w.heap.size,i,none⟩=some (.int .i64 v)/\P v):=fun i hi=>by
  obtain ⟨v,hv,hp⟩:=hC i hi
  exact ⟨v,by rw [World.cell?_alloc_new];exact hv,hp⟩
 have HO:Hid (Only b w (w.alloc (.cells c T))):=(Only.refl b w).alloc _
 obtain ⟨W,hW⟩:∃ W,W=w.alloc (.cells c T):=⟨_,rfl⟩
 obtain ⟨g,hg⟩:∃ g,g=w.heap.size:=⟨_,rfl⟩
 rw [<- hW] at HC HI HO ⊢
 rw [<- hg] at HI ⊢
 have hgb:g≠b:=by omega
 clear hc hC hW hg hbl
 go_enter Try.func42,Try.ntmps42
 go_wp2_with fail
 refine (Dr1.below _ b a len cap _ (by omega) (by omega) HC.out).mono ?_
 rintro e w' ⟨⟨x,rfl,hx0,hx1⟩,hc',ho'⟩
 have HC':Hid (Cur w' b a len cap):=hc'
 have HO':Hid (Only b w w'):=HO.out.trans ho'
 obtain ⟨v,hv,hp⟩:=HI.out x.toNat (by omega)
 have hv':w'.cell? ⟨g,x.toNat,none⟩=some (.int .i64 v):=by rw [ho'.cell (lt_of_cell hv) hgb];exact hv
 have HP:Hid (P v):=hp
 clear hv hp hc' ho' HI HO HC
 go_wp2
 go_ret
 exact ⟨⟨_,rfl,HP.out⟩,HC'.out,HO'.out⟩
theorem spoil (w:World) (b:Nat) (a:Option Addr) (len cap B g cp:Nat) (qs:List Pq) (hc:Cur w b a len cap) (hL:Lq w B g cp qs) (hbB:b < B) (hlow:len=0\/∀ x,a=some x->x.block≠g) (hq:qs.length<=256) (hbit:∀ q∈qs,bitB q.v=true) :
 Calls Try.prog 43 #[.pointer (some ⟨b,0,none⟩),.slice (some ⟨g,0,none⟩) qs.length cp] w fun e w'=>Pv w' B e/\Kept (fun i=>i=b\/i=g) w w':=by
 have hqc:qs.length<=cp:=by
  rcases hL.row.2 with ⟨e,_⟩|⟨g',cap',cur,e,_,_,hn,_⟩
  ·cases e
  ·cases e;exact hn
 have hgB:=hL.lt.1
 have HBT:Hid (∀ q∈qs,bitB q.v=true):=hbit
 have HC:Hid (Cur w b a len cap):=hc
 have HL:Hid (Lq w B g cp qs):=hL
 have HPV:Hid (∀ W,Lq W B g cp qs->Pv W B (.returned (.slice (some ⟨g,0,none⟩) qs.length cp))):=fun W h=>by
  obtain ⟨ps,hl,hp,hv⟩:=pks_of (W:=W) (M:=B) (g:=g) (o:=0) h.lt.1 qs.length (by unfold maxLen;omega) fun j hj=>⟨qs[j].pk,⟨qs[j].a,qs[j].c,by rw [Nat.zero_add];exact (h.at_ j hj 0 (by omega)).1,by rw [Nat.zero_add];exact (h.at_ j hj 1 (by omega)).1,(h.ins _ (List.getElem_mem hj)).ints,fun x hx h0=>(wi_own (h.ins _ (List.getElem_mem hj)) ⟨h0,x,hx,rfl⟩).1⟩,bit_wf (hbit _ (List.getElem_mem hj))⟩
  exact ⟨some ⟨g,0,none⟩,ps,cp,by rw [hl],hp,hv⟩
 clear hc hL hbit
 by_cases h0:qs.length=0
 ·go_enter Try.func43,Try.ntmps43
  go_wp2
  go_ret
  exact ⟨HPV.out _ HL.out,Kept.refl _ _⟩
 have h0z:((qs.length:Int)==0)=false:=beq_eq_false_iff_ne.2 (by omega)
 go_enter Try.func43,Try.ntmps43
 go_wp2_with fail
 refine (Dr1.below _ b a len cap (qs.length:Int) (by omega) (by omega) HC.out).mono ?_
 rintro e w1 ⟨⟨x,rfl,hx0,hx1⟩,hc1,ho1⟩
 obtain ⟨i,rfl⟩:=Int.eq_ofNat_of_zero_le hx0
 have HL1:Hid (Lq w1 B g cp qs):=HL.out.kept (kept_of_only ho1) (by omega) (fun q hq j hj e=>by have:=(wi_own (HL.out.ins q hq) hj).1;omega)
 have HC1:Hid (Cur w1 b a len cap):=hc1
 have HK1:Hid (Kept (fun i=>i=b\/i=g) w w1):=(kept_of_only ho1).mono fun i h=>.inl h
 have hi:i < qs.length:=by omega
 clear hc1 ho1 HC HL hx0 hx1
 go_wp2_with fail
 refine (Dr1.below _ b a len cap 7 (by omega) (by omega) HC1.out).mono ?_
 rintro e w2 ⟨⟨x,rfl,hx0,hx1⟩,hc2,ho2⟩
 obtain ⟨y,rfl⟩:=Int.eq_ofNat_of_zero_le hx0
 have HL2:Hid (Lq w2 B g cp qs):=HL1.out.kept (kept_of_only ho2) (by omega) (fun q hq j hj e=>by have:=(wi_own (HL1.out.ins q hq) hj).1;omega)
 have HC2:Hid (Cur w2 b a len cap):=hc2
 have HK2:Hid (Kept (fun i=>i=b\/i=g) w w2):=HK1.out.trans ((kept_of_only ho2).mono fun i h=>.inl h)
 clear hc2 ho2 HC1 HL1 HK1 hx0 hx1
 have HI:Hid (i < qs.length):=hi
 have hiz:(i:Int) < (qs.length:Int):=by omega
 obtain ⟨q,c0',c1',f1,hmem⟩:∃ q:Pq,w2.cell? ⟨g,i*2,none⟩=some (.slice q.a q.l.length q.c)/\w2.cell? ⟨g,i*2+1,none⟩=some (.int .i64 q.v)/\w2.frozen? ⟨g,i*2+1,none⟩=false/\q∈qs:=⟨qs[i],(HL2.out.at_ i hi 0 (by omega)).1,(HL2.out.at_ i hi 1 (by omega)).1,(HL2.out.at_ i hi 1 (by omega)).2,List.getElem_mem hi⟩
 have gl:=lt_of_cell c1'
 have hzb:=HBT.out _ hmem
 have hz:q.v=0\/q.v=1:=by
  simp [bitB] at hzb
  omega
 clear hzb
 by_cases y0:y=0
 ·subst y0
  have hw:IntKind.i64.wrap (1 - q.v)=1 - q.v:=by rw [IntKind.wrap_i64]<;>omega
  go_wp2
  go_ret
  obtain ⟨ps,hl,hp,hv⟩:=set_val HL2.out HBT.out HI.out (by unfold maxLen;omega) (x:=1 - q.v) (by rcases hz with e|e<;>rw [e]<;>rfl)
  exact ⟨⟨_,ps,cp,by rw [hl];rfl,hp,hv⟩,HK2.out.setCell (p:=⟨g,i*2+1,none⟩) (.inr rfl) _⟩
 by_cases y1:y=1
 ·subst y1
  have HYC:Hid (∀ j u,(flatP qs)[j]? = some u->w2.cell? ⟨g,j,none⟩=some u):=fun j u hu=>by
   have h:=World.ownsRow.cells HL2.out.row (g:=g) rfl j u hu
   rw [add_at,Nat.zero_add] at h
   exact h
  have HYI:Hid (∀ q∈qs,Ints w2 q.a q.l):=fun q hq=>(HL2.out.ins q hq).ints
  have HYF:Hid (∀ q∈qs,∀ x,q.a=some x->0 < q.l.length->B<=x.block):=fun q hq x hx h0=>(wi_own (HL2.out.ins q hq) ⟨h0,x,hx,rfl⟩).1
  have HBW:Hid (B<=w2.heap.size):=Nat.le_of_lt (Nat.lt_of_le_of_lt HL2.out.lt.1 HL2.out.lt.2)
  have hsh:=sl_h g 0 qs.length cp i (by omega)
  obtain ⟨ox,hox,hsl⟩:=sl_l g qs.length cp (i+1) (by omega) hqc
  rw [show (((i+1:Nat)):Int)=(i:Int)+1 by omega] at hsl
  have HOX:Hid (i+1 < qs.length->ox=(i+1)*2):=hox
  have hwi:IntKind.i64.wrap ((i:Int)+1)=(i:Int)+1:=by rw [IntKind.wrap_i64]<;>omega
  have HTK:Hid (∀ j u,(flatP (qs.take i))[j]? = some u->w2.cell? ⟨g,0+j,none⟩=some u):=fun j u hu=>by
   rw [Nat.zero_add]
   refine HYC.out j u ?_
   rw [<- List.take_append_drop i qs,flatP_app,List.getElem?_append_left (List.getElem?_eq_some_iff.1 hu).1]
   exact hu
  have HDR:Hid (∀ j u,(flatP (qs.drop (i+1)))[j]? = some u->w2.cell? ⟨g,ox+j,none⟩=some u):=fun j u hu=>by
   have hj:=(List.getElem?_eq_some_iff.1 hu).1
   rw [flatP_length,List.length_drop] at hj
   rw [HOX.out (by omega)]
   refine HYC.out _ u ?_
   rw [<- List.take_append_drop (i+1) qs,flatP_app,List.getElem?_append_right (by rw [flatP_length,List.length_take];omega),flatP_length,List.length_take,Nat.min_eq_left (by omega),show (i+1)*2+j - (i+1)*2=j by omega]
   exact hu
  have htl:(qs.take i).length=i:=by rw [List.length_take];omega
  have hdl:(qs.drop (i+1)).length=qs.length - (i+1):=List.length_drop
  have HTL:Hid ((qs.take i).length=i/\(qs.drop (i+1)).length=qs.length - (i+1)):=⟨htl,hdl⟩
  have HTM:Hid (∀ q∈qs.take i,q∈qs):=fun q h=>List.mem_of_mem_take h
  have HDM:Hid (∀ q∈qs.drop (i+1),q∈qs):=fun q h=>List.mem_of_mem_drop h
  have RQ0:Hid (Rq w2 (w2.drew.alloc (.cells #[] 61)) B w2.heap.size w2.heap.size 0 []):=⟨(Lq.lit w2.drew w2.heap.size (Nat.le_refl _)).row,fun _ h=>(by cases h),fun _ h=>(by cases h),fun _ h=>(by cases h),(Below.refl w2.heap.size w2).drew.alloc (Nat.le_refl _) _⟩
  clear hox htl hdl c0' c1' f1 gl
  go_upto_region 8 with fail
  refine wp_region_held_drew (S:=fun _=>True) (by kernel_rfl) (trivial) (fun hHeld=>?_)
  refine wpAnyH_take (i:=1) (v:=?_) rfl (by kernel_rfl) (by kernel_rfl) (by kernel_rfl) (fun _ _ _ h=>h) (Or.inl ⟨by rfl,?_⟩) hHeld ?_
  rotate_left
  ·intro v9 hS9
   try dsimp only at hS9
   skip
   go_simp
   try with_reducible rfl
  try simp only [Act.put,List.setIfInBounds_toArray,List.set_cons_zero,List.set_cons_succ,List.getElem_toArray,List.getElem_cons_zero,List.getElem_cons_succ]
  refine wpAnyH_take (i:=2) (v:=?_) rfl (by kernel_rfl) (by kernel_rfl) (by kernel_rfl) (fun _ _ _ h=>h) (Or.inl ⟨by rfl,?_⟩) hHeld ?_
  rotate_left
  ·intro v9 hS9
   try dsimp only at hS9
   skip
   go_simp
   try with_reducible rfl
  try simp only [Act.put,List.setIfInBounds_toArray,List.set_cons_zero,List.set_cons_succ,List.getElem_toArray,List.getElem_cons_zero,List.getElem_cons_succ]
  refine wpAnyH_take (i:=3) (v:=?_) rfl (by kernel_rfl) (by kernel_rfl) (by kernel_rfl) (fun _ _ _ h=>h) (Or.inl ⟨by rfl,?_⟩) hHeld ?_
  rotate_left
  ·intro v9 hS9
   try dsimp only at hS9
   skip
   go_simp
   try with_reducible rfl
  try simp only [Act.put,List.setIfInBounds_toArray,List.set_cons_zero,List.set_cons_succ,List.getElem_toArray,List.getElem_cons_zero,List.getElem_cons_succ]
  refine wpAnyH_take (i:=5) (v:=?_) rfl (by kernel_rfl) (by kernel_rfl) (by kernel_rfl) (fun _ _ _ h=>h) (Or.inl ⟨by rfl,?_⟩) hHeld ?_
  rotate_left
  ·intro v9 hS9
   try dsimp only at hS9
   skip
   go_simp
   try with_reducible rfl
  try simp only [Act.put,List.setIfInBounds_toArray,List.set_cons_zero,List.set_cons_succ,List.getElem_toArray,List.getElem_cons_zero,List.getElem_cons_succ]
  refine wpAnyH_take (i:=6) (v:=?_) rfl (by kernel_rfl) (by kernel_rfl) (by kernel_rfl) (fun _ _ _ h=>h) (Or.inl ⟨by rfl,?_⟩) hHeld ?_
  rotate_left
  ·intro v9 hS9
   try dsimp only at hS9
   skip
   go_simp
   try with_reducible rfl
  try simp only [Act.put,List.setIfInBounds_toArray,List.set_cons_zero,List.set_cons_succ,List.getElem_toArray,List.getElem_cons_zero,List.getElem_cons_succ]
  refine wpAnyH_take (i:=7) (v:=?_) rfl (by kernel_rfl) (by kernel_rfl) (by kernel_rfl) (fun _ _ _ h=>h) (Or.inl ⟨by rfl,?_⟩) hHeld ?_
  rotate_left
  ·intro v9 hS9
   try dsimp only at hS9
   skip
   go_simp
   try with_reducible rfl
  try simp only [Act.put,List.setIfInBounds_toArray,List.set_cons_zero,List.set_cons_succ,List.getElem_toArray,List.getElem_cons_zero,List.getElem_cons_succ]
  refine wpAnyH_take (i:=8) (v:=?_) rfl (by kernel_rfl) (by kernel_rfl) (by kernel_rfl) (fun _ _ _ h=>h) (Or.inl ⟨by rfl,?_⟩) hHeld ?_
  rotate_left
  ·intro v9 hS9
   try dsimp only at hS9
   skip
   go_simp
   try with_reducible rfl
  try simp only [Act.put,List.setIfInBounds_toArray,List.set_cons_zero,List.set_cons_succ,List.getElem_toArray,List.getElem_cons_zero,List.getElem_cons_succ]
  refine wpAnyH_ready (rs:=[0]) (by kernel_rfl) (by simp) ?_
  refine (AllReadyH.cons rfl (fun K hK=>?_) AllReadyH.nil)
  go_simp
  refine hK.out _ _ (trivial) (fun hNext=>?_)
  clear hK K hHeld
  have hHeld:=hNext
  clear hNext
  try simp only [Act.put,List.setIfInBounds_toArray,List.set_cons_zero,List.set_cons_succ,List.getElem_toArray,List.getElem_cons_zero,List.getElem_cons_succ]
  refine wpAnyH_ready (rs:=[4]) (by kernel_rfl) (by simp) ?_
  refine (AllReadyH.cons rfl (fun K hK=>?_) AllReadyH.nil)
  refine step_row w2 (w2.drew.alloc (.cells #[] 61)) rfl _ _ rfl B w2.heap.size 0 g 0 cp 0 i [] (qs.take i) rfl HTL.out.1.symm rfl rfl RQ0.out (fun j u hu=>by
   have h:=HTK.out j u hu
   rw [((Below.refl w2.heap.size w2).drew.alloc (Nat.le_refl _) (.cells #[] 61)).cell (lt_of_cell h)]
   exact h) (fun q h=>HYI.out q (HTM.out q h)) (fun q h=>HYF.out q (HTM.out q h)) (fun q h=>HBT.out q (HTM.out q h)) (by rw [HTL.out.1,List.length_nil];omega) ?_
  intro g5 cp5 w5 hr5
  have HR5:Hid (Rq w2 w5 B w2.heap.size g5 cp5 ([]++qs.take i)):=hr5
  clear hr5
  refine hK.out _ _ (trivial) (fun hNext=>?_)
  clear hK K hHeld
  have hHeld:=hNext
  clear hNext
  try simp only [Act.put,List.setIfInBounds_toArray,List.set_cons_zero,List.set_cons_succ,List.getElem_toArray,List.getElem_cons_zero,List.getElem_cons_succ]
  refine wpAnyH_ready (rs:=[9]) (by kernel_rfl) (by simp) ?_
  refine (AllReadyH.cons rfl (fun K hK=>?_) AllReadyH.nil)
  refine step_row w2 w5 rfl _ _ rfl B g5 cp5 g ox (cp - (i+1)) (([]:List Pq).length+(qs.take i).length) (qs.length - (i+1)) ([]++qs.take i) (qs.drop (i+1)) (by rw [List.length_append]) HTL.out.2.symm rfl rfl HR5.out (fun j u hu=>by
   have h:=HDR.out j u hu
   rw [HR5.out.bel.cell (lt_of_cell h)]
   exact h) (fun q h=>HYI.out q (HDM.out q h)) (fun q h=>HYF.out q (HDM.out q h)) (fun q h=>HBT.out q (HDM.out q h)) (by rw [List.length_append,HTL.out.1,HTL.out.2,List.length_nil];omega) ?_
  intro g6 cp6 w6 hr6
  have HR6:Hid (Rq w2 w6 B w2.heap.size g6 cp6 (([]++qs.take i)++qs.drop (i+1))):=hr6
  clear hr6
  refine hK.out _ _ (trivial) (fun hNext=>?_)
  clear hK K hHeld
  have hHeld:=hNext
  clear hNext
  try simp only [Act.put,List.setIfInBounds_toArray,List.set_cons_zero,List.set_cons_succ,List.getElem_toArray,List.getElem_cons_zero,List.getElem_cons_succ]
  refine wpAnyH_take (i:=10) (v:=?_) rfl (by kernel_rfl) (by kernel_rfl) (by kernel_rfl) (fun _ _ _ h=>h) (Or.inl ⟨by rfl,?_⟩) hHeld ?_
  rotate_left
  ·intro v9 hS9
   try dsimp only at hS9
   skip
   go_simp
   try with_reducible rfl
  try simp only [Act.put,List.setIfInBounds_toArray,List.set_cons_zero,List.set_cons_succ,List.getElem_toArray,List.getElem_cons_zero,List.getElem_cons_succ]
  refine wpAnyH_done (by kernel_rfl) ?_ _
  clear hHeld
  go_wp2
  go_ret
  obtain ⟨ps,hl,hp,hv⟩:=HR6.out.pks HBW.out (by rw [List.length_append,List.length_append,HTL.out.1,HTL.out.2,List.length_nil];unfold maxLen;omega)
  exact ⟨⟨_,ps,cp6,by rw [show ps.length=min i qs.length+(qs.length - (i+1)) from by rw [hl,List.length_append,List.length_append,List.length_take,List.length_drop,List.length_nil,Nat.zero_add]];rfl,hp,hv⟩,HK2.out.trans (Kept.ofBelow HR6.out.bel)⟩
 by_cases y2:y=2
 ·subst y2
  go_wp2_with fail
  refine (pickP w2 b a len cap _ _ 2 (fun x=>Wf x) (by omega) (by omega) (fun j hj=>?_) HC2.out).mono ?_
  ·have:j=0\/j=1:=by omega
   rcases this with e|e<;>subst e
   ·exact ⟨_,rfl,rfl⟩
   ·exact ⟨_,rfl,rfl⟩
  rintro e w3 ⟨⟨x,rfl,hx⟩,hc3,ho3⟩
  have HL3:Hid (Lq w3 B g cp qs):=HL2.out.kept (kept_of_only ho3) (by omega) (fun q hq j hj e=>by have:=(wi_own (HL2.out.ins q hq) hj).1;omega)
  have HK3:Hid (Kept (fun i=>i=b\/i=g) w w3):=HK2.out.trans ((kept_of_only ho3).mono fun i h=>.inl h)
  have HXF:Hid (Wf x):=hx
  clear c0' c1' f1 gl hc3 ho3 hx
  obtain ⟨q,c1',f1⟩:∃ q:Pq,w3.cell? ⟨g,i*2+1,none⟩=some (.int .i64 q.v)/\w3.frozen? ⟨g,i*2+1,none⟩=false:=⟨qs[i],(HL3.out.at_ i hi 1 (by omega)).1,(HL3.out.at_ i hi 1 (by omega)).2⟩
  have gl:=lt_of_cell c1'
  go_wp2
  go_ret
  obtain ⟨ps,hl,hp,hv⟩:=set_val HL3.out HBT.out HI.out (by unfold maxLen;omega) HXF.out
  exact ⟨⟨_,ps,cp,by rw [hl];rfl,hp,hv⟩,HK3.out.setCell (p:=⟨g,i*2+1,none⟩) (.inr rfl) _⟩
 by_cases y3:y=3
 ·subst y3
  have HYC:Hid (∀ j u,(flatP qs)[j]? = some u->w2.cell? ⟨g,j,none⟩=some u):=fun j u hu=>by
   have h:=World.ownsRow.cells HL2.out.row (g:=g) rfl j u hu
   rw [add_at,Nat.zero_add] at h
   exact h
  have HYI:Hid (∀ q∈qs,Ints w2 q.a q.l):=fun q hq=>(HL2.out.ins q hq).ints
  have HYF:Hid (∀ q∈qs,∀ x,q.a=some x->0 < q.l.length->B<=x.block):=fun q hq x hx h0=>(wi_own (HL2.out.ins q hq) ⟨h0,x,hx,rfl⟩).1
  have HBW:Hid (B<=w2.heap.size):=Nat.le_of_lt (Nat.lt_of_le_of_lt HL2.out.lt.1 HL2.out.lt.2)
  have HAL:Hid (Below w2.heap.size w2 (w2.alloc (.cells #[.slice q.a q.l.length q.c,.int .i64 q.v] 61))):=(Below.refl _ _).alloc (Nat.le_refl _) _
  have RQ1:Hid (Rq w2 (w2.alloc (.cells #[.slice q.a q.l.length q.c,.int .i64 q.v] 61)) B w2.heap.size w2.heap.size 1 [q]):=⟨⟨rfl,.inr ⟨w2.heap.size,1,_,rfl,Nat.le_refl _,heap_alloc_new w2 _,Nat.le_refl _,by unfold maxLen;omega,rfl,rfl⟩⟩,fun p hp=>by rw [List.mem_singleton.1 hp];exact HYI.out q hmem,fun p hp=>by rw [List.mem_singleton.1 hp];exact HYF.out q hmem,fun p hp=>by rw [List.mem_singleton.1 hp];exact HBT.out q hmem,HAL.out⟩
  go_upto_region 13 with (at_builtin;go_must (refine app_row w2 _ rfl _ _ rfl B w2.heap.size 1 g 0 cp 1 qs.length [q] qs rfl rfl rfl rfl RQ1.out (fun j u hu=>(by rw [Nat.zero_add,HAL.out.cell (lt_of_cell (HYC.out j u hu))];exact HYC.out j u hu)) HYI.out HYF.out HBT.out (by simp;omega) ?_;intro g7 cp7 w7 hr7;have HR7:Hid (Rq w2 w7 B w2.heap.size g7 cp7 ([q]++qs)):=hr7;clear hr7))
  go_wp2
  go_ret
  obtain ⟨ps,hl,hp,hv⟩:=HR7.out.pks HBW.out (by rw [List.length_append,List.length_singleton];unfold maxLen;omega)
  exact ⟨⟨_,ps,cp7,by rw [hl,List.length_append];rfl,hp,hv⟩,HK2.out.trans (Kept.ofBelow HR7.out.bel)⟩
 have z0:((y:Int)==0)=false:=beq_eq_false_iff_ne.2 (by omega)
 have z1:((y:Int)==1)=false:=beq_eq_false_iff_ne.2 (by omega)
 have z2:((y:Int)==2)=false:=beq_eq_false_iff_ne.2 (by omega)
 have z3:((y:Int)==3)=false:=beq_eq_false_iff_ne.2 (by omega)
 go_wp2
 go_ret
 exact ⟨HPV.out _ HL2.out,HK2.out⟩
end Wt3
namespace Wp11
open Go.RowKit
open Nd0 (Kept Ints WInts IntsIn lt_of_cell)
open Nd6 (Bools)
open Op6 (Pk PkAt Pks)
open Ta1 (tab tokB)
open Ta2 (bitB)
open Tc2 (tv sInT sInF ret_bool)
open Tc5 (Lay)
open Ss0 (bs)
open Ss1 (tl)
open Dm1 (sOkR0 sOkR)
open Ap0 Wp7 Wp9 Wp10
/-- Of what is not so. -/
theorem sChecks0 (N:Int) (S:ByteArray) (v:Int) (ps:List Pk) (ra la:Option Addr) (L c lc:Nat) (w:World) (hS:S.size<=1048576) (hm:ps.length<=maxLen) (h:¬ ((tokB N (tl S)=true/\(L:Int)=N)/\bitB v=true/\ps.length<=5000))
 (hok:(tokB N (tl S)=true/\(L:Int)=N)->∀ W,Calls Try.prog 33 #[.slice ra L c,tv N S] W fun e w'=>e=.returned (.bool true)/\Below W.heap.size W w') :
 Calls Try.prog 13 #[.slice ra L c,tv N S,.int .i64 v,.slice la ps.length lc] w fun e w'=>e=.returned (.bool false)/\Below w.heap.size w w':=by
 unfold maxLen at hm
 obtain ⟨X0,hX0⟩:∃ X,X=w.alloc (.cells #[.int .i64 N,.string S] 26):=⟨_,rfl⟩
 have HB0:Hid (Below w.heap.size w X0):=by rw [hX0];exact (Below.refl _ _).alloc (Nat.le_refl _) _
 have HL0:Hid (Lay X0 w.heap.size (.int .i64 N) (.string S)):=by rw [hX0];exact Lay.made _ _ _ _
 have hE:w.alloc (.cells #[.int .i64 N,.string S] 26)=X0:=hX0.symm
 clear hX0
 by_cases h1:tokB N (tl S)=true/\(L:Int)=N
 ·have HOK:Hid _:=hok h1
  by_cases h2:bitB v=true
  ·have hin:=bit_in.1 h2
   have h5:¬ (ps.length:Int)<=5000:=fun e=>h ⟨h1,h2,by omega⟩
   clear h h1 h2 hok hS
   go_enter Try.func13,Try.ntmps13
   go_upto_region 1 with fail
   clear hE
   obtain ⟨d0,d1,_,_⟩:=HL0.out
   have hd:=HL0.out.lt
   go_wp2_with (first|(go_at_call 33;refine (HOK.out _).mono ?_;rintro e w1 ⟨rfl,hb1⟩;have HB1:Hid (Below w.heap.size w w1):=HB0.out.trans (hb1.mono HB0.out.size);clear hb1)|(go_at_call 44;refine (sInT _ hin).mono ?_;rintro e w2 ⟨rfl,hw2⟩;have hw2':=hw2.symm;clear hw2;subst hw2'))
   go_ret
   exact ⟨rfl,HB1.out⟩
  ·have hno:¬ (0<=v/\v<=1):=fun e=>h2 (bit_in.2 e)
   clear h h1 h2 hok hS
   go_enter Try.func13,Try.ntmps13
   go_upto_region 1 with fail
   clear hE
   obtain ⟨d0,d1,_,_⟩:=HL0.out
   have hd:=HL0.out.lt
   go_wp2_with (first|(go_at_call 33;refine (HOK.out _).mono ?_;rintro e w1 ⟨rfl,hb1⟩;have HB1:Hid (Below w.heap.size w w1):=HB0.out.trans (hb1.mono HB0.out.size);clear hb1)|(go_at_call 44;refine (sInF _ hno).mono ?_;rintro e w2 ⟨rfl,hw2⟩;have hw2':=hw2.symm;clear hw2;subst hw2'))
   go_ret
   exact ⟨rfl,HB1.out⟩
 ·have HOK:Hid (∀ W,Calls Try.prog 33 #[.slice ra L c,tv N S] W fun e w'=>e=.returned (.bool false)/\Below W.heap.size W w'):=fun W=>sOkR0 ra L c W hS h1
  clear h h1 hok hS
  go_enter Try.func13,Try.ntmps13
  go_upto_region 1 with fail
  clear hE
  obtain ⟨d0,d1,_,_⟩:=HL0.out
  have hd:=HL0.out.lt
  go_wp2_with (go_at_call 33;refine (HOK.out _).mono ?_;rintro e w1 ⟨rfl,hb1⟩;have HB1:Hid (Below w.heap.size w w1):=HB0.out.trans (hb1.mono HB0.out.size);clear hb1)
  go_ret
  exact ⟨rfl,HB1.out⟩
/-- Of what is so. -/
theorem sChecks (row:List Bool) (F:Nat->Bool) (v:Int) (ps:List Pk) (ra la:Option Addr) (c lc:Nat) (w:World) (hn:row.length<=12) (hB:Bools w ra row) (hc:row.length<=c) (hv:bitB v=true) (hl:ps.length<=5000) (hP:Pks w la ps) :
 Calls Try.prog 13 #[.slice ra row.length c,tv (row.length:Int) (bs (tab row.length F)),.int .i64 v,.slice la ps.length lc] w fun e w'=>e=.returned (.bool (chk ps v row F []))/\Below w.heap.size w w':=by
 obtain ⟨X0,hX0⟩:∃ X,X=w.alloc (.cells #[.int .i64 (row.length:Int),.string (bs (tab row.length F))] 26):=⟨_,rfl⟩
 have HB0:Hid (Below w.heap.size w X0):=by rw [hX0];exact (Below.refl _ _).alloc (Nat.le_refl _) _
 have HL0:Hid (Lay X0 w.heap.size (.int .i64 (row.length:Int)) (.string (bs (tab row.length F)))):=by rw [hX0];exact Lay.made _ _ _ _
 have hE:w.alloc (.cells #[.int .i64 (row.length:Int),.string (bs (tab row.length F))] 26)=X0:=hX0.symm
 have hin:=bit_in.1 hv
 have h5:(ps.length:Int)<=5000:=by omega
 have HOK:Hid (∀ W,Calls Try.prog 33 #[.slice ra row.length c,tv (row.length:Int) (bs (tab row.length F))] W fun e w'=>e=.returned (.bool true)/\Below W.heap.size W w'):=fun W=>sOkR row.length F ra c W hn
 have HCK:Hid (∀ W g,Below w.heap.size w W->Calls Try.prog 45 #[.slice ra row.length c,tv (row.length:Int) (bs (tab row.length F)),.int .i64 v,.slice la ps.length lc,.slice (some ⟨g,0,none⟩) 0 0] W fun e w'=>e=.returned (.bool (chk ps v row F []))/\Below W.heap.size W w'):=fun W g hb=>mc_all ps v row hn F W ra la _ c lc 0 [] (hB.below hb) hc (pks_below hP hb) ⟨Nat.zero_le _,.inl rfl⟩ (by simp;omega)
 clear hX0 hn hB hc hv hl hP
 obtain ⟨R,hR⟩:∃ R,R=chk ps v row F []:=⟨_,rfl⟩
 rw [<- hR] at HCK ⊢
 clear hR
 generalize bs (tab row.length F)=S at *
 generalize row.length=n at *
 go_enter Try.func13,Try.ntmps13
 go_upto_region 1 with fail
 clear hE
 obtain ⟨d0,d1,_,_⟩:=HL0.out
 have hd:=HL0.out.lt
 go_wp2_with fail
 clear d0 d1 hd
 refine (HOK.out _).mono ?_
 rintro e w1 ⟨rfl,hb1⟩
 have HB1:Hid (Below w.heap.size w w1):=HB0.out.trans (hb1.mono HB0.out.size)
 have HL1:Hid (Lay w1 w.heap.size (.int .i64 (n:Int)) (.string S)):=HL0.out.below hb1
 clear hb1
 obtain ⟨d0,d1,_,_⟩:=HL1.out
 have hd:=HL1.out.lt
 go_wp2_with (first|(go_at_call 44;refine (sInT _ hin).mono ?_;rintro e w2 ⟨rfl,hw2⟩;have hw2':=hw2.symm;clear hw2;subst hw2')|(go_at_call 45;refine (HCK.out _ _ (HB1.out.alloc HB1.out.size _)).mono ?_;rintro e w3 ⟨rfl,hb3⟩;have HB3:Hid (Below w.heap.size w w3):=(HB1.out.alloc HB1.out.size _).trans (hb3.mono (HB1.out.alloc HB1.out.size _).size);clear hb3))
 go_ret
 exact ⟨rfl,HB3.out⟩
end Wp11
namespace Wp23
open Go.RowKit
open Nd0 (Kept Ints WInts lt_of_cell)
open Nd6 (Bools)
open Op6 (Pk PkAt Pks)
open Ta1 (tab tokB tok_tab)
open Ta2 (bitB)
open Tc2 (tv ret_bool)
open Tc5 (Lay)
open Ss0 (bs bs_size)
open Ss1 (tl bs_tl)
open Dq1 (ownL)
open Dp4 (iRuled0 iRuled)
open Dm1 (sOkR)
open Wp10 (chk)
open Wp11 (sChecks0 sChecks)
open Ap0 Wp7 Wp12 Wp15 Wp22
/-- Where there is no game. -/
theorem iChecksN (N:Int) (S:ByteArray) (v:Int) (ra la:Option Addr) (L c l lc:Nat) (w:World) (h:¬ ((tokB N (tl S)=true/\(L:Int)=N)/\bitB v=true))
 (hR:∀ W,∃ rr:Bool,(rr=true->bitB v=false)/\Calls Try.prog 52 #[.slice ra L c,tv N S] W fun e w'=>∃ (a1:Option Addr) (n1 m1:Nat) (z1:Int) (a2:Option Addr) (n2 m2:Nat),e=.returned (.tuple #[.agg #[.slice a1 n1 m1,.int .i64 z1,.slice a2 n2 m2],.bool rr])/\Below W.heap.size W w') :
 Calls Try.prog 9 #[.slice ra L c,tv N S,.int .i64 v,.slice la l lc] w fun e w'=>e=.returned (.bool false)/\Below w.heap.size w w':=by
 obtain ⟨X0,hX0⟩:∃ X,X=w.alloc (.cells #[.int .i64 N,.string S] 26):=⟨_,rfl⟩
 have HB0:Hid (Below w.heap.size w X0):=by rw [hX0];exact (Below.refl _ _).alloc (Nat.le_refl _) _
 have HL0:Hid (Lay X0 w.heap.size (.int .i64 N) (.string S)):=by rw [hX0];exact Lay.made _ _ _ _
 have hE:w.alloc (.cells #[.int .i64 N,.string S] 26)=X0:=hX0.symm
 have HGA:Hid _:=iGame0 N S v ra L c X0 h hR
 clear hX0 h hR
 go_enter Try.func9,Try.ntmps9
 go_upto_region 1 with fail
 clear hE
 obtain ⟨d0,d1,_,_⟩:=HL0.out
 have hd:=HL0.out.lt
 go_wp2_with fail
 clear d0 d1 hd
 refine Calls.mono HGA.out ?_
 rintro e w1 ⟨rfl,hb1⟩
 have HB1:Hid (Below w.heap.size w w1):=HB0.out.trans (hb1.mono HB0.out.size)
 clear hb1 HB0 HL0 HGA
 go_wp2
 go_ret
 exact ⟨rfl,HB1.out.alloc HB1.out.size _⟩
/-- Where there are too many picks. -/
theorem iChecksM (row:List Bool) (F:Nat->Bool) (v:Int) (ra la:Option Addr) (c l lc:Nat) (w:World) (hn:row.length<=12) (hB:Bools w ra row) (hv:bitB v=true) (hl:¬ l<=5000) :
 Calls Try.prog 9 #[.slice ra row.length c,tv (row.length:Int) (bs (tab row.length F)),.int .i64 v,.slice la l lc] w fun e w'=>e=.returned (.bool false)/\Below w.heap.size w w':=by
 obtain ⟨X0,hX0⟩:∃ X,X=w.alloc (.cells #[.int .i64 (row.length:Int),.string (bs (tab row.length F))] 26):=⟨_,rfl⟩
 have b0:Below w.heap.size w X0:=by rw [hX0];exact (Below.refl _ _).alloc (Nat.le_refl _) _
 have HB0:Hid (Below w.heap.size w X0):=b0
 have HL0:Hid (Lay X0 w.heap.size (.int .i64 (row.length:Int)) (.string (bs (tab row.length F)))):=by rw [hX0];exact Lay.made _ _ _ _
 have hE:w.alloc (.cells #[.int .i64 (row.length:Int),.string (bs (tab row.length F))] 26)=X0:=hX0.symm
 have HGA:Hid _:=iGame row.length F v row ra c X0 hn rfl (hB.below b0) hv
 have hlz:(5000:Int) < (l:Int):=by omega
 clear hX0 b0 hn hB hv hl
 generalize ownL v row=OL at *
 generalize bs (tab row.length F)=S at *
 go_enter Try.func9,Try.ntmps9
 go_upto_region 1 with fail
 clear hE
 obtain ⟨d0,d1,_,_⟩:=HL0.out
 have hd:=HL0.out.lt
 go_wp2_with fail
 clear d0 d1 hd
 refine Calls.mono HGA.out ?_
 rintro e w1 ⟨⟨ga,go,rfl,hb1'⟩,hb1⟩
 have HB1:Hid (Below w.heap.size w w1):=HB0.out.trans (hb1.mono HB0.out.size)
 clear hb1 hb1' HB0 HL0 HGA
 go_wp2
 go_ret
 exact ⟨rfl,HB1.out.alloc HB1.out.size _⟩
theorem tok_str {N:Int} {S:ByteArray} (h:tokB N (tl S)=true):∃ (n:Nat) (F:Nat->Bool),n<=12/\N=(n:Int)/\S=bs (tab n F):=by
 obtain ⟨n,F,h1,h2,h3⟩:=tok_tab h
 exact ⟨n,F,h1,h2,by rw [<- bs_tl S,h3]⟩
/-- One answer of both. -/
theorem bChecks (row:List Bool) (N:Int) (S:ByteArray) (v:Int) (ps:List Pk) (hS:S.size<=1048576) (hw:∀ p∈ps,(Lit.int .i64 p.v).wf=true):∃ b:Bool,
 (∀ (W:World) (ra la:Option Addr) (c lc:Nat),Bools W ra row->row.length<=c->Pks W la ps->Calls Try.prog 13 #[.slice ra row.length c,tv N S,.int .i64 v,.slice la ps.length lc] W fun e w'=>e=.returned (.bool b)/\Below W.heap.size W w') /\
 (∀ (W:World) (ra la:Option Addr) (c lc:Nat),Bools W ra row->Pks W la ps->Calls Try.prog 9 #[.slice ra row.length c,tv N S,.int .i64 v,.slice la ps.length lc] W fun e w'=>e=.returned (.bool b)/\Below W.heap.size W w'):=by
 by_cases h:tokB N (tl S)=true/\(row.length:Int)=N
 ·obtain ⟨h1,h2⟩:=h
  have h1':=h1
  obtain ⟨n,F,hn,rfl,rfl⟩:=tok_str h1
  obtain rfl:n=row.length:=by omega
  by_cases hv:bitB v=true
  ·by_cases hl:ps.length<=5000
   ·exact ⟨_,fun W ra la c lc hB hc hP=>sChecks row F v ps ra la c lc W hn hB hc hv hl hP,fun W ra la c lc hB hP=>iChecks row F v ps ra la c lc W hn hB hv hl hP hw⟩
   ·exact ⟨false,fun W ra la c lc hB hc hP=>sChecks0 _ _ v ps ra la _ c lc W hS hP.1 (fun e=>hl e.2.2) (fun _ W'=>sOkR row.length F ra c W' hn),fun W ra la c lc hB hP=>iChecksM row F v ra la c _ lc W hn hB hv hl⟩
  ·exact ⟨false,fun W ra la c lc hB hc hP=>sChecks0 _ _ v ps ra la _ c lc W hS hP.1 (fun e=>hv e.2.1) (fun _ W'=>sOkR row.length F ra c W' hn),fun W ra la c lc hB hP=>iChecksN _ _ v ra la _ c _ lc W (fun e=>hv e.2) fun W'=>⟨true,(fun _=>by simpa using hv),(iRuled row.length F ra c W' hn).mono fun e w' hh=>by
    obtain ⟨g,he,_,_,hb⟩:=hh
    exact ⟨_,_,_,_,_,_,_,he,hb⟩⟩⟩
 ·exact ⟨false,fun W ra la c lc hB hc hP=>sChecks0 _ _ v ps ra la _ c lc W hS hP.1 (fun e=>h e.1) (fun e=>absurd e h),fun W ra la c lc hB hP=>iChecksN _ _ v ra la _ c _ lc W (fun e=>h e.1) fun W'=>⟨false,(fun e=>by cases e),(iRuled0 ra _ c W' hS h).mono fun e w' hh=>by
   obtain ⟨he,hb⟩:=hh
   exact ⟨_,_,_,_,_,_,_,he,hb⟩⟩⟩
end Wp23
namespace Lw4
open Go.RowKit
open Dr0 Dr1
open Ws1 (ret_int ret_bool)
theorem lat (w:World) (a:Option Addr) (len cap:Nat) (i:Int) (h0:0<=i) (hk:i<=1000) (hb:Bytes w a len) (hs:len<=1048576) :
 Calls Try.prog 10 #[.slice a len cap,.int .i64 i] w fun e w'=>(∃ x:Int,e=.returned (.int .i64 x)/\0<=x/\x<=255)/\w'=w:=by
 obtain ⟨k,rfl⟩:=Int.eq_ofNat_of_zero_le h0
 by_cases hlt:k < len
 ·rcases hb.2 with h0|⟨xb,xo,rfl,hcell⟩
  ·omega
  obtain ⟨v,hv0,hv1,hv⟩:=hcell k hlt
  clear hcell hb
  go_enter Try.func10,Try.ntmps10
  go_wp2
  go_ret
  exact ⟨⟨_,rfl,by omega,by omega⟩,rfl⟩
 ·clear hb
  go_enter Try.func10,Try.ntmps10
  go_wp2
  go_ret
  exact ⟨⟨_,rfl,by omega,by omega⟩,rfl⟩
theorem lbig (w:World) (a:Option Addr) (len cap:Nat) (b:Bool) (hb:b=decide (1048576 < len)) :
 Calls Try.prog 5 #[.slice a len cap] w fun e w'=>e=.returned (.bool b)/\w'=w:=by
 subst hb
 go_enter Try.func5,Try.ntmps5
 go_wp2
 go_ret
 exact ⟨ret_bool (by rw [Bool.eq_iff_iff];simp;omega),rfl⟩
end Lw4
namespace Lat
open Go.RowKit
open Nd0
open Dr0 (Bytes)
open Ws1 (ret_int ret_bool)
theorem lat3 (w:World) (a:Option Addr) (len cap:Nat) (i:Int) (h0:0<=i) (hk:i<=1000) (hb:Bytes w a len) (hs:len<=1048576) :
 ∃ x:Int,0<=x/\x<=255/\∀ W:World,Below w.heap.size w W->Calls Try.prog 10 #[.slice a len cap,.int .i64 i] W fun e w'=>e=.returned (.int .i64 x)/\w'=W:=by
 obtain ⟨k,rfl⟩:=Int.eq_ofNat_of_zero_le h0
 by_cases hlt:k < len
 ·rcases hb.2 with h0|⟨xb,xo,rfl,hcell⟩
  ·omega
  obtain ⟨v,hv0,hv1,hv⟩:=hcell k hlt
  refine ⟨v,by omega,by omega,fun W hW=>?_⟩
  have hv2:W.cell? ⟨xb,xo+k,none⟩=some (.int .u8 v):=(hW.cell (p:=⟨xb,xo+k,none⟩) (lt_of_cell hv)).trans hv
  clear hcell hb hW hv
  go_enter Try.func10,Try.ntmps10
  go_wp2
  go_ret
  exact ⟨ret_int (by omega),rfl⟩
 ·refine ⟨((k:Int)*7+(len:Int)) % 256,by omega,by omega,fun W hW=>?_⟩
  clear hb hW
  go_enter Try.func10,Try.ntmps10
  go_wp2
  go_ret
  exact ⟨rfl,rfl⟩
end Lat
namespace Wd1
open Go.RowKit
open Pl1
theorem ret_int {k:IntKind} {a b:Int} (h:a=b):Ending.returned (.int k a)=.returned (.int k b):=by rw [h]
theorem ret_bool {a b:Bool} (h:a=b):Ending.returned (.bool a)=.returned (.bool b):=by rw [h]
theorem spow (m:Int) (w:World) (h0:0<=m) (h1:m<=8) :
 Calls Try.prog 51 #[.int .i64 m] w fun e w'=>e=.returned (.int .i64 (p2 m.toNat))/\w'=w:=by
 obtain ⟨n,rfl⟩:=Int.eq_ofNat_of_zero_le h0
 rw [Int.toNat_natCast]
 go_enter Try.func51,Try.ntmps51
 go_wp2
 go_loop [3,4] (fun x i=>∃ k:Nat,k<=n/\i=.int .i64 k/\x=.int .i64 (p2 k)) (fun _ i=>n - (intOf i).toNat)
 case atStart=>exact ⟨0,Nat.zero_le _,rfl,rfl⟩
 case round =>
  obtain ⟨k,hk,rfl,rfl⟩:=hrel
  have hp:=p2_pos k
  have hl:=p2_le k (by omega)
  by_cases hlt:k < n
  ·go_wp2
   go_round
   case rel=>exact ⟨k+1,by omega,by go_num,by rw [p2_succ]⟩
   case measure=>simp [intOf];omega
  ·go_wp2
   go_ret
   have:k=n:=by omega
   subst this
   exact ⟨rfl,rfl⟩
theorem sIn (x a b:Int) (w:World) :
 Calls Try.prog 44 #[.int .i64 x,.int .i64 a,.int .i64 b] w fun e w'=>e=.returned (.bool (decide (a<=x/\x<=b)))/\w'=w:=by
 by_cases h1:a<=x<;>by_cases h2:x<=b
 all_goals
  go_enter Try.func44,Try.ntmps44
  go_wp2
  go_ret
  exact ⟨ret_bool (by simp<;>omega),rfl⟩
end Wd1
end Go.Proofs.Ytfhdbcfhhbdiiaa
