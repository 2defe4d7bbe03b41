import Derived.Test.YtjajkmdoggbicaaGreatDoorRows
import Derived.Maps.OwnSet
import Derived.Test.YtjajkmdoggbicaaGreatDoorPkST0
import Derived.Test.YtjajkmdoggbicaaGreatDoorPkST11
import Derived.Test.YtjajkmdoggbicaaGreatDoorPkST9
import Derived.Test.YtjajkmdoggbicaaGreatDoorPkST5
import Derived.Test.YtjajkmdoggbicaaGreatDoorMm2
namespace Go.Proofs.YtjajkmdoggbicaaGreatDoor
set_option maxRecDepth 100000
set_option maxHeartbeats 8000000
set_option linter.unusedVariables false
namespace Ms0
open Go.RowKit Go.Maps Go.WideMaps Go.ChangeMaps
open Nd0 (Kept)
theorem law:Keyed Tryz.prog 9:=string_keyed Tryz.underlying9
theorem zeroInt (w:World):(zeroValue 3).run Tryz.prog w=.ok (.int .i64 0) w:=by kernel_rfl
theorem wf_bit {x:Int} (h0 : -1<=x) (h1:x<=1):(Lit.int .i64 x).wf=true:=by
 have e1:IntKind.i64.min = -9223372036854775808:=by decide
 have e2:IntKind.i64.max=9223372036854775807:=by decide
 simp [Lit.wf,e1,e2];omega
/-- The key that a text is. -/
noncomputable def keyS (x:ByteArray):Lit:=(keyOf Tryz.prog 9 (.string x)).getD .nil
theorem key_eq {x:ByteArray} (h:x.size<=maxLen):keyOf Tryz.prog 9 (.string x)=some (keyS x):=by
 unfold keyS
 rw [keyOf_string_mk Tryz.underlying9 h]
 rfl
theorem key_ne {x y:ByteArray} (hx:x.size<=maxLen) (hy:y.size<=maxLen) (h:x≠y):keyS x≠keyS y:=fun e=>h (by
 have:=law.inj (key_eq hx) (by rw [key_eq hy,e])
 cases this
 rfl)
/-- The map in block bm has c keys, and says f. -/
def Ms (w:World) (bm:Nat) (c:Nat) (f:ByteArray->Option Int):Prop :=
 ∃ D:DataW Unit,w.ownsMap Tryz.prog 9 (plainElem Tryz.prog 3) bm c D/\Maps.size D=c/\∀ x,x.size<=maxLen->Maps.has D (keyS x)=(f x).isSome/\∀ v z,f x=some v->D.atKey (keyS x) z=.lit (.int .i64 v)
theorem Ms.new (w:World):Ms (w.alloc (.map #[] 0)) w.heap.size 0 (fun _=>none) :=
 ⟨.map [],World.ownsMap_made w _ _ _,rfl,fun x _=>⟨rfl,fun v z h=>by cases h⟩⟩
theorem Ms.lt {w:World} {bm c:Nat} {f:ByteArray->Option Int} (h:Ms w bm c f):bm < w.heap.size:=by obtain ⟨D,h,_⟩:=h;exact h.lt
theorem Ms.kept {w w':World} {bm c:Nat} {f:ByteArray->Option Int} (h:Ms w bm c f) {S:Nat->Prop} (k:Kept S w w') (hs:¬ S bm):Ms w' bm c f:=by
 obtain ⟨D,ho,hp⟩:=h
 refine ⟨D,?_,hp⟩
 obtain ⟨es,clock,hb,F⟩:=ho
 exact ⟨es,clock,by rw [k.block bm (Array.getElem?_eq_some_iff.1 hb).1 hs];exact hb,F⟩
theorem Ms.below {w w':World} {bm c:Nat} {f:ByteArray->Option Int} (h:Ms w bm c f) (k:Below w.heap.size w w'):Ms w' bm c f:=h.kept (S:=fun _=>False) (Kept.ofBelow k) (fun h=>h)
theorem Ms.len {w:World} {bm c:Nat} {f:ByteArray->Option Int} (h:Ms w bm c f) (ty:TypeId):(Builtin.len_ #[58] ty #[.map (some bm)]).run Tryz.prog w=.ok (.int .i64 (c:Int)) w:=by
 obtain ⟨D,ho,hc,_⟩:=h
 rw [ho.len Tryz.underlying58 ty,hc]
theorem Ms.look {w:World} {bm c:Nat} {f:ByteArray->Option Int} (h:Ms w bm c f) {x:ByteArray} (hx:x.size<=maxLen) :
 (Instr.lookup 58 (.map (some bm)) (.string x) true).run Tryz.prog w=.ok (.tuple #[.int .i64 ((f x).getD 0),.bool (f x).isSome]) w:=by
 obtain ⟨D,ho,_,hp⟩:=h
 obtain ⟨v,ps,hrun,hv⟩:=ho.look_ok law Tryz.underlying58 (zeroInt w) (plainElem_int Tryz.underlying3 (a:=0) rfl) (key_eq hx)
 rw [hrun]
 obtain ⟨h1,h2⟩:=hp x hx
 obtain ⟨a,rfl,hz,_⟩:=plainElem_int_inv Tryz.underlying3 hv
 cases hf:f x with
 | none =>
   rw [hf] at h1
   rw [Maps.atKey_of_not_has h1] at hz
   rw [h1]
   cases hz;rfl
 | some i =>
   rw [hf] at h1
   rw [h1]
   rw [h2 i _ hf] at hz
   cases hz;rfl
/-- One more, or another word on an old one. -/
def putF (f:ByteArray->Option Int) (x:ByteArray) (v:Int):ByteArray->Option Int:=fun y=>if y=x then some v else f y
def delF (f:ByteArray->Option Int) (x:ByteArray):ByteArray->Option Int:=fun y=>if y=x then none else f y
theorem Ms.store {w:World} {bm c:Nat} {f:ByteArray->Option Int} (h:Ms w bm c f) {x:ByteArray} (hx:x.size<=maxLen) {v:Int} (hv0:(Lit.int .i64 v).wf=true) (hl:c<=1048576) :
 ∃ w',(Instr.mapUpdate 58 (.map (some bm)) (.string x) (.int .i64 v)).run Tryz.prog w=.ok () w'/\Ms w' bm (if (f x).isSome then c else c+1) (putF f x v)/\Kept (fun k=>k=bm) w w':=by
 obtain ⟨D,ho,hc,hpp⟩:=h
 obtain ⟨w',hrun,ho',hg⟩:=ho.update law Tryz.underlying58 (by unfold maxLen;omega) (key_eq hx) (plainElem_int Tryz.underlying3 (a:=v) hv0)
 have hsz:=Maps.size_put (ho.tidy law) (k:=keyS x) (.lit (.int .i64 v))
 rw [(hpp x hx).1,hc] at hsz
 have hown:w'.ownsMap Tryz.prog 9 (plainElem Tryz.prog 3) bm (if (f x).isSome then c else c+1) (D.put (keyS x) (.lit (.int .i64 v))):=by
  obtain ⟨es,clock,h1,h2,h3,h4⟩:=ho'
  refine ⟨es,clock,h1,h2,?_,h4⟩
  have e1:Maps.size (DataW.map ((es.toList.map (WideElems.rg Tryz.prog 9 (plainElem (H:=Unit) Tryz.prog 3))).foldr DataW.insert []))=es.size:=by simp [Maps.size,length_sorted]
  rw [<- h4,hsz] at e1
  omega
 refine ⟨w',hrun,⟨_,hown,hsz,fun y hy=>?_⟩,⟨hg.os,hg.tape,hg.output,hg.size,fun i hi hne=>hg.block i hi (fun e=>hne (by cases e;rfl))⟩⟩
 unfold putF
 by_cases e:y=x
 ·subst e
  rw [if_pos rfl]
  exact ⟨Maps.has_put_same ho.isMap (law.key (key_eq hx)) _,fun u z hu=>by cases hu;exact Maps.atKey_put_same ho.isMap (law.key (key_eq hx)) _ z⟩
 ·rw [if_neg e]
  have hk:=key_ne hy hx e
  obtain ⟨h1,h2⟩:=hpp y hy
  exact ⟨by rw [Maps.has_put_other hk];exact h1,fun u z hu=>by rw [Maps.atKey_put_other hk];exact h2 u z hu⟩
end Ms0
namespace Te3
open Go.RowKit
open Ta0 Ta1 Ta2 Tc2 Tc4 Tc5 Tc6 Tc7 Tc8 Tc10 Td1 Td2 Te1
open Nd0 (Kept Ints set_other set_same lt_of_cell)
open Ss0 (bs bs_size ret_str bs_ext)
open Ss1 (tl tl_length tl_get tl_take bs_tl tl_bs tl_inj eqb)
theorem or_bit {y x:Nat} (hy:y < 100000) (hx:x<=1):bits .or .i64 ((2*y:Nat):Int) (x:Int)=((2*y+x:Nat):Int):=by
 rw [bor62 (by omega) (by omega)]
 have h:=Nat.two_pow_add_eq_or_of_lt (i:=1) (b:=x) (by omega) y
 rw [show (2:Nat) ^ 1*y=2*y by omega] at h
 rw [h]
theorem iPlaceOf (a:Option Addr) (l:List Int) (c:Nat) (w:World) (hl:l.length<=12) (hI:Ints w a l) :
 Calls Tryz.prog 79 #[.slice a l.length c] w fun e w'=>(((∀ i,i < l.length->bitB (l.getD i 0)=true)/\e=.returned (.tuple #[.int .i64 ((plc l l.length:Nat):Int),.bool true]))\/((∃ i,i < l.length/\bitB (l.getD i 0)=false)/\e=.returned (.tuple #[.int .i64 0,.bool false])))/\w'=w:=by
 have HI1:Hid (Ints w a l):=hI
 clear hI
 go_enter Tryz.func79,Tryz.ntmps79
 go_wp2
 go_loop [4,9] (fun p i=>∃ k:Nat,k<=l.length/\i=.int .i64 k/\p=.int .i64 ((plc l k:Nat):Int)/\∀ j,j < k->bitB (l.getD j 0)=true) (fun _ i=>l.length - (intOf i).toNat)
 case atStart=>exact ⟨0,Nat.zero_le _,rfl,rfl,fun j hj=>by omega⟩
 case round =>
  obtain ⟨k,hk,rfl,rfl,hbt⟩:=hrel
  have hpl:plc l k < 4096+1:=by
   have h1:=plc_lt hbt
   have h2:=(p12 (n:=k) (by omega)).2
   omega
  have HBT:Hid (∀ j,j < k->bitB (l.getD j 0)=true):=hbt
  clear hbt
  by_cases hlt:k < l.length
  ·have hkz:(k:Int) < (l.length:Int):=by omega
   rcases HI1.out.2 with h0|⟨xb,xo,rfl,hc⟩
   ·omega
   have p0:=hc k hlt
   clear hc
   have hgd:l.getD k 0=l[k]:=by simp [List.getD,hlt]
   have HPS:Hid (plc l (k+1)=2*plc l k+(l.getD k 0).toNat):=rfl
   generalize plc l k=y at *
   rw [<- hgd] at p0
   clear hgd
   obtain ⟨x,hx⟩:∃ x,x=l.getD k 0:=⟨_,rfl⟩
   rw [<- hx] at p0 HPS
   have HX:Hid (x=l.getD k 0):=hx
   clear hx
   have HIC:Hid (∀ W,Calls Tryz.prog 78 #[.int .i64 x] W fun e w'=>e=.returned (.bool (bitB x))/\w'=W):=fun W=>iBitOk x W
   cases hB:bitB x
   ·have HBd:Hid (∃ i,i < l.length/\bitB (l.getD i 0)=false):=⟨k,hlt,by rw [<- HX.out];exact hB⟩
    rw [hB] at HIC
    clear hB
    go_wp2_with (go_at_call 78;refine (HIC.out _).mono ?_;rintro e w' ⟨rfl,rfl⟩)
    go_ret2
    exact ⟨.inr ⟨HBd.out,rfl⟩,rfl⟩
   ·have hx2:=of_decide_eq_true hB
    rw [hB] at HIC
    have HBx:Hid (bitB x=true):=hB
    clear hB
    obtain ⟨b,rfl,hb⟩:∃ b:Nat,x=(b:Int)/\b<=1:=⟨x.toNat,by omega,by omega⟩
    clear hx2
    obtain ⟨z,hz⟩:∃ z:Nat,z=2*y+b:=⟨_,rfl⟩
    have ho:=or_bit (y:=y) (x:=b) (by omega) hb
    rw [<- hz] at ho
    have ho2:bits .or .i64 (2*(y:Int)) (b:Int)=(z:Int):=by rw [<- ho];push_cast;rfl
    have ho3:bits .or .i64 ((y:Int)*2) (b:Int)=(z:Int):=by rw [Int.mul_comm];exact ho2
    have HZ:Hid (z=2*y+b):=hz
    clear hz ho
    go_wp2_with (go_at_call 78;refine (HIC.out _).mono ?_;rintro e w' ⟨rfl,rfl⟩)
    go_round
    case rel=>exact ⟨k+1,by omega,by go_num,by rw [HPS.out,Int.toNat_natCast,<- HZ.out],fun j hj=>by
     by_cases e:j=k
     ·rw [e,<- HX.out];exact HBx.out
     ·exact HBT.out j (by omega)⟩
    case measure=>simp [intOf];omega
  ·have HK:Hid (k=l.length):=by show _=_;omega
   go_wp2
   go_ret2
   exact ⟨.inl ⟨fun i hi=>HBT.out i (by omega),by rw [HK.out];rfl⟩,rfl⟩
end Te3
namespace Mi1
open Go.RowKit
open Ta0 Ta1 Ta2 Tc2 Mm0 Mm2 Mx0 Ms0
open Nd0 (Kept Ints set_other set_same lt_of_cell)
open Qc0 (Sn Sns SnAt)
/-- What the first j of a memo say. -/
def says (l:List Sn):Nat->ByteArray->Option Int
 | 0=>fun _=>none
 | j+1=>putF (says l j) (l.getD j Sn.zero).k (l.getD j Sn.zero).r
/-- How many keys they have. -/
def cnt (l:List Sn):Nat->Nat
 | 0=>0
 | j+1=>if (says l j (l.getD j Sn.zero).k).isSome then cnt l j else cnt l j+1
theorem cnt_le (l:List Sn) (j:Nat):cnt l j<=j:=by
 induction j with
 | zero=>exact Nat.le_refl _
 | succ j ih=>unfold cnt;split<;>omega
theorem says_some {l:List Sn} {x:ByteArray} {j:Nat}:(says l j x).isSome=true↔∃ i,i < j/\(l.getD i Sn.zero).k=x:=by
 induction j with
 | zero=>simp [says]
 | succ j ih =>
   unfold says putF
   by_cases e:x=(l.getD j Sn.zero).k
   ·rw [if_pos e]
    exact ⟨fun _=>⟨j,by omega,e.symm⟩,fun _=>rfl⟩
   ·rw [if_neg e,ih]
    constructor
    ·rintro ⟨i,hi,h⟩
     exact ⟨i,by omega,h⟩
    ·rintro ⟨i,hi,h⟩
     by_cases e2:i=j
     ·subst e2;exact absurd h.symm e
     ·exact ⟨i,by omega,h⟩
/-- All keys are counted just when no two are alike. -/
theorem cnt_all {l:List Sn} {j:Nat}:cnt l j=j↔∀ t s,t < j->s < t->(l.getD s Sn.zero).k≠(l.getD t Sn.zero).k:=by
 induction j with
 | zero=>exact ⟨fun _ t s h=>by omega,fun _=>rfl⟩
 | succ j ih =>
   have hle:=cnt_le l j
   unfold cnt
   constructor
   ·intro h t s ht hs
    by_cases hi:(says l j (l.getD j Sn.zero).k).isSome=true
    ·rw [if_pos hi] at h;omega
    ·rw [if_neg hi] at h
     by_cases e:t=j
     ·subst e
      intro hk
      exact hi (says_some.2 ⟨s,hs,hk⟩)
     ·exact ih.1 (by omega) t s (by omega) hs
   ·intro h
    have hi:¬ (says l j (l.getD j Sn.zero).k).isSome=true:=fun hi=>by
     obtain ⟨i,hi1,hi2⟩:=says_some.1 hi
     exact h j i (by omega) hi1 hi2
    rw [if_neg hi,ih.2 fun t s ht hs=>h t s (by omega) hs]
theorem cnt_apart (l:List Sn):cnt l l.length=l.length↔apart l:=by
 rw [cnt_all]
 constructor
 ·intro h i j hi hj hji
  have:=h i j hi hji
  simpa [List.getD,hi,hj] using this
 ·intro h t s ht hs
  have:=h t s ht (by omega) hs
  have h2:s < l.length:=by omega
  simpa [List.getD,ht,h2] using this
theorem iSays (w:World) (a:Option Addr) (l:List Sn) (c:Nat) (hl:l.length<=1048576) (h:Sns w a l) (hk:∀ x∈l,x.k.size<=maxLen) (hr:∀ x∈l,0<=x.r/\x.r<=1) :
 Calls Tryz.prog 59 #[.slice a l.length c] w fun e w'=>e=.returned (.map (some w.heap.size))/\Ms w' w.heap.size (cnt l l.length) (says l l.length)/\Below w.heap.size w w':=by
 have H:Hid (Sns w a l):=h
 have HK:Hid (∀ x∈l,x.k.size<=maxLen):=hk
 have HRR:Hid (∀ x∈l,0<=x.r/\x.r<=1):=hr
 clear h hk hr
 have hmm:=@run_makeMap Tryz.prog
 go_enter Tryz.func59,Tryz.ntmps59
 go_wp2
 clear hmm
 go_loopw [9] (fun i wr=>∃ j:Nat,j<=l.length/\i=.int .i64 j/\Ms wr w.heap.size (cnt l j) (says l j)/\Below w.heap.size w wr) (fun i _=>l.length - (intOf i).toNat)
 case atStart=>exact ⟨0,Nat.zero_le _,rfl,Ms.new w,(Below.refl _ _).alloc (Nat.le_refl _) _⟩
 case round =>
  obtain ⟨j,hj,rfl,hms,hb⟩:=hrel
  have HMS:Hid (Ms wr w.heap.size (cnt l j) (says l j)):=hms
  have HB:Hid (Below w.heap.size w wr):=hb
  clear hms hb
  by_cases hlt:j < l.length
  ·have hjz:(j:Int) < (l.length:Int):=by omega
   have hN:=H.out.below HB.out
   rcases hN.2 with h0|⟨xb,xo,rfl,hc⟩
   ·omega
   obtain ⟨p0,p1⟩:=hc j hlt
   clear hc hN
   have hgd:l.getD j Sn.zero=l[j]:=by simp [List.getD,hlt]
   have HXK:Hid (l[j].k.size<=maxLen):=HK.out _ (List.getElem_mem hlt)
   have HXR:Hid (0<=l[j].r/\l[j].r<=1):=HRR.out _ (List.getElem_mem hlt)
   have HSY:Hid (says l (j+1)=putF (says l j) l[j].k l[j].r):=by show _=_;rw [<- hgd];rfl
   have HCT:Hid (cnt l (j+1)=if (says l j l[j].k).isSome then cnt l j else cnt l j+1):=by show _=_;rw [<- hgd];rfl
   clear hgd
   generalize l[j]=x at *
   have HMA:Hid (Ms (wr.alloc (.cells #[.string x.k,.int .i64 x.r] 40)) w.heap.size (cnt l j) (says l j)):=HMS.out.below ((Below.refl _ _).alloc (Nat.le_refl _) _)
   have hcl:=cnt_le l j
   obtain ⟨w2,hst,hm2,hk2⟩:=HMA.out.store HXK.out (Ms0.wf_bit (by have:=HXR.out.1;omega) HXR.out.2) (v:=x.r) (by omega)
   have HM2:Hid (Ms w2 w.heap.size (cnt l (j+1)) (says l (j+1))):=by rw [HSY.out,HCT.out];exact hm2
   have HB2:Hid (Below w.heap.size w w2):=HB.out.trans (((Below.refl _ _).alloc HB.out.size _).trans (hk2.below (fun b hb=>by omega) (by have:=HB.out.size;simp;omega)))
   clear hm2 hk2 hcl
   go_wp2
   go_roundw
   case rel=>exact ⟨j+1,by omega,by go_num,HM2.out,HB2.out⟩
   case measure=>simp [intOf];omega
  ·have hjz:¬ (j:Int) < (l.length:Int):=by omega
   have HJ:Hid (j=l.length):=by show _=_;omega
   go_wp2
   go_ret
   exact ⟨rfl,by rw [<- HJ.out];exact HMS.out,HB.out⟩
end Mi1
namespace Mi2
open Go.RowKit
open Ta0 Ta1 Ta2 Tc2 Te1 Mm0 Mm2 Mx0 Ms0 Mi1
open Nd0 (Kept Ints set_other set_same lt_of_cell)
open Qc0 (Sn Sns SnAt)
open Classical in
noncomputable def memB (l:List Sn) (room:Int):Bool:=decide ((0<=room/\room<=40)/\(l.length:Int)<=room/\(∀ x∈l,0<=x.r/\x.r<=1)/\apart l)
theorem memB_iff {l:List Sn} {room:Int}:memB l room=true↔(0<=room/\room<=40)/\(l.length:Int)<=room/\(∀ x∈l,0<=x.r/\x.r<=1)/\apart l:=by unfold memB;simp
theorem memB_no {l:List Sn} {room:Int} (h:¬ ((0<=room/\room<=40)/\(l.length:Int)<=room/\(∀ x∈l,0<=x.r/\x.r<=1)/\apart l)):memB l room=false:=Bool.eq_false_iff.2 fun e=>h (memB_iff.1 e)
theorem memB_yes {l:List Sn} {room:Int} (h:((0<=room/\room<=40)/\(l.length:Int)<=room/\(∀ x∈l,0<=x.r/\x.r<=1)/\apart l)):memB l room=true:=memB_iff.2 h
theorem iMemo (w:World) (a:Option Addr) (l:List Sn) (c:Nat) (room:Int) (h:Sns w a l) (hk:∀ x∈l,x.k.size<=maxLen) :
 Calls Tryz.prog 40 #[.slice a l.length c,.int .i64 room] w fun e w'=>e=.returned (.bool (memB l room))/\Below w.heap.size w w':=by
 have H:Hid (Sns w a l):=h
 have HK:Hid (∀ x∈l,x.k.size<=maxLen):=hk
 have hm:=h.1
 unfold maxLen at hm
 clear h hk
 by_cases h1:room < 0
 ·have h1b:decide (room < 0)=true:=decide_eq_true h1
  have HF:Hid (memB l room=false):=memB_no fun k=>by omega
  go_enter Tryz.func40,Tryz.ntmps40
  go_wp2
  go_ret
  exact ⟨ret_bool HF.out.symm,Below.refl _ _⟩
 have h1b:decide (room < 0)=false:=decide_eq_false h1
 by_cases h2:40 < room
 ·have h2b:decide (40 < room)=true:=decide_eq_true h2
  have HF:Hid (memB l room=false):=memB_no fun k=>by omega
  go_enter Tryz.func40,Tryz.ntmps40
  go_wp2
  go_ret
  exact ⟨ret_bool HF.out.symm,Below.refl _ _⟩
 have h2b:decide (40 < room)=false:=decide_eq_false h2
 by_cases h3:room < (l.length:Int)
 ·have h3b:decide (room < (l.length:Int))=true:=decide_eq_true h3
  have HF:Hid (memB l room=false):=memB_no fun k=>by omega
  go_enter Tryz.func40,Tryz.ntmps40
  go_wp2
  go_ret
  exact ⟨ret_bool HF.out.symm,Below.refl _ _⟩
 have h3b:decide (room < (l.length:Int))=false:=decide_eq_false h3
 go_enter Tryz.func40,Tryz.ntmps40
 go_wp2
 go_loopw [21] (fun i wr=>∃ j:Nat,j<=l.length/\i=.int .i64 j/\(∀ t (ht:t < l.length),t < j->0<=l[t].r/\l[t].r<=1)/\Below w.heap.size w wr) (fun i _=>l.length - (intOf i).toNat)
 case atStart=>exact ⟨0,Nat.zero_le _,rfl,fun t _ h=>by omega,Below.refl _ _⟩
 case round =>
  obtain ⟨j,hj,rfl,hbt,hb⟩:=hrel
  have HBT:Hid (∀ t (ht:t < l.length),t < j->0<=l[t].r/\l[t].r<=1):=hbt
  have HB:Hid (Below w.heap.size w wr):=hb
  clear hbt hb
  by_cases hlt:j < l.length
  ·have hjz:(j:Int) < (l.length:Int):=by omega
   have hN:=H.out.below HB.out
   rcases hN.2 with h0|⟨xb,xo,rfl,hc⟩
   ·omega
   obtain ⟨p0,p1⟩:=hc j hlt
   clear hc hN
   have HNO:Hid (¬ (0<=l[j].r/\l[j].r<=1)->memB l room=false):=fun h=>memB_no fun k=>h (k.2.2.1 _ (List.getElem_mem hlt))
   have HYE:Hid (0<=l[j].r/\l[j].r<=1->∀ t (ht:t < l.length),t < j+1->0<=l[t].r/\l[t].r<=1):=fun h t ht h2=>by
    by_cases e:t=j
    ·subst e;exact h
    ·exact HBT.out t ht (by omega)
   generalize l[j]=x at *
   have HIB:Hid (∀ W:World,Calls Tryz.prog 78 #[.int .i64 x.r] W fun e w'=>e=.returned (.bool (bitB x.r))/\w'=W):=fun W=>iBitOk x.r W
   have HBA:Hid (Below w.heap.size w (wr.alloc (.cells #[.string x.k,.int .i64 x.r] 40))):=HB.out.alloc HB.out.size _
   cases hB:bitB x.r
   ·have HF:Hid (memB l room=false):=HNO.out fun h=>by
     have:=of_decide_eq_false hB
     omega
    rw [hB] at HIB
    clear hB
    go_wp2_with (go_at_call 78;refine (HIB.out _).mono ?_;rintro e w9 ⟨rfl,hw9⟩;(have hw8:=hw9.symm);clear hw9;subst hw8)
    go_ret
    exact ⟨ret_bool HF.out.symm,HBA.out⟩
   ·have HT:=HYE.out (by have:=of_decide_eq_true hB;omega)
    have HT2:Hid (∀ t (ht:t < l.length),t < j+1->0<=l[t].r/\l[t].r<=1):=HT
    rw [hB] at HIB
    clear hB HT
    go_wp2_with (go_at_call 78;refine (HIB.out _).mono ?_;rintro e w9 ⟨rfl,hw9⟩;(have hw8:=hw9.symm);clear hw9;subst hw8)
    go_roundw
    case rel=>exact ⟨j+1,by omega,by go_num,HT2.out,HBA.out⟩
    case measure=>simp [intOf];omega
  ·have hjz:¬ (j:Int) < (l.length:Int):=by omega
   have HBI:Hid (∀ x∈l,0<=x.r/\x.r<=1):=fun x hx=>by
    obtain ⟨t,ht,rfl⟩:=List.getElem_of_mem hx
    exact HBT.out t ht (by omega)
   clear HBT
   go_wp2_with fail
   refine (iSays _ a l c (by omega) (H.out.below HB.out) HK.out HBI.out).mono ?_
   rintro e w2 ⟨rfl,hms,hb2⟩
   have HB2:Hid (Below w.heap.size w w2):=HB.out.trans (hb2.mono HB.out.size)
   have hlen:=fun ty=>hms.len ty
   clear hms hb2
   have hcl:=cnt_le l l.length
   by_cases hap:cnt l l.length=l.length
   ·have HT:Hid (memB l room=true):=memB_yes ⟨⟨by omega,by omega⟩,by omega,HBI.out,(cnt_apart l).1 hap⟩
    have hq:((cnt l l.length:Int)==(l.length:Int))=true:=by rw [hap];simp
    clear hap
    generalize cnt l l.length=cc at *
    go_wp2
    go_ret
    exact ⟨ret_bool HT.out.symm,HB2.out⟩
   ·have HT:Hid (memB l room=false):=memB_no fun k=>hap ((cnt_apart l).2 k.2.2.2)
    have hq:((cnt l l.length:Int)==(l.length:Int))=false:=beq_eq_false_iff_ne.2 (by omega)
    clear hap
    generalize cnt l l.length=cc at *
    go_wp2
    go_ret
    exact ⟨ret_bool HT.out.symm,HB2.out⟩
/-- Whether all are bits. -/
def allB (l:List Int):Bool:=l.all bitB
theorem allB_no {l:List Int} {k:Nat} (h:k < l.length) (hb:bitB l[k]=false):allB l=false:=by
 unfold allB
 rw [List.all_eq_false]
 exact ⟨_,List.getElem_mem h,by rw [hb];simp⟩
theorem iPlaceAny (a:Option Addr) (l:List Int) (c:Nat) (w:World) (hI:Ints w a l) :
 Calls Tryz.prog 79 #[.slice a l.length c] w fun e w'=>(∃ p:Int,e=.returned (.tuple #[.int .i64 p,.bool (allB l)]))/\w'=w:=by
 have HI1:Hid (Ints w a l):=hI
 have hm:=hI.1
 unfold maxLen at hm
 clear hI
 go_enter Tryz.func79,Tryz.ntmps79
 go_wp2
 go_loop [4,9] (fun p i=>∃ (k:Nat) (y:Int),k<=l.length/\i=.int .i64 k/\p=.int .i64 y/\∀ j (hj:j < l.length),j < k->bitB l[j]=true) (fun _ i=>l.length - (intOf i).toNat)
 case atStart=>exact ⟨0,0,Nat.zero_le _,rfl,rfl,fun j _ hj=>by omega⟩
 case round =>
  obtain ⟨k,y,hk,rfl,rfl,hbt⟩:=hrel
  have HBT:Hid (∀ j (hj:j < l.length),j < k->bitB l[j]=true):=hbt
  clear hbt
  by_cases hlt:k < l.length
  ·have hkz:(k:Int) < (l.length:Int):=by omega
   rcases HI1.out.2 with h0|⟨xb,xo,rfl,hc⟩
   ·omega
   have p0:=hc k hlt
   clear hc
   have HN:Hid (bitB l[k]=false->allB l=false):=allB_no hlt
   have HY:Hid (bitB l[k]=true->∀ j (hj:j < l.length),j < k+1->bitB l[j]=true):=fun h j hj h2=>by
    by_cases e:j=k
    ·subst e;exact h
    ·exact HBT.out j hj (by omega)
   generalize l[k]=x at *
   have HIC:Hid (∀ W,Calls Tryz.prog 78 #[.int .i64 x] W fun e w'=>e=.returned (.bool (bitB x))/\w'=W):=fun W=>iBitOk x W
   cases hB:bitB x
   ·have HBd:Hid (allB l=false):=HN.out hB
    rw [hB] at HIC
    clear hB
    go_wp2_with (go_at_call 78;refine (HIC.out _).mono ?_;rintro e w' ⟨rfl,rfl⟩)
    go_ret2
    exact ⟨⟨0,by rw [HBd.out];rfl⟩,rfl⟩
   ·have HT:=HY.out hB
    have HT2:Hid (∀ j (hj:j < l.length),j < k+1->bitB l[j]=true):=HT
    rw [hB] at HIC
    clear hB HT
    go_wp2_with (go_at_call 78;refine (HIC.out _).mono ?_;rintro e w' ⟨rfl,rfl⟩)
    go_round
    case rel=>exact ⟨k+1,_,by omega,by go_num,rfl,HT2.out⟩
    case measure=>simp [intOf];omega
  ·have HT:Hid (allB l=true):=by
    show _=_
    unfold allB
    rw [List.all_eq_true]
    intro x hx
    obtain ⟨t,ht,rfl⟩:=List.getElem_of_mem hx
    exact HBT.out t ht (by omega)
   go_wp2
   go_ret2
   exact ⟨⟨y,by rw [HT.out];rfl⟩,rfl⟩
/-- At most n bits. -/
def valB (l:List Int) (n:Int):Bool:=allB l&&decide ((l.length:Int)<=n)
theorem iVals (a:Option Addr) (l:List Int) (c:Nat) (n:Int) (w:World) (hI:Ints w a l) :
 Calls Tryz.prog 41 #[.slice a l.length c,.int .i64 n] w fun e w'=>e=.returned (.bool (valB l n))/\w'=w:=by
 have HI1:Hid (Ints w a l):=hI
 clear hI
 cases hA:allB l
 ·have HF:Hid (valB l n=false):=by show _=_;unfold valB;rw [hA];rfl
  go_enter Tryz.func41,Tryz.ntmps41
  go_wp2_with fail
  refine (iPlaceAny a l c _ HI1.out).mono ?_
  rw [hA]
  rintro e w2 ⟨⟨p,rfl⟩,rfl⟩
  clear hA
  go_wp2
  go_ret
  exact ⟨ret_bool HF.out.symm,rfl⟩
 ·by_cases hn:(l.length:Int)<=n
  ·have HF:Hid (valB l n=true):=by show _=_;unfold valB;rw [hA,decide_eq_true hn];rfl
   have hnb:decide ((l.length:Int)<=n)=true:=decide_eq_true hn
   go_enter Tryz.func41,Tryz.ntmps41
   go_wp2_with fail
   refine (iPlaceAny a l c _ HI1.out).mono ?_
   rw [hA]
   rintro e w2 ⟨⟨p,rfl⟩,rfl⟩
   clear hA
   go_wp2
   go_ret
   exact ⟨ret_bool HF.out.symm,rfl⟩
  ·have HF:Hid (valB l n=false):=by show _=_;unfold valB;rw [decide_eq_false hn];simp
   have hnb:decide ((l.length:Int)<=n)=false:=decide_eq_false hn
   go_enter Tryz.func41,Tryz.ntmps41
   go_wp2_with fail
   refine (iPlaceAny a l c _ HI1.out).mono ?_
   rw [hA]
   rintro e w2 ⟨⟨p,rfl⟩,rfl⟩
   clear hA
   go_wp2
   go_ret
   exact ⟨ret_bool HF.out.symm,rfl⟩
end Mi2
end Go.Proofs.YtjajkmdoggbicaaGreatDoor
