import Derived.Test.YtladjpombohpaaaGreatDoorPkJE37
namespace Go.Proofs.YtladjpombohpaaaGreatDoor
set_option maxRecDepth 100000
set_option maxHeartbeats 8000000
set_option linter.unusedVariables false
namespace Mk2
open Go.RowKit
open Nd0 Tx0 Qc0 Mk1
def mkS (k0 i:Nat):Sn:=⟨mt (k0+2*i),((k0+2*i+1:Nat):Int)⟩
def markS (n k0:Nat):List Sn:=(List.range n).map fun i=>mkS k0 i
theorem markS_length (n k0:Nat):(markS n k0).length=n:=by simp [markS]
theorem markS_get (n k0 i:Nat) (h:i < (markS n k0).length):(markS n k0)[i]=mkS k0 i:=by simp [markS]
theorem markSeenS (w:World) (B:Nat) (a:Option Addr) (l:List Sn) (c:Nat) (h:WSns w B a l) (k0:Nat) (h0:0 < k0) (h1:k0<=10000000) (hl:l.length<=1048576) :
 Calls Tryz.prog 44 #[.slice a l.length c,.int .i64 (k0:Int)] w fun e w'=>e=.returned (.int .i64 ((k0+2*l.length:Nat):Int))/\WSns w' B a (markS l.length k0)/\Kept (Ats l.length a) w w':=by
 have H:Hid (WSns w B a l):=h
 clear h
 generalize hn:l.length=n at hl ⊢
 go_enter Tryz.func44,Tryz.ntmps44
 go_wp2
 go_loopw [1,5] (fun q i wr=>∃ k:Nat,k<=n/\i=.int .i64 k/\q=.int .i64 ((k0+2*k:Nat):Int)/\Kept (Ats n a) w wr/\(n=0\/∃ b o,a=some ⟨b,o,none⟩/\B<=b/\∀ j,j < n->∃ v:Sn,SnAt wr b (o+j*2) v/\wr.frozen? ⟨b,o+j*2,none⟩=false/\wr.frozen? ⟨b,o+j*2+1,none⟩=false/\(j < k->v=mkS k0 j))) (fun _ i _=>n - (intOf i).toNat)
 case atStart =>
  refine ⟨0,Nat.zero_le _,rfl,by simp,Kept.refl _ _,?_⟩
  rcases H.out.2 with e|⟨b,o,ha,hB,hc,hf⟩
  ·exact .inl (by omega)
  ·exact .inr ⟨b,o,ha,hB,fun j hj=>⟨l[j]'(by omega),hc j (by omega),hf (j*2) (by omega),hf (j*2+1) (by omega),fun x=>by omega⟩⟩
 case round =>
  obtain ⟨k,hk,rfl,rfl,hb,hx⟩:=hrel
  by_cases hlt:k < n
  ·have HK:Hid (Kept (Ats n a) w wr):=hb
   clear hb
   rcases hx with e|⟨b,o,rfl,hB,hc⟩
   ·omega
   have HC:Hid (∀ j,j < n->∃ v:Sn,SnAt wr b (o+j*2) v/\wr.frozen? ⟨b,o+j*2,none⟩=false/\wr.frozen? ⟨b,o+j*2+1,none⟩=false/\(j < k->v=mkS k0 j)):=hc
   clear hc
   have hlz:(k:Int) < (n:Int):=by omega
   obtain ⟨z,hz⟩:∃ z:Nat,z=k0+2*k:=⟨_,rfl⟩
   rw [<- hz]
   have HZ:Hid (z=k0+2*k):=hz
   have hz0:0 < z:=by omega
   have hz9:z < 100000000:=by omega
   clear hz
   go_wp2_with fail
   refine (markText z wr hz0 (by omega)).mono ?_
   rintro e w1 ⟨rfl,hb1⟩
   obtain ⟨v,p0,p1,p2,_⟩:=HC.out k hlt
   have hbl:=p0.lt
   have c0:w1.cell? ⟨b,o+k*2,none⟩=some (.string v.k):=by rw [hb1.cell (p:=⟨b,o+k*2,none⟩) hbl];exact p0.c0
   have c1:w1.cell? ⟨b,o+k*2+1,none⟩=some (.int .i64 v.r):=by rw [hb1.cell (p:=⟨b,o+k*2+1,none⟩) hbl];exact p0.c1
   have f0:w1.frozen? ⟨b,o+k*2,none⟩=false:=by rw [hb1.frozen (p:=⟨b,o+k*2,none⟩) hbl];exact p1
   have f1:w1.frozen? ⟨b,o+k*2+1,none⟩=false:=by rw [hb1.frozen (p:=⟨b,o+k*2+1,none⟩) hbl];exact p2
   have HB1:Hid (Below wr.heap.size wr w1):=hb1
   have hbl1:=lt_of_cell c0
   clear hb1 p0 p1 p2 hbl
   obtain ⟨M,hM⟩:∃ M,M=mt z:=⟨_,rfl⟩
   have HM:Hid (M=mt z):=hM
   rw [<- hM]
   clear hM
   go_wp2
   go_roundw
   case rel =>
    have F1:Kept (Ats n (some ⟨b,o,none⟩)) w ((w1.setCell ⟨b,o+k*2,none⟩ (.string M)).setCell ⟨b,o+k*2+1,none⟩ (.int .i64 ((z:Int)+1))):=((HK.out.trans (Kept.ofBelow HB1.out)).setCell (p:=⟨b,o+k*2,none⟩) ⟨by omega,_,rfl,rfl⟩ _).setCell (p:=⟨b,o+k*2+1,none⟩) ⟨by omega,_,rfl,rfl⟩ _
    refine ⟨k+1,by omega,by go_num,congrArg (Value.int .i64) (by have:=HZ.out;omega),F1,.inr ⟨b,o,rfl,hB,?_⟩⟩
    intro j hj
    obtain ⟨u,q0,q1,q2,q3⟩:=HC.out j hj
    by_cases e:j=k
    ·subst e
     refine ⟨mkS k0 j,⟨?_,?_⟩,?_,?_,fun _=>rfl⟩
     ·rw [set_other (by simp),set_same c0]
      unfold mkS
      rw [HM.out,HZ.out]
     ·rw [set_same (by rw [set_other (by simp)];exact c1)]
      unfold mkS
      have:=HZ.out
      exact congrArg (fun z=>some (Value.int .i64 z)) (show (z:Int)+1=((k0+2*j+1:Nat):Int) by omega)
     ·rw [World.frozen?_setCell,World.frozen?_setCell];exact f0
     ·rw [World.frozen?_setCell,World.frozen?_setCell];exact f1
    ·have hb1:=HB1.out
     refine ⟨u,⟨?_,?_⟩,?_,?_,fun x=>q3 (by omega)⟩
     ·rw [set_other (by simp<;>omega),set_other (by simp<;>omega),hb1.cell (p:=⟨b,o+j*2,none⟩) q0.lt];exact q0.c0
     ·rw [set_other (by simp<;>omega),set_other (by simp<;>omega),hb1.cell (p:=⟨b,o+j*2+1,none⟩) q0.lt];exact q0.c1
     ·rw [World.frozen?_setCell,World.frozen?_setCell,hb1.frozen (p:=⟨b,o+j*2,none⟩) q0.lt];exact q1
     ·rw [World.frozen?_setCell,World.frozen?_setCell,hb1.frozen (p:=⟨b,o+j*2+1,none⟩) q0.lt];exact q2
   case measure=>simp [intOf];omega
  ·go_wp2
   go_ret
   have e:k=n:=by omega
   subst e
   refine ⟨rfl,⟨by rw [markS_length];have:=H.out.1;omega,?_⟩,hb⟩
   rcases hx with e|⟨b,o,ha,hB,hc⟩
   ·exact .inl (by rw [markS_length];exact e)
   ·refine .inr ⟨b,o,ha,hB,fun i hi=>?_,fun j hj=>?_⟩
    ·rw [markS_length] at hi
     obtain ⟨v,q0,q1,q2,q3⟩:=hc i hi
     rw [markS_get,<- q3 hi]
     exact q0
    ·rw [markS_length] at hj
     obtain ⟨v,q0,q1,q2,q3⟩:=hc (j / 2) (by omega)
     rcases Nat.mod_two_eq_zero_or_one j with e|e
     ·rw [show o+j=o+j / 2*2 by omega];exact q1
     ·rw [show o+j=o+j / 2*2+1 by omega];exact q2
theorem heldSeenS (w:World) (a:Option Addr) (n:Nat) (c:Nat) (k0:Nat) (h:Sns w a (markS n k0)) (h0:0 < k0) (h1:k0<=10000000) (hl:n<=1048576) :
 Calls Tryz.prog 47 #[.slice a n c,.int .i64 (k0:Int)] w fun e w'=>e=.returned (.int .i64 ((k0+2*n:Nat):Int))/\Below w.heap.size w w':=by
 have H:Hid (Sns w a (markS n k0)):=h
 clear h
 go_enter Tryz.func47,Tryz.ntmps47
 go_wp2
 go_loopw [1,5] (fun q i wr=>∃ k:Nat,k<=n/\i=.int .i64 k/\q=.int .i64 ((k0+2*k:Nat):Int)/\Below w.heap.size w wr) (fun _ i _=>n - (intOf i).toNat)
 case atStart=>exact ⟨0,Nat.zero_le _,rfl,by simp,Below.refl _ _⟩
 case round =>
  obtain ⟨k,hk,rfl,rfl,hb⟩:=hrel
  have HB:Hid (Below w.heap.size w wr):=hb
  clear hb
  by_cases hlt:k < n
  ·have hlz:(k:Int) < (n:Int):=by omega
   obtain ⟨b,o,rfl,hc⟩:∃ b o,a=some ⟨b,o,none⟩/\∀ i,i < n->SnAt w b (o+i*2) (mkS k0 i):=by
    rcases H.out.2 with e|⟨b,o,e,hc⟩
    ·rw [markS_length] at e;omega
    ·exact ⟨b,o,e,fun i hi=>by have:=hc i (by rw [markS_length];exact hi);rwa [markS_get] at this⟩
   have hat:=hc k hlt
   clear hc
   obtain ⟨z,hz⟩:∃ z:Nat,z=k0+2*k:=⟨_,rfl⟩
   rw [<- hz]
   have HZ:Hid (z=k0+2*k):=hz
   have hz0:0 < z:=by omega
   have hz9:z < 100000000:=by omega
   have a0:w.cell? ⟨b,o+k*2,none⟩=some (.string (mt z)):=by rw [hz];exact hat.c0
   have a1:w.cell? ⟨b,o+k*2+1,none⟩=some (.int .i64 ((z:Int)+1)):=by rw [hat.c1];unfold mkS;exact congrArg (fun z=>some (Value.int .i64 z)) (show ((k0+2*k+1:Nat):Int)=(z:Int)+1 by omega)
   clear hz hat
   have HA1:Hid (∀ W,Below w.heap.size w W->W.cell? ⟨b,o+k*2+1,none⟩=some (.int .i64 ((z:Int)+1))/\b < W.heap.size):=fun W hb=>by rw [hb.cell (p:=⟨b,o+k*2+1,none⟩) (lt_of_cell a1)];exact ⟨a1,Nat.lt_of_lt_of_le (lt_of_cell a1) hb.size⟩
   have HA0:Hid (∀ W,Below w.heap.size w W->W.cell? ⟨b,o+k*2,none⟩=some (.string (mt z))/\b < W.heap.size):=fun W hb=>by rw [hb.cell (p:=⟨b,o+k*2,none⟩) (lt_of_cell a0)];exact ⟨a0,Nat.lt_of_lt_of_le (lt_of_cell a0) hb.size⟩
   clear a0 a1
   have HMT:Hid (∀ W:World,Calls Tryz.prog 77 #[.int .i64 (z:Int)] W fun e w'=>e=.returned (.string (mt z))/\Below W.heap.size W w'):=fun W=>markText z W hz0 (by omega)
   generalize mt z=M at *
   have hMM:(M.toList==M.toList)=true:=by simp
   go_wp2
   obtain ⟨b0,hb0⟩:=HA0.out wr.drew HB.out.drew
   go_region_with (go_at_call 77;(with_reducible refine (HMT.out _).mono ?_);rintro e w1 ⟨rfl,hb1⟩;obtain ⟨b0,hb0⟩:=HA0.out w1 (HB.out.drew.trans (hb1.mono HB.out.drew.size));have HB1:Hid (Below w.heap.size w w1):=HB.out.drew.trans (hb1.mono HB.out.drew.size);clear hb1)
   all_goals
    obtain ⟨b1,hb9⟩:=HA1.out _ HB1.out
    go_wp2
    go_roundw
    case rel=>exact ⟨k+1,by omega,by go_num,congrArg (Value.int .i64) (by have:=HZ.out;omega),HB1.out⟩
    case measure=>simp [intOf];omega
  ·have e:k=n:=by omega
   subst e
   go_wp2
   go_ret
   exact ⟨rfl,HB.out⟩
end Mk2
namespace Mk3
open Go.RowKit
open Nd0 (Kept Ints WInts Ats At marks lt_of_cell marks_length)
open Nd6 (Bools markBoolS heldBoolS markB markIntB heldIntB BoolsIn markB_length)
open Ap1 (WBools)
open Qc0 Mm0 Mx0 Mk2
theorem wb_kept {w w':World} {B:Nat} {a:Option Addr} {l:List Bool} (h:WBools w B a l) {S:Nat->Prop} (k:Kept S w w') (hs:∀ b,Ats l.length a b->¬ S b):WBools w' B a l:=by
 refine ⟨h.1,?_⟩
 rcases h.2 with h0|⟨b,o,rfl,hB,hc⟩
 ·exact .inl h0
 ·exact .inr ⟨b,o,rfl,hB,fun i hi=>⟨by rw [k.cell (p:=⟨b,o+i,none⟩) (lt_of_cell (hc i hi).1) (hs b ⟨by omega,_,rfl,rfl⟩)];exact (hc i hi).1,by rw [k.frozen (p:=⟨b,o+i,none⟩) (lt_of_cell (hc i hi).1) (hs b ⟨by omega,_,rfl,rfl⟩)];exact (hc i hi).2⟩⟩
theorem wi_kept {w w':World} {B:Nat} {a:Option Addr} {l:List Int} (h:WInts w B a l) {S:Nat->Prop} (k:Kept S w w') (hs:∀ b,Ats l.length a b->¬ S b):WInts w' B a l:=by
 refine ⟨h.1,?_⟩
 rcases h.2 with h0|⟨b,o,rfl,hB,hc⟩
 ·exact .inl h0
 ·exact .inr ⟨b,o,rfl,hB,fun i hi=>⟨by rw [k.cell (p:=⟨b,o+i,none⟩) (lt_of_cell (hc i hi).1) (hs b ⟨by omega,_,rfl,rfl⟩)];exact (hc i hi).1,by rw [k.frozen (p:=⟨b,o+i,none⟩) (lt_of_cell (hc i hi).1) (hs b ⟨by omega,_,rfl,rfl⟩)];exact (hc i hi).2⟩⟩
theorem ws_kept {w w':World} {B:Nat} {a:Option Addr} {l:List Sn} (h:WSns w B a l) {S:Nat->Prop} (k:Kept S w w') (hs:∀ b,Ats l.length a b->¬ S b):WSns w' B a l:=by
 refine ⟨h.1,?_⟩
 rcases h.2 with h0|⟨b,o,rfl,hB,hc,hf⟩
 ·exact .inl h0
 ·by_cases e:l.length=0
  ·exact .inl e
  have hl:=(hc 0 (by omega)).lt
  exact .inr ⟨b,o,rfl,hB,fun i hi=>⟨by rw [k.cell (p:=⟨b,o+i*2,none⟩) hl (hs b ⟨by omega,_,rfl,rfl⟩)];exact (hc i hi).c0,by rw [k.cell (p:=⟨b,o+i*2+1,none⟩) hl (hs b ⟨by omega,_,rfl,rfl⟩)];exact (hc i hi).c1⟩,fun j hj=>by rw [k.frozen (p:=⟨b,o+j,none⟩) hl (hs b ⟨by omega,_,rfl,rfl⟩)];exact hf j hj⟩
/-- Lists of nr, nv and nm elements that lie apart from each other. -/
structure Ax (nr nv nm:Nat) (ra va ma:Option Addr):Prop where
 rv:∀ k,Ats nr ra k->¬ Ats nv va k
 rm:∀ k,Ats nr ra k->¬ Ats nm ma k
 vm:∀ k,Ats nv va k->¬ Ats nm ma k
/-- A machine's lists that may be written. -/
structure Wm (W:World) (B:Nat) (row:List Bool) (vals:List Int) (memo:List Sn) (ra va ma:Option Addr):Prop where
 row:WBools W B ra row
 vals:WInts W B va vals
 memo:WSns W B ma memo
theorem Wm.kept {W W':World} {B:Nat} {row:List Bool} {vals:List Int} {memo:List Sn} {ra va ma:Option Addr} (h:Wm W B row vals memo ra va ma) {S:Nat->Prop} (k:Kept S W W') (h1:∀ b,Ats row.length ra b->¬ S b) (h2:∀ b,Ats vals.length va b->¬ S b) (h3:∀ b,Ats memo.length ma b->¬ S b):Wm W' B row vals memo ra va ma:=⟨wb_kept h.row k h1,wi_kept h.vals k h2,ws_kept h.memo k h3⟩
theorem Wm.below {W W':World} {B:Nat} {row:List Bool} {vals:List Int} {memo:List Sn} {ra va ma:Option Addr} (h:Wm W B row vals memo ra va ma) (k:Below W.heap.size W W'):Wm W' B row vals memo ra va ma:=h.kept (S:=fun _=>False) (Kept.ofBelow k) (fun _ _ h=>h) (fun _ _ h=>h) (fun _ _ h=>h)
theorem Wm.mr {W:World} {B:Nat} {m:Mc} {ra va ma:Option Addr} (h:Wm W B m.row m.vals m.memo ra va ma):Mr W m ra va ma:=⟨Nd6.WBools.plain h.row,h.vals.ints,h.memo.plain⟩
def anyAt (nr nv nm:Nat) (ra va ma:Option Addr) (b:Nat):Prop:=Ats nr ra b\/Ats nv va b\/Ats nm ma b
theorem Wm.ge {W:World} {B:Nat} {row:List Bool} {vals:List Int} {memo:List Sn} {ra va ma:Option Addr} (h:Wm W B row vals memo ra va ma) {b:Nat} (hb:anyAt row.length vals.length memo.length ra va ma b):B<=b/\b < W.heap.size:=by
 rcases hb with ⟨h0,x,hx,rfl⟩|⟨h0,x,hx,rfl⟩|⟨h0,x,hx,rfl⟩
 ·rcases h.row.2 with e|⟨b,o,e,hB,hc⟩
  ·omega
  ·rw [e] at hx;cases hx;exact ⟨hB,lt_of_cell (hc 0 h0).1⟩
 ·rcases h.vals.2 with e|⟨b,o,e,hB,hc⟩
  ·omega
  ·rw [e] at hx;cases hx;exact ⟨hB,lt_of_cell (hc 0 h0).1⟩
 ·rcases h.memo.2 with e|⟨b,o,e,hB,hc,_⟩
  ·omega
  ·rw [e] at hx;cases hx;exact ⟨hB,(hc 0 h0).lt⟩
/-- The last mark on a machine. -/
def lastM (m:Mc):Nat:=1+m.row.length+m.vals.length+2*m.memo.length
theorem markMachine (w:World) (m:Mc) (ra va ma:Option Addr) (rc vc mc B:Nat) (h:Wm w B m.row m.vals m.memo ra va ma) (hx:Ax m.row.length m.vals.length m.memo.length ra va ma) (hl:m.row.length<=1048576) (hv:m.vals.length<=1048576) (hm:m.memo.length<=1048576) :
 Calls Tryz.prog 16 #[mval m ra va ma rc vc mc,.int .i64 1] w fun e w'=>e=.returned (.int .i64 (lastM m:Int))/\Wm w' B (markB m.row.length 1) (marks m.vals.length ((1+m.row.length:Nat):Int)) (markS m.memo.length (1+m.row.length+m.vals.length)) ra va ma/\Kept (anyAt m.row.length m.vals.length m.memo.length ra va ma) w w':=by
 have HW:Hid (Wm w B m.row m.vals m.memo ra va ma):=h
 have HRA:Hid (∀ b,anyAt m.row.length m.vals.length m.memo.length ra va ma b->b < w.heap.size):=fun b hb=>(h.ge hb).2
 have HX:Hid (Ax m.row.length m.vals.length m.memo.length ra va ma):=hx
 clear h hx
 obtain ⟨X0,hX0⟩:∃ X0,X0=w.alloc (.cells #[.slice ra m.row.length rc,.int .i64 m.N,.string m.S,.int .i64 m.room,.slice va m.vals.length vc,.int .i64 m.ret,.bool m.over,.int .i64 m.steps,.int .i64 m.looks,.int .i64 m.hits,.slice ma m.memo.length mc] 35):=⟨_,rfl⟩
 have HA0:Hid (Mb X0 w.heap.size m ra va ma rc vc mc):=by rw [hX0];exact Mb.made _ _ _ _ _ _ _ _ _
 have K0:Kept (fun _=>False) w X0:=by rw [hX0];exact (Kept.refl _ _).alloc _
 have HK0:Hid (Kept (anyAt m.row.length m.vals.length m.memo.length ra va ma) w X0):=K0.mono (fun _ e=>e.elim)
 have HW0:Hid (Wm X0 B m.row m.vals m.memo ra va ma):=HW.out.kept K0 (fun _ _ e=>e) (fun _ _ e=>e) (fun _ _ e=>e)
 clear K0
 go_enter Tryz.func16,Tryz.ntmps16
 go_upto_region 1 with fail
 rw [<- hX0]
 clear hX0
 obtain ⟨m0,m1,m2,m3,m4,m5,m6,m7,m8,m9,m10⟩:=HA0.out
 go_wp2_with fail
 clear m0 m1 m2 m3 m4 m5 m6 m7 m8 m9 m10
 refine (markBoolS _ B ra m.row rc HW0.out.row 1 (by omega) (by omega) hl).mono ?_
 rintro e w1 ⟨rfl,hw1,hk1⟩
 have hk1':Kept (Ats m.row.length ra) X0 w1:=hk1
 have HW1:Hid (Wm w1 B (markB m.row.length 1) m.vals m.memo ra va ma):=⟨hw1,wi_kept HW0.out.vals hk1' (fun b h1 h2=>HX.out.rv b h2 h1),ws_kept HW0.out.memo hk1' (fun b h1 h2=>HX.out.rm b h2 h1)⟩
 have HK1:Hid (Kept (anyAt m.row.length m.vals.length m.memo.length ra va ma) w w1):=HK0.out.trans (hk1'.mono (fun b hb=>.inl hb))
 have HA1:Hid (Mb w1 w.heap.size m ra va ma rc vc mc):=HA0.out.kept hk1' (fun h=>by have:=HRA.out _ (.inl h);omega)
 clear hw1 hk1 hk1' HA0 HK0 HW0
 obtain ⟨m0,m1,m2,m3,m4,m5,m6,m7,m8,m9,m10⟩:=HA1.out
 obtain ⟨z1,hz1⟩:∃ z:Nat,z=1+m.row.length:=⟨_,rfl⟩
 have hz1i:(1:Int)+(m.row.length:Int)=(z1:Int):=by omega
 have HZ1:Hid (z1=1+m.row.length):=hz1
 rw [hz1i]
 have hz1b:z1<=2000000:=by omega
 clear hz1 hz1i
 go_wp2_with fail
 clear m0 m1 m2 m3 m4 m5 m6 m7 m8 m9 m10
 refine (markIntB w1 B va m.vals vc HW1.out.vals (z1:Int) (by omega) (by omega) hv).mono ?_
 rintro e w2 ⟨rfl,hw2,hk2⟩
 have hk2':Kept (Ats m.vals.length va) w1 w2:=hk2
 have HW2:Hid (Wm w2 B (markB m.row.length 1) (marks m.vals.length (z1:Int)) m.memo ra va ma):=⟨wb_kept HW1.out.row hk2' (fun b h1 h2=>HX.out.rv b (by rw [markB_length] at h1;exact h1) h2),hw2,ws_kept HW1.out.memo hk2' (fun b h1 h2=>HX.out.vm b h2 h1)⟩
 have HK2:Hid (Kept (anyAt m.row.length m.vals.length m.memo.length ra va ma) w w2):=HK1.out.trans (hk2'.mono (fun b hb=>.inr (.inl hb)))
 have HA2:Hid (Mb w2 w.heap.size m ra va ma rc vc mc):=HA1.out.kept hk2' (fun h=>by have:=HRA.out _ (.inr (.inl h));omega)
 clear hw2 hk2 hk2' HA1 HK1 HW1
 obtain ⟨m0,m1,m2,m3,m4,m5,m6,m7,m8,m9,m10⟩:=HA2.out
 obtain ⟨z2,hz2⟩:∃ z:Nat,z=z1+m.vals.length:=⟨_,rfl⟩
 have hz2i:(z1:Int)+(m.vals.length:Int)=(z2:Int):=by omega
 have HZ2:Hid (z2=z1+m.vals.length):=hz2
 have hz2b:z2<=4000000/\0 < z2:=by have:=HZ1.out;omega
 rw [hz2i]
 clear hz2 hz2i
 go_wp2_with fail
 clear m0 m1 m2 m3 m4 m5 m6 m7 m8 m9 m10
 refine (markSeenS w2 B ma m.memo mc HW2.out.memo z2 hz2b.2 (by omega) hm).mono ?_
 rintro e w3 ⟨rfl,hw3,hk3⟩
 have hk3':Kept (Ats m.memo.length ma) w2 w3:=hk3
 have HW3:Hid (Wm w3 B (markB m.row.length 1) (marks m.vals.length (z1:Int)) (markS m.memo.length z2) ra va ma):=⟨wb_kept HW2.out.row hk3' (fun b h1 h2=>HX.out.rm b (by rw [markB_length] at h1;exact h1) h2),wi_kept HW2.out.vals hk3' (fun b h1 h2=>HX.out.vm b (by rw [marks_length] at h1;exact h1) h2),hw3⟩
 have HK3:Hid (Kept (anyAt m.row.length m.vals.length m.memo.length ra va ma) w w3):=HK2.out.trans (hk3'.mono (fun b hb=>.inr (.inr hb)))
 clear hw3 hk3 hk3' HA2 HK2 HW2
 have HL:Hid (z2+2*m.memo.length=lastM m):=by
  show _=_
  unfold lastM
  have:=HZ1.out
  have:=HZ2.out
  omega
 rw [HL.out]
 go_wp2
 go_ret
 have hw:=HW3.out
 rw [HZ2.out,HZ1.out] at hw
 exact ⟨rfl,hw,HK3.out⟩
theorem heldMachine (w:World) (m:Mc) (ra va ma:Option Addr) (rc vc mc:Nat) (hB:Bools w ra (markB m.row.length 1)) (hI:Ints w va (marks m.vals.length ((1+m.row.length:Nat):Int))) (hM:Sns w ma (markS m.memo.length (1+m.row.length+m.vals.length))) (hl:m.row.length<=1048576) (hv:m.vals.length<=1048576) (hm:m.memo.length<=1048576) :
 Calls Tryz.prog 17 #[mval m ra va ma rc vc mc,.int .i64 1] w fun e w'=>e=.returned (.int .i64 (lastM m:Int))/\Below w.heap.size w w':=by
 obtain ⟨z1,hz1⟩:∃ z:Nat,z=1+m.row.length:=⟨_,rfl⟩
 have hz1i:(1:Int)+(m.row.length:Int)=(z1:Int):=by omega
 obtain ⟨z2,hz2⟩:∃ z:Nat,z=z1+m.vals.length:=⟨_,rfl⟩
 have hz2i:(z1:Int)+(m.vals.length:Int)=(z2:Int):=by omega
 rw [<- hz1] at hI hM
 rw [<- hz2] at hM
 have HB:Hid (Bools w ra (markB m.row.length 1)):=hB
 have HI:Hid (Ints w va (marks m.vals.length (z1:Int))):=hI
 have HM:Hid (Sns w ma (markS m.memo.length z2)):=hM
 have hz1b:z1<=2000000:=by omega
 have hz2b:z2<=4000000/\0 < z2:=by omega
 have HL:Hid (z2+2*m.memo.length=lastM m):=by
  show _=_
  unfold lastM
  omega
 have HQ1:Hid ((1:Int)+(m.row.length:Int)=(z1:Int)):=hz1i
 have HQ2:Hid ((z1:Int)+(m.vals.length:Int)=(z2:Int)):=hz2i
 clear hB hI hM hz1 hz2 hz1i hz2i
 obtain ⟨X0,hX0⟩:∃ X0,X0=w.alloc (.cells #[.slice ra m.row.length rc,.int .i64 m.N,.string m.S,.int .i64 m.room,.slice va m.vals.length vc,.int .i64 m.ret,.bool m.over,.int .i64 m.steps,.int .i64 m.looks,.int .i64 m.hits,.slice ma m.memo.length mc] 35):=⟨_,rfl⟩
 have HA0:Hid (Mb X0 w.heap.size m ra va ma rc vc mc):=by rw [hX0];exact Mb.made _ _ _ _ _ _ _ _ _
 have HB0:Hid (Below w.heap.size w X0):=by rw [hX0];exact (Below.refl _ _).alloc (Nat.le_refl _) _
 go_enter Tryz.func17,Tryz.ntmps17
 go_upto_region 1 with fail
 rw [<- hX0]
 clear hX0
 obtain ⟨m0,m1,m2,m3,m4,m5,m6,m7,m8,m9,m10⟩:=HA0.out
 go_wp2_with fail
 clear m0 m1 m2 m3 m4 m5 m6 m7 m8 m9 m10
 refine (heldBoolS _ ra m.row.length rc 1 (HB.out.below HB0.out) (by omega) (by omega) hl).mono ?_
 rintro e w1 ⟨rfl,hw1⟩
 have hw1':=hw1.symm
 clear hw1
 subst hw1'
 rw [HQ1.out]
 have hq1:¬ (z1:Int) < 0:=by omega
 obtain ⟨m0,m1,m2,m3,m4,m5,m6,m7,m8,m9,m10⟩:=HA0.out
 go_wp2_with fail
 clear m0 m1 m2 m3 m4 m5 m6 m7 m8 m9 m10
 refine (heldIntB _ va m.vals.length vc (z1:Int) (HI.out.below HB0.out) (by omega) (by omega) hv).mono ?_
 rintro e w2 ⟨rfl,hw2⟩
 have hw2':=hw2.symm
 clear hw2
 subst hw2'
 rw [HQ2.out]
 have hq2:¬ (z2:Int) < 0:=by omega
 obtain ⟨m0,m1,m2,m3,m4,m5,m6,m7,m8,m9,m10⟩:=HA0.out
 go_wp2_with fail
 clear m0 m1 m2 m3 m4 m5 m6 m7 m8 m9 m10
 refine (heldSeenS _ ma m.memo.length mc z2 (HM.out.below HB0.out) hz2b.2 (by omega) hm).mono ?_
 rintro e w3 ⟨rfl,hb3⟩
 have HB3:Hid (Below w.heap.size w w3):=HB0.out.trans (hb3.mono HB0.out.size)
 clear hb3
 rw [HL.out]
 have hq3:¬ (lastM m:Int) < 0:=by omega
 go_wp2
 go_ret
 exact ⟨rfl,HB3.out⟩
end Mk3
end Go.Proofs.YtladjpombohpaaaGreatDoor
