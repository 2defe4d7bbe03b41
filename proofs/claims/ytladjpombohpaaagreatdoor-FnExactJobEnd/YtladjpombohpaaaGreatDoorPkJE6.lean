import Derived.Test.YtladjpombohpaaaGreatDoorPkJE5
namespace Go.Proofs.YtladjpombohpaaaGreatDoor
set_option maxRecDepth 100000
set_option maxHeartbeats 8000000
set_option linter.unusedVariables false
namespace Qc1
open Go.RowKit
open Nd0 Nd1 Qc0
theorem toSeen (a:ByteArray) (b:Int) (w:World) :
 Calls Tryz.prog 64 #[.agg #[.string a,.int .i64 b]] w fun e w'=>e=.returned (.agg #[.string a,.int .i64 b])/\Below w.heap.size w w':=by
 go_enter Tryz.func64,Tryz.ntmps64
 go_wp2
 refine bodyPost_ret (v:=.agg #[.string a,.int .i64 b]) (by simp [results,Tryz.results64,go_sem]) rfl ⟨rfl,?_⟩
 exact (((Below.refl _ _).alloc (Nat.le_refl _) _).alloc (by simp) _).alloc (by simp;omega) _
theorem eqSeen (a:ByteArray) (b:Int) (w:World) :
 Calls Tryz.prog 76 #[.agg #[.string a,.int .i64 b],.agg #[.string a,.int .i64 b]] w fun e w'=>e=.returned (.bool true)/\Below w.heap.size w w':=by
 have hb0:(a.toList==a.toList)=true:=by simp
 have hb1:(b != b)=false:=by simp
 go_enter Tryz.func76,Tryz.ntmps76
 go_wp2
 go_ret
 exact ⟨rfl,((Below.refl _ _).alloc (Nat.le_refl _) _).alloc (by simp) _⟩
theorem eqSeenS (w:World) (a a':Option Addr) (l:List Sn) (c c':Nat) (h:Sns w a l) (h':Sns w a' l) :
 Calls Tryz.prog 41 #[.slice a l.length c,.slice a' l.length c'] w fun e w'=>e=.returned (.bool true)/\Below w.heap.size w w':=by
 have H:Hid (Sns w a l):=h
 have H':Hid (Sns w a' l):=h'
 have hm:=h.1
 unfold maxLen at hm
 clear h h'
 go_enter Tryz.func41,Tryz.ntmps41
 go_wp2
 go_loopw [5] (fun i wr=>∃ k:Nat,k<=l.length/\i=.int .i64 k/\Below w.heap.size w wr) (fun i _=>l.length - (intOf i).toNat)
 case atStart=>exact ⟨0,Nat.zero_le _,rfl,Below.refl _ _⟩
 case round =>
  obtain ⟨k,hk,rfl,hb⟩:=hrel
  have HB:Hid (Below w.heap.size w wr):=hb
  clear hb
  by_cases hlt:k < l.length
  ·have hlz:(k:Int) < (l.length:Int):=by omega
   have HN:=H.out.below HB.out
   have HN':=H'.out.below HB.out
   rcases HN.2 with h0|⟨xb,xo,rfl,hc⟩
   ·omega
   rcases HN'.2 with h0|⟨yb,yo,rfl,hc'⟩
   ·omega
   obtain ⟨p0,p1⟩:=hc k hlt
   obtain ⟨q0,q1⟩:=hc' k hlt
   clear hc hc' HN HN'
   generalize l[k]=x at p0 p1 q0 q1
   obtain ⟨x0,x1⟩:=x
   simp only at p0 p1 q0 q1
   go_wp2
   go_region_with (go_at_call 76;refine (eqSeen _ _ _).mono ?_;rintro e w' ⟨rfl,hbe⟩)
   all_goals
    have HB2:Hid (Below w.heap.size w w'):=HB.out.drew.trans (hbe.mono (by have:=HB.out.size;simpa using this))
    clear hbe
    go_wp2
    go_roundw
    case rel=>exact ⟨k+1,by omega,by go_num,HB2.out⟩
    case measure=>simp [intOf];omega
  ·go_wp2
   go_ret
   exact ⟨rfl,HB.out⟩
theorem infoSn:(Tryz.prog.info? 102).map (fun i=>(i.zero,i.size,i.bytes))=some (some (.agg #[.string ByteArray.empty,.int .i64 0]),2,24):=by kernel_rfl
def zerosSn (n:Nat):Array Value:=madeCells #[.string ByteArray.empty,.int .i64 0] (n*2)
theorem makeSeens (n:Nat) (hn:n<=1048576) (w:World) :
 (Instr.makeSlice 33 (.int .i64 (n:Int)) (.int .i64 (n:Int))).run Tryz.prog w=.ok (.slice (some ⟨w.heap.size,0,none⟩) n n) (w.alloc (.cells (zerosSn n) 102)):=by
 obtain ⟨i,hi,hzz⟩:=Option.map_eq_some_iff.1 infoSn
 simp only [Prod.mk.injEq] at hzz
 obtain ⟨hz,hs,hb⟩:=hzz
 have h:=run_make (P:=Tryz.prog) w 33 102 i _ Tryz.underlying33 hi hz .i64 .i64 n n (by omega) (Int.le_refl _) (by rw [hb];omega) (by omega)
 rw [hs] at h
 simpa [zerosSn,Value.cells] using h
theorem zerosSn_get (n i j:Nat) (h:i < n) (hj:j < 2):(zerosSn n)[i*2+j]? = some (#[.string ByteArray.empty,.int .i64 0]:Array Value)[j]! := by
 simp only [zerosSn,madeCells,Array.getElem?_map,Array.getElem?_range]
 rw [if_pos (by omega)]
 simp only [Option.map_some]
 have e:(i*2+j) % 2=j:=by omega
 exact congrArg (fun m=>some ((#[.string ByteArray.empty,.int .i64 0]:Array Value)[m]!)) e
theorem zerosSn_at (w:World) (n:Nat) (T:Nat) (j:Nat) (hj:j < n):SnAt (w.alloc (.cells (zerosSn n) T)) w.heap.size (j*2) Sn.zero:=by
 refine ⟨by rw [World.cell?_alloc_new];exact zerosSn_get n j 0 hj (by omega),by rw [World.cell?_alloc_new];exact zerosSn_get n j 1 hj (by omega)⟩
theorem toSeenS (w:World) (a:Option Addr) (l:List Sn) (c:Nat) (h:Sns w a l) (hl:l.length<=1048576) :
 Calls Tryz.prog 33 #[.slice a l.length c] w fun e w'=>e=.returned (.slice (some ⟨w.heap.size,0,none⟩) l.length l.length)/\WSns w' w.heap.size (some ⟨w.heap.size,0,none⟩) l/\Below w.heap.size w w':=by
 have H:Hid (Sns w a l):=h
 clear h
 have hmk:=makeSeens l.length hl
 go_enter Tryz.func33,Tryz.ntmps33
 go_wp2
 clear hmk
 go_loopw [4] (fun i wr=>∃ k:Nat,k<=l.length/\i=.int .i64 k/\Below w.heap.size w wr/\w.heap.size < wr.heap.size/\(∀ j,j < l.length*2->wr.frozen? ⟨w.heap.size,j,none⟩=false)/\∀ j (hj:j < l.length),∃ v:Sn,SnAt wr w.heap.size (j*2) v/\(j < k->v=l[j])) (fun i _=>l.length - (intOf i).toNat)
 case atStart =>
  exact ⟨0,Nat.zero_le _,rfl,(Below.refl _ _).alloc (Nat.le_refl _) _,by simp,fun j hj=>by simp,fun j hj=>⟨_,zerosSn_at w _ _ j hj,fun x=>by omega⟩⟩
 case round =>
  obtain ⟨k,hk,rfl,hb,hz,hf,hx⟩:=hrel
  have HB:Hid (Below w.heap.size w wr):=hb
  by_cases hlt:k < l.length
  ·have HN:=H.out.below hb
   clear hb
   rcases HN.2 with h0|⟨xb,xo,rfl,hc⟩
   ·omega
   obtain ⟨p0,p1⟩:=hc k hlt
   clear hc HN
   have HX:Hid (∀ j (hj:j < l.length),∃ v:Sn,SnAt wr w.heap.size (j*2) v/\(j < k->v=l[j])):=hx
   have HF:Hid (∀ j,j < l.length*2->wr.frozen? ⟨w.heap.size,j,none⟩=false):=hf
   clear hx hf
   have hlz:(k:Int) < (l.length:Int):=by omega
   obtain ⟨nd,hnd⟩:∃ nd:Sn,nd=l[k]:=⟨_,rfl⟩
   have HD:Hid (nd=l[k]):=hnd
   rw [<- hnd] at p0 p1
   clear hnd
   go_wp2_with fail
   refine (toSeen _ _ _).mono ?_
   rintro e w1 ⟨rfl,hb1⟩
   have HB1:Hid (Below wr.heap.size wr w1):=hb1
   obtain ⟨v,⟨q0,q1⟩,_⟩:=HX.out k hlt
   have g0:w1.frozen? ⟨w.heap.size,k*2,none⟩=false:=by rw [hb1.frozen hz];exact HF.out (k*2) (by omega)
   have g1:w1.frozen? ⟨w.heap.size,k*2+1,none⟩=false:=by rw [hb1.frozen hz];exact HF.out (k*2+1) (by omega)
   rw [<- hb1.cell hz] at q0 q1
   clear hb1 p0 p1
   go_wp2
   go_roundw
   case rel =>
    have F1:Below w.heap.size w (setSn w1 w.heap.size (k*2) nd) :=
     HB.out.trans ((setSn_kept (b:=w.heap.size) (o:=0) (p:=k*2) (n:=nd) (Kept.ofBelow HB1.out)).below (fun i hi=>by obtain ⟨x,hx,rfl⟩:=hi;cases hx;exact Nat.le_refl _) HB.out.size)
    have F2:w.heap.size < (setSn w1 w.heap.size (k*2) nd).heap.size:=by
     have:=HB1.out.size
     rw [setSn_size];omega
    have F3:∀ j,j < l.length*2->(setSn w1 w.heap.size (k*2) nd).frozen? ⟨w.heap.size,j,none⟩=false:=by
     intro j hj
     rw [setSn_frozen,HB1.out.frozen hz];exact HF.out j hj
    have F4:∀ j (hj:j < l.length),∃ v:Sn,SnAt (setSn w1 w.heap.size (k*2) nd) w.heap.size (j*2) v/\(j < k+1->v=l[j]):=by
     intro j hj
     obtain ⟨u,r0,r1⟩:=HX.out j hj
     have r2:SnAt w1 w.heap.size (j*2) u:=r0.below HB1.out hz
     by_cases e:j=k
     ·subst e
      exact ⟨nd,setSn_same r2,fun _=>HD.out⟩
     ·exact ⟨u,setSn_other r2 (by omega),fun x=>r1 (by omega)⟩
    exact ⟨k+1,by omega,by go_num,F1,F2,F3,F4⟩
   case measure=>simp [intOf];omega
  ·go_wp2
   go_ret
   refine ⟨rfl,⟨H.out.1,?_⟩,HB.out⟩
   refine .inr ⟨w.heap.size,0,rfl,Nat.le_refl _,fun i hi=>?_,fun j hj=>by rw [Nat.zero_add];exact hf j hj⟩
   obtain ⟨v,q0,q1⟩:=hx i hi
   rw [Nat.zero_add,<- q1 (by omega)]
   exact q0
theorem szSeen (k:ByteArray) (r:Int) (left:Int) (w:World) (h0:0<=left) (h1:left<=1048576) (hk:k.size<=maxLen) :
 Calls Tryz.prog 48 #[.agg #[.string k,.int .i64 r],.int .i64 left] w fun e w'=>e=.returned (.int .i64 (if (k.size:Int)<=left then left - k.size else -1))/\Below w.heap.size w w':=by
 unfold maxLen at hk
 have HB:Hid (Below w.heap.size w (w.alloc (.cells #[.string k,.int .i64 r] 81))):=(Below.refl _ _).alloc (Nat.le_refl _) _
 by_cases h:(k.size:Int)<=left
 ·have hn:¬ left - (k.size:Int) < 0:=by omega
  rw [if_pos h]
  go_enter Tryz.func48,Tryz.ntmps48
  go_wp2
  go_ret
  exact ⟨rfl,HB.out⟩
 ·have hn:left - (k.size:Int) < 0:=by omega
  rw [if_neg h]
  go_enter Tryz.func48,Tryz.ntmps48
  go_wp2
  go_ret
  exact ⟨rfl,HB.out⟩
theorem szSeenK (w:World) (a:Option Addr) (l:List Sn) (c:Nat) (left:Int) (h:Sns w a l) (h0:0<=left) (h1:left<=1048576) (hk:∀ x∈l,x.k.size<=maxLen) :
 Calls Tryz.prog 21 #[.slice a l.length c,.int .i64 left] w fun e w'=>∃ r:Int,e=.returned (.int .i64 r) /\ -1<=r/\r<=1048576/\(0<=r->(l.length:Int)<=1048576/\∀ x∈l,x.k.size<=1048576)/\Below w.heap.size w w':=by
 have H:Hid (Sns w a l):=h
 have HK:Hid (∀ x∈l,x.k.size<=maxLen):=hk
 have hm:=h.1
 unfold maxLen at hm
 clear h hk
 by_cases hc:(l.length:Int)<=left
 ·have hn:¬ left - (l.length:Int) < 0:=by omega
  go_enter Tryz.func21,Tryz.ntmps21
  go_wp2
  go_loopw [1,5] (fun q i wr=>∃ (k:Nat) (r:Int),k<=l.length/\i=.int .i64 k/\q=.int .i64 r/\0<=r/\r<=1048576/\Below w.heap.size w wr/\∀ j (hj:j < l.length),j < k->l[j].k.size<=1048576) (fun _ i _=>l.length - (intOf i).toNat)
  case atStart=>exact ⟨0,_,Nat.zero_le _,rfl,rfl,by omega,by omega,Below.refl _ _,fun j _ h=>by omega⟩
  case round =>
   obtain ⟨k,r,hk,rfl,rfl,hr0,hr1,hb,hks⟩:=hrel
   have HKS:Hid (∀ j (hj:j < l.length),j < k->l[j].k.size<=1048576):=hks
   clear hks
   have HB:Hid (Below w.heap.size w wr):=hb
   clear hb
   by_cases hlt:k < l.length
   ·have hlz:(k:Int) < (l.length:Int):=by omega
    have HN:=H.out.below HB.out
    rcases HN.2 with e0|⟨xb,xo,rfl,hc⟩
    ·omega
    obtain ⟨p0,p1⟩:=hc k hlt
    have HX:Hid (l[k].k.size<=maxLen):=HK.out _ (List.getElem_mem hlt)
    clear hc HN
    have HLK:Hid (∀ y,y=l[k]->y.k.size<=1048576->∀ j (hj:j < l.length),j < k+1->l[j].k.size<=1048576):=fun y hy hyk j hj hjk=>by
     by_cases e:j=k
     ·subst e;rw [<- hy];exact hyk
     ·exact HKS.out j hj (by omega)
    obtain ⟨x,hx⟩:∃ x,x=l[k]:=⟨_,rfl⟩
    rw [<- hx] at p0 p1 HX HLK
    have HLX:=HLK.out x rfl
    have HLX':Hid (x.k.size<=1048576->∀ j (hj:j < l.length),j < k+1->l[j].k.size<=1048576):=HLX
    clear hx HLK HLX
    by_cases hq:(x.k.size:Int)<=r
    ·have hq2:¬ r - (x.k.size:Int) < 0:=by omega
     have hq3:r - (x.k.size:Int)<=1048576:=by omega
     go_wp2_with (go_at_call 48;refine (szSeen x.k x.r r _ hr0 hr1 HX.out).mono ?_;rw [if_pos hq];rintro e w1 ⟨rfl,hb1⟩;(have HB2:Hid (Below w.heap.size w w1):=(by first|exact HB.out.trans (hb1.mono HB.out.size)|exact HB.out.drew.trans (hb1.mono HB.out.drew.size)));clear hb1)
     go_roundw
     case rel=>exact ⟨k+1,_,by omega,by go_num,rfl,by omega,by omega,HB2.out,HLX'.out (by omega)⟩
     case measure=>simp [intOf];omega
    ·go_wp2_with (go_at_call 48;refine (szSeen x.k x.r r _ hr0 hr1 HX.out).mono ?_;rw [if_neg hq];rintro e w1 ⟨rfl,hb1⟩;(have HB2:Hid (Below w.heap.size w w1):=(by first|exact HB.out.trans (hb1.mono HB.out.size)|exact HB.out.drew.trans (hb1.mono HB.out.drew.size)));clear hb1)
     go_ret
     exact ⟨-1,rfl,by omega,by omega,fun h=>by omega,HB2.out⟩
   ·go_wp2
    go_ret
    exact ⟨r,rfl,by omega,hr1,fun _=>⟨by omega,fun x hx=>by
     obtain ⟨j,hj,rfl⟩:=List.getElem_of_mem hx
     exact HKS.out j hj (by omega)⟩,HB.out⟩
 ·have hn:left - (l.length:Int) < 0:=by omega
  go_enter Tryz.func21,Tryz.ntmps21
  go_wp2
  go_ret
  exact ⟨-1,rfl,by omega,by omega,fun h=>by omega,Below.refl _ _⟩
theorem szSeenS (w:World) (a:Option Addr) (l:List Sn) (c:Nat) (left:Int) (h:Sns w a l) (h0:0<=left) (h1:left<=1048576) (hk:∀ x∈l,x.k.size<=maxLen) :
 Calls Tryz.prog 21 #[.slice a l.length c,.int .i64 left] w fun e w'=>∃ r:Int,e=.returned (.int .i64 r) /\ -1<=r/\r<=1048576/\(0<=r->(l.length:Int)<=1048576)/\Below w.heap.size w w' :=
 (szSeenK w a l c left h h0 h1 hk).mono fun e w' k=>by
  obtain ⟨r,h1,h2,h3,h4,h5⟩:=k
  exact ⟨r,h1,h2,h3,fun h=>(h4 h).1,h5⟩
end Qc1
namespace Tc2
open Go.RowKit
open Ta0 Ta1
open Ss0 (bs bs_size ret_str)
open Ss1 (tl tl_length tl_get tl_take bs_tl tl_bs)
theorem ret_int {k:IntKind} {a b:Int} (h:a=b):Ending.returned (.int k a)=.returned (.int k b):=by rw [h]
theorem ret_bool {a b:Bool} (h:a=b):Ending.returned (.bool a)=.returned (.bool b):=by rw [h]
theorem wsh {n:Nat} (h:n<=12):IntKind.i64.wrap ((2:Int) ^ n)=((2 ^ n:Nat):Int):=by
 have:=p12 h
 rw [pcast,IntKind.wrap_i64]<;>omega
theorem below_drewN {B:Nat} {u w:World} (h:Below B u w) (n:Nat):Below B u (w.drewN n):=⟨h.os,h.tape,h.output,h.size,h.block⟩
theorem sPow (n:Nat) (w:World) (h1:n<=12) :
 Calls Tryz.prog 90 #[.int .i64 (n:Int)] w fun e w'=>e=.returned (.int .i64 ((2 ^ n:Nat):Int))/\w'=w:=by
 go_enter Tryz.func90,Tryz.ntmps90
 go_wp2
 go_loop [3,4] (fun x i=>∃ k:Nat,k<=n/\i=.int .i64 k/\x=.int .i64 ((2 ^ k:Nat):Int)) (fun _ i=>n - (intOf i).toNat)
 case atStart=>exact ⟨0,Nat.zero_le _,rfl,rfl⟩
 case round =>
  obtain ⟨k,hk,rfl,rfl⟩:=hrel
  obtain ⟨hp,hl⟩:=p12 (n:=k) (by omega)
  have HS:Hid (2 ^ (k+1)=2*2 ^ k):=by show _=_;rw [Nat.pow_succ];omega
  generalize hP:2 ^ k=P at hp hl HS ⊢
  by_cases hlt:k < n
  ·clear hP
   go_wp2
   go_round
   case rel=>exact ⟨k+1,by omega,by go_num,by rw [HS.out];go_num⟩
   case measure=>simp [intOf];omega
  ·have HP:Hid (2 ^ k=P):=hP
   clear hP
   go_wp2
   go_ret
   have:k=n:=by omega
   subst this
   exact ⟨ret_int (by rw [pcast,HP.out]),rfl⟩
theorem sIn (x a b:Int) (w:World) :
 Calls Tryz.prog 25 #[.int .i64 x,.int .i64 a,.int .i64 b] w fun e w'=>e=.returned (.bool (decide (a<=x/\x<=b)))/\w'=w:=by
 by_cases h1:a<=x<;>by_cases h2:x<=b
 all_goals
  go_enter Tryz.func25,Tryz.ntmps25
  go_wp2
  go_ret
  exact ⟨ret_bool (by simp<;>omega),rfl⟩
theorem sInT {x a b:Int} (w:World) (h:a<=x/\x<=b) :
 Calls Tryz.prog 25 #[.int .i64 x,.int .i64 a,.int .i64 b] w fun e w'=>e=.returned (.bool true)/\w'=w:=by
 have:=sIn x a b w
 rwa [decide_eq_true h] at this
theorem sInF {x a b:Int} (w:World) (h:¬ (a<=x/\x<=b)) :
 Calls Tryz.prog 25 #[.int .i64 x,.int .i64 a,.int .i64 b] w fun e w'=>e=.returned (.bool false)/\w'=w:=by
 have:=sIn x a b w
 rwa [decide_eq_false h] at this
/-- The value of a table. -/
abbrev tv (N:Int) (S:ByteArray):Value:=.agg #[.int .i64 N,.string S]
theorem sTableOk (N:Int) (S:ByteArray) (w:World) (hS:S.size<=1048576) :
 Calls Tryz.prog 122 #[tv N S] w fun e w'=>e=.returned (.bool (tokB N (tl S)))/\Below w.heap.size w w':=by
 have HB:Hid (∀ k,Below w.heap.size w ((w.alloc (.cells #[.int .i64 N,.string S] 32)).drewN k)):=fun k=>below_drewN ((Below.refl _ _).alloc (Nat.le_refl _) _) k
 by_cases hN:0<=N/\N<=12
 ·obtain ⟨n,rfl⟩:=Int.eq_ofNat_of_zero_le hN.1
  have HI:Hid (∀ W,Calls Tryz.prog 25 #[.int .i64 (n:Int),.int .i64 0,.int .i64 12] W fun e w'=>e=.returned (.bool true)/\w'=W):=fun W=>sInT W hN
  have hn:n<=12:=by omega
  obtain ⟨hp,hl⟩:=p12 hn
  have HC:Hid (∀ W,Calls Tryz.prog 90 #[.int .i64 (n:Int)] W fun e w'=>e=.returned (.int .i64 ((2 ^ n:Nat):Int))/\w'=W):=fun W=>sPow n W hn
  have HL:Hid (S.size≠2 ^ n->tokB (n:Int) (tl S)=false):=fun h=>tok_len (by rw [tl_length,Int.toNat_natCast];exact h)
  have HT:Hid (S.size=2 ^ n->(∀ c∈tl S,c=48\/c=49)->tokB (n:Int) (tl S)=true):=fun h k=>decide_eq_true ⟨hN.1,hN.2,by rw [tl_length,Int.toNat_natCast];exact h,k⟩
  clear hN
  generalize 2 ^ n=P at hp hl HC HL HT
  by_cases hs:S.size=P
  ·have hsz:((S.size:Int) != (P:Int))=false:=by rw [hs];simp
   have HS:Hid (S.size=P):=hs
   have hS2:S.size<=4096:=by omega
   clear hs
   go_enter Tryz.func122,Tryz.ntmps122
   go_wp2_with fail
   go_quiet ((first|(go_at_call 25;exact Calls.quiet_of_same (HI.out _))|(go_at_call 90;exact Calls.quiet_of_same (HC.out _))))
   go_wp2
   go_loop [3] (fun i=>∃ k:Nat,k<=S.size/\i=.int .i64 k/\∀ c∈(tl S).take k,c=48\/c=49) (fun i=>S.size - (intOf i).toNat)
   case atStart=>exact ⟨0,Nat.zero_le _,rfl,fun c hc=>by simp at hc⟩
   case round =>
    obtain ⟨k,hk,rfl,hc⟩:=hrel
    have HK:Hid (∀ c∈(tl S).take k,c=48\/c=49):=hc
    clear hc
    by_cases hlt:k < S.size
    ·have hkz:(k:Int) < (S.size:Int):=by omega
     have HX:Hid ((tl S).take (k+1)=(tl S).take k++[S[k]]):=tl_take S k hlt
     have HM:Hid (S[k]∈tl S):=by
      show _∈_
      rw [tl_get S k hlt];exact List.getElem_mem _
     by_cases h8:S[k]=48
     ·have b8:((S[k].toNat:Int) != 48)=false:=by rw [h8];rfl
      have H8:Hid (S[k]=48\/S[k]=49):=.inl h8
      clear h8
      go_wp2
      go_round
      case rel=>exact ⟨k+1,by omega,by go_num,fun c hc=>by
       rw [HX.out] at hc
       rcases List.mem_append.1 hc with h|h
       ·exact HK.out c h
       ·rw [List.mem_singleton.1 h];exact H8.out⟩
      case measure=>simp [intOf];omega
     ·have b8:((S[k].toNat:Int) != 48)=true:=bne_iff_ne.2 fun e=>h8 (UInt8.toNat_inj.1 (by have:(48:UInt8).toNat=48:=rfl;omega))
      by_cases h9:S[k]=49
      ·have b9:((S[k].toNat:Int) != 49)=false:=by rw [h9];rfl
       have H8:Hid (S[k]=48\/S[k]=49):=.inr h9
       clear h8 h9
       go_wp2
       go_round
       case rel=>exact ⟨k+1,by omega,by go_num,fun c hc=>by
        rw [HX.out] at hc
        rcases List.mem_append.1 hc with h|h
        ·exact HK.out c h
        ·rw [List.mem_singleton.1 h];exact H8.out⟩
       case measure=>simp [intOf];omega
      ·have b9:((S[k].toNat:Int) != 49)=true:=bne_iff_ne.2 fun e=>h9 (UInt8.toNat_inj.1 (by have:(49:UInt8).toNat=49:=rfl;omega))
       have HF:Hid (tokB (n:Int) (tl S)=false):=tok_sign HM.out ⟨h8,h9⟩
       clear h8 h9
       go_wp2
       go_ret
       exact ⟨ret_bool HF.out.symm,HB.out _⟩
    ·have HF:Hid (tokB (n:Int) (tl S)=true):=HT.out HS.out (by
      have:=HK.out
      rwa [List.take_of_length_le (by rw [tl_length];omega)] at this)
     go_wp2
     go_ret
     exact ⟨ret_bool HF.out.symm,HB.out _⟩
  ·have hsz:((S.size:Int) != (P:Int))=true:=bne_iff_ne.2 (by omega)
   have HF:Hid (tokB (n:Int) (tl S)=false):=HL.out hs
   clear hs
   go_enter Tryz.func122,Tryz.ntmps122
   go_wp2_with fail
   go_quiet ((first|(go_at_call 25;exact Calls.quiet_of_same (HI.out _))|(go_at_call 90;exact Calls.quiet_of_same (HC.out _))))
   go_wp2
   go_ret
   exact ⟨ret_bool HF.out.symm,HB.out _⟩
 ·have HI:Hid (∀ W,Calls Tryz.prog 25 #[.int .i64 N,.int .i64 0,.int .i64 12] W fun e w'=>e=.returned (.bool false)/\w'=W):=fun W=>sInF W hN
  have HF:Hid (tokB N (tl S)=false):=tok_no hN
  clear hN
  go_enter Tryz.func122,Tryz.ntmps122
  go_wp2_with fail
  go_quiet ((go_at_call 25;exact Calls.quiet_of_same (HI.out _)))
  go_wp2
  go_ret
  exact ⟨ret_bool HF.out.symm,HB.out _⟩
theorem iTableOk (N:Int) (S:ByteArray) (w:World) (hS:S.size<=1048576) :
 Calls Tryz.prog 150 #[tv N S] w fun e w'=>e=.returned (.bool (tokB N (tl S)))/\Below w.heap.size w w':=by
 have HB:Hid (∀ k,Below w.heap.size w ((w.alloc (.cells #[.int .i64 N,.string S] 32)).drewN k)):=fun k=>below_drewN ((Below.refl _ _).alloc (Nat.le_refl _) _) k
 by_cases h0:N < 0
 ·have HF:Hid (tokB N (tl S)=false):=tok_no (by omega)
  go_enter Tryz.func150,Tryz.ntmps150
  go_wp2_with fail
  go_quiet (fail)
  go_wp2
  go_ret
  exact ⟨ret_bool HF.out.symm,HB.out _⟩
 by_cases h1:12 < N
 ·have HF:Hid (tokB N (tl S)=false):=tok_no (by omega)
  go_enter Tryz.func150,Tryz.ntmps150
  go_wp2_with fail
  go_quiet (fail)
  go_wp2
  go_ret
  exact ⟨ret_bool HF.out.symm,HB.out _⟩
 obtain ⟨n,rfl⟩:=Int.eq_ofNat_of_zero_le (by omega:0<=N)
 have hn:n<=12:=by omega
 obtain ⟨hp,hl⟩:=p12 hn
 have HL:Hid (S.size≠2 ^ n->tokB (n:Int) (tl S)=false):=fun h=>tok_len (by rw [tl_length,Int.toNat_natCast];exact h)
 have HT:Hid (S.size=2 ^ n->(∀ c∈tl S,c=48\/c=49)->tokB (n:Int) (tl S)=true):=fun h k=>decide_eq_true ⟨by omega,by omega,by rw [tl_length,Int.toNat_natCast];exact h,k⟩
 have hw:=wsh hn
 have hd0:decide ((n:Int) < 0)=false:=decide_eq_false (by omega)
 have hd1:decide (12 < (n:Int))=false:=decide_eq_false (by omega)
 generalize 2 ^ n=P at hp hl HL HT hw
 by_cases hs:S.size=P
 ·have hsz:((S.size:Int) != (P:Int))=false:=by rw [hs];simp
  have HS:Hid (S.size=P):=hs
  have hS2:S.size<=4096:=by omega
  clear hs
  go_enter Tryz.func150,Tryz.ntmps150
  go_wp2_with fail
  go_quiet (fail)
  go_wp2
  go_loop [24] (fun i=>∃ k:Nat,k<=S.size/\i=.int .i64 k/\∀ c∈(tl S).take k,c=48\/c=49) (fun i=>S.size - (intOf i).toNat)
  case atStart=>exact ⟨0,Nat.zero_le _,rfl,fun c hc=>by simp at hc⟩
  case round =>
   obtain ⟨k,hk,rfl,hc⟩:=hrel
   have HK:Hid (∀ c∈(tl S).take k,c=48\/c=49):=hc
   clear hc
   by_cases hlt:k < S.size
   ·have hkz:(k:Int) < (S.size:Int):=by omega
    have HX:Hid ((tl S).take (k+1)=(tl S).take k++[S[k]]):=tl_take S k hlt
    have HM:Hid (S[k]∈tl S):=by
     show _∈_
     rw [tl_get S k hlt];exact List.getElem_mem _
    by_cases h8:S[k]=48
    ·have b8:((S[k].toNat:Int) != 48)=false:=by rw [h8];rfl
     have H8:Hid (S[k]=48\/S[k]=49):=.inl h8
     clear h8
     go_wp2
     go_round
     case rel=>exact ⟨k+1,by omega,by go_num,fun c hc=>by
      rw [HX.out] at hc
      rcases List.mem_append.1 hc with h|h
      ·exact HK.out c h
      ·rw [List.mem_singleton.1 h];exact H8.out⟩
     case measure=>simp [intOf];omega
    ·have b8:((S[k].toNat:Int) != 48)=true:=bne_iff_ne.2 fun e=>h8 (UInt8.toNat_inj.1 (by have:(48:UInt8).toNat=48:=rfl;omega))
     by_cases h9:S[k]=49
     ·have b9:((S[k].toNat:Int) != 49)=false:=by rw [h9];rfl
      have H8:Hid (S[k]=48\/S[k]=49):=.inr h9
      clear h8 h9
      go_wp2
      go_round
      case rel=>exact ⟨k+1,by omega,by go_num,fun c hc=>by
       rw [HX.out] at hc
       rcases List.mem_append.1 hc with h|h
       ·exact HK.out c h
       ·rw [List.mem_singleton.1 h];exact H8.out⟩
      case measure=>simp [intOf];omega
     ·have b9:((S[k].toNat:Int) != 49)=true:=bne_iff_ne.2 fun e=>h9 (UInt8.toNat_inj.1 (by have:(49:UInt8).toNat=49:=rfl;omega))
      have HF:Hid (tokB (n:Int) (tl S)=false):=tok_sign HM.out ⟨h8,h9⟩
      clear h8 h9
      go_wp2
      go_ret
      exact ⟨ret_bool HF.out.symm,HB.out _⟩
   ·have HF:Hid (tokB (n:Int) (tl S)=true):=HT.out HS.out (by
     have:=HK.out
     rwa [List.take_of_length_le (by rw [tl_length];omega)] at this)
    go_wp2
    go_ret
    exact ⟨ret_bool HF.out.symm,HB.out _⟩
 ·have hsz:((S.size:Int) != (P:Int))=true:=bne_iff_ne.2 (by omega)
  have HF:Hid (tokB (n:Int) (tl S)=false):=HL.out hs
  clear hs
  go_enter Tryz.func150,Tryz.ntmps150
  go_wp2_with fail
  go_quiet (fail)
  go_wp2
  go_ret
  exact ⟨ret_bool HF.out.symm,HB.out _⟩
end Tc2
namespace Tc3
open Go.RowKit
open Ta0 Ta1 Tc2
open Ss0 (bs bs_size ret_str)
open Ss1 (tl tl_length tl_get tl_take bs_tl tl_bs tl_inj eqb)
theorem szTable (N:Int) (S:ByteArray) (left:Int) (w:World) (h0:0<=left) (h1:left<=1048576) (hS:S.size<=maxLen) :
 Calls Tryz.prog 19 #[tv N S,.int .i64 left] w fun e w'=>e=.returned (.int .i64 (if (S.size:Int)<=left then left - S.size else -1))/\Below w.heap.size w w':=by
 unfold maxLen at hS
 have HB:Hid (Below w.heap.size w (w.alloc (.cells #[.int .i64 N,.string S] 24))):=(Below.refl _ _).alloc (Nat.le_refl _) _
 by_cases h:(S.size:Int)<=left
 ·have hn:¬ left - (S.size:Int) < 0:=by omega
  rw [if_pos h]
  go_enter Tryz.func19,Tryz.ntmps19
  go_wp2
  go_ret
  exact ⟨rfl,HB.out⟩
 ·have hn:left - (S.size:Int) < 0:=by omega
  rw [if_neg h]
  go_enter Tryz.func19,Tryz.ntmps19
  go_wp2
  go_ret
  exact ⟨rfl,HB.out⟩
theorem toTable (N:Int) (S:ByteArray) (w:World) :
 Calls Tryz.prog 31 #[tv N S] w fun e w'=>e=.returned (tv N S)/\Below w.heap.size w w':=by
 go_enter Tryz.func31,Tryz.ntmps31
 go_wp2
 exact bodyPost_ret (v:=tv N S) (by simp [results,Tryz.results31,go_sem]) rfl ⟨rfl,by
  repeat (first|exact Below.refl _ _|refine Below.setCell ?_ (by simp<;>omega) _|refine Below.alloc ?_ (by simp<;>omega) _)⟩
theorem eqTable (N M:Int) (S T:ByteArray) (w:World) :
 Calls Tryz.prog 39 #[tv N S,tv M T] w fun e w'=>e=.returned (.bool (decide (N=M/\S=T)))/\Below w.heap.size w w':=by
 have HB:Hid (Below w.heap.size w ((w.alloc (.cells #[.int .i64 N,.string S] 32)).alloc (.cells #[.int .i64 M,.string T] 32))):=((Below.refl _ _).alloc (Nat.le_refl _) _).alloc (by simp) _
 by_cases h:N=M
 ·have hb:(N != M)=false:=by rw [h];simp
  by_cases h2:S=T
  ·have hb2:(S.toList==T.toList)=true:=by rw [h2];simp
   have HD:Hid (decide (N=M/\S=T)=true):=decide_eq_true ⟨h,h2⟩
   clear h h2
   go_enter Tryz.func39,Tryz.ntmps39
   go_wp2
   go_ret
   exact ⟨ret_bool HD.out.symm,HB.out⟩
  ·have hb2:(S.toList==T.toList)=false:=by rw [eqb];exact decide_eq_false fun k=>h2 (tl_inj k)
   have HD:Hid (decide (N=M/\S=T)=false):=decide_eq_false fun k=>h2 k.2
   clear h h2
   go_enter Tryz.func39,Tryz.ntmps39
   go_wp2
   go_ret
   exact ⟨ret_bool HD.out.symm,HB.out⟩
 ·have hb:(N != M)=true:=bne_iff_ne.2 h
  have HD:Hid (decide (N=M/\S=T)=false):=decide_eq_false fun k=>h k.1
  clear h
  go_enter Tryz.func39,Tryz.ntmps39
  go_wp2
  go_ret
  exact ⟨ret_bool HD.out.symm,HB.out⟩
/-- A table lies in the block g. -/
structure Tbx (W:World) (g:Nat) (N:Int) (S:ByteArray):Prop where
 c0:W.cell? ⟨g,0,none⟩=some (.int .i64 N)
 c1:W.cell? ⟨g,1,none⟩=some (.string S)
theorem Tbx.below {W W':World} {g:Nat} {N:Int} {S:ByteArray} (h:Tbx W g N S) (k:Below W.heap.size W W'):Tbx W' g N S:=by
 have hg:g < W.heap.size:=World.block_lt_of_cell? _ _ h.c0
 exact ⟨by rw [k.cell (p:=⟨g,0,none⟩) hg];exact h.c0,by rw [k.cell (p:=⟨g,1,none⟩) hg];exact h.c1⟩
theorem Tbx.made (w:World) (N:Int) (S:ByteArray) (T:Nat):Tbx (w.alloc (.cells #[.int .i64 N,.string S] T)) w.heap.size N S :=
 ⟨by simp,by simp⟩
theorem Tbx.alloc {W:World} {g:Nat} {N:Int} {S:ByteArray} (h:Tbx W g N S) (o:Obj):Tbx (W.alloc o) g N S :=
 h.below ((Below.refl _ _).alloc (Nat.le_refl _) _)
end Tc3
end Go.Proofs.YtladjpombohpaaaGreatDoor
