import Derived.Test.YtladjpombohpaaaGreatDoorPkJE6
namespace Go.Proofs.YtladjpombohpaaaGreatDoor
set_option maxRecDepth 100000
set_option maxHeartbeats 8000000
set_option linter.unusedVariables false
namespace Ta2
open Go.RowKit
open Ta0 Ta1
open Ss0 (bs bs_size ret_str bs_ext)
theorem half_cut (n b:Nat) (F:Nat->Bool) (hb:b<=1):((tab (n+1) F).take (b*2 ^ n+2 ^ n)).drop (b*2 ^ n)=tab n fun p=>F (b*2 ^ n+p):=by
 have hp:2 ^ (n+1)=2*2 ^ n:=by rw [Nat.pow_succ];omega
 have hle:b*2 ^ n+2 ^ n<=2 ^ (n+1):=by rcases (by omega:b=0\/b=1) with rfl|rfl<;>omega
 refine list_tab ?_ fun i hi=>?_
 ·rw [List.length_drop,List.length_take,tab_length];omega
 ·rw [List.getElem_drop,List.getElem_take,tab_get]
theorem half_text (n b:Nat) (F:Nat->Bool) (hb:b<=1):(bs (tab (n+1) F)).extract (b*2 ^ n) (b*2 ^ n+2 ^ n)=bs (tab n fun p=>F (b*2 ^ n+p)):=by
 rw [bs_ext,half_cut n b F hb]
theorem xor_add {i s:Nat} (h:i / 2 ^ s % 2=0):i ^^^ 2 ^ s=i+2 ^ s:=by
 obtain ⟨q,r,hi,hr⟩:∃ q r,i=2 ^ (s+1)*q+r/\r < 2 ^ s:=by
  refine ⟨i / 2 ^ s / 2,i % 2 ^ s,?_,Nat.mod_lt _ (Nat.two_pow_pos _)⟩
  have h1:=Nat.div_add_mod i (2 ^ s)
  have h2:2 ^ (s+1)*(i / 2 ^ s / 2)=2 ^ s*(i / 2 ^ s):=by
   rw [Nat.pow_succ,Nat.mul_assoc];congr 1;omega
  omega
 have hp:2 ^ (s+1)=2*2 ^ s:=by rw [Nat.pow_succ];omega
 have hr1:r < 2 ^ (s+1):=by omega
 have hr2:2 ^ s+r < 2 ^ (s+1):=by omega
 refine Nat.eq_of_testBit_eq fun j=>?_
 rw [Nat.testBit_xor,Nat.testBit_two_pow,hi,Nat.add_assoc,Nat.add_comm r,Nat.testBit_two_pow_mul_add q hr1,Nat.testBit_two_pow_mul_add q hr2]
 by_cases hj:j < s+1
 ·rw [if_pos hj,if_pos hj]
  by_cases e:s=j
  ·subst e
   rw [Nat.testBit_two_pow_add_eq];simp
  ·rw [Nat.testBit_two_pow_add_gt (by omega)];simp [e]
 ·rw [if_neg hj,if_neg hj]
  have:¬ s=j:=by omega
  simp [this]
theorem xor_sub {i s:Nat} (h:i / 2 ^ s % 2=1):2 ^ s<=i/\(i - 2 ^ s) / 2 ^ s % 2=0/\i ^^^ 2 ^ s=i - 2 ^ s:=by
 have hp:=Nat.two_pow_pos s
 have h1:2 ^ s<=i:=by
  rcases Nat.lt_or_ge i (2 ^ s) with h2|h2
  ·rw [Nat.div_eq_of_lt h2] at h;omega
  ·exact h2
 have h2:(i - 2 ^ s) / 2 ^ s=i / 2 ^ s - 1:=by
  have:i=(i - 2 ^ s)+2 ^ s:=by omega
  have h3:=Nat.add_div_right (i - 2 ^ s) hp
  rw [<- this] at h3
  rw [h3];simp
 have h3:(i - 2 ^ s) / 2 ^ s % 2=0:=by rw [h2];omega
 refine ⟨h1,h3,?_⟩
 have h4:=xor_add h3
 rw [show i - 2 ^ s+2 ^ s=i by omega] at h4
 rw [<- h4,Nat.xor_assoc,Nat.xor_self,Nat.xor_zero,h4]
/-- Does the table need its bit b? -/
def ndB (n:Nat) (F:Nat->Bool) (b:Nat):Bool:=(List.range (2 ^ n)).any fun p=>F p != F (p ^^^ 2 ^ (n - 1 - b))
theorem nd_yes {n b i:Nat} {F:Nat->Bool} (hi:i < 2 ^ n) (h0:i / 2 ^ (n - 1 - b) % 2=0) (h:F i≠F (i+2 ^ (n - 1 - b))):ndB n F b=true:=by
 unfold ndB
 rw [List.any_eq_true]
 refine ⟨i,List.mem_range.2 hi,?_⟩
 rw [xor_add h0]
 simpa using h
theorem nd_no {n b:Nat} {F:Nat->Bool} (hb:b < n) (h:∀ i,i < 2 ^ n->i / 2 ^ (n - 1 - b) % 2=0->F i=F (i+2 ^ (n - 1 - b))):ndB n F b=false:=by
 unfold ndB
 rw [List.any_eq_false]
 intro p hp
 have hp:=List.mem_range.1 hp
 rcases Nat.mod_two_eq_zero_or_one (p / 2 ^ (n - 1 - b)) with h0|h1
 ·rw [xor_add h0,<- h p hp h0];simp
 ·obtain ⟨h2,h3,h4⟩:=xor_sub h1
  rw [h4,h (p - 2 ^ (n - 1 - b)) (Nat.lt_of_le_of_lt (Nat.sub_le _ _) hp) h3,show p - 2 ^ (n - 1 - b)+2 ^ (n - 1 - b)=p by omega];simp
theorem nd_in {n b i:Nat} (hb:b < n) (hi:i < 2 ^ n) (h0:i / 2 ^ (n - 1 - b) % 2=0):i+2 ^ (n - 1 - b) < 2 ^ n:=by
 rw [<- xor_add h0]
 exact Nat.xor_lt_two_pow hi (Nat.pow_lt_pow_right (by omega) (by omega))
/-- The bits that it needs, of the first k. -/
def ndTo (n:Nat) (F:Nat->Bool) (k:Nat):List Int:=((List.range k).filter (ndB n F)).map fun (b:Nat)=>(b:Int)
theorem ndTo_yes {n k:Nat} {F:Nat->Bool} (h:ndB n F k=true):ndTo n F (k+1)=ndTo n F k++[(k:Int)]:=by
 unfold ndTo;rw [List.range_succ,List.filter_append];simp [h]
theorem ndTo_no {n k:Nat} {F:Nat->Bool} (h:ndB n F k=false):ndTo n F (k+1)=ndTo n F k:=by
 unfold ndTo;rw [List.range_succ,List.filter_append];simp [h]
theorem ndTo_le (n k:Nat) (F:Nat->Bool):(ndTo n F k).length<=k:=by
 unfold ndTo;rw [List.length_map];exact Nat.le_trans (List.length_filter_le _ _) (by simp)
/-- Values of bits. -/
def bitB (x:Int):Bool:=decide (x=0\/x=1)
/-- The place that the first k of them name. -/
def plc (l:List Int):Nat->Nat
 | 0=>0
 | k+1=>2*plc l k+(l.getD k 0).toNat
theorem plc_lt {l:List Int} {k:Nat} (h:∀ i,i < k->bitB (l.getD i 0)=true):plc l k < 2 ^ k:=by
 induction k with
 | zero=>exact Nat.one_pos
 | succ k ih =>
   have h1:=ih fun i hi=>h i (by omega)
   have h2:=of_decide_eq_true (h k (by omega))
   show 2*plc l k+_ < _
   rw [Nat.pow_succ]
   rcases h2 with h2|h2<;>rw [h2]<;>simp<;>omega
/-- What TableAt tells. -/
def atB (n:Nat) (F:Nat->Bool) (l:List Int):Int:=if l.length=n/\∀ i,i < l.length->bitB (l.getD i 0)=true then ((F (plc l l.length)).toNat:Int) else -1
theorem at_len {n:Nat} {F:Nat->Bool} {l:List Int} (h:l.length≠n):atB n F l = -1:=by unfold atB;rw [if_neg fun k=>h k.1]
theorem at_bad {n:Nat} {F:Nat->Bool} {l:List Int} {i:Nat} (hi:i < l.length) (h:bitB (l.getD i 0)=false):atB n F l = -1:=by
 unfold atB;rw [if_neg fun k=>by have:=k.2 i hi;rw [h] at this;cases this]
theorem at_good {n:Nat} {F:Nat->Bool} {l:List Int} (h:l.length=n) (h2:∀ i,i < l.length->bitB (l.getD i 0)=true):atB n F l=((F (plc l l.length)).toNat:Int):=by
 unfold atB;rw [if_pos ⟨h,h2⟩]
end Ta2
namespace Dqa
open Go.RowKit
open Nd0 Nd1 Nd2 Nd3 Ap1 Nd6
open Ta2 (bitB)
theorem infoBool0:(Tryz.prog.info? 4).map (fun i=>(i.zero,i.size,i.bytes))=some (some (.bool false),1,1):=by kernel_rfl
def noughtsB (n:Nat):Array Value:=madeCells #[.bool false] (n*1)
theorem noughtsB_get (n j:Nat) (h:j < n):(noughtsB n)[j]? = some (.bool false):=by
 simp only [noughtsB,madeCells,Array.getElem?_map,Array.getElem?_range]
 rw [if_pos (by omega)]
 simp only [Option.map_some]
 have e:j % 1=0:=Nat.mod_one j
 exact congrArg (fun m=>some ((#[.bool false]:Array Value)[m]!)) e
theorem makeBools0 (n:Nat) (hn:n<=1048576) (w:World) :
 (Instr.makeSlice 22 (.int .i64 (n:Int)) (.int .i64 (n:Int))).run Tryz.prog w=.ok (.slice (some ⟨w.heap.size,0,none⟩) n n) (w.alloc (.cells (noughtsB n) 4)):=by
 obtain ⟨i,hi,hzz⟩:=Option.map_eq_some_iff.1 infoBool0
 simp only [Prod.mk.injEq] at hzz
 obtain ⟨hz,hs,hb⟩:=hzz
 have h:=run_make (P:=Tryz.prog) w 22 4 i _ Tryz.underlying22 hi hz .i64 .i64 n n (by omega) (Int.le_refl _) (by rw [hb];omega) (by omega)
 rw [hs] at h
 simpa [noughtsB,Value.cells] using h
theorem toBoolS (w:World) (a:Option Addr) (l:List Bool) (c:Nat) (h:Bools w a l) (hl:l.length<=1048576) :
 Calls Tryz.prog 30 #[.slice a l.length c] w fun e w'=>e=.returned (.slice (some ⟨w.heap.size,0,none⟩) l.length l.length)/\WBools w' w.heap.size (some ⟨w.heap.size,0,none⟩) l/\Below w.heap.size w w':=by
 have H:Hid (Bools w a l):=h
 clear h
 have hmk:=makeBools0 l.length hl
 go_enter Tryz.func30,Tryz.ntmps30
 go_wp2
 clear hmk
 go_loopw [4] (fun i wr=>∃ k:Nat,k<=l.length/\i=.int .i64 k/\Below w.heap.size w wr/\w.heap.size < wr.heap.size/\∀ j (hj:j < l.length),∃ v:Bool,wr.cell? ⟨w.heap.size,j,none⟩=some (.bool v)/\wr.frozen? ⟨w.heap.size,j,none⟩=false/\(j < k->v=l[j])) (fun i _=>l.length - (intOf i).toNat)
 case atStart =>
  exact ⟨0,Nat.zero_le _,rfl,(Below.refl _ _).alloc (Nat.le_refl _) _,by simp,fun j hj=>⟨false,by rw [World.cell?_alloc_new];exact noughtsB_get _ _ hj,by simp,fun x=>by omega⟩⟩
 case round =>
  obtain ⟨k,hk,rfl,hb,hz,hx⟩:=hrel
  have HB:Hid (Below w.heap.size w wr):=hb
  by_cases hlt:k < l.length
  ·have HN:=H.out.below hb
   clear hb
   rcases HN.2 with h0|⟨xb,xo,rfl,hc⟩
   ·omega
   have p0:=hc k hlt
   clear hc HN
   have HX:Hid (∀ j (hj:j < l.length),∃ v:Bool,wr.cell? ⟨w.heap.size,j,none⟩=some (.bool v)/\wr.frozen? ⟨w.heap.size,j,none⟩=false/\(j < k->v=l[j])):=hx
   obtain ⟨v,q0,q1,_⟩:=hx k hlt
   clear hx
   have hlz:(k:Int) < (l.length:Int):=by omega
   obtain ⟨nd,hnd⟩:∃ nd:Bool,nd=l[k]:=⟨_,rfl⟩
   have HD:Hid (nd=l[k]):=hnd
   rw [<- hnd] at p0
   clear hnd
   go_wp2
   go_roundw
   case rel =>
    have F1:Below w.heap.size w (wr.setCell ⟨w.heap.size,k,none⟩ (.bool nd)) :=
     HB.out.trans (((Kept.refl (fun b=>b=w.heap.size) wr).setCell (p:=⟨w.heap.size,k,none⟩) rfl _).below (fun i hi=>by omega) HB.out.size)
    have F2:w.heap.size < (wr.setCell ⟨w.heap.size,k,none⟩ (.bool nd)).heap.size:=by simpa [World.setCell] using hz
    have F4:∀ j (hj:j < l.length),∃ v:Bool,(wr.setCell ⟨w.heap.size,k,none⟩ (.bool nd)).cell? ⟨w.heap.size,j,none⟩=some (.bool v)/\(wr.setCell ⟨w.heap.size,k,none⟩ (.bool nd)).frozen? ⟨w.heap.size,j,none⟩=false/\(j < k+1->v=l[j]):=by
     intro j hj
     obtain ⟨u,r0,r1,r2⟩:=HX.out j hj
     by_cases e:j=k
     ·subst e
      exact ⟨nd,set_same r0,by rw [World.frozen?_setCell];exact r1,fun _=>HD.out⟩
     ·exact ⟨u,by rw [set_other (by simp<;>omega)];exact r0,by rw [World.frozen?_setCell];exact r1,fun x=>r2 (by omega)⟩
    exact ⟨k+1,by omega,by go_num,F1,F2,F4⟩
   case measure=>simp [intOf];omega
  ·go_wp2
   go_ret
   refine ⟨rfl,⟨H.out.1,?_⟩,HB.out⟩
   by_cases e:l.length=0
   ·exact .inl e
   ·refine .inr ⟨w.heap.size,0,rfl,Nat.le_refl _,fun i hi=>?_⟩
    obtain ⟨v,q0,q1,q2⟩:=hx i hi
    have:=q2 (by omega)
    subst this
    rw [Nat.zero_add]
    exact ⟨q0,q1⟩
/-- The first k flags, each changed by f. -/
def mapTo (f:Bool->Bool) (l:List Bool) (k:Nat):List Bool:=(l.take k).map f
theorem mapTo_next {f:Bool->Bool} {l:List Bool} {k:Nat} (h:k < l.length):mapTo f l (k+1)=mapTo f l k++[f l[k]]:=by
 unfold mapTo
 rw [List.take_succ_eq_append_getElem h,List.map_append]
 rfl
theorem mapTo_len {f:Bool->Bool} {l:List Bool} {k:Nat} (h:k<=l.length):(mapTo f l k).length=k:=by
 unfold mapTo
 rw [List.length_map,List.length_take]
 omega
/-- Every flag turned. -/
def turnL (l:List Bool):List Bool:=l.map not
theorem turnL_length (l:List Bool):(turnL l).length=l.length:=List.length_map ..
theorem mapTo_all {f:Bool->Bool} {l:List Bool} {k:Nat} (h:¬ k < l.length):mapTo f l k=l.map f:=by
 unfold mapTo
 rw [List.take_of_length_le (by omega)]
end Dqa
namespace Mx0
open Go.RowKit
open Nd0 (Kept Ints WInts set_other set_same lt_of_cell)
open Nd6 (Bools eqBoolS eqIntB toIntS)
open Dqa (toBoolS)
open Qc0 (Sn Sns WSns)
open Qc1 (toSeenS eqSeenS szSeenS szSeenK)
open Tc2 (tv)
open Tc3 (szTable toTable eqTable)
open Mm0
theorem szBoolS (w:World) (a:Option Addr) (n c:Nat) (left:Int) (h0:0<=left) (h1:left<=1048576) (hn:n<=maxLen) :
 Calls Tryz.prog 18 #[.slice a n c,.int .i64 left] w fun e w'=>e=.returned (.int .i64 (if (n:Int)<=left then left - n else -1))/\w'=w:=by
 unfold maxLen at hn
 by_cases hc:(n:Int)<=left
 ·go_enter Tryz.func18,Tryz.ntmps18
  go_wp2
  go_ret
  exact ⟨rfl,rfl⟩
 ·go_enter Tryz.func18,Tryz.ntmps18
  go_wp2
  go_ret
  exact ⟨rfl,rfl⟩
theorem szIntS (w:World) (a:Option Addr) (n c:Nat) (left:Int) (h0:0<=left) (h1:left<=1048576) (hn:n<=maxLen) :
 Calls Tryz.prog 20 #[.slice a n c,.int .i64 left] w fun e w'=>e=.returned (.int .i64 (if (n:Int)<=left then left - n else -1))/\w'=w:=by
 unfold maxLen at hn
 by_cases hc:(n:Int)<=left
 ·go_enter Tryz.func20,Tryz.ntmps20
  go_wp2
  go_ret
  exact ⟨rfl,rfl⟩
 ·go_enter Tryz.func20,Tryz.ntmps20
  go_wp2
  go_ret
  exact ⟨rfl,rfl⟩
theorem eqMachine (w:World) (m:Mc) (ra va ma ra' va' ma':Option Addr) (rc vc mc rc' vc' mc':Nat) (h:Mr w m ra va ma) (h':Mr w m ra' va' ma') :
 Calls Tryz.prog 15 #[mval m ra va ma rc vc mc,mval m ra' va' ma' rc' vc' mc'] w fun e w'=>e=.returned (.bool true)/\Below w.heap.size w w':=by
 have H:Hid (Mr w m ra va ma):=h
 have H':Hid (Mr w m ra' va' ma'):=h'
 clear h h'
 have hne_room:(m.room != m.room)=false:=by simp
 have hne_ret:(m.ret != m.ret)=false:=by simp
 have hne_over:(m.over != m.over)=false:=by simp
 have hne_steps:(m.steps != m.steps)=false:=by simp
 have hne_looks:(m.looks != m.looks)=false:=by simp
 have hne_hits:(m.hits != m.hits)=false:=by simp
 obtain ⟨W0,hW0⟩:∃ W0,W0=(w.alloc (.cells #[.slice ra m.row.length rc,.int .i64 m.N,.string m.S,.int .i64 m.room,.slice va m.vals.length vc,.int .i64 m.ret,.bool m.over,.int .i64 m.steps,.int .i64 m.looks,.int .i64 m.hits,.slice ma m.memo.length mc] 35)).alloc (.cells #[.slice ra' m.row.length rc',.int .i64 m.N,.string m.S,.int .i64 m.room,.slice va' m.vals.length vc',.int .i64 m.ret,.bool m.over,.int .i64 m.steps,.int .i64 m.looks,.int .i64 m.hits,.slice ma' m.memo.length mc'] 35):=⟨_,rfl⟩
 have HE0:Hid ((w.alloc (.cells #[.slice ra m.row.length rc,.int .i64 m.N,.string m.S,.int .i64 m.room,.slice va m.vals.length vc,.int .i64 m.ret,.bool m.over,.int .i64 m.steps,.int .i64 m.looks,.int .i64 m.hits,.slice ma m.memo.length mc] 35)).alloc (.cells #[.slice ra' m.row.length rc',.int .i64 m.N,.string m.S,.int .i64 m.room,.slice va' m.vals.length vc',.int .i64 m.ret,.bool m.over,.int .i64 m.steps,.int .i64 m.looks,.int .i64 m.hits,.slice ma' m.memo.length mc'] 35)=W0):=hW0.symm
 have HA:Hid (Mb W0 w.heap.size m ra va ma rc vc mc):=by rw [hW0];exact (Mb.made _ _ _ _ _ _ _ _ _).alloc _
 have HA':Hid (Mb W0 (w.heap.size+1) m ra' va' ma' rc' vc' mc'):=by
  rw [hW0]
  have:=Mb.made (w.alloc (.cells #[.slice ra m.row.length rc,.int .i64 m.N,.string m.S,.int .i64 m.room,.slice va m.vals.length vc,.int .i64 m.ret,.bool m.over,.int .i64 m.steps,.int .i64 m.looks,.int .i64 m.hits,.slice ma m.memo.length mc] 35)) m ra' va' ma' rc' vc' mc' 35
  show Mb _ _ _ _ _ _ _ _ _
  simpa using this
 have HB0:Hid (Below w.heap.size w W0):=by rw [hW0];exact ((Below.refl _ _).alloc (Nat.le_refl _) _).alloc (by simp) _
 clear hW0
 go_enter Tryz.func15,Tryz.ntmps15
 go_wp2_with fail
 rw [HE0.out]
 clear HE0
 refine (eqBoolS _ ra ra' m.row rc rc' (H.out.row.below HB0.out) (H'.out.row.below HB0.out)).mono ?_
 rintro e w1 ⟨rfl,hb1⟩
 have HB1:Hid (Below w.heap.size w w1):=HB0.out.trans (hb1.mono HB0.out.size)
 have HA1:Hid (Mb w1 w.heap.size m ra va ma rc vc mc):=HA.out.below hb1
 have HA1':Hid (Mb w1 (w.heap.size+1) m ra' va' ma' rc' vc' mc'):=HA'.out.below hb1
 clear hb1 HA HA' HB0
 obtain ⟨m0,m1,m2,m3,m4,m5,m6,m7,m8,m9,m10⟩:=HA1.out
 obtain ⟨n0,n1,n2,n3,n4,n5,n6,n7,n8,n9,n10⟩:=HA1'.out
 go_wp2_with fail
 refine (eqTable m.N m.N m.S m.S _).mono ?_
 rintro e w2 ⟨rfl,hb2⟩
 rw [show decide (m.N=m.N/\m.S=m.S)=true from decide_eq_true ⟨rfl,rfl⟩]
 have HB2:Hid (Below w.heap.size w w2):=HB1.out.trans (hb2.mono HB1.out.size)
 have HA2:Hid (Mb w2 w.heap.size m ra va ma rc vc mc):=HA1.out.below hb2
 have HA2':Hid (Mb w2 (w.heap.size+1) m ra' va' ma' rc' vc' mc'):=HA1'.out.below hb2
 clear hb2 HA1 HA1' HB1 m0 n0 m1 n1 m2 n2 m3 n3 m4 n4 m5 n5 m6 n6 m7 n7 m8 n8 m9 n9 m10 n10
 obtain ⟨m0,m1,m2,m3,m4,m5,m6,m7,m8,m9,m10⟩:=HA2.out
 obtain ⟨n0,n1,n2,n3,n4,n5,n6,n7,n8,n9,n10⟩:=HA2'.out
 go_wp2_with fail
 refine (eqIntB _ va va' m.vals vc vc' (H.out.vals.below HB2.out) (H'.out.vals.below HB2.out)).mono ?_
 rintro e w3 ⟨rfl,hb3⟩
 have HB3:Hid (Below w.heap.size w w3):=HB2.out.trans (hb3.mono HB2.out.size)
 have HA3:Hid (Mb w3 w.heap.size m ra va ma rc vc mc):=HA2.out.below hb3
 have HA3':Hid (Mb w3 (w.heap.size+1) m ra' va' ma' rc' vc' mc'):=HA2'.out.below hb3
 clear hb3 HA2 HA2' HB2 m0 n0 m1 n1 m2 n2 m3 n3 m4 n4 m5 n5 m6 n6 m7 n7 m8 n8 m9 n9 m10 n10
 obtain ⟨m0,m1,m2,m3,m4,m5,m6,m7,m8,m9,m10⟩:=HA3.out
 obtain ⟨n0,n1,n2,n3,n4,n5,n6,n7,n8,n9,n10⟩:=HA3'.out
 go_wp2_with fail
 refine (eqSeenS _ ma ma' m.memo mc mc' (H.out.memo.below HB3.out) (H'.out.memo.below HB3.out)).mono ?_
 rintro e w4 ⟨rfl,hb4⟩
 have HB4:Hid (Below w.heap.size w w4):=HB3.out.trans (hb4.mono HB3.out.size)
 clear hb4
 go_wp2
 go_ret
 exact ⟨rfl,HB4.out⟩
theorem szMachineK (w:World) (m:Mc) (ra va ma:Option Addr) (rc vc mc:Nat) (h:Mr w m ra va ma) (hS:m.S.size<=maxLen) (hk:∀ x∈m.memo,x.k.size<=maxLen) :
 Calls Tryz.prog 11 #[mval m ra va ma rc vc mc,.int .i64 1048576] w fun e w'=>∃ r:Int,e=.returned (.int .i64 r) /\ -1<=r/\r<=1048576/\(0<=r->m.row.length<=1048576/\m.S.size<=1048576/\m.vals.length<=1048576/\m.memo.length<=1048576/\∀ x∈m.memo,x.k.size<=1048576)/\Below w.heap.size w w':=by
 have H:Hid (Mr w m ra va ma):=h
 have HK:Hid (∀ x∈m.memo,x.k.size<=maxLen):=hk
 have HSz:Hid (m.S.size<=maxLen):=hS
 have h1:=h.row.1
 have h2:=h.vals.1
 have HR1:Hid (m.row.length<=maxLen):=h1
 have HV1:Hid (m.vals.length<=maxLen):=h2
 clear h hk hS h1 h2
 have HA:Hid (Mb (w.alloc (.cells #[.slice ra m.row.length rc,.int .i64 m.N,.string m.S,.int .i64 m.room,.slice va m.vals.length vc,.int .i64 m.ret,.bool m.over,.int .i64 m.steps,.int .i64 m.looks,.int .i64 m.hits,.slice ma m.memo.length mc] 28)) w.heap.size m ra va ma rc vc mc):=Mb.made _ _ _ _ _ _ _ _ _
 have HB0:Hid (Below w.heap.size w (w.alloc (.cells #[.slice ra m.row.length rc,.int .i64 m.N,.string m.S,.int .i64 m.room,.slice va m.vals.length vc,.int .i64 m.ret,.bool m.over,.int .i64 m.steps,.int .i64 m.looks,.int .i64 m.hits,.slice ma m.memo.length mc] 28))):=(Below.refl _ _).alloc (Nat.le_refl _) _
 by_cases c1:(m.row.length:Int)<=1048576
 rotate_left
 ·go_enter Tryz.func11,Tryz.ntmps11
  go_wp2_with fail
  refine (szBoolS _ ra _ rc _ (by omega) (by omega) HR1.out).mono ?_
  rw [if_neg (by omega)]
  rintro e w2 ⟨rfl,rfl⟩
  go_wp2
  go_ret
  exact ⟨-1,rfl,by omega,by omega,fun h=>by omega,HB0.out⟩
 have q1:¬ 1048576 - (m.row.length:Int) < 0:=by omega
 go_enter Tryz.func11,Tryz.ntmps11
 go_wp2_with fail
 refine (szBoolS _ ra _ rc _ (by omega) (by omega) HR1.out).mono ?_
 rw [if_pos c1]
 rintro e w1 ⟨rfl,hw1⟩
 obtain ⟨x1,hx1⟩:∃ x1:Int,x1=1048576 - (m.row.length:Int):=⟨_,rfl⟩
 rw [<- hx1] at q1 ⊢
 have a1:0<=x1:=by omega
 have b1:x1<=1048576:=by omega
 have C1:Hid ((m.row.length:Int)<=1048576):=c1
 have HB1:Hid (Below w.heap.size w w1):=by rw [hw1];exact HB0.out
 have HA1:Hid (Mb w1 w.heap.size m ra va ma rc vc mc):=by rw [hw1];exact HA.out
 clear hx1 c1 hw1 HB0 HA
 obtain ⟨m0,m1,m2,m3,m4,m5,m6,m7,m8,m9,m10⟩:=HA1.out
 by_cases c2:(m.S.size:Int)<=x1
 rotate_left
 ·go_wp2_with fail
  refine (szTable m.N m.S x1 _ a1 b1 HSz.out).mono ?_
  rw [if_neg (by omega)]
  rintro e w2 ⟨rfl,hb2⟩
  have HB2:Hid (Below w.heap.size w w2):=HB1.out.trans (hb2.mono HB1.out.size)
  clear hb2
  go_wp2
  go_ret
  exact ⟨-1,rfl,by omega,by omega,fun h=>by omega,HB2.out⟩
 have q2:¬ x1 - (m.S.size:Int) < 0:=by omega
 go_wp2_with fail
 refine (szTable m.N m.S x1 _ a1 b1 HSz.out).mono ?_
 rw [if_pos c2]
 rintro e w2 ⟨rfl,hb2⟩
 obtain ⟨x2,hx2⟩:∃ x2:Int,x2=x1 - (m.S.size:Int):=⟨_,rfl⟩
 rw [<- hx2] at q2 ⊢
 have a2:0<=x2:=by omega
 have b2:x2<=1048576:=by omega
 have C2:Hid ((m.S.size:Int)<=1048576):=Int.le_trans c2 b1
 have HB2:Hid (Below w.heap.size w w2):=HB1.out.trans (hb2.mono HB1.out.size)
 have HA2:Hid (Mb w2 w.heap.size m ra va ma rc vc mc):=HA1.out.below hb2
 clear hx2 c2 hb2 HB1 HA1 m0 m1 m2 m3 m4 m5 m6 m7 m8 m9 m10
 obtain ⟨m0,m1,m2,m3,m4,m5,m6,m7,m8,m9,m10⟩:=HA2.out
 by_cases c3:(m.vals.length:Int)<=x2
 rotate_left
 ·go_wp2_with fail
  refine (szIntS _ va _ vc _ a2 b2 HV1.out).mono ?_
  rw [if_neg (by omega)]
  rintro e w3 ⟨rfl,rfl⟩
  go_wp2
  go_ret
  exact ⟨-1,rfl,by omega,by omega,fun h=>by omega,HB2.out⟩
 have q3:¬ x2 - (m.vals.length:Int) < 0:=by omega
 go_wp2_with fail
 refine (szIntS _ va _ vc _ a2 b2 HV1.out).mono ?_
 rw [if_pos c3]
 rintro e w3 ⟨rfl,hw3⟩
 have hw3':=hw3.symm
 subst hw3'
 clear hw3
 obtain ⟨x3,hx3⟩:∃ x3:Int,x3=x2 - (m.vals.length:Int):=⟨_,rfl⟩
 rw [<- hx3] at q3 ⊢
 have a3:0<=x3:=by omega
 have b3:x3<=1048576:=by omega
 have C3:Hid ((m.vals.length:Int)<=1048576):=Int.le_trans c3 b2
 clear hx3 c3
 go_wp2_with fail
 refine (szSeenK _ ma m.memo mc x3 (H.out.memo.below HB2.out) a3 b3 HK.out).mono ?_
 rintro e w4 ⟨r,rfl,hr0,hr1,hr2,hb4⟩
 have HR2:Hid (0<=r->(m.memo.length:Int)<=1048576/\∀ x∈m.memo,x.k.size<=1048576):=hr2
 have HB4:Hid (Below w.heap.size w w4):=HB2.out.trans (hb4.mono HB2.out.size)
 clear hb4 hr2
 by_cases c4:r < 0
 ·go_wp2
  go_ret
  exact ⟨-1,rfl,by omega,by omega,fun h=>by omega,HB4.out⟩
 ·go_wp2
  go_ret
  have d1:=C1.out
  have d2:=C2.out
  have d3:=C3.out
  obtain ⟨d4,d5⟩:=HR2.out (by omega)
  exact ⟨r,rfl,by omega,by omega,fun _=>⟨by omega,by omega,by omega,by omega,d5⟩,HB4.out⟩
theorem szMachine (w:World) (m:Mc) (ra va ma:Option Addr) (rc vc mc:Nat) (h:Mr w m ra va ma) (hS:m.S.size<=maxLen) (hk:∀ x∈m.memo,x.k.size<=maxLen) :
 Calls Tryz.prog 11 #[mval m ra va ma rc vc mc,.int .i64 1048576] w fun e w'=>∃ r:Int,e=.returned (.int .i64 r) /\ -1<=r/\r<=1048576/\(0<=r->m.row.length<=1048576/\m.S.size<=1048576/\m.vals.length<=1048576/\m.memo.length<=1048576)/\Below w.heap.size w w' :=
 (szMachineK w m ra va ma rc vc mc h hS hk).mono fun e w' k=>by
  obtain ⟨r,h1,h2,h3,h4,h5⟩:=k
  exact ⟨r,h1,h2,h3,fun h=>⟨(h4 h).1,(h4 h).2.1,(h4 h).2.2.1,(h4 h).2.2.2.1⟩,h5⟩
/-- A block of cells that may be written. -/
def Mf (W:World) (b:Nat) (L:List Value):Prop:=∀ i (h:i < L.length),W.cell? ⟨b,i,none⟩=some L[i]/\W.frozen? ⟨b,i,none⟩=false
theorem Mf.lt {W:World} {b:Nat} {L:List Value} (h:Mf W b L) (hl:0 < L.length):b < W.heap.size:=World.block_lt_of_cell? _ _ (h 0 hl).1
theorem Mf.kept {W W':World} {b:Nat} {L:List Value} (h:Mf W b L) {S:Nat->Prop} (k:Kept S W W') (hs:¬ S b):Mf W' b L:=fun i hi=>by
 have hb:=h.lt (Nat.lt_of_le_of_lt (Nat.zero_le _) hi)
 exact ⟨by rw [k.cell (p:=⟨b,i,none⟩) hb hs];exact (h i hi).1,by rw [k.frozen (p:=⟨b,i,none⟩) hb hs];exact (h i hi).2⟩
theorem Mf.below {W W':World} {b:Nat} {L:List Value} (h:Mf W b L) (k:Below W.heap.size W W'):Mf W' b L:=h.kept (S:=fun _=>False) (Kept.ofBelow k) (fun h=>h)
theorem Mf.alloc {W:World} {b:Nat} {L:List Value} (h:Mf W b L) (o:Obj):Mf (W.alloc o) b L:=h.kept (S:=fun _=>False) ((Kept.refl _ _).alloc _) (fun h=>h)
theorem Mf.set {W:World} {b:Nat} {L:List Value} (h:Mf W b L) (i:Nat) (v:Value):Mf (W.setCell ⟨b,i,none⟩ v) b (L.set i v):=fun j hj=>by
 have hj':j < L.length:=by simpa using hj
 refine ⟨?_,by rw [World.frozen?_setCell];exact (h j hj').2⟩
 by_cases e:i=j
 ·subst e
  rw [set_same (h i hj').1]
  simp
 ·rw [set_other (by simp),(h j hj').1]
  simp [e]
theorem Mf.other {W:World} {b c:Nat} {L:List Value} (h:Mf W b L) (hc:b≠c) (i:Nat) (v:Value):Mf (W.setCell ⟨c,i,none⟩ v) b L:=fun j hj=>by
 refine ⟨?_,by rw [World.frozen?_setCell];exact (h j hj).2⟩
 rw [set_other (by simp)]
 exact (h j hj).1
theorem Mf.made (W:World) (A:Array Value) (T:Nat):Mf (W.alloc (.cells A T)) W.heap.size A.toList:=fun i hi=>by
 refine ⟨?_,by simp⟩
 rw [World.cell?_alloc_new]
 have:i < A.size:=by simpa using hi
 simp [this]
structure Mz (W:World) (b:Nat) (v0 v1 v2 v3 v4 v5 v6 v7 v8 v9 v10:Value):Prop where
 c0:W.cell? ⟨b,0,none⟩=some v0
 c1:W.cell? ⟨b,1,none⟩=some v1
 c2:W.cell? ⟨b,2,none⟩=some v2
 c3:W.cell? ⟨b,3,none⟩=some v3
 c4:W.cell? ⟨b,4,none⟩=some v4
 c5:W.cell? ⟨b,5,none⟩=some v5
 c6:W.cell? ⟨b,6,none⟩=some v6
 c7:W.cell? ⟨b,7,none⟩=some v7
 c8:W.cell? ⟨b,8,none⟩=some v8
 c9:W.cell? ⟨b,9,none⟩=some v9
 c10:W.cell? ⟨b,10,none⟩=some v10
 z0:W.frozen? ⟨b,0,none⟩=false
 z1:W.frozen? ⟨b,1,none⟩=false
 z2:W.frozen? ⟨b,2,none⟩=false
 z3:W.frozen? ⟨b,3,none⟩=false
 z4:W.frozen? ⟨b,4,none⟩=false
 z5:W.frozen? ⟨b,5,none⟩=false
 z6:W.frozen? ⟨b,6,none⟩=false
 z7:W.frozen? ⟨b,7,none⟩=false
 z8:W.frozen? ⟨b,8,none⟩=false
 z9:W.frozen? ⟨b,9,none⟩=false
 z10:W.frozen? ⟨b,10,none⟩=false
theorem Mf.all {W:World} {b:Nat} {v0 v1 v2 v3 v4 v5 v6 v7 v8 v9 v10:Value} (h:Mf W b [v0,v1,v2,v3,v4,v5,v6,v7,v8,v9,v10]):Mz W b v0 v1 v2 v3 v4 v5 v6 v7 v8 v9 v10 :=
 ⟨(h 0 (by simp)).1,(h 1 (by simp)).1,(h 2 (by simp)).1,(h 3 (by simp)).1,(h 4 (by simp)).1,(h 5 (by simp)).1,(h 6 (by simp)).1,(h 7 (by simp)).1,(h 8 (by simp)).1,(h 9 (by simp)).1,(h 10 (by simp)).1,(h 0 (by simp)).2,(h 1 (by simp)).2,(h 2 (by simp)).2,(h 3 (by simp)).2,(h 4 (by simp)).2,(h 5 (by simp)).2,(h 6 (by simp)).2,(h 7 (by simp)).2,(h 8 (by simp)).2,(h 9 (by simp)).2,(h 10 (by simp)).2⟩
theorem Mz.mf {W:World} {b:Nat} {v0 v1 v2 v3 v4 v5 v6 v7 v8 v9 v10:Value} (h:Mz W b v0 v1 v2 v3 v4 v5 v6 v7 v8 v9 v10):Mf W b [v0,v1,v2,v3,v4,v5,v6,v7,v8,v9,v10]:=fun i hi=>by
 match i,hi with
 | 0,_=>exact ⟨h.c0,h.z0⟩
 | 1,_=>exact ⟨h.c1,h.z1⟩
 | 2,_=>exact ⟨h.c2,h.z2⟩
 | 3,_=>exact ⟨h.c3,h.z3⟩
 | 4,_=>exact ⟨h.c4,h.z4⟩
 | 5,_=>exact ⟨h.c5,h.z5⟩
 | 6,_=>exact ⟨h.c6,h.z6⟩
 | 7,_=>exact ⟨h.c7,h.z7⟩
 | 8,_=>exact ⟨h.c8,h.z8⟩
 | 9,_=>exact ⟨h.c9,h.z9⟩
 | 10,_=>exact ⟨h.c10,h.z10⟩
theorem Mf.mb {W:World} {b:Nat} {m:Mc} {ra va ma:Option Addr} {rc vc mc:Nat} (h:Mf W b [.slice ra m.row.length rc,.int .i64 m.N,.string m.S,.int .i64 m.room,.slice va m.vals.length vc,.int .i64 m.ret,.bool m.over,.int .i64 m.steps,.int .i64 m.looks,.int .i64 m.hits,.slice ma m.memo.length mc]):Mb W b m ra va ma rc vc mc :=
 ⟨(h 0 (by simp)).1,(h 1 (by simp)).1,(h 2 (by simp)).1,(h 3 (by simp)).1,(h 4 (by simp)).1,(h 5 (by simp)).1,(h 6 (by simp)).1,(h 7 (by simp)).1,(h 8 (by simp)).1,(h 9 (by simp)).1,(h 10 (by simp)).1⟩
end Mx0
end Go.Proofs.YtladjpombohpaaaGreatDoor
