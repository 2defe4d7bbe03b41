import Derived.Test.YtladjpombohpaaaGreatDoorPkJE4
import Derived.Test.YtladjpombohpaaaGreatDoorPkJE1
import Derived.Test.YtladjpombohpaaaGreatDoorPkJE2
namespace Go.Proofs.YtladjpombohpaaaGreatDoor
set_option maxRecDepth 100000
set_option maxHeartbeats 8000000
set_option linter.unusedVariables false
namespace Ss1
open Go.RowKit
open Nd0 Tx0 Ss0
open Ws1 (sIn ret_int)
/-- The bytes of a string. -/
def tl (S:ByteArray):List UInt8:=S.data.toList
theorem tl_bs (l:List UInt8):tl (bs l)=l:=by simp [tl,bs]
theorem bs_tl (S:ByteArray):bs (tl S)=S:=bs_of S
theorem tl_length (S:ByteArray):(tl S).length=S.size:=by unfold tl ByteArray.size;exact Array.length_toList
theorem tl_get (S:ByteArray) (k:Nat) (h:k < S.size):S[k]=(tl S)[k]'(by rw [tl_length];exact h):=rfl
theorem tl_ext (S:ByteArray) (i j:Nat):tl (S.extract i j)=((tl S).take j).drop i:=by
 have:=bs_ext (tl S) i j
 rw [bs_tl] at this
 rw [this,tl_bs]
theorem tl_app (S T:ByteArray):tl (S++T)=tl S++tl T:=by
 have:=bs_app (tl S) (tl T)
 rw [bs_tl,bs_tl] at this
 rw [this,tl_bs]
theorem tl_inj {S T:ByteArray} (h:tl S=tl T):S=T:=by rw [<- bs_tl S,<- bs_tl T,h]
theorem tl_take (S:ByteArray) (k:Nat) (h:k < S.size):(tl S).take (k+1)=(tl S).take k++[S[k]]:=by
 rw [List.take_succ_eq_append_getElem (by rw [tl_length];exact h)];rfl
theorem eqb (S T:ByteArray):(S.toList==T.toList)=decide (tl S=tl T):=by
 rw [ByteArray.toList_eq,ByteArray.toList_eq,Bool.eq_iff_iff]
 simp [tl]
theorem eqb_false {S T:ByteArray} (h:tl S≠tl T):(S.toList==T.toList)=false:=by rw [eqb];exact decide_eq_false h
theorem eqb_true {S T:ByteArray} (h:tl S=tl T):(S.toList==T.toList)=true:=by rw [eqb];exact decide_eq_true h
theorem eql_false {S:ByteArray} {l:List UInt8} (h:tl S≠l):(S.toList==l)=false:=by
 rw [ByteArray.toList_eq]
 exact beq_eq_false_iff_ne.2 h
theorem eql_true {S:ByteArray} {l:List UInt8} (h:tl S=l):(S.toList==l)=true:=by
 rw [ByteArray.toList_eq]
 exact beq_iff_eq.2 h
/-- A number, or -1. -/
def numI (s:List UInt8):Int:=match numL s with
 | some n=>(n:Int)
 | none => -1
theorem num_bad_len {s:List UInt8} (h:s.length=0\/9 < s.length):numI s = -1:=by unfold numI numL;rw [if_pos h]
theorem num_bad_dig {s:List UInt8} (c:UInt8) (hc:c∈s) (h:isDig c=false):numI s = -1:=by
 have:s.all isDig=false:=by rw [List.all_eq_false];exact ⟨c,hc,by simp [h]⟩
 unfold numI numL
 by_cases hl:s.length=0\/9 < s.length
 ·rw [if_pos hl]
 ·rw [if_neg hl,this];rfl
theorem num_end {s:List UInt8} (hl:¬ (s.length=0\/9 < s.length)) (ha:∀ c∈s,isDig c=true):numI s=if dec (valL s)=s then (valL s:Int) else -1:=by
 unfold numI numL
 rw [if_neg hl,if_pos (List.all_eq_true.2 ha)]
 by_cases h:dec (valL s)=s
 ·rw [if_pos h,if_pos h]
 ·rw [if_neg h,if_neg h]
theorem sNum (S:ByteArray) (w:World) (hs:S.size<=100000) :
 Calls Tryz.prog 137 #[.string S] w fun e w'=>e=.returned (.int .i64 (numI (tl S)))/\w'=w:=by
 have hsl:=tl_length S
 by_cases hl:(tl S).length=0\/9 < (tl S).length
 ·have HF:Hid (numI (tl S) = -1):=num_bad_len hl
  by_cases h0:S.size=0
  ·have hz:((S.size:Int)==0)=true:=by rw [h0];rfl
   clear hl hsl
   go_enter Tryz.func137,Tryz.ntmps137
   go_wp2
   go_ret
   exact ⟨ret_int HF.out.symm,rfl⟩
  ·have hz:((S.size:Int)==0)=false:=beq_eq_false_iff_ne.2 (by omega)
   have h9:9 < (S.size:Int):=by omega
   clear hl hsl
   go_enter Tryz.func137,Tryz.ntmps137
   go_wp2
   go_ret
   exact ⟨ret_int HF.out.symm,rfl⟩
 ·have HL:Hid (¬ ((tl S).length=0\/9 < (tl S).length)):=hl
  have hz:((S.size:Int)==0)=false:=beq_eq_false_iff_ne.2 (by omega)
  have h9:¬ 9 < (S.size:Int):=by omega
  have HSL:Hid ((tl S).length=S.size):=hsl
  clear hl hsl
  go_enter Tryz.func137,Tryz.ntmps137
  go_wp2
  go_loop [3,4] (fun n i=>∃ k:Nat,k<=S.size/\i=.int .i64 k/\n=.int .i64 (valL ((tl S).take k))/\∀ c∈(tl S).take k,isDig c=true) (fun _ i=>S.size - (intOf i).toNat)
  case atStart=>exact ⟨0,Nat.zero_le _,rfl,rfl,fun c hc=>by simp at hc⟩
  case round =>
   obtain ⟨k,hk,rfl,rfl,hd⟩:=hrel
   have HD:Hid (∀ c∈(tl S).take k,isDig c=true):=hd
   have hv:valL ((tl S).take k) < 1000000000:=by
    have h1:=val_lt _ hd
    have h2:((tl S).take k).length<=9:=by rw [List.length_take];have:=HL.out;omega
    exact Nat.lt_of_lt_of_le h1 (Nat.le_trans (Nat.pow_le_pow_right (by omega) h2) (by decide))
   clear hd
   by_cases hlt:k < S.size
   ·have hkz:(k:Int) < (S.size:Int):=by omega
    have HT:Hid ((tl S).take (k+1)=(tl S).take k++[S[k]]):=tl_take S k hlt
    have HM:Hid (S[k]∈tl S):=by
     show _∈_
     rw [tl_get S k hlt];exact List.getElem_mem _
    generalize hV:valL ((tl S).take k)=V at hv
    have HV:Hid (valL ((tl S).take k)=V):=hV
    clear hV
    have hc8:=S[k].toNat_lt
    cases hdg:isDig S[k]
    ·have HF:Hid (numI (tl S) = -1):=num_bad_dig S[k] HM.out hdg
     have hb:decide (48<=(S[k].toNat:Int)/\(S[k].toNat:Int)<=57)=false:=by
      unfold isDig at hdg;simp at hdg ⊢;omega
     go_wp2_with (go_at_call 25;refine (sIn _ _ _ _).mono ?_;rintro e w' ⟨rfl,rfl⟩;rw [hb])
     go_ret
     exact ⟨ret_int HF.out.symm,rfl⟩
    ·have hb:decide (48<=(S[k].toNat:Int)/\(S[k].toNat:Int)<=57)=true:=by
      unfold isDig at hdg;simp at hdg ⊢;omega
     have hcr:48<=S[k].toNat/\S[k].toNat<=57:=by unfold isDig at hdg;simpa using hdg
     have HDG:Hid (isDig S[k]=true):=hdg
     clear hdg
     go_wp2_with (go_at_call 25;refine (sIn _ _ _ _).mono ?_;rintro e w' ⟨rfl,rfl⟩;rw [hb])
     go_round
     case rel =>
      refine ⟨k+1,by omega,by go_num,?_,?_⟩
      ·rw [HT.out,valL_snoc,HV.out]
       congr 1
       omega
      ·rw [HT.out]
       intro c hc
       rcases List.mem_append.1 hc with h|h
       ·exact HD.out c h
       ·have:c=S[k]:=by simpa using h
        rw [this];exact HDG.out
     case measure=>simp [intOf];omega
   ·have hkz:¬ (k:Int) < (S.size:Int):=by omega
    have ht:(tl S).take k=tl S:=List.take_of_length_le (by have:=HSL.out;omega)
    rw [ht] at hv ⊢
    have HE:Hid (numI (tl S)=if dec (valL (tl S))=tl S then (valL (tl S):Int) else -1):=by
     have:=HD.out
     rw [ht] at this
     exact num_end HL.out this
    clear ht
    generalize hV:valL (tl S)=V at hv HE
    clear hV
    by_cases he:dec V=tl S
    ·have hq:bs (dec V)=S:=by rw [he,bs_tl]
     have HE2:Hid (numI (tl S)=(V:Int)):=by show _=_;rw [HE.out,if_pos he]
     clear he
     go_wp2_with (go_at_call 96;refine (sDec V _ hv).mono ?_;rintro e w' ⟨rfl,rfl⟩;rw [hq])
     go_ret
     exact ⟨ret_int HE2.out.symm,rfl⟩
    ·have hq:((bs (dec V)).toList==S.toList)=false:=eqb_false (by rw [tl_bs];exact he)
     have HE2:Hid (numI (tl S) = -1):=by show _=_;rw [HE.out,if_neg he]
     clear he
     go_wp2_with (go_at_call 96;refine (sDec V _ hv).mono ?_;rintro e w' ⟨rfl,rfl⟩)
     go_ret
     exact ⟨ret_int HE2.out.symm,rfl⟩
theorem span_at (x y:List UInt8) (hx:∀ c∈x,c≠58):(x++(58 :: y)).takeWhile (fun z=>z != 58)=x/\(x++(58 :: y)).dropWhile (fun z=>z != 58)=58 :: y:=by
 induction x with
 | nil=>exact ⟨rfl,rfl⟩
 | cons c x ih =>
   have h1:(c != 58)=true:=by simpa using hx c (by simp)
   have h2:=ih (fun d hd=>hx d (by simp [hd]))
   rw [List.cons_append,List.takeWhile_cons,List.dropWhile_cons,h1,if_pos rfl,if_pos rfl,h2.1,h2.2]
   exact ⟨rfl,rfl⟩
theorem ret_two {k:IntKind} {a b c d:Int} (h:a=c) (h2:b=d):Ending.returned (.tuple #[.int k a,.int k b])=.returned (.tuple #[.int k c,.int k d]):=by rw [h,h2]
/-- Two numbers, or -1 and -1. -/
def twoA (h:UInt8) (s:List UInt8):Int:=match twoL h s with
 | some (a,_)=>(a:Int)
 | none => -1
def twoB (h:UInt8) (s:List UInt8):Int:=match twoL h s with
 | some (_,b)=>(b:Int)
 | none => -1
theorem two_none {h:UInt8} {s:List UInt8} (e:twoL h s=none):twoA h s = -1/\twoB h s = -1:=by
 unfold twoA twoB;rw [e];exact ⟨rfl,rfl⟩
theorem two_split (h:UInt8) (x y:List UInt8) (hx:∀ c∈x,c≠58):twoL h (h :: (x++(58 :: y)))=match numL x,numL y with
 | some a,some b=>some (a,b)
 | _,_=>none:=by
 obtain ⟨k1,k2⟩:=span_at x y hx
 simp only [twoL,↓reduceIte]
 rw [k1,k2]<;>rfl
theorem two_nums {h:UInt8} {s x y:List UInt8} (hs:s=h :: (x++(58 :: y))) (hx:∀ c∈x,c≠58):(numI x < 0\/numI y < 0->twoA h s = -1/\twoB h s = -1)/\(¬ (numI x < 0\/numI y < 0)->twoA h s=numI x/\twoB h s=numI y):=by
 subst hs
 unfold twoA twoB numI
 rw [two_split h x y hx]
 cases numL x with
 | none=>simp
 | some a =>
   cases numL y with
   | none=>simp
   | some b=>simp
theorem num_range (s:List UInt8) : -1<=numI s/\numI s<=1000000000:=by
 unfold numI
 cases h:numL s with
 | none=>simp
 | some n =>
   have:=(num_some h).2.1
   simp only;omega
theorem two_no_head {h:UInt8} {s:List UInt8} (e:s=[]\/∃ c r,s=c :: r/\c≠h):twoL h s=none:=by
 rcases e with rfl|⟨c,r,rfl,hc⟩
 ·rfl
 ·simp only [twoL];rw [if_neg hc]
theorem two_no_colon {h:UInt8} {s:List UInt8} (e:∀ c∈s.tail,c≠58):twoL h s=none:=by
 cases s with
 | nil=>rfl
 | cons c r =>
   simp only [twoL]
   have key:∀ r:List UInt8,(∀ c∈r,c≠58)->r.dropWhile (fun z=>z != 58)=[]:=by
    intro r
    induction r with
    | nil=>intro _;rfl
    | cons d r ih =>
      intro hr
      have h1:(d != 58)=true:=by simpa using hr d (by simp)
      rw [List.dropWhile_cons,h1,if_pos rfl]
      exact ih (fun x hx=>hr x (by simp [hx]))
   rw [key r e]
   split<;>rfl
theorem tl_split (S:ByteArray) (k:Nat) (h1:1<=k) (hk:k < S.size):tl S=(tl S)[0]'(by rw [tl_length];omega) :: (tl (S.extract 1 k)++(S[k] :: tl (S.extract (k+1) S.size))):=by
 have hl:=tl_length S
 rw [tl_ext,tl_ext,tl_get S k hk]
 have e1:(tl S).take S.size=tl S:=List.take_of_length_le (by omega)
 rw [e1]
 have e2:tl S=(tl S).take k++(tl S).drop k:=(List.take_append_drop _ _).symm
 have e3:(tl S).drop k=(tl S)[k]'(by omega) :: (tl S).drop (k+1):=List.drop_eq_getElem_cons (by omega)
 have e4:(tl S).take k=(tl S)[0]'(by omega) :: ((tl S).take k).drop 1:=by
  have e5:(tl S).take k=((tl S).take k).drop 0:=rfl
  rw [e5,List.drop_eq_getElem_cons (by rw [List.length_take];omega)]
  simp
 refine e2.trans ?_
 rw [e3]
 refine (congrArg (fun z=>z++((tl S)[k]'(by omega) :: (tl S).drop (k+1))) e4).trans ?_
 rfl
theorem sTwo (S:ByteArray) (h:UInt8) (w:World) (hs:S.size<=100000) :
 Calls Tryz.prog 125 #[.string S,.int .u8 h.toNat] w fun e w'=>e=.returned (.tuple #[.int .i64 (twoA h (tl S)),.int .i64 (twoB h (tl S))])/\∃ m,w'=w.drewN m:=by
 have hsl:=tl_length S
 by_cases h0:S.size=0
 ·have hz:((S.size:Int)==0)=true:=by rw [h0];rfl
  have HF:Hid (twoA h (tl S) = -1/\twoB h (tl S) = -1):=two_none (two_no_head (.inl (List.eq_nil_of_length_eq_zero (by omega))))
  clear hsl
  go_enter Tryz.func125,Tryz.ntmps125
  go_wp2
  go_ret2
  exact ⟨ret_two HF.out.1.symm HF.out.2.symm,0,rfl⟩
 ·have hz:((S.size:Int)==0)=false:=beq_eq_false_iff_ne.2 (by omega)
  have hp:0 < S.size:=by omega
  have hpz:(0:Int) < (S.size:Int):=by omega
  by_cases hh:S[0]=h
  ·have HH:Hid (S[0]=h):=hh
   have heq:((S[0].toNat:Int) != (h.toNat:Int))=false:=by rw [hh];simp
   have HSL:Hid ((tl S).length=S.size):=hsl
   clear hsl hh
   go_enter Tryz.func125,Tryz.ntmps125
   go_wp2
   go_loopw [6] (fun i wr=>∃ k:Nat,1<=k/\k<=S.size/\i=.int .i64 k/\wr=w/\∀ c∈((tl S).take k).drop 1,c≠58) (fun i _=>S.size - (intOf i).toNat)
   case atStart=>exact ⟨1,by omega,by omega,rfl,rfl,fun c hc=>by
    rw [List.drop_eq_nil_of_le (by rw [List.length_take];omega)] at hc;cases hc⟩
   case round =>
    obtain ⟨k,hk1,hk,rfl,rfl,hd⟩:=hrel
    have HD:Hid (∀ c∈((tl S).take k).drop 1,c≠58):=hd
    clear hd
    by_cases hlt:k < S.size
    ·have hkz:(k:Int) < (S.size:Int):=by omega
     by_cases hc:S[k]=58
     ·have HSP:Hid (tl S=h :: (tl (S.extract 1 k)++(58 :: tl (S.extract (k+1) S.size)))):=by
       have:=tl_split S k hk1 hlt
       rw [hc] at this
       have e0:(tl S)[0]'(by rw [tl_length];omega)=h:=HH.out
       rw [e0] at this
       exact this
      have HX:Hid (∀ c∈tl (S.extract 1 k),c≠58):=by
       show ∀ _,_
       rw [tl_ext];exact HD.out
      have hcq:((S[k].toNat:Int)==58)=true:=by rw [hc];rfl
      have hz1:(S.extract 1 k).size<=100000:=by rw [ByteArray.size_extract];omega
      have hz2:(S.extract (k+1) S.size).size<=100000:=by rw [ByteArray.size_extract];omega
      clear hc
      go_wp2
      go_quiet ((go_at_call 137;exact Calls.quiet_of_same (sNum _ _ (by first|assumption|omega))))
      have HT:=two_nums HSP.out HX.out
      have hA:=num_range (tl (S.extract 1 k))
      have hB:=num_range (tl (S.extract (k+1) S.size))
      generalize numI (tl (S.extract 1 k))=A at HT hA ⊢
      generalize numI (tl (S.extract (k+1) S.size))=B at HT hB ⊢
      by_cases hA0:A < 0
      ·have HE:Hid (twoA h (tl S) = -1/\twoB h (tl S) = -1):=HT.1 (.inl hA0)
       clear HT
       go_wp2
       go_ret2
       exact ⟨ret_two HE.out.1.symm HE.out.2.symm,nq,rfl⟩
      ·by_cases hB0:B < 0
       ·have HE:Hid (twoA h (tl S) = -1/\twoB h (tl S) = -1):=HT.1 (.inr hB0)
        clear HT
        go_wp2
        go_ret2
        exact ⟨ret_two HE.out.1.symm HE.out.2.symm,nq,rfl⟩
       ·have HE:Hid (twoA h (tl S)=A/\twoB h (tl S)=B):=HT.2 (by omega)
        clear HT
        go_wp2
        go_ret2
        exact ⟨ret_two HE.out.1.symm HE.out.2.symm,nq,rfl⟩
     ·have hcq:((S[k].toNat:Int)==58)=false:=by
       have:S[k].toNat≠58:=fun e=>hc (UInt8.toNat_inj.1 e)
       simp;omega
      have HC:Hid (S[k]≠58):=hc
      clear hc
      go_wp2
      go_roundw
      case rel =>
       refine ⟨k+1,by omega,by omega,by go_num,by trivial,?_⟩
       rw [tl_take S k hlt,List.drop_append_of_le_length (by rw [List.length_take,tl_length];omega)]
       intro c hc
       rcases List.mem_append.1 hc with e|e
       ·exact HD.out c e
       ·have:c=S[k]:=by simpa using e
        rw [this];exact HC.out
      case measure=>simp [intOf];omega
    ·have hkz:¬ (k:Int) < (S.size:Int):=by omega
     have HF:Hid (twoA h (tl S) = -1/\twoB h (tl S) = -1):=by
      refine two_none (two_no_colon ?_)
      have e1:(tl S).take k=tl S:=List.take_of_length_le (by rw [tl_length];omega)
      have:=HD.out
      rw [e1] at this
      rw [<- List.drop_one];exact this
     go_wp2
     go_ret2
     exact ⟨ret_two HF.out.1.symm HF.out.2.symm,0,rfl⟩
  ·have HF:Hid (twoA h (tl S) = -1/\twoB h (tl S) = -1):=by
    refine two_none (two_no_head (.inr ⟨S[0],(tl S).drop 1,?_,hh⟩))
    have:=List.drop_eq_getElem_cons (l:=tl S) (i:=0) (by omega)
    rw [List.drop_zero] at this
    exact this
   have hne:((S[0].toNat:Int) != (h.toNat:Int))=true:=by
    have:S[0].toNat≠h.toNat:=fun e=>hh (UInt8.toNat_inj.1 e)
    simp;omega
   clear hsl hh
   go_enter Tryz.func125,Tryz.ntmps125
   go_wp2
   go_ret2
   exact ⟨ret_two HF.out.1.symm HF.out.2.symm,0,rfl⟩
end Ss1
namespace Mm0
open Go.RowKit
open Nd0 (Kept Ints set_other set_same lt_of_cell)
open Nd6 (Bools)
open Qc0 (Sn Sns)
open Ta1 (tokB)
open Ss1 (tl)
structure Mc where
 row:List Bool
 N:Int
 S:ByteArray
 room:Int
 vals:List Int
 ret:Int
 over:Bool
 steps:Int
 looks:Int
 hits:Int
 memo:List Sn
/-- Its value. -/
abbrev mval (m:Mc) (ra va ma:Option Addr) (rc vc mc:Nat):Value:=.agg #[.slice ra m.row.length rc,.int .i64 m.N,.string m.S,.int .i64 m.room,.slice va m.vals.length vc,.int .i64 m.ret,.bool m.over,.int .i64 m.steps,.int .i64 m.looks,.int .i64 m.hits,.slice ma m.memo.length mc]
/-- It lies in block b. -/
structure Mb (W:World) (b:Nat) (m:Mc) (ra va ma:Option Addr) (rc vc mc:Nat):Prop where
 c0:W.cell? ⟨b,0,none⟩=some (.slice ra m.row.length rc)
 c1:W.cell? ⟨b,1,none⟩=some (.int .i64 m.N)
 c2:W.cell? ⟨b,2,none⟩=some (.string m.S)
 c3:W.cell? ⟨b,3,none⟩=some (.int .i64 m.room)
 c4:W.cell? ⟨b,4,none⟩=some (.slice va m.vals.length vc)
 c5:W.cell? ⟨b,5,none⟩=some (.int .i64 m.ret)
 c6:W.cell? ⟨b,6,none⟩=some (.bool m.over)
 c7:W.cell? ⟨b,7,none⟩=some (.int .i64 m.steps)
 c8:W.cell? ⟨b,8,none⟩=some (.int .i64 m.looks)
 c9:W.cell? ⟨b,9,none⟩=some (.int .i64 m.hits)
 c10:W.cell? ⟨b,10,none⟩=some (.slice ma m.memo.length mc)
theorem Mb.lt {W:World} {b:Nat} {m:Mc} {ra va ma:Option Addr} {rc vc mc:Nat} (h:Mb W b m ra va ma rc vc mc):b < W.heap.size:=World.block_lt_of_cell? _ _ h.c0
theorem Mb.kept {W W':World} {b:Nat} {m:Mc} {ra va ma:Option Addr} {rc vc mc:Nat} (h:Mb W b m ra va ma rc vc mc) {S:Nat->Prop} (k:Kept S W W') (hs:¬ S b):Mb W' b m ra va ma rc vc mc :=
 ⟨by rw [k.cell (p:=⟨b,0,none⟩) h.lt hs];exact h.c0,by rw [k.cell (p:=⟨b,1,none⟩) h.lt hs];exact h.c1,by rw [k.cell (p:=⟨b,2,none⟩) h.lt hs];exact h.c2,by rw [k.cell (p:=⟨b,3,none⟩) h.lt hs];exact h.c3,by rw [k.cell (p:=⟨b,4,none⟩) h.lt hs];exact h.c4,by rw [k.cell (p:=⟨b,5,none⟩) h.lt hs];exact h.c5,by rw [k.cell (p:=⟨b,6,none⟩) h.lt hs];exact h.c6,by rw [k.cell (p:=⟨b,7,none⟩) h.lt hs];exact h.c7,by rw [k.cell (p:=⟨b,8,none⟩) h.lt hs];exact h.c8,by rw [k.cell (p:=⟨b,9,none⟩) h.lt hs];exact h.c9,by rw [k.cell (p:=⟨b,10,none⟩) h.lt hs];exact h.c10⟩
theorem Mb.below {W W':World} {b:Nat} {m:Mc} {ra va ma:Option Addr} {rc vc mc:Nat} (h:Mb W b m ra va ma rc vc mc) (k:Below W.heap.size W W'):Mb W' b m ra va ma rc vc mc:=h.kept (S:=fun _=>False) (Kept.ofBelow k) (fun h=>h)
theorem Mb.alloc {W:World} {b:Nat} {m:Mc} {ra va ma:Option Addr} {rc vc mc:Nat} (h:Mb W b m ra va ma rc vc mc) (o:Obj):Mb (W.alloc o) b m ra va ma rc vc mc:=h.kept (S:=fun _=>False) ((Kept.refl _ _).alloc _) (fun h=>h)
theorem Mb.made (W:World) (m:Mc) (ra va ma:Option Addr) (rc vc mc:Nat) (T:Nat):Mb (W.alloc (.cells #[.slice ra m.row.length rc,.int .i64 m.N,.string m.S,.int .i64 m.room,.slice va m.vals.length vc,.int .i64 m.ret,.bool m.over,.int .i64 m.steps,.int .i64 m.looks,.int .i64 m.hits,.slice ma m.memo.length mc] T)) W.heap.size m ra va ma rc vc mc:=⟨by simp,by simp,by simp,by simp,by simp,by simp,by simp,by simp,by simp,by simp,by simp⟩
/-- What it points to can be read. -/
structure Mr (W:World) (m:Mc) (ra va ma:Option Addr):Prop where
 row:Bools W ra m.row
 vals:Ints W va m.vals
 memo:Sns W ma m.memo
theorem Mr.below {W W':World} {m:Mc} {ra va ma:Option Addr} (h:Mr W m ra va ma) (k:Below W.heap.size W W'):Mr W' m ra va ma:=⟨h.row.below k,h.vals.below k,h.memo.below k⟩
/-- No two keys are alike. -/
def apart (l:List Sn):Prop:=∀ i j (hi:i < l.length) (hj:j < l.length),j < i->l[j].k≠l[i].k
/-- A right machine. -/
structure Mok (m:Mc):Prop where
 tab:tokB m.N (tl m.S)=true
 row:(m.row.length:Int)=m.N
 room:0<=m.room/\m.room<=40
 memo:(m.memo.length:Int)<=m.room
 vals:(m.vals.length:Int)<=m.N
 ret : -1<=m.ret/\m.ret<=1
 over:m.over=true->0<=m.ret/\m.vals.length=0
 steps:0<=m.steps/\m.steps<=1000000000
 looks:0<=m.looks/\m.looks<=1000000000
 hits:0<=m.hits/\m.hits<=1000000000
 bits:∀ x∈m.vals,0<=x/\x<=1
 seen:∀ x∈m.memo,0<=x.r/\x.r<=1
 keys:apart m.memo
end Mm0
end Go.Proofs.YtladjpombohpaaaGreatDoor
