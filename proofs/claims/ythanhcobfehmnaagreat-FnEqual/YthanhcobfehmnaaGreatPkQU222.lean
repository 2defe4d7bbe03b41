import Derived.Deep.RegionWith
import Derived.Test.YthanhcobfehmnaaGreatPkQU214
namespace Go.Proofs.YthanhcobfehmnaaGreat
set_option maxRecDepth 100000
set_option maxHeartbeats 8000000
set_option linter.unusedVariables false
namespace Ss0
open Go.RowKit
open Nd0 Tx0
def bs (l:List UInt8):ByteArray:=⟨l.toArray⟩
theorem bs_size (l:List UInt8):(bs l).size=l.length:=by simp [bs,ByteArray.size]
theorem bs_app (a b:List UInt8):bs a++bs b=bs (a++b):=by
 apply ByteArray.ext
 simp [bs,ByteArray.data_append]
theorem bs_of (s:ByteArray):bs s.data.toList=s:=by cases s;rfl
theorem bs_ext (l:List UInt8) (i j:Nat):(bs l).extract i j=bs ((l.take j).drop i):=by
 apply ByteArray.ext
 simp only [bs,ByteArray.data_extract]
 apply Array.ext'
 simp [List.extract_eq_take_drop,List.drop_take]
theorem ret_str {a b:ByteArray} (h:a=b):Ending.returned (.string a)=.returned (.string b):=by rw [h]
theorem digit_cut (d:Nat) (h:d < 10):(ByteArray.mk #[48,49,50,51,52,53,54,55,56,57]).extract d (d+1)=bs [UInt8.ofNat (48+d)]:=by
 have:d=0\/d=1\/d=2\/d=3\/d=4\/d=5\/d=6\/d=7\/d=8\/d=9:=by omega
 rcases this with h|h|h|h|h|h|h|h|h|h<;>subst h<;>rfl
theorem sDec (n:Nat) (w:World) (h:n < 1000000000) :
 Calls Tryz.prog 97 #[.int .i64 n] w fun e w'=>e=.returned (.string (bs (dec n)))/\w'=w:=by
 by_cases h0:n=0
 ·subst h0
  go_enter Tryz.func97,Tryz.ntmps97
  go_wp2
  go_ret
  exact ⟨rfl,rfl⟩
 ·have hz:¬ (n:Int)=0:=by omega
  go_enter Tryz.func97,Tryz.ntmps97
  go_wp2
  go_loop [3,4] (fun o m=>∃ (k:Nat) (s:List UInt8),k<=n/\m=.int .i64 k/\o=.string (bs s)/\digs n=digs k++s/\s.length+(digs k).length<=9) (fun _ m=>(intOf m).toNat)
  case atStart=>exact ⟨n,[],Nat.le_refl _,rfl,rfl,by simp,by have:=digs_len 9 n h;simpa using this⟩
  case round =>
   obtain ⟨k,s,hk,rfl,rfl,hd,hl⟩:=hrel
   have HD:Hid (digs n=digs k++s):=hd
   clear hd
   by_cases hk0:k=0
   ·subst hk0
    have HE:Hid (bs s=bs (dec n)):=by
     show _=_
     unfold dec
     rw [if_neg h0,HD.out,digs_zero];rfl
    have hnn:¬ (n:Int) < 0:=by omega
    go_wp2
    go_ret
    exact ⟨ret_str HE.out,rfl⟩
   ·have hkz:¬ (k:Int)=0:=by omega
    have hr1:0<=(k:Int) % 10:=by omega
    have hr2:(k:Int) % 10 < 10:=by omega
    have hr3:¬ (k:Int) % 10 < 0:=by omega
    have hss:(bs s).size<=9:=by rw [bs_size];omega
    have hp:=digs_pos (n:=k) (by omega)
    have HN:Hid (digs n=digs (k / 10)++(UInt8.ofNat (48+k % 10) :: s)):=by
     show _=_
     rw [HD.out,hp];simp
    have HL:Hid ((UInt8.ofNat (48+k % 10) :: s).length+(digs (k / 10)).length<=9):=by
     show _<=_
     rw [hp] at hl
     simp at hl ⊢;omega
    clear hp
    go_wp2
    go_round
    case rel=>exact ⟨k / 10,UInt8.ofNat (48+k % 10) :: s,by omega,by go_num,by rw [digit_cut _ (by omega),bs_app];rfl,HN.out,HL.out⟩
    case measure=>simp [intOf];omega
end Ss0
namespace Ss1
open Go.RowKit
open Nd0 Tx0 Ss0
open Ws1 (sIn ret_int)
def tl (S:ByteArray):List UInt8:=S.data.toList
theorem tl_bs (l:List UInt8):tl (bs l)=l:=by simp [tl,bs]
theorem bs_tl (S:ByteArray):bs (tl S)=S:=bs_of S
theorem tl_length (S:ByteArray):(tl S).length=S.size:=by unfold tl ByteArray.size;exact Array.length_toList
theorem tl_get (S:ByteArray) (k:Nat) (h:k < S.size):S[k]=(tl S)[k]'(by rw [tl_length];exact h):=rfl
theorem tl_ext (S:ByteArray) (i j:Nat):tl (S.extract i j)=((tl S).take j).drop i:=by
 have:=bs_ext (tl S) i j
 rw [bs_tl] at this
 rw [this,tl_bs]
theorem tl_take (S:ByteArray) (k:Nat) (h:k < S.size):(tl S).take (k+1)=(tl S).take k++[S[k]]:=by
 rw [List.take_succ_eq_append_getElem (by rw [tl_length];exact h)];rfl
theorem eqb (S T:ByteArray):(S.toList==T.toList)=decide (tl S=tl T):=by
 rw [ByteArray.toList_eq,ByteArray.toList_eq,Bool.eq_iff_iff]
 simp [tl]
theorem eqb_false {S T:ByteArray} (h:tl S≠tl T):(S.toList==T.toList)=false:=by rw [eqb];exact decide_eq_false h
theorem eqb_true {S T:ByteArray} (h:tl S=tl T):(S.toList==T.toList)=true:=by rw [eqb];exact decide_eq_true h
theorem eql_false {S:ByteArray} {l:List UInt8} (h:tl S≠l):(S.toList==l)=false:=by
 rw [ByteArray.toList_eq]
 exact beq_eq_false_iff_ne.2 h
theorem eql_true {S:ByteArray} {l:List UInt8} (h:tl S=l):(S.toList==l)=true:=by
 rw [ByteArray.toList_eq]
 exact beq_iff_eq.2 h
def numI (s:List UInt8):Int:=match numL s with
 | some n=>(n:Int)
 | none => -1
theorem num_bad_len {s:List UInt8} (h:s.length=0\/9 < s.length):numI s = -1:=by unfold numI numL;rw [if_pos h]
theorem num_bad_dig {s:List UInt8} (c:UInt8) (hc:c∈s) (h:isDig c=false):numI s = -1:=by
 have:s.all isDig=false:=by rw [List.all_eq_false];exact ⟨c,hc,by simp [h]⟩
 unfold numI numL
 by_cases hl:s.length=0\/9 < s.length
 ·rw [if_pos hl]
 ·rw [if_neg hl,this];rfl
theorem num_end {s:List UInt8} (hl:¬ (s.length=0\/9 < s.length)) (ha:∀ c∈s,isDig c=true):numI s=if dec (valL s)=s then (valL s:Int) else -1:=by
 unfold numI numL
 rw [if_neg hl,if_pos (List.all_eq_true.2 ha)]
 by_cases h:dec (valL s)=s
 ·rw [if_pos h,if_pos h]
 ·rw [if_neg h,if_neg h]
theorem sNum (S:ByteArray) (w:World) (hs:S.size<=100000) :
 Calls Tryz.prog 123 #[.string S] w fun e w'=>e=.returned (.int .i64 (numI (tl S)))/\w'=w:=by
 have hsl:=tl_length S
 by_cases hl:(tl S).length=0\/9 < (tl S).length
 ·have HF:Hid (numI (tl S) = -1):=num_bad_len hl
  by_cases h0:S.size=0
  ·have hz:((S.size:Int)==0)=true:=by rw [h0];rfl
   clear hl hsl
   go_enter Tryz.func123,Tryz.ntmps123
   go_wp2
   go_ret
   exact ⟨ret_int HF.out.symm,rfl⟩
  ·have hz:((S.size:Int)==0)=false:=beq_eq_false_iff_ne.2 (by omega)
   have h9:9 < (S.size:Int):=by omega
   clear hl hsl
   go_enter Tryz.func123,Tryz.ntmps123
   go_wp2
   go_ret
   exact ⟨ret_int HF.out.symm,rfl⟩
 ·have HL:Hid (¬ ((tl S).length=0\/9 < (tl S).length)):=hl
  have hz:((S.size:Int)==0)=false:=beq_eq_false_iff_ne.2 (by omega)
  have h9:¬ 9 < (S.size:Int):=by omega
  have HSL:Hid ((tl S).length=S.size):=hsl
  clear hl hsl
  go_enter Tryz.func123,Tryz.ntmps123
  go_wp2
  go_loop [3,4] (fun n i=>∃ k:Nat,k<=S.size/\i=.int .i64 k/\n=.int .i64 (valL ((tl S).take k))/\∀ c∈(tl S).take k,isDig c=true) (fun _ i=>S.size - (intOf i).toNat)
  case atStart=>exact ⟨0,Nat.zero_le _,rfl,rfl,fun c hc=>by simp at hc⟩
  case round =>
   obtain ⟨k,hk,rfl,rfl,hd⟩:=hrel
   have HD:Hid (∀ c∈(tl S).take k,isDig c=true):=hd
   have hv:valL ((tl S).take k) < 1000000000:=by
    have h1:=val_lt _ hd
    have h2:((tl S).take k).length<=9:=by rw [List.length_take];have:=HL.out;omega
    exact Nat.lt_of_lt_of_le h1 (Nat.le_trans (Nat.pow_le_pow_right (by omega) h2) (by decide))
   clear hd
   by_cases hlt:k < S.size
   ·have hkz:(k:Int) < (S.size:Int):=by omega
    have HT:Hid ((tl S).take (k+1)=(tl S).take k++[S[k]]):=tl_take S k hlt
    have HM:Hid (S[k]∈tl S):=by
     show _∈_
     rw [tl_get S k hlt];exact List.getElem_mem _
    generalize hV:valL ((tl S).take k)=V at hv
    have HV:Hid (valL ((tl S).take k)=V):=hV
    clear hV
    have hc8:=S[k].toNat_lt
    cases hdg:isDig S[k]
    ·have HF:Hid (numI (tl S) = -1):=num_bad_dig S[k] HM.out hdg
     have hb:decide (48<=(S[k].toNat:Int)/\(S[k].toNat:Int)<=57)=false:=by
      unfold isDig at hdg;simp at hdg ⊢;omega
     go_wp2_with (go_at_call 41;refine (sIn _ _ _ _).mono ?_;rintro e w' ⟨rfl,rfl⟩;rw [hb])
     go_ret
     exact ⟨ret_int HF.out.symm,rfl⟩
    ·have hb:decide (48<=(S[k].toNat:Int)/\(S[k].toNat:Int)<=57)=true:=by
      unfold isDig at hdg;simp at hdg ⊢;omega
     have hcr:48<=S[k].toNat/\S[k].toNat<=57:=by unfold isDig at hdg;simpa using hdg
     have HDG:Hid (isDig S[k]=true):=hdg
     clear hdg
     go_wp2_with (go_at_call 41;refine (sIn _ _ _ _).mono ?_;rintro e w' ⟨rfl,rfl⟩;rw [hb])
     go_round
     case rel =>
      refine ⟨k+1,by omega,by go_num,?_,?_⟩
      ·rw [HT.out,valL_snoc,HV.out]
       congr 1
       omega
      ·rw [HT.out]
       intro c hc
       rcases List.mem_append.1 hc with h|h
       ·exact HD.out c h
       ·have:c=S[k]:=by simpa using h
        rw [this];exact HDG.out
     case measure=>simp [intOf];omega
   ·have hkz:¬ (k:Int) < (S.size:Int):=by omega
    have ht:(tl S).take k=tl S:=List.take_of_length_le (by have:=HSL.out;omega)
    rw [ht] at hv ⊢
    have HE:Hid (numI (tl S)=if dec (valL (tl S))=tl S then (valL (tl S):Int) else -1):=by
     have:=HD.out
     rw [ht] at this
     exact num_end HL.out this
    clear ht
    generalize hV:valL (tl S)=V at hv HE
    clear hV
    by_cases he:dec V=tl S
    ·have hq:bs (dec V)=S:=by rw [he,bs_tl]
     have HE2:Hid (numI (tl S)=(V:Int)):=by show _=_;rw [HE.out,if_pos he]
     clear he
     go_wp2_with (go_at_call 97;refine (sDec V _ hv).mono ?_;rintro e w' ⟨rfl,rfl⟩;rw [hq])
     go_ret
     exact ⟨ret_int HE2.out.symm,rfl⟩
    ·have hq:((bs (dec V)).toList==S.toList)=false:=eqb_false (by rw [tl_bs];exact he)
     have HE2:Hid (numI (tl S) = -1):=by show _=_;rw [HE.out,if_neg he]
     clear he
     go_wp2_with (go_at_call 97;refine (sDec V _ hv).mono ?_;rintro e w' ⟨rfl,rfl⟩)
     go_ret
     exact ⟨ret_int HE2.out.symm,rfl⟩
theorem span_at (x y:List UInt8) (hx:∀ c∈x,c≠58):(x++(58 :: y)).takeWhile (fun z=>z != 58)=x/\(x++(58 :: y)).dropWhile (fun z=>z != 58)=58 :: y:=by
 induction x with
 | nil=>exact ⟨rfl,rfl⟩
 | cons c x ih =>
   have h1:(c != 58)=true:=by simpa using hx c (by simp)
   have h2:=ih (fun d hd=>hx d (by simp [hd]))
   rw [List.cons_append,List.takeWhile_cons,List.dropWhile_cons,h1,if_pos rfl,if_pos rfl,h2.1,h2.2]
   exact ⟨rfl,rfl⟩
theorem ret_two {k:IntKind} {a b c d:Int} (h:a=c) (h2:b=d):Ending.returned (.tuple #[.int k a,.int k b])=.returned (.tuple #[.int k c,.int k d]):=by rw [h,h2]
def twoA (h:UInt8) (s:List UInt8):Int:=match twoL h s with
 | some (a,_)=>(a:Int)
 | none => -1
def twoB (h:UInt8) (s:List UInt8):Int:=match twoL h s with
 | some (_,b)=>(b:Int)
 | none => -1
theorem two_none {h:UInt8} {s:List UInt8} (e:twoL h s=none):twoA h s = -1/\twoB h s = -1:=by
 unfold twoA twoB;rw [e];exact ⟨rfl,rfl⟩
theorem two_split (h:UInt8) (x y:List UInt8) (hx:∀ c∈x,c≠58):twoL h (h :: (x++(58 :: y)))=match numL x,numL y with
 | some a,some b=>some (a,b)
 | _,_=>none:=by
 obtain ⟨k1,k2⟩:=span_at x y hx
 simp only [twoL,↓reduceIte]
 rw [k1,k2]
 rfl
theorem two_nums {h:UInt8} {s x y:List UInt8} (hs:s=h :: (x++(58 :: y))) (hx:∀ c∈x,c≠58):(numI x < 0\/numI y < 0->twoA h s = -1/\twoB h s = -1)/\(¬ (numI x < 0\/numI y < 0)->twoA h s=numI x/\twoB h s=numI y):=by
 subst hs
 unfold twoA twoB numI
 rw [two_split h x y hx]
 cases numL x with
 | none=>simp
 | some a =>
   cases numL y with
   | none=>simp
   | some b=>simp
theorem num_range (s:List UInt8) : -1<=numI s/\numI s<=1000000000:=by
 unfold numI
 cases h:numL s with
 | none=>simp
 | some n =>
   have:=(num_some h).2.1
   simp only;omega
theorem two_no_head {h:UInt8} {s:List UInt8} (e:s=[]\/∃ c r,s=c :: r/\c≠h):twoL h s=none:=by
 rcases e with rfl|⟨c,r,rfl,hc⟩
 ·rfl
 ·simp only [twoL];rw [if_neg hc]
theorem two_no_colon {h:UInt8} {s:List UInt8} (e:∀ c∈s.tail,c≠58):twoL h s=none:=by
 cases s with
 | nil=>rfl
 | cons c r =>
   simp only [twoL]
   have key:∀ r:List UInt8,(∀ c∈r,c≠58)->r.dropWhile (fun z=>z != 58)=[]:=by
    intro r
    induction r with
    | nil=>intro _;rfl
    | cons d r ih =>
      intro hr
      have h1:(d != 58)=true:=by simpa using hr d (by simp)
      rw [List.dropWhile_cons,h1,if_pos rfl]
      exact ih (fun x hx=>hr x (by simp [hx]))
   rw [key r e]
   split<;>rfl
theorem tl_split (S:ByteArray) (k:Nat) (h1:1<=k) (hk:k < S.size):tl S=(tl S)[0]'(by rw [tl_length];omega) :: (tl (S.extract 1 k)++(S[k] :: tl (S.extract (k+1) S.size))):=by
 have hl:=tl_length S
 rw [tl_ext,tl_ext,tl_get S k hk]
 have e1:(tl S).take S.size=tl S:=List.take_of_length_le (by omega)
 rw [e1]
 have e2:tl S=(tl S).take k++(tl S).drop k:=(List.take_append_drop _ _).symm
 have e3:(tl S).drop k=(tl S)[k]'(by omega) :: (tl S).drop (k+1):=List.drop_eq_getElem_cons (by omega)
 have e4:(tl S).take k=(tl S)[0]'(by omega) :: ((tl S).take k).drop 1:=by
  have e5:(tl S).take k=((tl S).take k).drop 0:=rfl
  rw [e5,List.drop_eq_getElem_cons (by rw [List.length_take];omega)]
  simp
 refine e2.trans ?_
 rw [e3]
 refine (congrArg (fun z=>z++((tl S)[k]'(by omega) :: (tl S).drop (k+1))) e4).trans ?_
 rfl
theorem sTwo (S:ByteArray) (h:UInt8) (w:World) (hs:S.size<=100000) :
 Calls Tryz.prog 101 #[.string S,.int .u8 h.toNat] w fun e w'=>e=.returned (.tuple #[.int .i64 (twoA h (tl S)),.int .i64 (twoB h (tl S))])/\∃ m,w'=w.drewN m:=by
 have hsl:=tl_length S
 by_cases h0:S.size=0
 ·have hz:((S.size:Int)==0)=true:=by rw [h0];rfl
  have HF:Hid (twoA h (tl S) = -1/\twoB h (tl S) = -1):=two_none (two_no_head (.inl (List.eq_nil_of_length_eq_zero (by omega))))
  clear hsl
  go_enter Tryz.func101,Tryz.ntmps101
  go_wp2
  go_ret2
  exact ⟨ret_two HF.out.1.symm HF.out.2.symm,0,rfl⟩
 ·have hz:((S.size:Int)==0)=false:=beq_eq_false_iff_ne.2 (by omega)
  have hp:0 < S.size:=by omega
  have hpz:(0:Int) < (S.size:Int):=by omega
  by_cases hh:S[0]=h
  ·have HH:Hid (S[0]=h):=hh
   have heq:((S[0].toNat:Int) != (h.toNat:Int))=false:=by rw [hh];simp
   have HSL:Hid ((tl S).length=S.size):=hsl
   clear hsl hh
   go_enter Tryz.func101,Tryz.ntmps101
   go_wp2
   go_loopw [6] (fun i wr=>∃ k:Nat,1<=k/\k<=S.size/\i=.int .i64 k/\wr=w/\∀ c∈((tl S).take k).drop 1,c≠58) (fun i _=>S.size - (intOf i).toNat)
   case atStart=>exact ⟨1,by omega,by omega,rfl,rfl,fun c hc=>by
    rw [List.drop_eq_nil_of_le (by rw [List.length_take];omega)] at hc;cases hc⟩
   case round =>
    obtain ⟨k,hk1,hk,rfl,rfl,hd⟩:=hrel
    have HD:Hid (∀ c∈((tl S).take k).drop 1,c≠58):=hd
    clear hd
    by_cases hlt:k < S.size
    ·have hkz:(k:Int) < (S.size:Int):=by omega
     by_cases hc:S[k]=58
     ·have HSP:Hid (tl S=h :: (tl (S.extract 1 k)++(58 :: tl (S.extract (k+1) S.size)))):=by
       have:=tl_split S k hk1 hlt
       rw [hc] at this
       have e0:(tl S)[0]'(by rw [tl_length];omega)=h:=HH.out
       rw [e0] at this
       exact this
      have HX:Hid (∀ c∈tl (S.extract 1 k),c≠58):=by
       show ∀ _,_
       rw [tl_ext];exact HD.out
      have hcq:((S[k].toNat:Int)==58)=true:=by rw [hc];rfl
      have hz1:(S.extract 1 k).size<=100000:=by rw [ByteArray.size_extract];omega
      have hz2:(S.extract (k+1) S.size).size<=100000:=by rw [ByteArray.size_extract];omega
      clear hc
      go_wp2
      go_quiet ((go_at_call 123;exact Calls.quiet_of_same (sNum _ _ (by first|assumption|omega))))
      have HT:=two_nums HSP.out HX.out
      have hA:=num_range (tl (S.extract 1 k))
      have hB:=num_range (tl (S.extract (k+1) S.size))
      generalize numI (tl (S.extract 1 k))=A at HT hA ⊢
      generalize numI (tl (S.extract (k+1) S.size))=B at HT hB ⊢
      by_cases hA0:A < 0
      ·have HE:Hid (twoA h (tl S) = -1/\twoB h (tl S) = -1):=HT.1 (.inl hA0)
       clear HT
       go_wp2
       go_ret2
       exact ⟨ret_two HE.out.1.symm HE.out.2.symm,nq,rfl⟩
      ·by_cases hB0:B < 0
       ·have HE:Hid (twoA h (tl S) = -1/\twoB h (tl S) = -1):=HT.1 (.inr hB0)
        clear HT
        go_wp2
        go_ret2
        exact ⟨ret_two HE.out.1.symm HE.out.2.symm,nq,rfl⟩
       ·have HE:Hid (twoA h (tl S)=A/\twoB h (tl S)=B):=HT.2 (by omega)
        clear HT
        go_wp2
        go_ret2
        exact ⟨ret_two HE.out.1.symm HE.out.2.symm,nq,rfl⟩
     ·have hcq:((S[k].toNat:Int)==58)=false:=by
       have:S[k].toNat≠58:=fun e=>hc (UInt8.toNat_inj.1 e)
       simp;omega
      have HC:Hid (S[k]≠58):=hc
      clear hc
      go_wp2
      go_roundw
      case rel =>
       refine ⟨k+1,by omega,by omega,by go_num,by trivial,?_⟩
       rw [tl_take S k hlt,List.drop_append_of_le_length (by rw [List.length_take,tl_length];omega)]
       intro c hc
       rcases List.mem_append.1 hc with e|e
       ·exact HD.out c e
       ·have:c=S[k]:=by simpa using e
        rw [this];exact HC.out
      case measure=>simp [intOf];omega
    ·have hkz:¬ (k:Int) < (S.size:Int):=by omega
     have HF:Hid (twoA h (tl S) = -1/\twoB h (tl S) = -1):=by
      refine two_none (two_no_colon ?_)
      have e1:(tl S).take k=tl S:=List.take_of_length_le (by rw [tl_length];omega)
      have:=HD.out
      rw [e1] at this
      rw [<- List.drop_one];exact this
     go_wp2
     go_ret2
     exact ⟨ret_two HF.out.1.symm HF.out.2.symm,0,rfl⟩
  ·have HF:Hid (twoA h (tl S) = -1/\twoB h (tl S) = -1):=by
    refine two_none (two_no_head (.inr ⟨S[0],(tl S).drop 1,?_,hh⟩))
    have:=List.drop_eq_getElem_cons (l:=tl S) (i:=0) (by omega)
    rw [List.drop_zero] at this
    exact this
   have hne:((S[0].toNat:Int) != (h.toNat:Int))=true:=by
    have:S[0].toNat≠h.toNat:=fun e=>hh (UInt8.toNat_inj.1 e)
    simp;omega
   clear hsl hh
   go_enter Tryz.func101,Tryz.ntmps101
   go_wp2
   go_ret2
   exact ⟨ret_two HF.out.1.symm HF.out.2.symm,0,rfl⟩
end Ss1
namespace Ss2
open Go.RowKit
open Nd0 Tx0 Ss0 Ss1
open Ws1 (ret_int)
def Strs (w:World) (a:Option Addr) (ts:List (List UInt8)):Prop :=
 ts.length<=maxLen/\(ts.length=0\/∃ b o,a=some ⟨b,o,none⟩/\∀ i (h:i < ts.length),w.cell? ⟨b,o+i,none⟩=some (.string (bs ts[i])))
theorem Strs.below {w w':World} {a:Option Addr} {l:List (List UInt8)} (h:Strs w a l) (k:Below w.heap.size w w'):Strs w' a l:=by
 refine ⟨h.1,?_⟩
 rcases h.2 with h0|⟨b,o,rfl,hc⟩
 ·exact .inl h0
 ·exact .inr ⟨b,o,rfl,fun i hi=>by rw [k.cell (lt_of_cell (hc i hi))];exact hc i hi⟩
theorem strs_lit (W:World) (g:Nat) (l:List (List UInt8)) (T:Nat) (hg:g=W.heap.size) (hl:l.length<=maxLen):Strs (W.alloc (.cells (l.map fun x=>.string (bs x)).toArray T)) (some ⟨g,0,none⟩) l:=by
 subst hg
 refine ⟨hl,.inr ⟨W.heap.size,0,rfl,fun i hi=>?_⟩⟩
 rw [World.cell?_alloc_new]
 simp [hi]
theorem find_range {p:Nat->Bool}:∀ n k,k < n->p k=true->(∀ j,j < k->p j=false)->(List.range n).find? p=some k:=by
 intro n
 induction n with
 | zero=>intro k h;omega
 | succ n ih =>
   intro k hk hp hb
   rw [List.range_succ,List.find?_append]
   by_cases e:k < n
   ·rw [ih k e hp hb];rfl
   ·have ek:k=n:=by omega
    subst ek
    have:(List.range k).find? p=none:=by
     rw [List.find?_eq_none]
     intro x hx
     rw [hb x (List.mem_range.1 hx)];simp
    rw [this]
    simp [hp]
def opA (s:List UInt8):Int:=match opOf s with
 | some (o,_)=>o
 | none => -1
def opC (s:List UInt8):Int:=match opOf s with
 | some (_,c)=>(c:Int)
 | none=>0
theorem op_found {s:List UInt8} {k:Nat} (hk:k < 14) (hb:∀ j,j < k->wordsL.getD j []≠s) (he:wordsL.getD k []=s):opA s=3+(k:Int)/\opC s=2:=by
 have:opOf s=some (3+(k:Int),2):=by
  unfold opOf
  rw [find_range 14 k hk (decide_eq_true he) (fun j hj=>decide_eq_false (hb j hj))]
 unfold opA opC
 rw [this];exact ⟨rfl,rfl⟩
theorem op_rest {s:List UInt8} (hb:∀ j,j < 14->wordsL.getD j []≠s):opOf s=if s=wNot then some (2,1) else if s=wSlice then some (17,1) else if s=wIf then some (18,3) else if s=wAll then some (19,1) else if s=wSome then some (20,1) else none:=by
 unfold opOf
 have:(List.range 14).find? (fun i=>decide (wordsL.getD i []=s))=none:=by
  rw [List.find?_eq_none]
  intro x hx
  simpa using hb x (List.mem_range.1 hx)
 rw [this]
theorem sWords (w:World):Calls Tryz.prog 98 #[] w fun e w'=>(∃ b,e=.returned (.slice (some ⟨b,0,none⟩) 14 14)/\Strs w' (some ⟨b,0,none⟩) wordsL)/\Below w.heap.size w w':=by
 go_enter Tryz.func98,Tryz.ntmps98
 go_wp2
 go_ret
 exact ⟨⟨w.heap.size,rfl,strs_lit w _ wordsL 9 rfl (by decide)⟩,(Below.refl _ _).alloc (Nat.le_refl _) _⟩
theorem sOp (S:ByteArray) (w:World) :
 Calls Tryz.prog 121 #[.string S] w fun e w'=>e=.returned (.tuple #[.int .i64 (opA (tl S)),.int .i64 (opC (tl S))])/\Below w.heap.size w w':=by
 go_enter Tryz.func121,Tryz.ntmps121
 go_wp2_with fail
 refine (sWords _).mono ?_
 rintro e w1 ⟨⟨b,rfl,hst⟩,hb1⟩
 have HS:Hid (Strs w1 (some ⟨b,0,none⟩) wordsL):=hst
 have HB:Hid (Below w.heap.size w w1):=hb1
 clear hst hb1
 go_wp2
 go_loop [5] (fun i=>∃ k:Nat,k<=14/\i=.int .i64 k/\∀ j,j < k->wordsL.getD j []≠tl S) (fun i=>14 - (intOf i).toNat)
 case atStart=>exact ⟨0,Nat.zero_le _,rfl,fun j hj=>by omega⟩
 case round =>
  obtain ⟨k,hk,rfl,hd⟩:=hrel
  have HD:Hid (∀ j,j < k->wordsL.getD j []≠tl S):=hd
  clear hd
  by_cases hlt:k < 14
  ·have hkz:(k:Int) < 14:=by omega
   rcases HS.out.2 with h0|⟨b',o',he,hc⟩
   ·exact absurd h0 (by decide)
   cases he
   have q0:=hc k hlt
   rw [Nat.zero_add] at q0
   clear hc
   have hge:wordsL[k]'(show k < 14 from hlt)=wordsL.getD k []:=by
    rw [List.getD_eq_getElem?_getD,List.getElem?_eq_getElem (show k < wordsL.length from hlt)];rfl
   rw [hge] at q0
   clear hge
   generalize hX:wordsL.getD k []=X at q0
   have HX:Hid (wordsL.getD k []=X):=hX
   clear hX
   by_cases hq:X=tl S
   ·have HF:Hid (opA (tl S)=3+(k:Int)/\opC (tl S)=2):=op_found hlt HD.out (HX.out.trans hq)
    have hqb:((bs X).toList==S.toList)=true:=eqb_true (by rw [tl_bs];exact hq)
    clear hq
    go_wp2
    go_ret2
    exact ⟨ret_two HF.out.1.symm HF.out.2.symm,HB.out⟩
   ·have hqb:((bs X).toList==S.toList)=false:=eqb_false (by rw [tl_bs];exact hq)
    have HQ:Hid (wordsL.getD k []≠tl S):=by show _≠_;rw [HX.out];exact hq
    clear hq
    go_wp2
    go_round
    case rel =>
     refine ⟨k+1,by omega,by go_num,fun j hj=>?_⟩
     by_cases e:j < k
     ·exact HD.out j e
     ·have:j=k:=by omega
      rw [this];exact HQ.out
    case measure=>simp [intOf];omega
  ·have hkz:¬ (k:Int) < 14:=by omega
   have HO:=op_rest (s:=tl S) (fun j hj=>HD.out j (by omega))
   clear HD
   by_cases e1:tl S=wNot
   ·have HF:Hid (opA (tl S)=2/\opC (tl S)=1):=by show _/\_;unfold opA opC;rw [HO,if_pos e1];exact ⟨rfl,rfl⟩
    have hq:(S.toList==[110,111,116])=true:=eql_true e1
    clear HO e1
    go_wp2
    go_ret2
    exact ⟨ret_two HF.out.1.symm HF.out.2.symm,HB.out⟩
   rw [if_neg e1] at HO
   have hq1:(S.toList==[110,111,116])=false:=eql_false e1
   clear e1
   by_cases e2:tl S=wSlice
   ·have HF:Hid (opA (tl S)=17/\opC (tl S)=1):=by show _/\_;unfold opA opC;rw [HO,if_pos e2];exact ⟨rfl,rfl⟩
    have hq:(S.toList==[115,108,105,99,101])=true:=eql_true e2
    clear HO e2
    go_wp2
    go_ret2
    exact ⟨ret_two HF.out.1.symm HF.out.2.symm,HB.out⟩
   rw [if_neg e2] at HO
   have hq2:(S.toList==[115,108,105,99,101])=false:=eql_false e2
   clear e2
   by_cases e3:tl S=wIf
   ·have HF:Hid (opA (tl S)=18/\opC (tl S)=3):=by show _/\_;unfold opA opC;rw [HO,if_pos e3];exact ⟨rfl,rfl⟩
    have hq:(S.toList==[105,102])=true:=eql_true e3
    clear HO e3
    go_wp2
    go_ret2
    exact ⟨ret_two HF.out.1.symm HF.out.2.symm,HB.out⟩
   rw [if_neg e3] at HO
   have hq3:(S.toList==[105,102])=false:=eql_false e3
   clear e3
   by_cases e4:tl S=wAll
   ·have HF:Hid (opA (tl S)=19/\opC (tl S)=1):=by show _/\_;unfold opA opC;rw [HO,if_pos e4];exact ⟨rfl,rfl⟩
    have hq:(S.toList==[97,108,108])=true:=eql_true e4
    clear HO e4
    go_wp2
    go_ret2
    exact ⟨ret_two HF.out.1.symm HF.out.2.symm,HB.out⟩
   rw [if_neg e4] at HO
   have hq4:(S.toList==[97,108,108])=false:=eql_false e4
   clear e4
   by_cases e5:tl S=wSome
   ·have HF:Hid (opA (tl S)=20/\opC (tl S)=1):=by show _/\_;unfold opA opC;rw [HO,if_pos e5];exact ⟨rfl,rfl⟩
    have hq:(S.toList==[115,111,109,101])=true:=eql_true e5
    clear HO e5
    go_wp2
    go_ret2
    exact ⟨ret_two HF.out.1.symm HF.out.2.symm,HB.out⟩
   rw [if_neg e5] at HO
   have hq5:(S.toList==[115,111,109,101])=false:=eql_false e5
   have HF:Hid (opA (tl S) = -1/\opC (tl S)=0):=by show _/\_;unfold opA opC;rw [HO];exact ⟨rfl,rfl⟩
   clear HO e5
   go_wp2
   go_ret2
   exact ⟨ret_two HF.out.1.symm HF.out.2.symm,HB.out⟩
end Ss2
end Go.Proofs.YthanhcobfehmnaaGreat
