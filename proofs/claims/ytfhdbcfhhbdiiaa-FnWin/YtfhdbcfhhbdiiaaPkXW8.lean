import Derived.Test.YtfhdbcfhhbdiiaaRows
import Derived.WalkSpells
import Derived.WalkLawsBesides
import Derived.Deep.RegionWith
import Derived.Test.YtfhdbcfhhbdiiaaTx0
namespace Go.Proofs.Ytfhdbcfhhbdiiaa
set_option maxRecDepth 100000
set_option maxHeartbeats 8000000
set_option linter.unusedVariables false
namespace Ss0
open Go.RowKit
open Nd0 Tx0
/-- Bytes as a string. -/
def bs (l:List UInt8):ByteArray:=⟨l.toArray⟩
theorem bs_size (l:List UInt8):(bs l).size=l.length:=by simp [bs,ByteArray.size]
theorem bs_app (a b:List UInt8):bs a++bs b=bs (a++b):=by
 apply ByteArray.ext
 simp [bs,ByteArray.data_append]
theorem bs_of (s:ByteArray):bs s.data.toList=s:=by cases s;rfl
theorem bs_inj {a b:List UInt8} (h:bs a=bs b):a=b:=by
 have:=congrArg (fun s=>s.data.toList) h
 simpa [bs] using this
theorem bs_ext (l:List UInt8) (i j:Nat):(bs l).extract i j=bs ((l.take j).drop i):=by
 apply ByteArray.ext
 simp only [bs,ByteArray.data_extract]
 apply Array.ext'
 simp [List.extract_eq_take_drop,List.drop_take]
theorem ret_str {a b:ByteArray} (h:a=b):Ending.returned (.string a)=.returned (.string b):=by rw [h]
theorem digit_cut (d:Nat) (h:d < 10):(ByteArray.mk #[48,49,50,51,52,53,54,55,56,57]).extract d (d+1)=bs [UInt8.ofNat (48+d)]:=by
 have:d=0\/d=1\/d=2\/d=3\/d=4\/d=5\/d=6\/d=7\/d=8\/d=9:=by omega
 rcases this with h|h|h|h|h|h|h|h|h|h<;>subst h<;>rfl
end Ss0
namespace Ws1
open Go.RowKit
open Pl1
theorem ret_int {k:IntKind} {a b:Int} (h:a=b):Ending.returned (.int k a)=.returned (.int k b):=by rw [h]
theorem ret_bool {a b:Bool} (h:a=b):Ending.returned (.bool a)=.returned (.bool b):=by rw [h]
theorem spow (m:Int) (w:World) (h0:0<=m) (h1:m<=8) :
 Calls Try.prog 51 #[.int .i64 m] w fun e w'=>e=.returned (.int .i64 (p2 m.toNat))/\w'=w:=by
 obtain ⟨n,rfl⟩:=Int.eq_ofNat_of_zero_le h0
 rw [Int.toNat_natCast]
 go_enter Try.func51,Try.ntmps51
 go_wp2
 go_loop [3,4] (fun x i=>∃ k:Nat,k<=n/\i=.int .i64 k/\x=.int .i64 (p2 k)) (fun _ i=>n - (intOf i).toNat)
 case atStart=>exact ⟨0,Nat.zero_le _,rfl,rfl⟩
 case round =>
  obtain ⟨k,hk,rfl,rfl⟩:=hrel
  have hp:=p2_pos k
  have hl:=p2_le k (by omega)
  by_cases hlt:k < n
  ·go_wp2
   go_round
   case rel=>exact ⟨k+1,by omega,by go_num,by rw [p2_succ]⟩
   case measure=>simp [intOf];omega
  ·go_wp2
   go_ret
   have:k=n:=by omega
   subst this
   exact ⟨rfl,rfl⟩
theorem sIn (x a b:Int) (w:World) :
 Calls Try.prog 44 #[.int .i64 x,.int .i64 a,.int .i64 b] w fun e w'=>e=.returned (.bool (decide (a<=x/\x<=b)))/\w'=w:=by
 by_cases h1:a<=x<;>by_cases h2:x<=b
 all_goals
  go_enter Try.func44,Try.ntmps44
  go_wp2
  go_ret
  exact ⟨ret_bool (by simp<;>omega),rfl⟩
end Ws1
namespace Ss1
open Go.RowKit
open Nd0 Tx0 Ss0
open Ws1 (sIn ret_int)
/-- The bytes of a string. -/
def tl (S:ByteArray):List UInt8:=S.data.toList
theorem tl_bs (l:List UInt8):tl (bs l)=l:=by simp [tl,bs]
theorem bs_tl (S:ByteArray):bs (tl S)=S:=bs_of S
theorem tl_length (S:ByteArray):(tl S).length=S.size:=by unfold tl ByteArray.size;exact Array.length_toList
theorem tl_get (S:ByteArray) (k:Nat) (h:k < S.size):S[k]=(tl S)[k]'(by rw [tl_length];exact h):=rfl
theorem tl_ext (S:ByteArray) (i j:Nat):tl (S.extract i j)=((tl S).take j).drop i:=by
 have:=bs_ext (tl S) i j
 rw [bs_tl] at this
 rw [this,tl_bs]
theorem tl_app (S T:ByteArray):tl (S++T)=tl S++tl T:=by
 have:=bs_app (tl S) (tl T)
 rw [bs_tl,bs_tl] at this
 rw [this,tl_bs]
theorem tl_inj {S T:ByteArray} (h:tl S=tl T):S=T:=by rw [<- bs_tl S,<- bs_tl T,h]
theorem tl_take (S:ByteArray) (k:Nat) (h:k < S.size):(tl S).take (k+1)=(tl S).take k++[S[k]]:=by
 rw [List.take_succ_eq_append_getElem (by rw [tl_length];exact h)];rfl
theorem eqb (S T:ByteArray):(S.toList==T.toList)=decide (tl S=tl T):=by
 rw [ByteArray.toList_eq,ByteArray.toList_eq,Bool.eq_iff_iff]
 simp [tl]
theorem eqb_false {S T:ByteArray} (h:tl S≠tl T):(S.toList==T.toList)=false:=by rw [eqb];exact decide_eq_false h
theorem eqb_true {S T:ByteArray} (h:tl S=tl T):(S.toList==T.toList)=true:=by rw [eqb];exact decide_eq_true h
theorem eql_false {S:ByteArray} {l:List UInt8} (h:tl S≠l):(S.toList==l)=false:=by
 rw [ByteArray.toList_eq]
 exact beq_eq_false_iff_ne.2 h
theorem eql_true {S:ByteArray} {l:List UInt8} (h:tl S=l):(S.toList==l)=true:=by
 rw [ByteArray.toList_eq]
 exact beq_iff_eq.2 h
/-- A number, or -1. -/
def numI (s:List UInt8):Int:=match numL s with
 | some n=>(n:Int)
 | none => -1
theorem num_bad_len {s:List UInt8} (h:s.length=0\/9 < s.length):numI s = -1:=by unfold numI numL;rw [if_pos h]
theorem num_bad_dig {s:List UInt8} (c:UInt8) (hc:c∈s) (h:isDig c=false):numI s = -1:=by
 have:s.all isDig=false:=by rw [List.all_eq_false];exact ⟨c,hc,by simp [h]⟩
 unfold numI numL
 by_cases hl:s.length=0\/9 < s.length
 ·rw [if_pos hl]
 ·rw [if_neg hl,this];rfl
theorem num_end {s:List UInt8} (hl:¬ (s.length=0\/9 < s.length)) (ha:∀ c∈s,isDig c=true):numI s=if dec (valL s)=s then (valL s:Int) else -1:=by
 unfold numI numL
 rw [if_neg hl,if_pos (List.all_eq_true.2 ha)]
 by_cases h:dec (valL s)=s
 ·rw [if_pos h,if_pos h]
 ·rw [if_neg h,if_neg h]
theorem span_at (x y:List UInt8) (hx:∀ c∈x,c≠58):(x++(58 :: y)).takeWhile (fun z=>z != 58)=x/\(x++(58 :: y)).dropWhile (fun z=>z != 58)=58 :: y:=by
 induction x with
 | nil=>exact ⟨rfl,rfl⟩
 | cons c x ih =>
   have h1:(c != 58)=true:=by simpa using hx c (by simp)
   have h2:=ih (fun d hd=>hx d (by simp [hd]))
   rw [List.cons_append,List.takeWhile_cons,List.dropWhile_cons,h1,if_pos rfl,if_pos rfl,h2.1,h2.2]
   exact ⟨rfl,rfl⟩
theorem ret_two {k:IntKind} {a b c d:Int} (h:a=c) (h2:b=d):Ending.returned (.tuple #[.int k a,.int k b])=.returned (.tuple #[.int k c,.int k d]):=by rw [h,h2]
/-- Two numbers, or -1 and -1. -/
def twoA (h:UInt8) (s:List UInt8):Int:=match twoL h s with
 | some (a,_)=>(a:Int)
 | none => -1
def twoB (h:UInt8) (s:List UInt8):Int:=match twoL h s with
 | some (_,b)=>(b:Int)
 | none => -1
theorem two_none {h:UInt8} {s:List UInt8} (e:twoL h s=none):twoA h s = -1/\twoB h s = -1:=by
 unfold twoA twoB;rw [e];exact ⟨rfl,rfl⟩
theorem two_split (h:UInt8) (x y:List UInt8) (hx:∀ c∈x,c≠58):twoL h (h :: (x++(58 :: y)))=match numL x,numL y with
 | some a,some b=>some (a,b)
 | _,_=>none:=by
 obtain ⟨k1,k2⟩:=span_at x y hx
 simp only [twoL,↓reduceIte]
 rw [k1,k2]<;>rfl
theorem two_nums {h:UInt8} {s x y:List UInt8} (hs:s=h :: (x++(58 :: y))) (hx:∀ c∈x,c≠58):(numI x < 0\/numI y < 0->twoA h s = -1/\twoB h s = -1)/\(¬ (numI x < 0\/numI y < 0)->twoA h s=numI x/\twoB h s=numI y):=by
 subst hs
 unfold twoA twoB numI
 rw [two_split h x y hx]
 cases numL x with
 | none=>simp
 | some a =>
   cases numL y with
   | none=>simp
   | some b=>simp
theorem num_range (s:List UInt8) : -1<=numI s/\numI s<=1000000000:=by
 unfold numI
 cases h:numL s with
 | none=>simp
 | some n =>
   have:=(num_some h).2.1
   simp only;omega
theorem two_no_head {h:UInt8} {s:List UInt8} (e:s=[]\/∃ c r,s=c :: r/\c≠h):twoL h s=none:=by
 rcases e with rfl|⟨c,r,rfl,hc⟩
 ·rfl
 ·simp only [twoL];rw [if_neg hc]
theorem two_no_colon {h:UInt8} {s:List UInt8} (e:∀ c∈s.tail,c≠58):twoL h s=none:=by
 cases s with
 | nil=>rfl
 | cons c r =>
   simp only [twoL]
   have key:∀ r:List UInt8,(∀ c∈r,c≠58)->r.dropWhile (fun z=>z != 58)=[]:=by
    intro r
    induction r with
    | nil=>intro _;rfl
    | cons d r ih =>
      intro hr
      have h1:(d != 58)=true:=by simpa using hr d (by simp)
      rw [List.dropWhile_cons,h1,if_pos rfl]
      exact ih (fun x hx=>hr x (by simp [hx]))
   rw [key r e]
   split<;>rfl
theorem tl_split (S:ByteArray) (k:Nat) (h1:1<=k) (hk:k < S.size):tl S=(tl S)[0]'(by rw [tl_length];omega) :: (tl (S.extract 1 k)++(S[k] :: tl (S.extract (k+1) S.size))):=by
 have hl:=tl_length S
 rw [tl_ext,tl_ext,tl_get S k hk]
 have e1:(tl S).take S.size=tl S:=List.take_of_length_le (by omega)
 rw [e1]
 have e2:tl S=(tl S).take k++(tl S).drop k:=(List.take_append_drop _ _).symm
 have e3:(tl S).drop k=(tl S)[k]'(by omega) :: (tl S).drop (k+1):=List.drop_eq_getElem_cons (by omega)
 have e4:(tl S).take k=(tl S)[0]'(by omega) :: ((tl S).take k).drop 1:=by
  have e5:(tl S).take k=((tl S).take k).drop 0:=rfl
  rw [e5,List.drop_eq_getElem_cons (by rw [List.length_take];omega)]
  simp
 refine e2.trans ?_
 rw [e3]
 refine (congrArg (fun z=>z++((tl S)[k]'(by omega) :: (tl S).drop (k+1))) e4).trans ?_
 rfl
end Ss1
end Go.Proofs.Ytfhdbcfhhbdiiaa
