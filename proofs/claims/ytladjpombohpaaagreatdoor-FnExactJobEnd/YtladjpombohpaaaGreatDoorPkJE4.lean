import Derived.Test.YtladjpombohpaaaGreatDoorPkJE3
namespace Go.Proofs.YtladjpombohpaaaGreatDoor
set_option maxRecDepth 100000
set_option maxHeartbeats 8000000
set_option linter.unusedVariables false
namespace Tx0
open Nd0 Pl1 Tm0 Tm1
/-- The digits of a number, none for 0. -/
def digs (n:Nat):List UInt8:=if n=0 then [] else digs (n / 10)++[UInt8.ofNat (48+n % 10)]
termination_by n
decreasing_by omega
/-- A number in decimal digits. -/
def dec (n:Nat):List UInt8:=if n=0 then [48] else digs n
theorem digs_zero:digs 0=[]:=by unfold digs;rfl
theorem digs_pos {n:Nat} (h:0 < n):digs n=digs (n / 10)++[UInt8.ofNat (48+n % 10)]:=by
 rw [digs.eq_def,if_neg (by omega)]
theorem dig_nat (d:Nat) (h:d < 10):(UInt8.ofNat (48+d)).toNat=48+d:=by
 rw [UInt8.toNat_ofNat'];exact Nat.mod_eq_of_lt (by omega)
/-- All digits. -/
def isDig (c:UInt8):Bool:=decide (48<=c.toNat/\c.toNat<=57)
theorem digs_all (n:Nat):∀ c∈digs n,isDig c=true:=by
 induction n using Nat.strongRecOn with
 | ind n ih =>
   intro c hc
   by_cases h:n=0
   ·subst h;rw [digs_zero] at hc;cases hc
   ·rw [digs_pos (by omega)] at hc
    rcases List.mem_append.1 hc with h1|h1
    ·exact ih (n / 10) (by omega) c h1
    ·have e:c=UInt8.ofNat (48+n % 10):=by simpa using h1
     subst e
     unfold isDig
     rw [dig_nat _ (by omega)]
     simp;omega
theorem digs_len (k:Nat):∀ n,n < 10 ^ k->(digs n).length<=k:=by
 induction k with
 | zero=>intro n h;have e:n=0:=by omega
         subst e;rw [digs_zero];exact Nat.le_refl _
 | succ k ih =>
   intro n h
   by_cases e:n=0
   ·subst e;rw [digs_zero];exact Nat.zero_le _
   ·rw [digs_pos (by omega),List.length_append]
    have:=ih (n / 10) (by rw [Nat.pow_succ] at h;omega)
    simp;omega
theorem digs_one {n:Nat} (h:0 < n):1<=(digs n).length:=by rw [digs_pos h];simp
theorem dec_all (n:Nat):∀ c∈dec n,isDig c=true:=by
 unfold dec
 split
 ·intro c hc;have:c=48:=by simpa using hc
  subst this;rfl
 ·exact digs_all n
theorem dec_len {n:Nat} (h:n < 10 ^ 9):1<=(dec n).length/\(dec n).length<=9:=by
 unfold dec
 split
 ·simp
 ·exact ⟨digs_one (by omega),digs_len 9 n h⟩
/-- What digits are worth. -/
def valL (s:List UInt8):Nat:=s.foldl (fun n c=>10*n+(c.toNat - 48)) 0
theorem valL_snoc (s:List UInt8) (c:UInt8):valL (s++[c])=10*valL s+(c.toNat - 48):=by
 unfold valL;rw [List.foldl_append];rfl
theorem val_digs (n:Nat):valL (digs n)=n:=by
 induction n using Nat.strongRecOn with
 | ind n ih =>
   by_cases h:n=0
   ·subst h;rw [digs_zero];rfl
   ·rw [digs_pos (by omega),valL_snoc,ih (n / 10) (by omega),dig_nat _ (by omega)]
    omega
theorem val_dec (n:Nat):valL (dec n)=n:=by
 unfold dec
 split
 ·rename_i h;subst h;rfl
 ·exact val_digs n
theorem val_lt (s:List UInt8) (h:∀ c∈s,isDig c=true):valL s < 10 ^ s.length:=by
 have key:∀ (k:Nat) (s:List UInt8),s.length=k->(∀ c∈s,isDig c=true)->valL s < 10 ^ k:=by
  intro k
  induction k with
  | zero=>intro s hs _;have:s=[]:=List.eq_nil_of_length_eq_zero hs
          subst this;decide
  | succ k ih =>
    intro s hs hd
    have hne:s≠[]:=by intro e;rw [e] at hs;simp at hs
    have e:=(List.dropLast_concat_getLast hne).symm
    have hl:s.dropLast.length=k:=by rw [List.length_dropLast];omega
    have h1:=ih s.dropLast hl (fun c hc=>hd c (List.dropLast_subset s hc))
    have h2:=hd _ (List.getLast_mem hne)
    rw [e,valL_snoc]
    unfold isDig at h2
    simp at h2
    rw [Nat.pow_succ]
    omega
 exact key _ s rfl h
/-- A number of at most nine digits without needless noughts ahead. -/
def numL (s:List UInt8):Option Nat :=
 if s.length=0\/9 < s.length then none
 else if s.all isDig then (if dec (valL s)=s then some (valL s) else none) else none
theorem num_dec {n:Nat} (h:n < 10 ^ 9):numL (dec n)=some n:=by
 have hl:=dec_len h
 unfold numL
 rw [if_neg (by omega),if_pos (List.all_eq_true.2 (dec_all n)),val_dec,if_pos rfl]
theorem num_some {s:List UInt8} {n:Nat} (h:numL s=some n):dec n=s/\n < 10 ^ 9/\s.length<=9:=by
 unfold numL at h
 split at h
 ·cases h
 ·rename_i hl
  split at h
  ·rename_i ha
   split at h
   ·rename_i hd
    cases h
    have hv:=val_lt s (List.all_eq_true.1 ha)
    exact ⟨hd,Nat.lt_of_lt_of_le hv (Nat.pow_le_pow_right (by omega) (by omega)),by omega⟩
   ·cases h
  ·cases h
/-- The two numbers of a word with a head and a colon between them. -/
def twoL (head:UInt8):List UInt8->Option (Nat × Nat)
 | []=>none
 | c :: w=>if c=head then
  match w.dropWhile (fun x=>x != 58) with
  | []=>none
  | _ :: y=>match numL (w.takeWhile (fun x=>x != 58)),numL y with
    | some a,some b=>some (a,b)
    | _,_=>none
  else none
/-- The words of the operators of two parts. -/
def wordsL:List (List UInt8):=[[97,110,100],[111,114],[120,111,114],[97,100,100],[115,117,98],[109,117,108],[100,105,118],[114,101,109],[115,104,108],[115,104,114],[61],[60],[115,60],[106,111,105,110]]
def wNot:List UInt8:=[110,111,116]
def wSlice:List UInt8:=[115,108,105,99,101]
def wIf:List UInt8:=[105,102]
def wAll:List UInt8:=[97,108,108]
def wSome:List UInt8:=[115,111,109,101]
/-- The head of a node in brackets: its word, and its numbers. -/
def headL (n:Nd):List UInt8 :=
 if n.op=2 then wNot
 else if n.op=17 then wSlice++[32]++dec n.k.toNat++[32]++dec n.w.toNat
 else if n.op=18 then wIf
 else if n.op=19 then wAll++[32,118]++dec n.k.toNat++[58]++dec n.b.toNat
 else if n.op=20 then wSome++[32,118]++dec n.k.toNat++[58]++dec n.b.toNat
 else wordsL.getD (n.op - 3).toNat []
def txt (ts:List (List UInt8)) (p:Int):List UInt8:=ts.getD p.toNat []
/-- The parts' texts behind a head, a blank ahead of each; nothing once one is missing. -/
def withParts (ts:List (List UInt8)):List UInt8->List Int->Option (List UInt8)
 | h,[]=>some h
 | h,p :: ps=>if txt ts p=[] then none else withParts ts (h++[32]++txt ts p) ps
/-- The text of a node whose parts have texts; none once it would be too long. -/
def showN (n:Nd) (ts:List (List UInt8)):List UInt8 :=
 if n.op=0 then [35]++dec n.w.toNat++[58]++dec n.k.toNat
 else if n.op=1 then [118]++dec n.k.toNat++[58]++dec n.w.toNat
 else match withParts ts (headL n) (parts n) with
  | none=>[]
  | some h=>if 4000 < h.length+2 then [] else [40]++h++[41]
def showTo (l:List Nd):Nat->List (List UInt8)
 | 0=>[]
 | k+1=>showTo l k++[showN (nth l k) (showTo l k)]
theorem showTo_length (l:List Nd) (k:Nat):(showTo l k).length=k:=by
 induction k with
 | zero=>rfl
 | succ k ih=>show (showTo l k++[_]).length=_;rw [List.length_append,ih];rfl
/-- The text of the root; none where there is none. -/
def showL (l:List Nd):List UInt8:=if termOk l then txt (showTo l l.length) ((l.length:Int) - 1) else []
/-- The first place of a node in a list. -/
def placeOf (t:List Nd) (n:Nd):Option Nat:=(List.range t.length).find? fun i=>decide ((nth t i).op=n.op/\(nth t i).w=n.w/\(nth t i).k=n.k/\(nth t i).a=n.a/\(nth t i).b=n.b/\(nth t i).c=n.c)
/-- A node put in, from byte p on: the list, and its place; or why it can't be. -/
def putL (t:List Nd) (n:Nd) (p:Nat):Except (Int × Nat) (List Nd × Nat) :=
 match placeOf t n with
 | some i=>.ok (t,i)
 | none=>if nodeOk (t++[n]) t.length then (if 80 < t.length+1 then .error (4,p) else .ok (t++[n],t.length)) else .error (3,p)
def inWord (c:UInt8):Bool:=c != 32&&c != 41
/-- The operator of a word and how many parts it takes. -/
def opOf (w:List UInt8):Option (Int × Nat) :=
 match (List.range 14).find? (fun i=>decide (wordsL.getD i []=w)) with
 | some i=>some (3+(i:Int),2)
 | none=>if w=wNot then some (2,1) else if w=wSlice then some (17,1) else if w=wIf then some (18,3) else if w=wAll then some (19,1) else if w=wSome then some (20,1) else none
/-- A reader of a text: the place, what is left, the nodes so far. -/
structure Rd where
 p:Nat
 r:List UInt8
 t:List Nd
def Rd.word (st:Rd):List UInt8:=st.r.takeWhile inWord
def Rd.past (st:Rd):Rd:=⟨st.p+(st.r.takeWhile inWord).length,st.r.dropWhile inWord,st.t⟩
def Rd.blank (st:Rd):Option Rd:=match st.r with
 | []=>none
 | c :: r=>if c=32 then some ⟨st.p+1,r,st.t⟩ else none
/-- The numbers behind the word of an operator: those of a slice, of a quantifier, none. -/
def numsL (op:Int) (st:Rd):Option (Rd × Nd) :=
 if op=17 then
  match st.blank with
  | none=>none
  | some s1=>match numL s1.word with
    | none=>none
    | some k=>match s1.past.blank with
      | none=>none
      | some s2=>match numL s2.word with
        | none=>none
        | some w=>some (s2.past,⟨op,w,k,0,0,0⟩)
 else if op=19\/op=20 then
  match st.blank with
  | none=>none
  | some s1=>match twoL 118 s1.word with
    | none=>none
    | some (k,b)=>some (s1.past,⟨op,1,k,0,b,0⟩)
 else some (st,⟨op,0,0,0,0,0⟩)
/-- So many parts, a blank ahead of each. -/
def partsL (rd:Rd->Except (Int × Nat) (Rd × Nat)) (p0:Nat):Nat->Rd->Except (Int × Nat) (Rd × List Nat)
 | 0,st=>.ok (st,[])
 | c+1,st=>match st.blank with
   | none=>.error (2,p0)
   | some s1=>match rd s1 with
     | .error e=>.error e
     | .ok (s2,i)=>match partsL rd p0 c s2 with
       | .error e=>.error e
       | .ok (s3,is)=>.ok (s3,i :: is)
/-- The node that a word, its numbers and its parts make. -/
def madeL (n:Nd) (t:List Nd) (is:List Nat):Nd :=
 let a:Int:=is.getD 0 0
 let b:Int:=if 1 < is.length then (is.getD 1 0:Nat) else n.b
 let c:Int:=if 2 < is.length then (is.getD 2 0:Nat) else 0
 let w:Int:=if n.op=17\/n.op=19\/n.op=20 then n.w
  else if 13<=n.op/\n.op<=15 then 1
  else if n.op=16 then width t a+width t b
  else if n.op=18 then width t b
  else width t a
 ⟨n.op,w,n.k,a,b,c⟩
/-- A node in brackets, from byte p0 on; st stands behind the bracket. -/
def innerL (rd:Rd->Except (Int × Nat) (Rd × Nat)) (p0:Nat) (st:Rd):Except (Int × Nat) (Rd × Nat) :=
 match opOf st.word with
 | none=>.error (2,p0)
 | some (op,count)=>match numsL op st.past with
   | none=>.error (2,p0)
   | some (s1,n)=>match partsL rd p0 count s1 with
     | .error e=>.error e
     | .ok (s2,is)=>match s2.r with
       | []=>.error (2,p0)
       | c :: r=>if c=41 then
        match putL s2.t (madeL n s2.t is) p0 with
        | .error e=>.error e
        | .ok (t,i)=>.ok (⟨s2.p+1,r,t⟩,i)
        else .error (2,p0)
def leafL (st:Rd):Except (Int × Nat) (Rd × Nat) :=
 match twoL 35 st.word with
 | some (a,b)=>match putL st.t ⟨0,a,b,0,0,0⟩ st.p with
   | .error e=>.error e
   | .ok (t,i)=>.ok (⟨st.past.p,st.past.r,t⟩,i)
 | none=>match twoL 118 st.word with
   | some (a,b)=>match putL st.t ⟨1,b,a,0,0,0⟩ st.p with
     | .error e=>.error e
     | .ok (t,i)=>.ok (⟨st.past.p,st.past.r,t⟩,i)
   | none=>.error (2,st.p)
def opens (r:List UInt8):Bool:=match r with
 | []=>false
 | c :: _=>c==40
/-- A node: the reader behind it, and its place. f: more than the brackets that are left. -/
def rdL:Nat->Rd->Except (Int × Nat) (Rd × Nat)
 | 0,_=>.error (2,0)
 | f+1,st=>if opens st.r then innerL (rdL f) st.p ⟨st.p+1,st.r.tail,st.t⟩ else leafL st
/-- What a text is read as: the nodes, the code, the byte. -/
def readL (s:List UInt8):List Nd × Int × Int :=
 if 4000 < s.length then ([],1,0)
 else match rdL (s.length+1) ⟨0,s,[]⟩ with
  | .error (c,p)=>([],c,p)
  | .ok (st,i)=>if st.r.length=0 then (st.t.take (i+1),0,0) else ([],5,st.p)
def canonL (l:List Nd):List Nd:=if (showL l).length=0 then [] else (readL (showL l)).1
def sameB (l m:List Nd):Bool:=decide (¬ (showL l).length=0)&&decide (¬ (showL m).length=0)&&decide (showL l=showL m)
end Tx0
namespace Ss0
open Go.RowKit
open Nd0 Tx0
/-- Bytes as a string. -/
def bs (l:List UInt8):ByteArray:=⟨l.toArray⟩
theorem bs_size (l:List UInt8):(bs l).size=l.length:=by simp [bs,ByteArray.size]
theorem bs_app (a b:List UInt8):bs a++bs b=bs (a++b):=by
 apply ByteArray.ext
 simp [bs,ByteArray.data_append]
theorem bs_of (s:ByteArray):bs s.data.toList=s:=by cases s;rfl
theorem bs_inj {a b:List UInt8} (h:bs a=bs b):a=b:=by
 have:=congrArg (fun s=>s.data.toList) h
 simpa [bs] using this
theorem bs_ext (l:List UInt8) (i j:Nat):(bs l).extract i j=bs ((l.take j).drop i):=by
 apply ByteArray.ext
 simp only [bs,ByteArray.data_extract]
 apply Array.ext'
 simp [List.extract_eq_take_drop,List.drop_take]
theorem ret_str {a b:ByteArray} (h:a=b):Ending.returned (.string a)=.returned (.string b):=by rw [h]
theorem digit_cut (d:Nat) (h:d < 10):(ByteArray.mk #[48,49,50,51,52,53,54,55,56,57]).extract d (d+1)=bs [UInt8.ofNat (48+d)]:=by
 have:d=0\/d=1\/d=2\/d=3\/d=4\/d=5\/d=6\/d=7\/d=8\/d=9:=by omega
 rcases this with h|h|h|h|h|h|h|h|h|h<;>subst h<;>rfl
theorem sDec (n:Nat) (w:World) (h:n < 1000000000) :
 Calls Tryz.prog 96 #[.int .i64 n] w fun e w'=>e=.returned (.string (bs (dec n)))/\w'=w:=by
 by_cases h0:n=0
 ·subst h0
  go_enter Tryz.func96,Tryz.ntmps96
  go_wp2
  go_ret
  exact ⟨rfl,rfl⟩
 ·have hz:¬ (n:Int)=0:=by omega
  go_enter Tryz.func96,Tryz.ntmps96
  go_wp2
  go_loop [3,4] (fun o m=>∃ (k:Nat) (s:List UInt8),k<=n/\m=.int .i64 k/\o=.string (bs s)/\digs n=digs k++s/\s.length+(digs k).length<=9) (fun _ m=>(intOf m).toNat)
  case atStart=>exact ⟨n,[],Nat.le_refl _,rfl,rfl,by simp,by have:=digs_len 9 n h;simpa using this⟩
  case round =>
   obtain ⟨k,s,hk,rfl,rfl,hd,hl⟩:=hrel
   have HD:Hid (digs n=digs k++s):=hd
   clear hd
   by_cases hk0:k=0
   ·subst hk0
    have HE:Hid (bs s=bs (dec n)):=by
     show _=_
     unfold dec
     rw [if_neg h0,HD.out,digs_zero];rfl
    have hnn:¬ (n:Int) < 0:=by omega
    go_wp2
    go_ret
    exact ⟨ret_str HE.out,rfl⟩
   ·have hkz:¬ (k:Int)=0:=by omega
    have hr1:0<=(k:Int) % 10:=by omega
    have hr2:(k:Int) % 10 < 10:=by omega
    have hr3:¬ (k:Int) % 10 < 0:=by omega
    have hss:(bs s).size<=9:=by rw [bs_size];omega
    have hp:=digs_pos (n:=k) (by omega)
    have HN:Hid (digs n=digs (k / 10)++(UInt8.ofNat (48+k % 10) :: s)):=by
     show _=_
     rw [HD.out,hp];simp
    have HL:Hid ((UInt8.ofNat (48+k % 10) :: s).length+(digs (k / 10)).length<=9):=by
     show _<=_
     rw [hp] at hl
     simp at hl ⊢;omega
    clear hp
    go_wp2
    go_round
    case rel=>exact ⟨k / 10,UInt8.ofNat (48+k % 10) :: s,by omega,by go_num,by rw [digit_cut _ (by omega),bs_app];rfl,HN.out,HL.out⟩
    case measure=>simp [intOf];omega
end Ss0
namespace Ws1
open Go.RowKit
open Pl1
theorem ret_int {k:IntKind} {a b:Int} (h:a=b):Ending.returned (.int k a)=.returned (.int k b):=by rw [h]
theorem ret_bool {a b:Bool} (h:a=b):Ending.returned (.bool a)=.returned (.bool b):=by rw [h]
theorem spow (m:Int) (w:World) (h0:0<=m) (h1:m<=8) :
 Calls Tryz.prog 90 #[.int .i64 m] w fun e w'=>e=.returned (.int .i64 (p2 m.toNat))/\w'=w:=by
 obtain ⟨n,rfl⟩:=Int.eq_ofNat_of_zero_le h0
 rw [Int.toNat_natCast]
 go_enter Tryz.func90,Tryz.ntmps90
 go_wp2
 go_loop [3,4] (fun x i=>∃ k:Nat,k<=n/\i=.int .i64 k/\x=.int .i64 (p2 k)) (fun _ i=>n - (intOf i).toNat)
 case atStart=>exact ⟨0,Nat.zero_le _,rfl,rfl⟩
 case round =>
  obtain ⟨k,hk,rfl,rfl⟩:=hrel
  have hp:=p2_pos k
  have hl:=p2_le k (by omega)
  by_cases hlt:k < n
  ·go_wp2
   go_round
   case rel=>exact ⟨k+1,by omega,by go_num,by rw [p2_succ]⟩
   case measure=>simp [intOf];omega
  ·go_wp2
   go_ret
   have:k=n:=by omega
   subst this
   exact ⟨rfl,rfl⟩
theorem sIn (x a b:Int) (w:World) :
 Calls Tryz.prog 25 #[.int .i64 x,.int .i64 a,.int .i64 b] w fun e w'=>e=.returned (.bool (decide (a<=x/\x<=b)))/\w'=w:=by
 by_cases h1:a<=x<;>by_cases h2:x<=b
 all_goals
  go_enter Tryz.func25,Tryz.ntmps25
  go_wp2
  go_ret
  exact ⟨ret_bool (by simp<;>omega),rfl⟩
theorem sWordOk (m a:Int) (w:World) :
 Calls Tryz.prog 215 #[.int .i64 m,.int .i64 a] w fun e w'=>e=.returned (.bool (wok m a))/\w'=w:=by
 by_cases h:1<=m/\m<=8
 ·have hp:=p2_pos m.toNat
  have hl:=p2_le m.toNat (by omega)
  have hd:decide (1<=m/\m<=8)=true:=by simpa using h
  go_enter Tryz.func215,Tryz.ntmps215
  go_wp2_with (first|(go_at_call 25;refine (sIn _ _ _ _).mono ?_;rintro e w' ⟨rfl,rfl⟩)|(go_at_call 90;refine (spow m _ (by omega) (by omega)).mono ?_;rintro e w' ⟨rfl,rfl⟩))
  go_ret
  exact ⟨ret_bool (by rw [Bool.eq_iff_iff];simp [wok];omega),rfl⟩
 ·have hd:decide (1<=m/\m<=8)=false:=by simpa using h
  go_enter Tryz.func215,Tryz.ntmps215
  go_wp2_with (go_at_call 25;refine (sIn _ _ _ _).mono ?_;rintro e w' ⟨rfl,rfl⟩)
  go_ret
  exact ⟨ret_bool (by unfold wok;symm;rw [decide_eq_false_iff_not];omega),rfl⟩
end Ws1
end Go.Proofs.YtladjpombohpaaaGreatDoor
