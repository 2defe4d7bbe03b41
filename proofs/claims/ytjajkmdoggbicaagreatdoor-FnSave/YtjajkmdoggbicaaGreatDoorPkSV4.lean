import Derived.Test.YtjajkmdoggbicaaGreatDoorRows
import Derived.WalkKit
import Derived.WalkSpells
import Derived.WalkLawsBesides
import Derived.Deep.QuietTactic
import Derived.BigQuiet
import Derived.Deep.RegionWith
import Derived.Laws.MakeOwn
import Derived.Test.YtjajkmdoggbicaaGreatDoorPkSV3
import Derived.Test.YtjajkmdoggbicaaGreatDoorPkSV0
import Derived.Test.YtjajkmdoggbicaaGreatDoorPkSV1
import Derived.Test.YtjajkmdoggbicaaGreatDoorPkSV2
namespace Go.Proofs.YtjajkmdoggbicaaGreatDoor
set_option maxRecDepth 100000
set_option maxHeartbeats 8000000
set_option linter.unusedVariables false
namespace Ss0
open Go.RowKit
open Nd0 Tx0
/-- Bytes as a string. -/
def bs (l:List UInt8):ByteArray:=⟨l.toArray⟩
theorem bs_size (l:List UInt8):(bs l).size=l.length:=by simp [bs,ByteArray.size]
theorem bs_app (a b:List UInt8):bs a++bs b=bs (a++b):=by
 apply ByteArray.ext
 simp [bs,ByteArray.data_append]
theorem bs_of (s:ByteArray):bs s.data.toList=s:=by cases s;rfl
theorem bs_inj {a b:List UInt8} (h:bs a=bs b):a=b:=by
 have:=congrArg (fun s=>s.data.toList) h
 simpa [bs] using this
theorem bs_ext (l:List UInt8) (i j:Nat):(bs l).extract i j=bs ((l.take j).drop i):=by
 apply ByteArray.ext
 simp only [bs,ByteArray.data_extract]
 apply Array.ext'
 simp [List.extract_eq_take_drop,List.drop_take]
theorem ret_str {a b:ByteArray} (h:a=b):Ending.returned (.string a)=.returned (.string b):=by rw [h]
theorem digit_cut (d:Nat) (h:d < 10):(ByteArray.mk #[48,49,50,51,52,53,54,55,56,57]).extract d (d+1)=bs [UInt8.ofNat (48+d)]:=by
 have:d=0\/d=1\/d=2\/d=3\/d=4\/d=5\/d=6\/d=7\/d=8\/d=9:=by omega
 rcases this with h|h|h|h|h|h|h|h|h|h<;>subst h<;>rfl
theorem sDec (n:Nat) (w:World) (h:n < 1000000000) :
 Calls Tryz.prog 35 #[.int .i64 n] w fun e w'=>e=.returned (.string (bs (dec n)))/\w'=w:=by
 by_cases h0:n=0
 ·subst h0
  go_enter Tryz.func35,Tryz.ntmps35
  go_wp2
  go_ret
  exact ⟨rfl,rfl⟩
 ·have hz:¬ (n:Int)=0:=by omega
  go_enter Tryz.func35,Tryz.ntmps35
  go_wp2
  go_loop [3,4] (fun o m=>∃ (k:Nat) (s:List UInt8),k<=n/\m=.int .i64 k/\o=.string (bs s)/\digs n=digs k++s/\s.length+(digs k).length<=9) (fun _ m=>(intOf m).toNat)
  case atStart=>exact ⟨n,[],Nat.le_refl _,rfl,rfl,by simp,by have:=digs_len 9 n h;simpa using this⟩
  case round =>
   obtain ⟨k,s,hk,rfl,rfl,hd,hl⟩:=hrel
   have HD:Hid (digs n=digs k++s):=hd
   clear hd
   by_cases hk0:k=0
   ·subst hk0
    have HE:Hid (bs s=bs (dec n)):=by
     show _=_
     unfold dec
     rw [if_neg h0,HD.out,digs_zero];rfl
    have hnn:¬ (n:Int) < 0:=by omega
    go_wp2
    go_ret
    exact ⟨ret_str HE.out,rfl⟩
   ·have hkz:¬ (k:Int)=0:=by omega
    have hr1:0<=(k:Int) % 10:=by omega
    have hr2:(k:Int) % 10 < 10:=by omega
    have hr3:¬ (k:Int) % 10 < 0:=by omega
    have hss:(bs s).size<=9:=by rw [bs_size];omega
    have hp:=digs_pos (n:=k) (by omega)
    have HN:Hid (digs n=digs (k / 10)++(UInt8.ofNat (48+k % 10) :: s)):=by
     show _=_
     rw [HD.out,hp];simp
    have HL:Hid ((UInt8.ofNat (48+k % 10) :: s).length+(digs (k / 10)).length<=9):=by
     show _<=_
     rw [hp] at hl
     simp at hl ⊢;omega
    clear hp
    go_wp2
    go_round
    case rel=>exact ⟨k / 10,UInt8.ofNat (48+k % 10) :: s,by omega,by go_num,by rw [digit_cut _ (by omega),bs_app];rfl,HN.out,HL.out⟩
    case measure=>simp [intOf];omega
end Ss0
namespace Ws1
open Go.RowKit
open Pl1
theorem ret_int {k:IntKind} {a b:Int} (h:a=b):Ending.returned (.int k a)=.returned (.int k b):=by rw [h]
theorem ret_bool {a b:Bool} (h:a=b):Ending.returned (.bool a)=.returned (.bool b):=by rw [h]
theorem spow (m:Int) (w:World) (h0:0<=m) (h1:m<=8) :
 Calls Tryz.prog 89 #[.int .i64 m] w fun e w'=>e=.returned (.int .i64 (p2 m.toNat))/\w'=w:=by
 obtain ⟨n,rfl⟩:=Int.eq_ofNat_of_zero_le h0
 rw [Int.toNat_natCast]
 go_enter Tryz.func89,Tryz.ntmps89
 go_wp2
 go_loop [3,4] (fun x i=>∃ k:Nat,k<=n/\i=.int .i64 k/\x=.int .i64 (p2 k)) (fun _ i=>n - (intOf i).toNat)
 case atStart=>exact ⟨0,Nat.zero_le _,rfl,rfl⟩
 case round =>
  obtain ⟨k,hk,rfl,rfl⟩:=hrel
  have hp:=p2_pos k
  have hl:=p2_le k (by omega)
  by_cases hlt:k < n
  ·go_wp2
   go_round
   case rel=>exact ⟨k+1,by omega,by go_num,by rw [p2_succ]⟩
   case measure=>simp [intOf];omega
  ·go_wp2
   go_ret
   have:k=n:=by omega
   subst this
   exact ⟨rfl,rfl⟩
theorem sIn (x a b:Int) (w:World) :
 Calls Tryz.prog 29 #[.int .i64 x,.int .i64 a,.int .i64 b] w fun e w'=>e=.returned (.bool (decide (a<=x/\x<=b)))/\w'=w:=by
 by_cases h1:a<=x<;>by_cases h2:x<=b
 all_goals
  go_enter Tryz.func29,Tryz.ntmps29
  go_wp2
  go_ret
  exact ⟨ret_bool (by simp<;>omega),rfl⟩
end Ws1
namespace Ss1
open Go.RowKit
open Nd0 Tx0 Ss0
open Ws1 (sIn ret_int)
/-- The bytes of a string. -/
def tl (S:ByteArray):List UInt8:=S.data.toList
theorem tl_bs (l:List UInt8):tl (bs l)=l:=by simp [tl,bs]
theorem bs_tl (S:ByteArray):bs (tl S)=S:=bs_of S
theorem tl_length (S:ByteArray):(tl S).length=S.size:=by unfold tl ByteArray.size;exact Array.length_toList
theorem tl_get (S:ByteArray) (k:Nat) (h:k < S.size):S[k]=(tl S)[k]'(by rw [tl_length];exact h):=rfl
theorem tl_ext (S:ByteArray) (i j:Nat):tl (S.extract i j)=((tl S).take j).drop i:=by
 have:=bs_ext (tl S) i j
 rw [bs_tl] at this
 rw [this,tl_bs]
theorem tl_app (S T:ByteArray):tl (S++T)=tl S++tl T:=by
 have:=bs_app (tl S) (tl T)
 rw [bs_tl,bs_tl] at this
 rw [this,tl_bs]
theorem tl_inj {S T:ByteArray} (h:tl S=tl T):S=T:=by rw [<- bs_tl S,<- bs_tl T,h]
theorem tl_take (S:ByteArray) (k:Nat) (h:k < S.size):(tl S).take (k+1)=(tl S).take k++[S[k]]:=by
 rw [List.take_succ_eq_append_getElem (by rw [tl_length];exact h)];rfl
theorem eqb (S T:ByteArray):(S.toList==T.toList)=decide (tl S=tl T):=by
 rw [ByteArray.toList_eq,ByteArray.toList_eq,Bool.eq_iff_iff]
 simp [tl]
theorem eqb_false {S T:ByteArray} (h:tl S≠tl T):(S.toList==T.toList)=false:=by rw [eqb];exact decide_eq_false h
theorem eqb_true {S T:ByteArray} (h:tl S=tl T):(S.toList==T.toList)=true:=by rw [eqb];exact decide_eq_true h
theorem eql_false {S:ByteArray} {l:List UInt8} (h:tl S≠l):(S.toList==l)=false:=by
 rw [ByteArray.toList_eq]
 exact beq_eq_false_iff_ne.2 h
theorem eql_true {S:ByteArray} {l:List UInt8} (h:tl S=l):(S.toList==l)=true:=by
 rw [ByteArray.toList_eq]
 exact beq_iff_eq.2 h
/-- A number, or -1. -/
def numI (s:List UInt8):Int:=match numL s with
 | some n=>(n:Int)
 | none => -1
theorem num_bad_len {s:List UInt8} (h:s.length=0\/9 < s.length):numI s = -1:=by unfold numI numL;rw [if_pos h]
theorem num_bad_dig {s:List UInt8} (c:UInt8) (hc:c∈s) (h:isDig c=false):numI s = -1:=by
 have:s.all isDig=false:=by rw [List.all_eq_false];exact ⟨c,hc,by simp [h]⟩
 unfold numI numL
 by_cases hl:s.length=0\/9 < s.length
 ·rw [if_pos hl]
 ·rw [if_neg hl,this];rfl
theorem num_end {s:List UInt8} (hl:¬ (s.length=0\/9 < s.length)) (ha:∀ c∈s,isDig c=true):numI s=if dec (valL s)=s then (valL s:Int) else -1:=by
 unfold numI numL
 rw [if_neg hl,if_pos (List.all_eq_true.2 ha)]
 by_cases h:dec (valL s)=s
 ·rw [if_pos h,if_pos h]
 ·rw [if_neg h,if_neg h]
theorem span_at (x y:List UInt8) (hx:∀ c∈x,c≠58):(x++(58 :: y)).takeWhile (fun z=>z != 58)=x/\(x++(58 :: y)).dropWhile (fun z=>z != 58)=58 :: y:=by
 induction x with
 | nil=>exact ⟨rfl,rfl⟩
 | cons c x ih =>
   have h1:(c != 58)=true:=by simpa using hx c (by simp)
   have h2:=ih (fun d hd=>hx d (by simp [hd]))
   rw [List.cons_append,List.takeWhile_cons,List.dropWhile_cons,h1,if_pos rfl,if_pos rfl,h2.1,h2.2]
   exact ⟨rfl,rfl⟩
theorem ret_two {k:IntKind} {a b c d:Int} (h:a=c) (h2:b=d):Ending.returned (.tuple #[.int k a,.int k b])=.returned (.tuple #[.int k c,.int k d]):=by rw [h,h2]
/-- Two numbers, or -1 and -1. -/
def twoA (h:UInt8) (s:List UInt8):Int:=match twoL h s with
 | some (a,_)=>(a:Int)
 | none => -1
def twoB (h:UInt8) (s:List UInt8):Int:=match twoL h s with
 | some (_,b)=>(b:Int)
 | none => -1
theorem two_none {h:UInt8} {s:List UInt8} (e:twoL h s=none):twoA h s = -1/\twoB h s = -1:=by
 unfold twoA twoB;rw [e];exact ⟨rfl,rfl⟩
theorem two_split (h:UInt8) (x y:List UInt8) (hx:∀ c∈x,c≠58):twoL h (h :: (x++(58 :: y)))=match numL x,numL y with
 | some a,some b=>some (a,b)
 | _,_=>none:=by
 obtain ⟨k1,k2⟩:=span_at x y hx
 simp only [twoL,↓reduceIte]
 rw [k1,k2]<;>rfl
theorem two_nums {h:UInt8} {s x y:List UInt8} (hs:s=h :: (x++(58 :: y))) (hx:∀ c∈x,c≠58):(numI x < 0\/numI y < 0->twoA h s = -1/\twoB h s = -1)/\(¬ (numI x < 0\/numI y < 0)->twoA h s=numI x/\twoB h s=numI y):=by
 subst hs
 unfold twoA twoB numI
 rw [two_split h x y hx]
 cases numL x with
 | none=>simp
 | some a =>
   cases numL y with
   | none=>simp
   | some b=>simp
theorem num_range (s:List UInt8) : -1<=numI s/\numI s<=1000000000:=by
 unfold numI
 cases h:numL s with
 | none=>simp
 | some n =>
   have:=(num_some h).2.1
   simp only;omega
theorem two_no_head {h:UInt8} {s:List UInt8} (e:s=[]\/∃ c r,s=c :: r/\c≠h):twoL h s=none:=by
 rcases e with rfl|⟨c,r,rfl,hc⟩
 ·rfl
 ·simp only [twoL];rw [if_neg hc]
theorem two_no_colon {h:UInt8} {s:List UInt8} (e:∀ c∈s.tail,c≠58):twoL h s=none:=by
 cases s with
 | nil=>rfl
 | cons c r =>
   simp only [twoL]
   have key:∀ r:List UInt8,(∀ c∈r,c≠58)->r.dropWhile (fun z=>z != 58)=[]:=by
    intro r
    induction r with
    | nil=>intro _;rfl
    | cons d r ih =>
      intro hr
      have h1:(d != 58)=true:=by simpa using hr d (by simp)
      rw [List.dropWhile_cons,h1,if_pos rfl]
      exact ih (fun x hx=>hr x (by simp [hx]))
   rw [key r e]
   split<;>rfl
theorem tl_split (S:ByteArray) (k:Nat) (h1:1<=k) (hk:k < S.size):tl S=(tl S)[0]'(by rw [tl_length];omega) :: (tl (S.extract 1 k)++(S[k] :: tl (S.extract (k+1) S.size))):=by
 have hl:=tl_length S
 rw [tl_ext,tl_ext,tl_get S k hk]
 have e1:(tl S).take S.size=tl S:=List.take_of_length_le (by omega)
 rw [e1]
 have e2:tl S=(tl S).take k++(tl S).drop k:=(List.take_append_drop _ _).symm
 have e3:(tl S).drop k=(tl S)[k]'(by omega) :: (tl S).drop (k+1):=List.drop_eq_getElem_cons (by omega)
 have e4:(tl S).take k=(tl S)[0]'(by omega) :: ((tl S).take k).drop 1:=by
  have e5:(tl S).take k=((tl S).take k).drop 0:=rfl
  rw [e5,List.drop_eq_getElem_cons (by rw [List.length_take];omega)]
  simp
 refine e2.trans ?_
 rw [e3]
 refine (congrArg (fun z=>z++((tl S)[k]'(by omega) :: (tl S).drop (k+1))) e4).trans ?_
 rfl
end Ss1
namespace Mm0
open Go.RowKit
open Nd0 (Kept Ints set_other set_same lt_of_cell)
open Nd6 (Bools)
open Qc0 (Sn Sns)
open Ta1 (tokB)
open Ss1 (tl)
structure Mc where
 row:List Bool
 N:Int
 S:ByteArray
 room:Int
 vals:List Int
 ret:Int
 over:Bool
 steps:Int
 looks:Int
 hits:Int
 memo:List Sn
/-- Its value. -/
abbrev mval (m:Mc) (ra va ma:Option Addr) (rc vc mc:Nat):Value:=.agg #[.slice ra m.row.length rc,.int .i64 m.N,.string m.S,.int .i64 m.room,.slice va m.vals.length vc,.int .i64 m.ret,.bool m.over,.int .i64 m.steps,.int .i64 m.looks,.int .i64 m.hits,.slice ma m.memo.length mc]
/-- It lies in block b. -/
structure Mb (W:World) (b:Nat) (m:Mc) (ra va ma:Option Addr) (rc vc mc:Nat):Prop where
 c0:W.cell? ⟨b,0,none⟩=some (.slice ra m.row.length rc)
 c1:W.cell? ⟨b,1,none⟩=some (.int .i64 m.N)
 c2:W.cell? ⟨b,2,none⟩=some (.string m.S)
 c3:W.cell? ⟨b,3,none⟩=some (.int .i64 m.room)
 c4:W.cell? ⟨b,4,none⟩=some (.slice va m.vals.length vc)
 c5:W.cell? ⟨b,5,none⟩=some (.int .i64 m.ret)
 c6:W.cell? ⟨b,6,none⟩=some (.bool m.over)
 c7:W.cell? ⟨b,7,none⟩=some (.int .i64 m.steps)
 c8:W.cell? ⟨b,8,none⟩=some (.int .i64 m.looks)
 c9:W.cell? ⟨b,9,none⟩=some (.int .i64 m.hits)
 c10:W.cell? ⟨b,10,none⟩=some (.slice ma m.memo.length mc)
theorem Mb.lt {W:World} {b:Nat} {m:Mc} {ra va ma:Option Addr} {rc vc mc:Nat} (h:Mb W b m ra va ma rc vc mc):b < W.heap.size:=World.block_lt_of_cell? _ _ h.c0
theorem Mb.kept {W W':World} {b:Nat} {m:Mc} {ra va ma:Option Addr} {rc vc mc:Nat} (h:Mb W b m ra va ma rc vc mc) {S:Nat->Prop} (k:Kept S W W') (hs:¬ S b):Mb W' b m ra va ma rc vc mc :=
 ⟨by rw [k.cell (p:=⟨b,0,none⟩) h.lt hs];exact h.c0,by rw [k.cell (p:=⟨b,1,none⟩) h.lt hs];exact h.c1,by rw [k.cell (p:=⟨b,2,none⟩) h.lt hs];exact h.c2,by rw [k.cell (p:=⟨b,3,none⟩) h.lt hs];exact h.c3,by rw [k.cell (p:=⟨b,4,none⟩) h.lt hs];exact h.c4,by rw [k.cell (p:=⟨b,5,none⟩) h.lt hs];exact h.c5,by rw [k.cell (p:=⟨b,6,none⟩) h.lt hs];exact h.c6,by rw [k.cell (p:=⟨b,7,none⟩) h.lt hs];exact h.c7,by rw [k.cell (p:=⟨b,8,none⟩) h.lt hs];exact h.c8,by rw [k.cell (p:=⟨b,9,none⟩) h.lt hs];exact h.c9,by rw [k.cell (p:=⟨b,10,none⟩) h.lt hs];exact h.c10⟩
theorem Mb.below {W W':World} {b:Nat} {m:Mc} {ra va ma:Option Addr} {rc vc mc:Nat} (h:Mb W b m ra va ma rc vc mc) (k:Below W.heap.size W W'):Mb W' b m ra va ma rc vc mc:=h.kept (S:=fun _=>False) (Kept.ofBelow k) (fun h=>h)
theorem Mb.alloc {W:World} {b:Nat} {m:Mc} {ra va ma:Option Addr} {rc vc mc:Nat} (h:Mb W b m ra va ma rc vc mc) (o:Obj):Mb (W.alloc o) b m ra va ma rc vc mc:=h.kept (S:=fun _=>False) ((Kept.refl _ _).alloc _) (fun h=>h)
theorem Mb.made (W:World) (m:Mc) (ra va ma:Option Addr) (rc vc mc:Nat) (T:Nat):Mb (W.alloc (.cells #[.slice ra m.row.length rc,.int .i64 m.N,.string m.S,.int .i64 m.room,.slice va m.vals.length vc,.int .i64 m.ret,.bool m.over,.int .i64 m.steps,.int .i64 m.looks,.int .i64 m.hits,.slice ma m.memo.length mc] T)) W.heap.size m ra va ma rc vc mc:=⟨by simp,by simp,by simp,by simp,by simp,by simp,by simp,by simp,by simp,by simp,by simp⟩
/-- What it points to can be read. -/
structure Mr (W:World) (m:Mc) (ra va ma:Option Addr):Prop where
 row:Bools W ra m.row
 vals:Ints W va m.vals
 memo:Sns W ma m.memo
theorem Mr.below {W W':World} {m:Mc} {ra va ma:Option Addr} (h:Mr W m ra va ma) (k:Below W.heap.size W W'):Mr W' m ra va ma:=⟨h.row.below k,h.vals.below k,h.memo.below k⟩
/-- No two keys are alike. -/
def apart (l:List Sn):Prop:=∀ i j (hi:i < l.length) (hj:j < l.length),j < i->l[j].k≠l[i].k
/-- A right machine. -/
structure Mok (m:Mc):Prop where
 tab:tokB m.N (tl m.S)=true
 row:(m.row.length:Int)=m.N
 room:0<=m.room/\m.room<=40
 memo:(m.memo.length:Int)<=m.room
 vals:(m.vals.length:Int)<=m.N
 ret : -1<=m.ret/\m.ret<=1
 over:m.over=true->0<=m.ret/\m.vals.length=0
 steps:0<=m.steps/\m.steps<=1000000000
 looks:0<=m.looks/\m.looks<=1000000000
 hits:0<=m.hits/\m.hits<=1000000000
 bits:∀ x∈m.vals,0<=x/\x<=1
 seen:∀ x∈m.memo,0<=x.r/\x.r<=1
 keys:apart m.memo
end Mm0
namespace Qc1
open Go.RowKit
open Nd0 Nd1 Qc0
theorem infoSn:(Tryz.prog.info? 40).map (fun i=>(i.zero,i.size,i.bytes))=some (some (.agg #[.string ByteArray.empty,.int .i64 0]),2,24):=by kernel_rfl
def zerosSn (n:Nat):Array Value:=madeCells #[.string ByteArray.empty,.int .i64 0] (n*2)
theorem makeSeens (n:Nat) (hn:n<=1048576) (w:World) :
 (Instr.makeSlice 28 (.int .i64 (n:Int)) (.int .i64 (n:Int))).run Tryz.prog w=.ok (.slice (some ⟨w.heap.size,0,none⟩) n n) (w.alloc (.cells (zerosSn n) 40)):=by
 obtain ⟨i,hi,hzz⟩:=Option.map_eq_some_iff.1 infoSn
 simp only [Prod.mk.injEq] at hzz
 obtain ⟨hz,hs,hb⟩:=hzz
 have h:=run_make (P:=Tryz.prog) w 28 40 i _ Tryz.underlying28 hi hz .i64 .i64 n n (by omega) (Int.le_refl _) (by rw [hb];omega) (by omega)
 rw [hs] at h
 simpa [zerosSn,Value.cells] using h
theorem zerosSn_get (n i j:Nat) (h:i < n) (hj:j < 2):(zerosSn n)[i*2+j]? = some (#[.string ByteArray.empty,.int .i64 0]:Array Value)[j]! := by
 simp only [zerosSn,madeCells,Array.getElem?_map,Array.getElem?_range]
 rw [if_pos (by omega)]
 simp only [Option.map_some]
 have e:(i*2+j) % 2=j:=by omega
 exact congrArg (fun m=>some ((#[.string ByteArray.empty,.int .i64 0]:Array Value)[m]!)) e
theorem zerosSn_at (w:World) (n:Nat) (T:Nat) (j:Nat) (hj:j < n):SnAt (w.alloc (.cells (zerosSn n) T)) w.heap.size (j*2) Sn.zero:=by
 refine ⟨by rw [World.cell?_alloc_new];exact zerosSn_get n j 0 hj (by omega),by rw [World.cell?_alloc_new];exact zerosSn_get n j 1 hj (by omega)⟩
end Qc1
namespace Tc2
open Go.RowKit
open Ta0 Ta1
open Ss0 (bs bs_size ret_str)
open Ss1 (tl tl_length tl_get tl_take bs_tl tl_bs)
theorem ret_int {k:IntKind} {a b:Int} (h:a=b):Ending.returned (.int k a)=.returned (.int k b):=by rw [h]
theorem ret_bool {a b:Bool} (h:a=b):Ending.returned (.bool a)=.returned (.bool b):=by rw [h]
theorem wsh {n:Nat} (h:n<=12):IntKind.i64.wrap ((2:Int) ^ n)=((2 ^ n:Nat):Int):=by
 have:=p12 h
 rw [pcast,IntKind.wrap_i64]<;>omega
theorem below_drewN {B:Nat} {u w:World} (h:Below B u w) (n:Nat):Below B u (w.drewN n):=⟨h.os,h.tape,h.output,h.size,h.block⟩
theorem sPow (n:Nat) (w:World) (h1:n<=12) :
 Calls Tryz.prog 89 #[.int .i64 (n:Int)] w fun e w'=>e=.returned (.int .i64 ((2 ^ n:Nat):Int))/\w'=w:=by
 go_enter Tryz.func89,Tryz.ntmps89
 go_wp2
 go_loop [3,4] (fun x i=>∃ k:Nat,k<=n/\i=.int .i64 k/\x=.int .i64 ((2 ^ k:Nat):Int)) (fun _ i=>n - (intOf i).toNat)
 case atStart=>exact ⟨0,Nat.zero_le _,rfl,rfl⟩
 case round =>
  obtain ⟨k,hk,rfl,rfl⟩:=hrel
  obtain ⟨hp,hl⟩:=p12 (n:=k) (by omega)
  have HS:Hid (2 ^ (k+1)=2*2 ^ k):=by show _=_;rw [Nat.pow_succ];omega
  generalize hP:2 ^ k=P at hp hl HS ⊢
  by_cases hlt:k < n
  ·clear hP
   go_wp2
   go_round
   case rel=>exact ⟨k+1,by omega,by go_num,by rw [HS.out];go_num⟩
   case measure=>simp [intOf];omega
  ·have HP:Hid (2 ^ k=P):=hP
   clear hP
   go_wp2
   go_ret
   have:k=n:=by omega
   subst this
   exact ⟨ret_int (by rw [pcast,HP.out]),rfl⟩
theorem sIn (x a b:Int) (w:World) :
 Calls Tryz.prog 29 #[.int .i64 x,.int .i64 a,.int .i64 b] w fun e w'=>e=.returned (.bool (decide (a<=x/\x<=b)))/\w'=w:=by
 by_cases h1:a<=x<;>by_cases h2:x<=b
 all_goals
  go_enter Tryz.func29,Tryz.ntmps29
  go_wp2
  go_ret
  exact ⟨ret_bool (by simp<;>omega),rfl⟩
theorem sInT {x a b:Int} (w:World) (h:a<=x/\x<=b) :
 Calls Tryz.prog 29 #[.int .i64 x,.int .i64 a,.int .i64 b] w fun e w'=>e=.returned (.bool true)/\w'=w:=by
 have:=sIn x a b w
 rwa [decide_eq_true h] at this
theorem sInF {x a b:Int} (w:World) (h:¬ (a<=x/\x<=b)) :
 Calls Tryz.prog 29 #[.int .i64 x,.int .i64 a,.int .i64 b] w fun e w'=>e=.returned (.bool false)/\w'=w:=by
 have:=sIn x a b w
 rwa [decide_eq_false h] at this
/-- The value of a table. -/
abbrev tv (N:Int) (S:ByteArray):Value:=.agg #[.int .i64 N,.string S]
theorem sTableOk (N:Int) (S:ByteArray) (w:World) (hS:S.size<=1048576) :
 Calls Tryz.prog 77 #[tv N S] w fun e w'=>e=.returned (.bool (tokB N (tl S)))/\Below w.heap.size w w':=by
 have HB:Hid (∀ k,Below w.heap.size w ((w.alloc (.cells #[.int .i64 N,.string S] 26)).drewN k)):=fun k=>below_drewN ((Below.refl _ _).alloc (Nat.le_refl _) _) k
 by_cases hN:0<=N/\N<=12
 ·obtain ⟨n,rfl⟩:=Int.eq_ofNat_of_zero_le hN.1
  have HI:Hid (∀ W,Calls Tryz.prog 29 #[.int .i64 (n:Int),.int .i64 0,.int .i64 12] W fun e w'=>e=.returned (.bool true)/\w'=W):=fun W=>sInT W hN
  have hn:n<=12:=by omega
  obtain ⟨hp,hl⟩:=p12 hn
  have HC:Hid (∀ W,Calls Tryz.prog 89 #[.int .i64 (n:Int)] W fun e w'=>e=.returned (.int .i64 ((2 ^ n:Nat):Int))/\w'=W):=fun W=>sPow n W hn
  have HL:Hid (S.size≠2 ^ n->tokB (n:Int) (tl S)=false):=fun h=>tok_len (by rw [tl_length,Int.toNat_natCast];exact h)
  have HT:Hid (S.size=2 ^ n->(∀ c∈tl S,c=48\/c=49)->tokB (n:Int) (tl S)=true):=fun h k=>decide_eq_true ⟨hN.1,hN.2,by rw [tl_length,Int.toNat_natCast];exact h,k⟩
  clear hN
  generalize 2 ^ n=P at hp hl HC HL HT
  by_cases hs:S.size=P
  ·have hsz:((S.size:Int) != (P:Int))=false:=by rw [hs];simp
   have HS:Hid (S.size=P):=hs
   have hS2:S.size<=4096:=by omega
   clear hs
   go_enter Tryz.func77,Tryz.ntmps77
   go_wp2_with fail
   go_quiet ((first|(go_at_call 29;exact Calls.quiet_of_same (HI.out _))|(go_at_call 89;exact Calls.quiet_of_same (HC.out _))))
   go_wp2
   go_loop [3] (fun i=>∃ k:Nat,k<=S.size/\i=.int .i64 k/\∀ c∈(tl S).take k,c=48\/c=49) (fun i=>S.size - (intOf i).toNat)
   case atStart=>exact ⟨0,Nat.zero_le _,rfl,fun c hc=>by simp at hc⟩
   case round =>
    obtain ⟨k,hk,rfl,hc⟩:=hrel
    have HK:Hid (∀ c∈(tl S).take k,c=48\/c=49):=hc
    clear hc
    by_cases hlt:k < S.size
    ·have hkz:(k:Int) < (S.size:Int):=by omega
     have HX:Hid ((tl S).take (k+1)=(tl S).take k++[S[k]]):=tl_take S k hlt
     have HM:Hid (S[k]∈tl S):=by
      show _∈_
      rw [tl_get S k hlt];exact List.getElem_mem _
     by_cases h8:S[k]=48
     ·have b8:((S[k].toNat:Int) != 48)=false:=by rw [h8];rfl
      have H8:Hid (S[k]=48\/S[k]=49):=.inl h8
      clear h8
      go_wp2
      go_round
      case rel=>exact ⟨k+1,by omega,by go_num,fun c hc=>by
       rw [HX.out] at hc
       rcases List.mem_append.1 hc with h|h
       ·exact HK.out c h
       ·rw [List.mem_singleton.1 h];exact H8.out⟩
      case measure=>simp [intOf];omega
     ·have b8:((S[k].toNat:Int) != 48)=true:=bne_iff_ne.2 fun e=>h8 (UInt8.toNat_inj.1 (by have:(48:UInt8).toNat=48:=rfl;omega))
      by_cases h9:S[k]=49
      ·have b9:((S[k].toNat:Int) != 49)=false:=by rw [h9];rfl
       have H8:Hid (S[k]=48\/S[k]=49):=.inr h9
       clear h8 h9
       go_wp2
       go_round
       case rel=>exact ⟨k+1,by omega,by go_num,fun c hc=>by
        rw [HX.out] at hc
        rcases List.mem_append.1 hc with h|h
        ·exact HK.out c h
        ·rw [List.mem_singleton.1 h];exact H8.out⟩
       case measure=>simp [intOf];omega
      ·have b9:((S[k].toNat:Int) != 49)=true:=bne_iff_ne.2 fun e=>h9 (UInt8.toNat_inj.1 (by have:(49:UInt8).toNat=49:=rfl;omega))
       have HF:Hid (tokB (n:Int) (tl S)=false):=tok_sign HM.out ⟨h8,h9⟩
       clear h8 h9
       go_wp2
       go_ret
       exact ⟨ret_bool HF.out.symm,HB.out _⟩
    ·have HF:Hid (tokB (n:Int) (tl S)=true):=HT.out HS.out (by
      have:=HK.out
      rwa [List.take_of_length_le (by rw [tl_length];omega)] at this)
     go_wp2
     go_ret
     exact ⟨ret_bool HF.out.symm,HB.out _⟩
  ·have hsz:((S.size:Int) != (P:Int))=true:=bne_iff_ne.2 (by omega)
   have HF:Hid (tokB (n:Int) (tl S)=false):=HL.out hs
   clear hs
   go_enter Tryz.func77,Tryz.ntmps77
   go_wp2_with fail
   go_quiet ((first|(go_at_call 29;exact Calls.quiet_of_same (HI.out _))|(go_at_call 89;exact Calls.quiet_of_same (HC.out _))))
   go_wp2
   go_ret
   exact ⟨ret_bool HF.out.symm,HB.out _⟩
 ·have HI:Hid (∀ W,Calls Tryz.prog 29 #[.int .i64 N,.int .i64 0,.int .i64 12] W fun e w'=>e=.returned (.bool false)/\w'=W):=fun W=>sInF W hN
  have HF:Hid (tokB N (tl S)=false):=tok_no hN
  clear hN
  go_enter Tryz.func77,Tryz.ntmps77
  go_wp2_with fail
  go_quiet ((go_at_call 29;exact Calls.quiet_of_same (HI.out _)))
  go_wp2
  go_ret
  exact ⟨ret_bool HF.out.symm,HB.out _⟩
theorem iTableOk (N:Int) (S:ByteArray) (w:World) (hS:S.size<=1048576) :
 Calls Tryz.prog 39 #[tv N S] w fun e w'=>e=.returned (.bool (tokB N (tl S)))/\Below w.heap.size w w':=by
 have HB:Hid (∀ k,Below w.heap.size w ((w.alloc (.cells #[.int .i64 N,.string S] 26)).drewN k)):=fun k=>below_drewN ((Below.refl _ _).alloc (Nat.le_refl _) _) k
 by_cases h0:N < 0
 ·have HF:Hid (tokB N (tl S)=false):=tok_no (by omega)
  go_enter Tryz.func39,Tryz.ntmps39
  go_wp2_with fail
  go_quiet (fail)
  go_wp2
  go_ret
  exact ⟨ret_bool HF.out.symm,HB.out _⟩
 by_cases h1:12 < N
 ·have HF:Hid (tokB N (tl S)=false):=tok_no (by omega)
  go_enter Tryz.func39,Tryz.ntmps39
  go_wp2_with fail
  go_quiet (fail)
  go_wp2
  go_ret
  exact ⟨ret_bool HF.out.symm,HB.out _⟩
 obtain ⟨n,rfl⟩:=Int.eq_ofNat_of_zero_le (by omega:0<=N)
 have hn:n<=12:=by omega
 obtain ⟨hp,hl⟩:=p12 hn
 have HL:Hid (S.size≠2 ^ n->tokB (n:Int) (tl S)=false):=fun h=>tok_len (by rw [tl_length,Int.toNat_natCast];exact h)
 have HT:Hid (S.size=2 ^ n->(∀ c∈tl S,c=48\/c=49)->tokB (n:Int) (tl S)=true):=fun h k=>decide_eq_true ⟨by omega,by omega,by rw [tl_length,Int.toNat_natCast];exact h,k⟩
 have hw:=wsh hn
 have hd0:decide ((n:Int) < 0)=false:=decide_eq_false (by omega)
 have hd1:decide (12 < (n:Int))=false:=decide_eq_false (by omega)
 generalize 2 ^ n=P at hp hl HL HT hw
 by_cases hs:S.size=P
 ·have hsz:((S.size:Int) != (P:Int))=false:=by rw [hs];simp
  have HS:Hid (S.size=P):=hs
  have hS2:S.size<=4096:=by omega
  clear hs
  go_enter Tryz.func39,Tryz.ntmps39
  go_wp2_with fail
  go_quiet (fail)
  go_wp2
  go_loop [24] (fun i=>∃ k:Nat,k<=S.size/\i=.int .i64 k/\∀ c∈(tl S).take k,c=48\/c=49) (fun i=>S.size - (intOf i).toNat)
  case atStart=>exact ⟨0,Nat.zero_le _,rfl,fun c hc=>by simp at hc⟩
  case round =>
   obtain ⟨k,hk,rfl,hc⟩:=hrel
   have HK:Hid (∀ c∈(tl S).take k,c=48\/c=49):=hc
   clear hc
   by_cases hlt:k < S.size
   ·have hkz:(k:Int) < (S.size:Int):=by omega
    have HX:Hid ((tl S).take (k+1)=(tl S).take k++[S[k]]):=tl_take S k hlt
    have HM:Hid (S[k]∈tl S):=by
     show _∈_
     rw [tl_get S k hlt];exact List.getElem_mem _
    by_cases h8:S[k]=48
    ·have b8:((S[k].toNat:Int) != 48)=false:=by rw [h8];rfl
     have H8:Hid (S[k]=48\/S[k]=49):=.inl h8
     clear h8
     go_wp2
     go_round
     case rel=>exact ⟨k+1,by omega,by go_num,fun c hc=>by
      rw [HX.out] at hc
      rcases List.mem_append.1 hc with h|h
      ·exact HK.out c h
      ·rw [List.mem_singleton.1 h];exact H8.out⟩
     case measure=>simp [intOf];omega
    ·have b8:((S[k].toNat:Int) != 48)=true:=bne_iff_ne.2 fun e=>h8 (UInt8.toNat_inj.1 (by have:(48:UInt8).toNat=48:=rfl;omega))
     by_cases h9:S[k]=49
     ·have b9:((S[k].toNat:Int) != 49)=false:=by rw [h9];rfl
      have H8:Hid (S[k]=48\/S[k]=49):=.inr h9
      clear h8 h9
      go_wp2
      go_round
      case rel=>exact ⟨k+1,by omega,by go_num,fun c hc=>by
       rw [HX.out] at hc
       rcases List.mem_append.1 hc with h|h
       ·exact HK.out c h
       ·rw [List.mem_singleton.1 h];exact H8.out⟩
      case measure=>simp [intOf];omega
     ·have b9:((S[k].toNat:Int) != 49)=true:=bne_iff_ne.2 fun e=>h9 (UInt8.toNat_inj.1 (by have:(49:UInt8).toNat=49:=rfl;omega))
      have HF:Hid (tokB (n:Int) (tl S)=false):=tok_sign HM.out ⟨h8,h9⟩
      clear h8 h9
      go_wp2
      go_ret
      exact ⟨ret_bool HF.out.symm,HB.out _⟩
   ·have HF:Hid (tokB (n:Int) (tl S)=true):=HT.out HS.out (by
     have:=HK.out
     rwa [List.take_of_length_le (by rw [tl_length];omega)] at this)
    go_wp2
    go_ret
    exact ⟨ret_bool HF.out.symm,HB.out _⟩
 ·have hsz:((S.size:Int) != (P:Int))=true:=bne_iff_ne.2 (by omega)
  have HF:Hid (tokB (n:Int) (tl S)=false):=HL.out hs
  clear hs
  go_enter Tryz.func39,Tryz.ntmps39
  go_wp2_with fail
  go_quiet (fail)
  go_wp2
  go_ret
  exact ⟨ret_bool HF.out.symm,HB.out _⟩
end Tc2
namespace Tc3
open Go.RowKit
open Ta0 Ta1 Tc2
open Ss0 (bs bs_size ret_str)
open Ss1 (tl tl_length tl_get tl_take bs_tl tl_bs tl_inj eqb)
/-- A table lies in the block g. -/
structure Tbx (W:World) (g:Nat) (N:Int) (S:ByteArray):Prop where
 c0:W.cell? ⟨g,0,none⟩=some (.int .i64 N)
 c1:W.cell? ⟨g,1,none⟩=some (.string S)
theorem Tbx.below {W W':World} {g:Nat} {N:Int} {S:ByteArray} (h:Tbx W g N S) (k:Below W.heap.size W W'):Tbx W' g N S:=by
 have hg:g < W.heap.size:=World.block_lt_of_cell? _ _ h.c0
 exact ⟨by rw [k.cell (p:=⟨g,0,none⟩) hg];exact h.c0,by rw [k.cell (p:=⟨g,1,none⟩) hg];exact h.c1⟩
theorem Tbx.made (w:World) (N:Int) (S:ByteArray) (T:Nat):Tbx (w.alloc (.cells #[.int .i64 N,.string S] T)) w.heap.size N S :=
 ⟨by simp,by simp⟩
theorem Tbx.alloc {W:World} {g:Nat} {N:Int} {S:ByteArray} (h:Tbx W g N S) (o:Obj):Tbx (W.alloc o) g N S :=
 h.below ((Below.refl _ _).alloc (Nat.le_refl _) _)
end Tc3
end Go.Proofs.YtjajkmdoggbicaaGreatDoor
