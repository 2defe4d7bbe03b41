import Derived.Deep.CutBlock
import Derived.Deep.CutRange
import Derived.Test.YtjajkmdoggbicaaGreatDoorPkST32
import Derived.Test.YtjajkmdoggbicaaGreatDoorPkST33
import Derived.Test.YtjajkmdoggbicaaGreatDoorMu9
import Derived.Test.YtjajkmdoggbicaaGreatDoorPkST19
import Derived.Test.YtjajkmdoggbicaaGreatDoorPkST6
import Derived.Test.YtjajkmdoggbicaaGreatDoorPkST14
namespace Go.Proofs.YtjajkmdoggbicaaGreatDoor
set_option maxRecDepth 100000
set_option maxHeartbeats 8000000
set_option linter.unusedVariables false
namespace Rd0
open Go.RowKit
open Ta0 Ta1 Tc2 Tdw Ap1 Ddr Mm0 Mx0 Mu2 Mu6 Mu8
open Nd0 (Kept set_same set_other lt_of_cell)
open Nd6 (Bools BoolsIn)
open Dr0 (Cur Only Bytes)
open Ss0 (bs bs_size)
open Ss1 (tl)
open Sa0 (startM sStart1)
theorem onlyB {b:Nat} {w w':World} (h:Below w.heap.size w w'):Only b w w':=⟨h.os,h.tape,h.output,h.size,fun k hk _=>h.block k hk⟩
theorem curB {w w':World} {b:Nat} {a:Option Addr} {len cap:Nat} (h:Cur w b a len cap) (k:Below w.heap.size w w'):Cur w' b a len cap:=cur_kept h (S:=fun _=>False) (Kept.ofBelow k) (fun h=>h) (.inr fun _ _ h=>h)
theorem pickP (w:World) (b:Nat) (a:Option Addr) (len cap:Nat) (c:Array Value) (T m:Nat) (P:Int->Prop) (h0:1<=m) (h1:m<=256) (hC:∀ i,i < m->∃ v:Int,c[i]? = some (.int .i64 v)/\P v) (hc:Cur w b a len cap) :
 Calls Tryz.prog 54 #[.pointer (some ⟨b,0,none⟩),.slice (some ⟨w.heap.size,0,none⟩) m m] (w.alloc (.cells c T)) fun e w'=>(∃ x:Int,e=.returned (.int .i64 x)/\P x)/\Cur w' b a len cap/\Only b w w':=by
 have hbl:=hc.lt
 have HC:Hid (Cur (w.alloc (.cells c T)) b a len cap):=hc.alloc _
 have HI:Hid (∀ i,i < m->∃ v:Int,(w.alloc (.cells c T)).cell? ⟨w.heap.size,i,none⟩=some (.int .i64 v)/\P v):=fun i hi=>by
  obtain ⟨v,hv,hp⟩:=hC i hi
  exact ⟨v,by rw [World.cell?_alloc_new];exact hv,hp⟩
 have HO:Hid (Only b w (w.alloc (.cells c T))):=(Only.refl b w).alloc _
 obtain ⟨W,hW⟩:∃ W,W=w.alloc (.cells c T):=⟨_,rfl⟩
 obtain ⟨g,hg⟩:∃ g,g=w.heap.size:=⟨_,rfl⟩
 rw [<- hW] at HC HI HO ⊢
 rw [<- hg] at HI ⊢
 have hgb:g≠b:=by omega
 clear hc hC hW hg hbl
 go_enter Tryz.func54,Tryz.ntmps54
 go_wp2_with fail
 refine (Dr1.below _ b a len cap _ (by omega) (by omega) HC.out).mono ?_
 rintro e w' ⟨⟨x,rfl,hx0,hx1⟩,hc',ho'⟩
 have HC':Hid (Cur w' b a len cap):=hc'
 have HO':Hid (Only b w w'):=HO.out.trans ho'
 obtain ⟨v,hv,hp⟩:=HI.out x.toNat (by omega)
 have hv':w'.cell? ⟨g,x.toNat,none⟩=some (.int .i64 v):=by rw [ho'.cell (lt_of_cell hv) hgb];exact hv
 have HP:Hid (P v):=hp
 clear hv hp hc' ho' HI HO HC
 go_wp2
 go_ret
 exact ⟨⟨_,rfl,HP.out⟩,HC'.out,HO'.out⟩
theorem rowS (w:World) (b:Nat) (a:Option Addr) (len cap:Nat) (n:Nat) (hn:n<=6) (hc:Cur w b a len cap) :
 Calls Tryz.prog 51 #[.pointer (some ⟨b,0,none⟩),.int .i64 (n:Int)] w fun e w'=>(∃ (g c:Nat) (l:List Bool),e=.returned (.slice (some ⟨g,0,none⟩) n c)/\l.length=n/\DB w b a len cap (.slice (some ⟨g,0,none⟩) n c) n w'/\Owb w' w.heap.size (.slice (some ⟨g,0,none⟩) n c) l):=by
 have HLO:Hid (Low a len w.heap.size):=low_of hc.bytes
 have hbl:b < w.heap.size:=hc.lt
 have HD0:Hid (DB w b a len cap (.slice (some ⟨w.heap.size,0,none⟩) 0 0) 0 (w.alloc (.cells #[] 4))) :=
  ⟨hc.alloc _,⟨[],rfl,Owb.lit w _ (Nat.le_refl _)⟩,by simp,(Only.refl _ _).alloc _⟩
 clear hc
 go_enter Tryz.func51,Tryz.ntmps51
 go_wp2
 go_loopw [5,6] (fun v i wr=>∃ k g c:Nat,k<=n/\i=.int .i64 k/\v=.slice (some ⟨g,0,none⟩) k c/\DB w b a len cap v k wr) (fun _ i _=>n - (intOf i).toNat)
 case atStart=>exact ⟨0,_,_,Nat.zero_le _,rfl,rfl,HD0.out⟩
 case round =>
  obtain ⟨k,gk,ck,hk,rfl,rfl,hdt⟩:=hrel
  have HD:Hid (DB w b a len cap (.slice (some ⟨gk,0,none⟩) k ck) k wr):=hdt
  clear hdt
  by_cases hlt:k < n
  ·have hkz:(k:Int) < (n:Int):=by omega
   go_wp2_with fail
   refine (Dr1.once _ b a len cap 2 (by omega) (by omega) HD.out.cur).mono ?_
   rintro e w3 ⟨⟨z,rfl⟩,hc3,ho3⟩
   have HD3:Hid (DB w b a len cap (.slice (some ⟨gk,0,none⟩) k ck) k w3):=HD.out.only hbl hc3 ho3
   clear hc3 ho3
   obtain ⟨l,hll,hol⟩:=HD3.out.own
   have HLL:Hid (l.length=k):=hll
   have HO:Hid (Owb w3 w.heap.size (.slice (some ⟨gk,0,none⟩) k ck) l):=hol
   have hsz:=HD3.out.siz
   clear hll hol
   go_wp2_with (at_builtin;go_must (refine app_bool _ rfl _ _ rfl w.heap.size (.slice (some ⟨gk,0,none⟩) k ck) l z rfl rfl HO.out hsz (by rw [HLL.out];omega) ?_;intro g5 cp5 w5 ho5 hk5 hg5;have HD5:Hid (DB w b a len cap (.slice (some ⟨g5,0,none⟩) (l.length+1) cp5) (k+1) w5):=HD3.out.next hbl HLO.out hk5 (by rw [List.length_append,HLL.out];rfl) ho5;clear ho5 hk5 hg5))
   go_roundw
   case rel=>exact ⟨k+1,_,_,by omega,by go_num,by rw [HLL.out],HD5.out⟩
   case measure=>simp [intOf];omega
  ·have hkn:k=n:=by omega
   subst hkn
   have hlz:¬ (k:Int) < (k:Int):=by omega
   go_wp2
   go_ret
   obtain ⟨l,hl,ho⟩:=HD.out.own
   first|exact ⟨_,_,l,rfl,hl,HD.out,ho⟩|exact ⟨_,_,rfl,l,hl,HD.out,ho⟩
/-- A machine that is drawn: at its start. -/
structure Dm (m:Mc) (n:Nat) (F:Nat->Bool):Prop where
 n6:n<=6
 is:∃ (row:List Bool) (room:Int),m=startM row (n:Int) (bs (tab n F)) room/\row.length=n/\0<=room/\room<=20
theorem Dm.ok {m:Mc} {n:Nat} {F:Nat->Bool} (h:Dm m n F):Mok m:=by
 obtain ⟨row,room,rfl,hl,h0,h1⟩:=h.is
 have h6:=h.n6
 refine ⟨by rw [show tl (startM row (n:Int) (bs (tab n F)) room).S=tab n F from Ss1.tl_bs _];exact tab_tok F (by omega),?_,⟨h0,?_⟩,?_,?_,⟨?_,?_⟩,?_,⟨?_,?_⟩,⟨?_,?_⟩,⟨?_,?_⟩,?_,?_,?_⟩<;>simp only [startM,List.length_nil]
 ·rw [hl]
 ·omega
 ·simpa using h0
 ·omega
 ·omega
 ·omega
 ·intro h;cases h
 ·omega
 ·omega
 ·omega
 ·omega
 ·omega
 ·omega
 ·intro x hx;cases hx
 ·intro x hx;cases hx
 ·intro i j hi;cases hi
theorem start (w:World) (b:Nat) (a:Option Addr) (len cap:Nat) (hc:Cur w b a len cap) :
 Calls Tryz.prog 21 #[.pointer (some ⟨b,0,none⟩)] w fun e w'=>(∃ (n:Nat) (F:Nat->Bool) (m:Mc) (g c:Nat),e=.returned (mval m (some ⟨g,0,none⟩) none none c 0 0)/\Dm m n F/\(∃ B U,w.heap.size<=B/\BoolsIn w' B U (some ⟨g,0,none⟩) m.row)/\m.vals=[]/\m.memo=[])/\Cur w' b a len cap/\Only b w w':=by
 have hbl:=hc.lt
 obtain ⟨W0,hW0⟩:∃ W,W=w.alloc (.cells #[.slice none 0 0,.int .i64 0,.string ⟨#[]⟩,.int .i64 0,.slice none 0 0,.int .i64 0,.bool false,.int .i64 0,.int .i64 0,.int .i64 0,.slice none 0 0] 30):=⟨_,rfl⟩
 have HE0:Hid (w.alloc (.cells #[.slice none 0 0,.int .i64 0,.string ⟨#[]⟩,.int .i64 0,.slice none 0 0,.int .i64 0,.bool false,.int .i64 0,.int .i64 0,.int .i64 0,.slice none 0 0] 30)=W0):=hW0.symm
 have HC0:Hid (Cur W0 b a len cap):=by rw [hW0];exact hc.alloc _
 have HO0:Hid (Only b w W0):=by rw [hW0];exact (Only.refl b w).alloc _
 have HM0:Hid (Mf W0 w.heap.size [.slice none 0 0,.int .i64 0,.string ⟨#[]⟩,.int .i64 0,.slice none 0 0,.int .i64 0,.bool false,.int .i64 0,.int .i64 0,.int .i64 0,.slice none 0 0]):=by rw [hW0];exact Mf.made _ _ _
 have hc0:Bytes w a len:=hc.bytes
 clear hW0 hc
 go_enter Tryz.func21,Tryz.ntmps21
 go_wp2_with fail
 rw [HE0.out]
 clear HE0
 refine (Dr1.below _ b a len cap 7 (by omega) (by omega) HC0.out).mono ?_
 rintro e w1 ⟨⟨x,rfl,hx0,hx1⟩,hc1,ho1⟩
 obtain ⟨n,rfl⟩:=Int.eq_ofNat_of_zero_le hx0
 have hn:n<=6:=by omega
 have HC1:Hid (Cur w1 b a len cap):=hc1
 have HO1:Hid (Only b w w1):=HO0.out.trans ho1
 have HM1:Hid (Mf w1 w.heap.size [.slice none 0 0,.int .i64 0,.string ⟨#[]⟩,.int .i64 0,.slice none 0 0,.int .i64 0,.bool false,.int .i64 0,.int .i64 0,.int .i64 0,.slice none 0 0]):=HM0.out.kept (kept_of_only ho1) (fun h=>by have h':w.heap.size=b:=h;omega)
 clear hc1 ho1 HC0 HO0 HM0 hx0 hx1
 go_wp2_with fail
 refine (rowS _ b a len cap n hn HC1.out).mono ?_
 rintro e w2 ⟨g,c,row,rfl,hrl,hdb,hob⟩
 have HC2:Hid (Cur w2 b a len cap):=hdb.cur
 have HO2:Hid (Only b w w2):=HO1.out.trans hdb.onl
 have HM2:Hid (Mf w2 w.heap.size [.slice none 0 0,.int .i64 0,.string ⟨#[]⟩,.int .i64 0,.slice none 0 0,.int .i64 0,.bool false,.int .i64 0,.int .i64 0,.int .i64 0,.slice none 0 0]):=HM1.out.kept (kept_of_only hdb.onl) (fun h=>by have h':w.heap.size=b:=h;omega)
 have HRW:Hid (Owb w2 w1.heap.size (.slice (some ⟨g,0,none⟩) n c) row):=hob
 have HRL:Hid (row.length=n):=hrl
 have hbw1:b < w1.heap.size:=HC1.out.lt
 clear hdb hob hrl HC1 HO1 HM1
 go_wp2_with fail
 refine (Tdw.l06Table _ b a len cap n hn HC2.out).mono ?_
 rintro e w3 ⟨⟨F,rfl⟩,hc3,ho3⟩
 have HC3:Hid (Cur w3 b a len cap):=hc3
 have HO3:Hid (Only b w w3):=HO2.out.trans ho3
 have HM3:Hid (Mf w3 w.heap.size [.slice none 0 0,.int .i64 0,.string ⟨#[]⟩,.int .i64 0,.slice none 0 0,.int .i64 0,.bool false,.int .i64 0,.int .i64 0,.int .i64 0,.slice none 0 0]):=HM2.out.kept (kept_of_only ho3) (fun h=>by have h':w.heap.size=b:=h;omega)
 have HR3:Hid (Owb w3 w1.heap.size (.slice (some ⟨g,0,none⟩) n c) row):=HRW.out.kept (kept_of_only ho3) (fun i hi e=>by have:=(HRW.out.lt i hi).1;have e':i=b:=e;omega)
 clear hc3 ho3 HC2 HO2 HM2 HRW
 go_wp2_with fail
 refine (pickP w3 b a len cap _ _ 4 (fun x=>0<=x/\x<=20) (by omega) (by omega) (fun i hi=>by
  rcases (show i=0\/i=1\/i=2\/i=3 by omega) with h|h|h|h<;>subst h<;>exact ⟨_,rfl,by omega,by omega⟩) HC3.out).mono ?_
 rintro e w4 ⟨⟨room,rfl,hr0,hr1⟩,hc4,ho4⟩
 have HC4:Hid (Cur w4 b a len cap):=hc4
 have HO4:Hid (Only b w w4):=HO3.out.trans ho4
 have HM4:Hid (Mf w4 w.heap.size [.slice none 0 0,.int .i64 0,.string ⟨#[]⟩,.int .i64 0,.slice none 0 0,.int .i64 0,.bool false,.int .i64 0,.int .i64 0,.int .i64 0,.slice none 0 0]):=HM3.out.kept (kept_of_only ho4) (fun h=>by have h':w.heap.size=b:=h;omega)
 have hR4:Owb w4 w1.heap.size (.slice (some ⟨g,0,none⟩) n c) row:=HR3.out.kept (kept_of_only ho4) (fun i hi e=>by have:=(HR3.out.lt i hi).1;have e':i=b:=e;omega)
 have HB4:Hid (Bools w4 (some ⟨g,0,none⟩) row):=by
  obtain ⟨a9,c9,e9,h9⟩:=hR4.form
  cases e9
  exact Nd6.WBools.plain h9
 clear hc4 ho4 HC3 HO3 HM3 HR3 hR4
 have htok:tokB (n:Int) (tl (bs (tab n F)))=true:=by rw [show tl (bs (tab n F))=tab n F from Ss1.tl_bs _];exact tab_tok F (by omega)
 have hsz:(bs (tab n F)).size<=1048576:=by
  rw [bs_size,tab_length]
  have:2 ^ n<=2 ^ 6:=Nat.pow_le_pow_right (by omega) hn
  omega
 have HST:Hid _:=sStart1 g 0 c row (n:Int) (bs (tab n F)) room w4 hsz (by rw [HRL.out];omega) HB4.out ⟨⟨htok,by rw [HRL.out]⟩,hr0,by omega⟩
 have HDM:Hid (Dm (startM row (n:Int) (bs (tab n F)) room) n F):=⟨hn,row,room,rfl,HRL.out,hr0,hr1⟩
 rw [HRL.out] at HST
 clear htok hsz
 generalize bs (tab n F)=S at *
 obtain ⟨m,hm⟩:∃ m,m=startM row (n:Int) S room:=⟨_,rfl⟩
 have HV:Hid (m.vals=[]/\m.memo=[]/\m.row=row):=by rw [hm];exact ⟨rfl,rfl,rfl⟩
 rw [<- hm] at HST HDM
 clear hm
 have hbw4:b < w4.heap.size:=HC4.out.lt
 have hrw4:w.heap.size < w4.heap.size:=HM4.out.lt (by simp)
 go_wp2_with fail
 refine Calls.mono HST.out ?_
 rintro e w5 ⟨g5,c5,rfl,hbi,hb5⟩
 have HC5:Hid (Cur w5 b a len cap):=curB HC4.out hb5
 have HO5:Hid (Only b w w5):=HO4.out.trans (onlyB hb5)
 have HM5:Hid (Mf w5 w.heap.size [.slice none 0 0,.int .i64 0,.string ⟨#[]⟩,.int .i64 0,.slice none 0 0,.int .i64 0,.bool false,.int .i64 0,.int .i64 0,.int .i64 0,.slice none 0 0]):=HM4.out.below hb5
 have HBI:Hid (BoolsIn w5 w4.heap.size w5.heap.size (some ⟨g5,0,none⟩) row):=hbi
 have hs5:w4.heap.size<=w5.heap.size:=hb5.size
 clear hbi hb5 HC4 HO4 HM4 HB4 HST
 go_upto_region 4 with fail
 obtain ⟨y,hy⟩:∃ y,y=w5.alloc (.cells #[.slice (some ⟨g5,0,none⟩) m.row.length c5,.int .i64 m.N,.string m.S,.int .i64 m.room,.slice none m.vals.length 0,.int .i64 m.ret,.bool m.over,.int .i64 m.steps,.int .i64 m.looks,.int .i64 m.hits,.slice none m.memo.length 0] 30):=⟨_,rfl⟩
 obtain ⟨q,hq⟩:∃ q,q=w5.heap.size:=⟨_,rfl⟩
 have hby:Below w5.heap.size w5 y:=by rw [hy];exact (Below.refl _ _).alloc (Nat.le_refl _) _
 have HQ:Hid (Mb y q m (some ⟨g5,0,none⟩) none none c5 0 0):=by rw [hy,hq];exact Mb.made _ _ _ _ _ _ _ _ _
 rw [<- hy,<- hq]
 have hqw:w.heap.size < q:=by omega
 have HC6:Hid (Cur y b a len cap):=curB HC5.out hby
 have HO6:Hid (Only b w y):=HO5.out.trans (onlyB hby)
 have HM6:Hid (Mf y w.heap.size [.slice none 0 0,.int .i64 0,.string ⟨#[]⟩,.int .i64 0,.slice none 0 0,.int .i64 0,.bool false,.int .i64 0,.int .i64 0,.int .i64 0,.slice none 0 0]):=HM5.out.below hby
 have HBI6:Hid (BoolsIn y w4.heap.size w5.heap.size (some ⟨g5,0,none⟩) row):=HBI.out.below hby
 clear hy hq hby HC5 HO5 HM5 HBI
 obtain ⟨q0,q1,q2,q3,q4,q5,q6,q7,q8,q9,q10⟩:=HQ.out
 obtain ⟨r0,r1,r2,r3,r4,r5,r6,r7,r8,r9,r10,f0,f1,f2,f3,f4,f5,f6,f7,f8,f9,f10⟩:=HM6.out.all
 go_wp2
 clear q0 r0 f0 q1 r1 f1 q2 r2 f2 q3 r3 f3 q4 r4 f4 q5 r5 f5 q6 r6 f6 q7 r7 f7 q8 r8 f8 q9 r9 f9 q10 r10 f10
 obtain ⟨WF,hWF⟩:∃ WF,WF=(((((((((((y).setCell ⟨w.heap.size,0,none⟩ (.slice (some ⟨g5,0,none⟩) m.row.length c5)).setCell ⟨w.heap.size,1,none⟩ (.int .i64 m.N)).setCell ⟨w.heap.size,2,none⟩ (.string m.S)).setCell ⟨w.heap.size,3,none⟩ (.int .i64 m.room)).setCell ⟨w.heap.size,4,none⟩ (.slice none m.vals.length 0)).setCell ⟨w.heap.size,5,none⟩ (.int .i64 m.ret)).setCell ⟨w.heap.size,6,none⟩ (.bool m.over)).setCell ⟨w.heap.size,7,none⟩ (.int .i64 m.steps)).setCell ⟨w.heap.size,8,none⟩ (.int .i64 m.looks)).setCell ⟨w.heap.size,9,none⟩ (.int .i64 m.hits)).setCell ⟨w.heap.size,10,none⟩ (.slice none m.memo.length 0):=⟨_,rfl⟩
 rw [<- hWF]
 have KF:Kept (fun k=>k=w.heap.size) y WF:=by
  rw [hWF]
  exact (((((((((((Kept.refl (fun k=>k=w.heap.size) y).setCell (p:=⟨w.heap.size,0,none⟩) rfl _).setCell (p:=⟨w.heap.size,1,none⟩) rfl _).setCell (p:=⟨w.heap.size,2,none⟩) rfl _).setCell (p:=⟨w.heap.size,3,none⟩) rfl _).setCell (p:=⟨w.heap.size,4,none⟩) rfl _).setCell (p:=⟨w.heap.size,5,none⟩) rfl _).setCell (p:=⟨w.heap.size,6,none⟩) rfl _).setCell (p:=⟨w.heap.size,7,none⟩) rfl _).setCell (p:=⟨w.heap.size,8,none⟩) rfl _).setCell (p:=⟨w.heap.size,9,none⟩) rfl _).setCell (p:=⟨w.heap.size,10,none⟩) rfl _
 have HF:Mf WF w.heap.size [.slice (some ⟨g5,0,none⟩) m.row.length c5,.int .i64 m.N,.string m.S,.int .i64 m.room,.slice none m.vals.length 0,.int .i64 m.ret,.bool m.over,.int .i64 m.steps,.int .i64 m.looks,.int .i64 m.hits,.slice none m.memo.length 0]:=by
  rw [hWF]
  exact (((((((((((HM6.out).set 0 (.slice (some ⟨g5,0,none⟩) m.row.length c5)).set 1 (.int .i64 m.N)).set 2 (.string m.S)).set 3 (.int .i64 m.room)).set 4 (.slice none m.vals.length 0)).set 5 (.int .i64 m.ret)).set 6 (.bool m.over)).set 7 (.int .i64 m.steps)).set 8 (.int .i64 m.looks)).set 9 (.int .i64 m.hits)).set 10 (.slice none m.memo.length 0)
 obtain ⟨r0,r1,r2,r3,r4,r5,r6,r7,r8,r9,r10,f0,f1,f2,f3,f4,f5,f6,f7,f8,f9,f10⟩:=HF.all
 refine bodyPost_ret (v:=mval m (some ⟨g5,0,none⟩) none none c5 0 0) (by simp [results,Tryz.results21,go_sem,r0,r1,r2,r3,r4,r5,r6,r7,r8,r9,r10]) rfl ⟨⟨n,F,m,g5,c5,rfl,HDM.out,?_⟩,?_,?_⟩
 ·exact ⟨⟨w4.heap.size,w5.heap.size,by omega,by rw [HV.out.2.2];exact HBI6.out.kept KF (fun k h1 h2 h3=>by have h4:k=w.heap.size:=h3;omega)⟩,HV.out.1,HV.out.2.1⟩
 ·exact cur_kept HC6.out KF (fun h=>by have h':b=w.heap.size:=h;omega) (by
   rcases low_of hc0 with h0|h0
   ·exact .inl h0
   ·exact .inr fun x hx e=>by have:=h0 x hx;have e':x.block=w.heap.size:=e;omega)
 ·exact ⟨KF.os.trans HO6.out.os,KF.tape.trans HO6.out.tape,KF.output.trans HO6.out.output,Nat.le_trans HO6.out.size KF.size,fun k hk hkb=>(KF.block k (Nat.lt_of_lt_of_le hk HO6.out.size) (fun h=>by have h':k=w.heap.size:=h;omega)).trans (HO6.out.block k hk hkb)⟩
end Rd0
namespace Mw0
open Go.RowKit
open Nd0 (Kept Ints lt_of_cell set_same set_other)
open Mm0 Mx0 Mu2 Mi5 Te1
open Ta1 Tc2 Td1 Mc0 Mm1
open Ss0 (bs)
/-- A machine at work lies in the block p: the machine's eleven cells and its map. -/
def Sb (W:World) (p:Nat) (m:Mc) (ra va ma:Option Addr) (rc vc mc bm:Nat):Prop:=Mf W p [.slice ra m.row.length rc,.int .i64 m.N,.string m.S,.int .i64 m.room,.slice va m.vals.length vc,.int .i64 m.ret,.bool m.over,.int .i64 m.steps,.int .i64 m.looks,.int .i64 m.hits,.slice ma m.memo.length mc,.map (some bm)]
structure Sz (W:World) (p:Nat) (m:Mc) (ra va ma:Option Addr) (rc vc mc bm:Nat):Prop where
 c0:W.cell? ⟨p,0,none⟩=some (.slice ra m.row.length rc)
 c1:W.cell? ⟨p,1,none⟩=some (.int .i64 m.N)
 c2:W.cell? ⟨p,2,none⟩=some (.string m.S)
 c3:W.cell? ⟨p,3,none⟩=some (.int .i64 m.room)
 c4:W.cell? ⟨p,4,none⟩=some (.slice va m.vals.length vc)
 c5:W.cell? ⟨p,5,none⟩=some (.int .i64 m.ret)
 c6:W.cell? ⟨p,6,none⟩=some (.bool m.over)
 c7:W.cell? ⟨p,7,none⟩=some (.int .i64 m.steps)
 c8:W.cell? ⟨p,8,none⟩=some (.int .i64 m.looks)
 c9:W.cell? ⟨p,9,none⟩=some (.int .i64 m.hits)
 c10:W.cell? ⟨p,10,none⟩=some (.slice ma m.memo.length mc)
 c11:W.cell? ⟨p,11,none⟩=some (.map (some bm))
 z0:W.frozen? ⟨p,0,none⟩=false
 z1:W.frozen? ⟨p,1,none⟩=false
 z2:W.frozen? ⟨p,2,none⟩=false
 z3:W.frozen? ⟨p,3,none⟩=false
 z4:W.frozen? ⟨p,4,none⟩=false
 z5:W.frozen? ⟨p,5,none⟩=false
 z6:W.frozen? ⟨p,6,none⟩=false
 z7:W.frozen? ⟨p,7,none⟩=false
 z8:W.frozen? ⟨p,8,none⟩=false
 z9:W.frozen? ⟨p,9,none⟩=false
 z10:W.frozen? ⟨p,10,none⟩=false
 z11:W.frozen? ⟨p,11,none⟩=false
theorem Sb.all {W:World} {p:Nat} {m:Mc} {ra va ma:Option Addr} {rc vc mc bm:Nat} (h:Sb W p m ra va ma rc vc mc bm):Sz W p m ra va ma rc vc mc bm :=
 ⟨(h 0 (by simp)).1,(h 1 (by simp)).1,(h 2 (by simp)).1,(h 3 (by simp)).1,(h 4 (by simp)).1,(h 5 (by simp)).1,(h 6 (by simp)).1,(h 7 (by simp)).1,(h 8 (by simp)).1,(h 9 (by simp)).1,(h 10 (by simp)).1,(h 11 (by simp)).1,(h 0 (by simp)).2,(h 1 (by simp)).2,(h 2 (by simp)).2,(h 3 (by simp)).2,(h 4 (by simp)).2,(h 5 (by simp)).2,(h 6 (by simp)).2,(h 7 (by simp)).2,(h 8 (by simp)).2,(h 9 (by simp)).2,(h 10 (by simp)).2,(h 11 (by simp)).2⟩
theorem Sb.kept {W W':World} {p:Nat} {m:Mc} {ra va ma:Option Addr} {rc vc mc bm:Nat} (h:Sb W p m ra va ma rc vc mc bm) {S:Nat->Prop} (k:Kept S W W') (hs:¬ S p):Sb W' p m ra va ma rc vc mc bm:=Mf.kept h k hs
theorem Sb.below {W W':World} {p:Nat} {m:Mc} {ra va ma:Option Addr} {rc vc mc bm:Nat} (h:Sb W p m ra va ma rc vc mc bm) (k:Below W.heap.size W W'):Sb W' p m ra va ma rc vc mc bm:=Mf.below h k
theorem Sb.lt {W:World} {p:Nat} {m:Mc} {ra va ma:Option Addr} {rc vc mc bm:Nat} (h:Sb W p m ra va ma rc vc mc bm):p < W.heap.size:=Mf.lt h (by simp)
theorem iEnd (w:World) (p:Nat) (m:Mc) (ra va ma:Option Addr) (rc vc mc bm:Nat) (h:Sb w p m ra va ma rc vc mc bm) :
 Calls Tryz.prog 65 #[.pointer (some ⟨p,0,none⟩)] w fun e w'=>e=.returned (.tuple #[])/\Sb w' p { m with over:=true } ra va ma rc vc mc bm/\Kept (fun b=>b=p) w w':=by
 have H:Hid (Sb w p m ra va ma rc vc mc bm):=h
 obtain ⟨c0,c1,c2,c3,c4,c5,c6,c7,c8,c9,c10,c11,z0,z1,z2,z3,z4,z5,z6,z7,z8,z9,z10,z11⟩:=h.all
 clear h
 have hp:=H.out.lt
 go_enter Tryz.func65,Tryz.ntmps65
 go_wp2
 clear c0 c1 c2 c3 c4 c5 c6 c7 c8 c9 c10 c11 z0 z1 z2 z3 z4 z5 z6 z7 z8 z9 z10 z11
 exact bodyPost_end (v:=.tuple #[]) (by simp [results,Tryz.results65,go_sem]) rfl ⟨rfl,H.out.set 6 (.bool true),(Kept.refl (fun b=>b=p) w).setCell (p:=⟨p,6,none⟩) rfl _⟩
theorem iLook (n:Nat) (F:Nat->Bool) (vb:List Bool) (w:World) (p:Nat) (m:Mc) (ra va ma:Option Addr) (rc vc mc bm:Nat) (hn:n<=12) (hN:m.N=(n:Int)) (hS:m.S=bs (tab n F)) (hv:m.vals=vb.map bi) (hk:vb.length<=n) (hlo:0<=m.looks/\m.looks<=1000000000) (hI:Ints w va m.vals) (h:Sb w p m ra va ma rc vc mc bm) :
 Calls Tryz.prog 62 #[.pointer (some ⟨p,0,none⟩)] w fun e w'=>e=.returned (.tuple #[])/\Sb w' p { m with ret:=knw (n - vb.length) (lft n F vb),looks:=m.looks+1 } ra va ma rc vc mc bm/\Kept (fun b=>b=p) w w':=by
 have H:Hid (Sb w p m ra va ma rc vc mc bm):=h
 have HLF:Hid (∀ W,Below w.heap.size w W->Calls Tryz.prog 49 #[mval m ra va ma rc vc mc] W fun e w'=>e=.returned (tv ((n - vb.length:Nat):Int) (bs (tab (n - vb.length) (lft n F vb))))/\Below W.heap.size W w'):=fun W hb=>iLeft n F vb m ra va ma rc vc mc W hn hN hS hv hk (hI.below hb)
 have HKN:Hid (∀ W,Calls Tryz.prog 91 #[tv ((n - vb.length:Nat):Int) (bs (tab (n - vb.length) (lft n F vb)))] W fun e w'=>e=.returned (.int .i64 (knw (n - vb.length) (lft n F vb)))/\Below W.heap.size W w'):=fun W=>iKnown _ _ W (by omega)
 clear hN hS hv hk hI hn
 generalize knw (n - vb.length) (lft n F vb)=kn at *
 generalize tv ((n - vb.length:Nat):Int) (bs (tab (n - vb.length) (lft n F vb)))=TT at *
 obtain ⟨c0,c1,c2,c3,c4,c5,c6,c7,c8,c9,c10,c11,z0,z1,z2,z3,z4,z5,z6,z7,z8,z9,z10,z11⟩:=h.all
 clear h
 have hp:=H.out.lt
 go_enter Tryz.func62,Tryz.ntmps62
 go_wp2_with fail
 clear c0 c1 c2 c3 c4 c5 c6 c7 c8 c9 c10 c11 z0 z1 z2 z3 z4 z5 z6 z7 z8 z9 z10 z11 hp
 refine (HLF.out _ (Below.refl _ _)).mono ?_
 rintro _ x1 ⟨rfl,hb⟩
 have H1:Hid (Sb x1 p m ra va ma rc vc mc bm):=H.out.below hb
 have HB1:Hid (Below w.heap.size w x1):=hb
 clear hb
 go_wp2_with fail
 refine (HKN.out _).mono ?_
 rintro _ x2 ⟨rfl,hb⟩
 have H2:Hid (Sb x2 p m ra va ma rc vc mc bm):=H1.out.below hb
 have HB2:Hid (Below w.heap.size w x2):=HB1.out.trans (hb.mono HB1.out.size)
 clear hb
 obtain ⟨c0,c1,c2,c3,c4,c5,c6,c7,c8,c9,c10,c11,z0,z1,z2,z3,z4,z5,z6,z7,z8,z9,z10,z11⟩:=H2.out.all
 go_wp2
 clear c0 c1 c2 c3 c4 c5 c6 c7 c8 c9 c10 c11 z0 z1 z2 z3 z4 z5 z6 z7 z8 z9 z10 z11
 exact bodyPost_end (v:=.tuple #[]) (by simp [results,Tryz.results62,go_sem]) rfl ⟨rfl,(H2.out.set 5 (.int .i64 kn)).set 8 (.int .i64 (m.looks+1)),((Kept.ofBelow HB2.out:Kept (fun b=>b=p) w x2).setCell (p:=⟨p,5,none⟩) rfl _).setCell (p:=⟨p,8,none⟩) rfl _⟩
end Mw0
namespace Mw1
open Go.RowKit
open Nd0 (Kept Ints lt_of_cell At)
open Ap0 Mm0 Mx0 Mu2 Mu4 Mw0
theorem iTurn (vl:List Int) (w:World) (p B g:Nat) (m:Mc) (ra va ma:Option Addr) (rc vc mc bm:Nat) (hv:m.vals=vl++[0]) (hl:vl.length<=12) (hva:va=some ⟨g,0,none⟩) (hpg:p≠g) (ho:Ows w B (.slice va m.vals.length vc) m.vals) (h:Sb w p m ra va ma rc vc mc bm) :
 Calls Tryz.prog 67 #[.pointer (some ⟨p,0,none⟩)] w fun e w'=>e=.returned (.tuple #[])/\Sb w' p { m with vals:=vl++[1],ret := -1 } ra va ma rc vc mc bm/\Ows w' B (.slice va (vl++[1]).length vc) (vl++[1])/\Kept (fun b=>b=p\/b=g) w w':=by
 have H:Hid (Sb w p m ra va ma rc vc mc bm):=h
 have hvl:m.vals.length=vl.length+1:=by rw [hv,List.length_append];rfl
 have ho2:=ho
 rw [hva] at ho2
 have hcell:=(World.ownsRow.cellAt (w:=w) ho2 vl.length (by omega)).trans (by rw [hv];simp:_=some (.int .i64 0))
 have hzz:w.frozen? ⟨g,vl.length,none⟩=false:=World.ownsRow.frozenAt ho2 _
 have HO:Hid (Ows w B (.slice (some ⟨g,0,none⟩) m.vals.length vc) m.vals):=ho2
 have HVV:Hid (m.vals=vl++[0]):=hv
 have HVLN:Hid (m.vals.length=vl.length+1):=hvl
 have HVA:Hid (va=some ⟨g,0,none⟩):=hva
 obtain ⟨c0,c1,c2,c3,c4,c5,c6,c7,c8,c9,c10,c11,z0,z1,z2,z3,z4,z5,z6,z7,z8,z9,z10,z11⟩:=h.all
 rw [hvl,hva] at c4
 have hp:=H.out.lt
 have hg:=lt_of_cell hcell
 have hgp:¬ g=p:=fun e=>hpg e.symm
 have hpg2:¬ p=g:=hpg
 clear h ho ho2 hv hvl hva
 clear c0 c1 c2 c3 c6 c7 c8 c9 c10 c11 z0 z1 z2 z3 z4 z6 z7 z8 z9 z10 z11
 go_enter Tryz.func67,Tryz.ntmps67
 go_wp2_with fail
 go_region
 obtain ⟨Y,hY⟩:∃ Y,Y=(w.setCell ⟨g,vl.length,none⟩ (.int .i64 1)).drew:=⟨_,rfl⟩
 have KY:Kept (fun b=>b=g) w Y:=by rw [hY];exact ((Kept.refl (fun b=>b=g) w).setCell (p:=⟨g,vl.length,none⟩) rfl _).drew
 rw [<- hY]
 have HY:Hid (Sb Y p m ra va ma rc vc mc bm):=H.out.kept KY (fun e=>hpg e)
 have HKY:Hid (Kept (fun b=>b=g) w Y):=KY
 have HOY:Hid (Ows Y B (.slice va (vl++[1]).length vc) (vl++[1])):=by
  have hs:m.vals.set vl.length 1=vl++[1]:=by rw [HVV.out];simp
  have h3:=ows_set HO.out vl.length 1
  rw [hs] at h3
  rw [HVA.out,hY]
  exact h3.kept (S:=fun _=>False) (Kept.refl _ _).drew (fun _ _ h=>h)
 clear KY hY c4 c5 z5 hcell hzz hg
 obtain ⟨c0,c1,c2,c3,c4,c5,c6,c7,c8,c9,c10,c11,z0,z1,z2,z3,z4,z5,z6,z7,z8,z9,z10,z11⟩:=HY.out.all
 have hp2:=HY.out.lt
 clear c0 c1 c2 c3 c4 c6 c7 c8 c9 c10 c11 z0 z1 z2 z3 z4 z6 z7 z8 z9 z10 z11
 go_wp2
 have K2:Kept (fun b=>b=p\/b=g) Y (Y.setCell ⟨p,5,none⟩ (.int .i64 (-1))):=(Kept.refl (fun b=>b=p\/b=g) Y).setCell (p:=⟨p,5,none⟩) (.inl rfl) _
 have K3:Kept (fun b=>b=p) Y (Y.setCell ⟨p,5,none⟩ (.int .i64 (-1))):=(Kept.refl (fun b=>b=p) Y).setCell (p:=⟨p,5,none⟩) rfl _
 refine bodyPost_end (v:=.tuple #[]) (by simp [results,Tryz.results67,go_sem]) rfl ⟨rfl,?_,HOY.out.kept K3 (fun i hi e=>?_),(HKY.out.mono (fun b hb=>.inr hb)).trans K2⟩
 ·have h1:=HY.out.set 5 (.int .i64 (-1))
  have e:(vl++[1]).length=m.vals.length:=by rw [HVLN.out,List.length_append];rfl
  show Mf _ _ _
  rw [e]
  exact h1
 ·rw [HVA.out] at hi
  have:g=i:=by simpa [Value.ownBlock] using hi
  omega
theorem iGoDown (w:World) (p B:Nat) (m:Mc) (ra va ma:Option Addr) (rc vc mc bm:Nat) (hl:m.vals.length<=12) (hB:B<=w.heap.size) (hpv:∀ x,va=some x->x.block≠p) (ho:Ows w B (.slice va m.vals.length vc) m.vals) (h:Sb w p m ra va ma rc vc mc bm) :
 Calls Tryz.prog 64 #[.pointer (some ⟨p,0,none⟩)] w fun e w'=>e=.returned (.tuple #[])/\∃ g cp,Sb w' p { m with vals:=m.vals++[0] } ra (some ⟨g,0,none⟩) ma rc cp mc bm/\Ows w' B (.slice (some ⟨g,0,none⟩) (m.vals++[0]).length cp) (m.vals++[0])/\Kept (fun b=>b=p\/At va b) w w'/\(At va g\/w.heap.size<=g):=by
 have H:Hid (Sb w p m ra va ma rc vc mc bm):=h
 have HO:Hid (Ows w B (.slice va m.vals.length vc) m.vals):=ho
 have hp:=h.lt
 have c4:w.cell? ⟨p,4,none⟩=some (.slice va m.vals.length vc):=h.all.c4
 have HVP:Hid (∀ x,va=some x->x.block≠p):=hpv
 have HNP:Hid (∀ k,((.slice va m.vals.length vc):Value).ownBlock=some k->k≠p):=fun k hk=>by
  cases va with
  | none=>cases hk
  | some x =>
    have:=hpv x rfl
    simp [Value.ownBlock] at hk
    omega
 clear h ho hpv
 go_enter Tryz.func64,Tryz.ntmps64
 go_wp2_with (at_builtin;go_must (refine app_int w rfl _ _ rfl B (.slice va m.vals.length vc) m.vals 0 rfl rfl HO.out hB (by omega) ?_;intro g5 cp5 w5 ho5 hk5 hg5;have HO5:Hid (Ows w5 B (.slice (some ⟨g5,0,none⟩) (m.vals.length+1) cp5) (m.vals++[0])):=ho5;have HK5:Hid (Kept (fun k=>((.slice va m.vals.length vc):Value).ownBlock=some k) w w5):=hk5;have HG5:Hid (((.slice va m.vals.length vc):Value).ownBlock=some g5\/w.heap.size<=g5):=hg5;have H5:Hid (Sb w5 p m ra va ma rc vc mc bm):=H.out.kept hk5 (fun e=>HNP.out _ e rfl);have d4:w5.cell? ⟨p,4,none⟩=some (.slice va m.vals.length vc):=H5.out.all.c4;have z4:w5.frozen? ⟨p,4,none⟩=false:=H5.out.all.z4;clear ho5 hk5 hg5))
 have K2:Kept (fun b=>b=p) w5 (w5.setCell ⟨p,4,none⟩ (.slice (some ⟨g5,0,none⟩) (m.vals.length+1) cp5)):=(Kept.refl (fun b=>b=p) w5).setCell (p:=⟨p,4,none⟩) rfl _
 have hat:∀ k,((.slice va m.vals.length vc):Value).ownBlock=some k->At va k:=fun k hk=>by
  cases va with
  | none=>cases hk
  | some x=>exact ⟨x,rfl,by simpa [Value.ownBlock] using hk.symm⟩
 have hgp:g5≠p:=by
  rcases HG5.out with e|e
  ·exact HNP.out _ e
  ·omega
 refine bodyPost_end (v:=.tuple #[]) (by simp [results,Tryz.results64,go_sem]) rfl ⟨rfl,g5,cp5,?_,?_,(HK5.out.mono (fun b hb=>.inr (hat b hb))).trans (K2.mono (fun b hb=>.inl hb)),?_⟩
 ·have h1:=H5.out.set 4 (.slice (some ⟨g5,0,none⟩) (m.vals.length+1) cp5)
  have e:(m.vals++[0]).length=m.vals.length+1:=by rw [List.length_append];rfl
  show Mf _ _ _
  rw [e]
  exact h1
 ·rw [List.length_append]
  exact HO5.out.kept K2 (fun i hi e=>by
   have:g5=i:=by simpa [Value.ownBlock] using hi
   omega)
 ·rcases HG5.out with e|e
  ·exact .inl (hat _ e)
  ·exact .inr e
end Mw1
end Go.Proofs.YtjajkmdoggbicaaGreatDoor
