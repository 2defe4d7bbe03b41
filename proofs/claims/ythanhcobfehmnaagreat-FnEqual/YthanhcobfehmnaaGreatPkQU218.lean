import Derived.Test.YthanhcobfehmnaaGreatPkQU217
namespace Go.Proofs.YthanhcobfehmnaaGreat
set_option maxRecDepth 100000
set_option maxHeartbeats 8000000
set_option linter.unusedVariables false
namespace Dcn1
open Go.RowKit
open Nd0 Nd3 Tm0 Vl4 Ic4 Dw0 Dw5 Dw8
open Ap2 (Own)
open Dr0 (Cur Only Bytes Off)
open Dr1 (once below)
open Dw6 (own_cap APost)
open Sv2 (sReplace)
theorem repl_len {l:List Nd} {v k:Int} (h:(replL l v k).isSome=true):(replO l v k).length=l.length:=by
 unfold replO
 unfold replL at h ⊢
 split at h
 ·rename_i hc
  rw [if_pos hc]
  exact List.length_map ..
 ·cases h
theorem constNodes (w:World) (b:Nat) (a:Option Addr) (len cap:Nat) (hc:Cur w b a len cap) (hlo:Low a len b) :
 Calls Tryz.prog 11 #[.pointer (some ⟨b,0,none⟩)] w (APost b a len cap w):=by
 have HC0:Hid (Cur w b a len cap):=hc
 have HLO:Hid (Low a len b):=hlo
 clear hc hlo
 go_enter Tryz.func11,Tryz.ntmps11
 go_wp2_with fail
 refine (openNodes _ b a len cap HC0.out HLO.out).mono ?_
 rintro e w1 ⟨g,c,L,rfl,hn,hbg,hgs,hcu,hk,h1,h2,h3⟩
 have HN1:Hid (Nodes w1 (some ⟨g,0,none⟩) L):=hn
 have HC1:Hid (Cur w1 b a len cap):=hcu
 have HK1:Hid (Kept (fun k=>k=b) w w1):=hk
 have HBG:Hid (b < g/\g < w1.heap.size):=⟨hbg,hgs⟩
 have HL:Hid (1<=L.length/\L.length<=81/\L.length<=c):=⟨h1,h2,h3⟩
 clear hn hcu hk hbg h1 h2 h3 hgs HC0
 go_wp2_with fail
 go_loopw [3,4] (fun tv q wr=>∃ (k g c:Nat) (M:List Nd),k<=3/\q=.int .i64 (k:Int)/\tv=.slice (some ⟨g,0,none⟩) M.length c/\Nodes wr (some ⟨g,0,none⟩) M/\(b < g/\g < wr.heap.size)/\Cur wr b a len cap/\Kept (fun k=>k=b) w wr/\(1<=M.length/\M.length<=81/\M.length<=c)) (fun _ q _=>3 - (intOf q).toNat)
 case atStart=>exact ⟨0,g,c,L,by omega,rfl,rfl,HN1.out,HBG.out,HC1.out,HK1.out,HL.out⟩
 case round =>
  clear HN1 HC1 HK1 HBG HL
  obtain ⟨k,g,c,M,hk,rfl,rfl,hn,hbg,hcu,hkk,hml⟩:=hrel
  have HN:Hid (Nodes wr (some ⟨g,0,none⟩) M):=hn
  have HC:Hid (Cur wr b a len cap):=hcu
  have HK:Hid (Kept (fun k=>k=b) w wr):=hkk
  have HBG:Hid (b < g/\g < wr.heap.size):=hbg
  have HML:Hid (1<=M.length/\M.length<=81/\M.length<=c):=hml
  clear hn hcu hkk hbg hml
  by_cases hk3:k < 3
  ·have hkz:(k:Int) < 3:=by omega
   go_wp2_with fail
   refine (below _ b a len cap 2 (by omega) (by omega) HC.out).mono ?_
   rintro e w2 ⟨⟨x,rfl,hx0,hx1⟩,hc2,ho2⟩
   have HN2:Hid (Nodes w2 (some ⟨g,0,none⟩) M):=HN.out.kept (only_kept ho2) (fun y hy=>by cases hy;have:=HBG.out;show ¬ g=b;omega)
   have HC2:Hid (Cur w2 b a len cap):=hc2
   have HK2:Hid (Kept (fun k=>k=b) w w2):=HK.out.trans (only_kept ho2)
   have HG2:Hid (b < g/\g < w2.heap.size):=⟨HBG.out.1,Nat.lt_of_lt_of_le HBG.out.2 (only_kept ho2).size⟩
   clear hc2 ho2 HN HC HK HBG
   go_wp2_with fail
   refine (sReplace _ _ M c (k:Int) x HN2.out).mono ?_
   rintro e w3 ⟨⟨xv,rfl,ho3⟩,hb3⟩
   have HN3:Hid (Nodes w3 (some ⟨g,0,none⟩) M):=HN2.out.below hb3
   have HC3:Hid (Cur w3 b a len cap):=cur_kept HC2.out (S:=fun _=>False) (Kept.ofBelow hb3) (fun h=>h) (.inr (fun _ _ h=>h))
   have HK3:Hid (Kept (fun k=>k=b) w w3):=HK2.out.trans (Kept.ofBelow hb3)
   have HG3:Hid (b < g/\g < w3.heap.size):=⟨HG2.out.1,Nat.lt_of_lt_of_le HG2.out.2 hb3.size⟩
   cases hok:(replL M (k:Int) x).isSome
   ·clear ho3 hb3 HN2 HC2 HK2 HG2 hok
    go_wp2_with fail
    go_roundw
    case rel=>exact ⟨k+1,g,c,M,by omega,by go_num,rfl,HN3.out,HG3.out,HC3.out,HK3.out,HML.out⟩
    case measure=>simp [intOf];omega
   ·have hrl:=repl_len hok
    obtain ⟨U,hU⟩:∃ U,U=replO M (k:Int) x:=⟨_,rfl⟩
    rw [<- hU] at ho3 hrl
    obtain ⟨g4,c4,hxv,hB4,hg4⟩:∃ g4 c4,xv=.slice (some ⟨g4,0,none⟩) U.length c4/\w2.heap.size<=g4/\g4 < w3.heap.size:=by
     rcases ho3.2 with ⟨rfl,h0⟩|⟨g9,cap9,cur,rfl,hb9,hg9,_⟩
     ·have:=HML.out.1;omega
     ·exact ⟨g9,cap9,rfl,hb9,(Array.getElem?_eq_some_iff.1 hg9).1⟩
    subst hxv
    have hcap:=own_cap ho3
    obtain ⟨a5,c5,hv5,hw5⟩:=ho3.form
    simp only [Value.slice.injEq] at hv5
    have hnu:Nodes w3 (some ⟨g4,0,none⟩) U:=by rw [hv5.1];exact hw5.nodes
    have HNU:Hid (Nodes w3 (some ⟨g4,0,none⟩) U):=hnu
    have HGU:Hid (b < g4/\g4 < w3.heap.size):=⟨by have:=HG2.out;omega,hg4⟩
    have HUL:Hid (1<=U.length/\U.length<=81/\U.length<=c4):=⟨by have:=HML.out;omega,by have:=HML.out;omega,hcap⟩
    clear ho3 hb3 HN2 HC2 HK2 HG2 hok hrl hU hB4 hg4 hcap hv5 hw5 hnu
    go_wp2_with fail
    refine (once _ b a len cap 2 (by omega) (by omega) HC3.out).mono ?_
    rintro e w4 ⟨⟨y,rfl⟩,hc4,ho4⟩
    have HC4:Hid (Cur w4 b a len cap):=hc4
    have HK4:Hid (Kept (fun k=>k=b) w w4):=HK3.out.trans (only_kept ho4)
    have hsz:=(only_kept ho4).size
    cases y
    ·have HN4:Hid (Nodes w4 (some ⟨g,0,none⟩) M):=HN3.out.kept (only_kept ho4) (fun y hy=>by cases hy;have:=HG3.out;show ¬ g=b;omega)
     have HG4:Hid (b < g/\g < w4.heap.size):=⟨HG3.out.1,Nat.lt_of_lt_of_le HG3.out.2 hsz⟩
     clear hc4 ho4 hsz
     go_wp2_with fail
     go_roundw
     case rel=>exact ⟨k+1,g,c,M,by omega,by go_num,rfl,HN4.out,HG4.out,HC4.out,HK4.out,HML.out⟩
     case measure=>simp [intOf];omega
    ·have HN4:Hid (Nodes w4 (some ⟨g4,0,none⟩) U):=HNU.out.kept (only_kept ho4) (fun y hy=>by cases hy;have:=HGU.out;show ¬ g4=b;omega)
     have HG4:Hid (b < g4/\g4 < w4.heap.size):=⟨HGU.out.1,Nat.lt_of_lt_of_le HGU.out.2 hsz⟩
     clear hc4 ho4 hsz
     go_wp2_with fail
     go_roundw
     case rel=>exact ⟨k+1,g4,c4,U,by omega,by go_num,rfl,HN4.out,HG4.out,HC4.out,HK4.out,HUL.out⟩
     case measure=>simp [intOf];omega
  ·have e:k=3:=by omega
   subst e
   go_wp2_with fail
   go_ret
   exact ⟨g,c,M,rfl,HN.out,HBG.out.1,HBG.out.2,HC.out,HK.out,HML.out.1,HML.out.2.1,HML.out.2.2⟩
end Dcn1
namespace Aq0
open Nd0 Pl1 Tm0 Tm1 Tm3 Tm4 Tm5 Tm7 Tm8 Tm12 Tm13
def wk {α:Type} (d:α) (f:Nat->Nd->List α->α) (l:List Nd):Nat->List α
 | 0=>[]
 | k+1=>wk d f l k++[f k (nth l k) ((parts (nth l k)).map fun p=>(wk d f l k).getD p.toNat d)]
theorem wk_length {α:Type} (d:α) (f:Nat->Nd->List α->α) (l:List Nd) (k:Nat):(wk d f l k).length=k:=by
 induction k with
 | zero=>rfl
 | succ k ih=>show (wk d f l k++[_]).length=_;rw [List.length_append,ih];rfl
theorem wk_old {α:Type} (d:α) (f:Nat->Nd->List α->α) (l:List Nd) {i k n:Nat} (h:i < k) (hn:k<=n):(wk d f l n).getD i d=(wk d f l k).getD i d:=by
 induction n with
 | zero=>have:k=0:=by omega
         subst this;rfl
 | succ n ih =>
   by_cases e:k=n+1
   ·subst e;rfl
   ·rw [<- ih (by omega)]
    show (wk d f l n++[_]).getD i d=_
    rw [List.getD_eq_getElem?_getD,List.getElem?_append_left (by rw [wk_length];omega),<- List.getD_eq_getElem?_getD]
theorem wk_new {α:Type} (d:α) (f:Nat->Nd->List α->α) (l:List Nd) (k:Nat):(wk d f l (k+1)).getD k d=f k (nth l k) ((parts (nth l k)).map fun p=>(wk d f l k).getD p.toNat d):=by
 show (wk d f l k++[_]).getD k d=_
 rw [List.getD_eq_getElem?_getD,List.getElem?_append_right (by rw [wk_length];exact Nat.le_refl _),wk_length]
 simp
theorem wk_set {α:Type} (d:α) (f:Nat->Nd->List α->α) (l:List Nd) (k i:Nat):(wk d f l (k+1)).getD i d=if i=k then f k (nth l k) ((parts (nth l k)).map fun p=>(wk d f l k).getD p.toNat d) else (wk d f l k).getD i d:=by
 by_cases e:i=k
 ·rw [if_pos e,e,wk_new]
 ·rw [if_neg e]
  by_cases h:i < k
  ·exact wk_old d f l h (by omega)
  ·rw [List.getD_eq_getElem?_getD,List.getD_eq_getElem?_getD,List.getElem?_eq_none (by rw [wk_length];omega),List.getElem?_eq_none (by rw [wk_length];omega)]
def said {α:Type} (d:α) (f:Nat->Nd->List α->α) (l:List Nd) (i:Nat):List α:=(parts (nth l i)).map fun p=>(wk d f l i).getD p.toNat d
theorem said_len {α:Type} (d:α) (f:Nat->Nd->List α->α) (l:List Nd) (i:Nat):(said d f l i).length=(parts (nth l i)).length:=by simp [said]
theorem wk_at {α:Type} (d:α) (f:Nat->Nd->List α->α) {l:List Nd} (hD:Down l) {i n:Nat} (hi:i < l.length) (hn:i < n):(wk d f l n).getD i d=f i (nth l i) ((parts (nth l i)).map fun p=>(wk d f l n).getD p.toNat d):=by
 rw [wk_old d f l (k:=i+1) (by omega) (by omega),wk_new]
 congr 1
 apply List.map_congr_left
 intro p hp
 have:=hD i hi p hp
 rw [wk_old d f l (i:=p.toNat) (k:=i) (n:=n) (by omega) (by omega)]
theorem wk_flat {α:Type} (d:α) (g:Nat->Nd->α) (l:List Nd) (k:Nat):wk d (fun i n _=>g i n) l k=(List.range k).map fun i=>g i (nth l i):=by
 induction k with
 | zero=>rfl
 | succ k ih=>show wk d _ l k++[_]=_;rw [ih,List.range_succ,List.map_append];rfl
theorem wk_map {α:Type} (d:α) (g:Nd->α) (l:List Nd):wk d (fun _ n _=>g n) l l.length=l.map g:=by
 rw [wk_flat d (fun _ n=>g n)]
 conv=>rhs;rw [<- map_nth l]
 rw [List.map_map];rfl
def behB (l:List Nd) (n:Nd):Bool:=termOk l&&termOk (l++[n])
def behL (l:List Nd) (n:Nd):List Nd:=if behB l n then l++[n] else []
def quN (l:List Nd) (all:Bool) (v w:Int):Nd:=⟨if all then 19 else 20,1,v,(l.length:Int) - 1,w,0⟩
theorem nodeOk_less {l m:List Nd} {i:Nat} (hi:i < l.length) (h:nodeOk (l++m) i=true):nodeOk l i=true:=by
 have e0:∀ j,j < l.length->nth (l++m) j=nth l j:=by
  intro j hj
  unfold nth
  rw [List.getD_eq_getElem?_getD,List.getElem?_append_left hj,<- List.getD_eq_getElem?_getD]
 have hp:=parts_ok h
 rw [e0 i hi] at hp
 have e:(parts (nth (l++m) i)).map (width (l++m))=(parts (nth l i)).map (width l):=by
  rw [e0 i hi]
  apply List.map_congr_left
  intro p hpm
  obtain ⟨j,hj,rfl⟩:=List.getElem_of_mem hpm
  have:=hp j hj
  unfold width
  rw [e0 _ (by omega)]
 simp only [nodeOk] at h ⊢
 rw [e,e0 i hi] at h
 exact h
theorem term_less {l m:List Nd} (h:termOk (l++m)=true) (h1:1<=l.length):termOk l=true:=by
 have hl:=term_len h
 rw [List.length_append] at hl
 exact term_good (by omega) fun k hk=>nodeOk_less hk (term_node h (by rw [List.length_append];omega))
end Aq0
namespace Aq1
open Nd0 Pl1 Tm0 Tm1 Tm3 Tm4 Tm5 Tm7 Tm8 Tm12 Tm13 Vl1 Aq0
def conB (n:Nd) (ps:List Nd):Bool:=decide (0 < ps.length) && !quant n.op&&ps.all fun p=>p.op==0
def kOf (ps:List Nd) (i:Nat):Int:=(ps.getD i Nd.zero).k
def conN (n:Nd) (ps:List Nd):Nd:=⟨0,n.w,applyL n.op n.w n.k (ps.getD 0 Nd.zero).w (kOf ps 0) (kOf ps 1) (kOf ps 2),0,0,0⟩
def foldF (_:Nat) (n:Nd) (ps:List Nd):Nd:=if conB n ps then conN n ps else n
def foldTo (l:List Nd) (k:Nat):List Nd:=wk Nd.zero foldF l k
def foldL (l:List Nd):List Nd:=if termOk l then pruneL (foldTo l l.length) else []
theorem foldL_le (l:List Nd):(foldL l).length<=l.length:=by
 unfold foldL
 split
 ·exact Nat.le_trans (pruneL_le _) (by unfold foldTo;rw [wk_length];exact Nat.le_refl _)
 ·exact Nat.zero_le _
def shN (m:Int) (n:Nd):Nd:=⟨n.op,n.w,n.k,if 0 < (parts n).length then n.a+m else n.a,if 1 < (parts n).length then n.b+m else n.b,if 2 < (parts n).length then n.c+m else n.c⟩
def joinL (a b:List Nd):List Nd:=a++b.map (shN a.length)
theorem joinL_length (a b:List Nd):(joinL a b).length=a.length+b.length:=by simp [joinL]
end Aq1
namespace Bt0
open Go.RowKit
open Pl1 Vl1 Vl2
theorem nat8 {a:Int} (h:0<=a/\a<=255):∃ m:Nat,a=(m:Int)/\m < 2 ^ 8:=⟨a.toNat,by omega,by omega⟩
theorem wrap8 {m:Nat} (h:m < 2 ^ 8):IntKind.i64.wrap (m:Int)=(m:Int):=by rw [IntKind.wrap_i64];omega
theorem mod64 {m:Nat} (h:m < 2 ^ 8):m % 2 ^ 64=m:=Nat.mod_eq_of_lt (by omega)
theorem band {a b:Int} (ha:0<=a/\a<=255) (hb:0<=b/\b<=255):bits .and .i64 a b=nAnd a b:=by
 obtain ⟨m,rfl,hm⟩:=nat8 ha
 obtain ⟨n,rfl,hn⟩:=nat8 hb
 have e:bits .and .i64 (m:Int) (n:Int)=IntKind.i64.wrap ((BitVec.ofInt 64 (m:Int) &&& BitVec.ofInt 64 (n:Int)).toNat:Int):=rfl
 rw [e,BitVec.toNat_and,BitVec.ofInt_natCast,BitVec.ofInt_natCast,BitVec.toNat_ofNat,BitVec.toNat_ofNat,mod64 hm,mod64 hn,wrap8 (Nat.and_lt_two_pow _ hn)]
 rfl
theorem bor {a b:Int} (ha:0<=a/\a<=255) (hb:0<=b/\b<=255):bits .or .i64 a b=nOr a b:=by
 obtain ⟨m,rfl,hm⟩:=nat8 ha
 obtain ⟨n,rfl,hn⟩:=nat8 hb
 have e:bits .or .i64 (m:Int) (n:Int)=IntKind.i64.wrap ((BitVec.ofInt 64 (m:Int) ||| BitVec.ofInt 64 (n:Int)).toNat:Int):=rfl
 rw [e,BitVec.toNat_or,BitVec.ofInt_natCast,BitVec.ofInt_natCast,BitVec.toNat_ofNat,BitVec.toNat_ofNat,mod64 hm,mod64 hn,wrap8 (Nat.or_lt_two_pow hm hn)]
 rfl
theorem bxor {a b:Int} (ha:0<=a/\a<=255) (hb:0<=b/\b<=255):bits .xor .i64 a b=nXor a b:=by
 obtain ⟨m,rfl,hm⟩:=nat8 ha
 obtain ⟨n,rfl,hn⟩:=nat8 hb
 have e:bits .xor .i64 (m:Int) (n:Int)=IntKind.i64.wrap ((BitVec.ofInt 64 (m:Int) ^^^ BitVec.ofInt 64 (n:Int)).toNat:Int):=rfl
 rw [e,BitVec.toNat_xor,BitVec.ofInt_natCast,BitVec.ofInt_natCast,BitVec.toNat_ofNat,BitVec.toNat_ofNat,mod64 hm,mod64 hn,wrap8 (Nat.xor_lt_two_pow hm hn)]
 rfl
theorem bor16 {m n:Nat} (hm:m < 2 ^ 9) (hn:n < 2 ^ 9):bits .or .i64 (m:Int) (n:Int)=((m ||| n:Nat):Int):=by
 have e:bits .or .i64 (m:Int) (n:Int)=IntKind.i64.wrap ((BitVec.ofInt 64 (m:Int) ||| BitVec.ofInt 64 (n:Int)).toNat:Int):=rfl
 have h:=Nat.or_lt_two_pow hm hn
 rw [e,BitVec.toNat_or,BitVec.ofInt_natCast,BitVec.ofInt_natCast,BitVec.toNat_ofNat,BitVec.toNat_ofNat,Nat.mod_eq_of_lt (by omega),Nat.mod_eq_of_lt (by omega),IntKind.wrap_i64]
 omega
end Bt0
namespace Wd2
open Go.RowKit
open Pl1 Wd1
theorem two_iff {m a b:Int} (h:(wok m a&&wok m b)=true):1<=m/\m<=8/\0<=a/\a < p2 m.toNat/\0<=b/\b < p2 m.toNat/\p2 m.toNat<=256:=by
 rw [Bool.and_eq_true] at h
 obtain ⟨h1,h2,h3,h4⟩:=wok_iff.1 h.1
 obtain ⟨_,_,h5,h6⟩:=wok_iff.1 h.2
 exact ⟨h1,h2,h3,h4,h5,h6,p2_le _ (by omega)⟩
theorem one_iff {m a:Int} (h:wok m a=true):1<=m/\m<=8/\0<=a/\a < p2 m.toNat/\p2 m.toNat<=256:=by
 obtain ⟨h1,h2,h3,h4⟩:=wok_iff.1 h
 exact ⟨h1,h2,h3,h4,p2_le _ (by omega)⟩
theorem iAdd (m a b:Int) (w:World) :
 Calls Tryz.prog 135 #[.int .i64 m,.int .i64 a,.int .i64 b] w fun e w'=>e=.returned (.int .i64 (vAdd m a b))/\w'=w:=by
 cases h:(wok m a&&wok m b)
 ·have HV:Hid (vAdd m a b=0):=by show vAdd m a b=0;simp [vAdd,h]
  go_enter Tryz.func135,Tryz.ntmps135
  go_wp2_with (go_at_call 160;refine (iTwo _ _ _ _).mono ?_;rintro e w' ⟨rfl,rfl⟩)
  go_ret
  exact ⟨ret_int HV.out.symm,rfl⟩
 ·obtain ⟨h1,h2,h3,h4,h5,h6,h7⟩:=two_iff h
  have HV:Hid (vAdd m a b=(a+b) % p2 m.toNat):=by show vAdd m a b=_;simp [vAdd,h]
  have hm:=emod_le (a:=(a+b)) m.toNat
  go_enter Tryz.func135,Tryz.ntmps135
  go_wp2_with (first|(go_at_call 160;refine (iTwo _ _ _ _).mono ?_;rintro e w' ⟨rfl,rfl⟩)|(go_at_call 161;refine (plus a b m _ h3 (by omega) h5 (by omega) h1 h2).mono ?_;rintro e w' ⟨rfl,rfl⟩))
  go_ret
  exact ⟨ret_int HV.out.symm,rfl⟩
theorem iSub (m a b:Int) (w:World) :
 Calls Tryz.prog 137 #[.int .i64 m,.int .i64 a,.int .i64 b] w fun e w'=>e=.returned (.int .i64 (vSub m a b))/\w'=w:=by
 cases h:(wok m a&&wok m b)
 ·have HV:Hid (vSub m a b=0):=by show vSub m a b=0;simp [vSub,h]
  go_enter Tryz.func137,Tryz.ntmps137
  go_wp2_with (go_at_call 160;refine (iTwo _ _ _ _).mono ?_;rintro e w' ⟨rfl,rfl⟩)
  go_ret
  exact ⟨ret_int HV.out.symm,rfl⟩
 ·obtain ⟨h1,h2,h3,h4,h5,h6,h7⟩:=two_iff h
  have HV:Hid (vSub m a b=(a - b) % p2 m.toNat):=by show vSub m a b=_;simp [vSub,h]
  have hm:=emod_le (a:=(a - b)) m.toNat
  go_enter Tryz.func137,Tryz.ntmps137
  go_wp2_with (first|(go_at_call 160;refine (iTwo _ _ _ _).mono ?_;rintro e w' ⟨rfl,rfl⟩)|(go_at_call 162;refine (minus a b m _ h3 (by omega) h5 (by omega) h1 h2).mono ?_;rintro e w' ⟨rfl,rfl⟩))
  go_ret
  exact ⟨ret_int HV.out.symm,rfl⟩
theorem iMul (m a b:Int) (w:World) :
 Calls Tryz.prog 139 #[.int .i64 m,.int .i64 a,.int .i64 b] w fun e w'=>e=.returned (.int .i64 (vMul m a b))/\w'=w:=by
 cases h:(wok m a&&wok m b)
 ·have HV:Hid (vMul m a b=0):=by show vMul m a b=0;simp [vMul,h]
  go_enter Tryz.func139,Tryz.ntmps139
  go_wp2_with (go_at_call 160;refine (iTwo _ _ _ _).mono ?_;rintro e w' ⟨rfl,rfl⟩)
  go_ret
  exact ⟨ret_int HV.out.symm,rfl⟩
 ·obtain ⟨h1,h2,h3,h4,h5,h6,h7⟩:=two_iff h
  have HV:Hid (vMul m a b=a*b % p2 m.toNat):=by show vMul m a b=_;simp [vMul,h]
  have hm:=emod_le (a:=a*b) m.toNat
  go_enter Tryz.func139,Tryz.ntmps139
  go_wp2_with (first|(go_at_call 160;refine (iTwo _ _ _ _).mono ?_;rintro e w' ⟨rfl,rfl⟩)|(go_at_call 163;refine (times a b m _ h3 (by omega) h5 (by omega) h1 h2).mono ?_;rintro e w' ⟨rfl,rfl⟩))
  go_ret
  exact ⟨ret_int HV.out.symm,rfl⟩
theorem sAdd (m a b:Int) (w:World) :
 Calls Tryz.prog 52 #[.int .i64 m,.int .i64 a,.int .i64 b] w fun e w'=>e=.returned (.int .i64 (vAdd m a b))/\w'=w:=by
 cases h:(wok m a&&wok m b)
 ·have HV:Hid (vAdd m a b=0):=by show vAdd m a b=0;simp [vAdd,h]
  go_enter Tryz.func52,Tryz.ntmps52
  go_wp2_with (go_at_call 95;refine (sTwo _ _ _ _).mono ?_;rintro e w' ⟨rfl,rfl⟩)
  go_ret
  exact ⟨ret_int HV.out.symm,rfl⟩
 ·obtain ⟨h1,h2,h3,h4,h5,h6,h7⟩:=two_iff h
  have HV:Hid (vAdd m a b=(a+b) % p2 m.toNat):=by show vAdd m a b=_;simp [vAdd,h]
  have hp:=p2_pos m.toNat
  go_enter Tryz.func52,Tryz.ntmps52
  go_wp2_with (first|(go_at_call 95;refine (sTwo _ _ _ _).mono ?_;rintro e w' ⟨rfl,rfl⟩)|(go_at_call 62;refine (spow _ _ (by omega) (by omega)).mono ?_;rintro e w' ⟨rfl,rfl⟩))
  go_ret
  exact ⟨ret_int HV.out.symm,rfl⟩
theorem sSub (m a b:Int) (w:World) :
 Calls Tryz.prog 53 #[.int .i64 m,.int .i64 a,.int .i64 b] w fun e w'=>e=.returned (.int .i64 (vSub m a b))/\w'=w:=by
 cases h:(wok m a&&wok m b)
 ·have HV:Hid (vSub m a b=0):=by show vSub m a b=0;simp [vSub,h]
  go_enter Tryz.func53,Tryz.ntmps53
  go_wp2_with (go_at_call 95;refine (sTwo _ _ _ _).mono ?_;rintro e w' ⟨rfl,rfl⟩)
  go_ret
  exact ⟨ret_int HV.out.symm,rfl⟩
 ·obtain ⟨h1,h2,h3,h4,h5,h6,h7⟩:=two_iff h
  have HV:Hid (vSub m a b=(a+p2 m.toNat - b) % p2 m.toNat):=by show vSub m a b=_;rw [sub_spec];simp [vSub,h]
  have hp:=p2_pos m.toNat
  go_enter Tryz.func53,Tryz.ntmps53
  go_wp2_with (first|(go_at_call 95;refine (sTwo _ _ _ _).mono ?_;rintro e w' ⟨rfl,rfl⟩)|(go_at_call 62;refine (spow _ _ (by omega) (by omega)).mono ?_;rintro e w' ⟨rfl,rfl⟩))
  go_ret
  exact ⟨ret_int HV.out.symm,rfl⟩
theorem sMul (m a b:Int) (w:World) :
 Calls Tryz.prog 54 #[.int .i64 m,.int .i64 a,.int .i64 b] w fun e w'=>e=.returned (.int .i64 (vMul m a b))/\w'=w:=by
 cases h:(wok m a&&wok m b)
 ·have HV:Hid (vMul m a b=0):=by show vMul m a b=0;simp [vMul,h]
  go_enter Tryz.func54,Tryz.ntmps54
  go_wp2_with (go_at_call 95;refine (sTwo _ _ _ _).mono ?_;rintro e w' ⟨rfl,rfl⟩)
  go_ret
  exact ⟨ret_int HV.out.symm,rfl⟩
 ·obtain ⟨h1,h2,h3,h4,h5,h6,h7⟩:=two_iff h
  have HV:Hid (vMul m a b=a*b % p2 m.toNat):=by show vMul m a b=_;simp [vMul,h]
  have hp:=p2_pos m.toNat
  obtain ⟨hb1,hb2⟩:=mul_bd h3 (by omega) h5 (by omega)
  go_enter Tryz.func54,Tryz.ntmps54
  go_wp2_with (first|(go_at_call 95;refine (sTwo _ _ _ _).mono ?_;rintro e w' ⟨rfl,rfl⟩)|(go_at_call 62;refine (spow _ _ (by omega) (by omega)).mono ?_;rintro e w' ⟨rfl,rfl⟩))
  go_ret
  exact ⟨ret_int HV.out.symm,rfl⟩
end Wd2
namespace Wd3
open Go.RowKit
open Pl1 Wd1 Wd2
theorem div_bd {a b:Int} (ha:0<=a) (hb:0<=b):0<=a / b/\a / b<=a:=⟨Int.ediv_nonneg ha hb,Int.ediv_le_self _ ha⟩
theorem rem_bd {a b:Int} (ha:0<=a) (hb:0<=b) (hz:¬ b=0):0<=a % b/\a % b < b:=⟨Int.emod_nonneg _ hz,Int.emod_lt_of_pos _ (by omega)⟩
theorem iDiv (m a b:Int) (w:World) :
 Calls Tryz.prog 141 #[.int .i64 m,.int .i64 a,.int .i64 b] w fun e w'=>e=.returned (.int .i64 (vDiv m a b))/\w'=w:=by
 cases h:(wok m a&&wok m b)
 ·have HV:Hid (vDiv m a b=0):=by show vDiv m a b=0;simp [vDiv,h]
  go_enter Tryz.func141,Tryz.ntmps141
  go_wp2_with (go_at_call 160;refine (iTwo _ _ _ _).mono ?_;rintro e w' ⟨rfl,rfl⟩)
  go_ret
  exact ⟨ret_int HV.out.symm,rfl⟩
 ·obtain ⟨h1,h2,h3,h4,h5,h6,h7⟩:=two_iff h
  by_cases hz:b=0
  ·subst hz
   have HV:Hid (vDiv m a 0=p2 m.toNat - 1):=by show vDiv m a 0=_;unfold vDiv;rw [h];rfl
   have hp:=p2_pos m.toNat
   go_enter Tryz.func141,Tryz.ntmps141
   go_wp2_with (first|(go_at_call 160;refine (iTwo _ _ _ _).mono ?_;rintro e w' ⟨rfl,rfl⟩)|(go_at_call 164;refine (over a _ m _ h3 (by omega) h5 (by omega) h1 h2).mono ?_;rintro e w' ⟨rfl,rfl⟩))
   all_goals
    go_ret
    exact ⟨ret_int HV.out.symm,rfl⟩
  ·have HV:Hid (vDiv m a b=a / b):=by show vDiv m a b=_;simp [vDiv,h,hz]
   have hp:=p2_pos m.toNat
   have hz':(b==0)=false:=by simpa using hz
   obtain ⟨hd1,hd2⟩:=div_bd h3 h5
   go_enter Tryz.func141,Tryz.ntmps141
   go_wp2_with (first|(go_at_call 160;refine (iTwo _ _ _ _).mono ?_;rintro e w' ⟨rfl,rfl⟩)|(go_at_call 164;refine (over a _ m _ h3 (by omega) h5 (by omega) h1 h2).mono ?_;rintro e w' ⟨rfl,rfl⟩))
   all_goals
    go_ret
    exact ⟨ret_int HV.out.symm,rfl⟩
theorem iRem (m a b:Int) (w:World) :
 Calls Tryz.prog 143 #[.int .i64 m,.int .i64 a,.int .i64 b] w fun e w'=>e=.returned (.int .i64 (vRem m a b))/\w'=w:=by
 cases h:(wok m a&&wok m b)
 ·have HV:Hid (vRem m a b=0):=by show vRem m a b=0;simp [vRem,h]
  go_enter Tryz.func143,Tryz.ntmps143
  go_wp2_with (go_at_call 160;refine (iTwo _ _ _ _).mono ?_;rintro e w' ⟨rfl,rfl⟩)
  go_ret
  exact ⟨ret_int HV.out.symm,rfl⟩
 ·obtain ⟨h1,h2,h3,h4,h5,h6,h7⟩:=two_iff h
  by_cases hz:b=0
  ·subst hz
   have HV:Hid (vRem m a 0=a):=by show vRem m a 0=_;unfold vRem;rw [h];rfl
   have hp:=p2_pos m.toNat
   go_enter Tryz.func143,Tryz.ntmps143
   go_wp2_with (first|(go_at_call 160;refine (iTwo _ _ _ _).mono ?_;rintro e w' ⟨rfl,rfl⟩)|(go_at_call 165;refine (rest a _ _ h3 (by omega) h5 (by omega)).mono ?_;rintro e w' ⟨rfl,rfl⟩))
   all_goals
    go_ret
    exact ⟨ret_int HV.out.symm,rfl⟩
  ·have HV:Hid (vRem m a b=a % b):=by show vRem m a b=_;simp [vRem,h,hz]
   have hp:=p2_pos m.toNat
   have hz':(b==0)=false:=by simpa using hz
   obtain ⟨hd1,hd2⟩:=rem_bd h3 h5 hz
   go_enter Tryz.func143,Tryz.ntmps143
   go_wp2_with (first|(go_at_call 160;refine (iTwo _ _ _ _).mono ?_;rintro e w' ⟨rfl,rfl⟩)|(go_at_call 165;refine (rest a _ _ h3 (by omega) h5 (by omega)).mono ?_;rintro e w' ⟨rfl,rfl⟩))
   all_goals
    go_ret
    exact ⟨ret_int HV.out.symm,rfl⟩
theorem sDiv (m a b:Int) (w:World) :
 Calls Tryz.prog 55 #[.int .i64 m,.int .i64 a,.int .i64 b] w fun e w'=>e=.returned (.int .i64 (vDiv m a b))/\w'=w:=by
 cases h:(wok m a&&wok m b)
 ·have HV:Hid (vDiv m a b=0):=by show vDiv m a b=0;simp [vDiv,h]
  go_enter Tryz.func55,Tryz.ntmps55
  go_wp2_with (go_at_call 95;refine (sTwo _ _ _ _).mono ?_;rintro e w' ⟨rfl,rfl⟩)
  go_ret
  exact ⟨ret_int HV.out.symm,rfl⟩
 ·obtain ⟨h1,h2,h3,h4,h5,h6,h7⟩:=two_iff h
  by_cases hz:b=0
  ·subst hz
   have HV:Hid (vDiv m a 0=p2 m.toNat - 1):=by show vDiv m a 0=_;unfold vDiv;rw [h];rfl
   have hp:=p2_pos m.toNat
   go_enter Tryz.func55,Tryz.ntmps55
   go_wp2_with (first|(go_at_call 95;refine (sTwo _ _ _ _).mono ?_;rintro e w' ⟨rfl,rfl⟩)|(go_at_call 62;refine (spow _ _ (by omega) (by omega)).mono ?_;rintro e w' ⟨rfl,rfl⟩))
   all_goals
    go_ret
    exact ⟨ret_int HV.out.symm,rfl⟩
  ·have HV:Hid (vDiv m a b=a / b):=by show vDiv m a b=_;simp [vDiv,h,hz]
   have hp:=p2_pos m.toNat
   have hz':(b==0)=false:=by simpa using hz
   obtain ⟨hd1,hd2⟩:=div_bd h3 h5
   go_enter Tryz.func55,Tryz.ntmps55
   go_wp2_with (first|(go_at_call 95;refine (sTwo _ _ _ _).mono ?_;rintro e w' ⟨rfl,rfl⟩)|(go_at_call 62;refine (spow _ _ (by omega) (by omega)).mono ?_;rintro e w' ⟨rfl,rfl⟩))
   all_goals
    go_ret
    exact ⟨ret_int HV.out.symm,rfl⟩
theorem sRem (m a b:Int) (w:World) :
 Calls Tryz.prog 56 #[.int .i64 m,.int .i64 a,.int .i64 b] w fun e w'=>e=.returned (.int .i64 (vRem m a b))/\w'=w:=by
 cases h:(wok m a&&wok m b)
 ·have HV:Hid (vRem m a b=0):=by show vRem m a b=0;simp [vRem,h]
  go_enter Tryz.func56,Tryz.ntmps56
  go_wp2_with (go_at_call 95;refine (sTwo _ _ _ _).mono ?_;rintro e w' ⟨rfl,rfl⟩)
  go_ret
  exact ⟨ret_int HV.out.symm,rfl⟩
 ·obtain ⟨h1,h2,h3,h4,h5,h6,h7⟩:=two_iff h
  by_cases hz:b=0
  ·subst hz
   have HV:Hid (vRem m a 0=a):=by show vRem m a 0=_;unfold vRem;rw [h];rfl
   have hp:=p2_pos m.toNat
   go_enter Tryz.func56,Tryz.ntmps56
   go_wp2_with (first|(go_at_call 95;refine (sTwo _ _ _ _).mono ?_;rintro e w' ⟨rfl,rfl⟩)|fail)
   all_goals
    go_ret
    exact ⟨ret_int HV.out.symm,rfl⟩
  ·have HV:Hid (vRem m a b=a % b):=by show vRem m a b=_;simp [vRem,h,hz]
   have hp:=p2_pos m.toNat
   have hz':(b==0)=false:=by simpa using hz
   obtain ⟨hd1,hd2⟩:=rem_bd h3 h5 hz
   go_enter Tryz.func56,Tryz.ntmps56
   go_wp2_with (first|(go_at_call 95;refine (sTwo _ _ _ _).mono ?_;rintro e w' ⟨rfl,rfl⟩)|fail)
   all_goals
    go_ret
    exact ⟨ret_int HV.out.symm,rfl⟩
end Wd3
namespace Wd4
open Go.RowKit
open Pl1 Wd1 Wd2 Wd3
theorem shl_zero (a:Int) {m b:Int} (h1:1<=m) (h:m<=b):a*p2 b.toNat % p2 m.toNat=0:=by
 have e:p2 b.toNat=p2 m.toNat*p2 (b - m).toNat:=by
  unfold p2;rw [<- Int.pow_add,show m.toNat+(b - m).toNat=b.toNat by omega]
 rw [e,<- Int.mul_assoc,Int.mul_comm a,Int.mul_assoc]
 exact Int.mul_emod_right _ _
theorem shr_zero {a m b:Int} (h0:0<=a) (h:m<=b) (ha:a < p2 m.toNat):a / p2 b.toNat=0:=by
 have:=p2_mono (show m.toNat<=b.toNat by omega)
 exact Int.ediv_eq_zero_of_lt h0 (by omega)
theorem iShl (m a b:Int) (w:World) :
 Calls Tryz.prog 145 #[.int .i64 m,.int .i64 a,.int .i64 b] w fun e w'=>e=.returned (.int .i64 (vShl m a b))/\w'=w:=by
 cases h:(wok m a&&wok m b)
 ·have HV:Hid (vShl m a b=0):=by show vShl m a b=0;simp [vShl,h]
  go_enter Tryz.func145,Tryz.ntmps145
  go_wp2_with (go_at_call 160;refine (iTwo _ _ _ _).mono ?_;rintro e w' ⟨rfl,rfl⟩)
  go_ret
  exact ⟨ret_int HV.out.symm,rfl⟩
 ·obtain ⟨h1,h2,h3,h4,h5,h6,h7⟩:=two_iff h
  by_cases hb:b<=7
  ·have HV:Hid (vShl m a b=a*p2 b.toNat % p2 m.toNat):=by
    show vShl m a b=_
    unfold vShl;rw [h,if_pos rfl]
    by_cases hc:m<=b
    ·rw [if_pos hc,shl_zero a h1 hc]
    ·rw [if_neg hc]
   have hm:=emod_le (a:=a*p2 b.toNat) m.toNat
   go_enter Tryz.func145,Tryz.ntmps145
   go_wp2_with (first|(go_at_call 160;refine (iTwo _ _ _ _).mono ?_;rintro e w' ⟨rfl,rfl⟩)|(go_at_call 166;refine (up a _ m _ h3 (by omega) h5 (by omega) h1 h2).mono ?_;rintro e w' ⟨rfl,rfl⟩))
   go_ret
   exact ⟨ret_int HV.out.symm,rfl⟩
  ·have HV:Hid (vShl m a b=0):=by
    show vShl m a b=_
    unfold vShl;rw [h,if_pos rfl,if_pos (by omega)]
   go_enter Tryz.func145,Tryz.ntmps145
   go_wp2_with (first|(go_at_call 160;refine (iTwo _ _ _ _).mono ?_;rintro e w' ⟨rfl,rfl⟩)|(go_at_call 166;refine (upFar a _ m _ h3 (by omega) (by omega) h1 h2).mono ?_;rintro e w' ⟨rfl,rfl⟩))
   go_ret
   exact ⟨ret_int HV.out.symm,rfl⟩
theorem sShl (m a b:Int) (w:World) :
 Calls Tryz.prog 57 #[.int .i64 m,.int .i64 a,.int .i64 b] w fun e w'=>e=.returned (.int .i64 (vShl m a b))/\w'=w:=by
 cases h:(wok m a&&wok m b)
 ·have HV:Hid (vShl m a b=0):=by show vShl m a b=0;simp [vShl,h]
  go_enter Tryz.func57,Tryz.ntmps57
  go_wp2_with (go_at_call 95;refine (sTwo _ _ _ _).mono ?_;rintro e w' ⟨rfl,rfl⟩)
  go_ret
  exact ⟨ret_int HV.out.symm,rfl⟩
 ·obtain ⟨h1,h2,h3,h4,h5,h6,h7⟩:=two_iff h
  have hp:=p2_pos m.toNat
  by_cases hc:m<=b
  ·have HV:Hid (vShl m a b=0):=by
    show vShl m a b=_
    unfold vShl;rw [h,if_pos rfl,if_pos hc]
   go_enter Tryz.func57,Tryz.ntmps57
   go_wp2_with (go_at_call 95;refine (sTwo _ _ _ _).mono ?_;rintro e w' ⟨rfl,rfl⟩)
   go_ret
   exact ⟨ret_int HV.out.symm,rfl⟩
  ·have HV:Hid (vShl m a b=a*p2 b.toNat % p2 m.toNat):=by
    show vShl m a b=_
    unfold vShl;rw [h,if_pos rfl,if_neg hc]
   have hq:=p2_pos b.toNat
   have hr:=p2_mono (show b.toNat<=7 by omega)
   have hr7:p2 7=128:=rfl
   obtain ⟨hb1,hb2⟩:=mul_bd h3 (show a<=255 by omega) (show 0<=p2 b.toNat by omega) (by omega)
   go_enter Tryz.func57,Tryz.ntmps57
   go_wp2_with (first|(go_at_call 95;refine (sTwo _ _ _ _).mono ?_;rintro e w' ⟨rfl,rfl⟩)|(go_at_call 62;refine (spow _ _ (by omega) (by omega)).mono ?_;rintro e w' ⟨rfl,rfl⟩))
   go_ret
   exact ⟨ret_int HV.out.symm,rfl⟩
theorem iShr (m a b:Int) (w:World) :
 Calls Tryz.prog 147 #[.int .i64 m,.int .i64 a,.int .i64 b] w fun e w'=>e=.returned (.int .i64 (vShr m a b))/\w'=w:=by
 cases h:(wok m a&&wok m b)
 ·have HV:Hid (vShr m a b=0):=by show vShr m a b=0;simp [vShr,h]
  go_enter Tryz.func147,Tryz.ntmps147
  go_wp2_with (go_at_call 160;refine (iTwo _ _ _ _).mono ?_;rintro e w' ⟨rfl,rfl⟩)
  go_ret
  exact ⟨ret_int HV.out.symm,rfl⟩
 ·obtain ⟨h1,h2,h3,h4,h5,h6,h7⟩:=two_iff h
  by_cases hb:b<=7
  ·have HV:Hid (vShr m a b=a / p2 b.toNat):=by
    show vShr m a b=_
    unfold vShr;rw [h,if_pos rfl]
    by_cases hc:m<=b
    ·rw [if_pos hc,shr_zero h3 hc h4]
    ·rw [if_neg hc]
   obtain ⟨hd1,hd2⟩:=div_bd h3 (show 0<=p2 b.toNat by have:=p2_pos b.toNat;omega)
   go_enter Tryz.func147,Tryz.ntmps147
   go_wp2_with (first|(go_at_call 160;refine (iTwo _ _ _ _).mono ?_;rintro e w' ⟨rfl,rfl⟩)|(go_at_call 167;refine (down a _ _ h3 (by omega) h5 (by omega)).mono ?_;rintro e w' ⟨rfl,rfl⟩))
   go_ret
   exact ⟨ret_int HV.out.symm,rfl⟩
  ·have HV:Hid (vShr m a b=0):=by
    show vShr m a b=_
    unfold vShr;rw [h,if_pos rfl,if_pos (by omega)]
   go_enter Tryz.func147,Tryz.ntmps147
   go_wp2_with (first|(go_at_call 160;refine (iTwo _ _ _ _).mono ?_;rintro e w' ⟨rfl,rfl⟩)|(go_at_call 167;refine (downFar a _ _ h3 (by omega) (by omega)).mono ?_;rintro e w' ⟨rfl,rfl⟩))
   go_ret
   exact ⟨ret_int HV.out.symm,rfl⟩
theorem sShr (m a b:Int) (w:World) :
 Calls Tryz.prog 58 #[.int .i64 m,.int .i64 a,.int .i64 b] w fun e w'=>e=.returned (.int .i64 (vShr m a b))/\w'=w:=by
 cases h:(wok m a&&wok m b)
 ·have HV:Hid (vShr m a b=0):=by show vShr m a b=0;simp [vShr,h]
  go_enter Tryz.func58,Tryz.ntmps58
  go_wp2_with (go_at_call 95;refine (sTwo _ _ _ _).mono ?_;rintro e w' ⟨rfl,rfl⟩)
  go_ret
  exact ⟨ret_int HV.out.symm,rfl⟩
 ·obtain ⟨h1,h2,h3,h4,h5,h6,h7⟩:=two_iff h
  have hp:=p2_pos m.toNat
  by_cases hc:m<=b
  ·have HV:Hid (vShr m a b=0):=by
    show vShr m a b=_
    unfold vShr;rw [h,if_pos rfl,if_pos hc]
   go_enter Tryz.func58,Tryz.ntmps58
   go_wp2_with (go_at_call 95;refine (sTwo _ _ _ _).mono ?_;rintro e w' ⟨rfl,rfl⟩)
   go_ret
   exact ⟨ret_int HV.out.symm,rfl⟩
  ·have HV:Hid (vShr m a b=a / p2 b.toNat):=by
    show vShr m a b=_
    unfold vShr;rw [h,if_pos rfl,if_neg hc]
   have hq:=p2_pos b.toNat
   obtain ⟨hd1,hd2⟩:=div_bd h3 (show 0<=p2 b.toNat by omega)
   go_enter Tryz.func58,Tryz.ntmps58
   go_wp2_with (first|(go_at_call 95;refine (sTwo _ _ _ _).mono ?_;rintro e w' ⟨rfl,rfl⟩)|(go_at_call 62;refine (spow _ _ (by omega) (by omega)).mono ?_;rintro e w' ⟨rfl,rfl⟩))
   go_ret
   exact ⟨ret_int HV.out.symm,rfl⟩
theorem iFlip (m a:Int) (w:World) :
 Calls Tryz.prog 130 #[.int .i64 m,.int .i64 a] w fun e w'=>e=.returned (.int .i64 (vFlip m a))/\w'=w:=by
 cases h:wok m a
 ·have HV:Hid (vFlip m a=0):=by show vFlip m a=0;simp [vFlip,h]
  go_enter Tryz.func130,Tryz.ntmps130
  go_wp2_with (go_at_call 89;refine (iWordOk _ _ _).mono ?_;rintro e w' ⟨rfl,rfl⟩)
  go_ret
  exact ⟨ret_int HV.out.symm,rfl⟩
 ·obtain ⟨h1,h2,h3,h4,h7⟩:=one_iff h
  have HV:Hid (vFlip m a=p2 m.toNat - 1 - a):=by show vFlip m a=_;simp [vFlip,h]
  go_enter Tryz.func130,Tryz.ntmps130
  go_wp2_with (first|(go_at_call 89;refine (iWordOk _ _ _).mono ?_;rintro e w' ⟨rfl,rfl⟩)|(go_at_call 159;refine (flip a m _ h3 h4 h1 h2).mono ?_;rintro e w' ⟨rfl,rfl⟩))
  go_ret
  exact ⟨ret_int HV.out.symm,rfl⟩
theorem sFlip (m a:Int) (w:World) :
 Calls Tryz.prog 51 #[.int .i64 m,.int .i64 a] w fun e w'=>e=.returned (.int .i64 (vFlip m a))/\w'=w:=by
 cases h:wok m a
 ·have HV:Hid (vFlip m a=0):=by show vFlip m a=0;simp [vFlip,h]
  go_enter Tryz.func51,Tryz.ntmps51
  go_wp2_with (go_at_call 50;refine (sWordOk _ _ _).mono ?_;rintro e w' ⟨rfl,rfl⟩)
  go_ret
  exact ⟨ret_int HV.out.symm,rfl⟩
 ·obtain ⟨h1,h2,h3,h4,h7⟩:=one_iff h
  have HV:Hid (vFlip m a=p2 m.toNat - 1 - a):=by show vFlip m a=_;simp [vFlip,h]
  go_enter Tryz.func51,Tryz.ntmps51
  go_wp2_with (first|(go_at_call 50;refine (sWordOk _ _ _).mono ?_;rintro e w' ⟨rfl,rfl⟩)|(go_at_call 62;refine (spow _ _ (by omega) (by omega)).mono ?_;rintro e w' ⟨rfl,rfl⟩))
  go_ret
  exact ⟨ret_int HV.out.symm,rfl⟩
theorem sSigned (m a:Int) (w:World) :
 Calls Tryz.prog 96 #[.int .i64 m,.int .i64 a] w fun e w'=>e=.returned (.int .i64 (vSigned m a))/\w'=w:=by
 cases h:wok m a
 ·have HV:Hid (vSigned m a=0):=by show vSigned m a=0;simp [vSigned,h]
  go_enter Tryz.func96,Tryz.ntmps96
  go_wp2_with (go_at_call 50;refine (sWordOk _ _ _).mono ?_;rintro e w' ⟨rfl,rfl⟩)
  go_ret
  exact ⟨ret_int HV.out.symm,rfl⟩
 ·obtain ⟨h1,h2,h3,h4,h7⟩:=one_iff h
  have hq:=p2_pos m.toNat
  by_cases hs:p2 (m - 1).toNat<=a
  ·have HV:Hid (vSigned m a=a - p2 m.toNat):=by show vSigned m a=_;simp only [vSigned,h,if_pos];exact sgn_pos hs
   have hs2:p2 (m.toNat - 1)<=a:=by rw [show m.toNat - 1=(m - 1).toNat by omega];exact hs
   have hr:=p2_pos (m - 1).toNat
   go_enter Tryz.func96,Tryz.ntmps96
   go_wp2_with (first|(go_at_call 50;refine (sWordOk _ _ _).mono ?_;rintro e w' ⟨rfl,rfl⟩)|(go_at_call 62;refine (spow _ _ (by omega) (by omega)).mono ?_;rintro e w' ⟨rfl,rfl⟩))
   go_ret
   exact ⟨ret_int HV.out.symm,rfl⟩
  ·have HV:Hid (vSigned m a=a):=by show vSigned m a=_;simp only [vSigned,h,if_pos];exact sgn_neg hs
   have hs2:¬ p2 (m.toNat - 1)<=a:=by rw [show m.toNat - 1=(m - 1).toNat by omega];exact hs
   have hr:=p2_pos (m - 1).toNat
   go_enter Tryz.func96,Tryz.ntmps96
   go_wp2_with (first|(go_at_call 50;refine (sWordOk _ _ _).mono ?_;rintro e w' ⟨rfl,rfl⟩)|(go_at_call 62;refine (spow _ _ (by omega) (by omega)).mono ?_;rintro e w' ⟨rfl,rfl⟩))
   go_ret
   exact ⟨ret_int HV.out.symm,rfl⟩
theorem iOne (b:Bool) (w:World) :
 Calls Tryz.prog 90 #[.bool b] w fun e w'=>e=.returned (.int .i64 (if b then 1 else 0))/\w'=w:=by
 cases b
 all_goals
  go_enter Tryz.func90,Tryz.ntmps90
  go_wp2
  go_ret
  exact ⟨rfl,rfl⟩
theorem sOne (b:Bool) (w:World) :
 Calls Tryz.prog 59 #[.bool b] w fun e w'=>e=.returned (.int .i64 (if b then 1 else 0))/\w'=w:=by
 cases b
 all_goals
  go_enter Tryz.func59,Tryz.ntmps59
  go_wp2
  go_ret
  exact ⟨rfl,rfl⟩
end Wd4
end Go.Proofs.YthanhcobfehmnaaGreat
