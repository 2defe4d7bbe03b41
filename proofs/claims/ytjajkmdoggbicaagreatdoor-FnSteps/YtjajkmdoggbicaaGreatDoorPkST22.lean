import Derived.Lib.AtoiAll
import Derived.Lib.SmallJoins
import Derived.Test.YtjajkmdoggbicaaGreatDoorMu8
import Derived.Test.YtjajkmdoggbicaaGreatDoorPkST9
import Derived.Test.YtjajkmdoggbicaaGreatDoorPkST1
import Derived.Test.YtjajkmdoggbicaaGreatDoorPkST5
import Derived.Test.YtjajkmdoggbicaaGreatDoorPkST4
import Derived.Test.YtjajkmdoggbicaaGreatDoorPkST2
import Derived.Test.YtjajkmdoggbicaaGreatDoorTk0
namespace Go.Proofs.YtjajkmdoggbicaaGreatDoor
set_option maxRecDepth 100000
set_option maxHeartbeats 8000000
set_option linter.unusedVariables false
namespace Rdp
open Go.RowKit
open Ta1 Mm0 Mu6 Mu8 Mc0
open Qc0 (Sn)
open Mu5 (keepM)
open Tk0 (keyL)
open Ss0 (bs bs_size)
theorem keep_mem {room:Int} {l:List Sn} {k:ByteArray} {r:Int} {x:Sn} (h:x∈keepM room l k r):x∈l\/x=⟨k,r⟩:=by
 have h1:∀ x,x∈l++[(⟨k,r⟩:Sn)]->x∈l\/x=⟨k,r⟩:=fun x hx=>by
  rcases List.mem_append.1 hx with e|e
  ·exact .inl e
  ·exact .inr (List.mem_singleton.1 e)
 unfold keepM at h
 split at h
 ·split at h
  ·exact h1 x (List.mem_of_mem_drop h)
  ·exact h1 x h
 ·exact .inl h
/-- Each key is a table's. -/
def Ky (n:Nat) (m:Mc):Prop:=∀ x∈m.memo,∃ (j:Nat) (G:Nat->Bool),j<=n/\x.k=bs (keyL j (tab j G))
/-- A right machine over the table of F, with keys of tables. -/
structure Iv (n:Nat) (F:Nat->Bool) (row:List Bool) (room:Int) (m:Mc):Prop where
 hN:m.N=(n:Int)
 hS:m.S=bs (tab n F)
 ok:Mok m
 row:m.row=row
 room:m.room=room
 keys:Ky n m
theorem step_ky {n:Nat} {F:Nat->Bool} {m:Mc} (h:Ky n m):Ky n (stepM n F m):=by
 unfold stepM
 split
 ·exact h
 ·split
  ·unfold Mu3.downM
   split
   ·exact h
   ·split
    ·exact h
    ·exact h
  ·unfold upM
   split
   ·exact h
   ·split
    ·exact h
    ·intro x hx
     rcases keep_mem hx with e|e
     ·exact h x e
     ·rw [e]
      exact ⟨_,_,Nat.sub_le _ _,rfl⟩
theorem iv_run {n:Nat} {F:Nat->Bool} {row:List Bool} {room:Int} (k:Nat):∀ {m:Mc},Iv n F row room m->Iv n F row room (runM n F k m):=by
 induction k with
 | zero=>exact fun h=>h
 | succ k ih =>
   intro m h
   by_cases e:m.over=true\/1000000000<=m.looks\/1000000000<=m.hits
   ·rw [runM_stop e];exact h
   ·rw [runM_next e]
    obtain ⟨k1,k2,k3,k4,k5⟩:=step_ok (F:=F) h.ok h.hN (by apply Classical.byContradiction;intro c;exact e (.inr (.inl (by omega)))) (by apply Classical.byContradiction;intro c;exact e (.inr (.inr (by omega))))
    exact ih ⟨k2.trans h.hN,k3.trans h.hS,k1,k4.trans h.row,k5.trans h.room,step_ky h.keys⟩
theorem key_le {j:Nat} (hj:j<=12) (G:Nat->Bool):(bs (keyL j (tab j G))).size<=5000:=by
 have h2:=(p12 hj).2
 rw [bs_size]
 unfold keyL
 rw [List.length_append,List.length_cons,tab_length]
 have h3:=Tk0.dec_short hj
 rw [bs_size] at h3
 omega
end Rdp
namespace Za0
open Go.RowKit
open Ap9
open Nd0 (Kept lt_of_cell)
open Nd6 (Bools)
open Ss0 (bs bs_size ret_str)
/-- The sign of a flag. -/
def fsg (b:Bool):UInt8:=if b=true then 97 else 115
/-- The text of a row. -/
def rowT (l:List Bool):List UInt8:=if l=[] then [45] else l.map fsg
theorem rowT_pos (l:List Bool):1<=(rowT l).length:=by
 unfold rowT
 split
 ·exact Nat.le_refl _
 ·rename_i h
  rw [List.length_map]
  exact List.length_pos_iff.2 h
theorem rowT_le (l:List Bool):(rowT l).length<=l.length+1:=by
 unfold rowT
 split
 ·simp
 ·rw [List.length_map];omega
theorem iRowText (w:World) (a:Option Addr) (l:List Bool) (c:Nat) (h:Bools w a l) (hl:l.length<=1048576) :
 Calls Tryz.prog 19 #[.slice a l.length c] w fun e w'=>e=.returned (.string (bs (rowT l)))/\Below w.heap.size w w':=by
 have H:Hid (Bools w a l):=h
 clear h
 by_cases h0:l=[]
 ·subst h0
  go_enter Tryz.func19,Tryz.ntmps19
  go_wp2
  go_ret
  exact ⟨rfl,Below.refl _ _⟩
 have hlp:=List.length_pos_iff.2 h0
 have HV:Hid (rowT l=l.map fsg):=by show _=_;unfold rowT;exact if_neg h0
 obtain ⟨n,hn⟩:∃ n,n=l.length:=⟨_,rfl⟩
 rw [<- hn]
 have hn0:((n:Int)==0)=false:=beq_eq_false_iff_ne.2 (by omega)
 have hn1:¬ n=0:=by omega
 have hn2:n<=1048576:=by omega
 have HN:Hid (n=l.length):=hn
 obtain ⟨TK,hTK⟩:∃ TK:Nat->List UInt8,TK=fun k=>(l.take k).map fsg:=⟨_,rfl⟩
 have HTK:Hid (TK=fun k=>(l.take k).map fsg):=hTK
 have HTL:Hid (∀ k,k<=n->(TK k).length=k):=by intro k hk;rw [hTK];simp;omega
 have HT0:Hid (TK 0=[]):=by show _=_;rw [hTK];rfl
 clear hn h0 hl hlp hTK
 go_enter Tryz.func19,Tryz.ntmps19
 go_wp2
 go_loopw [3,12] (fun v i wr=>∃ k:Nat,k<=n/\i=.int .i64 k/\Owu wr w.heap.size v (TK k)/\Below w.heap.size w wr) (fun _ i _=>n - (intOf i).toNat)
 case atStart=>exact ⟨0,Nat.zero_le _,rfl,by rw [HT0.out];exact Owu.lit _ _ (Nat.le_refl _),(Below.refl _ _).alloc (Nat.le_refl _) _⟩
 case round =>
  obtain ⟨k,hk,rfl,ho,hbr⟩:=hrel
  have HO:Hid (Owu wr w.heap.size u3 (TK k)):=ho
  have HB:Hid (Below w.heap.size w wr):=hbr
  clear ho hbr
  by_cases hlt:k < n
  ·have hlz:(k:Int) < (n:Int):=by omega
   have hkl:k < l.length:=by have:=HN.out;omega
   obtain ⟨b,o,ha,hc⟩:∃ b o,a=some ⟨b,o,none⟩/\wr.cell? ⟨b,o+k,none⟩=some (.bool l[k]):=by
    rcases (H.out.below HB.out).2 with e|⟨b,o,e,hc⟩
    ·omega
    ·exact ⟨b,o,e,hc k hkl⟩
   subst ha
   have hbl:=lt_of_cell hc
   have HNX:Hid (TK (k+1)=TK k++[fsg l[k]]):=by
    show _=_
    rw [HTK.out]
    show (l.take (k+1)).map fsg=(l.take k).map fsg++[fsg l[k]]
    rw [List.take_succ_eq_append_getElem hkl,List.map_append]
    rfl
   generalize l[k]=x at *
   cases x
   ·go_wp2_with (at_builtin;go_must (refine app_byte _ rfl _ _ rfl w.heap.size u3 (TK k) (fsg false) _ rfl rfl rfl HO.out HB.out.size (by rw [HTL.out k (by omega)];omega) ?_;intro g5 cp5 w5 ho5 hk5 hg5;have HO5:Hid (Owu w5 w.heap.size (.slice (some ⟨g5,0,none⟩) ((TK k).length+1) cp5) (TK k++[fsg false])):=ho5;have HK5:Hid (Kept (fun i=>u3.ownBlock=some i) wr w5):=hk5;clear ho5 hk5 hg5))
    go_roundw
    case rel=>exact ⟨k+1,by omega,by go_num,by rw [HNX.out];exact HO5.out,HB.out.trans (HK5.out.below (fun i hi=>(HO.out.lt i hi).1) HB.out.size)⟩
    case measure=>simp [intOf];omega
   ·go_wp2_with (at_builtin;go_must (refine app_byte _ rfl _ _ rfl w.heap.size u3 (TK k) (fsg true) _ rfl rfl rfl HO.out HB.out.size (by rw [HTL.out k (by omega)];omega) ?_;intro g5 cp5 w5 ho5 hk5 hg5;have HO5:Hid (Owu w5 w.heap.size (.slice (some ⟨g5,0,none⟩) ((TK k).length+1) cp5) (TK k++[fsg true])):=ho5;have HK5:Hid (Kept (fun i=>u3.ownBlock=some i) wr w5):=hk5;clear ho5 hk5 hg5))
    go_roundw
    case rel=>exact ⟨k+1,by omega,by go_num,by rw [HNX.out];exact HO5.out,HB.out.trans (HK5.out.below (fun i hi=>(HO.out.lt i hi).1) HB.out.size)⟩
    case measure=>simp [intOf];omega
  ·have hlz:¬ (k:Int) < (n:Int):=by omega
   have e:k=n:=by omega
   subst e
   have hT:TK k=rowT l:=by
    rw [HV.out,HTK.out,HN.out]
    show (l.take l.length).map fsg=_
    rw [List.take_length]
   have ho:=HO.out
   rw [hT] at ho
   have hcv:=ho.text (rowT_pos l)
   clear hT ho
   obtain ⟨R,hR⟩:∃ R,R=bs (rowT l):=⟨_,rfl⟩
   rw [<- hR] at hcv
   have HR:Hid (R=bs (rowT l)):=hR
   clear hR
   go_wp2
   go_ret
   exact ⟨ret_str HR.out,HB.out⟩
theorem sRowText (w:World) (a:Option Addr) (l:List Bool) (c:Nat) (h:Bools w a l) (hl:l.length<=1048576) :
 Calls Tryz.prog 33 #[.slice a l.length c] w fun e w'=>e=.returned (.string (bs (rowT l)))/\Below w.heap.size w w':=by
 have H:Hid (Bools w a l):=h
 clear h
 obtain ⟨n,hn⟩:∃ n,n=l.length:=⟨_,rfl⟩
 rw [<- hn]
 have hn2:n<=1048576:=by omega
 have HN:Hid (n=l.length):=hn
 obtain ⟨TK,hTK⟩:∃ TK:Nat->List UInt8,TK=fun k=>(l.take k).map fsg:=⟨_,rfl⟩
 have HTK:Hid (TK=fun k=>(l.take k).map fsg):=hTK
 have HTL:Hid (∀ k,k<=n->(TK k).length=k):=by intro k hk;rw [hTK];simp;omega
 have HT0:Hid (TK 0=[]):=by show _=_;rw [hTK];rfl
 clear hn hl hTK
 go_enter Tryz.func33,Tryz.ntmps33
 go_wp2
 go_loopw [3,4] (fun v i wr=>∃ k:Nat,k<=n/\i=.int .i64 k/\Owu wr w.heap.size v (TK k)/\Below w.heap.size w wr) (fun _ i _=>n - (intOf i).toNat)
 case atStart=>exact ⟨0,Nat.zero_le _,rfl,by rw [HT0.out];exact Owu.lit _ _ (Nat.le_refl _),(Below.refl _ _).alloc (Nat.le_refl _) _⟩
 case round =>
  obtain ⟨k,hk,rfl,ho,hbr⟩:=hrel
  have HO:Hid (Owu wr w.heap.size u3 (TK k)):=ho
  have HB:Hid (Below w.heap.size w wr):=hbr
  clear ho hbr
  by_cases hlt:k < n
  ·have hlz:(k:Int) < (n:Int):=by omega
   have hkl:k < l.length:=by have:=HN.out;omega
   obtain ⟨b,o,ha,hc⟩:∃ b o,a=some ⟨b,o,none⟩/\wr.cell? ⟨b,o+k,none⟩=some (.bool l[k]):=by
    rcases (H.out.below HB.out).2 with e|⟨b,o,e,hc⟩
    ·omega
    ·exact ⟨b,o,e,hc k hkl⟩
   subst ha
   have hbl:=lt_of_cell hc
   have HNX:Hid (TK (k+1)=TK k++[fsg l[k]]):=by
    show _=_
    rw [HTK.out]
    show (l.take (k+1)).map fsg=(l.take k).map fsg++[fsg l[k]]
    rw [List.take_succ_eq_append_getElem hkl,List.map_append]
    rfl
   generalize l[k]=x at *
   cases x
   ·go_wp2_with (at_builtin;go_must (refine app_byte _ rfl _ _ rfl w.heap.size u3 (TK k) (fsg false) _ rfl rfl rfl HO.out HB.out.size (by rw [HTL.out k (by omega)];omega) ?_;intro g5 cp5 w5 ho5 hk5 hg5;have HO5:Hid (Owu w5 w.heap.size (.slice (some ⟨g5,0,none⟩) ((TK k).length+1) cp5) (TK k++[fsg false])):=ho5;have HK5:Hid (Kept (fun i=>u3.ownBlock=some i) wr w5):=hk5;clear ho5 hk5 hg5))
    go_roundw
    case rel=>exact ⟨k+1,by omega,by go_num,by rw [HNX.out];exact HO5.out,HB.out.trans (HK5.out.below (fun i hi=>(HO.out.lt i hi).1) HB.out.size)⟩
    case measure=>simp [intOf];omega
   ·go_wp2_with (at_builtin;go_must (refine app_byte _ rfl _ _ rfl w.heap.size u3 (TK k) (fsg true) _ rfl rfl rfl HO.out HB.out.size (by rw [HTL.out k (by omega)];omega) ?_;intro g5 cp5 w5 ho5 hk5 hg5;have HO5:Hid (Owu w5 w.heap.size (.slice (some ⟨g5,0,none⟩) ((TK k).length+1) cp5) (TK k++[fsg true])):=ho5;have HK5:Hid (Kept (fun i=>u3.ownBlock=some i) wr w5):=hk5;clear ho5 hk5 hg5))
    go_roundw
    case rel=>exact ⟨k+1,by omega,by go_num,by rw [HNX.out];exact HO5.out,HB.out.trans (HK5.out.below (fun i hi=>(HO.out.lt i hi).1) HB.out.size)⟩
    case measure=>simp [intOf];omega
  ·have hlz:¬ (k:Int) < (n:Int):=by omega
   have e:k=n:=by omega
   subst e
   have hT:TK k=l.map fsg:=by
    rw [HTK.out,HN.out]
    show (l.take l.length).map fsg=_
    rw [List.take_length]
   obtain ⟨av,cv,hv,hwb⟩:=HO.out.form
   have hln:(TK k).length=k:=HTL.out k (Nat.le_refl _)
   rw [hln] at hv
   subst hv
   by_cases h0:l=[]
   ·have hk0:k=0:=by rw [HN.out,h0];rfl
    have HR:Hid (⟨#[45]⟩=bs (rowT l)):=by show _=_;rw [h0];rfl
    subst hk0
    clear hT hwb hln h0
    go_wp2
    go_ret
    exact ⟨ret_str HR.out,HB.out⟩
   ·have hk0:((k:Int)==0)=false:=beq_eq_false_iff_ne.2 (by have:=HN.out;have:=List.length_pos_iff.2 h0;omega)
    have hk1:¬ k=0:=by have:=HN.out;have:=List.length_pos_iff.2 h0;omega
    have hT2:TK k=rowT l:=by rw [hT];unfold rowT;exact (if_neg h0).symm
    have ho:=HO.out
    rw [hT2] at ho
    have hcv:=ho.text (rowT_pos l)
    clear hT ho hT2 hwb hln h0
    obtain ⟨R,hR⟩:∃ R,R=bs (rowT l):=⟨_,rfl⟩
    rw [<- hR] at hcv
    have HR:Hid (R=bs (rowT l)):=hR
    clear hR
    go_wp2
    go_ret
    exact ⟨ret_str HR.out,HB.out⟩
end Za0
namespace Za1
open Go.RowKit
open Ap1 Za0
open Nd0 (Kept lt_of_cell)
open Ss1 (tl tl_length tl_take tl_get)
open Tc2 (sInT sInF)
/-- Whether a text is that of a row. -/
def rrB (s:List UInt8):Bool:=decide (s=[45]\/(1<=s.length/\s.length<=12/\∀ c∈s,c=97\/c=115))
/-- What is read of it. -/
def rrL (s:List UInt8):List Bool:=if s≠[45]/\rrB s=true then s.map (fun x=>x==97) else []
theorem rrL_bad {s:List UInt8} (h:rrB s=false):rrL s=[]:=by
 unfold rrL
 rw [h]
 simp
theorem rr_len {s:List UInt8} (h0:s≠[45]) (h:¬ (1<=s.length/\s.length<=12)):rrB s=false:=by
 unfold rrB
 refine decide_eq_false ?_
 rintro (e|⟨h1,h2,_⟩)
 ·exact h0 e
 ·exact h ⟨h1,h2⟩
theorem rr_good {s:List UInt8} (h0:s≠[45]) (h1:1<=s.length) (h2:s.length<=12) (h:∀ c∈s,c=97\/c=115):rrB s=true/\rrL s=s.map fun x=>x==97:=by
 have e:rrB s=true:=decide_eq_true (.inr ⟨h1,h2,h⟩)
 refine ⟨e,?_⟩
 unfold rrL
 exact if_pos ⟨h0,e⟩
theorem rr_bad {s:List UInt8} (h0:s≠[45]) {c:UInt8} (hc:c∈s) (h1:c≠97) (h2:c≠115):rrB s=false/\rrL s=[]:=by
 have e:rrB s=false:=decide_eq_false (by
  rintro (e|⟨_,_,h⟩)
  ·exact h0 e
  ·rcases h c hc with e|e
   ·exact h1 e
   ·exact h2 e)
 exact ⟨e,rrL_bad e⟩
theorem rrL_le (s:List UInt8):(rrL s).length<=12:=by
 unfold rrL
 split
 ·rename_i h
  rw [List.length_map]
  rcases of_decide_eq_true h.2 with e|e
  ·exact absurd e h.1
  ·exact e.2.1
 ·exact Nat.zero_le _
/-- A row's text is read as the row. -/
theorem rr_row (l:List Bool) (h:l.length<=12):rrB (rowT l)=true/\rrL (rowT l)=l:=by
 by_cases h0:l=[]
 ·subst h0;exact ⟨rfl,rfl⟩
 ·have e:rowT l=l.map fsg:=if_neg h0
  have hp:=List.length_pos_iff.2 h0
  have hne:l.map fsg≠[45]:=by
   intro e
   obtain ⟨b,r,rfl⟩:=List.exists_cons_of_ne_nil h0
   rw [List.map_cons] at e
   have:=(List.cons.inj e).1
   cases b<;>cases this
  rw [e]
  obtain ⟨h1,h2⟩:=rr_good hne (by rw [List.length_map];exact hp) (by rw [List.length_map];exact h) (fun c hc=>by
   obtain ⟨b,_,rfl⟩:=List.mem_map.1 hc
   cases b
   ·exact .inr rfl
   ·exact .inl rfl)
  refine ⟨h1,?_⟩
  rw [h2,List.map_map]
  have:((fun x=>x==97)∘fsg)=id:=by funext b;cases b<;>rfl
  rw [this,List.map_id]
theorem iReadRow (S:ByteArray) (w:World) (hS:S.size<=1048576) :
 Calls Tryz.prog 18 #[.string S] w fun e w'=>∃ v,e=.returned (.tuple #[v,.bool (rrB (tl S))])/\Owb w' w.heap.size v (rrL (tl S))/\Below w.heap.size w w':=by
 have hlen:=tl_length S
 by_cases h45:tl S=[45]
 ·have hq:(S.toList==[45])=true:=Ss1.eql_true h45
  have HRL:Hid (rrL (tl S)=[]):=by show _=_;rw [h45];rfl
  have HRB:Hid (rrB (tl S)=true):=by show _=_;rw [h45];rfl
  clear h45 hlen
  go_enter Tryz.func18,Tryz.ntmps18
  go_wp2
  go_ret2
  exact ⟨_,by rw [HRB.out];rfl,by rw [HRL.out];exact Owb.lit _ _ (Nat.le_refl _),(Below.refl _ _).alloc (Nat.le_refl _) _⟩
 have hq:(S.toList==[45])=false:=Ss1.eql_false h45
 by_cases hz:1<=S.size/\S.size<=12
 rotate_left
 ·have HRB:Hid (rrB (tl S)=false):=rr_len h45 (by rw [hlen];exact hz)
  have HRL:Hid (rrL (tl S)=[]):=rrL_bad HRB.out
  have hin:¬ ((1:Int)<=(S.size:Int)/\(S.size:Int)<=12):=by omega
  by_cases h0:S.size=0
  ·have hq0:(S.toList==[])=true:=Ss1.eql_true (List.eq_nil_of_length_eq_zero (by rw [hlen];exact h0))
   clear h45 hlen hz h0
   go_enter Tryz.func18,Tryz.ntmps18
   go_wp2
   go_ret2
   exact ⟨_,by rw [HRB.out];rfl,by rw [HRL.out];exact Owb.lit _ _ (Nat.le_refl _),(Below.refl _ _).alloc (Nat.le_refl _) _⟩
  ·have hq0:(S.toList==[])=false:=Ss1.eql_false (fun e=>h0 (by rw [<- hlen,e];rfl))
   have hq1:(12:Int) < (S.size:Int):=by omega
   clear h45 hlen hz h0
   go_enter Tryz.func18,Tryz.ntmps18
   go_wp2
   go_ret2
   exact ⟨_,by rw [HRB.out];rfl,by rw [HRL.out];exact Owb.lit _ _ (Nat.le_refl _),(Below.refl _ _).alloc (Nat.le_refl _) _⟩
 have hin:(1:Int)<=(S.size:Int)/\(S.size:Int)<=12:=by omega
 have hq0:(S.toList==[])=false:=Ss1.eql_false (fun e=>by rw [e] at hlen;simp at hlen;omega)
 have hq1:¬ (12:Int) < (S.size:Int):=by omega
 have hs12:S.size<=12:=hz.2
 have HRT:Hid ((∀ c∈tl S,c=97\/c=115)->rrB (tl S)=true/\rrL (tl S)=(tl S).map fun x=>x==97):=fun h=>rr_good h45 (by omega) (by omega) h
 have HRF:Hid (∀ c∈tl S,c≠97->c≠115->rrB (tl S)=false/\rrL (tl S)=[]):=fun c hc h1 h2=>rr_bad h45 hc h1 h2
 clear h45 hz
 obtain ⟨TK,hTK⟩:∃ TK:Nat->List Bool,TK=fun k=>((tl S).take k).map fun x=>x==97:=⟨_,rfl⟩
 have HTK:Hid (TK=fun k=>((tl S).take k).map fun x=>x==97):=hTK
 have HTL:Hid (∀ k,k<=S.size->(TK k).length=k):=by intro k hk;rw [hTK];simp;omega
 have HT0:Hid (TK 0=[]):=by show _=_;rw [hTK];rfl
 have HLEN:Hid ((tl S).length=S.size):=hlen
 clear hTK hlen
 go_enter Tryz.func18,Tryz.ntmps18
 go_wp2
 go_loopw [4,20] (fun v i wr=>∃ k:Nat,k<=S.size/\i=.int .i64 k/\Owb wr w.heap.size v (TK k)/\Below w.heap.size w wr/\∀ c∈(tl S).take k,c=97\/c=115) (fun _ i _=>S.size - (intOf i).toNat)
 case atStart=>exact ⟨0,Nat.zero_le _,rfl,by rw [HT0.out];exact Owb.lit _ _ (Nat.le_refl _),(Below.refl _ _).alloc (Nat.le_refl _) _,fun c hc=>by simp at hc⟩
 case round =>
  obtain ⟨k,hk,rfl,ho,hbr,hg⟩:=hrel
  have HO:Hid (Owb wr w.heap.size u4 (TK k)):=ho
  have HB:Hid (Below w.heap.size w wr):=hbr
  have HG:Hid (∀ c∈(tl S).take k,c=97\/c=115):=hg
  clear ho hbr hg
  by_cases hlt:k < S.size
  ·have hlz:(k:Int) < (S.size:Int):=by omega
   have HX:Hid ((tl S).take (k+1)=(tl S).take k++[S[k]]):=tl_take S k hlt
   have HM:Hid (S[k]∈tl S):=by
    show _∈_
    rw [tl_get S k hlt];exact List.getElem_mem _
   have HNX:Hid (TK (k+1)=TK k++[S[k]==97]):=by
    show _=_
    rw [HTK.out]
    show ((tl S).take (k+1)).map (fun x=>x==97)=((tl S).take k).map (fun x=>x==97)++[_]
    rw [HX.out,List.map_append]
    rfl
   by_cases h8:S[k]=97
   ·have b8:((S[k].toNat:Int) != 97)=false:=by rw [h8];rfl
    have c8:((S[k].toNat:Int)==97)=true:=by rw [h8];rfl
    have H8:Hid (S[k]=97\/S[k]=115):=.inl h8
    have HE:Hid ((S[k]==97)=true):=by show _=_;rw [h8];rfl
    rw [HE.out] at HNX
    clear h8
    go_wp2_with (at_builtin;go_must (refine app_bool _ rfl _ _ rfl w.heap.size u4 (TK k) true rfl rfl HO.out HB.out.size (by rw [HTL.out k hk];omega) ?_;intro g5 cp5 w5 ho5 hk5 hg5;have HO5:Hid (Owb w5 w.heap.size (.slice (some ⟨g5,0,none⟩) ((TK k).length+1) cp5) (TK k++[true])):=ho5;have HK5:Hid (Kept (fun i=>u4.ownBlock=some i) wr w5):=hk5;clear ho5 hk5 hg5))
    go_roundw
    case rel=>exact ⟨k+1,by omega,by go_num,by rw [HNX.out];exact HO5.out,HB.out.trans (HK5.out.below (fun i hi=>(HO.out.lt i hi).1) HB.out.size),fun c hc=>by
     rw [HX.out] at hc
     rcases List.mem_append.1 hc with h|h
     ·exact HG.out c h
     ·rw [List.mem_singleton.1 h];exact H8.out⟩
    case measure=>simp [intOf];omega
   ·have b8:((S[k].toNat:Int) != 97)=true:=bne_iff_ne.2 fun e=>h8 (UInt8.toNat_inj.1 (by have:(97:UInt8).toNat=97:=rfl;omega))
    have c8:((S[k].toNat:Int)==97)=false:=beq_eq_false_iff_ne.2 fun e=>h8 (UInt8.toNat_inj.1 (by have:(97:UInt8).toNat=97:=rfl;omega))
    by_cases h9:S[k]=115
    ·have b9:((S[k].toNat:Int) != 115)=false:=by rw [h9];rfl
     have H8:Hid (S[k]=97\/S[k]=115):=.inr h9
     have HE:Hid ((S[k]==97)=false):=beq_eq_false_iff_ne.2 h8
     rw [HE.out] at HNX
     clear h8 h9
     go_wp2_with (at_builtin;go_must (refine app_bool _ rfl _ _ rfl w.heap.size u4 (TK k) false rfl rfl HO.out HB.out.size (by rw [HTL.out k hk];omega) ?_;intro g5 cp5 w5 ho5 hk5 hg5;have HO5:Hid (Owb w5 w.heap.size (.slice (some ⟨g5,0,none⟩) ((TK k).length+1) cp5) (TK k++[false])):=ho5;have HK5:Hid (Kept (fun i=>u4.ownBlock=some i) wr w5):=hk5;clear ho5 hk5 hg5))
     go_roundw
     case rel=>exact ⟨k+1,by omega,by go_num,by rw [HNX.out];exact HO5.out,HB.out.trans (HK5.out.below (fun i hi=>(HO.out.lt i hi).1) HB.out.size),fun c hc=>by
      rw [HX.out] at hc
      rcases List.mem_append.1 hc with h|h
      ·exact HG.out c h
      ·rw [List.mem_singleton.1 h];exact H8.out⟩
     case measure=>simp [intOf];omega
    ·have b9:((S[k].toNat:Int) != 115)=true:=bne_iff_ne.2 fun e=>h9 (UInt8.toNat_inj.1 (by have:(115:UInt8).toNat=115:=rfl;omega))
     have HF:Hid (rrB (tl S)=false/\rrL (tl S)=[]):=HRF.out _ HM.out h8 h9
     clear h8 h9
     go_wp2
     go_ret2
     exact ⟨_,by rw [HF.out.1];rfl,by rw [HF.out.2];exact Owb.lit _ _ HB.out.size,HB.out.alloc HB.out.size _⟩
  ·have hlz:¬ (k:Int) < (S.size:Int):=by omega
   have HF:Hid (rrB (tl S)=true/\rrL (tl S)=TK k):=by
    show _/\_
    have e:(tl S).take k=tl S:=List.take_of_length_le (by have:=HLEN.out;omega)
    have hg:=HG.out
    rw [e] at hg
    obtain ⟨h1,h2⟩:=HRT.out hg
    refine ⟨h1,?_⟩
    rw [h2,HTK.out]
    show _=((tl S).take k).map fun x=>x==97
    rw [e]
   go_wp2
   go_ret2
   exact ⟨_,by rw [HF.out.1];rfl,by rw [HF.out.2];exact HO.out,HB.out⟩
end Za1
namespace Zk0
open Tx0 Ta1
open Ss1 (numI)
open Tk0 (keyL)
/-- What stands ahead of the first c, and behind it. -/
def cutF (c:UInt8) (s:List UInt8):List UInt8:=s.takeWhile (fun x=>x != c)
def cutS (c:UInt8) (s:List UInt8):List UInt8:=(s.dropWhile (fun x=>x != c)).drop 1
theorem cut_at (d:UInt8) (s:List UInt8):(if 0<=Lib.index s [d] then s.take (Lib.index s [d]).toNat else s)=cutF d s/\(if 0<=Lib.index s [d] then s.drop ((Lib.index s [d]).toNat+1) else [])=cutS d s:=by
 unfold cutF cutS
 induction s with
 | nil=>simp [Lib.index]
 | cons c l ih =>
   by_cases h:c=d
   ·subst h
    have e:Lib.index (c :: l) [c]=0:=by unfold Lib.index;rw [if_pos (by simp [List.isPrefixOf])]
    rw [e]
    constructor
    ·simp
    ·simp
   ·have hc:(c != d)=true:=by simp [h]
    rw [List.takeWhile_cons_of_pos (p:=fun c=>c != d) hc,List.dropWhile_cons_of_pos (p:=fun c=>c != d) hc,<- ih.1,<- ih.2]
    have e:Lib.index (c :: l) [d]=if Lib.index l [d] == -1 then -1 else Lib.index l [d]+1:=by
     conv=>lhs;unfold Lib.index
     rw [if_neg (by simp [List.isPrefixOf];exact fun z=>h z.symm)]
    have hg:=Lib.index_ge l [d]
    by_cases e1:Lib.index l [d] = -1
    ·rw [e,e1];simp
    ·have h0:0<=Lib.index l [d]:=by omega
     have e2:Lib.index (c :: l) [d]=Lib.index l [d]+1:=by rw [e,if_neg (by simpa using e1)]
     rw [e2,if_pos (by omega),if_pos h0,if_pos (by omega),if_pos h0,show (Lib.index l [d]+1).toNat=(Lib.index l [d]).toNat+1 by omega,List.take_succ_cons,List.drop_succ_cons]
     exact ⟨rfl,rfl⟩
theorem cut_one (d:UInt8) (s:List UInt8):(Lib.cut s [d]).1=cutF d s:=by
 rw [<- (cut_at d s).1]
 unfold Lib.cut
 split<;>rfl
theorem cut_two (d:UInt8) (s:List UInt8):(Lib.cut s [d]).2.1=cutS d s:=by
 rw [<- (cut_at d s).2]
 unfold Lib.cut
 split<;>rfl
theorem cutF_le (c:UInt8) (s:List UInt8):(cutF c s).length<=s.length:=(List.takeWhile_sublist _).length_le
theorem cutS_le (c:UInt8) (s:List UInt8):(cutS c s).length<=s.length:=by
 unfold cutS
 rw [List.length_drop]
 have:=(List.dropWhile_sublist (l:=s) (fun x=>x != c)).length_le
 omega
theorem cut_app (c:UInt8) (x y:List UInt8) (h:∀ d∈x,d≠c):cutF c (x++c :: y)=x/\cutS c (x++c :: y)=y:=by
 unfold cutF cutS
 have hx:∀ d∈x,(d != c)=true:=fun d hd=>bne_iff_ne.2 (h d hd)
 rw [List.takeWhile_append_of_pos hx,List.dropWhile_append_of_pos hx]
 constructor
 ·rw [List.takeWhile_cons_of_neg (by simp),List.append_nil]
 ·rw [List.dropWhile_cons_of_neg (by simp)];rfl
theorem cut_lt (c:UInt8) {s:List UInt8} (h:s≠[]):(cutS c s).length < s.length:=by
 unfold cutS
 rw [List.length_drop]
 have:=(List.dropWhile_sublist (l:=s) (fun x=>x != c)).length_le
 have:=List.length_pos_iff.2 h
 omega
/-- A number as it is read: its value, and whether it is one. -/
def rnP (s:List UInt8):Int × Bool:=match Lib.atoiAll s with
 | .ok v=>(v,true)
 | .«syntax» => (0,false)
 | .range=>(Lib.atoiSat s,false)
def valF (acc:Nat) (d:List UInt8):Nat:=d.foldl (fun n c=>10*n+(c.toNat - 48)) acc
theorem valF_zero (d:List UInt8):valF 0 d=valL d:=rfl
theorem parse_digits:∀ (d:List UInt8) (acc:Nat),(∀ c∈d,isDig c=true)->(acc+1)*10 ^ d.length<=10 ^ 18->Lib.parseUint10 acc d=.ok (valF acc d):=by
 intro d
 induction d with
 | nil=>intro acc _ _;rfl
 | cons c r ih =>
   intro acc hd hb
   have hc:=of_decide_eq_true (hd c (by simp))
   have hp:0 < 10 ^ r.length:=Nat.pow_pos (by omega)
   rw [List.length_cons,Nat.pow_succ] at hb
   have h1:(acc+1)*10*10 ^ r.length<=10 ^ 18:=by
    rw [Nat.mul_assoc,Nat.mul_comm 10];exact hb
   have h2:(acc+1)*10<=10 ^ 18:=Nat.le_trans (Nat.le_mul_of_pos_right _ hp) h1
   simp only [Lib.parseUint10]
   rw [if_pos hc,if_neg (by omega),if_neg (by omega),ih _ (fun x hx=>hd x (by simp [hx]))]
   ·unfold valF
    rw [List.foldl_cons,Nat.mul_comm acc]
   ·refine Nat.le_trans (Nat.mul_le_mul_right _ ?_) h1
    omega
theorem atoi_digits {d:List UInt8} (hd:∀ c∈d,isDig c=true) (h1:1<=d.length) (h9:d.length<=17):Lib.atoiAll d=.ok (valL d:Int):=by
 cases d with
 | nil=>simp at h1
 | cons c r =>
   have hc:=of_decide_eq_true (hd c (by simp))
   have hpw:10 ^ (c :: r).length<=10 ^ 17:=Nat.pow_le_pow_right (by omega) h9
   have hp:=parse_digits (c :: r) 0 hd (by omega)
   have hv:valL (c :: r) < 10 ^ (c :: r).length:=val_lt _ hd
   unfold Lib.atoiAll
   simp only
   rw [if_neg (by omega)]
   unfold Lib.parseMag
   rw [if_neg (by simp),hp,valF_zero]
   simp only
   rw [if_neg (by omega),if_neg (by omega),if_neg (by omega)]
theorem dec_len' {n k:Nat} (hk:1<=k) (h:n < 10 ^ k):1<=(dec n).length/\(dec n).length<=k:=by
 unfold dec
 split
 ·exact ⟨Nat.le_refl _,hk⟩
 ·exact ⟨digs_one (by omega),digs_len k n h⟩
theorem rn_dec {n:Nat} (h:n < 10 ^ 17):rnP (dec n)=((n:Int),true):=by
 unfold rnP
 rw [atoi_digits (dec_all n) (dec_len' (by omega) h).1 (dec_len' (by omega) h).2,val_dec]
theorem rn_minus:rnP [45,49]=(-1,true):=by decide +kernel
theorem dig_not {c d:UInt8} (h:isDig c=true) (hd:isDig d=false):c≠d:=fun e=>by rw [e,hd] at h;cases h
/-- A key, read. -/
def rkN (s:List UInt8):Int:=(rnP (cutF 58 s)).1
def rkB (s:List UInt8):Bool:=(rnP (cutF 58 s)).2&&(tokB (rkN s) (cutS 58 s)&&decide (keyL (rkN s).toNat (cutS 58 s)=s))
theorem key_cut (n:Nat) (l:List UInt8):cutF 58 (keyL n l)=dec n/\cutS 58 (keyL n l)=l:=cut_app 58 (dec n) l (fun d hd=>dig_not (dec_all n d hd) (by decide))
theorem rk_key {n:Nat} (F:Nat->Bool) (hn:n<=12):rkB (keyL n (tab n F))=true/\rkN (keyL n (tab n F))=(n:Int)/\cutS 58 (keyL n (tab n F))=tab n F:=by
 obtain ⟨h1,h2⟩:=key_cut n (tab n F)
 have h3:rkN (keyL n (tab n F))=(n:Int):=by unfold rkN;rw [h1,rn_dec (by omega)]
 refine ⟨?_,h3,h2⟩
 unfold rkB
 rw [h3,h2,h1,rn_dec (by omega),tab_tok F hn,Int.toNat_natCast]
 simp
theorem rk_of {s:List UInt8} (h:rkB s=true):∃ (n:Nat) (F:Nat->Bool),n<=12/\s=keyL n (tab n F):=by
 unfold rkB at h
 obtain ⟨_,h⟩:=Bool.and_eq_true_iff.1 h
 obtain ⟨h1,h2⟩:=Bool.and_eq_true_iff.1 h
 obtain ⟨n,F,hn,hN,hl⟩:=tok_tab h1
 have h3:=of_decide_eq_true h2
 rw [hN,hl,Int.toNat_natCast] at h3
 exact ⟨n,F,hn,h3.symm⟩
/-- A key, as the model reads it. -/
def mkB (s:List UInt8):Bool:=decide ((cutF 58 s).length<=2/\(cutF 58 s).length≠s.length)&&(tokB (numI (cutF 58 s)) (cutS 58 s)&&decide (keyL (numI (cutF 58 s)).toNat (cutS 58 s)=s))
theorem numI_dec {n:Nat} (h:n < 10 ^ 9):numI (dec n)=(n:Int):=by unfold numI;rw [num_dec h]
theorem dec_two {n:Nat} (h:n<=12):(dec n).length<=2:=(dec_len' (k:=2) (by omega) (by omega)).2
theorem mk_key {n:Nat} (F:Nat->Bool) (hn:n<=12):mkB (keyL n (tab n F))=true/\numI (cutF 58 (keyL n (tab n F)))=(n:Int):=by
 obtain ⟨h1,h2⟩:=key_cut n (tab n F)
 have h3:numI (cutF 58 (keyL n (tab n F)))=(n:Int):=by rw [h1,numI_dec (by omega)]
 refine ⟨?_,h3⟩
 unfold mkB
 rw [h3,h2,h1,tab_tok F hn,Int.toNat_natCast]
 have hl:(dec n).length≠(keyL n (tab n F)).length:=by unfold keyL;rw [List.length_append,List.length_cons];omega
 rw [decide_eq_true ⟨dec_two hn,hl⟩]
 simp
theorem mk_of {s:List UInt8} (h:mkB s=true):∃ (n:Nat) (F:Nat->Bool),n<=12/\s=keyL n (tab n F):=by
 unfold mkB at h
 obtain ⟨_,h⟩:=Bool.and_eq_true_iff.1 h
 obtain ⟨h1,h2⟩:=Bool.and_eq_true_iff.1 h
 obtain ⟨n,F,hn,hN,hl⟩:=tok_tab h1
 have h3:=of_decide_eq_true h2
 rw [hN,hl,Int.toNat_natCast] at h3
 exact ⟨n,F,hn,h3.symm⟩
theorem mk_rk (s:List UInt8):mkB s=rkB s:=by
 rw [Bool.eq_iff_iff]
 constructor
 ·intro h
  obtain ⟨n,F,hn,rfl⟩:=mk_of h
  exact (rk_key F hn).1
 ·intro h
  obtain ⟨n,F,hn,rfl⟩:=rk_of h
  exact (mk_key F hn).1
end Zk0
end Go.Proofs.YtjajkmdoggbicaaGreatDoor
