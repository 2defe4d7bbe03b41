import Derived.Test.YtfhdbcfhhbdiiaaTe3
namespace Go.Proofs.Ytfhdbcfhhbdiiaa
set_option maxRecDepth 100000
set_option maxHeartbeats 8000000
set_option linter.unusedVariables false
namespace Vo0
open Go.RowKit
open Ta0 Ta1 Ta2 Tc2 Te1
open Nd0 (Kept Ints set_other set_same lt_of_cell)
/-- Whether all are bits. -/
def allB (l:List Int):Bool:=l.all bitB
theorem allB_no {l:List Int} {k:Nat} (h:k < l.length) (hb:bitB l[k]=false):allB l=false:=by
 unfold allB
 rw [List.all_eq_false]
 exact ⟨_,List.getElem_mem h,by rw [hb];simp⟩
theorem iPlaceAny (a:Option Addr) (l:List Int) (c:Nat) (w:World) (hI:Ints w a l) :
 Calls Try.prog 65 #[.slice a l.length c] w fun e w'=>(∃ p:Int,e=.returned (.tuple #[.int .i64 p,.bool (allB l)]))/\w'=w:=by
 have HI1:Hid (Ints w a l):=hI
 have hm:=hI.1
 unfold maxLen at hm
 clear hI
 go_enter Try.func65,Try.ntmps65
 go_wp2
 go_loop [4,9] (fun p i=>∃ (k:Nat) (y:Int),k<=l.length/\i=.int .i64 k/\p=.int .i64 y/\∀ j (hj:j < l.length),j < k->bitB l[j]=true) (fun _ i=>l.length - (intOf i).toNat)
 case atStart=>exact ⟨0,0,Nat.zero_le _,rfl,rfl,fun j _ hj=>by omega⟩
 case round =>
  obtain ⟨k,y,hk,rfl,rfl,hbt⟩:=hrel
  have HBT:Hid (∀ j (hj:j < l.length),j < k->bitB l[j]=true):=hbt
  clear hbt
  by_cases hlt:k < l.length
  ·have hkz:(k:Int) < (l.length:Int):=by omega
   rcases HI1.out.2 with h0|⟨xb,xo,rfl,hc⟩
   ·omega
   have p0:=hc k hlt
   clear hc
   have HN:Hid (bitB l[k]=false->allB l=false):=allB_no hlt
   have HY:Hid (bitB l[k]=true->∀ j (hj:j < l.length),j < k+1->bitB l[j]=true):=fun h j hj h2=>by
    by_cases e:j=k
    ·subst e;exact h
    ·exact HBT.out j hj (by omega)
   generalize l[k]=x at *
   have HIC:Hid (∀ W,Calls Try.prog 54 #[.int .i64 x] W fun e w'=>e=.returned (.bool (bitB x))/\w'=W):=fun W=>iBitOk x W
   cases hB:bitB x
   ·have HBd:Hid (allB l=false):=HN.out hB
    rw [hB] at HIC
    clear hB
    go_wp2_with (go_at_call 54;refine (HIC.out _).mono ?_;rintro e w' ⟨rfl,rfl⟩)
    go_ret2
    exact ⟨⟨0,by rw [HBd.out];rfl⟩,rfl⟩
   ·have HT:=HY.out hB
    have HT2:Hid (∀ j (hj:j < l.length),j < k+1->bitB l[j]=true):=HT
    rw [hB] at HIC
    clear hB HT
    go_wp2_with (go_at_call 54;refine (HIC.out _).mono ?_;rintro e w' ⟨rfl,rfl⟩)
    go_round
    case rel=>exact ⟨k+1,_,by omega,by go_num,rfl,HT2.out⟩
    case measure=>simp [intOf];omega
  ·have HT:Hid (allB l=true):=by
    show _=_
    unfold allB
    rw [List.all_eq_true]
    intro x hx
    obtain ⟨t,ht,rfl⟩:=List.getElem_of_mem hx
    exact HBT.out t ht (by omega)
   go_wp2
   go_ret2
   exact ⟨⟨y,by rw [HT.out];rfl⟩,rfl⟩
/-- At most n bits. -/
def valB (l:List Int) (n:Int):Bool:=allB l&&decide ((l.length:Int)<=n)
theorem iVals (a:Option Addr) (l:List Int) (c:Nat) (n:Int) (w:World) (hI:Ints w a l) :
 Calls Try.prog 64 #[.slice a l.length c,.int .i64 n] w fun e w'=>e=.returned (.bool (valB l n))/\w'=w:=by
 have HI1:Hid (Ints w a l):=hI
 clear hI
 cases hA:allB l
 ·have HF:Hid (valB l n=false):=by show _=_;unfold valB;rw [hA];rfl
  go_enter Try.func64,Try.ntmps64
  go_wp2_with fail
  refine (iPlaceAny a l c _ HI1.out).mono ?_
  rw [hA]
  rintro e w2 ⟨⟨p,rfl⟩,rfl⟩
  clear hA
  go_wp2
  go_ret
  exact ⟨ret_bool HF.out.symm,rfl⟩
 ·by_cases hn:(l.length:Int)<=n
  ·have HF:Hid (valB l n=true):=by show _=_;unfold valB;rw [hA,decide_eq_true hn];rfl
   have hnb:decide ((l.length:Int)<=n)=true:=decide_eq_true hn
   go_enter Try.func64,Try.ntmps64
   go_wp2_with fail
   refine (iPlaceAny a l c _ HI1.out).mono ?_
   rw [hA]
   rintro e w2 ⟨⟨p,rfl⟩,rfl⟩
   clear hA
   go_wp2
   go_ret
   exact ⟨ret_bool HF.out.symm,rfl⟩
  ·have HF:Hid (valB l n=false):=by show _=_;unfold valB;rw [decide_eq_false hn];simp
   have hnb:decide ((l.length:Int)<=n)=false:=decide_eq_false hn
   go_enter Try.func64,Try.ntmps64
   go_wp2_with fail
   refine (iPlaceAny a l c _ HI1.out).mono ?_
   rw [hA]
   rintro e w2 ⟨⟨p,rfl⟩,rfl⟩
   clear hA
   go_wp2
   go_ret
   exact ⟨ret_bool HF.out.symm,rfl⟩
end Vo0
namespace Dqa
open Go.RowKit
open Nd0 Nd1 Nd2 Nd3 Ap1 Nd6
open Ta2 (bitB)
theorem infoBool0:(Try.prog.info? 4).map (fun i=>(i.zero,i.size,i.bytes))=some (some (.bool false),1,1):=by kernel_rfl
def noughtsB (n:Nat):Array Value:=madeCells #[.bool false] (n*1)
theorem noughtsB_get (n j:Nat) (h:j < n):(noughtsB n)[j]? = some (.bool false):=by
 simp only [noughtsB,madeCells,Array.getElem?_map,Array.getElem?_range]
 rw [if_pos (by omega)]
 simp only [Option.map_some]
 have e:j % 1=0:=Nat.mod_one j
 exact congrArg (fun m=>some ((#[.bool false]:Array Value)[m]!)) e
theorem makeBools0 (n:Nat) (hn:n<=1048576) (w:World) :
 (Instr.makeSlice 24 (.int .i64 (n:Int)) (.int .i64 (n:Int))).run Try.prog w=.ok (.slice (some ⟨w.heap.size,0,none⟩) n n) (w.alloc (.cells (noughtsB n) 4)):=by
 obtain ⟨i,hi,hzz⟩:=Option.map_eq_some_iff.1 infoBool0
 simp only [Prod.mk.injEq] at hzz
 obtain ⟨hz,hs,hb⟩:=hzz
 have h:=run_make (P:=Try.prog) w 24 4 i _ Try.underlying24 hi hz .i64 .i64 n n (by omega) (Int.le_refl _) (by rw [hb];omega) (by omega)
 rw [hs] at h
 simpa [noughtsB,Value.cells] using h
theorem toBoolS (w:World) (a:Option Addr) (l:List Bool) (c:Nat) (h:Bools w a l) (hl:l.length<=1048576) :
 Calls Try.prog 16 #[.slice a l.length c] w fun e w'=>e=.returned (.slice (some ⟨w.heap.size,0,none⟩) l.length l.length)/\WBools w' w.heap.size (some ⟨w.heap.size,0,none⟩) l/\Below w.heap.size w w':=by
 have H:Hid (Bools w a l):=h
 clear h
 have hmk:=makeBools0 l.length hl
 go_enter Try.func16,Try.ntmps16
 go_wp2
 clear hmk
 go_loopw [4] (fun i wr=>∃ k:Nat,k<=l.length/\i=.int .i64 k/\Below w.heap.size w wr/\w.heap.size < wr.heap.size/\∀ j (hj:j < l.length),∃ v:Bool,wr.cell? ⟨w.heap.size,j,none⟩=some (.bool v)/\wr.frozen? ⟨w.heap.size,j,none⟩=false/\(j < k->v=l[j])) (fun i _=>l.length - (intOf i).toNat)
 case atStart =>
  exact ⟨0,Nat.zero_le _,rfl,(Below.refl _ _).alloc (Nat.le_refl _) _,by simp,fun j hj=>⟨false,by rw [World.cell?_alloc_new];exact noughtsB_get _ _ hj,by simp,fun x=>by omega⟩⟩
 case round =>
  obtain ⟨k,hk,rfl,hb,hz,hx⟩:=hrel
  have HB:Hid (Below w.heap.size w wr):=hb
  by_cases hlt:k < l.length
  ·have HN:=H.out.below hb
   clear hb
   rcases HN.2 with h0|⟨xb,xo,rfl,hc⟩
   ·omega
   have p0:=hc k hlt
   clear hc HN
   have HX:Hid (∀ j (hj:j < l.length),∃ v:Bool,wr.cell? ⟨w.heap.size,j,none⟩=some (.bool v)/\wr.frozen? ⟨w.heap.size,j,none⟩=false/\(j < k->v=l[j])):=hx
   obtain ⟨v,q0,q1,_⟩:=hx k hlt
   clear hx
   have hlz:(k:Int) < (l.length:Int):=by omega
   obtain ⟨nd,hnd⟩:∃ nd:Bool,nd=l[k]:=⟨_,rfl⟩
   have HD:Hid (nd=l[k]):=hnd
   rw [<- hnd] at p0
   clear hnd
   go_wp2
   go_roundw
   case rel =>
    have F1:Below w.heap.size w (wr.setCell ⟨w.heap.size,k,none⟩ (.bool nd)) :=
     HB.out.trans (((Kept.refl (fun b=>b=w.heap.size) wr).setCell (p:=⟨w.heap.size,k,none⟩) rfl _).below (fun i hi=>by omega) HB.out.size)
    have F2:w.heap.size < (wr.setCell ⟨w.heap.size,k,none⟩ (.bool nd)).heap.size:=by simpa [World.setCell] using hz
    have F4:∀ j (hj:j < l.length),∃ v:Bool,(wr.setCell ⟨w.heap.size,k,none⟩ (.bool nd)).cell? ⟨w.heap.size,j,none⟩=some (.bool v)/\(wr.setCell ⟨w.heap.size,k,none⟩ (.bool nd)).frozen? ⟨w.heap.size,j,none⟩=false/\(j < k+1->v=l[j]):=by
     intro j hj
     obtain ⟨u,r0,r1,r2⟩:=HX.out j hj
     by_cases e:j=k
     ·subst e
      exact ⟨nd,set_same r0,by rw [World.frozen?_setCell];exact r1,fun _=>HD.out⟩
     ·exact ⟨u,by rw [set_other (by simp<;>omega)];exact r0,by rw [World.frozen?_setCell];exact r1,fun x=>r2 (by omega)⟩
    exact ⟨k+1,by omega,by go_num,F1,F2,F4⟩
   case measure=>simp [intOf];omega
  ·go_wp2
   go_ret
   refine ⟨rfl,⟨H.out.1,?_⟩,HB.out⟩
   by_cases e:l.length=0
   ·exact .inl e
   ·refine .inr ⟨w.heap.size,0,rfl,Nat.le_refl _,fun i hi=>?_⟩
    obtain ⟨v,q0,q1,q2⟩:=hx i hi
    have:=q2 (by omega)
    subst this
    rw [Nat.zero_add]
    exact ⟨q0,q1⟩
/-- The first k flags, each changed by f. -/
def mapTo (f:Bool->Bool) (l:List Bool) (k:Nat):List Bool:=(l.take k).map f
theorem mapTo_next {f:Bool->Bool} {l:List Bool} {k:Nat} (h:k < l.length):mapTo f l (k+1)=mapTo f l k++[f l[k]]:=by
 unfold mapTo
 rw [List.take_succ_eq_append_getElem h,List.map_append]
 rfl
theorem mapTo_len {f:Bool->Bool} {l:List Bool} {k:Nat} (h:k<=l.length):(mapTo f l k).length=k:=by
 unfold mapTo
 rw [List.length_map,List.length_take]
 omega
/-- Every flag turned. -/
def turnL (l:List Bool):List Bool:=l.map not
theorem turnL_length (l:List Bool):(turnL l).length=l.length:=List.length_map ..
theorem mapTo_all {f:Bool->Bool} {l:List Bool} {k:Nat} (h:¬ k < l.length):mapTo f l k=l.map f:=by
 unfold mapTo
 rw [List.take_of_length_le (by omega)]
end Dqa
end Go.Proofs.Ytfhdbcfhhbdiiaa
