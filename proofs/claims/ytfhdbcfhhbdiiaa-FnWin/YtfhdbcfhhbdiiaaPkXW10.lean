import Derived.Laws.MakeOwn
import Derived.Deep.RegionHeld3
import Derived.Test.YtfhdbcfhhbdiiaaTc2
namespace Go.Proofs.Ytfhdbcfhhbdiiaa
set_option maxRecDepth 100000
set_option maxHeartbeats 8000000
set_option linter.unusedVariables false
namespace Tc3
open Go.RowKit
open Ta0 Ta1 Tc2
open Ss0 (bs bs_size ret_str)
open Ss1 (tl tl_length tl_get tl_take bs_tl tl_bs tl_inj eqb)
theorem szTable (N:Int) (S:ByteArray) (left:Int) (w:World) (h0:0<=left) (h1:left<=1048576) (hS:S.size<=maxLen) :
 Calls Try.prog 14 #[tv N S,.int .i64 left] w fun e w'=>e=.returned (.int .i64 (if (S.size:Int)<=left then left - S.size else -1))/\Below w.heap.size w w':=by
 unfold maxLen at hS
 have HB:Hid (Below w.heap.size w (w.alloc (.cells #[.int .i64 N,.string S] 40))):=(Below.refl _ _).alloc (Nat.le_refl _) _
 by_cases h:(S.size:Int)<=left
 ·have hn:¬ left - (S.size:Int) < 0:=by omega
  rw [if_pos h]
  go_enter Try.func14,Try.ntmps14
  go_wp2
  go_ret
  exact ⟨rfl,HB.out⟩
 ·have hn:left - (S.size:Int) < 0:=by omega
  rw [if_neg h]
  go_enter Try.func14,Try.ntmps14
  go_wp2
  go_ret
  exact ⟨rfl,HB.out⟩
theorem toTable (N:Int) (S:ByteArray) (w:World) :
 Calls Try.prog 17 #[tv N S] w fun e w'=>e=.returned (tv N S)/\Below w.heap.size w w':=by
 go_enter Try.func17,Try.ntmps17
 go_wp2
 exact bodyPost_ret (v:=tv N S) (by simp [results,Try.results17,go_sem]) rfl ⟨rfl,by
  repeat (first|exact Below.refl _ _|refine Below.setCell ?_ (by simp<;>omega) _|refine Below.alloc ?_ (by simp<;>omega) _)⟩
/-- A table lies in the block g. -/
structure Tbx (W:World) (g:Nat) (N:Int) (S:ByteArray):Prop where
 c0:W.cell? ⟨g,0,none⟩=some (.int .i64 N)
 c1:W.cell? ⟨g,1,none⟩=some (.string S)
theorem Tbx.below {W W':World} {g:Nat} {N:Int} {S:ByteArray} (h:Tbx W g N S) (k:Below W.heap.size W W'):Tbx W' g N S:=by
 have hg:g < W.heap.size:=World.block_lt_of_cell? _ _ h.c0
 exact ⟨by rw [k.cell (p:=⟨g,0,none⟩) hg];exact h.c0,by rw [k.cell (p:=⟨g,1,none⟩) hg];exact h.c1⟩
theorem Tbx.made (w:World) (N:Int) (S:ByteArray) (T:Nat):Tbx (w.alloc (.cells #[.int .i64 N,.string S] T)) w.heap.size N S :=
 ⟨by simp,by simp⟩
theorem Tbx.alloc {W:World} {g:Nat} {N:Int} {S:ByteArray} (h:Tbx W g N S) (o:Obj):Tbx (W.alloc o) g N S :=
 h.below ((Below.refl _ _).alloc (Nat.le_refl _) _)
end Tc3
namespace Tc4
open Go.RowKit
open Ta0 Ta1 Tc2
open Nd0 (Kept set_other set_same lt_of_cell)
/-- How many words n bits want. -/
def nw (n:Nat):Nat:=(2 ^ n+63) / 64
theorem nw_le {n:Nat} (h:n<=12):1<=nw n/\nw n<=64:=by
 have:=p12 h
 unfold nw;omega
theorem nw_at {n p:Nat} (h:p < 2 ^ n):p / 64 < nw n:=by unfold nw;omega
/-- A packed table's value. -/
abbrev pv (n m g:Nat):Value:=.agg #[.int .i64 (n:Int),.slice (some ⟨g,0,none⟩) m m]
/-- The words of F's bits lie in block g. -/
def Wds (W:World) (g m:Nat) (F:Nat->Bool):Prop:=∀ i,i < m->W.cell? ⟨g,i,none⟩=some (.int .u64 (wd F i:Int))/\W.frozen? ⟨g,i,none⟩=false
theorem Wds.lt {W:World} {g m:Nat} {F:Nat->Bool} (h:Wds W g m F) (hm:1<=m):g < W.heap.size:=World.block_lt_of_cell? _ _ (h 0 (by omega)).1
theorem Wds.kept {W W':World} {g m:Nat} {F:Nat->Bool} (h:Wds W g m F) {S:Nat->Prop} (k:Kept S W W') (hs:¬ S g):Wds W' g m F:=fun i hi=>by
 obtain ⟨h1,h2⟩:=h i hi
 have hg:g < W.heap.size:=World.block_lt_of_cell? _ _ h1
 exact ⟨by rw [k.cell (p:=⟨g,i,none⟩) hg hs];exact h1,by rw [k.frozen (p:=⟨g,i,none⟩) hg hs];exact h2⟩
theorem Wds.below {W W':World} {g m:Nat} {F:Nat->Bool} (h:Wds W g m F) (k:Below W.heap.size W W'):Wds W' g m F :=
 h.kept (S:=fun _=>False) (Kept.ofBelow k) (fun h=>h)
theorem Wds.congr {W:World} {g m:Nat} {F G:Nat->Bool} (h:Wds W g m F) (e:∀ i,i < m->wd F i=wd G i):Wds W g m G:=fun i hi=>by
 rw [<- e i hi];exact h i hi
theorem Wds.set {W:World} {g m j:Nat} {F G:Nat->Bool} (h:Wds W g m F) (hj:j < m) (e:∀ i,i≠j->wd F i=wd G i):Wds (W.setCell ⟨g,j,none⟩ (.int .u64 (wd G j:Int))) g m G:=fun i hi=>by
 obtain ⟨h1,h2⟩:=h i hi
 by_cases hij:i=j
 ·subst hij
  exact ⟨set_same h1,by rw [World.frozen?_setCell];exact h2⟩
 ·rw [<- e i hij]
  exact ⟨by rw [set_other (by simp<;>omega)];exact h1,by rw [World.frozen?_setCell];exact h2⟩
theorem infoU:(Try.prog.info? 107).map (fun i=>(i.zero,i.size,i.bytes))=some (some (.int .u64 0),1,8):=by kernel_rfl
def noughtsU (n:Nat):Array Value:=madeCells #[.int .u64 0] (n*1)
theorem noughtsU_get (n j:Nat) (h:j < n):(noughtsU n)[j]? = some (.int .u64 0):=by
 simp only [noughtsU,madeCells,Array.getElem?_map,Array.getElem?_range]
 rw [if_pos (by omega)]
 simp only [Option.map_some]
 have e:j % 1=0:=Nat.mod_one j
 exact congrArg (fun m=>some ((#[.int .u64 0]:Array Value)[m]!)) e
theorem makeWords (n:Nat) (hn:n<=1048576) (w:World) :
 (Instr.makeSlice 85 (.int .i64 (n:Int)) (.int .i64 (n:Int))).run Try.prog w=.ok (.slice (some ⟨w.heap.size,0,none⟩) n n) (w.alloc (.cells (noughtsU n) 107)):=by
 obtain ⟨i,hi,hzz⟩:=Option.map_eq_some_iff.1 infoU
 simp only [Prod.mk.injEq] at hzz
 obtain ⟨hz,hs,hb⟩:=hzz
 have h:=run_make (P:=Try.prog) w 85 107 i _ Try.underlying85 hi hz .i64 .i64 n n (by omega) (Int.le_refl _) (by rw [hb];omega) (by omega)
 rw [hs] at h
 simpa [noughtsU,Value.cells] using h
theorem pow_div (x j:Nat):(x:Int) / (2:Int) ^ j=((x / 2 ^ j:Nat):Int):=by push_cast;rfl
theorem newPacked (n:Nat) (w:World) (hn:n<=12) :
 Calls Try.prog 83 #[.int .i64 (n:Int)] w fun e w'=>∃ g,e=.returned (pv n (nw n) g)/\w.heap.size<=g/\Wds w' g (nw n) (fun _=>false)/\Below w.heap.size w w':=by
 have hw:=wsh hn
 obtain ⟨hp,hl⟩:=p12 hn
 have hnw:=nw_le hn
 have hq:(((2 ^ n:Nat):Int)+64 - 1) / 64=(nw n:Int):=by unfold nw;omega
 have hq2:(((2 ^ n:Nat):Int)+63) / 64=(nw n:Int):=by unfold nw;omega
 have HZ:Hid (∀ W:World,Wds (W.alloc (.cells (noughtsU (nw n)) 107)) W.heap.size (nw n) (fun _=>false)):=fun W i hi=>⟨by
  rw [World.cell?_alloc_new,wd_zero (by intro j _;rfl)];exact noughtsU_get _ _ hi,by simp⟩
 have hmk:=makeWords (nw n) (by omega)
 generalize nw n=m at *
 generalize 2 ^ n=P at *
 go_enter Try.func83,Try.ntmps83
 go_wp2
 refine bodyPost_ret (v:=pv n m (w.heap.size+1)) (by simp [results,Try.results83,go_sem]) rfl ⟨w.heap.size+1,rfl,by omega,?_,?_⟩
 ·have:=HZ.out (w.alloc (.cells #[.int .i64 (n:Int),.slice (some ⟨w.heap.size+1,0,none⟩) m m] 87))
  simpa using this
 ·exact ((Below.refl _ _).alloc (Nat.le_refl _) _).alloc (by simp) _
theorem size (n g:Nat) (w:World) (hn:n<=12) :
 Calls Try.prog 81 #[pv n (nw n) g] w fun e w'=>e=.returned (.int .i64 ((2 ^ n:Nat):Int))/\Below w.heap.size w w':=by
 have hw:=wsh hn
 have HB:Hid (Below w.heap.size w (w.alloc (.cells #[.int .i64 (n:Int),.slice (some ⟨g,0,none⟩) (nw n) (nw n)] 87))):=(Below.refl _ _).alloc (Nat.le_refl _) _
 generalize nw n=m at *
 generalize 2 ^ n=P at *
 go_enter Try.func81,Try.ntmps81
 go_wp2
 go_ret
 exact ⟨rfl,HB.out⟩
theorem at_ (n g p:Nat) (F:Nat->Bool) (w:World) (hn:n<=12) (hp:p < 2 ^ n) (hW:Wds w g (nw n) F) :
 Calls Try.prog 70 #[pv n (nw n) g,.int .i64 (p:Int)] w fun e w'=>e=.returned (.int .i64 ((F p).toNat:Int))/\Below w.heap.size w w':=by
 have hpn:=p12 hn
 have hnw:=nw_le hn
 have hpa:=nw_at hp
 have hlt:=wd_lt F (p / 64)
 have c0:=(hW _ hpa).1
 have hg:=hW.lt (by omega)
 have HA:Hid (wd F (p / 64) / 2 ^ (p % 64) % 2=(F p).toNat):=wd_at F p
 have HB:Hid (Below w.heap.size w (w.alloc (.cells #[.int .i64 (n:Int),.slice (some ⟨g,0,none⟩) (nw n) (nw n)] 87))):=(Below.refl _ _).alloc (Nat.le_refl _) _
 clear hW
 generalize nw n=m at *
 generalize 2 ^ n=P at *
 generalize wd F (p / 64)=x at *
 go_enter Try.func70,Try.ntmps70
 go_wp2
 go_ret
 refine ⟨ret_int ?_,HB.out⟩
 rw [pow_div,show (1:Int)=((1:Nat):Int) from rfl,bits_and_u64_nat _ _ (Nat.lt_of_le_of_lt (Nat.div_le_self _ _) hlt) (by omega),Nat.and_one_is_mod,HA.out]
 have:=(F p).toNat_le
 unfold wrap64;omega
theorem put (n g k:Nat) (F:Nat->Bool) (w:World) (hn:n<=12) (hk:k < 2 ^ n) (hF:F k=true) (hW:Wds w g (nw n) (upto k F)) :
 Calls Try.prog 84 #[pv n (nw n) g,.int .i64 (k:Int)] w fun e w'=>e=.returned (.tuple #[])/\Wds w' g (nw n) (upto (k+1) F)/\Kept (fun b=>b=g) w w':=by
 have hpn:=p12 hn
 have hnw:=nw_le hn
 have hpa:=nw_at hk
 have hlt:=wd_lt (upto k F) (k / 64)
 have c0:=(hW _ hpa).1
 have f0:=(hW _ hpa).2
 have hg:=hW.lt (by omega)
 have HW:Hid (Wds w g (nw n) (upto k F)):=hW
 clear hW
 generalize nw n=m at *
 generalize 2 ^ n=P at *
 generalize hX:wd (upto k F) (k / 64)=x at *
 go_enter Try.func84,Try.ntmps84
 go_wp2
 go_region
 clear hpn
 have e1:IntKind.u64.wrap ((2:Int) ^ (k % 64))=((2 ^ (k % 64):Nat):Int):=by
  rw [show (2:Int) ^ (k % 64)=((2 ^ (k % 64):Nat):Int) by push_cast;rfl,wrapu (Nat.lt_of_lt_of_le (Nat.pow_lt_pow_right (by omega) (by omega:k % 64 < 64)) (by decide))]
 have e2:bits .or .u64 (x:Int) (IntKind.u64.wrap ((2:Int) ^ (k % 64)))=((wd (upto (k+1) F) (k / 64):Nat):Int):=by
  rw [e1,bits_or_u64_nat _ _ hlt (Nat.lt_of_lt_of_le (Nat.pow_lt_pow_right (by omega) (by omega:k % 64 < 64)) (by decide)),wd_next_yes F k hF,hX]
 rw [e2]
 exact bodyPost_end (v:=.tuple #[]) (by simp [results,Try.results84,go_sem]) rfl ⟨rfl,(HW.out.set hpa (fun i hi=>(wd_next_other F k i hi).symm)).kept (S:=fun _=>False) (((Kept.refl _ _).alloc _).drew) (fun h=>h),(((Kept.refl (fun b=>b=g) w).setCell (p:=⟨g,k / 64,none⟩) rfl _).alloc _).drew⟩
end Tc4
end Go.Proofs.Ytfhdbcfhhbdiiaa
