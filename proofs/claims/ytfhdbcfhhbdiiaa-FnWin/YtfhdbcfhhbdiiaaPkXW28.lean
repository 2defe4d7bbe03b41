import Derived.Test.YtfhdbcfhhbdiiaaPkXW27
import Derived.Test.YtfhdbcfhhbdiiaaPkXW12
namespace Go.Proofs.Ytfhdbcfhhbdiiaa
set_option maxRecDepth 100000
set_option maxHeartbeats 8000000
set_option linter.unusedVariables false
namespace Td4
open Go.RowKit
open Ta0 Ta1 Ta2 Tc2 Tc5 Ap9 Td1 Td2
open Nd0 (Kept Ints set_other set_same lt_of_cell)
open Ss0 (bs bs_size ret_str bs_ext)
open Ss1 (tl tl_length tl_get tl_take bs_tl tl_bs tl_inj eqb)
theorem sHalf0 {N b:Int} {S:ByteArray} (w:World) (hS:S.size<=1048576) (h:¬ (tokB N (tl S)=true/\N≠0/\bitB b=true)) :
 Calls Try.prog 63 #[tv N S,.int .i64 b] w fun e w'=>e=.returned (.tuple #[tv 0 ByteArray.empty,.bool false])/\Below w.heap.size w w':=by
 have HA:Hid (Below w.heap.size w ((w.alloc (.cells #[.int .i64 N,.string S] 26)).alloc (.cells #[.int .i64 0,.string ByteArray.empty] 26))):=((Below.refl _ _).alloc (Nat.le_refl _) _).alloc (by simp) _
 have HX:Hid (Lay ((w.alloc (.cells #[.int .i64 N,.string S] 26)).alloc (.cells #[.int .i64 0,.string ByteArray.empty] 26)) w.heap.size (.int .i64 N) (.string S)):=(Lay.made _ _ _ _).alloc _
 have HR:Hid (Lay ((w.alloc (.cells #[.int .i64 N,.string S] 26)).alloc (.cells #[.int .i64 0,.string ByteArray.empty] 26)) (w.heap.size+1) (.int .i64 0) (.string ByteArray.empty)):=by
  have:=Lay.made (w.alloc (.cells #[.int .i64 N,.string S] 26)) (.int .i64 0) (.string ByteArray.empty) 26
  show Lay _ _ _ _
  simpa using this
 cases h1:tokB N (tl S)
 ·have HO:Hid (∀ W,Calls Try.prog 62 #[tv N S] W fun e w'=>e=.returned (.bool false)/\Below W.heap.size W w'):=fun W=>sOk0 W hS h1
  clear h h1
  go_enter Try.func63,Try.ntmps63
  go_wp2_with fail
  refine (HO.out _).mono ?_
  rintro e w1 ⟨rfl,hb⟩
  have HA1:Hid (Below w.heap.size w w1):=HA.out.trans (hb.mono HA.out.size)
  have HR1:Hid (Lay w1 (w.heap.size+1) (.int .i64 0) (.string ByteArray.empty)):=HR.out.below hb
  clear hb
  obtain ⟨r0,r1,r2,r3⟩:=HR1.out
  have HFN:Hid _:=finT HR1.out HA1.out (by omega) (.int .i64 0) (.string ⟨#[]⟩)
  go_wp2
  obtain ⟨W,hW,hz,hbz⟩:=HFN.out
  rw [<- hW]
  obtain ⟨z0,z1,_,_⟩:=hz
  exact bodyPost_ret (v:=.tuple #[tv 0 ⟨#[]⟩,.bool false]) (by simp [results,Try.results63,go_sem,z0,z1]) rfl ⟨rfl,hbz⟩
 have HO:Hid (∀ W,Calls Try.prog 62 #[tv N S] W fun e w'=>e=.returned (.bool true)/\Below W.heap.size W w'):=fun W=>by
  have:=sTableOk N S W hS
  rwa [h1] at this
 by_cases hN:N=0
 ·have hNb:(N==0)=true:=by rw [hN];rfl
  clear h h1 hN
  go_enter Try.func63,Try.ntmps63
  go_wp2_with fail
  refine (HO.out _).mono ?_
  rintro e w1 ⟨rfl,hb⟩
  have HA1:Hid (Below w.heap.size w w1):=HA.out.trans (hb.mono HA.out.size)
  have HR1:Hid (Lay w1 (w.heap.size+1) (.int .i64 0) (.string ByteArray.empty)):=HR.out.below hb
  obtain ⟨x0,x1,_,_⟩:=HX.out.below hb
  clear hb
  obtain ⟨r0,r1,r2,r3⟩:=HR1.out
  have HFN:Hid _:=finT HR1.out HA1.out (by omega) (.int .i64 0) (.string ⟨#[]⟩)
  go_wp2
  obtain ⟨W,hW,hz,hbz⟩:=HFN.out
  rw [<- hW]
  obtain ⟨z0,z1,_,_⟩:=hz
  exact bodyPost_ret (v:=.tuple #[tv 0 ⟨#[]⟩,.bool false]) (by simp [results,Try.results63,go_sem,z0,z1]) rfl ⟨rfl,hbz⟩
 ·have hNb:(N==0)=false:=beq_eq_false_iff_ne.2 hN
  have HI:Hid (∀ W,Calls Try.prog 44 #[.int .i64 b,.int .i64 0,.int .i64 1] W fun e w'=>e=.returned (.bool false)/\w'=W):=fun W=>sInF W (fun k=>h ⟨h1,hN,decide_eq_true (by omega)⟩)
  clear h h1 hN
  go_enter Try.func63,Try.ntmps63
  go_wp2_with fail
  refine (HO.out _).mono ?_
  rintro e w1 ⟨rfl,hb⟩
  have HA1:Hid (Below w.heap.size w w1):=HA.out.trans (hb.mono HA.out.size)
  have HR1:Hid (Lay w1 (w.heap.size+1) (.int .i64 0) (.string ByteArray.empty)):=HR.out.below hb
  obtain ⟨x0,x1,_,_⟩:=HX.out.below hb
  clear hb
  obtain ⟨r0,r1,r2,r3⟩:=HR1.out
  have HFN:Hid _:=finT HR1.out HA1.out (by omega) (.int .i64 0) (.string ⟨#[]⟩)
  go_wp2_with (go_at_call 44;refine (HI.out _).mono ?_;rintro e w' ⟨rfl,rfl⟩)
  obtain ⟨W,hW,hz,hbz⟩:=HFN.out
  rw [<- hW]
  obtain ⟨z0,z1,_,_⟩:=hz
  exact bodyPost_ret (v:=.tuple #[tv 0 ⟨#[]⟩,.bool false]) (by simp [results,Try.results63,go_sem,z0,z1]) rfl ⟨rfl,hbz⟩
theorem sHalf (n b:Nat) (F:Nat->Bool) (w:World) (hn:n<=11) (hb:b<=1) :
 Calls Try.prog 63 #[tv ((n+1:Nat):Int) (bs (tab (n+1) F)),.int .i64 (b:Int)] w fun e w'=>e=.returned (.tuple #[tv (n:Int) (bs (tab n fun p=>F (b*2 ^ n+p))),.bool true])/\Below w.heap.size w w':=by
 have HO:Hid (∀ W,Calls Try.prog 62 #[tv ((n+1:Nat):Int) (bs (tab (n+1) F))] W fun e w'=>e=.returned (.bool true)/\Below W.heap.size W w'):=fun W=>sOk1 (n+1) F W (by omega)
 have HI:Hid (∀ W,Calls Try.prog 44 #[.int .i64 (b:Int),.int .i64 0,.int .i64 1] W fun e w'=>e=.returned (.bool true)/\w'=W):=fun W=>sInT W ⟨by omega,by omega⟩
 obtain ⟨hp,hl⟩:=p12 (n:=n) (by omega)
 have hp1:2 ^ (n+1)=2*2 ^ n:=by rw [Nat.pow_succ];omega
 have hSz:(bs (tab (n+1) F)).size=2*2 ^ n:=by rw [bs_size,tab_length,hp1]
 have HT:Hid ((bs (tab (n+1) F)).extract (b*2 ^ n) (b*2 ^ n+2 ^ n)=bs (tab n fun p=>F (b*2 ^ n+p))):=half_text n b F hb
 have e1:((n+1:Nat):Int) - 1=(n:Int):=by omega
 have hNb:(((n+1:Nat):Int)==0)=false:=beq_eq_false_iff_ne.2 (by omega)
 clear hp1
 generalize bs (tab n fun p=>F (b*2 ^ n+p))=RS at *
 generalize bs (tab (n+1) F)=S at *
 generalize 2 ^ n=P at *
 have hSP:(S.size:Int) / 2=(P:Int):=by omega
 have HSz:Hid (S.size=2*P):=hSz
 have hSl:S.size<=8192:=by omega
 clear hSz
 generalize n+1=N at *
 have HA:Hid (Below w.heap.size w ((w.alloc (.cells #[.int .i64 (N:Int),.string S] 26)).alloc (.cells #[.int .i64 0,.string ByteArray.empty] 26))):=((Below.refl _ _).alloc (Nat.le_refl _) _).alloc (by simp) _
 have HX:Hid (Lay ((w.alloc (.cells #[.int .i64 (N:Int),.string S] 26)).alloc (.cells #[.int .i64 0,.string ByteArray.empty] 26)) w.heap.size (.int .i64 (N:Int)) (.string S)):=(Lay.made _ _ _ _).alloc _
 have HR:Hid (Lay ((w.alloc (.cells #[.int .i64 (N:Int),.string S] 26)).alloc (.cells #[.int .i64 0,.string ByteArray.empty] 26)) (w.heap.size+1) (.int .i64 0) (.string ByteArray.empty)):=by
  have:=Lay.made (w.alloc (.cells #[.int .i64 (N:Int),.string S] 26)) (.int .i64 0) (.string ByteArray.empty) 26
  show Lay _ _ _ _
  simpa using this
 rcases (by omega:b=0\/b=1) with rfl|rfl
 all_goals
  go_enter Try.func63,Try.ntmps63
  go_wp2_with fail
  refine (HO.out _).mono ?_
  rintro e w1 ⟨rfl,hb⟩
  have HA1:Hid (Below w.heap.size w w1):=HA.out.trans (hb.mono HA.out.size)
  have HR1:Hid (Lay w1 (w.heap.size+1) (.int .i64 0) (.string ByteArray.empty)):=HR.out.below hb
  obtain ⟨x0,x1,_,_⟩:=HX.out.below hb
  clear hb
  obtain ⟨r0,r1,r2,r3⟩:=HR1.out
  have hext:=HT.out
  go_wp2_with (go_at_call 44;refine (HI.out _).mono ?_;rintro e w' ⟨rfl,rfl⟩)
 ·simp only [Nat.zero_mul,Nat.zero_add] at hext
  have hPS:(P:Int)<=(S.size:Int):=by have:=HSz.out;omega
  go_region
  go_wp2
  obtain ⟨W,hW,hz,hbz⟩:=finT HR1.out HA1.out (by omega) (.int .i64 (n:Int)) (.string RS)
  rw [<- hW]
  obtain ⟨z0,z1,_,_⟩:=hz
  exact bodyPost_ret (v:=.tuple #[tv (n:Int) RS,.bool true]) (by simp [results,Try.results63,go_sem,z0,z1]) rfl ⟨rfl,below_drewN hbz 1⟩
 ·simp only [Nat.one_mul] at hext
  have hPS:(P:Int)+(P:Int)<=(S.size:Int):=by have:=HSz.out;omega
  go_region
  go_wp2
  obtain ⟨W,hW,hz,hbz⟩:=finT HR1.out HA1.out (by omega) (.int .i64 (n:Int)) (.string RS)
  rw [<- hW]
  obtain ⟨z0,z1,_,_⟩:=hz
  exact bodyPost_ret (v:=.tuple #[tv (n:Int) RS,.bool true]) (by simp [results,Try.results63,go_sem,z0,z1]) rfl ⟨rfl,below_drewN hbz 1⟩
end Td4
namespace Td5
open Go.RowKit
open Ta0 Ta1 Ta2 Tc2 Tc5 Td1 Td2 Ap0
open Nd0 (Kept Ints WInts set_other set_same lt_of_cell)
open Ss0 (bs bs_size ret_str bs_ext)
open Ss1 (tl tl_length tl_get tl_take bs_tl tl_bs tl_inj eqb)
theorem bne48 {a b:Bool} (h:a≠b):((48+(a.toNat:Int)) != (48+(b.toNat:Int)))=true:=by
 cases a<;>cases b<;>first|rfl|exact absurd rfl h
/-- What stands while numbers are collected. -/
structure ON (w:World) (N:Int) (S:ByteArray) (v:Value) (l:List Int) (W:World):Prop where
 lay:Lay W w.heap.size (.int .i64 N) (.string S)
 own:Ows W (w.heap.size+1) v l
 siz:w.heap.size+1<=W.heap.size
 bel:Below w.heap.size w W
theorem ON.next {w W W':World} {N:Int} {S:ByteArray} {v v':Value} {l l':List Int} (h:ON w N S v l W) (hk:Kept (fun k=>v.ownBlock=some k) W W') (ho:Ows W' (w.heap.size+1) v' l'):ON w N S v' l' W' :=
 ⟨h.lay.kept hk (fun e=>by have:=(h.own.lt _ e).1;omega),ho,by have:=hk.size;have:=h.siz;omega,h.bel.trans (hk.below (fun b hb=>by have:=(h.own.lt _ hb).1;omega) h.bel.size)⟩
theorem ON.below {w W W':World} {N:Int} {S:ByteArray} {v:Value} {l:List Int} (h:ON w N S v l W) (k:Below W.heap.size W W'):ON w N S v l W' :=
 ⟨h.lay.below k,h.own.kept (S:=fun _=>False) (Kept.ofBelow k) (fun _ _ h=>h),by have:=k.size;have:=h.siz;omega,h.bel.trans (k.mono h.bel.size)⟩
theorem ON.drewN {w W:World} {N:Int} {S:ByteArray} {v:Value} {l:List Int} (h:ON w N S v l W) (n:Nat):ON w N S v l (W.drewN n):=h.below (below_drewN (Below.refl _ _) n)
theorem ON.start (w:World) (N:Int) (S:ByteArray):ON w N S (.slice (some ⟨w.heap.size+1,0,none⟩) 0 0) [] ((w.alloc (.cells #[.int .i64 N,.string S] 26)).alloc (.cells #[] 3)):=by
 refine ⟨(Lay.made _ _ _ _).alloc _,?_,by simp,((Below.refl _ _).alloc (Nat.le_refl _) _).alloc (by simp) _⟩
 have:=Ows.lit (w.alloc (.cells #[.int .i64 N,.string S] 26)) (w.heap.size+1) (by simp)
 simpa using this
theorem ON.wints {w W:World} {N:Int} {S:ByteArray} {v:Value} {l:List Int} (h:ON w N S v l W):∃ a c,v=.slice a l.length c/\WInts W w.heap.size a l:=by
 obtain ⟨a,c,hv,hw⟩:=h.own.form
 refine ⟨a,c,hv,hw.1,?_⟩
 rcases hw.2 with h0|⟨b,o,ha,hb,hc⟩
 ·exact .inl h0
 ·exact .inr ⟨b,o,ha,by omega,hc⟩
end Td5
end Go.Proofs.Ytfhdbcfhhbdiiaa
