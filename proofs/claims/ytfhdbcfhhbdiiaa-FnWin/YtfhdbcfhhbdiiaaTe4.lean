import Derived.Test.YtfhdbcfhhbdiiaaPkXW28
namespace Go.Proofs.Ytfhdbcfhhbdiiaa
set_option maxRecDepth 100000
set_option maxHeartbeats 8000000
set_option linter.unusedVariables false
namespace Te4
open Go.RowKit
open Ta0 Ta1 Ta2 Tc2 Tc4 Tc5 Tc6 Tc7 Tc8 Td1 Td2 Td5 Te1 Ap0
open Nd0 (Kept Ints WInts set_other set_same lt_of_cell)
open Ss0 (bs bs_size ret_str bs_ext)
open Ss1 (tl tl_length tl_get tl_take bs_tl tl_bs tl_inj eqb)
theorem nd_upto (n:Nat) (F:Nat->Bool) (b:Nat) (hb:b < n):((List.range (2 ^ n)).any fun p=>upto (2 ^ n) F p != upto (2 ^ n) F (p ^^^ 2 ^ (n - 1 - b)))=ndB n F b:=by
 unfold ndB
 rw [Bool.eq_iff_iff,List.any_eq_true,List.any_eq_true]
 have e:∀ p,p < 2 ^ n->(upto (2 ^ n) F p != upto (2 ^ n) F (p ^^^ 2 ^ (n - 1 - b)))=(F p != F (p ^^^ 2 ^ (n - 1 - b))):=fun p hp=>by
  have h2:p ^^^ 2 ^ (n - 1 - b) < 2 ^ n:=Nat.xor_lt_two_pow hp (Nat.pow_lt_pow_right (by omega) (by omega))
  simp [upto,hp,h2]
 constructor
 ·rintro ⟨p,hp,h⟩
  exact ⟨p,hp,by rw [e p (List.mem_range.1 hp)] at h;exact h⟩
 ·rintro ⟨p,hp,h⟩
  exact ⟨p,hp,by rw [e p (List.mem_range.1 hp)];exact h⟩
/-- What stands while the program collects the bits that a table needs. -/
structure OP (w:World) (n m g q:Nat) (S:ByteArray) (F:Nat->Bool) (v:Value) (l:List Int) (W:World):Prop where
 on:ON w (n:Int) S v l W
 pk:Lay W q (.int .i64 (n:Int)) (.slice (some ⟨g,0,none⟩) m m)
 wds:Wds W g m F
 sep:∀ i,v.ownBlock=some i->i≠g/\i≠q
theorem OP.below {w W W':World} {n m g q:Nat} {S:ByteArray} {F:Nat->Bool} {v:Value} {l:List Int} (h:OP w n m g q S F v l W) (k:Below W.heap.size W W'):OP w n m g q S F v l W' :=
 ⟨h.on.below k,h.pk.below k,h.wds.below k,h.sep⟩
theorem OP.next {w W W':World} {n m g q g5 len cp:Nat} {S:ByteArray} {F:Nat->Bool} {v:Value} {l l':List Int} (h:OP w n m g q S F v l W) (hm:1<=m) (hk:Kept (fun k=>v.ownBlock=some k) W W') (hg:v.ownBlock=some g5\/W.heap.size<=g5) (ho:Ows W' (w.heap.size+1) (.slice (some ⟨g5,0,none⟩) len cp) l'):OP w n m g q S F (.slice (some ⟨g5,0,none⟩) len cp) l' W' :=
 ⟨h.on.next hk ho,h.pk.kept hk (fun e=>(h.sep _ e).2 rfl),h.wds.kept hk (fun e=>(h.sep _ e).1 rfl),fun i hi=>by
  have hi':g5=i:=by simpa [Value.ownBlock] using hi
  subst hi'
  rcases hg with e|e
  ·exact h.sep _ e
  ·have h1:=h.wds.lt hm
   have h2:=h.pk.lt
   omega⟩
end Te4
end Go.Proofs.Ytfhdbcfhhbdiiaa
