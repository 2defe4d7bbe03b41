import Derived.Deep.Grids
import Derived.Test.YtfhdbcfhhbdiiaaPkXW12
namespace Go.Proofs.Ytfhdbcfhhbdiiaa
set_option maxRecDepth 100000
set_option maxHeartbeats 8000000
set_option linter.unusedVariables false
namespace Op4
open Go.RowKit Go.ChangeShapes Go.WideShapes Go.Deep
open Nd0 Nd6
theorem cellsBool:Try.prog.cellsOf 4=1:=by kernel_rfl
theorem bools_open {H:Type} {enc:TypeId × Value->H} {w:World} {base:Nat} {spare:Nat->Bool} {held:Bool} {fuel:Nat} {a:Option Addr} {len cap:Nat} {x:DataW H × List MemPlace} (h:DataW.trod enc Try.prog w base spare held fuel 24 [.slice a len cap]=some x) :
 len<=maxLen/\∃ l:List Bool,l.length=len/\Bools w a l:=by
 rcases open_slice1 Try.underlying24 cellsBool h with ⟨hcs,_⟩|⟨b,len',cap',m,n,V,D,Pl,hcs,_,hl,hm,hmm,_,hx⟩
 ·simp at hcs
  obtain ⟨rfl,rfl,rfl⟩:=hcs
  exact ⟨Nat.zero_le _,[],rfl,Nat.zero_le _,.inl rfl⟩
 ·simp at hcs
  obtain ⟨rfl,rfl,rfl⟩:=hcs
  have hlm:len<=m:=by rw [hmm];split<;>omega
  obtain ⟨B,hB⟩:=choose_lt (n:=len) (α:=Bool) (p:=fun i b=>V i=.bool b) (fun i hi=>by
   obtain ⟨y,h1,h2⟩:=DataW.trod_bool Try.underlying4 (hx i (by omega)).2
   exact ⟨y,by simpa using h1⟩)
  refine ⟨by omega,(List.range len).map B,by simp,by simp;omega,?_⟩
  by_cases h0:len=0
  ·exact .inl (by simp [h0])
  ·obtain ⟨xb,xo,spot⟩:=b
   have hs:spot=none:=by
    have:=(hx 0 (by omega)).1
    simp [Addr.add] at this
    simpa using World.cell?_spot this
   subst hs
   refine .inr ⟨xb,xo,rfl,fun i hi=>?_⟩
   have hi':i < len:=by simpa using hi
   have hg:=(hx i (by omega)).1
   simp only [Addr.add_lit] at hg
   rw [hg,hB i hi']
   simp
end Op4
end Go.Proofs.Ytfhdbcfhhbdiiaa
