import Derived.LaidHandle
import Derived.Test.YtladjpombohpaaaGreatDoorChecked
import GoSem.ClaimGoes
import Derived.KernelRfl
import Derived.Lay
import Derived.Stop.Joined
import Derived.Test.YtladjpombohpaaaGreatDoorPkJE23
namespace Go.Proofs.YtladjpombohpaaaGreatDoor
set_option maxRecDepth 100000
set_option maxHeartbeats 8000000
set_option linter.unusedVariables false
namespace Jt0
open Go.RowKit
theorem plain {P:Program} {laid:List (String × DataW Unit)} {w:World} (h:laidMetH P laid w):laidMet P (laid.filter fun x=>x.2.handleName?.isNone) w:=by
 unfold laidMetH at h
 split at h
 ·rename_i e
  have:(laid.filter fun x=>x.2.handleName?.isNone)=laid:=by
   rw [List.filter_eq_self]
   intro x hx
   cases hn:x.2.handleName? with
   | none=>rfl
   | some s =>
     have:x∈laid.filter fun x=>x.2.handleName?.isSome:=List.mem_filter.2 ⟨hx,by rw [hn];rfl⟩
     rw [e] at this
     cases this
  rw [this]
  exact h
 ·exact h.1
theorem tabk_of_laidH {W:World} {laid:List (String × DataW Unit)} (hH:laidMetH Tryz.prog laid W) (h1:("internal/strconv.uint64pow10",Rows.laid_internal_strconv_uint64pow10)∈laid):Tk0.TabK W :=
 Tk0.tabk_of_laid (plain hH) (List.mem_filter.2 ⟨h1,by kernel_rfl⟩)
end Jt0
namespace Jg0
open Go
theorem part0:((List.range 40).all fun i => !(Tryz.prog.funcs[0+i]?).any Func.goes)=true:=by kernel_rfl
theorem part1:((List.range 40).all fun i => !(Tryz.prog.funcs[40+i]?).any Func.goes)=true:=by kernel_rfl
theorem part2:((List.range 40).all fun i => !(Tryz.prog.funcs[80+i]?).any Func.goes)=true:=by kernel_rfl
theorem part3:((List.range 40).all fun i => !(Tryz.prog.funcs[120+i]?).any Func.goes)=true:=by kernel_rfl
theorem part4:((List.range 40).all fun i => !(Tryz.prog.funcs[160+i]?).any Func.goes)=true:=by kernel_rfl
theorem part5:((List.range 40).all fun i => !(Tryz.prog.funcs[200+i]?).any Func.goes)=true:=by kernel_rfl
theorem part6:((List.range 40).all fun i => !(Tryz.prog.funcs[240+i]?).any Func.goes)=true:=by kernel_rfl
theorem part7:((List.range 40).all fun i => !(Tryz.prog.funcs[280+i]?).any Func.goes)=true:=by kernel_rfl
theorem part8:((List.range 40).all fun i => !(Tryz.prog.funcs[320+i]?).any Func.goes)=true:=by kernel_rfl
theorem part9:((List.range 40).all fun i => !(Tryz.prog.funcs[360+i]?).any Func.goes)=true:=by kernel_rfl
theorem part10:((List.range 40).all fun i => !(Tryz.prog.funcs[400+i]?).any Func.goes)=true:=by kernel_rfl
theorem part11:((List.range 40).all fun i => !(Tryz.prog.funcs[440+i]?).any Func.goes)=true:=by kernel_rfl
theorem part12:((List.range 40).all fun i => !(Tryz.prog.funcs[480+i]?).any Func.goes)=true:=by kernel_rfl
theorem part13:((List.range 40).all fun i => !(Tryz.prog.funcs[520+i]?).any Func.goes)=true:=by kernel_rfl
theorem size:(Tryz.prog.funcs.size).ble 560=true:=by kernel_rfl
theorem noGo (g:Nat):(Tryz.prog.funcs[g]?).any Func.goes=false:=by
 by_cases h:560<=g
 ·have:=Nat.le_of_ble_eq_true size
  rw [Array.getElem?_eq_none (by omega)]
  rfl
 obtain ⟨k,i,hk,hi,rfl⟩:∃ k i,k < 14/\i < 40/\g=k*40+i:=⟨g / 40,g % 40,by omega,Nat.mod_lt _ (by omega),by omega⟩
 have hm:=List.mem_range.2 hi
 match k,hk with
 | 0,_=>exact by simpa using List.all_eq_true.1 part0 i hm
 | 1,_=>exact by simpa using List.all_eq_true.1 part1 i hm
 | 2,_=>exact by simpa using List.all_eq_true.1 part2 i hm
 | 3,_=>exact by simpa using List.all_eq_true.1 part3 i hm
 | 4,_=>exact by simpa using List.all_eq_true.1 part4 i hm
 | 5,_=>exact by simpa using List.all_eq_true.1 part5 i hm
 | 6,_=>exact by simpa using List.all_eq_true.1 part6 i hm
 | 7,_=>exact by simpa using List.all_eq_true.1 part7 i hm
 | 8,_=>exact by simpa using List.all_eq_true.1 part8 i hm
 | 9,_=>exact by simpa using List.all_eq_true.1 part9 i hm
 | 10,_=>exact by simpa using List.all_eq_true.1 part10 i hm
 | 11,_=>exact by simpa using List.all_eq_true.1 part11 i hm
 | 12,_=>exact by simpa using List.all_eq_true.1 part12 i hm
 | 13,_=>exact by simpa using List.all_eq_true.1 part13 i hm
theorem goesF (f:FuncId):Tryz.prog.goes f=false:=by
 unfold Program.goes
 have h1:((Tryz.prog.closure f).any fun g=>(Tryz.prog.funcs[g]?).any Func.goes)=false:=by
  rw [List.any_eq_false]
  intro g _
  rw [noGo g]
  exact Bool.false_ne_true
 have h2:Tryz.prog.funcs.any Func.goes=false:=by
  rw [Array.any_eq_false]
  intro i hi
  have:=noGo i
  rw [Array.getElem?_eq_getElem hi] at this
  simpa using this
 rw [h1,h2]
 simp
theorem goesBy (c:OpenClaim) (h:c.start=.entering):false=c.goesBy Tryz.prog:=by
 unfold OpenClaim.goesBy Program.goesAt Program.goesFrom
 rw [h]
 cases Tryz.prog.funcNamed c.func with
 | none=>rfl
 | some f=>simp [goesF]
end Jg0
namespace Zt2
/-- The settled world, errors.errorType laid. -/
noncomputable def w0h (os:Os):World :=
 let w0:=World.holding Tryz.prog os ⟨#[],#[],[]⟩
 { w0 with heap:=w0.heap.modify 0 fun
  | .cells _ t frozen=>.cells #[.iface 209 (.agg #[.pointer (some ⟨10,70,none⟩)])] t frozen
  | o=>o }
/-- All that a row lists, laid. -/
noncomputable def laidW (os:Os) (laid:List (String × DataW Unit)):World:=(w0h os).layVars Tryz.prog (laid.filter fun x=>x.2.handleName?.isNone)
theorem laidW_os (os:Os) (laid:List (String × DataW Unit)):(laidW os laid).os=os:=(World.layVars_os _ _ _).trans rfl
theorem laidW_met {os:Os} {laid:List (String × DataW Unit)} (args:Array Value)
 (hf:(w0h os).layFits Tryz.prog (laid.filter fun x=>x.2.handleName?.isNone) []=true)
 (hi:(w0h os).layIfaces Tryz.prog (laid.filter fun x=>x.2.handleName?.isNone) (laidW os laid)=true) :
 laidMet Tryz.prog (laid.filter fun x=>x.2.handleName?.isNone) ((laidW os laid).forCall (fun _ _=>0) ⟨#[],args,[]⟩).memory:=by
 obtain ⟨l,hl⟩:∃ l,l=laid.filter fun x=>x.2.handleName?.isNone:=⟨_,rfl⟩
 have e1:(l.filter fun x=>(l.map (·.1)).contains x.1)=l:=List.filter_eq_self.2 fun x hx=>List.contains_iff_mem.2 (List.mem_map.2 ⟨x,hx,rfl⟩)
 have e2:(l.filter fun x => !(l.map (·.1)).contains x.1)=[]:=List.filter_eq_nil_iff.2 fun x hx=>by rw [List.contains_iff_mem.2 (List.mem_map.2 ⟨x,hx,rfl⟩)];simp
 rw [<- hl] at hf hi ⊢
 have h:laidMet Tryz.prog l (laidW os laid):=laidMet_layVars (w0:=w0h os) (l.map (·.1)) [] (by rw [e1];unfold laidW;rw [<- hl]) (by rw [e1];exact hf) (by rw [e1];exact hi) (by rw [e2];exact LaidIn.none)
 exact h.of_heap (by simp [World.memory,World.forCall,Input.heap])
theorem fits (os:Os):(w0h os).layFits Tryz.prog (Rows.fnExactJobEndRow.laid.filter fun x=>x.2.handleName?.isNone) []=true:=by kernel_rfl
theorem ifaces (os:Os):(w0h os).layIfaces Tryz.prog (Rows.fnExactJobEndRow.laid.filter fun x=>x.2.handleName?.isNone) (laidW os Rows.fnExactJobEndRow.laid)=true:=by kernel_rfl
theorem met (os:Os) (args:Array Value):laidMetH Tryz.prog Rows.fnExactJobEndRow.laid ((laidW os Rows.fnExactJobEndRow.laid).forCall (fun _ _=>0) ⟨#[],args,[]⟩).memory :=
 laidMetH_of_parts3 (fuel:=8) (laidW_met args (fits os) (ifaces os)) (by kernel_rfl) (by kernel_rfl)
theorem shape (os:Os) (args:Array Value):((laidW os Rows.fnExactJobEndRow.laid).forCall (fun _ _=>0) ⟨#[],args,[]⟩).Shaped Tryz.prog:=World.shaped_of_ZipB (by kernel_rfl) (by kernel_rfl)
end Zt2
end Go.Proofs.YtladjpombohpaaaGreatDoor
