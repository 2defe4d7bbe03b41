import Derived.LaidEql
import Derived.Stop.Asserts
import Derived.RowKitTokens
import Derived.LaidHandle
import Derived.Test.YtjajkmdoggbicaaGreatDoorPkST31
namespace Go.Proofs.YtjajkmdoggbicaaGreatDoor
set_option maxRecDepth 100000
set_option maxHeartbeats 8000000
set_option linter.unusedVariables false
namespace Zs6
open Go.RowKit Go.Extern.Stop Go.Stop Go.Extern
open Zs5 (rfv)
open Nd0 (Kept lt_of_cell)
theorem valueOfP (t:Addr) (w:World):(ReflectliteValue.unpack (.iface 116 (.pointer (some t)))).run Tryz.prog w
 = .ok (.agg #[.pointer (some ⟨9,116,none⟩),.pointer (some ⟨w.heap.size,0,none⟩),.int .u64 150]) (w.alloc (.cells #[.pointer (some t)] 116)):=by kernel_rfl
theorem typeP (a:Addr) (w:World):(ReflectliteValue.methodAny (ReflectliteValue.valueError "reflectlite.Value.Type" 0) (fun t _ _ _=>ReflectliteType.toType t) #[.agg #[.pointer (some ⟨9,116,none⟩),.pointer (some a),.int .u64 150]]).run Tryz.prog w
 = .ok (.iface 165 (.agg #[.pointer (some ⟨9,116,none⟩)])) w:=by kernel_rfl
theorem methodKind (h:Value) (w:World):(Go.method 348 165 (.agg #[h]) "Kind").run Tryz.prog w=.ok (207,h) w:=by kernel_rfl
theorem kindP (w:World):((ReflectliteType.abiMethod fun t=>(fun a:Nat=>Value.int IntKind.u8 (a:Int)) <$> Rtype.kind t) #[.pointer (some ⟨9,116,none⟩)]).run Tryz.prog w=.ok (.int .u8 22) w:=by kernel_rfl
theorem kindS (w:World):((ReflectliteType.abiMethod fun t=>(fun a:Nat=>Value.int IntKind.u8 (a:Int)) <$> Rtype.kind t) #[.pointer (some ⟨9,107,none⟩)]).run Tryz.prog w=.ok (.int .u8 25) w:=by kernel_rfl
theorem rlm (z:Sem Value) (f:TypeId->Addr->Nat->Nat->Sem Value) (v:Value) :
 ReflectliteValue.method z f #[v]=(do match <- ReflectliteValue.parts v with|none=>z|some (t,a,fl)=>f t a fl (fl % 32)):=rfl
theorem partsP (a:Addr) (w:World):(ReflectliteValue.parts (.agg #[.pointer (some ⟨9,116,none⟩),.pointer (some a),.int .u64 150])).run Tryz.prog w=.ok (some (116,a,150)) w:=by kernel_rfl
theorem isNilP (a p:Addr) (W:World) (ha:W.cell? a=some (.pointer (some p))) :
 (ReflectliteValue.method (ReflectliteValue.valueError "reflectlite.Value.IsNil" 0) ReflectliteValue.isNil #[.agg #[.pointer (some ⟨9,116,none⟩),.pointer (some a),.int .u64 150]]).run Tryz.prog W=.ok (.bool false) W:=by
 rw [rlm]
 simp only [Sem.run_bind,partsP,Result.andThen]
 simp [ReflectliteValue.isNil,loadVar,isAgg,underlying,Tryz.underlying116,ha,Result.andThen]
theorem methodElem (h:Value) (w:World):(Go.method 348 165 (.agg #[h]) "Elem").run Tryz.prog w=.ok (218,.agg #[h]) w:=by kernel_rfl
theorem methodImplements (h:Value) (w:World):(Go.method 348 165 (.agg #[h]) "Implements").run Tryz.prog w=.ok (219,.agg #[h]) w:=by kernel_rfl
theorem methodAssignableTo (h:Value) (w:World):(Go.method 348 165 (.agg #[h]) "AssignableTo").run Tryz.prog w=.ok (216,.agg #[h]) w:=by kernel_rfl
theorem elemP (w:World):(ReflectliteType.method ReflectliteType.elem #[.agg #[.pointer (some ⟨9,116,none⟩)]]).run Tryz.prog w=.ok (.iface 165 (.agg #[.pointer (some ⟨9,107,none⟩)])) w:=by kernel_rfl
theorem implementsS (w:World):(ReflectliteType.relation "Implements" ReflectliteType.implements_ #[.agg #[.pointer (some ⟨9,107,none⟩)],.iface 165 (.agg #[.pointer (some ⟨9,63,none⟩)])]).run Tryz.prog w=.ok (.bool true) w:=by kernel_rfl
theorem typeOfS (v:Value) (w:World):(ReflectliteType.typeOf #[.iface 107 v]).run Tryz.prog w=.ok (.iface 165 (.agg #[.pointer (some ⟨9,107,none⟩)])) w:=by kernel_rfl
theorem assignableS (w:World):(ReflectliteType.relation "AssignableTo" ReflectliteType.assignableTo #[.agg #[.pointer (some ⟨9,107,none⟩)],.iface 165 (.agg #[.pointer (some ⟨9,107,none⟩)])]).run Tryz.prog w=.ok (.bool true) w:=by kernel_rfl
theorem valueOfS (x:ByteArray) (w:World):(ReflectliteValue.unpack (.iface 107 (.agg #[.string x]))).run Tryz.prog w
 = .ok (.agg #[.pointer (some ⟨9,107,none⟩),.pointer (some ⟨w.heap.size,0,none⟩),.int .u64 153]) (w.alloc (.cells #[.string x] 107)):=by kernel_rfl
theorem elemOfP (w:World):(Rtype.elem? 116).run Tryz.prog w=.ok (some 107) w:=by kernel_rfl
theorem mkS (p:Addr) (w:World):(ReflectliteValue.mk 107 p ReflectliteValue.flagAddr).run Tryz.prog w=.ok (.agg #[.pointer (some ⟨9,107,none⟩),.pointer (some p),.int .u64 409]) w:=by kernel_rfl
theorem elemV (a p:Addr) (W:World) (ha:W.cell? a=some (.pointer (some p))) :
 (ReflectliteValue.method (ReflectliteValue.valueError "reflectlite.Value.Elem" 0) ReflectliteValue.elem #[.agg #[.pointer (some ⟨9,116,none⟩),.pointer (some a),.int .u64 150]]).run Tryz.prog W
  = .ok (.agg #[.pointer (some ⟨9,107,none⟩),.pointer (some p),.int .u64 409]) W:=by
 rw [rlm]
 simp only [Sem.run_bind,partsP,Result.andThen]
 simp [ReflectliteValue.elem,loadVar,isAgg,underlying,Tryz.underlying116,ha,Result.andThen,elemOfP,mkS]
theorem rls (v x:Value):ReflectliteValue.set #[v,x]=(do
 let (some (dst,a,fl),some (src,b,_)):=(<- ReflectliteValue.parts v,<- ReflectliteValue.parts x)
  | unsupported (.noEntry "extern/(internal/reflectlite.Value).Set.zeroValue")
 if fl / ReflectliteValue.flagAddr % 2==0 then unsupported (.noEntry "extern/(internal/reflectlite.Value).Set.unaddressable")
 let val <- loadVar src b
 if <- Rtype.directlyAssignable dst src then storeVar dst a val
 else if <- Rtype.implements dst src then
  if (<- Rtype.kind src)==20 then
   match val with
   | .nilIface=>unsupported (.noEntry "extern/reflectlite: a nil value of one interface type handed on as a value of another")
   | _=>storeVar dst a val
  else storeVar dst a (.iface src val)
 else panicString ("reflectlite.Set: value of type " ++ (<- Rtype.spelt src) ++ " is not assignable to type " ++ (<- Rtype.spelt dst))
 pure (.tuple #[])):=rfl
theorem partsSa (a:Addr) (w:World):(ReflectliteValue.parts (.agg #[.pointer (some ⟨9,107,none⟩),.pointer (some a),.int .u64 409])).run Tryz.prog w=.ok (some (107,a,409)) w:=by kernel_rfl
theorem partsS (a:Addr) (w:World):(ReflectliteValue.parts (.agg #[.pointer (some ⟨9,107,none⟩),.pointer (some a),.int .u64 153])).run Tryz.prog w=.ok (some (107,a,153)) w:=by kernel_rfl
theorem directS (w:World):(Rtype.directlyAssignable 107 107).run Tryz.prog w=.ok true w:=by kernel_rfl
theorem sizeS (w:World):(sizeOf 107).run Tryz.prog w=.ok 1 w:=by kernel_rfl
theorem setS (tb bb:Nat) (x:ByteArray) (old:Value) (W:World) (hb:W.cell? ⟨bb,0,none⟩=some (.string x)) (ht:W.cell? ⟨tb,0,none⟩=some old) (hf:W.frozen? ⟨tb,0,none⟩=false) :
 (ReflectliteValue.set #[.agg #[.pointer (some ⟨9,107,none⟩),.pointer (some ⟨tb,0,none⟩),.int .u64 409],.agg #[.pointer (some ⟨9,107,none⟩),.pointer (some ⟨bb,0,none⟩),.int .u64 153]]).run Tryz.prog W
  = .ok (.tuple #[]) (W.setCell ⟨tb,0,none⟩ (.string x)):=by
 rw [rls]
 simp only [Sem.run_bind,partsSa,partsS,Result.andThen]
 have hl:(loadCells ⟨bb,0,none⟩ 1).run Tryz.prog W=.ok #[.string x] W:=by
  simp [loadCells,loadCellsFrom,Addr.add,hb,Result.andThen]
 simp [ReflectliteValue.flagAddr,loadVar,isAgg,underlying,Tryz.underlying107,hl,Result.andThen,directS,storeVar,Value.cells,storeCells,Addr.add]
 rw [run_store Tryz.prog W ⟨tb,0,none⟩ _ _ (by rfl)]
 simp [ht,hf]
/-- The value that errors.As looks at. -/
abbrev tgv (b:Nat):Value:=.agg #[.pointer (some ⟨9,116,none⟩),.pointer (some ⟨b,0,none⟩),.int .u64 150]
theorem asIn (x:ByteArray) (tb b:Nat) (old:Value) (w:World) (hb:w.cell? ⟨b,0,none⟩=some (.pointer (some ⟨tb,0,none⟩))) (ht:w.cell? ⟨tb,0,none⟩=some old) (hf:w.frozen? ⟨tb,0,none⟩=false) (hbl:b < w.heap.size) (htl:tb < w.heap.size) :
 Calls Tryz.prog 113 #[rfv x,.iface 116 (.pointer (some ⟨tb,0,none⟩)),tgv b,.iface 165 (.agg #[.pointer (some ⟨9,107,none⟩)])] w fun ev w'=>ev=.returned (.bool true)/\Kept (fun k=>k=tb) w w':=by
 have h6:=@run_callFunc_extern Tryz.prog 110 _ (fun args=>ReflectliteValue.unpack (args.getD 0 (.tuple #[]))) Tryz.func110 (by kernel_rfl) (by kernel_rfl) (by kernel_rfl) (by kernel_rfl)
 have h10:=@run_callFunc_extern Tryz.prog 149 _ ReflectliteType.typeOf Tryz.func149 (by kernel_rfl) (by kernel_rfl) (by kernel_rfl) (by kernel_rfl)
 have h35:=@run_callFunc_extern Tryz.prog 216 _ (ReflectliteType.relation "AssignableTo" ReflectliteType.assignableTo) Tryz.func216 (by kernel_rfl) (by kernel_rfl) (by kernel_rfl) (by kernel_rfl)
 have h11:=@run_callFunc_extern Tryz.prog 150 _ (ReflectliteValue.method (ReflectliteValue.valueError "reflectlite.Value.Elem" 0) ReflectliteValue.elem) Tryz.func150 (by kernel_rfl) (by kernel_rfl) (by kernel_rfl) (by kernel_rfl)
 have h12:=@run_callFunc_extern Tryz.prog 151 _ ReflectliteValue.set Tryz.func151 (by kernel_rfl) (by kernel_rfl) (by kernel_rfl) (by kernel_rfl)
 have tO:=typeOfS
 have mA:=methodAssignableTo
 have a25:=assignableS
 have v25:=valueOfS
 have el:=elemV ⟨b,0,none⟩ ⟨tb,0,none⟩ (w.alloc (.cells #[.pointer (some ⟨9,116,none⟩),.pointer (some ⟨b,0,none⟩),.int .u64 150] 147)) (by rw [World.cell?_alloc_lt _ _ ⟨b,0,none⟩ hbl];exact hb)
 have st:=setS tb (w.heap.size+1) x old ((w.alloc (.cells #[.pointer (some ⟨9,116,none⟩),.pointer (some ⟨b,0,none⟩),.int .u64 150] 147)).alloc (.cells #[.string x] 107))
  (by rw [World.cell?_alloc_at _ _ _ _ (by simp)];rfl)
  (by rw [World.cell?_alloc_lt _ _ ⟨tb,0,none⟩ (by simp;omega),World.cell?_alloc_lt _ _ ⟨tb,0,none⟩ htl];exact ht)
  (by rw [World.frozen?_alloc_old _ _ ⟨tb,0,none⟩ (by simp;omega),World.frozen?_alloc_old _ _ ⟨tb,0,none⟩ (Nat.ne_of_lt htl)];exact hf)
 go_enter Tryz.func113,Tryz.ntmps113
 go_wp2
 refine wp_loop_rounds 1 ?_
 rw [rounds_succ]
 go_wp2
 go_ret
 exact ⟨rfl,(((Kept.refl (fun k=>k=tb) w).setCell (p:=⟨tb,0,none⟩) rfl _).alloc _).alloc _⟩
theorem as_nil (t:Value) (w:World) :
 Calls Tryz.prog 76 #[.nilIface,t] w fun e w'=>e=.returned (.bool false)/\w'=w:=by
 go_enter Tryz.func76,Tryz.ntmps76
 go_wp2
 go_ret
 exact ⟨rfl,rfl⟩
theorem as_hit (x:ByteArray) (tb:Nat) (old:Value) (w:World) (hg:w.cell? ⟨0,0,none⟩=some (.iface 165 (.agg #[.pointer (some ⟨9,63,none⟩)]))) (ht:w.cell? ⟨tb,0,none⟩=some old) (hf:w.frozen? ⟨tb,0,none⟩=false) :
 Calls Tryz.prog 76 #[rfv x,.iface 116 (.pointer (some ⟨tb,0,none⟩))] w fun ev w'=>ev=.returned (.bool true)/\Kept (fun k=>k=tb) w w':=by
 have h6:=@run_callFunc_extern Tryz.prog 110 _ (fun args=>ReflectliteValue.unpack (args.getD 0 (.tuple #[]))) Tryz.func110 (by kernel_rfl) (by kernel_rfl) (by kernel_rfl) (by kernel_rfl)
 have h7:=@run_callFunc_extern Tryz.prog 111 _ (ReflectliteValue.methodAny (ReflectliteValue.valueError "reflectlite.Value.Type" 0) (fun t _ _ _=>ReflectliteType.toType t)) Tryz.func111 (by kernel_rfl) (by kernel_rfl) (by kernel_rfl) (by kernel_rfl)
 have h8:=@run_callFunc_extern Tryz.prog 112 _ (ReflectliteValue.method (ReflectliteValue.valueError "reflectlite.Value.IsNil" 0) ReflectliteValue.isNil) Tryz.func112 (by kernel_rfl) (by kernel_rfl) (by kernel_rfl) (by kernel_rfl)
 have h27:=@run_callFunc_extern Tryz.prog 207 _ (ReflectliteType.abiMethod fun t=>do pure (.int .u8 (<- Rtype.kind t))) Tryz.func207 (by kernel_rfl) (by kernel_rfl) (by kernel_rfl) (by kernel_rfl)
 have h37:=@run_callFunc_extern Tryz.prog 218 _ (ReflectliteType.method ReflectliteType.elem) Tryz.func218 (by kernel_rfl) (by kernel_rfl) (by kernel_rfl) (by kernel_rfl)
 have h38:=@run_callFunc_extern Tryz.prog 219 _ (ReflectliteType.relation "Implements" ReflectliteType.implements_) Tryz.func219 (by kernel_rfl) (by kernel_rfl) (by kernel_rfl) (by kernel_rfl)
 have f6:=valueOfP
 have f7:=typeP
 have mK:=methodKind
 have mE:=methodElem
 have mI:=methodImplements
 have k27:=kindP
 have k25:=kindS
 have e27:=elemP
 have i25:=implementsS
 have htl:=lt_of_cell ht
 have hgl:=lt_of_cell hg
 have htl2:tb < w.heap.size:=htl
 have hgl2:0 < w.heap.size:=hgl
 have n8:=isNilP ⟨w.heap.size,0,none⟩ ⟨tb,0,none⟩ ((w.alloc (.cells #[.pointer (some ⟨tb,0,none⟩)] 116)).alloc (.cells #[.pointer (some ⟨9,116,none⟩),.pointer (some ⟨w.heap.size,0,none⟩),.int .u64 150] 147)) (by simp)
 have hg2:((w.alloc (.cells #[.pointer (some ⟨tb,0,none⟩)] 116)).alloc (.cells #[.pointer (some ⟨9,116,none⟩),.pointer (some ⟨w.heap.size,0,none⟩),.int .u64 150] 147)).cell? ⟨0,0,none⟩=some (.iface 165 (.agg #[.pointer (some ⟨9,63,none⟩)])):=by
  rw [World.cell?_alloc_lt _ _ ⟨0,0,none⟩ (by simp<;>omega),World.cell?_alloc_lt _ _ ⟨0,0,none⟩ hgl2];exact hg
 have HAS:Hid _:=asIn x tb w.heap.size old ((w.alloc (.cells #[.pointer (some ⟨tb,0,none⟩)] 116)).alloc (.cells #[.pointer (some ⟨9,116,none⟩),.pointer (some ⟨w.heap.size,0,none⟩),.int .u64 150] 147)) (by simp)
  (by rw [World.cell?_alloc_lt _ _ ⟨tb,0,none⟩ (by simp;omega),World.cell?_alloc_lt _ _ ⟨tb,0,none⟩ htl2];exact ht)
  (by rw [World.frozen?_alloc_old _ _ ⟨tb,0,none⟩ (by simp;omega),World.frozen?_alloc_old _ _ ⟨tb,0,none⟩ (Nat.ne_of_lt htl2)];exact hf) (by simp<;>omega) (by simp;omega)
 clear ht hf hg htl hgl
 go_enter Tryz.func76,Tryz.ntmps76
 go_wp2_with (go_at_call 113;refine Calls.mono HAS.out ?_;rintro e w9 ⟨rfl,hk9⟩;have HK9:Hid (Kept (fun k=>k=tb) w w9):=(((Kept.refl (fun k=>k=tb) w).alloc _).alloc _).trans hk9;clear hk9)
 go_ret
 exact ⟨rfl,HK9.out⟩
theorem iRefusal (x:ByteArray) (w:World) (hg:w.cell? ⟨0,0,none⟩=some (.iface 165 (.agg #[.pointer (some ⟨9,63,none⟩)]))) :
 Calls Tryz.prog 32 #[rfv x] w fun e w'=>e=.returned (.bool true)/\Below w.heap.size w w':=by
 have b0:Below w.heap.size w (w.alloc (.cells #[.string ⟨#[]⟩] 107)):=(Below.refl _ _).alloc (Nat.le_refl _) _
 have HB:Hid (Below w.heap.size w (w.alloc (.cells #[.string ⟨#[]⟩] 107))):=b0
 have HAS:Hid _:=as_hit x w.heap.size (.string ⟨#[]⟩) (w.alloc (.cells #[.string ⟨#[]⟩] 107)) (by rw [b0.cell (p:=⟨_,0,none⟩) (lt_of_cell hg)];exact hg) (by simp) (by simp)
 clear b0 hg
 go_enter Tryz.func32,Tryz.ntmps32
 go_wp2_with fail
 refine Calls.mono HAS.out ?_
 rintro e w1 ⟨rfl,hk⟩
 have HB1:Hid (Below w.heap.size w w1):=HB.out.trans (hk.below (fun b hb=>by omega) HB.out.size)
 clear hk
 go_wp2
 go_ret
 exact ⟨rfl,HB1.out⟩
theorem iRefusal0 (w:World) :
 Calls Tryz.prog 32 #[.nilIface] w fun e w'=>e=.returned (.bool false)/\Below w.heap.size w w':=by
 have HB:Hid (Below w.heap.size w (w.alloc (.cells #[.string ⟨#[]⟩] 107))):=(Below.refl _ _).alloc (Nat.le_refl _) _
 go_enter Tryz.func32,Tryz.ntmps32
 go_wp2_with fail
 refine (as_nil _ _).mono ?_
 rintro e w1 ⟨rfl,hw⟩
 have hw':=hw.symm
 clear hw
 subst hw'
 go_wp2
 go_ret
 exact ⟨rfl,HB.out⟩
end Zs6
end Go.Proofs.YtjajkmdoggbicaaGreatDoor
