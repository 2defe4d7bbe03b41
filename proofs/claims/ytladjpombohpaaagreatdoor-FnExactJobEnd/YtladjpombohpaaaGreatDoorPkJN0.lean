import Derived.Conc.MuLone
import Derived.LaidEql
import Derived.Stop.Asserts
import Derived.RowKitTokens
import Derived.Test.YtladjpombohpaaaGreatDoorPkJE8
namespace Go.Proofs.YtladjpombohpaaaGreatDoor
set_option maxRecDepth 100000
set_option maxHeartbeats 8000000
set_option linter.unusedVariables false
namespace Jl0
abbrev muLink:Go.Conc.Locks.MuLink:={ lock:=66,unlock:=67,ilock:=108,iunlock:=109,lockSlow:=145,unlockSlow:=148,disable:=141,enable:=143,acquire:=144,relMerge:=146,cas32:=142,add32:=147,tMutex:=110,tIMutex:=108,tPMutex:=159,tPIMutex:=185,tPI32:=187,tUP:=189,tNoCopy:=105,tU32:=106 }
theorem muLib:Go.Conc.Locks.MuLib Tryz.prog muLink :=
 ⟨Tryz.func66,Tryz.func67,Tryz.func108,Tryz.func109,Tryz.func141,Tryz.func143,Tryz.func144,Tryz.func146,Tryz.func142,Tryz.func147,Tryz.underlying108,Tryz.runUnderlying108,Tryz.sizeOf108,Tryz.isAgg108,Tryz.zeroValue108,Tryz.underlying110,Tryz.runUnderlying110,Tryz.sizeOf110,Tryz.isAgg110,Tryz.zeroValue110,Tryz.underlying159,Tryz.runUnderlying159,Tryz.sizeOf159,Tryz.isAgg159,Tryz.zeroValue159,Tryz.underlying185,Tryz.runUnderlying185,Tryz.sizeOf185,Tryz.isAgg185,Tryz.zeroValue185,Tryz.underlying187,Tryz.runUnderlying187,Tryz.sizeOf187,Tryz.isAgg187,Tryz.zeroValue187,Tryz.underlying189,Tryz.runUnderlying189,Tryz.sizeOf189,Tryz.isAgg189,Tryz.zeroValue189,Tryz.underlying105,Tryz.runUnderlying105,Tryz.sizeOf105,Tryz.isAgg105,Tryz.zeroValue105,Tryz.underlying21,Tryz.runUnderlying21,Tryz.sizeOf21,Tryz.isAgg21,Tryz.zeroValue21,(by kernel_rfl)⟩
end Jl0
namespace Je0
open Go.RowKit Go.Extern.Stop Go.Stop Go.Extern
theorem compIs:(Tryz.prog.info? 113).map (·.comparable)=some true:=by kernel_rfl
theorem eqIn (d:Nat) (a b:Int) (w:World):(Op.equalIn (d+2) 70 (.iface 113 (.int .i64 a)) (.iface 113 (.int .i64 b))).run Tryz.prog w=.ok (a==b) w:=by
 obtain ⟨i,hi,hc⟩:=Option.map_eq_some_iff.1 compIs
 simp [Op.equalIn,run_underlying Tryz.underlying70,run_underlying Tryz.underlying113,typeInfo,hi,hc]
theorem eqC (a b:Int) (w:World):(binOp .eql 70 (.iface 113 (.int .i64 a)) (.iface 113 (.int .i64 b))).run Tryz.prog w=.ok (.bool (a==b)) w:=by
 simp only [binOp]
 simp [Op.equal,Op.maxDepth,eqIn 9998 a b]
theorem typeOfC (v:Value) (w:World):(Extern.ReflectliteType.typeOf #[.iface 113 v]).run Tryz.prog w=.ok (.iface 209 (.agg #[.pointer (some ⟨10,113,none⟩)])) w:=by kernel_rfl
theorem compC (w:World):((Extern.ReflectliteType.method fun t=>do Extern.Rtype.noPackHeld "Comparable" t;pure (.bool (<- typeInfo t).comparable)) #[.agg #[.pointer (some ⟨10,113,none⟩)]]).run Tryz.prog w=.ok (.bool true) w:=by kernel_rfl
theorem callComp (w:World):(callFunc 444 #[.agg #[.pointer (some ⟨10,113,none⟩)]]).run Tryz.prog w=.ok (.value (.bool true)) w:=by
 rw [@run_callFunc_extern Tryz.prog 444 _ (Extern.ReflectliteType.method fun t=>do Extern.Rtype.noPackHeld "Comparable" t;pure (.bool (<- typeInfo t).comparable)) Tryz.func444 (by kernel_rfl) (by kernel_rfl) (by kernel_rfl) (by kernel_rfl),compC]
 rfl
theorem methodComp (h:Value) (w:World):(Go.method 522 209 (.agg #[h]) "Comparable").run Tryz.prog w=.ok (444,.agg #[h]) w:=by kernel_rfl
theorem noIsC (v:Value) (xT:TypeId) (w:World):(Instr.typeAssert (.iface 113 v) xT 211 true).run Tryz.prog w=.ok (.tuple #[.nilIface,.bool false]) w:=run_typeAssert_lacksB Tryz.underlying211 (by kernel_rfl) (by kernel_rfl) v xT w
theorem noUnwrapC (v:Value) (xT:TypeId) (w:World):(Instr.typeAssert (.iface 113 v) xT 213 true).run Tryz.prog w=.ok (.tuple #[.nilIface,.bool false]) w:=run_typeAssert_lacksB Tryz.underlying213 (by kernel_rfl) (by kernel_rfl) v xT w
theorem noUnwrapsC (v:Value) (xT:TypeId) (w:World):(Instr.typeAssert (.iface 113 v) xT 214 true).run Tryz.prog w=.ok (.tuple #[.nilIface,.bool false]) w:=run_typeAssert_lacksB Tryz.underlying214 (by kernel_rfl) (by kernel_rfl) v xT w
theorem noIsR (v:Value) (xT:TypeId) (w:World):(Instr.typeAssert (.iface 115 v) xT 211 true).run Tryz.prog w=.ok (.tuple #[.nilIface,.bool false]) w:=run_typeAssert_lacksB Tryz.underlying211 (by kernel_rfl) (by kernel_rfl) v xT w
theorem hasUnwrapR (v:Value) (xT:TypeId) (w:World):(Instr.typeAssert (.iface 115 v) xT 213 true).run Tryz.prog w=.ok (.tuple #[.iface 115 v,.bool true]) w:=run_typeAssert_hasB Tryz.underlying213 (by kernel_rfl) v xT w
theorem methodUnwrap (v:Value) (w:World):(Go.method 522 115 v "Unwrap").run Tryz.prog w=.ok (441,v) w:=by kernel_rfl
/-- A refusal as an error. -/
abbrev rf (x:ByteArray) (c:Int):Value:=.iface 115 (.agg #[.string x,.int .i64 c])
/-- A code as an error. -/
abbrev cd (k:Int):Value:=.iface 113 (.int .i64 k)
theorem isNil (k:Int) (w:World) :
 Calls Tryz.prog 75 #[.nilIface,cd k] w fun e w'=>e=.returned (.bool false)/\w'=w:=by
 have hn:=run_eql_iface_nil_left (P:=Tryz.prog) w 113 (.int .i64 k) Tryz.underlying70
 go_enter Tryz.func75,Tryz.ntmps75
 go_wp2
 go_ret
 exact ⟨rfl,rfl⟩
theorem isNo (x:ByteArray) (c k:Int) (w:World) (h:(c==k)=false) :
 Calls Tryz.prog 75 #[rf x c,cd k] w fun e w'=>e=.returned (.bool false)/\Below w.heap.size w w':=by
 have h8:=@run_callFunc_extern Tryz.prog 120 _ Extern.ReflectliteType.typeOf Tryz.func120 (by kernel_rfl) (by kernel_rfl) (by kernel_rfl) (by kernel_rfl)
 have h32:=callComp
 have tT:=typeOfC
 have mR:=methodComp
 have nC:=noIsC
 have uC:=noUnwrapC
 have vC:=noUnwrapsC
 have nR:=noIsR
 have uR:=hasUnwrapR
 have mU:=methodUnwrap
 have hty:∀ W:World,(binOp .eql 70 (.iface 115 (.agg #[.string x,.int .i64 c])) (.iface 113 (.int .i64 k))).run Tryz.prog W=.ok (.bool false) W:=fun W=>run_eql_iface_types (P:=Tryz.prog) 115 113 _ _ Tryz.underlying70 (by decide) W
 have heq:∀ W:World,(binOp .eql 70 (.iface 113 (.int .i64 c)) (.iface 113 (.int .i64 k))).run Tryz.prog W=.ok (.bool false) W:=fun W=>by rw [eqC,h]
 clear h
 go_enter Tryz.func75,Tryz.ntmps75
 go_wp2
 refine wp_loop_rounds 2 ?_
 rw [rounds_succ]
 go_wp2
 rw [rounds_succ]
 go_wp2
 go_ret
 exact ⟨rfl,(Below.refl _ _).alloc (Nat.le_refl _) _⟩
theorem isYes (x:ByteArray) (c k:Int) (w:World) (h:(c==k)=true) :
 Calls Tryz.prog 75 #[rf x c,cd k] w fun e w'=>e=.returned (.bool true)/\Below w.heap.size w w':=by
 have h8:=@run_callFunc_extern Tryz.prog 120 _ Extern.ReflectliteType.typeOf Tryz.func120 (by kernel_rfl) (by kernel_rfl) (by kernel_rfl) (by kernel_rfl)
 have h32:=callComp
 have tT:=typeOfC
 have mR:=methodComp
 have nC:=noIsC
 have uC:=noUnwrapC
 have vC:=noUnwrapsC
 have nR:=noIsR
 have uR:=hasUnwrapR
 have mU:=methodUnwrap
 have hty:∀ W:World,(binOp .eql 70 (.iface 115 (.agg #[.string x,.int .i64 c])) (.iface 113 (.int .i64 k))).run Tryz.prog W=.ok (.bool false) W:=fun W=>run_eql_iface_types (P:=Tryz.prog) 115 113 _ _ Tryz.underlying70 (by decide) W
 have heq:∀ W:World,(binOp .eql 70 (.iface 113 (.int .i64 c)) (.iface 113 (.int .i64 k))).run Tryz.prog W=.ok (.bool true) W:=fun W=>by rw [eqC,h]
 clear h
 go_enter Tryz.func75,Tryz.ntmps75
 go_wp2
 refine wp_loop_rounds 2 ?_
 rw [rounds_succ]
 go_wp2
 rw [rounds_succ]
 go_wp2
 go_ret
 exact ⟨rfl,(Below.refl _ _).alloc (Nat.le_refl _) _⟩
theorem iCode0 (w:World) :
 Calls Tryz.prog 37 #[.nilIface] w fun e w'=>e=.returned (.int .i64 0)/\w'=w:=by
 go_enter Tryz.func37,Tryz.ntmps37
 go_wp2_with fail
 refine wp_loop_rounds 7 ?_
 rw [rounds_succ]
 go_wp2_with (go_at_call 75;refine (isNil _ _).mono ?_;rintro e w1 ⟨rfl,rfl⟩)
 rw [rounds_succ]
 go_wp2_with (go_at_call 75;refine (isNil _ _).mono ?_;rintro e w1 ⟨rfl,rfl⟩)
 rw [rounds_succ]
 go_wp2_with (go_at_call 75;refine (isNil _ _).mono ?_;rintro e w1 ⟨rfl,rfl⟩)
 rw [rounds_succ]
 go_wp2_with (go_at_call 75;refine (isNil _ _).mono ?_;rintro e w1 ⟨rfl,rfl⟩)
 rw [rounds_succ]
 go_wp2_with (go_at_call 75;refine (isNil _ _).mono ?_;rintro e w1 ⟨rfl,rfl⟩)
 rw [rounds_succ]
 go_wp2_with (go_at_call 75;refine (isNil _ _).mono ?_;rintro e w1 ⟨rfl,rfl⟩)
 rw [rounds_succ]
 go_wp2
 go_ret
 exact ⟨rfl,rfl⟩
theorem iCode5 (x:ByteArray) (w:World) :
 Calls Tryz.prog 37 #[rf x 5] w fun e w'=>e=.returned (.int .i64 5)/\Below w.heap.size w w':=by
 go_enter Tryz.func37,Tryz.ntmps37
 go_wp2_with fail
 refine wp_loop_rounds 5 ?_
 rw [rounds_succ]
 go_wp2_with fail
 refine (isNo x 5 1 _ (by decide)).mono ?_
 rintro e w1 ⟨rfl,hb⟩
 have HB1:Hid (Below w.heap.size w w1):=hb
 clear hb
 go_wp2_with fail
 rw [rounds_succ]
 go_wp2_with fail
 refine (isNo x 5 2 _ (by decide)).mono ?_
 rintro e w2 ⟨rfl,hb⟩
 have HB2:Hid (Below w.heap.size w w2):=HB1.out.trans (hb.mono HB1.out.size)
 clear hb HB1
 go_wp2_with fail
 rw [rounds_succ]
 go_wp2_with fail
 refine (isNo x 5 3 _ (by decide)).mono ?_
 rintro e w3 ⟨rfl,hb⟩
 have HB3:Hid (Below w.heap.size w w3):=HB2.out.trans (hb.mono HB2.out.size)
 clear hb HB2
 go_wp2_with fail
 rw [rounds_succ]
 go_wp2_with fail
 refine (isNo x 5 4 _ (by decide)).mono ?_
 rintro e w4 ⟨rfl,hb⟩
 have HB4:Hid (Below w.heap.size w w4):=HB3.out.trans (hb.mono HB3.out.size)
 clear hb HB3
 go_wp2_with fail
 rw [rounds_succ]
 go_wp2_with fail
 refine (isYes x 5 5 _ (by decide)).mono ?_
 rintro e w5 ⟨rfl,hb⟩
 have HB5:Hid (Below w.heap.size w w5):=HB4.out.trans (hb.mono HB4.out.size)
 clear hb HB4
 go_wp2
 go_ret
 exact ⟨rfl,HB5.out⟩
end Je0
end Go.Proofs.YtladjpombohpaaaGreatDoor
