/- Small texts of mine, one behind the other. -/
import Derived.LaidEql
import Derived.Stop.Asserts
import Derived.RowKitTokens
import Derived.LaidHandle
import Derived.Stop.Joined
import Derived.Test.YtmfpbhjmnadpkaaGreatDoorRows
import Derived.Lay
import Derived.Test.YtmfpbhjmnadpkaaGreatDoorZs5
/- errors.As at a target of the type saveRefusal. -/
namespace Go.Proofs.YtmfpbhjmnadpkaaGreatDoor.Zs6
open Go.RowKit Go.Extern.Stop Go.Stop Go.Extern
open Zs5 (rfv)
open Nd0 (Kept lt_of_cell)
set_option linter.unusedVariables false

theorem valueOfP (t : Addr) (w : World) : (ReflectliteValue.unpack (.iface 141 (.pointer (some t)))).run Tryz.prog w
    = .ok (.agg #[.pointer (some ⟨9, 141, none⟩), .pointer (some ⟨w.heap.size, 0, none⟩), .int .u64 150]) (w.alloc (.cells #[.pointer (some t)] 141)) := by kernel_rfl
theorem typeP (a : Addr) (w : World) : (ReflectliteValue.methodAny (ReflectliteValue.valueError "reflectlite.Value.Type" 0) (fun t _ _ _ => ReflectliteType.toType t) #[.agg #[.pointer (some ⟨9, 141, none⟩), .pointer (some a), .int .u64 150]]).run Tryz.prog w
    = .ok (.iface 193 (.agg #[.pointer (some ⟨9, 141, none⟩)])) w := by kernel_rfl
theorem methodKind (h : Value) (w : World) : (Go.method 375 193 (.agg #[h]) "Kind").run Tryz.prog w = .ok (247, h) w := by kernel_rfl
theorem kindP (w : World) : ((ReflectliteType.abiMethod fun t => (fun a : Nat => Value.int IntKind.u8 (a : Int)) <$> Rtype.kind t) #[.pointer (some ⟨9, 141, none⟩)]).run Tryz.prog w = .ok (.int .u8 22) w := by kernel_rfl
theorem kindS (w : World) : ((ReflectliteType.abiMethod fun t => (fun a : Nat => Value.int IntKind.u8 (a : Int)) <$> Rtype.kind t) #[.pointer (some ⟨9, 133, none⟩)]).run Tryz.prog w = .ok (.int .u8 25) w := by kernel_rfl
theorem rlm (z : Sem Value) (f : TypeId → Addr → Nat → Nat → Sem Value) (v : Value) :
    ReflectliteValue.method z f #[v] = (do match ← ReflectliteValue.parts v with | none => z | some (t, a, fl) => f t a fl (fl % 32)) := rfl
theorem partsP (a : Addr) (w : World) : (ReflectliteValue.parts (.agg #[.pointer (some ⟨9, 141, none⟩), .pointer (some a), .int .u64 150])).run Tryz.prog w = .ok (some (141, a, 150)) w := by kernel_rfl
theorem isNilP (a p : Addr) (W : World) (ha : W.cell? a = some (.pointer (some p))) :
    (ReflectliteValue.method (ReflectliteValue.valueError "reflectlite.Value.IsNil" 0) ReflectliteValue.isNil #[.agg #[.pointer (some ⟨9, 141, none⟩), .pointer (some a), .int .u64 150]]).run Tryz.prog W = .ok (.bool false) W := by
  rw [rlm]
  simp only [Sem.run_bind, partsP, Result.andThen]
  simp [ReflectliteValue.isNil, loadVar, isAgg, underlying, Tryz.underlying141, ha, Result.andThen]
theorem methodElem (h : Value) (w : World) : (Go.method 375 193 (.agg #[h]) "Elem").run Tryz.prog w = .ok (258, .agg #[h]) w := by kernel_rfl
theorem methodImplements (h : Value) (w : World) : (Go.method 375 193 (.agg #[h]) "Implements").run Tryz.prog w = .ok (259, .agg #[h]) w := by kernel_rfl
theorem methodAssignableTo (h : Value) (w : World) : (Go.method 375 193 (.agg #[h]) "AssignableTo").run Tryz.prog w = .ok (256, .agg #[h]) w := by kernel_rfl
theorem elemP (w : World) : (ReflectliteType.method ReflectliteType.elem #[.agg #[.pointer (some ⟨9, 141, none⟩)]]).run Tryz.prog w = .ok (.iface 193 (.agg #[.pointer (some ⟨9, 133, none⟩)])) w := by kernel_rfl
theorem implementsS (w : World) : (ReflectliteType.relation "Implements" ReflectliteType.implements_ #[.agg #[.pointer (some ⟨9, 133, none⟩)], .iface 193 (.agg #[.pointer (some ⟨9, 74, none⟩)])]).run Tryz.prog w = .ok (.bool true) w := by kernel_rfl
theorem typeOfS (v : Value) (w : World) : (ReflectliteType.typeOf #[.iface 133 v]).run Tryz.prog w = .ok (.iface 193 (.agg #[.pointer (some ⟨9, 133, none⟩)])) w := by kernel_rfl
theorem assignableS (w : World) : (ReflectliteType.relation "AssignableTo" ReflectliteType.assignableTo #[.agg #[.pointer (some ⟨9, 133, none⟩)], .iface 193 (.agg #[.pointer (some ⟨9, 133, none⟩)])]).run Tryz.prog w = .ok (.bool true) w := by kernel_rfl
theorem valueOfS (x : ByteArray) (w : World) : (ReflectliteValue.unpack (.iface 133 (.agg #[.string x]))).run Tryz.prog w
    = .ok (.agg #[.pointer (some ⟨9, 133, none⟩), .pointer (some ⟨w.heap.size, 0, none⟩), .int .u64 153]) (w.alloc (.cells #[.string x] 133)) := by kernel_rfl
theorem elemOfP (w : World) : (Rtype.elem? 141).run Tryz.prog w = .ok (some 133) w := by kernel_rfl
theorem mkS (p : Addr) (w : World) : (ReflectliteValue.mk 133 p ReflectliteValue.flagAddr).run Tryz.prog w = .ok (.agg #[.pointer (some ⟨9, 133, none⟩), .pointer (some p), .int .u64 409]) w := by kernel_rfl
theorem elemV (a p : Addr) (W : World) (ha : W.cell? a = some (.pointer (some p))) :
    (ReflectliteValue.method (ReflectliteValue.valueError "reflectlite.Value.Elem" 0) ReflectliteValue.elem #[.agg #[.pointer (some ⟨9, 141, none⟩), .pointer (some a), .int .u64 150]]).run Tryz.prog W
      = .ok (.agg #[.pointer (some ⟨9, 133, none⟩), .pointer (some p), .int .u64 409]) W := by
  rw [rlm]
  simp only [Sem.run_bind, partsP, Result.andThen]
  simp [ReflectliteValue.elem, loadVar, isAgg, underlying, Tryz.underlying141, ha, Result.andThen, elemOfP, mkS]
theorem rls (v x : Value) : ReflectliteValue.set #[v, x] = (do
    let (some (dst, a, fl), some (src, b, _)) := (← ReflectliteValue.parts v, ← ReflectliteValue.parts x)
      | unsupported (.noEntry "extern/(internal/reflectlite.Value).Set.zeroValue")
    if fl / ReflectliteValue.flagAddr % 2 == 0 then unsupported (.noEntry "extern/(internal/reflectlite.Value).Set.unaddressable")
    let val ← loadVar src b
    if ← Rtype.directlyAssignable dst src then storeVar dst a val
    else if ← Rtype.implements dst src then
      if (← Rtype.kind src) == 20 then
        match val with
        | .nilIface => unsupported (.noEntry "extern/reflectlite: a nil value of one interface type handed on as a value of another")
        | _ => storeVar dst a val
      else storeVar dst a (.iface src val)
    else panicString ("reflectlite.Set: value of type " ++ (← Rtype.spelt src) ++ " is not assignable to type " ++ (← Rtype.spelt dst))
    pure (.tuple #[])) := rfl
theorem partsSa (a : Addr) (w : World) : (ReflectliteValue.parts (.agg #[.pointer (some ⟨9, 133, none⟩), .pointer (some a), .int .u64 409])).run Tryz.prog w = .ok (some (133, a, 409)) w := by kernel_rfl
theorem partsS (a : Addr) (w : World) : (ReflectliteValue.parts (.agg #[.pointer (some ⟨9, 133, none⟩), .pointer (some a), .int .u64 153])).run Tryz.prog w = .ok (some (133, a, 153)) w := by kernel_rfl
theorem directS (w : World) : (Rtype.directlyAssignable 133 133).run Tryz.prog w = .ok true w := by kernel_rfl
theorem sizeS (w : World) : (sizeOf 133).run Tryz.prog w = .ok 1 w := by kernel_rfl
theorem setS (tb bb : Nat) (x : ByteArray) (old : Value) (W : World) (hb : W.cell? ⟨bb, 0, none⟩ = some (.string x)) (ht : W.cell? ⟨tb, 0, none⟩ = some old) (hf : W.frozen? ⟨tb, 0, none⟩ = false) :
    (ReflectliteValue.set #[.agg #[.pointer (some ⟨9, 133, none⟩), .pointer (some ⟨tb, 0, none⟩), .int .u64 409], .agg #[.pointer (some ⟨9, 133, none⟩), .pointer (some ⟨bb, 0, none⟩), .int .u64 153]]).run Tryz.prog W
      = .ok (.tuple #[]) (W.setCell ⟨tb, 0, none⟩ (.string x)) := by
  rw [rls]
  simp only [Sem.run_bind, partsSa, partsS, Result.andThen]
  have hl : (loadCells ⟨bb, 0, none⟩ 1).run Tryz.prog W = .ok #[.string x] W := by
    simp [loadCells, loadCellsFrom, Addr.add, hb, Result.andThen]
  simp [ReflectliteValue.flagAddr, loadVar, isAgg, underlying, Tryz.underlying133, hl, Result.andThen, directS, storeVar, Value.cells, storeCells, Addr.add]
  rw [run_store Tryz.prog W ⟨tb, 0, none⟩ _ _ (by rfl)]
  simp [ht, hf]

/-- The value that errors.As looks at. -/
abbrev tgv (b : Nat) : Value := .agg #[.pointer (some ⟨9, 141, none⟩), .pointer (some ⟨b, 0, none⟩), .int .u64 150]
set_option maxRecDepth 100000 in
set_option maxHeartbeats 4000000 in
theorem asIn (x : ByteArray) (tb b : Nat) (old : Value) (w : World) (hb : w.cell? ⟨b, 0, none⟩ = some (.pointer (some ⟨tb, 0, none⟩))) (ht : w.cell? ⟨tb, 0, none⟩ = some old) (hf : w.frozen? ⟨tb, 0, none⟩ = false) (hbl : b < w.heap.size) (htl : tb < w.heap.size) :
    Calls Tryz.prog 153 #[rfv x, .iface 141 (.pointer (some ⟨tb, 0, none⟩)), tgv b, .iface 193 (.agg #[.pointer (some ⟨9, 133, none⟩)])] w fun ev w' => ev = .returned (.bool true) ∧ Kept (fun k => k = tb) w w' := by
  have h6 := @run_callFunc_extern Tryz.prog 150 _ (fun args => ReflectliteValue.unpack (args.getD 0 (.tuple #[]))) Tryz.func150 (by kernel_rfl) (by kernel_rfl) (by kernel_rfl) (by kernel_rfl)
  have h10 := @run_callFunc_extern Tryz.prog 189 _ ReflectliteType.typeOf Tryz.func189 (by kernel_rfl) (by kernel_rfl) (by kernel_rfl) (by kernel_rfl)
  have h35 := @run_callFunc_extern Tryz.prog 256 _ (ReflectliteType.relation "AssignableTo" ReflectliteType.assignableTo) Tryz.func256 (by kernel_rfl) (by kernel_rfl) (by kernel_rfl) (by kernel_rfl)
  have h11 := @run_callFunc_extern Tryz.prog 190 _ (ReflectliteValue.method (ReflectliteValue.valueError "reflectlite.Value.Elem" 0) ReflectliteValue.elem) Tryz.func190 (by kernel_rfl) (by kernel_rfl) (by kernel_rfl) (by kernel_rfl)
  have h12 := @run_callFunc_extern Tryz.prog 191 _ ReflectliteValue.set Tryz.func191 (by kernel_rfl) (by kernel_rfl) (by kernel_rfl) (by kernel_rfl)
  have tO := typeOfS
  have mA := methodAssignableTo
  have a25 := assignableS
  have v25 := valueOfS
  have el := elemV ⟨b, 0, none⟩ ⟨tb, 0, none⟩ (w.alloc (.cells #[.pointer (some ⟨9, 141, none⟩), .pointer (some ⟨b, 0, none⟩), .int .u64 150] 175)) (by rw [World.cell?_alloc_lt _ _ ⟨b, 0, none⟩ hbl]; exact hb)
  have st := setS tb (w.heap.size + 1) x old ((w.alloc (.cells #[.pointer (some ⟨9, 141, none⟩), .pointer (some ⟨b, 0, none⟩), .int .u64 150] 175)).alloc (.cells #[.string x] 133))
    (by rw [World.cell?_alloc_at _ _ _ _ (by simp)]; rfl)
    (by rw [World.cell?_alloc_lt _ _ ⟨tb, 0, none⟩ (by simp; omega), World.cell?_alloc_lt _ _ ⟨tb, 0, none⟩ htl]; exact ht)
    (by rw [World.frozen?_alloc_old _ _ ⟨tb, 0, none⟩ (by simp; omega), World.frozen?_alloc_old _ _ ⟨tb, 0, none⟩ (Nat.ne_of_lt htl)]; exact hf)
  go_enter Tryz.func153, Tryz.ntmps153
  go_wp2
  refine wp_loop_rounds 1 ?_
  rw [rounds_succ]
  go_wp2
  go_ret
  exact ⟨rfl, (((Kept.refl (fun k => k = tb) w).setCell (p := ⟨tb, 0, none⟩) rfl _).alloc _).alloc _⟩
theorem as_nil (t : Value) (w : World) :
    Calls Tryz.prog 111 #[.nilIface, t] w fun e w' => e = .returned (.bool false) ∧ w' = w := by
  go_enter Tryz.func111, Tryz.ntmps111
  go_wp2
  go_ret
  exact ⟨rfl, rfl⟩
set_option maxRecDepth 100000 in
set_option maxHeartbeats 4000000 in
theorem as_hit (x : ByteArray) (tb : Nat) (old : Value) (w : World) (hg : w.cell? ⟨0, 0, none⟩ = some (.iface 193 (.agg #[.pointer (some ⟨9, 74, none⟩)]))) (ht : w.cell? ⟨tb, 0, none⟩ = some old) (hf : w.frozen? ⟨tb, 0, none⟩ = false) :
    Calls Tryz.prog 111 #[rfv x, .iface 141 (.pointer (some ⟨tb, 0, none⟩))] w fun ev w' => ev = .returned (.bool true) ∧ Kept (fun k => k = tb) w w' := by
  have h6 := @run_callFunc_extern Tryz.prog 150 _ (fun args => ReflectliteValue.unpack (args.getD 0 (.tuple #[]))) Tryz.func150 (by kernel_rfl) (by kernel_rfl) (by kernel_rfl) (by kernel_rfl)
  have h7 := @run_callFunc_extern Tryz.prog 151 _ (ReflectliteValue.methodAny (ReflectliteValue.valueError "reflectlite.Value.Type" 0) (fun t _ _ _ => ReflectliteType.toType t)) Tryz.func151 (by kernel_rfl) (by kernel_rfl) (by kernel_rfl) (by kernel_rfl)
  have h8 := @run_callFunc_extern Tryz.prog 152 _ (ReflectliteValue.method (ReflectliteValue.valueError "reflectlite.Value.IsNil" 0) ReflectliteValue.isNil) Tryz.func152 (by kernel_rfl) (by kernel_rfl) (by kernel_rfl) (by kernel_rfl)
  have h27 := @run_callFunc_extern Tryz.prog 247 _ (ReflectliteType.abiMethod fun t => do pure (.int .u8 (← Rtype.kind t))) Tryz.func247 (by kernel_rfl) (by kernel_rfl) (by kernel_rfl) (by kernel_rfl)
  have h37 := @run_callFunc_extern Tryz.prog 258 _ (ReflectliteType.method ReflectliteType.elem) Tryz.func258 (by kernel_rfl) (by kernel_rfl) (by kernel_rfl) (by kernel_rfl)
  have h38 := @run_callFunc_extern Tryz.prog 259 _ (ReflectliteType.relation "Implements" ReflectliteType.implements_) Tryz.func259 (by kernel_rfl) (by kernel_rfl) (by kernel_rfl) (by kernel_rfl)
  have f6 := valueOfP
  have f7 := typeP
  have mK := methodKind
  have mE := methodElem
  have mI := methodImplements
  have k27 := kindP
  have k25 := kindS
  have e27 := elemP
  have i25 := implementsS
  have htl := lt_of_cell ht
  have hgl := lt_of_cell hg
  have htl2 : tb < w.heap.size := htl
  have hgl2 : 0 < w.heap.size := hgl
  have n8 := isNilP ⟨w.heap.size, 0, none⟩ ⟨tb, 0, none⟩ ((w.alloc (.cells #[.pointer (some ⟨tb, 0, none⟩)] 141)).alloc (.cells #[.pointer (some ⟨9, 141, none⟩), .pointer (some ⟨w.heap.size, 0, none⟩), .int .u64 150] 175)) (by simp)
  have hg2 : ((w.alloc (.cells #[.pointer (some ⟨tb, 0, none⟩)] 141)).alloc (.cells #[.pointer (some ⟨9, 141, none⟩), .pointer (some ⟨w.heap.size, 0, none⟩), .int .u64 150] 175)).cell? ⟨0, 0, none⟩ = some (.iface 193 (.agg #[.pointer (some ⟨9, 74, none⟩)])) := by
    rw [World.cell?_alloc_lt _ _ ⟨0, 0, none⟩ (by simp <;> omega), World.cell?_alloc_lt _ _ ⟨0, 0, none⟩ hgl2]; exact hg
  have HAS : Hid _ := asIn x tb w.heap.size old ((w.alloc (.cells #[.pointer (some ⟨tb, 0, none⟩)] 141)).alloc (.cells #[.pointer (some ⟨9, 141, none⟩), .pointer (some ⟨w.heap.size, 0, none⟩), .int .u64 150] 175)) (by simp)
    (by rw [World.cell?_alloc_lt _ _ ⟨tb, 0, none⟩ (by simp; omega), World.cell?_alloc_lt _ _ ⟨tb, 0, none⟩ htl2]; exact ht)
    (by rw [World.frozen?_alloc_old _ _ ⟨tb, 0, none⟩ (by simp; omega), World.frozen?_alloc_old _ _ ⟨tb, 0, none⟩ (Nat.ne_of_lt htl2)]; exact hf) (by simp <;> omega) (by simp; omega)
  clear ht hf hg htl hgl
  go_enter Tryz.func111, Tryz.ntmps111
  go_wp2_with (go_at_call 153; refine Calls.mono HAS.out ?_; rintro e w9 ⟨rfl, hk9⟩; have HK9 : Hid (Kept (fun k => k = tb) w w9) := (((Kept.refl (fun k => k = tb) w).alloc _).alloc _).trans hk9; clear hk9)
  go_ret
  exact ⟨rfl, HK9.out⟩
set_option maxRecDepth 100000 in
set_option maxHeartbeats 2000000 in
theorem iRefusal (x : ByteArray) (w : World) (hg : w.cell? ⟨0, 0, none⟩ = some (.iface 193 (.agg #[.pointer (some ⟨9, 74, none⟩)]))) :
    Calls Tryz.prog 42 #[rfv x] w fun e w' => e = .returned (.bool true) ∧ Below w.heap.size w w' := by
  have b0 : Below w.heap.size w (w.alloc (.cells #[.string ⟨#[]⟩] 133)) := (Below.refl _ _).alloc (Nat.le_refl _) _
  have HB : Hid (Below w.heap.size w (w.alloc (.cells #[.string ⟨#[]⟩] 133))) := b0
  have HAS : Hid _ := as_hit x w.heap.size (.string ⟨#[]⟩) (w.alloc (.cells #[.string ⟨#[]⟩] 133)) (by rw [b0.cell (p := ⟨_, 0, none⟩) (lt_of_cell hg)]; exact hg) (by simp) (by simp)
  clear b0 hg
  go_enter Tryz.func42, Tryz.ntmps42
  go_wp2_with fail
  refine Calls.mono HAS.out ?_
  rintro e w1 ⟨rfl, hk⟩
  have HB1 : Hid (Below w.heap.size w w1) := HB.out.trans (hk.below (fun b hb => by omega) HB.out.size)
  clear hk
  go_wp2
  go_ret
  exact ⟨rfl, HB1.out⟩
set_option maxRecDepth 100000 in
theorem iRefusal0 (w : World) :
    Calls Tryz.prog 42 #[.nilIface] w fun e w' => e = .returned (.bool false) ∧ Below w.heap.size w w' := by
  have HB : Hid (Below w.heap.size w (w.alloc (.cells #[.string ⟨#[]⟩] 133))) := (Below.refl _ _).alloc (Nat.le_refl _) _
  go_enter Tryz.func42, Tryz.ntmps42
  go_wp2_with fail
  refine (as_nil _ _).mono ?_
  rintro e w1 ⟨rfl, hw⟩
  have hw' := hw.symm
  clear hw
  subst hw'
  go_wp2
  go_ret
  exact ⟨rfl, HB.out⟩
end Go.Proofs.YtmfpbhjmnadpkaaGreatDoor.Zs6

/- The program's SaveMachine. -/
namespace Go.Proofs.YtmfpbhjmnadpkaaGreatDoor.Zs7
open Go.RowKit
open Nd0 (Kept lt_of_cell)
open Ss0 (bs)
open Mm0 (Mc Mb Mr Mok mval)
open Tk0 (TabK)
open Zs0 Zs5 Zs6 Zt0
set_option linter.unusedVariables false

/-- The variables that errors.As wants besides. -/
structure TabE (w : World) : Prop where
  tab : TabZ w
  ety : w.cell? ⟨0, 0, none⟩ = some (.iface 193 (.agg #[.pointer (some ⟨9, 74, none⟩)]))
theorem TabE.below {w w' : World} (h : TabE w) (k : Below w.heap.size w w') : TabE w' :=
  ⟨h.tab.below k, by rw [k.cell (p := ⟨_, 0, none⟩) (lt_of_cell h.ety)]; exact h.ety⟩
/-- What SaveMachine comes to. -/
def SvP (m : Mc) (e : Ending) : Prop := e = .returned (.tuple #[.string (svS m), .bool (svB m)])
theorem SvP.yes {m : Mc} (h : svB m = true) {S : ByteArray} (hS : S = bs (savT m)) : SvP m (.returned (.tuple #[.string S, .bool true])) := by
  unfold SvP svS
  rw [h, if_pos rfl, hS]
theorem SvP.no {m : Mc} (h : svB m = false) : SvP m (.returned (.tuple #[.string ⟨#[]⟩, .bool false])) := by
  unfold SvP svS
  rw [h, if_neg (by simp)]

set_option maxRecDepth 100000 in
set_option maxHeartbeats 4000000 in
theorem iSave (m : Mc) (ra va ma : Option Addr) (rc vc mc : Nat) (w : World) (hR : Mr w m ra va ma) (hS : m.S.size ≤ 1048576) (hK : ∀ x ∈ m.memo, x.k.size ≤ 1048576) (hT : TabE w) :
    Calls Tryz.prog 13 #[mval m ra va ma rc vc mc] w fun e w' => SvP m e ∧ Below w.heap.size w w' := by
  obtain ⟨X0, hX0⟩ : ∃ X, X = w.alloc (.cells #[.slice ra m.row.length rc, .int .i64 m.N, .string m.S, .int .i64 m.room, .slice va m.vals.length vc, .int .i64 m.ret, .bool m.over, .int .i64 m.steps, .int .i64 m.looks, .int .i64 m.hits, .slice ma m.memo.length mc] 30) := ⟨_, rfl⟩
  have b0 : Below w.heap.size w X0 := by rw [hX0]; exact (Below.refl _ _).alloc (Nat.le_refl _) _
  have HB0 : Hid (Below w.heap.size w X0) := b0
  have HM0 : Hid (Mb X0 w.heap.size m ra va ma rc vc mc) := by rw [hX0]; exact Mb.made _ _ _ _ _ _ _ _ _
  have hE : w.alloc (.cells #[.slice ra m.row.length rc, .int .i64 m.N, .string m.S, .int .i64 m.room, .slice va m.vals.length vc, .int .i64 m.ret, .bool m.over, .int .i64 m.steps, .int .i64 m.looks, .int .i64 m.hits, .slice ma m.memo.length mc] 30) = X0 := hX0.symm
  have HT : Hid (TabE w) := hT
  have HST : Hid _ := iSaved m ra va ma rc vc mc X0 (hR.below b0) hS hK (hT.tab.below b0)
  clear hX0 b0 hT hR hS hK
  go_enter Tryz.func13, Tryz.ntmps13
  go_upto_region 1 with fail
  clear hE
  obtain ⟨m0, m1, m2, m3, m4, m5, m6, m7, m8, m9, m10⟩ := HM0.out
  go_wp2_with fail
  clear m0 m1 m2 m3 m4 m5 m6 m7 m8 m9 m10
  refine Calls.mono HST.out ?_
  rintro e w1 ⟨hst, hb⟩
  have HB1 : Hid (Below w.heap.size w w1) := HB0.out.trans (hb.mono HB0.out.size)
  clear hb
  rcases hst with ⟨hv, rfl⟩ | ⟨hv, x, rfl⟩
  · have HV : Hid (svB m = true) := hv
    obtain ⟨R, hR⟩ : ∃ R, R = bs (savT m) := ⟨_, rfl⟩
    have HR : Hid (R = bs (savT m)) := hR
    rw [← hR]
    clear hR hv
    go_wp2_with fail
    refine (iRefusal0 _).mono ?_
    rintro e w2 ⟨rfl, hb⟩
    have HB2 : Hid (Below w.heap.size w w2) := HB1.out.trans (hb.mono HB1.out.size)
    clear hb
    go_wp2
    go_ret2
    exact ⟨SvP.yes HV.out HR.out, HB2.out⟩
  · have HV : Hid (svB m = false) := hv
    clear hv
    go_wp2_with fail
    refine (iRefusal x _ (HT.out.below HB1.out).ety).mono ?_
    rintro e w2 ⟨rfl, hb⟩
    have HB2 : Hid (Below w.heap.size w w2) := HB1.out.trans (hb.mono HB1.out.size)
    clear hb
    go_wp2
    go_ret2
    exact ⟨SvP.no HV.out, HB2.out⟩
end Go.Proofs.YtmfpbhjmnadpkaaGreatDoor.Zs7

/- The variables as the row lays them, errors.errorType among them. -/
namespace Go.Proofs.YtmfpbhjmnadpkaaGreatDoor.Zt1
open Go.RowKit
open Zs7 (TabE)
open Zt0 (tabz_of_laid)
set_option linter.unusedVariables false

theorem split {P : Program} {laid : List (String × DataW Unit)} {w : World} (h : laidMetH P laid w) : laidMet P (laid.filter fun x => x.2.handleName?.isNone) w ∧ handlesMet P (laid.filter fun x => x.2.handleName?.isSome) w := by
  unfold laidMetH at h
  split at h
  · rename_i e
    refine ⟨?_, by rw [e]; intro x hx; cases hx⟩
    have : (laid.filter fun x => x.2.handleName?.isNone) = laid := by
      rw [List.filter_eq_self]
      intro x hx
      cases hn : x.2.handleName? with
      | none => rfl
      | some s =>
        have : x ∈ laid.filter fun x => x.2.handleName?.isSome := List.mem_filter.2 ⟨hx, by rw [hn]; rfl⟩
        rw [e] at this
        cases this
    rw [this]
    exact h
  · rename_i hd tl e
    rw [e]
    exact h
theorem et : Tryz.prog.globalNamed "errors.errorType" = some 0 := by kernel_rfl
theorem rt : (Tryz.prog.cutTypes.find? (·.1 == "internal/reflectlite.rtype")).map (·.2) = some 193 := by kernel_rfl
theorem oneRow : ((List.range 275).filter fun t => Tryz.prog.rowNamed t [101, 114, 114, 111, 114]) = [74] := by kernel_rfl
theorem size : Tryz.prog.types.size = 275 := by kernel_rfl
theorem tabe_of_laid {W : World} {laid : List (String × DataW Unit)} (hH : laidMetH Tryz.prog laid W)
    (h1 : ("internal/strconv.uint64pow10", Rows.laid_internal_strconv_uint64pow10) ∈ laid) (h2 : ("strconv.ErrSyntax", Rows.laid_strconv_ErrSyntax) ∈ laid) (h3 : ("strconv.ErrRange", Rows.laid_strconv_ErrRange) ∈ laid) (h4 : W.ShapedOpen Tryz.prog) (h5 : ("errors.errorType", Rows.laid_errors_errorType) ∈ laid) : TabE W := by
  obtain ⟨hP, hh⟩ := split hH
  refine ⟨tabz_of_laid hP (List.mem_filter.2 ⟨h1, by kernel_rfl⟩) (List.mem_filter.2 ⟨h2, by kernel_rfl⟩) (List.mem_filter.2 ⟨h3, by kernel_rfl⟩) h4, ?_⟩
  have h6 := hh _ (List.mem_filter.2 ⟨h5, by kernel_rfl⟩)
  obtain ⟨name, u, ty, e1, e2, e3, e4, e5⟩ := h6
  have en : name = [101, 114, 114, 111, 114] := (Option.some.inj e1).symm
  subst en
  obtain rfl := Option.some.inj (rt.symm.trans e2)
  have hm : ty ∈ (List.range 275).filter fun t => Tryz.prog.rowNamed t [101, 114, 114, 111, 114] := List.mem_filter.2 ⟨List.mem_range.2 (by rw [← size]; exact e3), e4⟩
  rw [oneRow] at hm
  obtain rfl := List.mem_singleton.1 hm
  have hT : typeHandle Tryz.prog 74 = .pointer (some ⟨9, 74, none⟩) := by kernel_rfl
  rw [hT] at e5
  simpa using World.var?_cell et e5 0
end Go.Proofs.YtmfpbhjmnadpkaaGreatDoor.Zt1

/- A world that lays what a row lists, a handle among it. -/
namespace Go.Proofs.YtmfpbhjmnadpkaaGreatDoor.Zt2
set_option linter.unusedVariables false

/-- The settled world, errors.errorType laid. -/
noncomputable def w0h (os : Os) : World :=
  let w0 := World.holding Tryz.prog os ⟨#[], #[], []⟩
  { w0 with heap := w0.heap.modify 0 fun
      | .cells _ t frozen => .cells #[.iface 193 (.agg #[.pointer (some ⟨9, 74, none⟩)])] t frozen
      | o => o }
/-- All that a row lists, laid. -/
noncomputable def laidW (os : Os) (laid : List (String × DataW Unit)) : World := (w0h os).layVars Tryz.prog (laid.filter fun x => x.2.handleName?.isNone)
theorem laidW_os (os : Os) (laid : List (String × DataW Unit)) : (laidW os laid).os = os := (World.layVars_os _ _ _).trans rfl
theorem laidW_met {os : Os} {laid : List (String × DataW Unit)} (args : Array Value)
    (hf : (w0h os).layFits Tryz.prog (laid.filter fun x => x.2.handleName?.isNone) [] = true)
    (hi : (w0h os).layIfaces Tryz.prog (laid.filter fun x => x.2.handleName?.isNone) (laidW os laid) = true) :
    laidMet Tryz.prog (laid.filter fun x => x.2.handleName?.isNone) ((laidW os laid).forCall (fun _ _ => 0) ⟨#[], args, []⟩).memory := by
  obtain ⟨l, hl⟩ : ∃ l, l = laid.filter fun x => x.2.handleName?.isNone := ⟨_, rfl⟩
  have e1 : (l.filter fun x => (l.map (·.1)).contains x.1) = l := List.filter_eq_self.2 fun x hx => List.contains_iff_mem.2 (List.mem_map.2 ⟨x, hx, rfl⟩)
  have e2 : (l.filter fun x => !(l.map (·.1)).contains x.1) = [] := List.filter_eq_nil_iff.2 fun x hx => by rw [List.contains_iff_mem.2 (List.mem_map.2 ⟨x, hx, rfl⟩)]; simp
  rw [← hl] at hf hi ⊢
  have h : laidMet Tryz.prog l (laidW os laid) := laidMet_layVars (w0 := w0h os) (l.map (·.1)) [] (by rw [e1]; unfold laidW; rw [← hl]) (by rw [e1]; exact hf) (by rw [e1]; exact hi) (by rw [e2]; exact LaidIn.none)
  exact h.of_heap (by simp [World.memory, World.forCall, Input.heap])
theorem fits (os : Os) : (w0h os).layFits Tryz.prog (Rows.fnExactSaveMachineRow.laid.filter fun x => x.2.handleName?.isNone) [] = true := by kernel_rfl
theorem ifaces (os : Os) : (w0h os).layIfaces Tryz.prog (Rows.fnExactSaveMachineRow.laid.filter fun x => x.2.handleName?.isNone) (laidW os Rows.fnExactSaveMachineRow.laid) = true := by kernel_rfl
theorem met (os : Os) (args : Array Value) : laidMetH Tryz.prog Rows.fnExactSaveMachineRow.laid ((laidW os Rows.fnExactSaveMachineRow.laid).forCall (fun _ _ => 0) ⟨#[], args, []⟩).memory :=
  laidMetH_of_parts3 (fuel := 8) (laidW_met args (fits os) (ifaces os)) (by kernel_rfl) (by kernel_rfl)
theorem shape (os : Os) (args : Array Value) : ((laidW os Rows.fnExactSaveMachineRow.laid).forCall (fun _ _ => 0) ⟨#[], args, []⟩).Shaped Tryz.prog := World.shaped_of_ZipB (by kernel_rfl) (by kernel_rfl)
end Go.Proofs.YtmfpbhjmnadpkaaGreatDoor.Zt2
