/- A world that lays what a row lists, a handle among it. -/
import Derived.Test.YtmpbedfiamlbpaaGreatDoorRows
import Derived.Lay
import Derived.LaidHandle
import Derived.Stop.Joined
namespace Go.Proofs.YtmpbedfiamlbpaaGreatDoor.Zt2
set_option linter.unusedVariables false

/-- The settled world, errors.errorType laid. -/
noncomputable def w0h (os : Os) : World :=
  let w0 := World.holding Tryz.prog os ⟨#[], #[], []⟩
  { w0 with heap := w0.heap.modify 0 fun
      | .cells _ t frozen => .cells #[.iface 193 (.agg #[.pointer (some ⟨9, 74, none⟩)])] t frozen
      | o => o }
/-- All that a row lists, laid. -/
noncomputable def laidW (os : Os) (laid : List (String × DataW Unit)) : World := (w0h os).layVars Tryz.prog (laid.filter fun x => x.2.handleName?.isNone)
theorem laidW_os (os : Os) (laid : List (String × DataW Unit)) : (laidW os laid).os = os := (World.layVars_os _ _ _).trans rfl
theorem laidW_met {os : Os} {laid : List (String × DataW Unit)} (args : Array Value)
    (hf : (w0h os).layFits Tryz.prog (laid.filter fun x => x.2.handleName?.isNone) [] = true)
    (hi : (w0h os).layIfaces Tryz.prog (laid.filter fun x => x.2.handleName?.isNone) (laidW os laid) = true) :
    laidMet Tryz.prog (laid.filter fun x => x.2.handleName?.isNone) ((laidW os laid).forCall (fun _ _ => 0) ⟨#[], args, []⟩).memory := by
  obtain ⟨l, hl⟩ : ∃ l, l = laid.filter fun x => x.2.handleName?.isNone := ⟨_, rfl⟩
  have e1 : (l.filter fun x => (l.map (·.1)).contains x.1) = l := List.filter_eq_self.2 fun x hx => List.contains_iff_mem.2 (List.mem_map.2 ⟨x, hx, rfl⟩)
  have e2 : (l.filter fun x => !(l.map (·.1)).contains x.1) = [] := List.filter_eq_nil_iff.2 fun x hx => by rw [List.contains_iff_mem.2 (List.mem_map.2 ⟨x, hx, rfl⟩)]; simp
  rw [← hl] at hf hi ⊢
  have h : laidMet Tryz.prog l (laidW os laid) := laidMet_layVars (w0 := w0h os) (l.map (·.1)) [] (by rw [e1]; unfold laidW; rw [← hl]) (by rw [e1]; exact hf) (by rw [e1]; exact hi) (by rw [e2]; exact LaidIn.none)
  exact h.of_heap (by simp [World.memory, World.forCall, Input.heap])
theorem fits (os : Os) : (w0h os).layFits Tryz.prog (Rows.fnExactSaveMachineRow.laid.filter fun x => x.2.handleName?.isNone) [] = true := by kernel_rfl
theorem ifaces (os : Os) : (w0h os).layIfaces Tryz.prog (Rows.fnExactSaveMachineRow.laid.filter fun x => x.2.handleName?.isNone) (laidW os Rows.fnExactSaveMachineRow.laid) = true := by kernel_rfl
theorem met (os : Os) (args : Array Value) : laidMetH Tryz.prog Rows.fnExactSaveMachineRow.laid ((laidW os Rows.fnExactSaveMachineRow.laid).forCall (fun _ _ => 0) ⟨#[], args, []⟩).memory :=
  laidMetH_of_parts3 (fuel := 8) (laidW_met args (fits os) (ifaces os)) (by kernel_rfl) (by kernel_rfl)
theorem shape (os : Os) (args : Array Value) : ((laidW os Rows.fnExactSaveMachineRow.laid).forCall (fun _ _ => 0) ⟨#[], args, []⟩).Shaped Tryz.prog := World.shaped_of_ZipB (by kernel_rfl) (by kernel_rfl)
end Go.Proofs.YtmpbedfiamlbpaaGreatDoor.Zt2
