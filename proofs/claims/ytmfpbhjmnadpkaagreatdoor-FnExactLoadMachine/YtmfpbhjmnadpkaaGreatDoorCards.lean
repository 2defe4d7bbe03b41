/-
  DERIVED. GIVEN WITH THE SEED: THE CARDS: each row of YtmfpbhjmnadpkaaGreatDoorRows.lean that lists a variable, with what it lists TIED to the program's text (the seventh form; the later family's looks); each row that meets fmt, with fmt's text TOLD by the authors' own Lean function (tested against real Go, not proved from fmt's source: count such statements apart). THE CARD IS WHAT COUNTS. Prove the row's statement (the work); the ties are given (YtmfpbhjmnadpkaaGreatDoorTie.lean); close each card by the builder's one call (the guide's Derived/Test/ToyasCard.lean, 'card_holds'). Laid BY PROGRAM, IN A SANDBOX (cutbox-door.mjs). By AI agents, Wed Nov 11 2026. No macro, syntax, notation, axiom, sorry.
-/
import Derived.Test.YtmfpbhjmnadpkaaGreatDoorRows
import GoSem.ClaimSeven
namespace Go.Proofs.YtmfpbhjmnadpkaaGreatDoor
namespace Rows

/-- THE TIED CARD OF 'laws.FnSteps'. -/
def fnStepsCard : Claim7 := { stood := { row := fnStepsRow, standIns := [], harness := (true, "2f5c71598a1c6f8b5349cbb457a0e8f446ac60e705532263969901ac22da1032"), looks := true }, kinds := [], alts := [], laidByText := true, laidKinds := [.data, .data, .data, .data, .handle, .sentinel, .sentinel, .pinned], laidTests := true, laidLooks := .later }
def FnStepsCardSaid : Prop := Claim7.holds Tryz.pinned (.plain (OpenSpec.ofChange fnStepsSpec)) fnStepsCard

/-- THE TIED CARD OF 'laws.FnSave'. -/
def fnSaveCard : Claim7 := { stood := { row := fnSaveRow, standIns := [], harness := (true, "2f5c71598a1c6f8b5349cbb457a0e8f446ac60e705532263969901ac22da1032"), looks := true }, kinds := [], alts := [], laidByText := true, laidKinds := [.data, .data, .data, .data, .handle, .sentinel, .sentinel, .pinned], laidTests := true, laidLooks := .later }
def FnSaveCardSaid : Prop := Claim7.holds Tryz.pinned (.plain (OpenSpec.ofChange fnSaveSpec)) fnSaveCard

/-- THE TIED CARD OF 'laws.FnLoad'. -/
def fnLoadCard : Claim7 := { stood := { row := fnLoadRow, standIns := [], harness := (true, "2f5c71598a1c6f8b5349cbb457a0e8f446ac60e705532263969901ac22da1032"), looks := true }, kinds := [], alts := [], laidByText := true, laidKinds := [.data, .data, .data, .data, .handle, .sentinel, .sentinel, .pinned], laidTests := true, laidLooks := .later }
def FnLoadCardSaid : Prop := Claim7.holds Tryz.pinned (.plain (OpenSpec.ofChange fnLoadSpec)) fnLoadCard

/-- THE TIED CARD OF 'laws.FnExactSaveMachine'. -/
def fnExactSaveMachineCard : Claim7 := { stood := { row := fnExactSaveMachineRow, standIns := [], harness := (true, "2f5c71598a1c6f8b5349cbb457a0e8f446ac60e705532263969901ac22da1032"), looks := true }, kinds := [], alts := [], laidByText := true, laidKinds := [.data, .data, .data, .data, .handle, .sentinel, .sentinel, .pinned], laidTests := true, laidLooks := .later }
def FnExactSaveMachineCardSaid : Prop := Claim7.holds Tryz.pinned (.plain (OpenSpec.ofChange fnExactSaveMachineSpec)) fnExactSaveMachineCard

/-- THE TIED CARD OF 'laws.FnExactLoadMachine'. -/
def fnExactLoadMachineCard : Claim7 := { stood := { row := fnExactLoadMachineRow, standIns := [], harness := (true, "2f5c71598a1c6f8b5349cbb457a0e8f446ac60e705532263969901ac22da1032"), looks := true }, kinds := [], alts := [], laidByText := true, laidKinds := [.data, .data, .data, .data, .handle, .sentinel, .sentinel, .pinned], laidTests := true, laidLooks := .later }
def FnExactLoadMachineCardSaid : Prop := Claim7.holds Tryz.pinned (.plain (OpenSpec.ofChange fnExactLoadMachineSpec)) fnExactLoadMachineCard

/-- THE SECOND FORM's CARD OF 'laws.FnSteps'. -/
def fnStepsUptoCard : Claim7 := { stood := { row := fnStepsUptoRow, standIns := [], harness := (true, "2f5c71598a1c6f8b5349cbb457a0e8f446ac60e705532263969901ac22da1032"), looks := true }, kinds := [], alts := [], laidByText := true, laidKinds := [.data, .data, .data, .data, .handle, .sentinel, .sentinel, .pinned], laidTests := true, laidLooks := .later }
def FnStepsUptoCardSaid : Prop := Claim7.holds Tryz.pinned (.plain (OpenSpec.upto fnStepsSpec)) fnStepsUptoCard

/-- THE SECOND FORM's CARD OF 'laws.FnSave'. -/
def fnSaveUptoCard : Claim7 := { stood := { row := fnSaveUptoRow, standIns := [], harness := (true, "2f5c71598a1c6f8b5349cbb457a0e8f446ac60e705532263969901ac22da1032"), looks := true }, kinds := [], alts := [], laidByText := true, laidKinds := [.data, .data, .data, .data, .handle, .sentinel, .sentinel, .pinned], laidTests := true, laidLooks := .later }
def FnSaveUptoCardSaid : Prop := Claim7.holds Tryz.pinned (.plain (OpenSpec.upto fnSaveSpec)) fnSaveUptoCard

/-- THE SECOND FORM's CARD OF 'laws.FnLoad'. -/
def fnLoadUptoCard : Claim7 := { stood := { row := fnLoadUptoRow, standIns := [], harness := (true, "2f5c71598a1c6f8b5349cbb457a0e8f446ac60e705532263969901ac22da1032"), looks := true }, kinds := [], alts := [], laidByText := true, laidKinds := [.data, .data, .data, .data, .handle, .sentinel, .sentinel, .pinned], laidTests := true, laidLooks := .later }
def FnLoadUptoCardSaid : Prop := Claim7.holds Tryz.pinned (.plain (OpenSpec.upto fnLoadSpec)) fnLoadUptoCard

/-- THE SECOND FORM's CARD OF 'laws.FnExactSaveMachine'. -/
def fnExactSaveMachineUptoCard : Claim7 := { stood := { row := fnExactSaveMachineUptoRow, standIns := [], harness := (true, "2f5c71598a1c6f8b5349cbb457a0e8f446ac60e705532263969901ac22da1032"), looks := true }, kinds := [], alts := [], laidByText := true, laidKinds := [.data, .data, .data, .data, .handle, .sentinel, .sentinel, .pinned], laidTests := true, laidLooks := .later }
def FnExactSaveMachineUptoCardSaid : Prop := Claim7.holds Tryz.pinned (.plain (OpenSpec.upto fnExactSaveMachineSpec)) fnExactSaveMachineUptoCard

/-- THE SECOND FORM's CARD OF 'laws.FnExactLoadMachine'. -/
def fnExactLoadMachineUptoCard : Claim7 := { stood := { row := fnExactLoadMachineUptoRow, standIns := [], harness := (true, "2f5c71598a1c6f8b5349cbb457a0e8f446ac60e705532263969901ac22da1032"), looks := true }, kinds := [], alts := [], laidByText := true, laidKinds := [.data, .data, .data, .data, .handle, .sentinel, .sentinel, .pinned], laidTests := true, laidLooks := .later }
def FnExactLoadMachineUptoCardSaid : Prop := Claim7.holds Tryz.pinned (.plain (OpenSpec.upto fnExactLoadMachineSpec)) fnExactLoadMachineUptoCard
end Rows
end Go.Proofs.YtmfpbhjmnadpkaaGreatDoor
