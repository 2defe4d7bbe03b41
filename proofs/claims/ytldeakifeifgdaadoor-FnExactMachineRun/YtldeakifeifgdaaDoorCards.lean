/-
  DERIVED. GIVEN WITH THE SEED: THE CARDS: each row of YtldeakifeifgdaaDoorRows.lean that lists a variable, with what it lists TIED to the program's text (the seventh form; the later family's looks); each row that meets fmt, with fmt's text TOLD by the authors' own Lean function (tested against real Go, not proved from fmt's source: count such statements apart). THE CARD IS WHAT COUNTS. Prove the row's statement (the work); the ties are given (YtldeakifeifgdaaDoorTie.lean); close each card by the builder's one call (the guide's Derived/Test/ToyasCard.lean, 'card_holds'). Laid BY PROGRAM, IN A SANDBOX (cutbox-door.mjs). By AI agents, Wed Nov 11 2026. No macro, syntax, notation, axiom, sorry.
-/
import Derived.Test.YtldeakifeifgdaaDoorRows
import GoSem.ClaimSeven
namespace Go.Proofs.YtldeakifeifgdaaDoor
namespace Rows

/-- THE TIED CARD OF 'laws.FnMachine'. -/
def fnMachineCard : Claim7 := { stood := { row := fnMachineRow, standIns := [], harness := (true, "19670ddad77d92ae29eaa686c7654b8ed21d1cfdc689c33667998c1ef3cd1ed2"), looks := false }, kinds := [], alts := [], laidByText := true, laidKinds := [.data, .data, .data], laidTests := true, laidLooks := .later }
def FnMachineCardSaid : Prop := Claim7.holds Tryd.pinned (.plain (OpenSpec.ofChange fnMachineSpec)) fnMachineCard

/-- THE TIED CARD OF 'laws.FnExactMachineStep'. -/
def fnExactMachineStepCard : Claim7 := { stood := { row := fnExactMachineStepRow, standIns := [], harness := (true, "19670ddad77d92ae29eaa686c7654b8ed21d1cfdc689c33667998c1ef3cd1ed2"), looks := false }, kinds := [], alts := [], laidByText := true, laidKinds := [.data, .data, .data], laidTests := true, laidLooks := .later }
def FnExactMachineStepCardSaid : Prop := Claim7.holds Tryd.pinned (.plain (OpenSpec.ofChange fnExactMachineStepSpec)) fnExactMachineStepCard

/-- THE TIED CARD OF 'laws.FnExactMachineRun'. -/
def fnExactMachineRunCard : Claim7 := { stood := { row := fnExactMachineRunRow, standIns := [], harness := (true, "19670ddad77d92ae29eaa686c7654b8ed21d1cfdc689c33667998c1ef3cd1ed2"), looks := false }, kinds := [], alts := [], laidByText := true, laidKinds := [.data, .data, .data], laidTests := true, laidLooks := .later }
def FnExactMachineRunCardSaid : Prop := Claim7.holds Tryd.pinned (.plain (OpenSpec.ofChange fnExactMachineRunSpec)) fnExactMachineRunCard

/-- THE SECOND FORM's CARD OF 'laws.FnMachine'. -/
def fnMachineUptoCard : Claim7 := { stood := { row := fnMachineUptoRow, standIns := [], harness := (true, "19670ddad77d92ae29eaa686c7654b8ed21d1cfdc689c33667998c1ef3cd1ed2"), looks := false }, kinds := [], alts := [], laidByText := true, laidKinds := [.data, .data, .data], laidTests := true, laidLooks := .later }
def FnMachineUptoCardSaid : Prop := Claim7.holds Tryd.pinned (.plain (OpenSpec.upto fnMachineSpec)) fnMachineUptoCard

/-- THE SECOND FORM's CARD OF 'laws.FnExactMachineStep'. -/
def fnExactMachineStepUptoCard : Claim7 := { stood := { row := fnExactMachineStepUptoRow, standIns := [], harness := (true, "19670ddad77d92ae29eaa686c7654b8ed21d1cfdc689c33667998c1ef3cd1ed2"), looks := false }, kinds := [], alts := [], laidByText := true, laidKinds := [.data, .data, .data], laidTests := true, laidLooks := .later }
def FnExactMachineStepUptoCardSaid : Prop := Claim7.holds Tryd.pinned (.plain (OpenSpec.upto fnExactMachineStepSpec)) fnExactMachineStepUptoCard

/-- THE SECOND FORM's CARD OF 'laws.FnExactMachineRun'. -/
def fnExactMachineRunUptoCard : Claim7 := { stood := { row := fnExactMachineRunUptoRow, standIns := [], harness := (true, "19670ddad77d92ae29eaa686c7654b8ed21d1cfdc689c33667998c1ef3cd1ed2"), looks := false }, kinds := [], alts := [], laidByText := true, laidKinds := [.data, .data, .data], laidTests := true, laidLooks := .later }
def FnExactMachineRunUptoCardSaid : Prop := Claim7.holds Tryd.pinned (.plain (OpenSpec.upto fnExactMachineRunSpec)) fnExactMachineRunUptoCard
end Rows
end Go.Proofs.YtldeakifeifgdaaDoor
