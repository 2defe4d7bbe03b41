/-
  DERIVED. GIVEN WITH THE SEED: THE CARDS: each row of YtkcbonocbdfbcaaDoorRows.lean that lists a variable, with what it lists TIED to the program's text (the seventh form; the later family's looks); each row that meets fmt, with fmt's text TOLD by the authors' own Lean function (tested against real Go, not proved from fmt's source: count such statements apart). THE CARD IS WHAT COUNTS. Prove the row's statement (the work); the ties are given (YtkcbonocbdfbcaaDoorTie.lean); close each card by the builder's one call (the guide's Derived/Test/ToyasCard.lean, 'card_holds'). Laid BY PROGRAM, IN A SANDBOX (cutbox-door.mjs). By AI agents, Wed Nov 11 2026. No macro, syntax, notation, axiom, sorry.
-/
import Derived.Test.YtkcbonocbdfbcaaDoorRows
import GoSem.ClaimSeven
namespace Go.Proofs.YtkcbonocbdfbcaaDoor
namespace Rows

/-- THE TIED CARD OF 'laws.FnHalves'. -/
def fnHalvesCard : Claim7 := { stood := { row := fnHalvesRow, standIns := [], harness := (true, "2ab6bee29816cffe8246407bede7eaeab94e75fe73e342d8c1b031442c760338"), looks := false }, kinds := [], alts := [], laidByText := true, laidKinds := [.data, .data, .data], laidTests := true, laidLooks := .later }
def FnHalvesCardSaid : Prop := Claim7.holds Tryd.pinned (.plain (OpenSpec.ofChange fnHalvesSpec)) fnHalvesCard

/-- THE TIED CARD OF 'laws.FnLogic'. -/
def fnLogicCard : Claim7 := { stood := { row := fnLogicRow, standIns := [], harness := (true, "2ab6bee29816cffe8246407bede7eaeab94e75fe73e342d8c1b031442c760338"), looks := false }, kinds := [], alts := [], laidByText := true, laidKinds := [.data, .data, .data], laidTests := true, laidLooks := .later }
def FnLogicCardSaid : Prop := Claim7.holds Tryd.pinned (.plain (OpenSpec.ofChange fnLogicSpec)) fnLogicCard

/-- THE TIED CARD OF 'laws.FnExactTableKey'. -/
def fnExactTableKeyCard : Claim7 := { stood := { row := fnExactTableKeyRow, standIns := [], harness := (true, "2ab6bee29816cffe8246407bede7eaeab94e75fe73e342d8c1b031442c760338"), looks := false }, kinds := [], alts := [], laidByText := true, laidKinds := [.data, .data, .data], laidTests := true, laidLooks := .later }
def FnExactTableKeyCardSaid : Prop := Claim7.holds Tryd.pinned (.plain (OpenSpec.ofChange fnExactTableKeySpec)) fnExactTableKeyCard

/-- THE SECOND FORM's CARD OF 'laws.FnHalves'. -/
def fnHalvesUptoCard : Claim7 := { stood := { row := fnHalvesUptoRow, standIns := [], harness := (true, "2ab6bee29816cffe8246407bede7eaeab94e75fe73e342d8c1b031442c760338"), looks := false }, kinds := [], alts := [], laidByText := true, laidKinds := [.data, .data, .data], laidTests := true, laidLooks := .later }
def FnHalvesUptoCardSaid : Prop := Claim7.holds Tryd.pinned (.plain (OpenSpec.upto fnHalvesSpec)) fnHalvesUptoCard

/-- THE SECOND FORM's CARD OF 'laws.FnLogic'. -/
def fnLogicUptoCard : Claim7 := { stood := { row := fnLogicUptoRow, standIns := [], harness := (true, "2ab6bee29816cffe8246407bede7eaeab94e75fe73e342d8c1b031442c760338"), looks := false }, kinds := [], alts := [], laidByText := true, laidKinds := [.data, .data, .data], laidTests := true, laidLooks := .later }
def FnLogicUptoCardSaid : Prop := Claim7.holds Tryd.pinned (.plain (OpenSpec.upto fnLogicSpec)) fnLogicUptoCard

/-- THE SECOND FORM's CARD OF 'laws.FnExactTableKey'. -/
def fnExactTableKeyUptoCard : Claim7 := { stood := { row := fnExactTableKeyUptoRow, standIns := [], harness := (true, "2ab6bee29816cffe8246407bede7eaeab94e75fe73e342d8c1b031442c760338"), looks := false }, kinds := [], alts := [], laidByText := true, laidKinds := [.data, .data, .data], laidTests := true, laidLooks := .later }
def FnExactTableKeyUptoCardSaid : Prop := Claim7.holds Tryd.pinned (.plain (OpenSpec.upto fnExactTableKeySpec)) fnExactTableKeyUptoCard
end Rows
end Go.Proofs.YtkcbonocbdfbcaaDoor
