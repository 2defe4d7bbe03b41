/-
  DERIVED. GIVEN WITH THE SEED: THE CARDS: each row of YtmghkeahlhlclaaDoorRows.lean that lists a variable, with what it lists TIED to the program's text (the seventh form; the later family's looks); each row that meets fmt, with fmt's text TOLD by the authors' own Lean function (tested against real Go, not proved from fmt's source: count such statements apart). THE CARD IS WHAT COUNTS. Prove the row's statement (the work); the ties are given (YtmghkeahlhlclaaDoorTie.lean); close each card by the builder's one call (the guide's Derived/Test/ToyasCard.lean, 'card_holds'). Laid BY PROGRAM, IN A SANDBOX (cutbox-door.mjs). By AI agents, Wed Nov 11 2026. No macro, syntax, notation, axiom, sorry.
-/
import Derived.Test.YtmghkeahlhlclaaDoorRows
import GoSem.ClaimSeven
namespace Go.Proofs.YtmghkeahlhlclaaDoor
namespace Rows

/-- THE TIED CARD OF 'laws.FnExactShowTerm'. -/
def fnExactShowTermCard : Claim7 := { stood := { row := fnExactShowTermRow, standIns := [], harness := (true, "90b72248da6263b7d5ef13fe92d93a37cd90a158f0e24d7368ab5eddb59f4fbd"), looks := true }, kinds := [], alts := [], laidByText := true, laidKinds := [.data, .data, .data, .data], laidTests := true, laidLooks := .later }
def FnExactShowTermCardSaid : Prop := Claim7.holds Tryd.pinned (.plain (OpenSpec.ofChange fnExactShowTermSpec)) fnExactShowTermCard

/-- THE TIED CARD OF 'laws.FnExactReadTerm'. -/
def fnExactReadTermCard : Claim7 := { stood := { row := fnExactReadTermRow, standIns := [], harness := (true, "90b72248da6263b7d5ef13fe92d93a37cd90a158f0e24d7368ab5eddb59f4fbd"), looks := true }, kinds := [], alts := [], laidByText := true, laidKinds := [.data, .data, .data, .sentinel, .sentinel, .data], laidTests := true, laidLooks := .later }
def FnExactReadTermCardSaid : Prop := Claim7.holds Tryd.pinned (.plain (OpenSpec.ofChange fnExactReadTermSpec)) fnExactReadTermCard

/-- THE TIED CARD OF 'laws.FnExactSame'. -/
def fnExactSameCard : Claim7 := { stood := { row := fnExactSameRow, standIns := [], harness := (true, "90b72248da6263b7d5ef13fe92d93a37cd90a158f0e24d7368ab5eddb59f4fbd"), looks := true }, kinds := [], alts := [], laidByText := true, laidKinds := [.data, .data, .data, .data], laidTests := true, laidLooks := .later }
def FnExactSameCardSaid : Prop := Claim7.holds Tryd.pinned (.plain (OpenSpec.ofChange fnExactSameSpec)) fnExactSameCard

/-- THE SECOND FORM's CARD OF 'laws.FnExactShowTerm'. -/
def fnExactShowTermUptoCard : Claim7 := { stood := { row := fnExactShowTermUptoRow, standIns := [], harness := (true, "90b72248da6263b7d5ef13fe92d93a37cd90a158f0e24d7368ab5eddb59f4fbd"), looks := true }, kinds := [], alts := [], laidByText := true, laidKinds := [.data, .data, .data, .data], laidTests := true, laidLooks := .later }
def FnExactShowTermUptoCardSaid : Prop := Claim7.holds Tryd.pinned (.plain (OpenSpec.upto fnExactShowTermSpec)) fnExactShowTermUptoCard

/-- THE SECOND FORM's CARD OF 'laws.FnExactReadTerm'. -/
def fnExactReadTermUptoCard : Claim7 := { stood := { row := fnExactReadTermUptoRow, standIns := [], harness := (true, "90b72248da6263b7d5ef13fe92d93a37cd90a158f0e24d7368ab5eddb59f4fbd"), looks := true }, kinds := [], alts := [], laidByText := true, laidKinds := [.data, .data, .data, .sentinel, .sentinel, .data], laidTests := true, laidLooks := .later }
def FnExactReadTermUptoCardSaid : Prop := Claim7.holds Tryd.pinned (.plain (OpenSpec.upto fnExactReadTermSpec)) fnExactReadTermUptoCard

/-- THE SECOND FORM's CARD OF 'laws.FnExactSame'. -/
def fnExactSameUptoCard : Claim7 := { stood := { row := fnExactSameUptoRow, standIns := [], harness := (true, "90b72248da6263b7d5ef13fe92d93a37cd90a158f0e24d7368ab5eddb59f4fbd"), looks := true }, kinds := [], alts := [], laidByText := true, laidKinds := [.data, .data, .data, .data], laidTests := true, laidLooks := .later }
def FnExactSameUptoCardSaid : Prop := Claim7.holds Tryd.pinned (.plain (OpenSpec.upto fnExactSameSpec)) fnExactSameUptoCard
end Rows
end Go.Proofs.YtmghkeahlhlclaaDoor
