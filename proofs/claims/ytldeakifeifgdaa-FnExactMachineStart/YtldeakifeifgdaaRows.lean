/-
  No cell of these rows narrows 'for every input' (looked for: loops, veiled, ifaces, maps, wideKeys, modest, calm, conditions, laid).
  DERIVED. THE GIVEN ROWS OF THIS SEAT. 4 by the template 'for every input the law returns true; each argument reads behind the call as it read before'; 0 by the template 'total and deterministic' (their statements: YtldeakifeifgdaaTotals.lean).
  GIVEN WITH THE SEED: the statements are not yours to turn. If you find one false, say at which input.
  Laid BY PROGRAM, IN A SANDBOX (cutbox-rows.mjs): the forced cells as the released guide's own fill.sh prints them over the translation d63165facbd56b5a… (all of the seat's roots in one cut). By AI agents, Wed Nov 11 2026. No macro, syntax, notation, axiom, sorry.
-/
import Derived.Test.YtldeakifeifgdaaChecked
import GoSem.Claim
import GoSem.ClaimJoined
import GoSem.ClaimMapViews
import Derived.JoinedTies
import Derived.KernelRfl
namespace Go.Proofs.Ytldeakifeifgdaa
/- THE CELL 'sum', in the pinned program and in every row, IS THE sha256 OF THE DUMP (.gsa) THAT YtldeakifeifgdaaProg.lean LOADS. Nothing in Lean hashes anything: it is a label: what it is worth is what the hold of that sum in a sandbox is worth. -/
noncomputable def Try.pinned : Pinned := { name := "ytldeakifeifgdaa", sum := "d63165facbd56b5a6205d0fc11a24102b58b093d846f95c34e9943192f8c85ba", checked := Try.checked }
namespace Rows
def none {H : Type} : Left H := { results := [], args := [] }

/-- 'laws.FnExactMachineOk': WHATEVER THE INPUT: true; the input reads as it did. -/
def fnExactMachineOkSpec : ChangeSpec := { name := "fnExactMachineOk", fn := fun _ => fun
  | [d] => { results := [.lit (.bool true)], args := [d] }
  | _ => none }
def fnExactMachineOkRow : OpenClaim := { program := "ytldeakifeifgdaa", sum := "d63165facbd56b5a6205d0fc11a24102b58b093d846f95c34e9943192f8c85ba", func := "loop.example/g00116/laws.FnExactMachineOk", spec := "fnExactMachineOk", apart := false }
def FnExactMachineOkSaid : Prop := fnExactMachineOkRow.holds Try.pinned (OpenSpec.ofChange fnExactMachineOkSpec)

/-- ITS FALSE NEIGHBOUR: 'it returns false'. Refute it at one input. -/
def fnExactMachineOkWrong : ChangeSpec := { name := "fnExactMachineOk", fn := fun _ => fun
  | [d] => { results := [.lit (.bool false)], args := [d] }
  | _ => none }
def FnExactMachineOkWrongFalsely : Prop := fnExactMachineOkRow.holds Try.pinned (OpenSpec.ofChange fnExactMachineOkWrong)

/-- 'laws.FnExactMachineStart': WHATEVER THE INPUT: true; the input reads as it did. -/
def fnExactMachineStartSpec : ChangeSpec := { name := "fnExactMachineStart", fn := fun _ => fun
  | [d1, d2, d3] => { results := [.lit (.bool true)], args := [d1, d2, d3] }
  | _ => none }
def fnExactMachineStartRow : OpenClaim := { program := "ytldeakifeifgdaa", sum := "d63165facbd56b5a6205d0fc11a24102b58b093d846f95c34e9943192f8c85ba", func := "loop.example/g00116/laws.FnExactMachineStart", spec := "fnExactMachineStart", apart := false }
def FnExactMachineStartSaid : Prop := fnExactMachineStartRow.holds Try.pinned (OpenSpec.ofChange fnExactMachineStartSpec)

/-- ITS FALSE NEIGHBOUR: 'it returns false'. Refute it at one input. -/
def fnExactMachineStartWrong : ChangeSpec := { name := "fnExactMachineStart", fn := fun _ => fun
  | [d1, d2, d3] => { results := [.lit (.bool false)], args := [d1, d2, d3] }
  | _ => none }
def FnExactMachineStartWrongFalsely : Prop := fnExactMachineStartRow.holds Try.pinned (OpenSpec.ofChange fnExactMachineStartWrong)

/-- 'laws.FnExactMachineVerdict': WHATEVER THE INPUT: true; the input reads as it did. -/
def fnExactMachineVerdictSpec : ChangeSpec := { name := "fnExactMachineVerdict", fn := fun _ => fun
  | [d] => { results := [.lit (.bool true)], args := [d] }
  | _ => none }
def fnExactMachineVerdictRow : OpenClaim := { program := "ytldeakifeifgdaa", sum := "d63165facbd56b5a6205d0fc11a24102b58b093d846f95c34e9943192f8c85ba", func := "loop.example/g00116/laws.FnExactMachineVerdict", spec := "fnExactMachineVerdict", apart := false }
def FnExactMachineVerdictSaid : Prop := fnExactMachineVerdictRow.holds Try.pinned (OpenSpec.ofChange fnExactMachineVerdictSpec)

/-- ITS FALSE NEIGHBOUR: 'it returns false'. Refute it at one input. -/
def fnExactMachineVerdictWrong : ChangeSpec := { name := "fnExactMachineVerdict", fn := fun _ => fun
  | [d] => { results := [.lit (.bool false)], args := [d] }
  | _ => none }
def FnExactMachineVerdictWrongFalsely : Prop := fnExactMachineVerdictRow.holds Try.pinned (OpenSpec.ofChange fnExactMachineVerdictWrong)

/-- 'laws.FnExactMachineLeft': WHATEVER THE INPUT: true; the input reads as it did. -/
def fnExactMachineLeftSpec : ChangeSpec := { name := "fnExactMachineLeft", fn := fun _ => fun
  | [d] => { results := [.lit (.bool true)], args := [d] }
  | _ => none }
def fnExactMachineLeftRow : OpenClaim := { program := "ytldeakifeifgdaa", sum := "d63165facbd56b5a6205d0fc11a24102b58b093d846f95c34e9943192f8c85ba", func := "loop.example/g00116/laws.FnExactMachineLeft", spec := "fnExactMachineLeft", apart := false }
def FnExactMachineLeftSaid : Prop := fnExactMachineLeftRow.holds Try.pinned (OpenSpec.ofChange fnExactMachineLeftSpec)

/-- ITS FALSE NEIGHBOUR: 'it returns false'. Refute it at one input. -/
def fnExactMachineLeftWrong : ChangeSpec := { name := "fnExactMachineLeft", fn := fun _ => fun
  | [d] => { results := [.lit (.bool false)], args := [d] }
  | _ => none }
def FnExactMachineLeftWrongFalsely : Prop := fnExactMachineLeftRow.holds Try.pinned (OpenSpec.ofChange fnExactMachineLeftWrong)

/- THE SECOND FORM. 'bulk': how many values and letters a reading holds, each counted each time it is reached (what is shared counts as often as it is met; a slice's spare places count too). A statement '..UptoSaid' is the law's where the arguments, and the package variables that the reading takes, are together of bulk at most 1048576: NARROWER than '..Said'. Prove '..Said' where nothing that the law and all that it calls make is longer than what came in: it says more and counts as full. Else prove '..UptoSaid'. A law counts once. -/
mutual
def uptoBulk {H : Type} : DataW H → Nat
  | .lit (.string bytes) => bytes.length + 1
  | .lit _ => 1
  | .nil => 1
  | .ptr d => uptoBulk d + 1
  | .slice elems spare => uptoBulkAll elems + uptoBulkAll spare + 1
  | .agg parts => uptoBulkAll parts + 1
  | .iface _ d => uptoBulk d + 1
  | .map entries => uptoBulkEntries entries + 1
  | .held _ => 1
def uptoBulkAll {H : Type} : List (DataW H) → Nat
  | [] => 0
  | d :: r => uptoBulk d + uptoBulkAll r
def uptoBulkEntries {H : Type} : List (Lit × DataW H) → Nat
  | [] => 0
  | x :: r => uptoBulkEntry x + uptoBulkEntries r
def uptoBulkEntry {H : Type} : Lit × DataW H → Nat
  | (.string bytes, d) => bytes.length + uptoBulk d + 1
  | (_, d) => uptoBulk d + 1
 end
def uptoSmall : (H : Type) → List (DataW H) → Bool := fun _ ds => decide (uptoBulkAll ds ≤ 1048576)
def OpenSpec.upto (s : _root_.Go.ChangeSpec) : _root_.Go.OpenSpec := { _root_.Go.OpenSpec.ofChange s with cond := some uptoSmall }

/-- 'laws.FnExactMachineOk', WHERE WHAT IT READS IS OF BULK AT MOST 1048576: true; the input reads as it did. -/
def fnExactMachineOkUptoRow : OpenClaim := { program := "ytldeakifeifgdaa", sum := "d63165facbd56b5a6205d0fc11a24102b58b093d846f95c34e9943192f8c85ba", func := "loop.example/g00116/laws.FnExactMachineOk", spec := "fnExactMachineOk", apart := false, narrowed := true }
def FnExactMachineOkUptoSaid : Prop := fnExactMachineOkUptoRow.holds Try.pinned (OpenSpec.upto fnExactMachineOkSpec)

/-- 'laws.FnExactMachineStart', WHERE WHAT IT READS IS OF BULK AT MOST 1048576: true; the input reads as it did. -/
def fnExactMachineStartUptoRow : OpenClaim := { program := "ytldeakifeifgdaa", sum := "d63165facbd56b5a6205d0fc11a24102b58b093d846f95c34e9943192f8c85ba", func := "loop.example/g00116/laws.FnExactMachineStart", spec := "fnExactMachineStart", apart := false, narrowed := true }
def FnExactMachineStartUptoSaid : Prop := fnExactMachineStartUptoRow.holds Try.pinned (OpenSpec.upto fnExactMachineStartSpec)

/-- 'laws.FnExactMachineVerdict', WHERE WHAT IT READS IS OF BULK AT MOST 1048576: true; the input reads as it did. -/
def fnExactMachineVerdictUptoRow : OpenClaim := { program := "ytldeakifeifgdaa", sum := "d63165facbd56b5a6205d0fc11a24102b58b093d846f95c34e9943192f8c85ba", func := "loop.example/g00116/laws.FnExactMachineVerdict", spec := "fnExactMachineVerdict", apart := false, narrowed := true }
def FnExactMachineVerdictUptoSaid : Prop := fnExactMachineVerdictUptoRow.holds Try.pinned (OpenSpec.upto fnExactMachineVerdictSpec)

/-- 'laws.FnExactMachineLeft', WHERE WHAT IT READS IS OF BULK AT MOST 1048576: true; the input reads as it did. -/
def fnExactMachineLeftUptoRow : OpenClaim := { program := "ytldeakifeifgdaa", sum := "d63165facbd56b5a6205d0fc11a24102b58b093d846f95c34e9943192f8c85ba", func := "loop.example/g00116/laws.FnExactMachineLeft", spec := "fnExactMachineLeft", apart := false, narrowed := true }
def FnExactMachineLeftUptoSaid : Prop := fnExactMachineLeftUptoRow.holds Try.pinned (OpenSpec.upto fnExactMachineLeftSpec)

end Rows
end Go.Proofs.Ytldeakifeifgdaa
