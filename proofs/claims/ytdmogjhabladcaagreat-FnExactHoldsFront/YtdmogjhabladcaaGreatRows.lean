/-
  No cell of these rows narrows 'for every input' (looked for: loops, veiled, ifaces, maps, wideKeys, modest, calm, conditions, laid).
  DERIVED. THE GIVEN ROWS OF THIS SEAT. 7 by the template 'for every input the law returns true; each argument reads behind the call as it read before'; 0 by the template 'total and deterministic' (their statements: YtdmogjhabladcaaGreatTotals.lean).
  GIVEN WITH THE SEED: the statements are not yours to turn. If you find one false, say at which input.
  Laid BY PROGRAM, IN A SANDBOX (cutbox-rows.mjs): the forced cells as the released guide's own fill.sh prints them over the translation d5b515ce416c1efe… (all of the seat's roots in one cut). By AI agents, Wed Nov 11 2026. No macro, syntax, notation, axiom, sorry.
-/
import Derived.Test.YtdmogjhabladcaaGreatChecked
import GoSem.Claim
import GoSem.ClaimJoined
import GoSem.ClaimMapViews
import Derived.JoinedTies
import Derived.KernelRfl
namespace Go.Proofs.YtdmogjhabladcaaGreat
/- THE CELL 'sum', in the pinned program and in every row, IS THE sha256 OF THE DUMP (.gsa) THAT YtdmogjhabladcaaGreatProg.lean LOADS. Nothing in Lean hashes anything: it is a label: what it is worth is what the hold of that sum in a sandbox is worth. -/
noncomputable def Tryz.pinned : Pinned := { name := "ytdmogjhabladcaagreat", sum := "d5b515ce416c1efe90f1b2ecbd8fd496264fb69df187976302d798389f75c42c", checked := Tryz.checked }
namespace Rows
def none {H : Type} : Left H := { results := [], args := [] }

/-- 'laws.FnInstances': WHATEVER THE INPUT: true; the input reads as it did. -/
def fnInstancesSpec : ChangeSpec := { name := "fnInstances", fn := fun _ => fun
  | [d] => { results := [.lit (.bool true)], args := [d] }
  | _ => none }
def fnInstancesRow : OpenClaim := { program := "ytdmogjhabladcaagreat", sum := "d5b515ce416c1efe90f1b2ecbd8fd496264fb69df187976302d798389f75c42c", func := "loop.example/g00116/laws.FnInstances", spec := "fnInstances", unfollowed := true, recurses := true, apart := false }
def FnInstancesSaid : Prop := fnInstancesRow.holds Tryz.pinned (OpenSpec.ofChange fnInstancesSpec)

/-- ITS FALSE NEIGHBOUR: 'it returns false'. Refute it at one input. -/
def fnInstancesWrong : ChangeSpec := { name := "fnInstances", fn := fun _ => fun
  | [d] => { results := [.lit (.bool false)], args := [d] }
  | _ => none }
def FnInstancesWrongFalsely : Prop := fnInstancesRow.holds Tryz.pinned (OpenSpec.ofChange fnInstancesWrong)

/-- 'laws.FnDenied': WHATEVER THE INPUT: true; the input reads as it did. -/
def fnDeniedSpec : ChangeSpec := { name := "fnDenied", fn := fun _ => fun
  | [d] => { results := [.lit (.bool true)], args := [d] }
  | _ => none }
def fnDeniedRow : OpenClaim := { program := "ytdmogjhabladcaagreat", sum := "d5b515ce416c1efe90f1b2ecbd8fd496264fb69df187976302d798389f75c42c", func := "loop.example/g00116/laws.FnDenied", spec := "fnDenied", unfollowed := true, recurses := true, apart := false }
def FnDeniedSaid : Prop := fnDeniedRow.holds Tryz.pinned (OpenSpec.ofChange fnDeniedSpec)

/-- ITS FALSE NEIGHBOUR: 'it returns false'. Refute it at one input. -/
def fnDeniedWrong : ChangeSpec := { name := "fnDenied", fn := fun _ => fun
  | [d] => { results := [.lit (.bool false)], args := [d] }
  | _ => none }
def FnDeniedWrongFalsely : Prop := fnDeniedRow.holds Tryz.pinned (OpenSpec.ofChange fnDeniedWrong)

/-- 'laws.FnFront': WHATEVER THE INPUT: true; the input reads as it did. -/
def fnFrontSpec : ChangeSpec := { name := "fnFront", fn := fun _ => fun
  | [d] => { results := [.lit (.bool true)], args := [d] }
  | _ => none }
def fnFrontRow : OpenClaim := { program := "ytdmogjhabladcaagreat", sum := "d5b515ce416c1efe90f1b2ecbd8fd496264fb69df187976302d798389f75c42c", func := "loop.example/g00116/laws.FnFront", spec := "fnFront", unfollowed := true, recurses := true, apart := false }
def FnFrontSaid : Prop := fnFrontRow.holds Tryz.pinned (OpenSpec.ofChange fnFrontSpec)

/-- ITS FALSE NEIGHBOUR: 'it returns false'. Refute it at one input. -/
def fnFrontWrong : ChangeSpec := { name := "fnFront", fn := fun _ => fun
  | [d] => { results := [.lit (.bool false)], args := [d] }
  | _ => none }
def FnFrontWrongFalsely : Prop := fnFrontRow.holds Tryz.pinned (OpenSpec.ofChange fnFrontWrong)

/-- 'laws.FnIdleQuant': WHATEVER THE INPUT: true; the input reads as it did. -/
def fnIdleQuantSpec : ChangeSpec := { name := "fnIdleQuant", fn := fun _ => fun
  | [d] => { results := [.lit (.bool true)], args := [d] }
  | _ => none }
def fnIdleQuantRow : OpenClaim := { program := "ytdmogjhabladcaagreat", sum := "d5b515ce416c1efe90f1b2ecbd8fd496264fb69df187976302d798389f75c42c", func := "loop.example/g00116/laws.FnIdleQuant", spec := "fnIdleQuant", unfollowed := true, recurses := true, apart := false }
def FnIdleQuantSaid : Prop := fnIdleQuantRow.holds Tryz.pinned (OpenSpec.ofChange fnIdleQuantSpec)

/-- ITS FALSE NEIGHBOUR: 'it returns false'. Refute it at one input. -/
def fnIdleQuantWrong : ChangeSpec := { name := "fnIdleQuant", fn := fun _ => fun
  | [d] => { results := [.lit (.bool false)], args := [d] }
  | _ => none }
def FnIdleQuantWrongFalsely : Prop := fnIdleQuantRow.holds Tryz.pinned (OpenSpec.ofChange fnIdleQuantWrong)

/-- 'laws.FnExactValue': WHATEVER THE INPUT: true; the input reads as it did. -/
def fnExactValueSpec : ChangeSpec := { name := "fnExactValue", fn := fun _ => fun
  | [d1, d2] => { results := [.lit (.bool true)], args := [d1, d2] }
  | _ => none }
def fnExactValueRow : OpenClaim := { program := "ytdmogjhabladcaagreat", sum := "d5b515ce416c1efe90f1b2ecbd8fd496264fb69df187976302d798389f75c42c", func := "loop.example/g00116/laws.FnExactValue", spec := "fnExactValue", unfollowed := true, recurses := true, apart := false }
def FnExactValueSaid : Prop := fnExactValueRow.holds Tryz.pinned (OpenSpec.ofChange fnExactValueSpec)

/-- ITS FALSE NEIGHBOUR: 'it returns false'. Refute it at one input. -/
def fnExactValueWrong : ChangeSpec := { name := "fnExactValue", fn := fun _ => fun
  | [d1, d2] => { results := [.lit (.bool false)], args := [d1, d2] }
  | _ => none }
def FnExactValueWrongFalsely : Prop := fnExactValueRow.holds Tryz.pinned (OpenSpec.ofChange fnExactValueWrong)

/-- 'laws.FnExactHolds': WHATEVER THE INPUT: true; the input reads as it did. -/
def fnExactHoldsSpec : ChangeSpec := { name := "fnExactHolds", fn := fun _ => fun
  | [d] => { results := [.lit (.bool true)], args := [d] }
  | _ => none }
def fnExactHoldsRow : OpenClaim := { program := "ytdmogjhabladcaagreat", sum := "d5b515ce416c1efe90f1b2ecbd8fd496264fb69df187976302d798389f75c42c", func := "loop.example/g00116/laws.FnExactHolds", spec := "fnExactHolds", unfollowed := true, recurses := true, apart := false }
def FnExactHoldsSaid : Prop := fnExactHoldsRow.holds Tryz.pinned (OpenSpec.ofChange fnExactHoldsSpec)

/-- ITS FALSE NEIGHBOUR: 'it returns false'. Refute it at one input. -/
def fnExactHoldsWrong : ChangeSpec := { name := "fnExactHolds", fn := fun _ => fun
  | [d] => { results := [.lit (.bool false)], args := [d] }
  | _ => none }
def FnExactHoldsWrongFalsely : Prop := fnExactHoldsRow.holds Tryz.pinned (OpenSpec.ofChange fnExactHoldsWrong)

/-- 'laws.FnExactHoldsFront': WHATEVER THE INPUT: true; the input reads as it did. -/
def fnExactHoldsFrontSpec : ChangeSpec := { name := "fnExactHoldsFront", fn := fun _ => fun
  | [d1, d2] => { results := [.lit (.bool true)], args := [d1, d2] }
  | _ => none }
def fnExactHoldsFrontRow : OpenClaim := { program := "ytdmogjhabladcaagreat", sum := "d5b515ce416c1efe90f1b2ecbd8fd496264fb69df187976302d798389f75c42c", func := "loop.example/g00116/laws.FnExactHoldsFront", spec := "fnExactHoldsFront", unfollowed := true, recurses := true, apart := false }
def FnExactHoldsFrontSaid : Prop := fnExactHoldsFrontRow.holds Tryz.pinned (OpenSpec.ofChange fnExactHoldsFrontSpec)

/-- ITS FALSE NEIGHBOUR: 'it returns false'. Refute it at one input. -/
def fnExactHoldsFrontWrong : ChangeSpec := { name := "fnExactHoldsFront", fn := fun _ => fun
  | [d1, d2] => { results := [.lit (.bool false)], args := [d1, d2] }
  | _ => none }
def FnExactHoldsFrontWrongFalsely : Prop := fnExactHoldsFrontRow.holds Tryz.pinned (OpenSpec.ofChange fnExactHoldsFrontWrong)

/- THE SECOND FORM. 'bulk': how many values and letters a reading holds, each counted each time it is reached (what is shared counts as often as it is met; a slice's spare places count too). A statement '..UptoSaid' is the law's where the arguments, and the package variables that the reading takes, are together of bulk at most 1048576: NARROWER than '..Said'. Prove '..Said' where nothing that the law and all that it calls make is longer than what came in: it says more and counts as full. Else prove '..UptoSaid'. A law counts once. -/
mutual
def uptoBulk {H : Type} : DataW H → Nat
  | .lit (.string bytes) => bytes.length + 1
  | .lit _ => 1
  | .nil => 1
  | .ptr d => uptoBulk d + 1
  | .slice elems spare => uptoBulkAll elems + uptoBulkAll spare + 1
  | .agg parts => uptoBulkAll parts + 1
  | .iface _ d => uptoBulk d + 1
  | .map entries => uptoBulkEntries entries + 1
  | .held _ => 1
def uptoBulkAll {H : Type} : List (DataW H) → Nat
  | [] => 0
  | d :: r => uptoBulk d + uptoBulkAll r
def uptoBulkEntries {H : Type} : List (Lit × DataW H) → Nat
  | [] => 0
  | x :: r => uptoBulkEntry x + uptoBulkEntries r
def uptoBulkEntry {H : Type} : Lit × DataW H → Nat
  | (.string bytes, d) => bytes.length + uptoBulk d + 1
  | (_, d) => uptoBulk d + 1
 end
def uptoSmall : (H : Type) → List (DataW H) → Bool := fun _ ds => decide (uptoBulkAll ds ≤ 1048576)
def OpenSpec.upto (s : _root_.Go.ChangeSpec) : _root_.Go.OpenSpec := { _root_.Go.OpenSpec.ofChange s with cond := some uptoSmall }

/-- 'laws.FnInstances', WHERE WHAT IT READS IS OF BULK AT MOST 1048576: true; the input reads as it did. -/
def fnInstancesUptoRow : OpenClaim := { program := "ytdmogjhabladcaagreat", sum := "d5b515ce416c1efe90f1b2ecbd8fd496264fb69df187976302d798389f75c42c", func := "loop.example/g00116/laws.FnInstances", spec := "fnInstances", unfollowed := true, recurses := true, apart := false, narrowed := true }
def FnInstancesUptoSaid : Prop := fnInstancesUptoRow.holds Tryz.pinned (OpenSpec.upto fnInstancesSpec)

/-- 'laws.FnDenied', WHERE WHAT IT READS IS OF BULK AT MOST 1048576: true; the input reads as it did. -/
def fnDeniedUptoRow : OpenClaim := { program := "ytdmogjhabladcaagreat", sum := "d5b515ce416c1efe90f1b2ecbd8fd496264fb69df187976302d798389f75c42c", func := "loop.example/g00116/laws.FnDenied", spec := "fnDenied", unfollowed := true, recurses := true, apart := false, narrowed := true }
def FnDeniedUptoSaid : Prop := fnDeniedUptoRow.holds Tryz.pinned (OpenSpec.upto fnDeniedSpec)

/-- 'laws.FnFront', WHERE WHAT IT READS IS OF BULK AT MOST 1048576: true; the input reads as it did. -/
def fnFrontUptoRow : OpenClaim := { program := "ytdmogjhabladcaagreat", sum := "d5b515ce416c1efe90f1b2ecbd8fd496264fb69df187976302d798389f75c42c", func := "loop.example/g00116/laws.FnFront", spec := "fnFront", unfollowed := true, recurses := true, apart := false, narrowed := true }
def FnFrontUptoSaid : Prop := fnFrontUptoRow.holds Tryz.pinned (OpenSpec.upto fnFrontSpec)

/-- 'laws.FnIdleQuant', WHERE WHAT IT READS IS OF BULK AT MOST 1048576: true; the input reads as it did. -/
def fnIdleQuantUptoRow : OpenClaim := { program := "ytdmogjhabladcaagreat", sum := "d5b515ce416c1efe90f1b2ecbd8fd496264fb69df187976302d798389f75c42c", func := "loop.example/g00116/laws.FnIdleQuant", spec := "fnIdleQuant", unfollowed := true, recurses := true, apart := false, narrowed := true }
def FnIdleQuantUptoSaid : Prop := fnIdleQuantUptoRow.holds Tryz.pinned (OpenSpec.upto fnIdleQuantSpec)

/-- 'laws.FnExactValue', WHERE WHAT IT READS IS OF BULK AT MOST 1048576: true; the input reads as it did. -/
def fnExactValueUptoRow : OpenClaim := { program := "ytdmogjhabladcaagreat", sum := "d5b515ce416c1efe90f1b2ecbd8fd496264fb69df187976302d798389f75c42c", func := "loop.example/g00116/laws.FnExactValue", spec := "fnExactValue", unfollowed := true, recurses := true, apart := false, narrowed := true }
def FnExactValueUptoSaid : Prop := fnExactValueUptoRow.holds Tryz.pinned (OpenSpec.upto fnExactValueSpec)

/-- 'laws.FnExactHolds', WHERE WHAT IT READS IS OF BULK AT MOST 1048576: true; the input reads as it did. -/
def fnExactHoldsUptoRow : OpenClaim := { program := "ytdmogjhabladcaagreat", sum := "d5b515ce416c1efe90f1b2ecbd8fd496264fb69df187976302d798389f75c42c", func := "loop.example/g00116/laws.FnExactHolds", spec := "fnExactHolds", unfollowed := true, recurses := true, apart := false, narrowed := true }
def FnExactHoldsUptoSaid : Prop := fnExactHoldsUptoRow.holds Tryz.pinned (OpenSpec.upto fnExactHoldsSpec)

/-- 'laws.FnExactHoldsFront', WHERE WHAT IT READS IS OF BULK AT MOST 1048576: true; the input reads as it did. -/
def fnExactHoldsFrontUptoRow : OpenClaim := { program := "ytdmogjhabladcaagreat", sum := "d5b515ce416c1efe90f1b2ecbd8fd496264fb69df187976302d798389f75c42c", func := "loop.example/g00116/laws.FnExactHoldsFront", spec := "fnExactHoldsFront", unfollowed := true, recurses := true, apart := false, narrowed := true }
def FnExactHoldsFrontUptoSaid : Prop := fnExactHoldsFrontUptoRow.holds Tryz.pinned (OpenSpec.upto fnExactHoldsFrontSpec)

end Rows
end Go.Proofs.YtdmogjhabladcaaGreat
