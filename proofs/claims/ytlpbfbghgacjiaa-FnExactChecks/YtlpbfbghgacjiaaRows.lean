/-
  No cell of these rows narrows 'for every input' (looked for: loops, veiled, ifaces, maps, wideKeys, modest, calm, conditions, laid).
  DERIVED. THE GIVEN ROWS OF THIS SEAT. 6 by the template 'for every input the law returns true; each argument reads behind the call as it read before'; 0 by the template 'total and deterministic' (their statements: YtlpbfbghgacjiaaTotals.lean).
  GIVEN WITH THE SEED: the statements are not yours to turn. If you find one false, say at which input.
  Laid BY PROGRAM, IN A SANDBOX (cutbox-rows.mjs): the forced cells as the released guide's own fill.sh prints them over the translation d0dd2dd9488c05e9… (all of the seat's roots in one cut). By AI agents, Wed Nov 11 2026. No macro, syntax, notation, axiom, sorry.
-/
import Derived.Test.YtlpbfbghgacjiaaChecked
import GoSem.Claim
import GoSem.ClaimJoined
import GoSem.ClaimMapViews
import Derived.JoinedTies
import Derived.KernelRfl
namespace Go.Proofs.Ytlpbfbghgacjiaa
/- THE CELL 'sum', in the pinned program and in every row, IS THE sha256 OF THE DUMP (.gsa) THAT YtlpbfbghgacjiaaProg.lean LOADS. Nothing in Lean hashes anything: it is a label: what it is worth is what the hold of that sum in a sandbox is worth. -/
noncomputable def Try.pinned : Pinned := { name := "ytlpbfbghgacjiaa", sum := "d0dd2dd9488c05e996085ea7ab27f942e05a88c69410017e3f33fd14a0f78ad0", checked := Try.checked }
namespace Rows
def none {H : Type} : Left H := { results := [], args := [] }

/-- 'laws.FnWin': WHATEVER THE INPUT: true; the input reads as it did. -/
def fnWinSpec : ChangeSpec := { name := "fnWin", fn := fun _ => fun
  | [d] => { results := [.lit (.bool true)], args := [d] }
  | _ => none }
def fnWinRow : OpenClaim := { program := "ytlpbfbghgacjiaa", sum := "d0dd2dd9488c05e996085ea7ab27f942e05a88c69410017e3f33fd14a0f78ad0", func := "loop.example/g00116/laws.FnWin", spec := "fnWin", unfollowed := true, recurses := true, plainKeys := false, apart := false }
def FnWinSaid : Prop := fnWinRow.holds Try.pinned (OpenSpec.ofChange fnWinSpec)

/-- ITS FALSE NEIGHBOUR: 'it returns false'. Refute it at one input. -/
def fnWinWrong : ChangeSpec := { name := "fnWin", fn := fun _ => fun
  | [d] => { results := [.lit (.bool false)], args := [d] }
  | _ => none }
def FnWinWrongFalsely : Prop := fnWinRow.holds Try.pinned (OpenSpec.ofChange fnWinWrong)

/-- 'laws.FnExactWin': WHATEVER THE INPUT: true; the input reads as it did. -/
def fnExactWinSpec : ChangeSpec := { name := "fnExactWin", fn := fun _ => fun
  | [d1, d2] => { results := [.lit (.bool true)], args := [d1, d2] }
  | _ => none }
def fnExactWinRow : OpenClaim := { program := "ytlpbfbghgacjiaa", sum := "d0dd2dd9488c05e996085ea7ab27f942e05a88c69410017e3f33fd14a0f78ad0", func := "loop.example/g00116/laws.FnExactWin", spec := "fnExactWin", unfollowed := true, recurses := true, plainKeys := false, apart := false }
def FnExactWinSaid : Prop := fnExactWinRow.holds Try.pinned (OpenSpec.ofChange fnExactWinSpec)

/-- ITS FALSE NEIGHBOUR: 'it returns false'. Refute it at one input. -/
def fnExactWinWrong : ChangeSpec := { name := "fnExactWin", fn := fun _ => fun
  | [d1, d2] => { results := [.lit (.bool false)], args := [d1, d2] }
  | _ => none }
def FnExactWinWrongFalsely : Prop := fnExactWinRow.holds Try.pinned (OpenSpec.ofChange fnExactWinWrong)

/-- 'laws.FnExactChecks': WHATEVER THE INPUT: true; the input reads as it did. -/
def fnExactChecksSpec : ChangeSpec := { name := "fnExactChecks", fn := fun _ => fun
  | [d1, d2, d3, d4] => { results := [.lit (.bool true)], args := [d1, d2, d3, d4] }
  | _ => none }
def fnExactChecksRow : OpenClaim := { program := "ytlpbfbghgacjiaa", sum := "d0dd2dd9488c05e996085ea7ab27f942e05a88c69410017e3f33fd14a0f78ad0", func := "loop.example/g00116/laws.FnExactChecks", spec := "fnExactChecks", unfollowed := true, recurses := true, plainKeys := false, apart := false }
def FnExactChecksSaid : Prop := fnExactChecksRow.holds Try.pinned (OpenSpec.ofChange fnExactChecksSpec)

/-- ITS FALSE NEIGHBOUR: 'it returns false'. Refute it at one input. -/
def fnExactChecksWrong : ChangeSpec := { name := "fnExactChecks", fn := fun _ => fun
  | [d1, d2, d3, d4] => { results := [.lit (.bool false)], args := [d1, d2, d3, d4] }
  | _ => none }
def FnExactChecksWrongFalsely : Prop := fnExactChecksRow.holds Try.pinned (OpenSpec.ofChange fnExactChecksWrong)

/-- 'laws.FnExactPlay': WHATEVER THE INPUT: true; the input reads as it did. -/
def fnExactPlaySpec : ChangeSpec := { name := "fnExactPlay", fn := fun _ => fun
  | [d1, d2, d3, d4, d5] => { results := [.lit (.bool true)], args := [d1, d2, d3, d4, d5] }
  | _ => none }
def fnExactPlayRow : OpenClaim := { program := "ytlpbfbghgacjiaa", sum := "d0dd2dd9488c05e996085ea7ab27f942e05a88c69410017e3f33fd14a0f78ad0", func := "loop.example/g00116/laws.FnExactPlay", spec := "fnExactPlay", unfollowed := true, recurses := true, plainKeys := false, apart := false }
def FnExactPlaySaid : Prop := fnExactPlayRow.holds Try.pinned (OpenSpec.ofChange fnExactPlaySpec)

/-- ITS FALSE NEIGHBOUR: 'it returns false'. Refute it at one input. -/
def fnExactPlayWrong : ChangeSpec := { name := "fnExactPlay", fn := fun _ => fun
  | [d1, d2, d3, d4, d5] => { results := [.lit (.bool false)], args := [d1, d2, d3, d4, d5] }
  | _ => none }
def FnExactPlayWrongFalsely : Prop := fnExactPlayRow.holds Try.pinned (OpenSpec.ofChange fnExactPlayWrong)

/-- 'laws.FnExactPickText': WHATEVER THE INPUT: true; the input reads as it did. -/
def fnExactPickTextSpec : ChangeSpec := { name := "fnExactPickText", fn := fun _ => fun
  | [d] => { results := [.lit (.bool true)], args := [d] }
  | _ => none }
def fnExactPickTextRow : OpenClaim := { program := "ytlpbfbghgacjiaa", sum := "d0dd2dd9488c05e996085ea7ab27f942e05a88c69410017e3f33fd14a0f78ad0", func := "loop.example/g00116/laws.FnExactPickText", spec := "fnExactPickText", plainKeys := false, apart := false }
def FnExactPickTextSaid : Prop := fnExactPickTextRow.holds Try.pinned (OpenSpec.ofChange fnExactPickTextSpec)

/-- ITS FALSE NEIGHBOUR: 'it returns false'. Refute it at one input. -/
def fnExactPickTextWrong : ChangeSpec := { name := "fnExactPickText", fn := fun _ => fun
  | [d] => { results := [.lit (.bool false)], args := [d] }
  | _ => none }
def FnExactPickTextWrongFalsely : Prop := fnExactPickTextRow.holds Try.pinned (OpenSpec.ofChange fnExactPickTextWrong)

/-- 'laws.FnExactReadPick': WHATEVER THE INPUT: true; the input reads as it did. -/
def fnExactReadPickSpec : ChangeSpec := { name := "fnExactReadPick", fn := fun _ => fun
  | [d] => { results := [.lit (.bool true)], args := [d] }
  | _ => none }
def fnExactReadPickRow : OpenClaim := { program := "ytlpbfbghgacjiaa", sum := "d0dd2dd9488c05e996085ea7ab27f942e05a88c69410017e3f33fd14a0f78ad0", func := "loop.example/g00116/laws.FnExactReadPick", spec := "fnExactReadPick", inPlace := ["internal/bytealg.IndexByteString", "internal/bytealg.IndexString"], named := ["internal/bytealg.MaxLen"], plainKeys := false, apart := false }
def FnExactReadPickSaid : Prop := fnExactReadPickRow.holds Try.pinned (OpenSpec.ofChange fnExactReadPickSpec)

/-- ITS FALSE NEIGHBOUR: 'it returns false'. Refute it at one input. -/
def fnExactReadPickWrong : ChangeSpec := { name := "fnExactReadPick", fn := fun _ => fun
  | [d] => { results := [.lit (.bool false)], args := [d] }
  | _ => none }
def FnExactReadPickWrongFalsely : Prop := fnExactReadPickRow.holds Try.pinned (OpenSpec.ofChange fnExactReadPickWrong)

/- THE SECOND FORM. 'bulk': how many values and letters a reading holds, each counted each time it is reached (what is shared counts as often as it is met; a slice's spare places count too). A statement '..UptoSaid' is the law's where the arguments, and the package variables that the reading takes, are together of bulk at most 1048576: NARROWER than '..Said'. Prove '..Said' where nothing that the law and all that it calls make is longer than what came in: it says more and counts as full. Else prove '..UptoSaid'. A law counts once. -/
mutual
def uptoBulk {H : Type} : DataW H → Nat
  | .lit (.string bytes) => bytes.length + 1
  | .lit _ => 1
  | .nil => 1
  | .ptr d => uptoBulk d + 1
  | .slice elems spare => uptoBulkAll elems + uptoBulkAll spare + 1
  | .agg parts => uptoBulkAll parts + 1
  | .iface _ d => uptoBulk d + 1
  | .map entries => uptoBulkEntries entries + 1
  | .held _ => 1
def uptoBulkAll {H : Type} : List (DataW H) → Nat
  | [] => 0
  | d :: r => uptoBulk d + uptoBulkAll r
def uptoBulkEntries {H : Type} : List (Lit × DataW H) → Nat
  | [] => 0
  | x :: r => uptoBulkEntry x + uptoBulkEntries r
def uptoBulkEntry {H : Type} : Lit × DataW H → Nat
  | (.string bytes, d) => bytes.length + uptoBulk d + 1
  | (_, d) => uptoBulk d + 1
 end
def uptoSmall : (H : Type) → List (DataW H) → Bool := fun _ ds => decide (uptoBulkAll ds ≤ 1048576)
def OpenSpec.upto (s : _root_.Go.ChangeSpec) : _root_.Go.OpenSpec := { _root_.Go.OpenSpec.ofChange s with cond := some uptoSmall }

/-- 'laws.FnWin', WHERE WHAT IT READS IS OF BULK AT MOST 1048576: true; the input reads as it did. -/
def fnWinUptoRow : OpenClaim := { program := "ytlpbfbghgacjiaa", sum := "d0dd2dd9488c05e996085ea7ab27f942e05a88c69410017e3f33fd14a0f78ad0", func := "loop.example/g00116/laws.FnWin", spec := "fnWin", unfollowed := true, recurses := true, plainKeys := false, apart := false, narrowed := true }
def FnWinUptoSaid : Prop := fnWinUptoRow.holds Try.pinned (OpenSpec.upto fnWinSpec)

/-- 'laws.FnExactWin', WHERE WHAT IT READS IS OF BULK AT MOST 1048576: true; the input reads as it did. -/
def fnExactWinUptoRow : OpenClaim := { program := "ytlpbfbghgacjiaa", sum := "d0dd2dd9488c05e996085ea7ab27f942e05a88c69410017e3f33fd14a0f78ad0", func := "loop.example/g00116/laws.FnExactWin", spec := "fnExactWin", unfollowed := true, recurses := true, plainKeys := false, apart := false, narrowed := true }
def FnExactWinUptoSaid : Prop := fnExactWinUptoRow.holds Try.pinned (OpenSpec.upto fnExactWinSpec)

/-- 'laws.FnExactChecks', WHERE WHAT IT READS IS OF BULK AT MOST 1048576: true; the input reads as it did. -/
def fnExactChecksUptoRow : OpenClaim := { program := "ytlpbfbghgacjiaa", sum := "d0dd2dd9488c05e996085ea7ab27f942e05a88c69410017e3f33fd14a0f78ad0", func := "loop.example/g00116/laws.FnExactChecks", spec := "fnExactChecks", unfollowed := true, recurses := true, plainKeys := false, apart := false, narrowed := true }
def FnExactChecksUptoSaid : Prop := fnExactChecksUptoRow.holds Try.pinned (OpenSpec.upto fnExactChecksSpec)

/-- 'laws.FnExactPlay', WHERE WHAT IT READS IS OF BULK AT MOST 1048576: true; the input reads as it did. -/
def fnExactPlayUptoRow : OpenClaim := { program := "ytlpbfbghgacjiaa", sum := "d0dd2dd9488c05e996085ea7ab27f942e05a88c69410017e3f33fd14a0f78ad0", func := "loop.example/g00116/laws.FnExactPlay", spec := "fnExactPlay", unfollowed := true, recurses := true, plainKeys := false, apart := false, narrowed := true }
def FnExactPlayUptoSaid : Prop := fnExactPlayUptoRow.holds Try.pinned (OpenSpec.upto fnExactPlaySpec)

/-- 'laws.FnExactPickText', WHERE WHAT IT READS IS OF BULK AT MOST 1048576: true; the input reads as it did. -/
def fnExactPickTextUptoRow : OpenClaim := { program := "ytlpbfbghgacjiaa", sum := "d0dd2dd9488c05e996085ea7ab27f942e05a88c69410017e3f33fd14a0f78ad0", func := "loop.example/g00116/laws.FnExactPickText", spec := "fnExactPickText", plainKeys := false, apart := false, narrowed := true }
def FnExactPickTextUptoSaid : Prop := fnExactPickTextUptoRow.holds Try.pinned (OpenSpec.upto fnExactPickTextSpec)

/-- 'laws.FnExactReadPick', WHERE WHAT IT READS IS OF BULK AT MOST 1048576: true; the input reads as it did. -/
def fnExactReadPickUptoRow : OpenClaim := { program := "ytlpbfbghgacjiaa", sum := "d0dd2dd9488c05e996085ea7ab27f942e05a88c69410017e3f33fd14a0f78ad0", func := "loop.example/g00116/laws.FnExactReadPick", spec := "fnExactReadPick", inPlace := ["internal/bytealg.IndexByteString", "internal/bytealg.IndexString"], named := ["internal/bytealg.MaxLen"], plainKeys := false, apart := false, narrowed := true }
def FnExactReadPickUptoSaid : Prop := fnExactReadPickUptoRow.holds Try.pinned (OpenSpec.upto fnExactReadPickSpec)

end Rows
end Go.Proofs.Ytlpbfbghgacjiaa
