/- What the program's functions of chapter 3 are to do. -/
import Derived.Test.YtmghkeahlhlclaaDoorTb1
import Derived.Test.YtmghkeahlhlclaaDoorSs10
import Derived.Test.YtmghkeahlhlclaaDoorPkB
namespace Go.Proofs.YtmghkeahlhlclaaDoor.Ic3
open Go.RowKit
open Nd0 Nd3 Tm0 Tx0 Tx1 Ss0 Ss1 Ss8 Ss10 Tb0 Tb1
set_option linter.unusedVariables false

def IShowTerm : Prop := ∀ (w : World) (a : Option Addr) (l : List Nd) (c : Nat), Tabs w → Nodes w a l → l.length ≤ c → l.length ≤ 1048576 →
    Calls Tryd.prog 9 #[.slice a l.length c] w fun e w' => e = .returned (.tuple #[.string (bs (showL l)), .bool (hasB l)]) ∧ Below w.heap.size w w'
def RPost (w : World) (s : List UInt8) (e : Ending) (w' : World) : Prop :=
  ∃ (a : Option Addr) (c : Nat), e = .returned (.tuple #[.slice a (readL s).1.length c, .int .i64 (readL s).2.1, .int .i64 (readL s).2.2]) ∧ WNodes w' w.heap.size a (readL s).1 ∧ Below w.heap.size w w' ∧ (readL s).1.length ≤ c
def IReadTerm : Prop := ∀ (w : World) (S : ByteArray), TabR w → S.size ≤ 2097152 → Calls Tryd.prog 12 #[.string S] w (RPost w (tl S))
def ISame : Prop := ∀ (w : World) (a a' : Option Addr) (l m : List Nd) (c c' : Nat), Tabs w → Nodes w a l → Nodes w a' m → l.length ≤ c → m.length ≤ c' → l.length ≤ 1048576 → m.length ≤ 1048576 →
    Calls Tryd.prog 16 #[.slice a l.length c, .slice a' m.length c'] w fun e w' => e = .returned (.bool (sameB l m)) ∧ Below w.heap.size w w'

end Go.Proofs.YtmghkeahlhlclaaDoor.Ic3
