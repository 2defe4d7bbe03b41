/- What the program's functions of chapter 3 are to do. -/
import Derived.Test.YtmghkeahlhlclaaGreatDoorPkI
import Derived.Test.YtmghkeahlhlclaaGreatDoorPkK
import Derived.Test.YtmghkeahlhlclaaGreatDoorPkB
namespace Go.Proofs.YtmghkeahlhlclaaGreatDoor.Ic3
open Go.RowKit
open Nd0 Nd3 Tm0 Tx0 Tx1 Ss0 Ss1 Ss8 Ss10 Tb0 Tb1
set_option linter.unusedVariables false

def IShowTerm : Prop := ∀ (w : World) (a : Option Addr) (l : List Nd) (c : Nat), Tabs w → Nodes w a l → l.length ≤ c → l.length ≤ 1048576 →
    Calls Tryz.prog 8 #[.slice a l.length c] w fun e w' => e = .returned (.tuple #[.string (bs (showL l)), .bool (hasB l)]) ∧ Below w.heap.size w w'
def RPost (w : World) (s : List UInt8) (e : Ending) (w' : World) : Prop :=
  ∃ (a : Option Addr) (c : Nat), e = .returned (.tuple #[.slice a (readL s).1.length c, .int .i64 (readL s).2.1, .int .i64 (readL s).2.2]) ∧ WNodes w' w.heap.size a (readL s).1 ∧ Below w.heap.size w w' ∧ (readL s).1.length ≤ c
def IReadTerm : Prop := ∀ (w : World) (S : ByteArray), TabR w → S.size ≤ 2097152 → Calls Tryz.prog 12 #[.string S] w (RPost w (tl S))
def ICanon : Prop := ∀ (w : World) (a : Option Addr) (l : List Nd) (c : Nat), TabR w → Nodes w a l → l.length ≤ c → l.length ≤ 1048576 →
    Calls Tryz.prog 10 #[.slice a l.length c] w fun e w' => (∃ a' c', e = .returned (.slice a' (canonL l).length c') ∧ WNodes w' w.heap.size a' (canonL l)) ∧ Below w.heap.size w w'
def ISame : Prop := ∀ (w : World) (a a' : Option Addr) (l m : List Nd) (c c' : Nat), Tabs w → Nodes w a l → Nodes w a' m → l.length ≤ c → m.length ≤ c' → l.length ≤ 1048576 → m.length ≤ 1048576 →
    Calls Tryz.prog 11 #[.slice a l.length c, .slice a' m.length c'] w fun e w' => e = .returned (.bool (sameB l m)) ∧ Below w.heap.size w w'

end Go.Proofs.YtmghkeahlhlclaaGreatDoor.Ic3
