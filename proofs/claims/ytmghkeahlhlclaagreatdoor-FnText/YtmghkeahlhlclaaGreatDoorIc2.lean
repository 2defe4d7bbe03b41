/- What the program's functions of chapter 2 are to do. -/
import Derived.Test.YtmghkeahlhlclaaGreatDoorRows
import Derived.Test.YtmghkeahlhlclaaGreatDoorPkB
import Derived.Test.YtmghkeahlhlclaaGreatDoorPkA
import Derived.Test.YtmghkeahlhlclaaGreatDoorPkC
namespace Go.Proofs.YtmghkeahlhlclaaGreatDoor.Lx1
open Go.RowKit
open Nd0 Nd3 Tm0 Tm1 Tm2 Tm3 Tm4 Tm5 Tm6 Tm11
/-- What the program's TermOk is to do. -/
def ITermOk : Prop := ∀ (w : World) (a : Option Addr) (l : List Nd) (c : Nat), Nodes w a l → l.length ≤ c → l.length ≤ 1048576 →
    Calls Tryz.prog 25 #[.slice a l.length c] w fun e w' => e = .returned (.bool (termOk l)) ∧ Below w.heap.size w w'
end Go.Proofs.YtmghkeahlhlclaaGreatDoor.Lx1
namespace Go.Proofs.YtmghkeahlhlclaaGreatDoor.Lx2
open Go.RowKit
open Nd0 Nd3 Tm0 Tm1 Tm2 Tm3 Tm4 Tm5 Tm6 Tm11
/-- What the program's Reached is to do. -/
def IReached : Prop := ∀ (w : World) (a : Option Addr) (l : List Nd) (c : Nat), Nodes w a l → l.length ≤ c → l.length ≤ 1048576 →
    Calls Tryz.prog 26 #[.slice a l.length c] w fun e w' => (∃ a' c', e = .returned (.slice a' (reachedL l).length c') ∧ WInts w' w.heap.size a' (reachedL l)) ∧ Below w.heap.size w w'
end Go.Proofs.YtmghkeahlhlclaaGreatDoor.Lx2
namespace Go.Proofs.YtmghkeahlhlclaaGreatDoor.Lx3
open Go.RowKit
open Nd0 Nd3 Tm0 Tm1 Tm2 Tm3 Tm4 Tm5 Tm6 Tm11
end Go.Proofs.YtmghkeahlhlclaaGreatDoor.Lx3
namespace Go.Proofs.YtmghkeahlhlclaaGreatDoor.Lx4
open Go.RowKit
open Nd0 Nd3 Tm0 Tm1 Tm2 Tm3 Tm4 Tm5 Tm6 Tm11
end Go.Proofs.YtmghkeahlhlclaaGreatDoor.Lx4
namespace Go.Proofs.YtmghkeahlhlclaaGreatDoor.Lx6
open Go.RowKit
open Nd0 Nd3 Tm0 Tm1 Tm2 Tm3 Tm4 Tm5 Tm6 Tm11
end Go.Proofs.YtmghkeahlhlclaaGreatDoor.Lx6
