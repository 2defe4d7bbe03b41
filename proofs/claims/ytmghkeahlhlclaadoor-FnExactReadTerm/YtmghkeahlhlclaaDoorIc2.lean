/- What the program's functions of chapter 2 are to do. -/
import Derived.Test.YtmghkeahlhlclaaDoorRows
import Derived.Test.YtmghkeahlhlclaaDoorPkB
import Derived.Test.YtmghkeahlhlclaaDoorPkA
import Derived.Test.YtmghkeahlhlclaaDoorPkC
namespace Go.Proofs.YtmghkeahlhlclaaDoor.Lx1
open Go.RowKit
open Nd0 Nd3 Tm0 Tm1 Tm2 Tm3 Tm4 Tm5 Tm6 Tm11
/-- What the program's TermOk is to do. -/
def ITermOk : Prop := ∀ (w : World) (a : Option Addr) (l : List Nd) (c : Nat), Nodes w a l → l.length ≤ c → l.length ≤ 1048576 →
    Calls Tryd.prog 20 #[.slice a l.length c] w fun e w' => e = .returned (.bool (termOk l)) ∧ Below w.heap.size w w'
end Go.Proofs.YtmghkeahlhlclaaDoor.Lx1
namespace Go.Proofs.YtmghkeahlhlclaaDoor.Lx2
open Go.RowKit
open Nd0 Nd3 Tm0 Tm1 Tm2 Tm3 Tm4 Tm5 Tm6 Tm11
/-- What the program's Reached is to do. -/
def IReached : Prop := ∀ (w : World) (a : Option Addr) (l : List Nd) (c : Nat), Nodes w a l → l.length ≤ c → l.length ≤ 1048576 →
    Calls Tryd.prog 21 #[.slice a l.length c] w fun e w' => (∃ a' c', e = .returned (.slice a' (reachedL l).length c') ∧ WInts w' w.heap.size a' (reachedL l)) ∧ Below w.heap.size w w'
end Go.Proofs.YtmghkeahlhlclaaDoor.Lx2
namespace Go.Proofs.YtmghkeahlhlclaaDoor.Lx3
open Go.RowKit
open Nd0 Nd3 Tm0 Tm1 Tm2 Tm3 Tm4 Tm5 Tm6 Tm11
end Go.Proofs.YtmghkeahlhlclaaDoor.Lx3
namespace Go.Proofs.YtmghkeahlhlclaaDoor.Lx4
open Go.RowKit
open Nd0 Nd3 Tm0 Tm1 Tm2 Tm3 Tm4 Tm5 Tm6 Tm11
end Go.Proofs.YtmghkeahlhlclaaDoor.Lx4
namespace Go.Proofs.YtmghkeahlhlclaaDoor.Lx6
open Go.RowKit
open Nd0 Nd3 Tm0 Tm1 Tm2 Tm3 Tm4 Tm5 Tm6 Tm11
end Go.Proofs.YtmghkeahlhlclaaDoor.Lx6
