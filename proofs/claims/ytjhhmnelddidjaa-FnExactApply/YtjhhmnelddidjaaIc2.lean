/- What the program's functions of chapter 2 are to do. -/
import Derived.Test.YtjhhmnelddidjaaRows
import Derived.Test.YtjhhmnelddidjaaPkB
import Derived.Test.YtjhhmnelddidjaaPkA
import Derived.Test.YtjhhmnelddidjaaPkC
namespace Go.Proofs.Ytjhhmnelddidjaa.Lx1
open Go.RowKit
open Nd0 Nd3 Tm0 Tm1 Tm2 Tm3 Tm4 Tm5 Tm6 Tm11
/-- What the program's TermOk is to do. -/
def ITermOk : Prop := ∀ (w : World) (a : Option Addr) (l : List Nd) (c : Nat), Nodes w a l → l.length ≤ c → l.length ≤ 1048576 →
    Calls Try.prog 35 #[.slice a l.length c] w fun e w' => e = .returned (.bool (termOk l)) ∧ Below w.heap.size w w'
end Go.Proofs.Ytjhhmnelddidjaa.Lx1
namespace Go.Proofs.Ytjhhmnelddidjaa.Lx2
open Go.RowKit
open Nd0 Nd3 Tm0 Tm1 Tm2 Tm3 Tm4 Tm5 Tm6 Tm11
end Go.Proofs.Ytjhhmnelddidjaa.Lx2
namespace Go.Proofs.Ytjhhmnelddidjaa.Lx3
open Go.RowKit
open Nd0 Nd3 Tm0 Tm1 Tm2 Tm3 Tm4 Tm5 Tm6 Tm11
end Go.Proofs.Ytjhhmnelddidjaa.Lx3
namespace Go.Proofs.Ytjhhmnelddidjaa.Lx4
open Go.RowKit
open Nd0 Nd3 Tm0 Tm1 Tm2 Tm3 Tm4 Tm5 Tm6 Tm11
end Go.Proofs.Ytjhhmnelddidjaa.Lx4
namespace Go.Proofs.Ytjhhmnelddidjaa.Lx6
open Go.RowKit
open Nd0 Nd3 Tm0 Tm1 Tm2 Tm3 Tm4 Tm5 Tm6 Tm11
end Go.Proofs.Ytjhhmnelddidjaa.Lx6
