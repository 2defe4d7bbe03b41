/- What the program's functions of chapter 2 are to do. -/
import Derived.Test.YtlicobjkjikjoaaRows
import Derived.Test.YtlicobjkjikjoaaPkB
import Derived.Test.YtlicobjkjikjoaaPkA
import Derived.Test.YtlicobjkjikjoaaPkC
namespace Go.Proofs.Ytlicobjkjikjoaa.Lx1
open Go.RowKit
open Nd0 Nd3 Tm0 Tm1 Tm2 Tm3 Tm4 Tm5 Tm6 Tm11
/-- What the program's TermOk is to do. -/
def ITermOk : Prop := ∀ (w : World) (a : Option Addr) (l : List Nd) (c : Nat), Nodes w a l → l.length ≤ c → l.length ≤ 1048576 →
    Calls Try.prog 11 #[.slice a l.length c] w fun e w' => e = .returned (.bool (termOk l)) ∧ Below w.heap.size w w'
end Go.Proofs.Ytlicobjkjikjoaa.Lx1
namespace Go.Proofs.Ytlicobjkjikjoaa.Lx2
open Go.RowKit
open Nd0 Nd3 Tm0 Tm1 Tm2 Tm3 Tm4 Tm5 Tm6 Tm11
/-- What the program's Reached is to do. -/
def IReached : Prop := ∀ (w : World) (a : Option Addr) (l : List Nd) (c : Nat), Nodes w a l → l.length ≤ c → l.length ≤ 1048576 →
    Calls Try.prog 13 #[.slice a l.length c] w fun e w' => (∃ a' c', e = .returned (.slice a' (reachedL l).length c') ∧ WInts w' w.heap.size a' (reachedL l)) ∧ Below w.heap.size w w'
end Go.Proofs.Ytlicobjkjikjoaa.Lx2
namespace Go.Proofs.Ytlicobjkjikjoaa.Lx3
open Go.RowKit
open Nd0 Nd3 Tm0 Tm1 Tm2 Tm3 Tm4 Tm5 Tm6 Tm11
/-- What the program's Free is to do. -/
def IFree : Prop := ∀ (w : World) (a : Option Addr) (l : List Nd) (c : Nat), Nodes w a l → l.length ≤ c → l.length ≤ 1048576 →
    Calls Try.prog 15 #[.slice a l.length c] w fun e w' => (∃ a' c', e = .returned (.slice a' (freeL l).length c') ∧ WInts w' w.heap.size a' (freeL l)) ∧ Below w.heap.size w w'
end Go.Proofs.Ytlicobjkjikjoaa.Lx3
namespace Go.Proofs.Ytlicobjkjikjoaa.Lx4
open Go.RowKit
open Nd0 Nd3 Tm0 Tm1 Tm2 Tm3 Tm4 Tm5 Tm6 Tm11
/-- What the program's Prune is to do. -/
def IPrune : Prop := ∀ (w : World) (a : Option Addr) (l : List Nd) (c : Nat), Nodes w a l → l.length ≤ c → l.length ≤ 1048576 →
    Calls Try.prog 9 #[.slice a l.length c] w fun e w' => (∃ a' c', e = .returned (.slice a' (pruneL l).length c') ∧ WNodes w' w.heap.size a' (pruneL l) ∧ (pruneL l).length ≤ c') ∧ Below w.heap.size w w'
end Go.Proofs.Ytlicobjkjikjoaa.Lx4
namespace Go.Proofs.Ytlicobjkjikjoaa.Lx6
open Go.RowKit
open Nd0 Nd3 Tm0 Tm1 Tm2 Tm3 Tm4 Tm5 Tm6 Tm11
/-- What the program's Sentence is to do. -/
def ISentence : Prop := ∀ (w : World) (a : Option Addr) (l : List Nd) (c : Nat), Nodes w a l → l.length ≤ c → l.length ≤ 1048576 →
    Calls Try.prog 12 #[.slice a l.length c] w fun e w' => e = .returned (.bool (sentB l)) ∧ Below w.heap.size w w'
/-- What the program's Bits is to do. -/
def IBits : Prop := ∀ (w : World) (a : Option Addr) (l : List Nd) (c : Nat), Nodes w a l → l.length ≤ c → l.length ≤ 1048576 →
    Calls Try.prog 16 #[.slice a l.length c] w fun e w' => e = .returned (.int .i64 (bitsL l)) ∧ Below w.heap.size w w'
end Go.Proofs.Ytlicobjkjikjoaa.Lx6
