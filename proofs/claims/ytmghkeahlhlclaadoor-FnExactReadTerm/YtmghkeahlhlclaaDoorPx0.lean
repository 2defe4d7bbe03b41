/- The program's reader as plain data. -/
import Derived.Test.YtmghkeahlhlclaaDoorTx5
import Derived.Test.YtmghkeahlhlclaaDoorPkE
namespace Go.Proofs.YtmghkeahlhlclaaDoor.Px0
open Nd0 Tm0 Tx0 Tx1 Tx5

/-- A failure: its code and its byte. -/
abbrev Er := Int × Nat
/-- One byte of the text of the node from byte st on. -/
def pNeed (s : List UInt8) (c : UInt8) (st p : Nat) : Except Er Nat := if s[p]? = some c then .ok (p + 1) else .error (2, st)
/-- The digits from byte p on. -/
def pDig (s : List UInt8) (p : Nat) : List UInt8 := (s.drop p).takeWhile isDig
def pNum (s : List UInt8) (st p : Nat) : Except Er (Nat × Nat) :=
  match numL (pDig s p) with
  | some k => .ok (k, p + (pDig s p).length)
  | none => .error (2, st)
/-- A word ends at byte p. -/
def pEnd (s : List UInt8) (st p : Nat) : Except Er Nat := if s[p]? = none ∨ s[p]? = some 32 ∨ s[p]? = some 41 then .ok p else .error (2, st)
def pPair (s : List UInt8) (c : UInt8) (st p : Nat) : Except Er ((Nat × Nat) × Nat) :=
  (pNeed s c st p).bind fun p1 => (pNum s st p1).bind fun x => (pNeed s 58 st x.2).bind fun p3 => (pNum s st p3).bind fun y => (pEnd s st y.2).bind fun q => .ok ((x.1, y.1), q)
/-- The bytes up to a blank. -/
def pWord (s : List UInt8) (p : Nat) : List UInt8 := (s.drop p).takeWhile (fun c => c != 32)
/-- The operator of a word. -/
def opP (w : List UInt8) : Option Nat := (List.range 19).find? (fun i => decide (opTab.getD (i + 2) [] = w)) |>.map (· + 2)
def pOp (s : List UInt8) (st p : Nat) : Except Er (Nat × Nat) :=
  (pNeed s 40 st p).bind fun p1 => match opP (pWord s p1) with
    | some o => .ok (o, p1 + (pWord s p1).length)
    | none => .error (2, st)
/-- What stands between an operator and its parts. -/
def pNums (s : List UInt8) (o st p : Nat) : Except Er (Nd × Nat) :=
  if o = 17 then (pNeed s 32 st p).bind fun p1 => (pNum s st p1).bind fun x => (pNeed s 32 st x.2).bind fun p3 => (pNum s st p3).bind fun y => .ok (⟨o, y.1, x.1, 0, 0, 0⟩, y.2)
  else if o = 19 ∨ o = 20 then (pNeed s 32 st p).bind fun p1 => (pPair s 118 st p1).bind fun x => .ok (⟨o, 0, x.1.1, 0, x.1.2, 0⟩, x.2)
  else .ok (⟨o, 0, 0, 0, 0, 0⟩, p)
/-- The width that a node has by its parts. -/
def pWid (t : List Nd) (n : Nd) : Int :=
  if 2 ≤ n.op ∧ n.op ≤ 12 then (nth t n.a.toNat).w
  else if n.op = 16 then (nth t n.a.toNat).w + (nth t n.b.toNat).w
  else if n.op = 17 then n.w
  else if n.op = 18 then (nth t n.b.toNat).w
  else 1
/-- The reader's state: its place and its nodes. -/
abbrev St := Nat × List Nd
/-- Some parts, each behind a blank. -/
def pMany (s : List UInt8) (rd : St → Except Er (Nat × St)) (st : Nat) : Nat → St → Except Er (List Nat × St)
  | 0, x => .ok ([], x)
  | k + 1, x => (pNeed s 32 st x.1).bind fun p1 => (rd (p1, x.2)).bind fun y => (pMany s rd st k y.2).bind fun z => .ok (y.1 :: z.1, z.2)
/-- A node with its parts put in. -/
def setParts (n : Nd) (is : List Nat) : Nd := ⟨n.op, n.w, n.k, (is.getD 0 0 : Nat), if 1 < is.length then ((is.getD 1 0 : Nat) : Int) else n.b, (is.getD 2 0 : Nat)⟩
def pParts (s : List UInt8) (rd : St → Except Er (Nat × St)) (n : Nd) (st : Nat) (x : St) : Except Er (Nd × St) :=
  (pMany s rd st (parts n).length x).bind fun y => (pNeed s 41 st y.2.1).bind fun p => .ok (setParts n y.1, (p, y.2.2))
def pPut (st : Nat) (p : Nat) (t : List Nd) (n : Nd) : Except Er (Nat × St) := (putL t n st).bind fun x => .ok (x.2, (p, x.1))
/-- A node, with so much fuel. -/
def pNode (s : List UInt8) : Nat → St → Except Er (Nat × St)
  | 0, x => .error (2, x.1)
  | f + 1, x =>
    if s[x.1]? = some 35 then (pPair s 35 x.1 x.1).bind fun y => pPut x.1 y.2 x.2 ⟨0, y.1.1, y.1.2, 0, 0, 0⟩
    else if s[x.1]? = some 118 then (pPair s 118 x.1 x.1).bind fun y => pPut x.1 y.2 x.2 ⟨1, y.1.2, y.1.1, 0, 0, 0⟩
    else (pOp s x.1 x.1).bind fun o => (pNums s o.1 x.1 o.2).bind fun y => (pParts s (pNode s f) y.1 x.1 (y.2, x.2)).bind fun z =>
      pPut x.1 z.2.1 z.2.2 { z.1 with w := pWid z.2.2 z.1 }
/-- What the program reads, as plain data. -/
def pRead (s : List UInt8) : List Nd × Int × Int :=
  if 4000 < s.length then ([], 1, 0) else
  match pNode s (s.length + 1) (0, []) with
  | .error x => ([], x.1, x.2)
  | .ok y => if y.2.1 < s.length then ([], 5, y.2.1) else (y.2.2, 0, 0)

end Go.Proofs.YtmghkeahlhlclaaDoor.Px0
