/- Small texts of mine, one behind the other. -/
import Derived.Test.YtmpbedfiamlbpaaGreatDoorRows
import Derived.SizedLaws
import Derived.Test.YtmpbedfiamlbpaaGreatDoorPkS0
import Derived.Test.YtmpbedfiamlbpaaGreatDoorPkS2
import Derived.Test.YtmpbedfiamlbpaaGreatDoorPkS4
import Derived.Test.YtmpbedfiamlbpaaGreatDoorPkS6
import Derived.Test.YtmpbedfiamlbpaaGreatDoorPkS1
/- A machine's value, and its block. Written by tools/gen_mm0.py. -/
namespace Go.Proofs.YtmpbedfiamlbpaaGreatDoor.Mm0
open Go.RowKit
open Nd0 (Kept Ints set_other set_same lt_of_cell)
open Nd6 (Bools)
open Qc0 (Sn Sns)
open Ta1 (tokB)
open Ss1 (tl)
set_option linter.unusedVariables false

structure Mc where
  row : List Bool
  N : Int
  S : ByteArray
  room : Int
  vals : List Int
  ret : Int
  over : Bool
  steps : Int
  looks : Int
  hits : Int
  memo : List Sn
/-- Its value. -/
abbrev mval (m : Mc) (ra va ma : Option Addr) (rc vc mc : Nat) : Value := .agg #[.slice ra m.row.length rc, .int .i64 m.N, .string m.S, .int .i64 m.room, .slice va m.vals.length vc, .int .i64 m.ret, .bool m.over, .int .i64 m.steps, .int .i64 m.looks, .int .i64 m.hits, .slice ma m.memo.length mc]
/-- It lies in block b. -/
structure Mb (W : World) (b : Nat) (m : Mc) (ra va ma : Option Addr) (rc vc mc : Nat) : Prop where
  c0 : W.cell? ⟨b, 0, none⟩ = some (.slice ra m.row.length rc)
  c1 : W.cell? ⟨b, 1, none⟩ = some (.int .i64 m.N)
  c2 : W.cell? ⟨b, 2, none⟩ = some (.string m.S)
  c3 : W.cell? ⟨b, 3, none⟩ = some (.int .i64 m.room)
  c4 : W.cell? ⟨b, 4, none⟩ = some (.slice va m.vals.length vc)
  c5 : W.cell? ⟨b, 5, none⟩ = some (.int .i64 m.ret)
  c6 : W.cell? ⟨b, 6, none⟩ = some (.bool m.over)
  c7 : W.cell? ⟨b, 7, none⟩ = some (.int .i64 m.steps)
  c8 : W.cell? ⟨b, 8, none⟩ = some (.int .i64 m.looks)
  c9 : W.cell? ⟨b, 9, none⟩ = some (.int .i64 m.hits)
  c10 : W.cell? ⟨b, 10, none⟩ = some (.slice ma m.memo.length mc)
theorem Mb.lt {W : World} {b : Nat} {m : Mc} {ra va ma : Option Addr} {rc vc mc : Nat} (h : Mb W b m ra va ma rc vc mc) : b < W.heap.size := World.block_lt_of_cell? _ _ h.c0
theorem Mb.kept {W W' : World} {b : Nat} {m : Mc} {ra va ma : Option Addr} {rc vc mc : Nat} (h : Mb W b m ra va ma rc vc mc) {S : Nat → Prop} (k : Kept S W W') (hs : ¬ S b) : Mb W' b m ra va ma rc vc mc :=
  ⟨by rw [k.cell (p := ⟨b, 0, none⟩) h.lt hs]; exact h.c0, by rw [k.cell (p := ⟨b, 1, none⟩) h.lt hs]; exact h.c1, by rw [k.cell (p := ⟨b, 2, none⟩) h.lt hs]; exact h.c2, by rw [k.cell (p := ⟨b, 3, none⟩) h.lt hs]; exact h.c3, by rw [k.cell (p := ⟨b, 4, none⟩) h.lt hs]; exact h.c4, by rw [k.cell (p := ⟨b, 5, none⟩) h.lt hs]; exact h.c5, by rw [k.cell (p := ⟨b, 6, none⟩) h.lt hs]; exact h.c6, by rw [k.cell (p := ⟨b, 7, none⟩) h.lt hs]; exact h.c7, by rw [k.cell (p := ⟨b, 8, none⟩) h.lt hs]; exact h.c8, by rw [k.cell (p := ⟨b, 9, none⟩) h.lt hs]; exact h.c9, by rw [k.cell (p := ⟨b, 10, none⟩) h.lt hs]; exact h.c10⟩
theorem Mb.below {W W' : World} {b : Nat} {m : Mc} {ra va ma : Option Addr} {rc vc mc : Nat} (h : Mb W b m ra va ma rc vc mc) (k : Below W.heap.size W W') : Mb W' b m ra va ma rc vc mc := h.kept (S := fun _ => False) (Kept.ofBelow k) (fun h => h)
theorem Mb.alloc {W : World} {b : Nat} {m : Mc} {ra va ma : Option Addr} {rc vc mc : Nat} (h : Mb W b m ra va ma rc vc mc) (o : Obj) : Mb (W.alloc o) b m ra va ma rc vc mc := h.kept (S := fun _ => False) ((Kept.refl _ _).alloc _) (fun h => h)
theorem Mb.made (W : World) (m : Mc) (ra va ma : Option Addr) (rc vc mc : Nat) (T : Nat) : Mb (W.alloc (.cells #[.slice ra m.row.length rc, .int .i64 m.N, .string m.S, .int .i64 m.room, .slice va m.vals.length vc, .int .i64 m.ret, .bool m.over, .int .i64 m.steps, .int .i64 m.looks, .int .i64 m.hits, .slice ma m.memo.length mc] T)) W.heap.size m ra va ma rc vc mc := ⟨by simp, by simp, by simp, by simp, by simp, by simp, by simp, by simp, by simp, by simp, by simp⟩
/-- What it points to can be read. -/
structure Mr (W : World) (m : Mc) (ra va ma : Option Addr) : Prop where
  row : Bools W ra m.row
  vals : Ints W va m.vals
  memo : Sns W ma m.memo
theorem Mr.below {W W' : World} {m : Mc} {ra va ma : Option Addr} (h : Mr W m ra va ma) (k : Below W.heap.size W W') : Mr W' m ra va ma := ⟨h.row.below k, h.vals.below k, h.memo.below k⟩
/-- No two keys are alike. -/
def apart (l : List Sn) : Prop := ∀ i j (hi : i < l.length) (hj : j < l.length), j < i → l[j].k ≠ l[i].k
/-- A right machine. -/
structure Mok (m : Mc) : Prop where
  tab : tokB m.N (tl m.S) = true
  row : (m.row.length : Int) = m.N
  room : 0 ≤ m.room ∧ m.room ≤ 40
  memo : (m.memo.length : Int) ≤ m.room
  vals : (m.vals.length : Int) ≤ m.N
  ret : -1 ≤ m.ret ∧ m.ret ≤ 1
  over : m.over = true → 0 ≤ m.ret ∧ m.vals.length = 0
  steps : 0 ≤ m.steps ∧ m.steps ≤ 1000000000
  looks : 0 ≤ m.looks ∧ m.looks ≤ 1000000000
  hits : 0 ≤ m.hits ∧ m.hits ≤ 1000000000
  bits : ∀ x ∈ m.vals, 0 ≤ x ∧ x ≤ 1
  seen : ∀ x ∈ m.memo, 0 ≤ x.r ∧ x.r ≤ 1
  keys : apart m.memo

end Go.Proofs.YtmpbedfiamlbpaaGreatDoor.Mm0

/- Arguments that are machines, opened. -/
namespace Go.Proofs.YtmpbedfiamlbpaaGreatDoor.Op5
open Go.RowKit Go.ChangeShapes Go.WideShapes
open Nd0 (Ints)
open Nd6 (Bools)
open Qc0 (Sn Sns)
open Mm0 (Mc Mr)
set_option linter.unusedVariables false

theorem cellsInt : Tryz.prog.cellsOf 3 = 1 := by kernel_rfl
theorem cellsBool : Tryz.prog.cellsOf 4 = 1 := by kernel_rfl
theorem cellsTable : Tryz.prog.cellsOf 51 = 2 := by kernel_rfl
theorem cellsBs : Tryz.prog.cellsOf 24 = 1 := by kernel_rfl
theorem cellsIs : Tryz.prog.cellsOf 27 = 1 := by kernel_rfl
theorem cellsSs : Tryz.prog.cellsOf 52 = 1 := by kernel_rfl
theorem cellsMachine : Tryz.prog.cellsOf 54 = 11 := by kernel_rfl
theorem range_of {x : Int} (h : (Lit.int .i64 x).wf = true) : -9223372036854775808 ≤ x ∧ x ≤ 9223372036854775807 := by
  have e1 : IntKind.i64.min = -9223372036854775808 := by decide
  have e2 : IntKind.i64.max = 9223372036854775807 := by decide
  simp [Lit.wf, e1, e2] at h; omega
theorem eleven {α : Type} (l : List α) (h : l.length = 11) : ∃ z0 z1 z2 z3 z4 z5 z6 z7 z8 z9 z10, l = [z0, z1, z2, z3, z4, z5, z6, z7, z8, z9, z10] := by
  match l, h with
  | [z0, z1, z2, z3, z4, z5, z6, z7, z8, z9, z10], _ => exact ⟨z0, z1, z2, z3, z4, z5, z6, z7, z8, z9, z10, rfl⟩
theorem ten {α : Type} (l : List α) (h : l.length = 10) : ∃ z0 z1 z2 z3 z4 z5 z6 z7 z8 z9, l = [z0, z1, z2, z3, z4, z5, z6, z7, z8, z9] := by
  match l, h with
  | [z0, z1, z2, z3, z4, z5, z6, z7, z8, z9], _ => exact ⟨z0, z1, z2, z3, z4, z5, z6, z7, z8, z9, rfl⟩

section
variable {H : Type} {enc : TypeId × Value → H} {w : World} {base : Nat} {spare : Nat → Bool} {held : Bool}
/-- A list that can be read, with its cell. -/
theorem bools_cell {fuel : Nat} {c : Value} {x : DataW H × List MemPlace} (h : DataW.trod enc Tryz.prog w base spare held fuel 24 [c] = some x) : ∃ (a : Option Addr) (l : List Bool) (k : Nat), c = .slice a l.length k ∧ Bools w a l := by
  rcases Deep.open_slice Tryz.underlying24 h with ⟨hcs, _⟩ | ⟨b, len', cap', m, n, D, Pl, hcs, _⟩
  · simp at hcs
    subst hcs
    exact ⟨none, [], 0, rfl, Nat.zero_le _, .inl rfl⟩
  · simp at hcs
    subst hcs
    obtain ⟨_, l, hl, hA⟩ := Op4.bools_open h
    subst hl
    exact ⟨_, l, _, rfl, hA⟩
theorem ints_cell {fuel : Nat} {c : Value} {x : DataW H × List MemPlace} (h : DataW.trod enc Tryz.prog w base spare held fuel 27 [c] = some x) : ∃ (a : Option Addr) (l : List Int) (k : Nat), c = .slice a l.length k ∧ Ints w a l := by
  rcases Deep.open_slice Tryz.underlying27 h with ⟨hcs, _⟩ | ⟨b, len', cap', m, n, D, Pl, hcs, _⟩
  · simp at hcs
    subst hcs
    exact ⟨none, [], 0, rfl, Nat.zero_le _, .inl rfl⟩
  · simp at hcs
    subst hcs
    obtain ⟨_, l, hl, hA⟩ := Op2.ints_open h
    subst hl
    exact ⟨_, l, _, rfl, hA⟩
theorem sns_cell {fuel : Nat} {c : Value} {x : DataW H × List MemPlace} (h : DataW.trod enc Tryz.prog w base spare held fuel 52 [c] = some x) : ∃ (a : Option Addr) (l : List Sn) (k : Nat), c = .slice a l.length k ∧ Sns w a l ∧ ∀ x ∈ l, x.k.size ≤ maxLen := by
  rcases Deep.open_slice Tryz.underlying52 h with ⟨hcs, _⟩ | ⟨b, len', cap', m, n, D, Pl, hcs, _⟩
  · simp at hcs
    subst hcs
    exact ⟨none, [], 0, rfl, ⟨Nat.zero_le _, .inl rfl⟩, fun x hx => by cases hx⟩
  · simp at hcs
    subst hcs
    obtain ⟨_, l, hl, hA, hS⟩ := Qc3.opensSn h
    subst hl
    exact ⟨_, l, _, rfl, hA, hS⟩
theorem machine_open {fuel : Nat} {cs : List Value} {x : DataW H × List MemPlace} (h : DataW.trod enc Tryz.prog w base spare held fuel 54 cs = some x) :
    ∃ (m : Mc) (ra va ma : Option Addr) (rc vc mc : Nat), cs = [.slice ra m.row.length rc, .int .i64 m.N, .string m.S, .int .i64 m.room, .slice va m.vals.length vc, .int .i64 m.ret, .bool m.over, .int .i64 m.steps, .int .i64 m.looks, .int .i64 m.hits, .slice ma m.memo.length mc] ∧ Mr w m ra va ma ∧ m.S.size ≤ maxLen ∧ ∀ x ∈ m.memo, x.k.size ≤ maxLen := by
  obtain ⟨xs, mm, _, rfl, hl, hlen, hf⟩ := DataW.trod_struct Tryz.underlying54 h
  rw [cellsMachine] at hl
  obtain ⟨c0, c1, c2, c3, c4, c5, c6, c7, c8, c9, c10, rfl⟩ := eleven cs hl
  obtain ⟨y0, y1, y2, y3, y4, y5, y6, y7, y8, y9, rfl⟩ := ten xs (by simpa using hlen)
  have g0 := hf 0 _ rfl
  have g1 := hf 1 _ rfl
  have g2 := hf 2 _ rfl
  have g3 := hf 3 _ rfl
  have g4 := hf 4 _ rfl
  have g5 := hf 5 _ rfl
  have g6 := hf 6 _ rfl
  have g7 := hf 7 _ rfl
  have g8 := hf 8 _ rfl
  have g9 := hf 9 _ rfl
  simp [cellsInt, cellsBool, cellsTable, cellsBs, cellsIs, cellsSs] at g0 g1 g2 g3 g4 g5 g6 g7 g8 g9
  obtain ⟨ra, row, rc, rfl, hrow⟩ := bools_cell g0
  obtain ⟨N, S, e1, hS⟩ := Op2.table_open g1
  simp at e1
  obtain ⟨rfl, rfl⟩ := e1
  obtain ⟨n2, e2, _, _⟩ := DataW.trod_int Tryz.underlying3 g2
  obtain ⟨va, vals, vc, rfl, hvals⟩ := ints_cell g3
  obtain ⟨n4, e4, _, _⟩ := DataW.trod_int Tryz.underlying3 g4
  obtain ⟨b5, e5, _⟩ := DataW.trod_bool Tryz.underlying4 g5
  obtain ⟨n6, e6, _, _⟩ := DataW.trod_int Tryz.underlying3 g6
  obtain ⟨n7, e7, _, _⟩ := DataW.trod_int Tryz.underlying3 g7
  obtain ⟨n8, e8, _, _⟩ := DataW.trod_int Tryz.underlying3 g8
  obtain ⟨ma, memo, mc, rfl, hmemo, hk⟩ := sns_cell g9
  simp at e2 e4 e5 e6 e7 e8
  subst e2 e4 e5 e6 e7 e8
  exact ⟨⟨row, N, S, n2, vals, n4, b5, n6, n7, n8, memo⟩, ra, va, ma, rc, vc, mc, rfl, ⟨hrow, hvals, hmemo⟩, hS, hk⟩
end

end Go.Proofs.YtmpbedfiamlbpaaGreatDoor.Op5

/- A contract of a whole row, its tables and its world's shape handed on to the walk. -/
namespace Go.Proofs.YtmpbedfiamlbpaaGreatDoor.Hs0
variable {H : Type} {enc : TypeId × Value → H}

theorem andShaped {C : Checked} {os : Os} {f : FuncId} {fn : Func} {s : ChangeSpec} {apart fresh handsOn again : Bool} {X : World → Array Value → Prop}
    (hX : ∀ (w w' : World) (args : Array Value), w.heap = w'.heap → X w args → X w' args)
    (own : ownKnob C.prog.godebug = none) (started : os.Started) (noInit : C.prog.inits.idxOf? f = none) (hfn : C.prog.funcs[f]? = some fn)
    (witness : ∃ (w : World) (tape : Tape) (i : Input), w.os = os ∧ (w.forCall tape i).Shaped C.prog ∧ i.vars = [] ∧ Input.okWide C.prog (w.forCall tape i) .any w.heap.size f i ∧
      ((s.pre enc C.prog fn [] apart (w.forCall tape i).memory i.args ∧ X (w.forCall tape i).memory i.args) ∧ sizedMet enc C.prog fn (OpenSpec.ofChange s) apart (w.forCall tape i).memory i.args) ∧ ({} : Assume).holds C.prog (lone (Frame.enter C.prog f i.args .normal) [] (w.forCall tape i)))
    (walk : ∀ (W : World) (base : Nat) (args : Array Value) (ds gs : List (DataW H)) (before : List MemPlace),
      (∀ (j : Nat) t v, fn.params[j]? = some t → args[j]? = some v → Value.okWide C.prog W .any base t v) →
      DataW.Whole enc C.prog fn.params.toList s.vars apart W args.toList ds gs before → X W args → W.ShapedOpen C.prog →
      Calls C.prog f args W fun e W' => ∃ v, e = .returned v ∧ s.post enc C.prog fn apart fresh handsOn again W args v W') :
    ReturnsInHanded {} C os f .any (fun w args => (s.pre enc C.prog fn [] apart w args ∧ X w args) ∧ sizedMet enc C.prog fn (OpenSpec.ofChange s) apart w args) (s.post enc C.prog fn apart fresh handsOn again) := by
  refine returnsInHanded_of_calls own started noInit witness ?_
  intro w tape i _ hsh _ hok hpre _
  obtain ⟨_, _, _, fn', hfn', _, _, _, _, hval⟩ := hok
  obtain rfl : fn' = fn := Option.some.inj (hfn'.symm.trans hfn)
  obtain ⟨⟨⟨ds, gs, before, hw, hc⟩, hx⟩, hz⟩ := hpre
  have hw' := DataW.Whole.of_heap (w' := w.forCall tape i) (by rfl) hw
  refine (walk (w.forCall tape i) w.heap.size i.args ds gs before hval hw' (hX (w.forCall tape i).memory (w.forCall tape i) _ rfl hx) hsh).mono fun e W' ⟨v, he, hp⟩ => ?_
  subst he
  exact ChangeSpec.post_blind hp

end Go.Proofs.YtmpbedfiamlbpaaGreatDoor.Hs0
