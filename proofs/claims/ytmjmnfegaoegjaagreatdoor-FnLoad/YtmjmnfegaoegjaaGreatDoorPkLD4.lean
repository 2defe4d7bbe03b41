/- Small texts of mine, one behind the other. -/
import Derived.Laws.MakeOwn
import Derived.Test.YtmjmnfegaoegjaaGreatDoorPkLD3
import Derived.Test.YtmjmnfegaoegjaaGreatDoorPkLD0
import Derived.Test.YtmjmnfegaoegjaaGreatDoorPkLD1
import Derived.Test.YtmjmnfegaoegjaaGreatDoorPkLD2
/- Lists of flags at the exact laws' helpers; the helpers' marks from greater numbers on; copies of lists of whole numbers. -/
namespace Go.Proofs.YtmjmnfegaoegjaaGreatDoor.Nd6
open Go.RowKit
open Nd0 Nd1 Nd2 Nd3 Ap1
set_option linter.unusedVariables false

def Bools (w : World) (a : Option Addr) (l : List Bool) : Prop :=
  l.length ≤ maxLen ∧ (l.length = 0 ∨ ∃ b o, a = some ⟨b, o, none⟩ ∧ ∀ i (h : i < l.length), w.cell? ⟨b, o + i, none⟩ = some (.bool l[i]))
theorem Bools.below {w w' : World} {a : Option Addr} {l : List Bool} (h : Bools w a l) (k : Below w.heap.size w w') : Bools w' a l := by
  refine ⟨h.1, ?_⟩
  rcases h.2 with h0 | ⟨b, o, rfl, hc⟩
  · exact .inl h0
  · exact .inr ⟨b, o, rfl, fun i hi => by rw [k.cell (lt_of_cell (hc i hi))]; exact hc i hi⟩
def BoolsIn (w : World) (B U : Nat) (a : Option Addr) (l : List Bool) : Prop :=
  l.length ≤ maxLen ∧ (l.length = 0 ∨ ∃ b o, a = some ⟨b, o, none⟩ ∧ B ≤ b ∧ b < U ∧ ∀ i (h : i < l.length), w.cell? ⟨b, o + i, none⟩ = some (.bool l[i]) ∧ w.frozen? ⟨b, o + i, none⟩ = false)
theorem WBools.within {w : World} {B : Nat} {a : Option Addr} {l : List Bool} (h : WBools w B a l) : BoolsIn w B w.heap.size a l := by
  refine ⟨h.1, ?_⟩
  by_cases e : l.length = 0
  · exact .inl e
  · rcases h.2 with h0 | ⟨b, o, ha, hB, hc⟩
    · exact .inl h0
    · exact .inr ⟨b, o, ha, hB, lt_of_cell (p := ⟨b, o + 0, none⟩) (hc 0 (by omega)).1, hc⟩
theorem BoolsIn.wr {w : World} {B U : Nat} {a : Option Addr} {l : List Bool} (h : BoolsIn w B U a l) : WBools w B a l := by
  refine ⟨h.1, ?_⟩
  rcases h.2 with h0 | ⟨b, o, ha, hB, _, hc⟩
  · exact .inl h0
  · exact .inr ⟨b, o, ha, hB, hc⟩
theorem WBools.plain {w : World} {B : Nat} {a : Option Addr} {l : List Bool} (h : WBools w B a l) : Bools w a l := by
  refine ⟨h.1, ?_⟩
  rcases h.2 with h0 | ⟨b, o, ha, _, hc⟩
  · exact .inl h0
  · exact .inr ⟨b, o, ha, fun i hi => (hc i hi).1⟩
theorem BoolsIn.plain {w : World} {B U : Nat} {a : Option Addr} {l : List Bool} (h : BoolsIn w B U a l) : Bools w a l := WBools.plain h.wr
theorem BoolsIn.kept {w w' : World} {B U : Nat} {a : Option Addr} {l : List Bool} (h : BoolsIn w B U a l) {S : Nat → Prop} (k : Kept S w w') (hs : ∀ b, B ≤ b → b < U → ¬ S b) : BoolsIn w' B U a l := by
  refine ⟨h.1, ?_⟩
  rcases h.2 with h0 | ⟨b, o, rfl, hB, hU, hc⟩
  · exact .inl h0
  · exact .inr ⟨b, o, rfl, hB, hU, fun i hi => ⟨by rw [k.cell (lt_of_cell (hc i hi).1) (hs b hB hU)]; exact (hc i hi).1, by rw [k.frozen (p := ⟨b, o + i, none⟩) (lt_of_cell (hc i hi).1) (hs b hB hU)]; exact (hc i hi).2⟩⟩
theorem BoolsIn.below {w w' : World} {B U : Nat} {a : Option Addr} {l : List Bool} (h : BoolsIn w B U a l) (k : Below w.heap.size w w') : BoolsIn w' B U a l :=
  h.kept (S := fun _ => False) (Kept.ofBelow k) (fun _ _ _ h => h)
theorem _root_.Go.Proofs.YtmjmnfegaoegjaaGreatDoor.Nd0.IntsIn.ints {w : World} {B U : Nat} {a : Option Addr} {l : List Int} (h : IntsIn w B U a l) : Ints w a l := h.wints.ints
end Go.Proofs.YtmjmnfegaoegjaaGreatDoor.Nd6

/- Plain facts of tables: halves, places, needs. -/
namespace Go.Proofs.YtmjmnfegaoegjaaGreatDoor.Ta2
open Go.RowKit
open Ta0 Ta1
open Ss0 (bs bs_size ret_str bs_ext)
set_option linter.unusedVariables false

theorem half_cut (n b : Nat) (F : Nat → Bool) (hb : b ≤ 1) : ((tab (n + 1) F).take (b * 2 ^ n + 2 ^ n)).drop (b * 2 ^ n) = tab n fun p => F (b * 2 ^ n + p) := by
  have hp : 2 ^ (n + 1) = 2 * 2 ^ n := by rw [Nat.pow_succ]; omega
  have hle : b * 2 ^ n + 2 ^ n ≤ 2 ^ (n + 1) := by rcases (by omega : b = 0 ∨ b = 1) with rfl | rfl <;> omega
  refine list_tab ?_ fun i hi => ?_
  · rw [List.length_drop, List.length_take, tab_length]; omega
  · rw [List.getElem_drop, List.getElem_take, tab_get]
theorem half_text (n b : Nat) (F : Nat → Bool) (hb : b ≤ 1) : (bs (tab (n + 1) F)).extract (b * 2 ^ n) (b * 2 ^ n + 2 ^ n) = bs (tab n fun p => F (b * 2 ^ n + p)) := by
  rw [bs_ext, half_cut n b F hb]

def bitB (x : Int) : Bool := decide (x = 0 ∨ x = 1)
end Go.Proofs.YtmjmnfegaoegjaaGreatDoor.Ta2

/- Rows of flags: copied, turned, owned. -/
namespace Go.Proofs.YtmjmnfegaoegjaaGreatDoor.Dq0
open Go.RowKit
open Nd0 Nd1 Nd2 Nd3 Ap1 Nd6
open Ta2 (bitB)
set_option linter.unusedVariables false

end Go.Proofs.YtmjmnfegaoegjaaGreatDoor.Dq0

/- The draw of a row and a table. -/
namespace Go.Proofs.YtmjmnfegaoegjaaGreatDoor.Ddr
open Go.RowKit
open Ta0 Ta1 Tc2 Tc5 Td2 Tdw Ap1
open Nd0 (Kept set_same)
open Nd6 (Bools)
open Dr0 (Cur Only Bytes)
open Ss0 (bs bs_size)
set_option linter.unusedVariables false

structure DB (w : World) (b : Nat) (a : Option Addr) (len cap : Nat) (v : Value) (k : Nat) (W : World) : Prop where
  cur : Cur W b a len cap
  own : ∃ l : List Bool, l.length = k ∧ Owb W w.heap.size v l
  siz : w.heap.size ≤ W.heap.size
  onl : Only b w W
theorem DB.only {w W W' : World} {b : Nat} {a : Option Addr} {len cap : Nat} {v : Value} {k : Nat} (h : DB w b a len cap v k W) (hb : b < w.heap.size) (hc : Cur W' b a len cap) (ho : Only b W W') : DB w b a len cap v k W' := by
  obtain ⟨l, h1, h2⟩ := h.own
  exact ⟨hc, ⟨l, h1, h2.kept (kept_of_only ho) (fun i hi e => by have := (h2.lt i hi).1; omega)⟩, by have := ho.size; have := h.siz; omega, h.onl.trans ho⟩
theorem DB.next {w W W' : World} {b : Nat} {a : Option Addr} {len cap : Nat} {v v' : Value} {k k' : Nat} {l' : List Bool} (h : DB w b a len cap v k W) (hb : b < w.heap.size) (hlo : Low a len w.heap.size) (hk : Kept (fun x => v.ownBlock = some x) W W') (hl : l'.length = k') (ho : Owb W' w.heap.size v' l') : DB w b a len cap v' k' W' := by
  obtain ⟨l, h1, h2⟩ := h.own
  have hv : ∀ x, v.ownBlock = some x → w.heap.size ≤ x := fun x hx => (h2.lt x hx).1
  refine ⟨cur_kept h.cur hk (fun e => by have := hv _ e; omega) ?_, ⟨l', hl, ho⟩, by have := hk.size; have := h.siz; omega, only_app h.onl hk (fun x hx => by have := hv x hx; omega)⟩
  rcases hlo with h0 | h0
  · exact .inl h0
  · exact .inr fun x hx e => by have := h0 x hx; have := hv _ e; omega

end Go.Proofs.YtmjmnfegaoegjaaGreatDoor.Ddr

/- Seens as plain data, and what it is that a slice of them can be read, written, kept. Written by tools/mkflat.py. -/
namespace Go.Proofs.YtmjmnfegaoegjaaGreatDoor.Qc0
open Go.RowKit
open Nd0
set_option linter.unusedVariables false

structure Sn where
  k : ByteArray
  r : Int

def Sn.zero : Sn := ⟨ByteArray.empty, 0⟩
def Sn.cells (x : Sn) : List Value := [.string x.k, .int .i64 x.r]
structure SnAt (w : World) (b p : Nat) (n : Sn) : Prop where
  c0 : w.cell? ⟨b, p, none⟩ = some (.string n.k)
  c1 : w.cell? ⟨b, p + 1, none⟩ = some (.int .i64 n.r)
def Sns (w : World) (a : Option Addr) (l : List Sn) : Prop :=
  l.length ≤ maxLen ∧ (l.length = 0 ∨ ∃ b o, a = some ⟨b, o, none⟩ ∧ ∀ i (h : i < l.length), SnAt w b (o + i * 2) l[i])
theorem SnAt.lt {w : World} {b p : Nat} {n : Sn} (h : SnAt w b p n) : b < w.heap.size := lt_of_cell (p := ⟨b, p, none⟩) h.c0
theorem SnAt.below {w w' : World} {b p : Nat} {n : Sn} (h : SnAt w b p n) {B : Nat} (k : Below B w w') (hb : b < B) : SnAt w' b p n :=
  ⟨by rw [k.cell hb]; exact h.c0, by rw [k.cell hb]; exact h.c1⟩
theorem Sns.below {w w' : World} {a : Option Addr} {l : List Sn} (h : Sns w a l) (k : Below w.heap.size w w') : Sns w' a l := by
  refine ⟨h.1, ?_⟩
  rcases h.2 with h0 | ⟨b, o, rfl, hc⟩
  · exact .inl h0
  · exact .inr ⟨b, o, rfl, fun i hi => (hc i hi).below k (hc i hi).lt⟩
def WSns (w : World) (B : Nat) (a : Option Addr) (l : List Sn) : Prop :=
  l.length ≤ maxLen ∧ (l.length = 0 ∨ ∃ b o, a = some ⟨b, o, none⟩ ∧ B ≤ b ∧ (∀ i (h : i < l.length), SnAt w b (o + i * 2) l[i]) ∧ ∀ j, j < l.length * 2 → w.frozen? ⟨b, o + j, none⟩ = false)
theorem WSns.plain {w : World} {B : Nat} {a : Option Addr} {l : List Sn} (h : WSns w B a l) : Sns w a l := by
  refine ⟨h.1, ?_⟩
  rcases h.2 with h0 | ⟨b, o, ha, _, hc, _⟩
  · exact .inl h0
  · exact .inr ⟨b, o, ha, hc⟩
end Go.Proofs.YtmjmnfegaoegjaaGreatDoor.Qc0

/- A machine's value, and its block. Written by tools/gen_mm0.py. -/
namespace Go.Proofs.YtmjmnfegaoegjaaGreatDoor.Mm0
open Go.RowKit
open Nd0 (Kept Ints set_other set_same lt_of_cell)
open Nd6 (Bools)
open Qc0 (Sn Sns)
open Ta1 (tokB)
open Ss1 (tl)
set_option linter.unusedVariables false

structure Mc where
  row : List Bool
  N : Int
  S : ByteArray
  room : Int
  vals : List Int
  ret : Int
  over : Bool
  steps : Int
  looks : Int
  hits : Int
  memo : List Sn
abbrev mval (m : Mc) (ra va ma : Option Addr) (rc vc mc : Nat) : Value := .agg #[.slice ra m.row.length rc, .int .i64 m.N, .string m.S, .int .i64 m.room, .slice va m.vals.length vc, .int .i64 m.ret, .bool m.over, .int .i64 m.steps, .int .i64 m.looks, .int .i64 m.hits, .slice ma m.memo.length mc]
structure Mb (W : World) (b : Nat) (m : Mc) (ra va ma : Option Addr) (rc vc mc : Nat) : Prop where
  c0 : W.cell? ⟨b, 0, none⟩ = some (.slice ra m.row.length rc)
  c1 : W.cell? ⟨b, 1, none⟩ = some (.int .i64 m.N)
  c2 : W.cell? ⟨b, 2, none⟩ = some (.string m.S)
  c3 : W.cell? ⟨b, 3, none⟩ = some (.int .i64 m.room)
  c4 : W.cell? ⟨b, 4, none⟩ = some (.slice va m.vals.length vc)
  c5 : W.cell? ⟨b, 5, none⟩ = some (.int .i64 m.ret)
  c6 : W.cell? ⟨b, 6, none⟩ = some (.bool m.over)
  c7 : W.cell? ⟨b, 7, none⟩ = some (.int .i64 m.steps)
  c8 : W.cell? ⟨b, 8, none⟩ = some (.int .i64 m.looks)
  c9 : W.cell? ⟨b, 9, none⟩ = some (.int .i64 m.hits)
  c10 : W.cell? ⟨b, 10, none⟩ = some (.slice ma m.memo.length mc)
theorem Mb.lt {W : World} {b : Nat} {m : Mc} {ra va ma : Option Addr} {rc vc mc : Nat} (h : Mb W b m ra va ma rc vc mc) : b < W.heap.size := World.block_lt_of_cell? _ _ h.c0
theorem Mb.kept {W W' : World} {b : Nat} {m : Mc} {ra va ma : Option Addr} {rc vc mc : Nat} (h : Mb W b m ra va ma rc vc mc) {S : Nat → Prop} (k : Kept S W W') (hs : ¬ S b) : Mb W' b m ra va ma rc vc mc :=
  ⟨by rw [k.cell (p := ⟨b, 0, none⟩) h.lt hs]; exact h.c0, by rw [k.cell (p := ⟨b, 1, none⟩) h.lt hs]; exact h.c1, by rw [k.cell (p := ⟨b, 2, none⟩) h.lt hs]; exact h.c2, by rw [k.cell (p := ⟨b, 3, none⟩) h.lt hs]; exact h.c3, by rw [k.cell (p := ⟨b, 4, none⟩) h.lt hs]; exact h.c4, by rw [k.cell (p := ⟨b, 5, none⟩) h.lt hs]; exact h.c5, by rw [k.cell (p := ⟨b, 6, none⟩) h.lt hs]; exact h.c6, by rw [k.cell (p := ⟨b, 7, none⟩) h.lt hs]; exact h.c7, by rw [k.cell (p := ⟨b, 8, none⟩) h.lt hs]; exact h.c8, by rw [k.cell (p := ⟨b, 9, none⟩) h.lt hs]; exact h.c9, by rw [k.cell (p := ⟨b, 10, none⟩) h.lt hs]; exact h.c10⟩
theorem Mb.below {W W' : World} {b : Nat} {m : Mc} {ra va ma : Option Addr} {rc vc mc : Nat} (h : Mb W b m ra va ma rc vc mc) (k : Below W.heap.size W W') : Mb W' b m ra va ma rc vc mc := h.kept (S := fun _ => False) (Kept.ofBelow k) (fun h => h)
theorem Mb.alloc {W : World} {b : Nat} {m : Mc} {ra va ma : Option Addr} {rc vc mc : Nat} (h : Mb W b m ra va ma rc vc mc) (o : Obj) : Mb (W.alloc o) b m ra va ma rc vc mc := h.kept (S := fun _ => False) ((Kept.refl _ _).alloc _) (fun h => h)
theorem Mb.made (W : World) (m : Mc) (ra va ma : Option Addr) (rc vc mc : Nat) (T : Nat) : Mb (W.alloc (.cells #[.slice ra m.row.length rc, .int .i64 m.N, .string m.S, .int .i64 m.room, .slice va m.vals.length vc, .int .i64 m.ret, .bool m.over, .int .i64 m.steps, .int .i64 m.looks, .int .i64 m.hits, .slice ma m.memo.length mc] T)) W.heap.size m ra va ma rc vc mc := ⟨by simp, by simp, by simp, by simp, by simp, by simp, by simp, by simp, by simp, by simp, by simp⟩
structure Mr (W : World) (m : Mc) (ra va ma : Option Addr) : Prop where
  row : Bools W ra m.row
  vals : Ints W va m.vals
  memo : Sns W ma m.memo
theorem Mr.below {W W' : World} {m : Mc} {ra va ma : Option Addr} (h : Mr W m ra va ma) (k : Below W.heap.size W W') : Mr W' m ra va ma := ⟨h.row.below k, h.vals.below k, h.memo.below k⟩
def apart (l : List Sn) : Prop := ∀ i j (hi : i < l.length) (hj : j < l.length), j < i → l[j].k ≠ l[i].k
structure Mok (m : Mc) : Prop where
  tab : tokB m.N (tl m.S) = true
  row : (m.row.length : Int) = m.N
  room : 0 ≤ m.room ∧ m.room ≤ 40
  memo : (m.memo.length : Int) ≤ m.room
  vals : (m.vals.length : Int) ≤ m.N
  ret : -1 ≤ m.ret ∧ m.ret ≤ 1
  over : m.over = true → 0 ≤ m.ret ∧ m.vals.length = 0
  steps : 0 ≤ m.steps ∧ m.steps ≤ 1000000000
  looks : 0 ≤ m.looks ∧ m.looks ≤ 1000000000
  hits : 0 ≤ m.hits ∧ m.hits ≤ 1000000000
  bits : ∀ x ∈ m.vals, 0 ≤ x ∧ x ≤ 1
  seen : ∀ x ∈ m.memo, 0 ≤ x.r ∧ x.r ≤ 1
  keys : apart m.memo

end Go.Proofs.YtmjmnfegaoegjaaGreatDoor.Mm0

/- Plain facts of a table and its two halves. -/
namespace Go.Proofs.YtmjmnfegaoegjaaGreatDoor.Ta3
open Go.RowKit
open Ta0 Ta1 Ta2 Td1
open Ss0 (bs bs_size bs_app)
set_option linter.unusedVariables false

def hb (n b : Nat) (F : Nat → Bool) (p : Nat) : Bool := F (b * 2 ^ n + p)
end Go.Proofs.YtmjmnfegaoegjaaGreatDoor.Ta3

/- The verdict of a row and a table: plain facts. -/
namespace Go.Proofs.YtmjmnfegaoegjaaGreatDoor.De0
open Go.RowKit
open Ta1 Ta3
set_option linter.unusedVariables false

end Go.Proofs.YtmjmnfegaoegjaaGreatDoor.De0

/- Idle bits, and a bit taken out place by place: plain facts. -/
namespace Go.Proofs.YtmjmnfegaoegjaaGreatDoor.De1
open Go.RowKit
open Ta1 Ta2 Ta3 De0
set_option linter.unusedVariables false

end Go.Proofs.YtmjmnfegaoegjaaGreatDoor.De1

/- The verdict of a part of a table: plain facts. -/
namespace Go.Proofs.YtmjmnfegaoegjaaGreatDoor.Dv0
open Go.RowKit
open Ta1 Ta3 De0
set_option linter.unusedVariables false

end Go.Proofs.YtmjmnfegaoegjaaGreatDoor.Dv0

/- The machine as plain data: it comes to its end, with the verdict. -/
namespace Go.Proofs.YtmjmnfegaoegjaaGreatDoor.Mc0
open Go.RowKit
open Ta0 Ta1 Ta3 Td1 De0 Dv0
set_option linter.unusedVariables false

def pl (vs : List Bool) : Nat := vs.foldl (fun a b => 2 * a + b.toNat) 0
theorem pl_nil : pl [] = 0 := rfl
theorem pl_snoc (vs : List Bool) (b : Bool) : pl (vs ++ [b]) = 2 * pl vs + b.toNat := by unfold pl; rw [List.foldl_append]; rfl
def lft (n : Nat) (F : Nat → Bool) (vs : List Bool) (q : Nat) : Bool := F (pl vs * 2 ^ (n - vs.length) + q)
section
variable {row : List Bool} {F : Nat → Bool} {key : Nat → List UInt8 → List UInt8} {room : Nat}
end

end Go.Proofs.YtmjmnfegaoegjaaGreatDoor.Mc0

/- The model's functions over tables: both. -/
namespace Go.Proofs.YtmjmnfegaoegjaaGreatDoor.Td3
open Go.RowKit
open Ta0 Ta1 Tc2 Tc5 Ap9 Td1 Td2
open Nd0 (Kept set_other set_same lt_of_cell)
open Ss0 (bs bs_size ret_str bs_ext)
open Ss1 (tl tl_length tl_get tl_take bs_tl tl_bs tl_inj eqb)
set_option linter.unusedVariables false

end Go.Proofs.YtmjmnfegaoegjaaGreatDoor.Td3

/- The model's functions over tables: half, at. -/
namespace Go.Proofs.YtmjmnfegaoegjaaGreatDoor.Td4
open Go.RowKit
open Ta0 Ta1 Ta2 Tc2 Tc5 Ap9 Td1 Td2
open Nd0 (Kept Ints set_other set_same lt_of_cell)
open Ss0 (bs bs_size ret_str bs_ext)
open Ss1 (tl tl_length tl_get tl_take bs_tl tl_bs tl_inj eqb)
set_option linter.unusedVariables false

set_option maxRecDepth 100000 in
set_option maxHeartbeats 4000000 in
theorem sHalf (n b : Nat) (F : Nat → Bool) (w : World) (hn : n ≤ 11) (hb : b ≤ 1) :
    Calls Tryz.prog 137 #[tv ((n + 1 : Nat) : Int) (bs (tab (n + 1) F)), .int .i64 (b : Int)] w fun e w' => e = .returned (.tuple #[tv (n : Int) (bs (tab n fun p => F (b * 2 ^ n + p))), .bool true]) ∧ Below w.heap.size w w' := by
  have HO : Hid (∀ W, Calls Tryz.prog 87 #[tv ((n + 1 : Nat) : Int) (bs (tab (n + 1) F))] W fun e w' => e = .returned (.bool true) ∧ Below W.heap.size W w') := fun W => sOk1 (n + 1) F W (by omega)
  have HI : Hid (∀ W, Calls Tryz.prog 32 #[.int .i64 (b : Int), .int .i64 0, .int .i64 1] W fun e w' => e = .returned (.bool true) ∧ w' = W) := fun W => sInT W ⟨by omega, by omega⟩
  obtain ⟨hp, hl⟩ := p12 (n := n) (by omega)
  have hp1 : 2 ^ (n + 1) = 2 * 2 ^ n := by rw [Nat.pow_succ]; omega
  have hSz : (bs (tab (n + 1) F)).size = 2 * 2 ^ n := by rw [bs_size, tab_length, hp1]
  have HT : Hid ((bs (tab (n + 1) F)).extract (b * 2 ^ n) (b * 2 ^ n + 2 ^ n) = bs (tab n fun p => F (b * 2 ^ n + p))) := half_text n b F hb
  have e1 : ((n + 1 : Nat) : Int) - 1 = (n : Int) := by omega
  have hNb : (((n + 1 : Nat) : Int) == 0) = false := beq_eq_false_iff_ne.2 (by omega)
  clear hp1
  generalize bs (tab n fun p => F (b * 2 ^ n + p)) = RS at *
  generalize bs (tab (n + 1) F) = S at *
  generalize 2 ^ n = P at *
  have hSP : (S.size : Int) / 2 = (P : Int) := by omega
  have HSz : Hid (S.size = 2 * P) := hSz
  have hSl : S.size ≤ 8192 := by omega
  clear hSz
  generalize n + 1 = N at *
  have HA : Hid (Below w.heap.size w ((w.alloc (.cells #[.int .i64 (N : Int), .string S] 26)).alloc (.cells #[.int .i64 0, .string ByteArray.empty] 26))) := ((Below.refl _ _).alloc (Nat.le_refl _) _).alloc (by simp) _
  have HX : Hid (Lay ((w.alloc (.cells #[.int .i64 (N : Int), .string S] 26)).alloc (.cells #[.int .i64 0, .string ByteArray.empty] 26)) w.heap.size (.int .i64 (N : Int)) (.string S)) := (Lay.made _ _ _ _).alloc _
  have HR : Hid (Lay ((w.alloc (.cells #[.int .i64 (N : Int), .string S] 26)).alloc (.cells #[.int .i64 0, .string ByteArray.empty] 26)) (w.heap.size + 1) (.int .i64 0) (.string ByteArray.empty)) := by
    have := Lay.made (w.alloc (.cells #[.int .i64 (N : Int), .string S] 26)) (.int .i64 0) (.string ByteArray.empty) 26
    show Lay _ _ _ _
    simpa using this
  rcases (by omega : b = 0 ∨ b = 1) with rfl | rfl
  all_goals
    go_enter Tryz.func137, Tryz.ntmps137
    go_wp2_with fail
    refine (HO.out _).mono ?_
    rintro e w1 ⟨rfl, hb⟩
    have HA1 : Hid (Below w.heap.size w w1) := HA.out.trans (hb.mono HA.out.size)
    have HR1 : Hid (Lay w1 (w.heap.size + 1) (.int .i64 0) (.string ByteArray.empty)) := HR.out.below hb
    obtain ⟨x0, x1, _, _⟩ := HX.out.below hb
    clear hb
    obtain ⟨r0, r1, r2, r3⟩ := HR1.out
    have hext := HT.out
    go_wp2_with (go_at_call 32; refine (HI.out _).mono ?_; rintro e w' ⟨rfl, rfl⟩)
  · simp only [Nat.zero_mul, Nat.zero_add] at hext
    have hPS : (P : Int) ≤ (S.size : Int) := by have := HSz.out; omega
    go_region
    go_wp2
    obtain ⟨W, hW, hz, hbz⟩ := finT HR1.out HA1.out (by omega) (.int .i64 (n : Int)) (.string RS)
    rw [← hW]
    obtain ⟨z0, z1, _, _⟩ := hz
    exact bodyPost_ret (v := .tuple #[tv (n : Int) RS, .bool true]) (by simp [results, Tryz.results137, go_sem, z0, z1]) rfl ⟨rfl, below_drewN hbz 1⟩
  · simp only [Nat.one_mul] at hext
    have hPS : (P : Int) + (P : Int) ≤ (S.size : Int) := by have := HSz.out; omega
    go_region
    go_wp2
    obtain ⟨W, hW, hz, hbz⟩ := finT HR1.out HA1.out (by omega) (.int .i64 (n : Int)) (.string RS)
    rw [← hW]
    obtain ⟨z0, z1, _, _⟩ := hz
    exact bodyPost_ret (v := .tuple #[tv (n : Int) RS, .bool true]) (by simp [results, Tryz.results137, go_sem, z0, z1]) rfl ⟨rfl, below_drewN hbz 1⟩

end Go.Proofs.YtmjmnfegaoegjaaGreatDoor.Td4
