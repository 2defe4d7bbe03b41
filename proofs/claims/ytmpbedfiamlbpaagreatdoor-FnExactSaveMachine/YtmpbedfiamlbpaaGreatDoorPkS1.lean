/- Small texts of mine, one behind the other. -/
import Derived.Test.YtmpbedfiamlbpaaGreatDoorRows
import Derived.ProofKit
import Derived.Deep.Slices
import Derived.ChangeSlices
import Derived.WalkKit
import Derived.WalkSpells
import Derived.WalkLawsBesides
import Derived.Deep.QuietTactic
import Derived.BigQuiet
import Derived.Deep.RegionWith
import Derived.Deep.AppendLies
import Derived.OwnWalk
import Derived.Test.YtmpbedfiamlbpaaGreatDoorPkS0
/- Arguments that are lists of Seens, opened. Written by tools/gen_qc1.py. -/
namespace Go.Proofs.YtmpbedfiamlbpaaGreatDoor.Qc3
open Go.RowKit Go.ChangeShapes Go.WideShapes
open Nd0 Qc0
set_option linter.unusedVariables false

theorem cellsInt : Tryz.prog.cellsOf 3 = 1 := by kernel_rfl
theorem cellsStr : Tryz.prog.cellsOf 9 = 1 := by kernel_rfl
theorem cellsOfSn : Tryz.prog.cellsOf 156 = 2 := by kernel_rfl
theorem exactly {α : Type} (l : List α) (h : l.length = 2) : ∃ z0 z1, l = [z0, z1] := by
  match l, h with
  | [z0, z1], _ => exact ⟨z0, z1, rfl⟩

section
variable {H : Type} {enc : TypeId × Value → H} {w : World} {base : Nat} {spare : Nat → Bool} {held : Bool}

theorem openSn {fuel : Nat} {cs : List Value} {x : DataW H × List MemPlace} (h : DataW.trod enc Tryz.prog w base spare held fuel 156 cs = some x) :
    ∃ n : Sn, cs = n.cells ∧ n.k.size ≤ maxLen := by
  obtain ⟨xs, m, _, rfl, hl, hlen, hf⟩ := DataW.trod_struct Tryz.underlying156 h
  rw [cellsOfSn] at hl
  obtain ⟨c0, c1, rfl⟩ := exactly cs hl
  obtain ⟨y0, y1, rfl⟩ := exactly xs (by simpa using hlen)
  have g0 := hf 0 _ rfl
  have g1 := hf 1 _ rfl
  simp [cellsInt, cellsStr] at g0 g1
  obtain ⟨n0, e0, _, hS⟩ := DataW.trod_string Tryz.underlying9 g0
  obtain ⟨n1, e1, _, _⟩ := DataW.trod_int Tryz.underlying3 g1
  simp at e0 e1
  subst e0 e1
  exact ⟨⟨n0, n1⟩, rfl, hS⟩

theorem cellsSn {a : Addr} {cs : List Value} (h : w.cells? base a 2 = some cs) : cs.length = 2 ∧ ∀ i, i < 2 → w.cell? (a.add i) = cs[i]? := by
  unfold World.cells? at h
  split at h
  · have hl : cs.length = 2 := by simpa using mapM_some_length h
    refine ⟨hl, fun i hi => ?_⟩
    have := mapM_some_get h i i (by simp [hi])
    exact this
  · cases h

theorem opensSn {fuel : Nat} {a : Option Addr} {len cap : Nat} {x : DataW H × List MemPlace} (h : DataW.trod enc Tryz.prog w base spare held fuel 52 [.slice a len cap] = some x) :
    len ≤ maxLen ∧ ∃ l : List Sn, l.length = len ∧ Sns w a l ∧ ∀ x ∈ l, x.k.size ≤ maxLen := by
  rcases Deep.open_slice Tryz.underlying52 h with ⟨hcs, _⟩ | ⟨b, len', cap', m, n, D, Pl, hcs, _, hl, hm, hmm, _, hc⟩
  · simp at hcs
    obtain ⟨rfl, rfl, rfl⟩ := hcs
    exact ⟨Nat.zero_le _, [], rfl, ⟨Nat.zero_le _, .inl rfl⟩, fun x hx => by cases hx⟩
  · simp at hcs
    obtain ⟨rfl, rfl, rfl⟩ := hcs
    have hlm : len ≤ m := by rw [hmm]; split <;> omega
    have hall : ∀ i, i < len → ∃ nd : Sn, (∀ j, j < 2 → w.cell? ((b.add (i * 2)).add j) = nd.cells[j]?) ∧ nd.k.size ≤ maxLen := by
      intro i hi
      obtain ⟨cs', h1, h2⟩ := hc i (by omega)
      rw [cellsOfSn] at h1
      obtain ⟨nd, rfl, hS⟩ := openSn h2
      exact ⟨nd, (cellsSn h1).2, hS⟩
    refine ⟨by omega, ?_⟩
    obtain ⟨f, hf⟩ : ∃ f : Nat → Sn, ∀ i, i < len → (∀ j, j < 2 → w.cell? ((b.add (i * 2)).add j) = (f i).cells[j]?) ∧ (f i).k.size ≤ maxLen := by
      classical
      refine ⟨fun i => if hi : i < len then Classical.choose (hall i hi) else Sn.zero, fun i hi => ?_⟩
      simp only [dif_pos hi]
      exact Classical.choose_spec (hall i hi)
    refine ⟨(List.range len).map f, by simp, ⟨by simp; omega, ?_⟩, fun x hx => by
      obtain ⟨i, hi, rfl⟩ := List.mem_map.1 hx
      exact (hf i (List.mem_range.1 hi)).2⟩
    by_cases h0 : len = 0
    · exact .inl (by simp [h0])
    · obtain ⟨xb, xo, spot⟩ := b
      have hs : spot = none := by
        have := (hf 0 (by omega)).1 0 (by omega)
        simp [Addr.add, Sn.cells] at this
        simpa using World.cell?_spot this
      subst hs
      refine .inr ⟨xb, xo, rfl, fun i hi => ?_⟩
      have hi' : i < len := by simpa using hi
      have hg := (hf i hi').1
      simp only [Addr.add_lit] at hg
      have e : ((List.range len).map f)[i] = f i := by simp
      rw [e]
      exact ⟨hg 0 (by omega), hg 1 (by omega)⟩
end

end Go.Proofs.YtmpbedfiamlbpaaGreatDoor.Qc3

/- Arguments that are tables or lists of whole numbers, opened. -/
namespace Go.Proofs.YtmpbedfiamlbpaaGreatDoor.Op2
open Go.RowKit Go.ChangeShapes Go.WideShapes
open Nd0
set_option linter.unusedVariables false

theorem cellsInt : Tryz.prog.cellsOf 3 = 1 := by kernel_rfl
theorem cellsStr : Tryz.prog.cellsOf 9 = 1 := by kernel_rfl
theorem cellsTable : Tryz.prog.cellsOf 51 = 2 := by kernel_rfl
theorem pair {α : Type} (l : List α) (h : l.length = 2) : ∃ a b, l = [a, b] := by
  match l, h with
  | [a, b], _ => exact ⟨a, b, rfl⟩
theorem table_open {H : Type} {enc : TypeId × Value → H} {w : World} {base : Nat} {spare : Nat → Bool} {held : Bool} {fuel : Nat} {cs : List Value} {x : DataW H × List MemPlace} (h : DataW.trod enc Tryz.prog w base spare held fuel 51 cs = some x) :
    ∃ (N : Int) (S : ByteArray), cs = [.int .i64 N, .string S] ∧ S.size ≤ maxLen := by
  obtain ⟨xs, m, _, rfl, hl, hlen, hf⟩ := DataW.trod_struct Tryz.underlying51 h
  rw [cellsTable] at hl
  obtain ⟨c0, c1, rfl⟩ := pair cs hl
  obtain ⟨y0, y1, rfl⟩ := pair xs (by simpa using hlen)
  have g0 := hf 0 _ rfl
  have g1 := hf 1 _ rfl
  simp [cellsInt, cellsStr] at g0 g1
  obtain ⟨n0, e0, _, _⟩ := DataW.trod_int Tryz.underlying3 g0
  obtain ⟨S, e1, _, hS⟩ := DataW.trod_string Tryz.underlying9 g1
  simp at e0 e1
  subst e0 e1
  exact ⟨n0, S, rfl, hS⟩
theorem ints_open {H : Type} {enc : TypeId × Value → H} {w : World} {base : Nat} {spare : Nat → Bool} {held : Bool} {fuel : Nat} {a : Option Addr} {len cap : Nat} {x : DataW H × List MemPlace} (h : DataW.trod enc Tryz.prog w base spare held fuel 27 [.slice a len cap] = some x) :
    len ≤ maxLen ∧ ∃ l : List Int, l.length = len ∧ Ints w a l := by
  rcases open_ints Tryz.underlying27 Tryz.underlying3 cellsInt h with ⟨hcs, _⟩ | ⟨b, len', cap', zs, hcs, _, hl, hm, hz, _, hc, hw⟩
  · simp at hcs
    obtain ⟨rfl, rfl, rfl⟩ := hcs
    exact ⟨Nat.zero_le _, [], rfl, Nat.zero_le _, .inl rfl⟩
  · simp at hcs
    obtain ⟨rfl, rfl, rfl⟩ := hcs
    have hlz : len ≤ zs.length := by rw [hz]; split <;> omega
    refine ⟨by omega, zs.take len, by simp; omega, by simp; omega, ?_⟩
    by_cases h0 : len = 0
    · exact .inl (by simp [h0])
    · obtain ⟨xb, xo, spot⟩ := b
      have hs : spot = none := by
        have := hc 0 (by omega)
        simp [Addr.add] at this
        simpa using World.cell?_spot this
      subst hs
      refine .inr ⟨xb, xo, rfl, fun i hi => ?_⟩
      have hi' : i < zs.length := by simp at hi; omega
      have hg := hc i hi'
      simp only [Addr.add_lit] at hg
      rw [hg]
      simp [List.getD, hi']

end Go.Proofs.YtmpbedfiamlbpaaGreatDoor.Op2

/- Walks of the exact laws' helpers on single nodes. -/
namespace Go.Proofs.YtmpbedfiamlbpaaGreatDoor.Nd1
open Go.RowKit
set_option linter.unusedVariables false

theorem ret_bool {a b : Bool} (h : a = b) : Ending.returned (.bool a) = .returned (.bool b) := by rw [h]

end Go.Proofs.YtmpbedfiamlbpaaGreatDoor.Nd1

/- Walks of the exact laws' helpers on slices of nodes. -/
namespace Go.Proofs.YtmpbedfiamlbpaaGreatDoor.Nd2
open Go.RowKit
open Nd0 Nd1
set_option linter.unusedVariables false

set_option maxHeartbeats 1000000 in
theorem eqIntS (w : World) (a a' : Option Addr) (l : List Int) (c c' : Nat) (h : Ints w a l) (h' : Ints w a' l) :
    Calls Tryz.prog 78 #[.slice a l.length c, .slice a' l.length c'] w fun e w' => e = .returned (.bool true) ∧ ∃ m, w' = w.drewN m := by
  have H : Hid (Ints w a l) := h
  have H' : Hid (Ints w a' l) := h'
  have hm := h.1
  unfold maxLen at hm
  clear h h'
  go_enter Tryz.func78, Tryz.ntmps78
  go_wp2
  go_loopw [5] (fun i wr => ∃ k : Nat, k ≤ l.length ∧ i = .int .i64 k ∧ ∃ m, wr = w.drewN m) (fun i _ => l.length - (intOf i).toNat)
  case atStart => exact ⟨0, Nat.zero_le _, rfl, 0, rfl⟩
  case round =>
    obtain ⟨k, hk, rfl, m, rfl⟩ := hrel
    by_cases hlt : k < l.length
    · have hlz : (k : Int) < (l.length : Int) := by omega
      rcases H.out.2 with h0 | ⟨xb, xo, rfl, hc⟩
      · omega
      rcases H'.out.2 with h0 | ⟨yb, yo, rfl, hc'⟩
      · omega
      have p0 := hc k hlt
      have q0 := hc' k hlt
      clear hc hc'
      generalize l[k] = x at p0 q0
      go_wp2
      go_quiet (fail)
      go_wp2
      go_roundw
      case rel => exact ⟨k + 1, by omega, by go_num, _, rfl⟩
      case measure => simp [intOf]; omega
    · go_wp2
      go_ret
      exact ⟨rfl, _, rfl⟩

end Go.Proofs.YtmpbedfiamlbpaaGreatDoor.Nd2

/- Walks of the exact laws' helpers that write: marks put into lists, and looked for. -/
namespace Go.Proofs.YtmpbedfiamlbpaaGreatDoor.Nd3
open Go.RowKit
open Nd0 Nd1
set_option linter.unusedVariables false

set_option maxHeartbeats 1000000 in
theorem markIntS (w : World) (B : Nat) (a : Option Addr) (l : List Int) (c : Nat) (h : WInts w B a l) (k0 : Int) (h0 : 0 ≤ k0) (h1 : k0 ≤ 100) (hl : l.length ≤ 1048576) :
    Calls Tryz.prog 81 #[.slice a l.length c, .int .i64 k0] w fun e w' => e = .returned (.int .i64 (k0 + l.length)) ∧ WInts w' B a (marks l.length k0) ∧ Kept (Ats l.length a) w w' := by
  have H : Hid (WInts w B a l) := h
  clear h
  generalize hn : l.length = n at hl ⊢
  go_enter Tryz.func81, Tryz.ntmps81
  go_wp2
  go_loopw [1, 5] (fun q i wr => ∃ k : Nat, k ≤ n ∧ i = .int .i64 k ∧ q = .int .i64 (k0 + k) ∧ Kept (Ats n a) w wr ∧ (n = 0 ∨ ∃ b o, a = some ⟨b, o, none⟩ ∧ B ≤ b ∧ ∀ j, j < n → ∃ v : Int, wr.cell? ⟨b, o + j, none⟩ = some (.int .i64 v) ∧ wr.frozen? ⟨b, o + j, none⟩ = false ∧ (j < k → v = k0 + j))) (fun _ i _ => n - (intOf i).toNat)
  case atStart =>
    refine ⟨0, Nat.zero_le _, rfl, by simp, Kept.refl _ _, ?_⟩
    rcases H.out.2 with e | ⟨b, o, ha, hB, hc⟩
    · exact .inl (by omega)
    · exact .inr ⟨b, o, ha, hB, fun j hj => ⟨l[j]'(by omega), (hc j (by omega)).1, (hc j (by omega)).2, fun x => by omega⟩⟩
  case round =>
    obtain ⟨k, hk, rfl, rfl, hb, hx⟩ := hrel
    by_cases hlt : k < n
    · have HK : Hid (Kept (Ats n a) w wr) := hb
      clear hb
      rcases hx with e | ⟨b, o, rfl, hB, hc⟩
      · omega
      have HC : Hid (∀ j, j < n → ∃ v : Int, wr.cell? ⟨b, o + j, none⟩ = some (.int .i64 v) ∧ wr.frozen? ⟨b, o + j, none⟩ = false ∧ (j < k → v = k0 + j)) := hc
      obtain ⟨v, p0, p1, _⟩ := hc k hlt
      clear hc
      have hlz : (k : Int) < (n : Int) := by omega
      go_wp2
      go_roundw
      case rel =>
        refine ⟨k + 1, by omega, by go_num, by go_num, HK.out.setCell (p := ⟨b, o + k, none⟩) ⟨by omega, _, rfl, rfl⟩ _, .inr ⟨b, o, rfl, hB, fun j hj => ?_⟩⟩
        obtain ⟨u, q0, q1, q2⟩ := HC.out j hj
        by_cases e : j = k
        · subst e
          exact ⟨_, set_same p0, by rw [World.frozen?_setCell]; exact p1, fun _ => rfl⟩
        · exact ⟨u, by rw [set_other (by simp <;> omega)]; exact q0, by rw [World.frozen?_setCell]; exact q1, fun x => q2 (by omega)⟩
      case measure => simp [intOf]; omega
    · go_wp2
      go_ret
      have e : k = n := by omega
      subst e
      refine ⟨rfl, ⟨by rw [marks_length]; have := H.out.1; omega, ?_⟩, hb⟩
      rcases hx with e | ⟨b, o, ha, hB, hc⟩
      · exact .inl (by rw [marks_length]; exact e)
      · refine .inr ⟨b, o, ha, hB, fun i hi => ?_⟩
        rw [marks_length] at hi
        obtain ⟨v, q0, q1, q2⟩ := hc i hi
        rw [marks_get, ← q2 hi]
        exact ⟨q0, q1⟩

set_option maxHeartbeats 1000000 in
theorem heldIntS (w : World) (a : Option Addr) (n : Nat) (c : Nat) (k0 : Int) (h : Ints w a (marks n k0)) (h0 : 0 ≤ k0) (h1 : k0 ≤ 100) (hl : n ≤ 1048576) :
    Calls Tryz.prog 84 #[.slice a n c, .int .i64 k0] w fun e w' => e = .returned (.int .i64 (k0 + n)) ∧ w' = w := by
  have H : Hid (Ints w a (marks n k0)) := h
  clear h
  go_enter Tryz.func84, Tryz.ntmps84
  go_wp2
  go_loop [1, 5] (fun q i => ∃ k : Nat, k ≤ n ∧ i = .int .i64 k ∧ q = .int .i64 (k0 + k)) (fun _ i => n - (intOf i).toNat)
  case atStart => exact ⟨0, Nat.zero_le _, rfl, by simp⟩
  case round =>
    obtain ⟨k, hk, rfl, rfl⟩ := hrel
    by_cases hlt : k < n
    · rcases H.out.2 with e | ⟨b, o, rfl, hc⟩
      · rw [marks_length] at e; omega
      have p0 := hc k (by rw [marks_length]; exact hlt)
      rw [marks_get] at p0
      clear hc
      have hlz : (k : Int) < (n : Int) := by omega
      go_wp2
      go_round
      case rel => exact ⟨k + 1, by omega, by go_num, by go_num⟩
      case measure => simp [intOf]; omega
    · go_wp2
      go_ret
      have e : k = n := by omega
      subst e
      exact ⟨rfl, rfl⟩

/-- Six marks from z on. -/
def mkN (z : Int) : Nd := ⟨z, z + 1, z + 1 + 1, z + 1 + 1 + 1, z + 1 + 1 + 1 + 1, z + 1 + 1 + 1 + 1 + 1⟩
/-- The nodes of marks from k0 on. -/
def markN (n : Nat) (k0 : Int) : List Nd := (List.range n).map fun (i : Nat) => (mkN (k0 + 6 * (i : Int)))
theorem markN_length (n : Nat) (k0 : Int) : (markN n k0).length = n := by simp [markN]
theorem markN_get (n : Nat) (k0 : Int) (i : Nat) (h : i < (markN n k0).length) : (markN n k0)[i] = (mkN (k0 + 6 * (i : Int))) := by simp [markN]

/-- A slice of the nodes l, in a block from B on, that may be written. -/
def WNodes (w : World) (B : Nat) (a : Option Addr) (l : List Nd) : Prop :=
  l.length ≤ maxLen ∧ (l.length = 0 ∨ ∃ b o, a = some ⟨b, o, none⟩ ∧ B ≤ b ∧ (∀ i (h : i < l.length), NodeAt w b (o + i * 6) l[i]) ∧ ∀ j, j < l.length * 6 → w.frozen? ⟨b, o + j, none⟩ = false)
theorem WNodes.nodes {w : World} {B : Nat} {a : Option Addr} {l : List Nd} (h : WNodes w B a l) : Nodes w a l := by
  refine ⟨h.1, ?_⟩
  rcases h.2 with h0 | ⟨b, o, ha, _, hc, _⟩
  · exact .inl h0
  · exact .inr ⟨b, o, ha, hc⟩

end Go.Proofs.YtmpbedfiamlbpaaGreatDoor.Nd3

/- Lists of flags that are appended to and written: the law at the walk, and how they are read. -/
namespace Go.Proofs.YtmpbedfiamlbpaaGreatDoor.Ap1
open Go.RowKit
open Nd0
set_option linter.unusedVariables false

/-- A slice of the flags l, in a block from B on, that may be written. -/
def WBools (w : World) (B : Nat) (a : Option Addr) (l : List Bool) : Prop :=
  l.length ≤ maxLen ∧ (l.length = 0 ∨ ∃ b o, a = some ⟨b, o, none⟩ ∧ B ≤ b ∧ ∀ i (h : i < l.length), w.cell? ⟨b, o + i, none⟩ = some (.bool l[i]) ∧ w.frozen? ⟨b, o + i, none⟩ = false)

theorem infoBool : (Tryz.prog.info? 4).map (fun i => (i.zero, i.size, i.bytes)) = some (some (.bool false), 1, 1) := by kernel_rfl

/-- The slice v, in a block from B on, is the flags l and may be appended to. -/
def Owb (w : World) (B : Nat) (v : Value) (l : List Bool) : Prop := w.ownsRow B 4 1 v l.length (l.map fun x => .bool x)

theorem Owb.form {w : World} {B : Nat} {v : Value} {l : List Bool} (h : Owb w B v l) : ∃ a c, v = .slice a l.length c ∧ WBools w B a l := by
  obtain ⟨h1, h2⟩ := h
  rcases h2 with ⟨rfl, h0⟩ | ⟨g, cap, cur, rfl, hb, hg, hn, hm, hs, ht⟩
  · have : l = [] := List.eq_nil_of_length_eq_zero h0
    subst this
    exact ⟨none, 0, rfl, Nat.zero_le _, .inl rfl⟩
  · refine ⟨_, _, rfl, by omega, .inr ⟨g, 0, rfl, hb, fun i hi => ⟨?_, ?_⟩⟩⟩
    · rw [Nat.zero_add, cell_of_row w g i cur _ _ hg]
      have e : (cur.toList.take (l.length * 1))[i]? = some (.bool l[i]) := by rw [ht]; simp [hi]
      rw [List.getElem?_take_of_lt (by omega)] at e
      simpa using e
    · rw [Nat.zero_add]
      simp [World.frozen?, hg]
theorem Owb.lit (w : World) (B : Nat) (hB : B ≤ w.heap.size) : Owb (w.alloc (.cells #[] 4)) B (.slice (some ⟨w.heap.size, 0, none⟩) 0 0) [] :=
  World.ownsRow_lit w #[] 0 hB (Nat.zero_le _) rfl
theorem Owb.lt {w : World} {B : Nat} {v : Value} {l : List Bool} (h : Owb w B v l) : ∀ k, v.ownBlock = some k → B ≤ k ∧ k < w.heap.size := World.ownsRow.lt h
theorem Owb.kept {w w' : World} {B : Nat} {v : Value} {l : List Bool} (h : Owb w B v l) {S : Nat → Prop} (k : Kept S w w') (hs : ∀ i, v.ownBlock = some i → ¬ S i) : Owb w' B v l := by
  refine ⟨h.1, ?_⟩
  rcases h.2 with hn | ⟨g, cap, cur, rfl, hb, hgg, rest⟩
  · exact .inl hn
  · refine .inr ⟨g, cap, cur, rfl, hb, ?_, rest⟩
    rw [k.block g (Array.getElem?_eq_some_iff.1 hgg).1 (hs g rfl)]
    exact hgg

/-- A flag written over. -/
theorem Owb.set {w : World} {B g cap : Nat} {l : List Bool} (h : Owb w B (.slice (some ⟨g, 0, none⟩) l.length cap) l) (j : Nat) (x : Bool) : Owb (w.setCell ⟨g, j, none⟩ (.bool x)) B (.slice (some ⟨g, 0, none⟩) l.length cap) (l.set j x) := by
  have h1 := (World.ownsRow.stored h j (.bool x)).1
  unfold Owb
  rw [List.map_set, List.length_set]
  exact h1
theorem Owb.cell {w : World} {B g cap : Nat} {l : List Bool} (h : Owb w B (.slice (some ⟨g, 0, none⟩) l.length cap) l) (j : Nat) (hj : j < l.length) : w.cell? ⟨g, j, none⟩ = some (.bool l[j]) ∧ w.frozen? ⟨g, j, none⟩ = false := by
  obtain ⟨a, c, hv, hw⟩ := h.form
  cases hv
  rcases hw.2 with h0 | ⟨b, o, hb, _, hc⟩
  · omega
  · cases hb
    have := hc j hj
    rw [Nat.zero_add] at this
    exact this

theorem Owb.set' {w : World} {B g cap n : Nat} {l : List Bool} (h : Owb w B (.slice (some ⟨g, 0, none⟩) n cap) l) (hn : l.length = n) (j : Nat) (x : Bool) : Owb (w.setCell ⟨g, j, none⟩ (.bool x)) B (.slice (some ⟨g, 0, none⟩) n cap) (l.set j x) := by
  subst hn; exact h.set j x
theorem Owb.cell' {w : World} {B g cap n : Nat} {l : List Bool} (h : Owb w B (.slice (some ⟨g, 0, none⟩) n cap) l) (hn : l.length = n) (j : Nat) (hj : j < n) : w.cell? ⟨g, j, none⟩ = some (.bool (l[j]'(by omega))) ∧ w.frozen? ⟨g, j, none⟩ = false := by
  subst hn; exact h.cell j hj
theorem Owb.at {w : World} {B : Nat} {v : Value} {l : List Bool} (h : Owb w B v l) (hl : 1 ≤ l.length) : ∃ g c, v = .slice (some ⟨g, 0, none⟩) l.length c ∧ B ≤ g ∧ g < w.heap.size := by
  rcases h.2 with ⟨rfl, h0⟩ | ⟨g, cap, cur, rfl, hb, hg, _⟩
  · omega
  · exact ⟨g, cap, rfl, hb, (Array.getElem?_eq_some_iff.1 hg).1⟩

/-- One flag more. -/
theorem app_bool {ops : Array Oper} {rest : List Oper} {o : Oper} {a : Act} {Q : Exit → Act → World → Prop} (W : World) (hgd : o.guard = none) (s x : Operand)
    (ho : o.op = .call { callee := .builtin .append, args := #[s, x], argTypes := #[24, 24] })
    (B : Nat) (v : Value) (l : List Bool) (y : Bool) (hs : a.eval s = v) (hx : a.eval x = .slice (some ⟨W.heap.size, 0, none⟩) 1 1)
    (hown : Owb W B v l) (hB : B ≤ W.heap.size) (hlen : l.length ≤ 1048576)
    (h : ∀ g cap w', Owb w' B (.slice (some ⟨g, 0, none⟩) (l.length + 1) cap) (l ++ [y]) → Kept (fun k => v.ownBlock = some k) W w' → (v.ownBlock = some g ∨ W.heap.size ≤ g) → wpList Tryz.prog ops Q rest (a.put o.dst (.slice (some ⟨g, 0, none⟩) (l.length + 1) cap)) w') :
    wpList Tryz.prog ops Q (o :: rest) a (W.alloc (.cells #[.bool y] 4)) := by
  obtain ⟨i, hi, hzz⟩ := Option.map_eq_some_iff.1 infoBool
  simp only [Prod.mk.injEq] at hzz
  obtain ⟨hz, hsz, hb⟩ := hzz
  refine wpList_append_lies (W.alloc (.cells #[.bool y] 4)) hgd s x 24 ho B 4 i (.bool false) 1 1 Tryz.underlying24 hi hz hsz hb rfl (by omega) v l.length (l.map fun x => .bool x) hs (World.ownsRow.alloc hown _)
    ⟨W.heap.size, 0, none⟩ 1 1 [.bool y] hx rfl ?_ ?_ (by omega) (by unfold maxLen; omega) (by omega) (by simp; omega) _ rfl ?_
  · intro j u hu
    exact World.news_of_block (heap_alloc_new W _) j u hu
  · intro u hu
    simp at hu
    subst hu
    rfl
  · intro g cap w' h1 h2 h3 h4
    refine h g cap w' ?_ ?_ ?_
    · unfold Owb
      simpa using h1
    · have k1 : Kept (fun k => v.ownBlock = some k) W (W.alloc (.cells #[.bool y] 4)) := (Kept.refl _ W).alloc _
      exact k1.trans ⟨h2.os, h2.tape, h2.output, h2.size, fun k hk hn => h2.block k hk (fun e => hn e.symm)⟩
    · rcases h3 with h3 | h3
      · exact .inl h3
      · exact .inr (by rw [h3]; simp)

end Go.Proofs.YtmpbedfiamlbpaaGreatDoor.Ap1
