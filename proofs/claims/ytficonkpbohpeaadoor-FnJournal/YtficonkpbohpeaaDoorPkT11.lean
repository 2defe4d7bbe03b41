/- Small texts of mine, one behind the other. -/
import Derived.Laws.IdiomStrings
import Derived.Test.YtficonkpbohpeaaDoorPkT10
/- Packed tables: the table of one; how many bits are set; the bits in use; whether it needs a bit. -/
namespace Go.Proofs.YtficonkpbohpeaaDoor.Tc6
open Go.RowKit
open Ta0 Ta1 Tc2 Tc4 Tc5
open Nd0 (Kept set_other set_same lt_of_cell)
open Ss0 (bs bs_size ret_str)
open Ss1 (tl tl_length tl_get tl_take bs_tl tl_bs tl_inj eqb)
set_option linter.unusedVariables false

theorem infoB : (Tryd.prog.info? 5).map (fun i => (i.zero, i.size, i.bytes)) = some (some (.int .u8 0), 1, 1) := by kernel_rfl
def noughtsB (n : Nat) : Array Value := madeCells #[.int .u8 0] (n * 1)
theorem noughtsB_get (n j : Nat) (h : j < n) : (noughtsB n)[j]? = some (.int .u8 0) := by
  simp only [noughtsB, madeCells, Array.getElem?_map, Array.getElem?_range]
  rw [if_pos (by omega)]
  simp only [Option.map_some]
  have e : j % 1 = 0 := Nat.mod_one j
  exact congrArg (fun m => some ((#[.int .u8 0] : Array Value)[m]!)) e
theorem makeBytes (n : Nat) (hn : n ≤ 1048576) (w : World) :
    (Instr.makeSlice 22 (.int .i64 (n : Int)) (.int .i64 (n : Int))).run Tryd.prog w = .ok (.slice (some ⟨w.heap.size, 0, none⟩) n n) (w.alloc (.cells (noughtsB n) 5)) := by
  obtain ⟨i, hi, hzz⟩ := Option.map_eq_some_iff.1 infoB
  simp only [Prod.mk.injEq] at hzz
  obtain ⟨hz, hs, hb⟩ := hzz
  have h := run_make (P := Tryd.prog) w 22 5 i _ Tryd.underlying22 hi hz .i64 .i64 n n (by omega) (Int.le_refl _) (by rw [hb]; omega) (by omega)
  rw [hs] at h
  simpa [noughtsB, Value.cells] using h
/-- Signs in block c, the first k of them written. -/
def Sgs (W : World) (c P k : Nat) (G : Nat → Bool) : Prop := ∀ j, j < P → (∃ v : Int, W.cell? ⟨c, j, none⟩ = some (.int .u8 v) ∧ (j < k → v = ((sgn (G j)).toNat : Int))) ∧ W.frozen? ⟨c, j, none⟩ = false
theorem Sgs.kept {W W' : World} {c P k : Nat} {G : Nat → Bool} (h : Sgs W c P k G) {S : Nat → Prop} (q : Kept S W W') (hs : ¬ S c) : Sgs W' c P k G := fun j hj => by
  obtain ⟨⟨v, h1, h2⟩, h3⟩ := h j hj
  have hg : c < W.heap.size := World.block_lt_of_cell? _ _ h1
  exact ⟨⟨v, by rw [q.cell (p := ⟨c, j, none⟩) hg hs]; exact h1, h2⟩, by rw [q.frozen (p := ⟨c, j, none⟩) hg hs]; exact h3⟩
theorem Sgs.below {W W' : World} {c P k : Nat} {G : Nat → Bool} (h : Sgs W c P k G) (q : Below W.heap.size W W') : Sgs W' c P k G := h.kept (S := fun _ => False) (Kept.ofBelow q) (fun h => h)
theorem Sgs.set {W : World} {c P k : Nat} {G : Nat → Bool} (h : Sgs W c P k G) (v : Int) (hv : v = ((sgn (G k)).toNat : Int)) : Sgs (W.setCell ⟨c, k, none⟩ (.int .u8 v)) c P (k + 1) G := fun j hj => by
  obtain ⟨⟨u, h1, h2⟩, h3⟩ := h j hj
  by_cases e : j = k
  · subst e
    exact ⟨⟨v, set_same h1, fun _ => hv⟩, by rw [World.frozen?_setCell]; exact h3⟩
  · exact ⟨⟨u, by rw [set_other (by simp <;> omega)]; exact h1, fun x => h2 (by omega)⟩, by rw [World.frozen?_setCell]; exact h3⟩
theorem Sgs.made (W : World) (P : Nat) (G : Nat → Bool) : Sgs (W.alloc (.cells (noughtsB P) 5)) W.heap.size P 0 G := fun j hj =>
  ⟨⟨0, by rw [World.cell?_alloc_new]; exact noughtsB_get _ _ hj, fun x => by omega⟩, by simp⟩
theorem Sgs.text {W : World} {c n : Nat} {G : Nat → Bool} (h : Sgs W c (2 ^ n) (2 ^ n) G) : (convert 22 9 (.slice (some ⟨c, 0, none⟩) (2 ^ n) (2 ^ n))).run Tryd.prog W = .ok (.string (bs (tab n G))) W := by
  have := run_convert_bytes_back (P := Tryd.prog) W 22 9 5 ⟨c, 0, none⟩ (2 ^ n) (tab n G) Tryd.underlying22 Tryd.underlying5 Tryd.underlying9 (fun j hj => by
    obtain ⟨⟨v, h1, h2⟩, _⟩ := h j (by rw [tab_length] at hj; exact hj)
    rw [tab_get, ← h2 (by rw [tab_length] at hj; exact hj)]
    rw [Addr.add_lit, Nat.zero_add]; exact h1)
  rw [tab_length] at this
  exact this

end Go.Proofs.YtficonkpbohpeaaDoor.Tc6

/- Packed tables: how many bits are set; the bits in use; whether it needs a bit. -/
namespace Go.Proofs.YtficonkpbohpeaaDoor.Tc7
open Go.RowKit
open Ta0 Ta1 Tc2 Tc4 Tc5
open Nd0 (Kept set_other set_same lt_of_cell)
set_option linter.unusedVariables false

theorem ret_uint {a b : Int} (h : a = b) : Ending.returned (.int .u64 a) = .returned (.int .u64 b) := by rw [h]
theorem use_wrap (P : Nat) : IntKind.u64.wrap (IntKind.u64.wrap ((2 : Int) ^ (min P 64)) - 1) = ((use P : Nat) : Int) := by
  unfold use
  by_cases h : P < 64
  · have h1 : 2 ^ P < 18446744073709551616 := Nat.lt_of_lt_of_le (Nat.pow_lt_pow_right (by omega) h) (by decide)
    have h2 := Nat.one_le_two_pow (n := P)
    rw [if_pos h, Nat.min_eq_left (by omega), pcast, wrapu h1, show ((2 ^ P : Nat) : Int) - 1 = ((2 ^ P - 1 : Nat) : Int) by omega, wrapu (by omega)]
  · rw [if_neg h, Nat.min_eq_right (by omega)]
    decide

/-- What stands while a bit is looked for. -/
structure SN (w : World) (n m g : Nat) (G : Nat → Bool) (W : World) : Prop where
  lay : Lay W w.heap.size (.int .i64 (n : Int)) (.slice (some ⟨g, 0, none⟩) m m)
  wds : Wds W g m G
  bel : Below w.heap.size w W
theorem SN.below {w : World} {n m g : Nat} {G : Nat → Bool} {W W' : World} (h : SN w n m g G W) (k : Below W.heap.size W W') : SN w n m g G W' :=
  ⟨h.lay.below k, h.wds.below k, h.bel.trans (k.mono h.bel.size)⟩
theorem SN.drew {w : World} {n m g : Nat} {G : Nat → Bool} {W : World} (h : SN w n m g G W) : SN w n m g G W.drew :=
  ⟨h.lay.kept (S := fun _ => False) (Kept.refl _ _).drew (fun h => h), h.wds.kept (S := fun _ => False) (Kept.refl _ _).drew (fun h => h), below_drewN h.bel 1⟩

end Go.Proofs.YtficonkpbohpeaaDoor.Tc7
