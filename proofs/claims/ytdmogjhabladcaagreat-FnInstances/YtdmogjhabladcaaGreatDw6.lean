/- The draw of any list of nodes: a sentence, spoilt or not. -/
import Derived.Test.YtdmogjhabladcaaGreatDw5
import Derived.Test.YtdmogjhabladcaaGreatPkD
namespace Go.Proofs.YtdmogjhabladcaaGreat.Dw6
open Go.RowKit
open Nd0 Nd3 Ap2 Dw0 Dw1 Dw2 Dw3 Dw4 Dw5
open Dr0 (Cur Only Bytes Off)
open Dr1 (once below)
open Dr4 (pickNew)
set_option linter.unusedVariables false

/-- The first n * 6 cells of block g are whole numbers, and may be written. -/
def Wild (w : World) (g n : Nat) : Prop := ∀ p, p < n * 6 → (∃ x : Int, w.cell? ⟨g, p, none⟩ = some (.int .i64 x)) ∧ w.frozen? ⟨g, p, none⟩ = false
theorem own_wild {w : World} {B g c : Nat} {L : List Nd} (h : Own w B (.slice (some ⟨g, 0, none⟩) L.length c) L) : Wild w g L.length := by
  obtain ⟨a', c', hv, hw⟩ := h.form
  cases hv
  intro p hp
  rcases hw.2 with h0 | ⟨b', o', he, _, hc, hf⟩
  · omega
  · cases he
    refine ⟨?_, by have := hf p hp; rw [Nat.zero_add] at this; exact this⟩
    obtain ⟨c0, c1, c2, c3, c4, c5⟩ := hc (p / 6) (by omega)
    have h6 : p = 0 + p / 6 * 6 ∨ p = 0 + p / 6 * 6 + 1 ∨ p = 0 + p / 6 * 6 + 2 ∨ p = 0 + p / 6 * 6 + 3 ∨ p = 0 + p / 6 * 6 + 4 ∨ p = 0 + p / 6 * 6 + 5 := by omega
    rcases h6 with r | r | r | r | r | r
    · exact ⟨_, by rw [r]; exact c0⟩
    · exact ⟨_, by rw [r]; exact c1⟩
    · exact ⟨_, by rw [r]; exact c2⟩
    · exact ⟨_, by rw [r]; exact c3⟩
    · exact ⟨_, by rw [r]; exact c4⟩
    · exact ⟨_, by rw [r]; exact c5⟩
theorem Wild.set {w : World} {g n : Nat} (h : Wild w g n) {p : Nat} (hp : p < n * 6) (x : Int) : Wild (w.setCell ⟨g, p, none⟩ (.int .i64 x)) g n := by
  intro q hq
  refine ⟨?_, by simp only [World.frozen?_setCell]; exact (h q hq).2⟩
  by_cases e : q = p
  · subst e
    obtain ⟨y, hy⟩ := (h q hq).1
    exact ⟨x, set_same hy⟩
  · obtain ⟨y, hy⟩ := (h q hq).1
    exact ⟨y, by rw [set_other (by intro z; cases z; exact e rfl)]; exact hy⟩
theorem Wild.kept {w w' : World} {g n : Nat} (h : Wild w g n) {S : Nat → Prop} (k : Kept S w w') (hs : ¬ S g) : Wild w' g n := by
  intro q hq
  obtain ⟨⟨y, hy⟩, hf⟩ := h q hq
  exact ⟨⟨y, by rw [k.cell (p := ⟨g, q, none⟩) (lt_of_cell hy) hs]; exact hy⟩, by rw [k.frozen (p := ⟨g, q, none⟩) (lt_of_cell hy) hs]; exact hf⟩
def val (o : Option Value) : Int := match o with | some (.int _ x) => x | _ => 0
theorem Wild.nodes {w : World} {g n : Nat} (h : Wild w g n) (hn : n ≤ maxLen) : ∃ L : List Nd, L.length = n ∧ Nodes w (some ⟨g, 0, none⟩) L := by
  refine ⟨(List.range n).map fun i => ⟨val (w.cell? ⟨g, i * 6, none⟩), val (w.cell? ⟨g, i * 6 + 1, none⟩), val (w.cell? ⟨g, i * 6 + 2, none⟩), val (w.cell? ⟨g, i * 6 + 3, none⟩), val (w.cell? ⟨g, i * 6 + 4, none⟩), val (w.cell? ⟨g, i * 6 + 5, none⟩)⟩, by simp, by simpa using hn, .inr ⟨g, 0, rfl, fun i hi => ?_⟩⟩
  have hi' : i < n := by simpa using hi
  have hv : ∀ r, r < 6 → w.cell? ⟨g, i * 6 + r, none⟩ = some (.int .i64 (val (w.cell? ⟨g, i * 6 + r, none⟩))) := by
    intro r hr
    obtain ⟨⟨y, hy⟩, _⟩ := h (i * 6 + r) (by omega)
    rw [hy]; rfl
  have e : ((List.range n).map fun i => (⟨val (w.cell? ⟨g, i * 6, none⟩), val (w.cell? ⟨g, i * 6 + 1, none⟩), val (w.cell? ⟨g, i * 6 + 2, none⟩), val (w.cell? ⟨g, i * 6 + 3, none⟩), val (w.cell? ⟨g, i * 6 + 4, none⟩), val (w.cell? ⟨g, i * 6 + 5, none⟩)⟩ : Nd))[i] = ⟨val (w.cell? ⟨g, i * 6, none⟩), val (w.cell? ⟨g, i * 6 + 1, none⟩), val (w.cell? ⟨g, i * 6 + 2, none⟩), val (w.cell? ⟨g, i * 6 + 3, none⟩), val (w.cell? ⟨g, i * 6 + 4, none⟩), val (w.cell? ⟨g, i * 6 + 5, none⟩)⟩ := by simp
  rw [e, Nat.zero_add]
  exact ⟨hv 0 (by omega), hv 1 (by omega), hv 2 (by omega), hv 3 (by omega), hv 4 (by omega), hv 5 (by omega)⟩
theorem own_cap {w : World} {B g n c : Nat} {L : List Nd} (h : Own w B (.slice (some ⟨g, 0, none⟩) n c) L) : L.length ≤ c := by
  obtain ⟨h1, h2⟩ := h
  rcases h2 with ⟨h0, _⟩ | ⟨g', cap, cur, he, hb, hg, hn, rest⟩
  · cases h0
  · cases he; exact hn

/-- Some list of nodes, in a block behind the cursor's. -/
def APost (b : Nat) (a : Option Addr) (len cap : Nat) (w : World) (e : Ending) (w' : World) : Prop :=
  ∃ (g c : Nat) (L : List Nd), e = .returned (.slice (some ⟨g, 0, none⟩) L.length c) ∧ Nodes w' (some ⟨g, 0, none⟩) L ∧ b < g ∧ g < w'.heap.size ∧ Cur w' b a len cap ∧ Kept (fun k => k = b) w w' ∧ 1 ≤ L.length ∧ L.length ≤ 81 ∧ L.length ≤ c

theorem apost {b : Nat} {a : Option Addr} {len cap : Nat} {w w' : World} {g n c : Nat} (hw : Wild w' g n) (hb : b < g) (hc : Cur w' b a len cap) (hk : Kept (fun k => k = b) w w') (h1 : 1 ≤ n) (h2 : n ≤ 81) (h3 : n ≤ c) : APost b a len cap w (.returned (.slice (some ⟨g, 0, none⟩) n c)) w' := by
  obtain ⟨L, rfl, hL⟩ := hw.nodes (by unfold maxLen; omega)
  obtain ⟨⟨x, hx⟩, _⟩ := hw 0 (by omega)
  exact ⟨g, c, L, rfl, hL, hb, lt_of_cell hx, hc, hk, h1, h2, h3⟩
/-- .. a cell of it written. -/
theorem apost_set {b : Nat} {a : Option Addr} {len cap : Nat} {w w' : World} {g n c p : Nat} {x : Int} (hlo : Low a len b) (hw : Wild w' g n) (hb : b < g) (hg : w.heap.size ≤ g) (hc : Cur w' b a len cap) (hk : Kept (fun k => k = b) w w') (h1 : 1 ≤ n) (h2 : n ≤ 81) (h3 : n ≤ c) (hp : p < n * 6) : APost b a len cap w (.returned (.slice (some ⟨g, 0, none⟩) n c)) (w'.setCell ⟨g, p, none⟩ (.int .i64 x)) := by
  have hS : Kept (fun k => k = g) w' (w'.setCell ⟨g, p, none⟩ (.int .i64 x)) := (Kept.refl (fun k => k = g) w').setCell (p := ⟨g, p, none⟩) rfl _
  refine apost (hw.set hp x) hb (cur_kept hc hS (by show ¬ b = g; omega) ?_) ?_ h1 h2 h3
  · rcases hlo with h0 | hl
    · exact .inl h0
    · exact .inr fun y hy e => by have := hl y hy; have : y.block = g := e; omega
  · refine ⟨hS.os.trans hk.os, hS.tape.trans hk.tape, hS.output.trans hk.output, Nat.le_trans hk.size hS.size, fun i hi hn => ?_⟩
    rw [hS.block i (Nat.lt_of_lt_of_le hi hk.size) (by show ¬ i = g; omega)]
    exact hk.block i hi hn

end Go.Proofs.YtdmogjhabladcaaGreat.Dw6
