/- The walk of the program's fits for any node, and of its TermOk. -/
import Derived.Deep.RegionWith
import Derived.Test.YtebejleeadofcaaPg4
namespace Go.Proofs.Ytebejleeadofcaa.Pg5
open Go.RowKit
open Nd0 Tm0 Tm5 Pl1 Ap0 Pg1 Pg2 Pg3 Pg4
open Ws1 (ret_int ret_bool)
set_option linter.unusedVariables false

theorem part_cell {w : World} {xb xo : Nat} {l : List Nd} {i : Nat} {p : Int} (hc : ∀ i (h : i < l.length), NodeAt w xb (xo + i * 6) l[i]) (hi : i ≤ l.length) (hw : ∀ j, j < i → 1 ≤ (nth l j).w ∧ (nth l j).w ≤ 8) (hp : 0 ≤ p ∧ p < i) :
    ∃ j : Nat, p = (j : Int) ∧ j < l.length ∧ w.cell? ⟨xb, xo + j * 6 + 1, none⟩ = some (.int .i64 (width l p)) ∧ 1 ≤ width l p ∧ width l p ≤ 8 := by
  obtain ⟨j, rfl⟩ := Int.eq_ofNat_of_zero_le hp.1
  have hj : j < l.length := by omega
  refine ⟨j, rfl, hj, ?_, ?_⟩
  · have h9 := (hc j hj).c1
    rw [nth_get hj] at h9
    exact h9
  · exact hw j (by omega)

theorem iFits (w : World) (a : Option Addr) (l : List Nd) (c : Nat) (n : Nd) (i : Nat) (hN : Nodes w a l) (hl : l.length ≤ 80) (hi : i ≤ l.length) (hA : pahead n i = true) (hw : ∀ j, j < i → 1 ≤ (nth l j).w ∧ (nth l j).w ≤ 8) (hm : 1 ≤ n.w ∧ n.w ≤ 8) :
    Calls Try.prog 56 #[.slice a l.length c, .agg #[.int .i64 n.op, .int .i64 n.w, .int .i64 n.k, .int .i64 n.a, .int .i64 n.b, .int .i64 n.c]] w fun e w' =>
      e = .returned (.bool (fitsB n ((parts n).map (width l)))) ∧ Below w.heap.size w w' := by
  have hall : ∀ p ∈ parts n, 0 ≤ p ∧ p < (i : Int) := by
    unfold pahead at hA
    rw [List.all_eq_true] at hA
    intro p hp
    simpa using hA p hp
  clear hA
  obtain ⟨op, m, k, x, b, d⟩ := n
  simp only at hm
  by_cases hop : op < 0 ∨ 20 < op
  · have hp : parts ⟨op, m, k, x, b, d⟩ = [] := parts_none (by simp only; omega) (by simp only; omega) (by simp only; omega)
    rw [hp]
    exact fitsN w a l.length c op m k x b d hop
  by_cases h0 : op = 0
  · subst h0; exact fitsC w a l.length c 0 m k x b d (.inl rfl)
  by_cases h1 : op = 1
  · subst h1; exact fitsC w a l.length c 1 m k x b d (.inr rfl)
  have hne : ∃ p, p ∈ parts ⟨op, m, k, x, b, d⟩ := by
    by_cases q1 : op = 2 ∨ op = 17 ∨ op = 19 ∨ op = 20
    · rw [parts_one q1]; exact ⟨x, by simp⟩
    · by_cases q2 : 3 ≤ op ∧ op ≤ 16
      · rw [parts_two q2]; exact ⟨x, by simp⟩
      · rw [parts_three (by simp only; omega)]; exact ⟨x, by simp⟩
  obtain ⟨p9, hp9⟩ := hne
  have h9 := hall p9 hp9
  rcases hN.2 with hz | ⟨xb, xo, rfl, hc⟩
  · omega
  by_cases q1 : op = 2 ∨ op = 17 ∨ op = 19 ∨ op = 20
  · rw [parts_one q1] at hall ⊢
    obtain ⟨ja, rfl, hj, hcell, hwd⟩ := part_cell hc hi hw (hall x (by simp))
    exact fitsA w xb xo l.length c op m k b d _ hl ja hj hcell hwd hm q1
  by_cases q2 : 3 ≤ op ∧ op ≤ 16
  · rw [parts_two q2] at hall ⊢
    obtain ⟨ja, rfl, hj, hcell, hwd⟩ := part_cell hc hi hw (hall x (by simp))
    obtain ⟨jb, rfl, hj', hcell', hwd'⟩ := part_cell hc hi hw (hall b (by simp))
    have q3 : op = 3 ∨ op = 4 ∨ op = 5 ∨ op = 6 ∨ op = 7 ∨ op = 8 ∨ op = 9 ∨ op = 10 ∨ op = 11 ∨ op = 12 ∨ op = 13 ∨ op = 14 ∨ op = 15 ∨ op = 16 := by omega
    exact fitsB2 w xb xo l.length c op m k d _ _ hl ja jb hj hj' hcell hwd hcell' hwd' hm q3
  have q4 : op = 18 := by omega
  subst q4
  rw [parts_three rfl] at hall ⊢
  obtain ⟨ja, rfl, hj, hcell, hwd⟩ := part_cell hc hi hw (hall x (by simp))
  obtain ⟨jb, rfl, hj', hcell', hwd'⟩ := part_cell hc hi hw (hall b (by simp))
  obtain ⟨jc, rfl, hj'', hcell'', hwd''⟩ := part_cell hc hi hw (hall d (by simp))
  exact fits18 w xb xo l.length c 18 m k _ _ _ hl ja jb jc hj hj' hj'' hcell hwd hcell' hwd' hcell'' hwd'' hm rfl

/-- Whether a node has nothing that it has no use for. -/
def usedOk (n : Nd) : Bool := decide (n.k = (used n).k ∧ n.a = (used n).a ∧ n.b = (used n).b ∧ n.c = (used n).c)
theorem shape_split (n : Nd) (ws : List Int) : shapeOk n ws = (usedOk n && fitsB n ws) := by
  obtain ⟨op, m, k, x, b, d⟩ := n
  by_cases hop : op < 0 ∨ 20 < op
  · have e1 : shapeOk ⟨op, m, k, x, b, d⟩ ws = false := by
      unfold shapeOk; dsimp only; rw [if_neg (by omega), if_neg (by omega), if_neg (by omega), if_neg (by omega), if_neg (by omega), if_neg (by omega), if_neg (by omega), if_neg (by omega), if_neg (by omega)]
    have e2 : fitsB ⟨op, m, k, x, b, d⟩ ws = false := by
      unfold fitsB; dsimp only; rw [if_neg (by omega), if_neg (by omega), if_neg (by omega), if_neg (by omega), if_neg (by omega), if_neg (by omega), if_neg (by omega), if_neg (by omega), if_neg (by omega)]
    rw [e1, e2, Bool.and_false]
  have q3 : op = 0 ∨ op = 1 ∨ op = 2 ∨ op = 3 ∨ op = 4 ∨ op = 5 ∨ op = 6 ∨ op = 7 ∨ op = 8 ∨ op = 9 ∨ op = 10 ∨ op = 11 ∨ op = 12 ∨ op = 13 ∨ op = 14 ∨ op = 15 ∨ op = 16 ∨ op = 17 ∨ op = 18 ∨ op = 19 ∨ op = 20 := by omega
  clear hop
  generalize ws.getD 0 0 = x0 at *
  rcases q3 with rfl | rfl | rfl | rfl | rfl | rfl | rfl | rfl | rfl | rfl | rfl | rfl | rfl | rfl | rfl | rfl | rfl | rfl | rfl | rfl | rfl
  all_goals
    rw [Bool.eq_iff_iff]
    simp [shapeOk, fitsB, usedOk, used, cnt, numbered, quant]
    try generalize ws[0]?.getD 0 = x0
    try generalize ws[1]?.getD 0 = x1
    try generalize ws[2]?.getD 0 = x2
    first | omega | (constructor <;> intro h <;> simp_all)
theorem node_split (l : List Nd) (i : Nat) : nodeOk l i = (decide (1 ≤ (nth l i).w ∧ (nth l i).w ≤ 8) && usedOk (nth l i) && pahead (nth l i) i && fitsB (nth l i) ((parts (nth l i)).map (width l))) := by
  simp only [nodeOk, shape_split, pahead]
  generalize decide (1 ≤ (nth l i).w ∧ (nth l i).w ≤ 8) = x
  generalize usedOk (nth l i) = y
  generalize (parts (nth l i)).all _ = z
  generalize fitsB _ _ = u
  cases x <;> cases y <;> cases z <;> cases u <;> rfl

end Go.Proofs.Ytebejleeadofcaa.Pg5
