/- Small texts of mine, one behind the other. -/
import Derived.Test.YtebejleeadofcaaRows
import Derived.Deep.AppendLies
import Derived.OwnWalk
import Derived.Test.YtebejleeadofcaaNd0
import Derived.Test.YtebejleeadofcaaPkXF21
/- Walks of the exact laws' helpers that write: marks put into lists, and looked for. -/
namespace Go.Proofs.Ytebejleeadofcaa.Nd3
open Go.RowKit
open Nd0 Nd1
set_option linter.unusedVariables false

/-- Six marks from z on. -/
def mkN (z : Int) : Nd := ⟨z, z + 1, z + 1 + 1, z + 1 + 1 + 1, z + 1 + 1 + 1 + 1, z + 1 + 1 + 1 + 1 + 1⟩
/-- The nodes of marks from k0 on. -/
def markN (n : Nat) (k0 : Int) : List Nd := (List.range n).map fun (i : Nat) => (mkN (k0 + 6 * (i : Int)))
theorem markN_length (n : Nat) (k0 : Int) : (markN n k0).length = n := by simp [markN]
theorem markN_get (n : Nat) (k0 : Int) (i : Nat) (h : i < (markN n k0).length) : (markN n k0)[i] = (mkN (k0 + 6 * (i : Int))) := by simp [markN]

/-- A slice of the nodes l, in a block from B on, that may be written. -/
def WNodes (w : World) (B : Nat) (a : Option Addr) (l : List Nd) : Prop :=
  l.length ≤ maxLen ∧ (l.length = 0 ∨ ∃ b o, a = some ⟨b, o, none⟩ ∧ B ≤ b ∧ (∀ i (h : i < l.length), NodeAt w b (o + i * 6) l[i]) ∧ ∀ j, j < l.length * 6 → w.frozen? ⟨b, o + j, none⟩ = false)
theorem WNodes.nodes {w : World} {B : Nat} {a : Option Addr} {l : List Nd} (h : WNodes w B a l) : Nodes w a l := by
  refine ⟨h.1, ?_⟩
  rcases h.2 with h0 | ⟨b, o, ha, _, hc, _⟩
  · exact .inl h0
  · exact .inr ⟨b, o, ha, hc⟩

set_option maxHeartbeats 2000000 in
theorem markNodeS (w : World) (B : Nat) (a : Option Addr) (l : List Nd) (c : Nat) (h : WNodes w B a l) (k0 : Int) (h0 : 0 ≤ k0) (h1 : k0 ≤ 100) (hl : l.length ≤ 1048576) :
    Calls Try.prog 10 #[.slice a l.length c, .int .i64 k0] w fun e w' => e = .returned (.int .i64 (k0 + 6 * l.length)) ∧ WNodes w' B a (markN l.length k0) ∧ Kept (Ats l.length a) w w' := by
  have H : Hid (WNodes w B a l) := h
  clear h
  generalize hn : l.length = n at hl ⊢
  go_enter Try.func10, Try.ntmps10
  go_wp2
  go_loopw [1, 5] (fun q i wr => ∃ k : Nat, k ≤ n ∧ i = .int .i64 k ∧ q = .int .i64 (k0 + 6 * k) ∧ Kept (Ats n a) w wr ∧ (n = 0 ∨ ∃ b o, a = some ⟨b, o, none⟩ ∧ B ≤ b ∧ (∀ j, j < n * 6 → wr.frozen? ⟨b, o + j, none⟩ = false) ∧ ∀ j, j < n → ∃ v : Nd, NodeAt wr b (o + j * 6) v ∧ (j < k → v = (mkN (k0 + 6 * (j : Int)))))) (fun _ i _ => n - (intOf i).toNat)
  case atStart =>
    refine ⟨0, Nat.zero_le _, rfl, by simp, Kept.refl _ _, ?_⟩
    rcases H.out.2 with e | ⟨b, o, ha, hB, hc, hf⟩
    · exact .inl (by omega)
    · exact .inr ⟨b, o, ha, hB, fun j hj => hf j (by omega), fun j hj => ⟨l[j]'(by omega), hc j (by omega), fun x => by omega⟩⟩
  case round =>
    obtain ⟨k, hk, rfl, rfl, hb, hx⟩ := hrel
    by_cases hlt : k < n
    · have HK : Hid (Kept (Ats n a) w wr) := hb
      clear hb
      rcases hx with e | ⟨b, o, rfl, hB, hf, hc⟩
      · omega
      have HC : Hid (∀ j, j < n → ∃ v : Nd, NodeAt wr b (o + j * 6) v ∧ (j < k → v = (mkN (k0 + 6 * (j : Int))))) := hc
      have HF : Hid (∀ j, j < n * 6 → wr.frozen? ⟨b, o + j, none⟩ = false) := hf
      have g0 : wr.frozen? ⟨b, o + k * 6, none⟩ = false := hf (k * 6) (by omega)
      have g1 : wr.frozen? ⟨b, o + k * 6 + 1, none⟩ = false := hf (k * 6 + 1) (by omega)
      have g2 : wr.frozen? ⟨b, o + k * 6 + 2, none⟩ = false := hf (k * 6 + 2) (by omega)
      have g3 : wr.frozen? ⟨b, o + k * 6 + 3, none⟩ = false := hf (k * 6 + 3) (by omega)
      have g4 : wr.frozen? ⟨b, o + k * 6 + 4, none⟩ = false := hf (k * 6 + 4) (by omega)
      have g5 : wr.frozen? ⟨b, o + k * 6 + 5, none⟩ = false := hf (k * 6 + 5) (by omega)
      obtain ⟨v, ⟨p0, p1, p2, p3, p4, p5⟩, _⟩ := hc k hlt
      clear hc hf
      have hlz : (k : Int) < (n : Int) := by omega
      go_wp2
      go_roundw
      case rel =>
        refine ⟨k + 1, by omega, by go_num, by go_num, setNode_keptS (b := b) (p := o + k * 6) (n := (mkN (k0 + 6 * (k : Int)))) ⟨by omega, _, rfl, rfl⟩ HK.out, .inr ⟨b, o, rfl, hB, ?_, ?_⟩⟩
        · intro j hj
          exact (setNode_frozen (p := o + k * 6) (n := (mkN (k0 + 6 * (k : Int))))).trans (HF.out j hj)
        · intro j hj
          obtain ⟨u, q0, q1⟩ := HC.out j hj
          by_cases e : j = k
          · subst e
            exact ⟨(mkN (k0 + 6 * (j : Int))), setNode_same (w := wr) (b := b) (p := o + j * 6) (n := mkN (k0 + 6 * (j : Int))) q0, fun _ => rfl⟩
          · exact ⟨u, setNode_other (w := wr) (b := b) (q := o + j * 6) (p := o + k * 6) (n := (mkN (k0 + 6 * (k : Int)))) q0 (by omega), fun x => q1 (by omega)⟩
      case measure => simp [intOf]; omega
    · go_wp2
      go_ret
      have e : k = n := by omega
      subst e
      refine ⟨rfl, ⟨by rw [markN_length]; have := H.out.1; omega, ?_⟩, hb⟩
      rcases hx with e | ⟨b, o, ha, hB, hf, hc⟩
      · exact .inl (by rw [markN_length]; exact e)
      · refine .inr ⟨b, o, ha, hB, fun i hi => ?_, fun j hj => hf j (by rw [markN_length] at hj; exact hj)⟩
        rw [markN_length] at hi
        obtain ⟨v, q0, q1⟩ := hc i hi
        rw [markN_get, ← q1 hi]
        exact q0

set_option maxHeartbeats 2000000 in
theorem heldNodeS (w : World) (a : Option Addr) (n : Nat) (c : Nat) (k0 : Int) (h : Nodes w a (markN n k0)) (h0 : 0 ≤ k0) (h1 : k0 ≤ 100) (hl : n ≤ 1048576) :
    Calls Try.prog 13 #[.slice a n c, .int .i64 k0] w fun e w' => e = .returned (.int .i64 (k0 + 6 * n)) ∧ w' = w := by
  have H : Hid (Nodes w a (markN n k0)) := h
  clear h
  go_enter Try.func13, Try.ntmps13
  go_wp2
  go_loop [1, 5] (fun q i => ∃ k : Nat, k ≤ n ∧ i = .int .i64 k ∧ q = .int .i64 (k0 + 6 * k)) (fun _ i => n - (intOf i).toNat)
  case atStart => exact ⟨0, Nat.zero_le _, rfl, by simp⟩
  case round =>
    obtain ⟨k, hk, rfl, rfl⟩ := hrel
    by_cases hlt : k < n
    · rcases H.out.2 with e | ⟨b, o, rfl, hc⟩
      · rw [markN_length] at e; omega
      have hp := hc k (by rw [markN_length]; exact hlt)
      rw [markN_get] at hp
      obtain ⟨p0, p1, p2, p3, p4, p5⟩ := hp
      simp only [mkN] at p0 p1 p2 p3 p4 p5
      clear hc
      have hlz : (k : Int) < (n : Int) := by omega
      go_wp2
      go_round
      case rel => exact ⟨k + 1, by omega, by go_num, by go_num⟩
      case measure => simp [intOf]; omega
    · go_wp2
      go_ret
      have e : k = n := by omega
      subst e
      exact ⟨rfl, rfl⟩

end Go.Proofs.Ytebejleeadofcaa.Nd3

/- Lists of nodes that are appended to: the law at the walk, and how they are read. -/
namespace Go.Proofs.Ytebejleeadofcaa.Ap2
open Go.RowKit
open Nd0 Nd3
set_option linter.unusedVariables false

theorem infoNode : (Try.prog.info? 39).map (fun i => (i.zero, i.size, i.bytes)) = some (some (.agg #[.int .i64 0, .int .i64 0, .int .i64 0, .int .i64 0, .int .i64 0, .int .i64 0]), 6, 48) := by kernel_rfl

/-- The cells of a list of nodes. -/
def flat (l : List Nd) : List Value := l.flatMap Nd.cells
theorem cells_length (n : Nd) : n.cells.length = 6 := rfl
theorem flat_length (l : List Nd) : (flat l).length = l.length * 6 := by
  induction l with
  | nil => rfl
  | cons n l ih => show (n.cells ++ flat l).length = _; rw [List.length_append, ih, cells_length, List.length_cons]; omega
theorem flat_get (l : List Nd) : ∀ (i : Nat) (h : i < l.length) (j : Nat), j < 6 → (flat l)[i * 6 + j]? = (l[i].cells)[j]? := by
  induction l with
  | nil => intro i h; exact absurd h (Nat.not_lt_zero _)
  | cons n l ih =>
    intro i h j hj
    show (n.cells ++ flat l)[i * 6 + j]? = _
    cases i with
    | zero => rw [Nat.zero_mul, Nat.zero_add, List.getElem?_append_left (by rw [cells_length]; exact hj)]; rfl
    | succ i =>
      rw [List.getElem?_append_right (by rw [cells_length]; omega), cells_length, show (i + 1) * 6 + j - 6 = i * 6 + j by omega]
      exact ih i (by simpa using h) j hj
theorem flat_snoc (l : List Nd) (n : Nd) : flat (l ++ [n]) = flat l ++ n.cells := by simp [flat]

/-- The slice v, in a block from B on, is the nodes l and may be appended to. -/
def Own (w : World) (B : Nat) (v : Value) (l : List Nd) : Prop := w.ownsRow B 39 6 v l.length (flat l)

theorem Own.form {w : World} {B : Nat} {v : Value} {l : List Nd} (h : Own w B v l) : ∃ a c, v = .slice a l.length c ∧ WNodes w B a l := by
  obtain ⟨h1, h2⟩ := h
  rcases h2 with ⟨rfl, h0⟩ | ⟨g, cap, cur, rfl, hb, hg, hn, hm, hs, ht⟩
  · have : l = [] := List.eq_nil_of_length_eq_zero h0
    subst this
    exact ⟨none, 0, rfl, Nat.zero_le _, .inl rfl⟩
  · have hcell : ∀ j, j < l.length * 6 → w.cell? ⟨g, j, none⟩ = (flat l)[j]? := by
      intro j hj
      rw [cell_of_row w g j cur _ _ hg, ← ht, List.getElem?_take_of_lt hj]
      simp
    refine ⟨_, _, rfl, by omega, .inr ⟨g, 0, rfl, hb, fun i hi => ?_, fun j hj => ?_⟩⟩
    · have hf := flat_get l i hi
      rw [Nat.zero_add]
      refine ⟨?_, ?_, ?_, ?_, ?_, ?_⟩
      · rw [hcell _ (by omega)]; exact hf 0 (by omega)
      · rw [hcell _ (by omega)]; exact hf 1 (by omega)
      · rw [hcell _ (by omega)]; exact hf 2 (by omega)
      · rw [hcell _ (by omega)]; exact hf 3 (by omega)
      · rw [hcell _ (by omega)]; exact hf 4 (by omega)
      · rw [hcell _ (by omega)]; exact hf 5 (by omega)
    · rw [Nat.zero_add]
      simp [World.frozen?, hg]
theorem Own.lit (w : World) (B : Nat) (hB : B ≤ w.heap.size) : Own (w.alloc (.cells #[] 39)) B (.slice (some ⟨w.heap.size, 0, none⟩) 0 0) [] :=
  World.ownsRow_lit w #[] 0 hB (Nat.zero_le _) rfl
theorem Own.lt {w : World} {B : Nat} {v : Value} {l : List Nd} (h : Own w B v l) : ∀ k, v.ownBlock = some k → B ≤ k ∧ k < w.heap.size := World.ownsRow.lt h
theorem Own.kept {w w' : World} {B : Nat} {v : Value} {l : List Nd} (h : Own w B v l) {S : Nat → Prop} (k : Kept S w w') (hs : ∀ i, v.ownBlock = some i → ¬ S i) : Own w' B v l := by
  refine ⟨h.1, ?_⟩
  rcases h.2 with hn | ⟨g, cap, cur, rfl, hb, hgg, rest⟩
  · exact .inl hn
  · refine .inr ⟨g, cap, cur, rfl, hb, ?_, rest⟩
    rw [k.block g (Array.getElem?_eq_some_iff.1 hgg).1 (hs g rfl)]
    exact hgg
theorem Own.len {w : World} {B : Nat} {v : Value} {l : List Nd} (h : Own w B v l) : ∃ a c, v = .slice a l.length c := by
  obtain ⟨a, c, hv, _⟩ := h.form; exact ⟨a, c, hv⟩

/-- One node more. -/
theorem app_node {ops : Array Oper} {rest : List Oper} {o : Oper} {a : Act} {Q : Exit → Act → World → Prop} (W : World) (hgd : o.guard = none) (s x : Operand)
    (ho : o.op = .call { callee := .builtin .append, args := #[s, x], argTypes := #[25, 25] })
    (B : Nat) (v : Value) (l : List Nd) (y : Nd) (hs : a.eval s = v) (G : Nat) (hx : a.eval x = .slice (some ⟨G, 0, none⟩) 1 1) (hG : G = W.heap.size)
    (hown : Own W B v l) (hB : B ≤ W.heap.size) (hlen : l.length ≤ 1048576)
    (h : ∀ g cap w', Own w' B (.slice (some ⟨g, 0, none⟩) (l.length + 1) cap) (l ++ [y]) → Kept (fun k => v.ownBlock = some k) W w' → (v.ownBlock = some g ∨ W.heap.size ≤ g) → wpList Try.prog ops Q rest (a.put o.dst (.slice (some ⟨g, 0, none⟩) (l.length + 1) cap)) w') :
    wpList Try.prog ops Q (o :: rest) a (W.alloc (.cells #[.int .i64 y.op, .int .i64 y.w, .int .i64 y.k, .int .i64 y.a, .int .i64 y.b, .int .i64 y.c] 39)) := by
  subst hG
  obtain ⟨i, hi, hzz⟩ := Option.map_eq_some_iff.1 infoNode
  simp only [Prod.mk.injEq] at hzz
  obtain ⟨hz, hsz, hb⟩ := hzz
  refine wpList_append_lies (W.alloc (.cells #[.int .i64 y.op, .int .i64 y.w, .int .i64 y.k, .int .i64 y.a, .int .i64 y.b, .int .i64 y.c] 39)) hgd s x 25 ho B 39 i _ 6 48 Try.underlying25 hi hz hsz hb rfl (by omega) v l.length (flat l) hs (World.ownsRow.alloc hown _)
    ⟨W.heap.size, 0, none⟩ 1 1 y.cells hx rfl ?_ ?_ (by omega) (by unfold maxLen; omega) (by omega) (by simp; omega) _ rfl ?_
  · intro j u hu
    exact World.news_of_block (heap_alloc_new W _) j u hu
  · intro u hu
    simp [Nd.cells] at hu
    rcases hu with rfl | rfl | rfl | rfl | rfl | rfl <;> rfl
  · intro g cap w' h1 h2 h3 h4
    refine h g cap w' ?_ ?_ ?_
    · unfold Own
      rw [flat_snoc, List.length_append]
      exact h1
    · have k1 : Kept (fun k => v.ownBlock = some k) W (W.alloc (.cells #[.int .i64 y.op, .int .i64 y.w, .int .i64 y.k, .int .i64 y.a, .int .i64 y.b, .int .i64 y.c] 39)) := (Kept.refl _ W).alloc _
      exact k1.trans ⟨h2.os, h2.tape, h2.output, h2.size, fun k hk hn => h2.block k hk (fun e => hn e.symm)⟩
    · rcases h3 with h3 | h3
      · exact .inl h3
      · exact .inr (by rw [h3]; simp)

end Go.Proofs.Ytebejleeadofcaa.Ap2
