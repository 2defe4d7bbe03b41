/- Small texts of mine, one behind the other. -/
import Derived.Test.YtgfekhgeopflcaaGreatRows
import Derived.Deep.AppendLies
import Derived.OwnWalk
import Derived.Deep.RegionHeld
import Derived.Deep.CutRange
import Derived.Test.YtgfekhgeopflcaaGreatPkT619
import Derived.Test.YtgfekhgeopflcaaGreatPkT60
import Derived.Test.YtgfekhgeopflcaaGreatPkT615
/- Values that fit, from a node to its parts: as plain data. -/
namespace Go.Proofs.YtgfekhgeopflcaaGreat.Vm2
open Nd0 Pl1 Pl2 Tm0 Tm1 Tm3 Tm5 Tm6 Tm8 Tm11 Tm13 Tm14 Tr0 Vl1 Vl2 Vm0 Vm1
set_option linter.unusedVariables false

/-- The variables' values e are words of the widths that place i wants. -/
def FitN (l : List Nd) (i : Nat) (e : List Int) : Prop := ∃ r, needT (tr l i) = some r ∧ Fits r e
theorem FitN.part {l : List Nd} (hD : Down l) {i : Nat} (hi : i < l.length) {e : List Int} (h : FitN l i e) (hq : quant (nth l i).op = false) {p : Int} (hp : p ∈ parts (nth l i)) : FitN l p.toNat e := by
  obtain ⟨r, hr, hF⟩ := h
  rw [tr_at hD hi] at hr
  generalize nth l i = n at hp hq hr
  have hq2 : ¬ n.op = 19 ∧ ¬ n.op = 20 := by simpa [quant] using hq
  by_cases h1 : n.op = 2 ∨ n.op = 17 ∨ n.op = 19 ∨ n.op = 20
  · rw [mk_one h1] at hr
    rw [parts_one h1] at hp
    simp only [List.mem_cons, List.not_mem_nil, or_false] at hp
    subst hp
    simp only [needT] at hr
    cases hn : needT (tr l n.a.toNat) with
    | none => rw [hn] at hr; cases hr
    | some s =>
      rw [hn] at hr
      simp only [Option.bind_some, hq, Bool.false_eq_true, if_false] at hr
      cases hr
      exact ⟨_, hn, hF⟩
  · by_cases h2 : 3 ≤ n.op ∧ n.op ≤ 16
    · rw [mk_two h2] at hr
      rw [parts_two h2] at hp
      simp only [List.mem_cons, List.not_mem_nil, or_false] at hp
      simp only [needT] at hr
      cases hx : needT (tr l n.a.toNat) with
      | none => rw [hx] at hr; cases hr
      | some s =>
        cases hy : needT (tr l n.b.toNat) with
        | none => rw [hx, hy] at hr; cases hr
        | some t =>
          rw [hx, hy] at hr
          simp only [Option.bind_some] at hr
          cases hr
          rcases hp with rfl | rfl
          · exact ⟨s, hx, hF.left⟩
          · exact ⟨t, hy, hF.right⟩
    · by_cases h3 : n.op = 18
      · rw [mk_three h3] at hr
        rw [parts_three h3] at hp
        simp only [List.mem_cons, List.not_mem_nil, or_false] at hp
        simp only [needT] at hr
        cases hx : needT (tr l n.a.toNat) with
        | none => rw [hx] at hr; cases hr
        | some s =>
          cases hy : needT (tr l n.b.toNat) with
          | none => rw [hx, hy] at hr; cases hr
          | some t =>
            cases hz : needT (tr l n.c.toNat) with
            | none => rw [hx, hy, hz] at hr; cases hr
            | some u =>
              rw [hx, hy, hz] at hr
              simp only [Option.bind_some] at hr
              cases hr
              rcases hp with rfl | rfl | rfl
              · exact ⟨s, hx, hF.left.left⟩
              · exact ⟨t, hy, hF.left.right⟩
              · exact ⟨u, hz, hF.right⟩
      · rw [parts_none h1 h2 h3] at hp
        cases hp
theorem FitN.below {l : List Nd} (hD : Down l) {i : Nat} (hi : i < l.length) (hN : nodeOk l i = true) {e : List Int} (he : e.length = 8) (h : FitN l i e) (hq : quant (nth l i).op = true) {k : Nat} (hk : k < 2 ^ (nth l i).b.toNat) : FitN l (nth l i).a.toNat (e.set (nth l i).k.toNat (k : Int)) := by
  obtain ⟨r, hr, hF⟩ := h
  have hkk := shape_var hN (.inr hq)
  have hbb := quant_b hN hq
  rw [tr_at hD hi] at hr
  generalize nth l i = n at hq hr hkk hbb hk
  have hq2 : n.op = 19 ∨ n.op = 20 := by simpa [quant] using hq
  rw [mk_one (by omega)] at hr
  simp only [needT] at hr
  cases hn : needT (tr l n.a.toNat) with
  | none => rw [hn] at hr; cases hr
  | some s =>
    rw [hn] at hr
    simp only [Option.bind_some, hq, if_true] at hr
    by_cases hc : s.getD n.k.toNat 0 ≠ 0 ∧ s.getD n.k.toNat 0 ≠ 2 ^ n.b.toNat
    · rw [if_pos hc] at hr; cases hr
    · rw [if_neg hc] at hr
      cases hr
      exact ⟨s, hn, Fits.below (need_len _ _ hn) he hkk hbb hk hc hF⟩
theorem FitN.word {l : List Nd} (hT : termOk l = true) {i : Nat} (hi : i < l.length) {e : List Int} (he : e.length = 8) (h : FitN l i e) : wok (nth l i).w (vT (tr l i) e) = true := by
  obtain ⟨r, hr, hF⟩ := h
  have h2 := rt_all (down_of hT) (fun k hk => term_node hT hk) i hi
  have := value_word _ r e h2.1 hr he hF
  rw [h2.2] at this
  exact this
/-- Whether a quantifier's part is worth x at one word at least. -/
def hitB (l : List Nd) (e : List Int) (n : Nd) (x : Int) : Bool := (List.range (2 ^ n.b.toNat)).any fun (k : Nat) => vT (tr l n.a.toNat) (e.set n.k.toNat (k : Int)) == x
theorem hit_iff {l : List Nd} {e : List Int} {n : Nd} {x : Int} : hitB l e n x = true ↔ ∃ k : Nat, k < 2 ^ n.b.toNat ∧ vT (tr l n.a.toNat) (e.set n.k.toNat (k : Int)) = x := by
  unfold hitB
  rw [List.any_eq_true]
  constructor
  · rintro ⟨k, h1, h2⟩; exact ⟨k, List.mem_range.1 h1, by simpa using h2⟩
  · rintro ⟨k, h1, h2⟩; exact ⟨k, List.mem_range.2 h1, by simpa using h2⟩
/-- A quantifier is worth what its part comes to. -/
theorem vT_hit {l : List Nd} (hT : termOk l = true) {i : Nat} (hi : i < l.length) {e : List Int} (he : e.length = 8) (h : FitN l i e) (hq : quant (nth l i).op = true) :
    vT (tr l i) e = if (nth l i).op = 19 then (if (!hitB l e (nth l i) 0) then 1 else 0) else (if hitB l e (nth l i) 1 then 1 else 0) := by
  have hD := down_of hT
  have hq2 : (nth l i).op = 19 ∨ (nth l i).op = 20 := by simpa [quant] using hq
  have haa := hD i hi (nth l i).a (by rw [parts_one (by omega)]; simp)
  have hw1 : (nth l (nth l i).a.toNat).w = 1 := by
    have h2 := (rt_all hD (fun k hk => term_node hT hk) i hi).1
    rw [tr_at hD hi, mk_one (by omega)] at h2
    have h3 := h2.2.2.2
    have h4 := (rt_all hD (fun k hk => term_node hT hk) (nth l i).a.toNat (by omega)).2
    rcases h3 with h5 | h5 | h5
    · omega
    · omega
    · rw [← h4]; exact h5.2.1
  have hbit : ∀ k : Nat, k < 2 ^ (nth l i).b.toNat → vT (tr l (nth l i).a.toNat) (e.set (nth l i).k.toNat (k : Int)) = 0 ∨ vT (tr l (nth l i).a.toNat) (e.set (nth l i).k.toNat (k : Int)) = 1 := fun k hk => by
    have h2 := FitN.word hT (by omega) (by rw [List.length_set]; exact he) (h.below hD hi (term_node hT hi) he hq hk)
    rw [hw1] at h2
    have h3 := wok_iff.1 h2
    have h4 : p2 (1 : Int).toNat = 2 := rfl
    rw [h4] at h3
    omega
  rw [vT_quant hD hi e hq]
  by_cases h19 : (nth l i).op = 19
  · rw [if_pos h19, if_pos h19]
    cases hh : hitB l e (nth l i) 0
    · simp only [Bool.not_false, if_true]
      refine allN_one.2 (fun k hk => ?_)
      rcases hbit k hk with h5 | h5
      · rw [hit_iff.2 ⟨k, hk, h5⟩] at hh; cases hh
      · exact h5
    · obtain ⟨k, hk, h5⟩ := hit_iff.1 hh
      simp only [Bool.not_true, Bool.false_eq_true, if_false]
      rcases allN_bit (fun i_1 => vT (tr l (nth l i).a.toNat) (e.set (nth l i).k.toNat (i_1 : Int))) (2 ^ (nth l i).b.toNat) with h6 | h6
      · exact h6
      · have h7 := allN_one.1 h6 k hk
        rw [h5] at h7; cases h7
  · rw [if_neg h19, if_neg h19]
    cases hh : hitB l e (nth l i) 1
    · simp only [Bool.false_eq_true, if_false]
      rcases anyN_bit (fun i_1 => vT (tr l (nth l i).a.toNat) (e.set (nth l i).k.toNat (i_1 : Int))) (2 ^ (nth l i).b.toNat) with h6 | h6
      · exact h6
      · rw [hit_iff.2 (anyN_one.1 h6)] at hh; cases hh
    · simp only [if_true]
      exact anyN_one.2 (hit_iff.1 hh)

end Go.Proofs.YtgfekhgeopflcaaGreat.Vm2

/- Memory that calls leave as it is: three small laws. -/
namespace Go.Proofs.YtgfekhgeopflcaaGreat.Kp0
open Go.RowKit
open Nd0

theorem below_drewN {B : Nat} {u w : World} (h : Below B u w) (n : Nat) : Below B u (w.drewN n) := ⟨h.os, h.tape, h.output, h.size, h.block⟩
theorem intsIn_below {w w' : World} {B U : Nat} {a : Option Addr} {l : List Int} (h : IntsIn w B U a l) (k : Below w.heap.size w w') : IntsIn w' B U a l :=
  h.kept (S := fun _ => False) (Kept.ofBelow k) (fun _ _ _ h => h)
theorem keep {B : Nat} {u v w : World} (h : Below B u v) (k : Below v.heap.size v w) (hB : B ≤ v.heap.size) : Below B u w := h.trans (k.mono hB)

end Go.Proofs.YtgfekhgeopflcaaGreat.Kp0

/- Lists of nodes that are appended to: the law at the walk, and how they are read. -/
namespace Go.Proofs.YtgfekhgeopflcaaGreat.Ap2
open Go.RowKit
open Nd0 Nd3
set_option linter.unusedVariables false

theorem infoNode : (Tryz.prog.info? 50).map (fun i => (i.zero, i.size, i.bytes)) = some (some (.agg #[.int .i64 0, .int .i64 0, .int .i64 0, .int .i64 0, .int .i64 0, .int .i64 0]), 6, 48) := by kernel_rfl

/-- The cells of a list of nodes. -/
def flat (l : List Nd) : List Value := l.flatMap Nd.cells
theorem cells_length (n : Nd) : n.cells.length = 6 := rfl
theorem flat_length (l : List Nd) : (flat l).length = l.length * 6 := by
  induction l with
  | nil => rfl
  | cons n l ih => show (n.cells ++ flat l).length = _; rw [List.length_append, ih, cells_length, List.length_cons]; omega
theorem flat_get (l : List Nd) : ∀ (i : Nat) (h : i < l.length) (j : Nat), j < 6 → (flat l)[i * 6 + j]? = (l[i].cells)[j]? := by
  induction l with
  | nil => intro i h; exact absurd h (Nat.not_lt_zero _)
  | cons n l ih =>
    intro i h j hj
    show (n.cells ++ flat l)[i * 6 + j]? = _
    cases i with
    | zero => rw [Nat.zero_mul, Nat.zero_add, List.getElem?_append_left (by rw [cells_length]; exact hj)]; rfl
    | succ i =>
      rw [List.getElem?_append_right (by rw [cells_length]; omega), cells_length, show (i + 1) * 6 + j - 6 = i * 6 + j by omega]
      exact ih i (by simpa using h) j hj
theorem flat_snoc (l : List Nd) (n : Nd) : flat (l ++ [n]) = flat l ++ n.cells := by simp [flat]

/-- The slice v, in a block from B on, is the nodes l and may be appended to. -/
def Own (w : World) (B : Nat) (v : Value) (l : List Nd) : Prop := w.ownsRow B 50 6 v l.length (flat l)

theorem Own.form {w : World} {B : Nat} {v : Value} {l : List Nd} (h : Own w B v l) : ∃ a c, v = .slice a l.length c ∧ WNodes w B a l := by
  obtain ⟨h1, h2⟩ := h
  rcases h2 with ⟨rfl, h0⟩ | ⟨g, cap, cur, rfl, hb, hg, hn, hm, hs, ht⟩
  · have : l = [] := List.eq_nil_of_length_eq_zero h0
    subst this
    exact ⟨none, 0, rfl, Nat.zero_le _, .inl rfl⟩
  · have hcell : ∀ j, j < l.length * 6 → w.cell? ⟨g, j, none⟩ = (flat l)[j]? := by
      intro j hj
      rw [cell_of_row w g j cur _ _ hg, ← ht, List.getElem?_take_of_lt hj]
      simp
    refine ⟨_, _, rfl, by omega, .inr ⟨g, 0, rfl, hb, fun i hi => ?_, fun j hj => ?_⟩⟩
    · have hf := flat_get l i hi
      rw [Nat.zero_add]
      refine ⟨?_, ?_, ?_, ?_, ?_, ?_⟩
      · rw [hcell _ (by omega)]; exact hf 0 (by omega)
      · rw [hcell _ (by omega)]; exact hf 1 (by omega)
      · rw [hcell _ (by omega)]; exact hf 2 (by omega)
      · rw [hcell _ (by omega)]; exact hf 3 (by omega)
      · rw [hcell _ (by omega)]; exact hf 4 (by omega)
      · rw [hcell _ (by omega)]; exact hf 5 (by omega)
    · rw [Nat.zero_add]
      simp [World.frozen?, hg]
theorem Own.lit (w : World) (B : Nat) (hB : B ≤ w.heap.size) : Own (w.alloc (.cells #[] 50)) B (.slice (some ⟨w.heap.size, 0, none⟩) 0 0) [] :=
  World.ownsRow_lit w #[] 0 hB (Nat.zero_le _) rfl
theorem Own.lt {w : World} {B : Nat} {v : Value} {l : List Nd} (h : Own w B v l) : ∀ k, v.ownBlock = some k → B ≤ k ∧ k < w.heap.size := World.ownsRow.lt h
theorem Own.kept {w w' : World} {B : Nat} {v : Value} {l : List Nd} (h : Own w B v l) {S : Nat → Prop} (k : Kept S w w') (hs : ∀ i, v.ownBlock = some i → ¬ S i) : Own w' B v l := by
  refine ⟨h.1, ?_⟩
  rcases h.2 with hn | ⟨g, cap, cur, rfl, hb, hgg, rest⟩
  · exact .inl hn
  · refine .inr ⟨g, cap, cur, rfl, hb, ?_, rest⟩
    rw [k.block g (Array.getElem?_eq_some_iff.1 hgg).1 (hs g rfl)]
    exact hgg
theorem Own.len {w : World} {B : Nat} {v : Value} {l : List Nd} (h : Own w B v l) : ∃ a c, v = .slice a l.length c := by
  obtain ⟨a, c, hv, _⟩ := h.form; exact ⟨a, c, hv⟩

/-- One node more. -/
theorem app_node {ops : Array Oper} {rest : List Oper} {o : Oper} {a : Act} {Q : Exit → Act → World → Prop} (W : World) (hgd : o.guard = none) (s x : Operand)
    (ho : o.op = .call { callee := .builtin .append, args := #[s, x], argTypes := #[32, 32] })
    (B : Nat) (v : Value) (l : List Nd) (y : Nd) (hs : a.eval s = v) (G : Nat) (hx : a.eval x = .slice (some ⟨G, 0, none⟩) 1 1) (hG : G = W.heap.size)
    (hown : Own W B v l) (hB : B ≤ W.heap.size) (hlen : l.length ≤ 1048576)
    (h : ∀ g cap w', Own w' B (.slice (some ⟨g, 0, none⟩) (l.length + 1) cap) (l ++ [y]) → Kept (fun k => v.ownBlock = some k) W w' → (v.ownBlock = some g ∨ W.heap.size ≤ g) → wpList Tryz.prog ops Q rest (a.put o.dst (.slice (some ⟨g, 0, none⟩) (l.length + 1) cap)) w') :
    wpList Tryz.prog ops Q (o :: rest) a (W.alloc (.cells #[.int .i64 y.op, .int .i64 y.w, .int .i64 y.k, .int .i64 y.a, .int .i64 y.b, .int .i64 y.c] 50)) := by
  subst hG
  obtain ⟨i, hi, hzz⟩ := Option.map_eq_some_iff.1 infoNode
  simp only [Prod.mk.injEq] at hzz
  obtain ⟨hz, hsz, hb⟩ := hzz
  refine wpList_append_lies (W.alloc (.cells #[.int .i64 y.op, .int .i64 y.w, .int .i64 y.k, .int .i64 y.a, .int .i64 y.b, .int .i64 y.c] 50)) hgd s x 32 ho B 50 i _ 6 48 Tryz.underlying32 hi hz hsz hb rfl (by omega) v l.length (flat l) hs (World.ownsRow.alloc hown _)
    ⟨W.heap.size, 0, none⟩ 1 1 y.cells hx rfl ?_ ?_ (by omega) (by unfold maxLen; omega) (by omega) (by simp; omega) _ rfl ?_
  · intro j u hu
    exact World.news_of_block (heap_alloc_new W _) j u hu
  · intro u hu
    simp [Nd.cells] at hu
    rcases hu with rfl | rfl | rfl | rfl | rfl | rfl <;> rfl
  · intro g cap w' h1 h2 h3 h4
    refine h g cap w' ?_ ?_ ?_
    · unfold Own
      rw [flat_snoc, List.length_append]
      exact h1
    · have k1 : Kept (fun k => v.ownBlock = some k) W (W.alloc (.cells #[.int .i64 y.op, .int .i64 y.w, .int .i64 y.k, .int .i64 y.a, .int .i64 y.b, .int .i64 y.c] 50)) := (Kept.refl _ W).alloc _
      exact k1.trans ⟨h2.os, h2.tape, h2.output, h2.size, fun k hk hn => h2.block k hk (fun e => hn e.symm)⟩
    · rcases h3 with h3 | h3
      · exact .inl h3
      · exact .inr (by rw [h3]; simp)

end Go.Proofs.YtgfekhgeopflcaaGreat.Ap2

/- Small facts on nodes that are laid and appended. -/
namespace Go.Proofs.YtgfekhgeopflcaaGreat.Dw3
open Go.RowKit
open Nd0 Nd3 Ap2
set_option linter.unusedVariables false

theorem flat_app (l ys : List Nd) : flat (l ++ ys) = flat l ++ flat ys := by simp [flat]
theorem nodes_cells {W : World} {gx ox : Nat} {ys : List Nd} (hy : ∀ i (h : i < ys.length), NodeAt W gx (ox + i * 6) ys[i]) (j : Nat) (u : Value) (hu : (flat ys)[j]? = some u) : W.cell? ((⟨gx, ox, none⟩ : Addr).add j) = some u := by
  have hadd : (⟨gx, ox, none⟩ : Addr).add j = ⟨gx, ox + j, none⟩ := by unfold Addr.add; split <;> simp_all
  rw [hadd]
  have hj : j < (flat ys).length := (List.getElem?_eq_some_iff.1 hu).1
  rw [flat_length] at hj
  have hi : j / 6 < ys.length := by omega
  have hf := flat_get ys (j / 6) hi (j % 6) (Nat.mod_lt _ (by omega))
  have e : j / 6 * 6 + j % 6 = j := by omega
  rw [e, hu] at hf
  obtain ⟨c0, c1, c2, c3, c4, c5⟩ := hy (j / 6) hi
  have h6 : j % 6 = 0 ∨ j % 6 = 1 ∨ j % 6 = 2 ∨ j % 6 = 3 ∨ j % 6 = 4 ∨ j % 6 = 5 := by omega
  rcases h6 with r | r | r | r | r | r
  · rw [r] at hf; have e2 : ox + j = ox + j / 6 * 6 := by omega
    rw [e2, c0]; exact hf.symm
  · rw [r] at hf; have e2 : ox + j = ox + j / 6 * 6 + 1 := by omega
    rw [e2, c1]; exact hf.symm
  · rw [r] at hf; have e2 : ox + j = ox + j / 6 * 6 + 2 := by omega
    rw [e2, c2]; exact hf.symm
  · rw [r] at hf; have e2 : ox + j = ox + j / 6 * 6 + 3 := by omega
    rw [e2, c3]; exact hf.symm
  · rw [r] at hf; have e2 : ox + j = ox + j / 6 * 6 + 4 := by omega
    rw [e2, c4]; exact hf.symm
  · rw [r] at hf; have e2 : ox + j = ox + j / 6 * 6 + 5 := by omega
    rw [e2, c5]; exact hf.symm

/-- Some nodes more, at a step of a region that draws its order. -/
theorem step_app_nodes {ops : Array Oper} {o : Oper} {a : Act} {K : Act → World → Prop} {Q : Exit → Act → World → Prop} {E : Prop} (W : World) (hgd : o.guard = none) (s x : Operand)
    (ho : o.op = .call { callee := .builtin .append, args := #[s, x], argTypes := #[32, 32] })
    (B : Nat) (v : Value) (l ys : List Nd) (gx ox c : Nat) (hs : a.eval s = v) (hx : a.eval x = .slice (some ⟨gx, ox, none⟩) ys.length c)
    (hy : ∀ i (h : i < ys.length), NodeAt W gx (ox + i * 6) ys[i]) (hp : 0 < ys.length)
    (hown : Ap2.Own W B v l) (hB : B ≤ W.heap.size) (hlen : l.length + ys.length ≤ 1048577)
    (h : ∀ g cap w', Ap2.Own w' B (.slice (some ⟨g, 0, none⟩) (l.length + ys.length) cap) (l ++ ys) → Kept (fun k => v.ownBlock = some k) W w' → (v.ownBlock = some g ∨ W.heap.size ≤ g) → K (a.put o.dst (.slice (some ⟨g, 0, none⟩) (l.length + ys.length) cap)) w') :
    if Region.wanted o (yielded ops a.tmps) = true then Oper.wp Tryz.prog o a W K Q else E := by
  obtain ⟨i, hi, hzz⟩ := Option.map_eq_some_iff.1 infoNode
  simp only [Prod.mk.injEq] at hzz
  obtain ⟨hz, hsz, hb⟩ := hzz
  refine step_append_lies W hgd s x 32 ho B 50 i _ 6 48 Tryz.underlying32 hi hz hsz hb rfl (by omega) v l.length (flat l) hs hown
    ⟨gx, ox, none⟩ ys.length c (flat ys) hx (flat_length ys) (fun j u hu => nodes_cells hy j u hu) ?_ hp (by unfold maxLen; omega) (by omega) hB _ rfl ?_
  · intro u hu
    obtain ⟨n, _, hn⟩ := List.mem_flatMap.1 hu
    simp [Nd.cells] at hn
    rcases hn with rfl | rfl | rfl | rfl | rfl | rfl <;> rfl
  · intro g cap w' h1 h2 h3 h4
    refine h g cap w' ?_ ?_ ?_
    · unfold Ap2.Own
      rw [flat_app, List.length_append]
      exact h1
    · exact ⟨h2.os, h2.tape, h2.output, h2.size, fun k hk hn => h2.block k hk (fun e => hn e.symm)⟩
    · rcases h3 with h3 | h3
      · exact .inl h3
      · exact .inr (by rw [h3]; exact Nat.le_refl _)

end Go.Proofs.YtgfekhgeopflcaaGreat.Dw3
namespace Go.Proofs.YtgfekhgeopflcaaGreat.Dw4
open Go.RowKit
open Nd0 Nd3 Ap2
set_option linter.unusedVariables false

theorem own_lit (W : World) (B g : Nat) (hg : g = W.heap.size) (hB : B ≤ g) : Ap2.Own (W.alloc (.cells #[] 50)) B (.slice (some ⟨g, 0, none⟩) 0 0) [] := by
  subst hg; exact Own.lit W B hB
theorem node_new (W : World) (n : Nd) (T g : Nat) (hg : g = W.heap.size) : ∀ i (h : i < [n].length), NodeAt (W.alloc (.cells #[.int .i64 n.op, .int .i64 n.w, .int .i64 n.k, .int .i64 n.a, .int .i64 n.b, .int .i64 n.c] T)) g (0 + i * 6) [n][i] := by
  subst hg
  intro i hi
  have h0 : i = 0 := by simp at hi; exact hi
  subst h0
  refine ⟨?_, ?_, ?_, ?_, ?_, ?_⟩ <;> (rw [World.cell?_alloc_new]; try rfl)
theorem node_kept {W W' : World} {S : Nat → Prop} {n : Nd} {g : Nat} (k : Kept S W W') (hg : g < W.heap.size) (hs : ¬ S g) (h : ∀ i (h : i < [n].length), NodeAt W g (0 + i * 6) [n][i]) : ∀ i (h : i < [n].length), NodeAt W' g (0 + i * 6) [n][i] := by
  intro i hi
  obtain ⟨c0, c1, c2, c3, c4, c5⟩ := h i hi
  exact ⟨by rw [k.cell (p := ⟨g, _, none⟩) hg hs]; exact c0, by rw [k.cell (p := ⟨g, _, none⟩) hg hs]; exact c1, by rw [k.cell (p := ⟨g, _, none⟩) hg hs]; exact c2, by rw [k.cell (p := ⟨g, _, none⟩) hg hs]; exact c3, by rw [k.cell (p := ⟨g, _, none⟩) hg hs]; exact c4, by rw [k.cell (p := ⟨g, _, none⟩) hg hs]; exact c5⟩
theorem own_ne {g h n c : Nat} (hne : g ≠ h) : ¬ (Value.slice (some ⟨g, 0, none⟩) n c).ownBlock = some h := by
  intro e
  have : some g = some h := e
  exact hne (Option.some.inj this)
theorem sz2 (W : World) (o o' : Obj) : (((W.alloc o).alloc o').drew).heap.size = W.heap.size + 1 + 1 := by
  show ((W.alloc o).alloc o').heap.size = _
  simp
theorem node_drew {W : World} {n : Nd} {g : Nat} (h : ∀ i (h : i < [n].length), NodeAt W g (0 + i * 6) [n][i]) : ∀ i (h : i < [n].length), NodeAt W.drew g (0 + i * 6) [n][i] := fun i hi => ⟨(h i hi).c0, (h i hi).c1, (h i hi).c2, (h i hi).c3, (h i hi).c4, (h i hi).c5⟩
end Go.Proofs.YtgfekhgeopflcaaGreat.Dw4
