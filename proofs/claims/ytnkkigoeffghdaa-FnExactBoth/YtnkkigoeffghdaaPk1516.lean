/- Small texts of mine, one behind the other. -/
import Derived.Deep.RegionHeld
import Derived.Deep.CutRange
import Derived.Deep.RegionHeld3
import Derived.Test.YtnkkigoeffghdaaPk1515
import Derived.Test.YtnkkigoeffghdaaPk1513
import Derived.Test.YtnkkigoeffghdaaPk1514
import Derived.Test.YtnkkigoeffghdaaPk154
import Derived.Test.YtnkkigoeffghdaaPk153
import Derived.Test.YtnkkigoeffghdaaPk158
import Derived.Test.YtnkkigoeffghdaaPk157
/- The exact laws of Level and CountOp. Written by tools/mkex.py. -/
namespace Go.Proofs.Ytnkkigoeffghdaa.Lx81
open Go.RowKit
open Nd0 Nd1 Nd2 Nd3 Nd4 Nd5 Nd6 Tm0 Tm3 Aq0 Ap0
open Am3 (sLevel sCountOp)
open Pb2 (iLevel iCountOp)
open Lx1 (ITermOk)
open Lx4 (IPrune)
set_option linter.unusedVariables false

set_option maxRecDepth 100000 in
set_option maxHeartbeats 8000000 in
theorem exLevel (hI : ITermOk) (w : World) (a0 : Option Addr) (l0 : List Nd) (c0 : Nat) (hN0 : Nodes w a0 l0) :
    Calls Try.prog 5 #[.slice a0 l0.length c0] w fun e w' => e = .returned (.bool true) ∧ Below w.heap.size w w' := by
  have HN0 : Hid (Nodes w a0 l0) := hN0
  have hm0 := hN0.1
  clear hN0
  by_cases hl0s : l0.length ≤ 1048576
  rotate_left
  · skip
    go_enter Try.func5, Try.ntmps5
    go_wp2_with fail
    refine (szNodeS _ a0 l0.length c0 _ (by omega) (by omega) hm0).mono ?_
    rw [if_neg (by omega)]
    rintro e wz ⟨rfl, hz⟩
    have hz' := hz.symm
    clear hz
    subst hz'
    go_wp2
    go_ret
    exact ⟨rfl, Below.refl _ _⟩
  have hl0 : l0.length ≤ 1048576 := by omega
  go_enter Try.func5, Try.ntmps5
  go_wp2_with fail
  refine (szNodeS _ a0 l0.length c0 _ (by omega) (by omega) hm0).mono ?_
  rw [if_pos (by omega)]
  rintro e wz ⟨rfl, hz⟩
  have hz' := hz.symm
  clear hz
  subst hz'
  have hp0 : 0 ≤ (1048576 : Int) - (l0.length : Int) := by omega
  have HB0 : Hid (Below w.heap.size w w) := Below.refl _ _
  go_wp2_with fail
  refine (toNodeS _ a0 l0 c0 (HN0.out.below HB0.out) hl0).mono ?_
  rintro e x1 ⟨rfl, hw, hb⟩
  have HB1 : Hid (Below w.heap.size w x1) := HB0.out.trans (hb.mono HB0.out.size)
  have hs1 : w.heap.size ≤ x1.heap.size := hb.size
  have Ht0_1 : Hid (NodesIn x1 w.heap.size x1.heap.size (some ⟨w.heap.size, 0, none⟩) l0) := WNodes.within hw
  clear hw hb
  go_wp2_with fail
  refine (sLevel _ _ l0 _ Ht0_1.out.nodes).mono ?_
  rintro e x2 ⟨rfl, hb⟩
  have HB2 : Hid (Below w.heap.size w x2) := HB1.out.trans (hb.mono HB1.out.size)
  have hs2 : x1.heap.size ≤ x2.heap.size := hb.size
  clear hb 
  have hne0 : ((levelL l0) != (levelL l0)) = false := by simp
  go_wp2_with fail
  refine (toNodeS _ a0 l0 c0 (HN0.out.below HB2.out) hl0).mono ?_
  rintro e x3 ⟨rfl, hw, hb⟩
  have HB3 : Hid (Below w.heap.size w x3) := HB2.out.trans (hb.mono HB2.out.size)
  have hs3 : x2.heap.size ≤ x3.heap.size := hb.size
  have Hx0_3 : Hid (NodesIn x3 x2.heap.size x3.heap.size (some ⟨x2.heap.size, 0, none⟩) l0) := WNodes.within hw
  clear hw hb
  go_wp2_with fail
  refine (iLevel hI _ _ l0 _ Hx0_3.out.nodes (Nat.le_refl _) hl0).mono ?_
  rintro e x4 ⟨rfl, hb⟩
  have HB4 : Hid (Below w.heap.size w x4) := HB3.out.trans (hb.mono HB3.out.size)
  have hs4 : x3.heap.size ≤ x4.heap.size := hb.size
  have Hx0_4 : Hid (NodesIn x4 x2.heap.size x3.heap.size (some ⟨x2.heap.size, 0, none⟩) l0) := Hx0_3.out.below hb
  clear hb 
  go_wp2_with fail
  refine (toNodeS _ a0 l0 c0 (HN0.out.below HB4.out) hl0).mono ?_
  rintro e x5 ⟨rfl, hw, hb⟩
  have HB5 : Hid (Below w.heap.size w x5) := HB4.out.trans (hb.mono HB4.out.size)
  have hs5 : x4.heap.size ≤ x5.heap.size := hb.size
  have Hx0_5 : Hid (NodesIn x5 x2.heap.size x3.heap.size (some ⟨x2.heap.size, 0, none⟩) l0) := Hx0_4.out.below hb
  have Hy0_5 : Hid (NodesIn x5 x4.heap.size x5.heap.size (some ⟨x4.heap.size, 0, none⟩) l0) := WNodes.within hw
  clear hw hb
  go_wp2_with fail
  refine (eqNodeS _ _ _ l0 _ _ Hx0_5.out.nodes Hy0_5.out.nodes).mono ?_
  rintro e x6 ⟨rfl, hb⟩
  have HB6 : Hid (Below w.heap.size w x6) := HB5.out.trans (hb.mono HB5.out.size)
  have hs6 : x5.heap.size ≤ x6.heap.size := hb.size
  clear hb
  go_wp2
  go_ret
  exact ⟨rfl, HB6.out⟩

set_option maxRecDepth 100000 in
set_option maxHeartbeats 8000000 in
theorem exCountOp (hI : IPrune) (w : World) (a0 : Option Addr) (l0 : List Nd) (c0 : Nat) (v1 : Int) (hN0 : Nodes w a0 l0) :
    Calls Try.prog 6 #[.slice a0 l0.length c0, .int .i64 v1] w fun e w' => e = .returned (.bool true) ∧ Below w.heap.size w w' := by
  have HN0 : Hid (Nodes w a0 l0) := hN0
  have hm0 := hN0.1
  clear hN0
  by_cases hl0s : l0.length ≤ 1048576
  rotate_left
  · skip
    go_enter Try.func6, Try.ntmps6
    go_wp2_with fail
    refine (szNodeS _ a0 l0.length c0 _ (by omega) (by omega) hm0).mono ?_
    rw [if_neg (by omega)]
    rintro e wz ⟨rfl, hz⟩
    have hz' := hz.symm
    clear hz
    subst hz'
    go_wp2
    go_ret
    exact ⟨rfl, Below.refl _ _⟩
  have hl0 : l0.length ≤ 1048576 := by omega
  go_enter Try.func6, Try.ntmps6
  go_wp2_with fail
  refine (szNodeS _ a0 l0.length c0 _ (by omega) (by omega) hm0).mono ?_
  rw [if_pos (by omega)]
  rintro e wz ⟨rfl, hz⟩
  have hz' := hz.symm
  clear hz
  subst hz'
  have hp0 : 0 ≤ (1048576 : Int) - (l0.length : Int) := by omega
  have HB0 : Hid (Below w.heap.size w w) := Below.refl _ _
  go_wp2_with fail
  refine (toNodeS _ a0 l0 c0 (HN0.out.below HB0.out) hl0).mono ?_
  rintro e x1 ⟨rfl, hw, hb⟩
  have HB1 : Hid (Below w.heap.size w x1) := HB0.out.trans (hb.mono HB0.out.size)
  have hs1 : w.heap.size ≤ x1.heap.size := hb.size
  have Ht0_1 : Hid (NodesIn x1 w.heap.size x1.heap.size (some ⟨w.heap.size, 0, none⟩) l0) := WNodes.within hw
  clear hw hb
  go_wp2_with fail
  refine (sCountOp _ _ l0 _ v1 Ht0_1.out.nodes).mono ?_
  rintro e x2 ⟨rfl, hb⟩
  have HB2 : Hid (Below w.heap.size w x2) := HB1.out.trans (hb.mono HB1.out.size)
  have hs2 : x1.heap.size ≤ x2.heap.size := hb.size
  clear hb 
  have hne0 : ((cntL l0 v1) != (cntL l0 v1)) = false := by simp
  go_wp2_with fail
  refine (toNodeS _ a0 l0 c0 (HN0.out.below HB2.out) hl0).mono ?_
  rintro e x3 ⟨rfl, hw, hb⟩
  have HB3 : Hid (Below w.heap.size w x3) := HB2.out.trans (hb.mono HB2.out.size)
  have hs3 : x2.heap.size ≤ x3.heap.size := hb.size
  have Hx0_3 : Hid (NodesIn x3 x2.heap.size x3.heap.size (some ⟨x2.heap.size, 0, none⟩) l0) := WNodes.within hw
  clear hw hb
  go_wp2_with fail
  refine (iCountOp hI _ _ l0 _ v1 Hx0_3.out.nodes (Nat.le_refl _) hl0).mono ?_
  rintro e x4 ⟨rfl, hb⟩
  have HB4 : Hid (Below w.heap.size w x4) := HB3.out.trans (hb.mono HB3.out.size)
  have hs4 : x3.heap.size ≤ x4.heap.size := hb.size
  have Hx0_4 : Hid (NodesIn x4 x2.heap.size x3.heap.size (some ⟨x2.heap.size, 0, none⟩) l0) := Hx0_3.out.below hb
  clear hb 
  go_wp2_with fail
  refine (toNodeS _ a0 l0 c0 (HN0.out.below HB4.out) hl0).mono ?_
  rintro e x5 ⟨rfl, hw, hb⟩
  have HB5 : Hid (Below w.heap.size w x5) := HB4.out.trans (hb.mono HB4.out.size)
  have hs5 : x4.heap.size ≤ x5.heap.size := hb.size
  have Hx0_5 : Hid (NodesIn x5 x2.heap.size x3.heap.size (some ⟨x2.heap.size, 0, none⟩) l0) := Hx0_4.out.below hb
  have Hy0_5 : Hid (NodesIn x5 x4.heap.size x5.heap.size (some ⟨x4.heap.size, 0, none⟩) l0) := WNodes.within hw
  clear hw hb
  go_wp2_with fail
  refine (eqNodeS _ _ _ l0 _ _ Hx0_5.out.nodes Hy0_5.out.nodes).mono ?_
  rintro e x6 ⟨rfl, hb⟩
  have HB6 : Hid (Below w.heap.size w x6) := HB5.out.trans (hb.mono HB5.out.size)
  have hs6 : x5.heap.size ≤ x6.heap.size := hb.size
  clear hb
  go_wp2
  go_ret
  exact ⟨rfl, HB6.out⟩

end Go.Proofs.Ytnkkigoeffghdaa.Lx81

/- Small facts on nodes that are laid and appended. -/
namespace Go.Proofs.Ytnkkigoeffghdaa.Dw3
open Go.RowKit
open Nd0 Nd3 Ap2
set_option linter.unusedVariables false

theorem flat_app (l ys : List Nd) : flat (l ++ ys) = flat l ++ flat ys := by simp [flat]
theorem nodes_cells {W : World} {gx ox : Nat} {ys : List Nd} (hy : ∀ i (h : i < ys.length), NodeAt W gx (ox + i * 6) ys[i]) (j : Nat) (u : Value) (hu : (flat ys)[j]? = some u) : W.cell? ((⟨gx, ox, none⟩ : Addr).add j) = some u := by
  have hadd : (⟨gx, ox, none⟩ : Addr).add j = ⟨gx, ox + j, none⟩ := by unfold Addr.add; split <;> simp_all
  rw [hadd]
  have hj : j < (flat ys).length := (List.getElem?_eq_some_iff.1 hu).1
  rw [flat_length] at hj
  have hi : j / 6 < ys.length := by omega
  have hf := flat_get ys (j / 6) hi (j % 6) (Nat.mod_lt _ (by omega))
  have e : j / 6 * 6 + j % 6 = j := by omega
  rw [e, hu] at hf
  obtain ⟨c0, c1, c2, c3, c4, c5⟩ := hy (j / 6) hi
  have h6 : j % 6 = 0 ∨ j % 6 = 1 ∨ j % 6 = 2 ∨ j % 6 = 3 ∨ j % 6 = 4 ∨ j % 6 = 5 := by omega
  rcases h6 with r | r | r | r | r | r
  · rw [r] at hf; have e2 : ox + j = ox + j / 6 * 6 := by omega
    rw [e2, c0]; exact hf.symm
  · rw [r] at hf; have e2 : ox + j = ox + j / 6 * 6 + 1 := by omega
    rw [e2, c1]; exact hf.symm
  · rw [r] at hf; have e2 : ox + j = ox + j / 6 * 6 + 2 := by omega
    rw [e2, c2]; exact hf.symm
  · rw [r] at hf; have e2 : ox + j = ox + j / 6 * 6 + 3 := by omega
    rw [e2, c3]; exact hf.symm
  · rw [r] at hf; have e2 : ox + j = ox + j / 6 * 6 + 4 := by omega
    rw [e2, c4]; exact hf.symm
  · rw [r] at hf; have e2 : ox + j = ox + j / 6 * 6 + 5 := by omega
    rw [e2, c5]; exact hf.symm

/-- Some nodes more, at a step of a region that draws its order. -/
theorem step_app_nodes {ops : Array Oper} {o : Oper} {a : Act} {K : Act → World → Prop} {Q : Exit → Act → World → Prop} {E : Prop} (W : World) (hgd : o.guard = none) (s x : Operand)
    (ho : o.op = .call { callee := .builtin .append, args := #[s, x], argTypes := #[24, 24] })
    (B : Nat) (v : Value) (l ys : List Nd) (gx ox c : Nat) (hs : a.eval s = v) (hx : a.eval x = .slice (some ⟨gx, ox, none⟩) ys.length c)
    (hy : ∀ i (h : i < ys.length), NodeAt W gx (ox + i * 6) ys[i]) (hp : 0 < ys.length)
    (hown : Ap2.Own W B v l) (hB : B ≤ W.heap.size) (hlen : l.length + ys.length ≤ 1048577)
    (h : ∀ g cap w', Ap2.Own w' B (.slice (some ⟨g, 0, none⟩) (l.length + ys.length) cap) (l ++ ys) → Kept (fun k => v.ownBlock = some k) W w' → (v.ownBlock = some g ∨ W.heap.size ≤ g) → K (a.put o.dst (.slice (some ⟨g, 0, none⟩) (l.length + ys.length) cap)) w') :
    if Region.wanted o (yielded ops a.tmps) = true then Oper.wp Try.prog o a W K Q else E := by
  obtain ⟨i, hi, hzz⟩ := Option.map_eq_some_iff.1 infoNode
  simp only [Prod.mk.injEq] at hzz
  obtain ⟨hz, hsz, hb⟩ := hzz
  refine step_append_lies W hgd s x 24 ho B 55 i _ 6 48 Try.underlying24 hi hz hsz hb rfl (by omega) v l.length (flat l) hs hown
    ⟨gx, ox, none⟩ ys.length c (flat ys) hx (flat_length ys) (fun j u hu => nodes_cells hy j u hu) ?_ hp (by unfold maxLen; omega) (by omega) hB _ rfl ?_
  · intro u hu
    obtain ⟨n, _, hn⟩ := List.mem_flatMap.1 hu
    simp [Nd.cells] at hn
    rcases hn with rfl | rfl | rfl | rfl | rfl | rfl <;> rfl
  · intro g cap w' h1 h2 h3 h4
    refine h g cap w' ?_ ?_ ?_
    · unfold Ap2.Own
      rw [flat_app, List.length_append]
      exact h1
    · exact ⟨h2.os, h2.tape, h2.output, h2.size, fun k hk hn => h2.block k hk (fun e => hn e.symm)⟩
    · rcases h3 with h3 | h3
      · exact .inl h3
      · exact .inr (by rw [h3]; exact Nat.le_refl _)

end Go.Proofs.Ytnkkigoeffghdaa.Dw3
namespace Go.Proofs.Ytnkkigoeffghdaa.Dw4
open Go.RowKit
open Nd0 Nd3 Ap2
set_option linter.unusedVariables false

theorem own_lit (W : World) (B g : Nat) (hg : g = W.heap.size) (hB : B ≤ g) : Ap2.Own (W.alloc (.cells #[] 55)) B (.slice (some ⟨g, 0, none⟩) 0 0) [] := by
  subst hg; exact Own.lit W B hB
theorem node_new (W : World) (n : Nd) (T g : Nat) (hg : g = W.heap.size) : ∀ i (h : i < [n].length), NodeAt (W.alloc (.cells #[.int .i64 n.op, .int .i64 n.w, .int .i64 n.k, .int .i64 n.a, .int .i64 n.b, .int .i64 n.c] T)) g (0 + i * 6) [n][i] := by
  subst hg
  intro i hi
  have h0 : i = 0 := by simp at hi; exact hi
  subst h0
  refine ⟨?_, ?_, ?_, ?_, ?_, ?_⟩ <;> (rw [World.cell?_alloc_new]; try rfl)
theorem node_kept {W W' : World} {S : Nat → Prop} {n : Nd} {g : Nat} (k : Kept S W W') (hg : g < W.heap.size) (hs : ¬ S g) (h : ∀ i (h : i < [n].length), NodeAt W g (0 + i * 6) [n][i]) : ∀ i (h : i < [n].length), NodeAt W' g (0 + i * 6) [n][i] := by
  intro i hi
  obtain ⟨c0, c1, c2, c3, c4, c5⟩ := h i hi
  exact ⟨by rw [k.cell (p := ⟨g, _, none⟩) hg hs]; exact c0, by rw [k.cell (p := ⟨g, _, none⟩) hg hs]; exact c1, by rw [k.cell (p := ⟨g, _, none⟩) hg hs]; exact c2, by rw [k.cell (p := ⟨g, _, none⟩) hg hs]; exact c3, by rw [k.cell (p := ⟨g, _, none⟩) hg hs]; exact c4, by rw [k.cell (p := ⟨g, _, none⟩) hg hs]; exact c5⟩
theorem own_ne {g h n c : Nat} (hne : g ≠ h) : ¬ (Value.slice (some ⟨g, 0, none⟩) n c).ownBlock = some h := by
  intro e
  have : some g = some h := e
  exact hne (Option.some.inj this)
theorem sz2 (W : World) (o o' : Obj) : (((W.alloc o).alloc o').drew).heap.size = W.heap.size + 1 + 1 := by
  show ((W.alloc o).alloc o').heap.size = _
  simp
theorem node_drew {W : World} {n : Nd} {g : Nat} (h : ∀ i (h : i < [n].length), NodeAt W g (0 + i * 6) [n][i]) : ∀ i (h : i < [n].length), NodeAt W.drew g (0 + i * 6) [n][i] := fun i hi => ⟨(h i hi).c0, (h i hi).c1, (h i hi).c2, (h i hi).c3, (h i hi).c4, (h i hi).c5⟩
end Go.Proofs.Ytnkkigoeffghdaa.Dw4

/- A list of nodes appended to another. -/
namespace Go.Proofs.Ytnkkigoeffghdaa.Ap7
open Go.RowKit
open Nd0 Nd3 Ap2 Dw3 Dw4
set_option linter.unusedVariables false

/-- Some nodes more. -/
theorem app_nodes {ops : Array Oper} {rest : List Oper} {o : Oper} {a : Act} {Q : Exit → Act → World → Prop} (W : World) (hgd : o.guard = none) (s x : Operand)
    (ho : o.op = .call { callee := .builtin .append, args := #[s, x], argTypes := #[24, 24] })
    (B : Nat) (v : Value) (l ys : List Nd) (gx ox c : Nat) (hs : a.eval s = v) (hx : a.eval x = .slice (some ⟨gx, ox, none⟩) ys.length c)
    (hy : ∀ i (h : i < ys.length), NodeAt W gx (ox + i * 6) ys[i]) (hp : 0 < ys.length)
    (hown : Ap2.Own W B v l) (hB : B ≤ W.heap.size) (hlen : l.length + ys.length ≤ 1048577)
    (h : ∀ g cap w', Ap2.Own w' B (.slice (some ⟨g, 0, none⟩) (l.length + ys.length) cap) (l ++ ys) → Kept (fun k => v.ownBlock = some k) W w' → (v.ownBlock = some g ∨ W.heap.size ≤ g) → wpList Try.prog ops Q rest (a.put o.dst (.slice (some ⟨g, 0, none⟩) (l.length + ys.length) cap)) w') :
    wpList Try.prog ops Q (o :: rest) a W := by
  obtain ⟨i, hi, hzz⟩ := Option.map_eq_some_iff.1 infoNode
  simp only [Prod.mk.injEq] at hzz
  obtain ⟨hz, hsz, hb⟩ := hzz
  refine wpList_append_lies W hgd s x 24 ho B 55 i _ 6 48 Try.underlying24 hi hz hsz hb rfl (by omega) v l.length (flat l) hs hown
    ⟨gx, ox, none⟩ ys.length c (flat ys) hx (flat_length ys) (fun j u hu => nodes_cells hy j u hu) ?_ hp (by unfold maxLen; omega) (by omega) hB _ rfl ?_
  · intro u hu
    obtain ⟨n, _, hn⟩ := List.mem_flatMap.1 hu
    simp [Nd.cells] at hn
    rcases hn with rfl | rfl | rfl | rfl | rfl | rfl <;> rfl
  · intro g cap w' h1 h2 h3 h4
    refine h g cap w' ?_ ?_ ?_
    · unfold Ap2.Own
      rw [flat_app, List.length_append]
      exact h1
    · exact ⟨h2.os, h2.tape, h2.output, h2.size, fun k hk hn => h2.block k hk (fun e => hn e.symm)⟩
    · rcases h3 with h3 | h3
      · exact .inl h3
      · exact .inr (by rw [h3]; exact Nat.le_refl _)

theorem own_cap {w : World} {B : Nat} {a : Option Addr} {n c : Nat} {l : List Nd} (h : Ap2.Own w B (.slice a n c) l) : n = l.length ∧ l.length ≤ c := by
  obtain ⟨h1, h2⟩ := h
  rcases h2 with ⟨e, h0⟩ | ⟨g, cap, cur, e, hb, hg, hn, hm, hs, ht⟩
  · cases e; exact ⟨h0.symm, by omega⟩
  · cases e; exact ⟨rfl, hn⟩

end Go.Proofs.Ytnkkigoeffghdaa.Ap7

/- A list of nodes of any length appended to one's own. -/
namespace Go.Proofs.Ytnkkigoeffghdaa.Ap13
open Go.RowKit
open Nd0 Nd3 Ap2 Dw3 Ap7
set_option linter.unusedVariables false

theorem app_any {ops : Array Oper} {rest : List Oper} {o : Oper} {a : Act} {Q : Exit → Act → World → Prop} (W : World) (hgd : o.guard = none) (s x : Operand)
    (ho : o.op = .call { callee := .builtin .append, args := #[s, x], argTypes := #[24, 24] })
    (B g c : Nat) (l ys L : List Nd) (hL : l ++ ys = L) (gx ox cx n m : Nat) (hs : a.eval s = .slice (some ⟨g, 0, none⟩) n c) (hx : a.eval x = .slice (some ⟨gx, ox, none⟩) m cx) (hn : n = l.length) (hm : m = ys.length)
    (hy : ∀ i (h : i < ys.length), NodeAt W gx (ox + i * 6) ys[i])
    (hown : Ap2.Own W B (.slice (some ⟨g, 0, none⟩) l.length c) l) (hB : B ≤ W.heap.size) (hlen : l.length + ys.length ≤ 1048577)
    (h : ∀ g' cap w', Ap2.Own w' B (.slice (some ⟨g', 0, none⟩) L.length cap) L → Kept (fun k => k = g) W w' → wpList Try.prog ops Q rest (a.put o.dst (.slice (some ⟨g', 0, none⟩) L.length cap)) w') :
    wpList Try.prog ops Q (o :: rest) a W := by
  subst hn hm hL
  obtain ⟨i, hi, hzz⟩ := Option.map_eq_some_iff.1 infoNode
  simp only [Prod.mk.injEq] at hzz
  obtain ⟨hz, hsz, hb⟩ := hzz
  refine wpList_append_own W hgd s x 24 ho B 55 i _ 6 48 Try.underlying24 hi hz hsz hb rfl (by omega) _ l.length (flat l) hs hown
    ⟨gx, ox, none⟩ ys.length cx (flat ys) hx (flat_length ys) (fun j u hu => nodes_cells hy j u hu) ?_ (by unfold maxLen; omega) (by omega) hB ?_
  · intro u hu
    obtain ⟨n, _, hn⟩ := List.mem_flatMap.1 hu
    simp [Nd.cells] at hn
    rcases hn with rfl | rfl | rfl | rfl | rfl | rfl <;> rfl
  · intro v' w' h1 h2 h3
    have h4 : Ap2.Own w' B v' (l ++ ys) := by unfold Ap2.Own; rw [flat_app, List.length_append]; exact h1
    have h5 : ∃ g' cp, v' = .slice (some ⟨g', 0, none⟩) (l ++ ys).length cp := by
      rcases h4.2 with ⟨h0, _⟩ | ⟨g', cap, cur, he, _⟩
      · exact absurd (h3.1 h0).1 (by simp)
      · exact ⟨g', cap, he⟩
    obtain ⟨g', cp, rfl⟩ := h5
    exact h g' cp w' h4 ⟨h2.os, h2.tape, h2.output, h2.size, fun k hk hn => h2.block k hk (fun e => hn (by cases e; rfl))⟩

end Go.Proofs.Ytnkkigoeffghdaa.Ap13

/- The walks of the model's Rename, Deny and Quantify. -/
namespace Go.Proofs.Ytnkkigoeffghdaa.Am4
open Go.RowKit
open Nd0 Nd1 Nd3 Tm0 Tm1 Tm3 Tm5 Ap1 Sp2 Sp4 Aq0 Am1
open Ap2 (Own app_node)
open Ap13 (app_any)
open Rw1 (row_bools)
set_option linter.unusedVariables false

set_option maxRecDepth 100000 in
set_option maxHeartbeats 4000000 in
theorem sTurn (w : World) (a : Option Addr) (l : List Nd) (c : Nat) (v u : Int) (hN : Nodes w a l) (hl : l.length ≤ 1048576) :
    Calls Try.prog 71 #[.slice a l.length c, .int .i64 v, .int .i64 u] w fun e w' => (∃ x, e = .returned x ∧ Own w' w.heap.size x (renL l v u)) ∧ Below w.heap.size w w' := by
  have HN : Hid (Nodes w a l) := hN
  have HRL : Hid (∀ k (h : k < l.length), renL (l.take (k + 1)) v u = renL (l.take k) v u ++ [renN v u (nth l k)]) := fun k hk => by
    unfold renL
    rw [List.take_succ_eq_append_getElem hk, List.map_append, nth_get hk]; rfl
  have HRA : Hid (∀ k, k ≤ l.length → (renL (l.take k) v u).length = k) := fun k hk => by unfold renL; rw [List.length_map, List.length_take]; omega
  clear hN
  go_enter Try.func71, Try.ntmps71
  go_wp2
  go_loopw [7, 8] (fun x q wr => ∃ k : Nat, k ≤ l.length ∧ q = .int .i64 k ∧ Below w.heap.size w wr ∧ Own wr w.heap.size x (renL (l.take k) v u)) (fun _ q _ => l.length - (intOf q).toNat)
  case atStart => exact ⟨0, Nat.zero_le _, rfl, (Below.refl _ _).alloc (Nat.le_refl _) _, Ap2.Own.lit w _ (Nat.le_refl _)⟩
  case round =>
    obtain ⟨k, hk, rfl, hb, ho⟩ := hrel
    obtain ⟨ao, co, rfl, -⟩ := ho.form
    have HB : Hid (Below w.heap.size w wr) := hb
    have hbs := hb.size
    have HO : Hid (Own wr w.heap.size (.slice ao (renL (l.take k) v u).length co) (renL (l.take k) v u)) := ho
    have HLK : Hid ((renL (l.take k) v u).length = k) := HRA.out k hk
    clear hb ho
    by_cases hlt : k < l.length
    · have hlz : (k : Int) < (l.length : Int) := by omega
      have HSC : Hid (renL (l.take (k + 1)) v u = renL (l.take k) v u ++ [renN v u (nth l k)]) := HRL.out k hlt
      rcases (HN.out.below HB.out).2 with h0 | ⟨xb, xo, rfl, hc⟩
      · omega
      obtain ⟨p0, p1, p2, p3, p4, p5⟩ := hc k hlt
      rw [nth_get hlt] at p0 p1 p2 p3 p4 p5
      clear hc
      generalize nth l k = n at HSC p0 p1 p2 p3 p4 p5
      generalize renL (l.take k) v u = L at HO HLK HSC ⊢
      obtain ⟨W1, hW1⟩ : ∃ W1 : World, W1 = wr.alloc (.cells #[.int .i64 n.op, .int .i64 n.w, .int .i64 n.k, .int .i64 n.a, .int .i64 n.b, .int .i64 n.c] 55) := ⟨_, rfl⟩
      have hs1 : W1.heap.size = wr.heap.size + 1 := by rw [hW1]; simp
      have HB1 : Hid (Below wr.heap.size wr W1) := by rw [hW1]; exact (Below.refl _ _).alloc (Nat.le_refl _) _
      have HG : Hid (NodeAt W1 wr.heap.size 0 n ∧ ∀ j, W1.frozen? ⟨wr.heap.size, j, none⟩ = false) := by rw [hW1]; exact ⟨⟨by simp, by simp, by simp, by simp, by simp, by simp⟩, fun j => by simp⟩
      go_wp2_with fail
      rw [← hW1]
      refine (sNamed n W1).mono ?_
      rintro e w2 ⟨rfl, hb2⟩
      have HB2 : Hid (Below wr.heap.size wr w2) := HB1.out.trans (hb2.mono (by omega))
      have HO2 : Hid (Own w2 w.heap.size (.slice ao L.length co) L) := HO.out.kept (S := fun _ => False) (Kept.ofBelow HB2.out) (fun _ _ h => h)
      have hgl : wr.heap.size < W1.heap.size := by omega
      obtain ⟨q0, q1, q2, q3, q4, q5⟩ := HG.out.1.below hb2 hgl
      simp only [Nat.zero_add] at q1 q2 q3 q4 q5
      have z2 : w2.frozen? ⟨wr.heap.size, 2, none⟩ = false := by rw [hb2.frozen hgl]; exact HG.out.2 2
      have hs2 : wr.heap.size < w2.heap.size := Nat.lt_of_lt_of_le hgl hb2.size
      have HRN : Hid (renN v u n = if nmd n && n.k == v then { n with k := u } else n) := rfl
      clear hW1 hb2 p0 p1 p2 p3 p4 p5
      have hLl : L.length ≤ 1048576 := by have := HLK.out; omega
      have hws : w.heap.size ≤ w2.heap.size := by omega
      cases hnm : nmd n
      · have HY : Hid (renN v u n = n) := by show _ = _; rw [HRN.out, hnm]; rfl
        go_wp2_with (at_builtin; go_must (refine app_node _ rfl _ _ rfl w.heap.size (.slice ao L.length co) L n rfl _ rfl rfl HO2.out hws hLl ?_; intro g5 cp5 w5 ho5 hk5 hg5))
        have HO5 : Hid (Own w5 w.heap.size (.slice (some ⟨g5, 0, none⟩) (L.length + 1) cp5) (L ++ [n])) := ho5
        have HB5 : Hid (Below w.heap.size w w5) := (HB.out.trans (HB2.out.mono hbs)).trans (hk5.below (fun b hb => (HO2.out.lt b hb).1) hws)
        clear ho5 hk5 hg5
        go_wp2
        go_roundw
        case rel => exact ⟨k + 1, by omega, by go_num, HB5.out, by rw [HSC.out, HY.out]; exact HO5.out⟩
        case measure => simp [intOf]; omega
      · cases hkv : (n.k == v)
        · have HY : Hid (renN v u n = n) := by show _ = _; rw [HRN.out, hnm, hkv]; rfl
          go_wp2_with (at_builtin; go_must (refine app_node _ rfl _ _ rfl w.heap.size (.slice ao L.length co) L n rfl _ rfl rfl HO2.out hws hLl ?_; intro g5 cp5 w5 ho5 hk5 hg5))
          have HO5 : Hid (Own w5 w.heap.size (.slice (some ⟨g5, 0, none⟩) (L.length + 1) cp5) (L ++ [n])) := ho5
          have HB5 : Hid (Below w.heap.size w w5) := (HB.out.trans (HB2.out.mono hbs)).trans (hk5.below (fun b hb => (HO2.out.lt b hb).1) hws)
          clear ho5 hk5 hg5
          go_wp2
          go_roundw
          case rel => exact ⟨k + 1, by omega, by go_num, HB5.out, by rw [HSC.out, HY.out]; exact HO5.out⟩
          case measure => simp [intOf]; omega
        · have HY : Hid (renN v u n = ⟨n.op, n.w, u, n.a, n.b, n.c⟩) := by show _ = _; rw [HRN.out, hnm, hkv]; rfl
          have HK3 : Hid (Kept (fun b => b = wr.heap.size) w2 (w2.setCell ⟨wr.heap.size, 2, none⟩ (.int .i64 u))) := (Kept.refl (fun b => b = wr.heap.size) w2).setCell (p := ⟨wr.heap.size, 2, none⟩) rfl _
          have hs3 : (w2.setCell ⟨wr.heap.size, 2, none⟩ (.int .i64 u)).heap.size = w2.heap.size := by simp [World.setCell]
          have HO3 : Hid (Own (w2.setCell ⟨wr.heap.size, 2, none⟩ (.int .i64 u)) w.heap.size (.slice ao L.length co) L) := HO2.out.kept HK3.out (fun b hb e => by have := (HO.out.lt b hb).2; omega)
          have hws3 : w.heap.size ≤ (w2.setCell ⟨wr.heap.size, 2, none⟩ (.int .i64 u)).heap.size := by omega
          go_wp2_with (at_builtin; go_must (refine app_node _ rfl _ _ rfl w.heap.size (.slice ao L.length co) L ⟨n.op, n.w, u, n.a, n.b, n.c⟩ rfl _ rfl (by first | rfl | simp [World.setCell]) HO3.out hws3 hLl ?_; intro g5 cp5 w5 ho5 hk5 hg5))
          have HO5 : Hid (Own w5 w.heap.size (.slice (some ⟨g5, 0, none⟩) (L.length + 1) cp5) (L ++ [⟨n.op, n.w, u, n.a, n.b, n.c⟩])) := ho5
          have HB3 : Hid (Below w.heap.size w (w2.setCell ⟨wr.heap.size, 2, none⟩ (.int .i64 u))) := (HB.out.trans (HB2.out.mono hbs)).trans (HK3.out.below (fun b (hb : b = wr.heap.size) => by omega) hws)
          have HB5 : Hid (Below w.heap.size w w5) := HB3.out.trans (hk5.below (fun b hb => (HO3.out.lt b hb).1) hws3)
          clear ho5 hk5 hg5
          go_wp2
          go_roundw
          case rel => exact ⟨k + 1, by omega, by go_num, HB5.out, by rw [HSC.out, HY.out]; exact HO5.out⟩
          case measure => simp [intOf]; omega
    · have e : k = l.length := by omega
      subst e
      have HE : Hid (l.take l.length = l) := List.take_length
      go_wp2
      go_ret
      refine ⟨⟨_, rfl, ?_⟩, HB.out⟩
      have h9 := HO.out
      rw [HE.out] at h9
      rw [HE.out]
      exact h9

set_option maxRecDepth 100000 in
set_option maxHeartbeats 2000000 in
theorem sRename (w : World) (a : Option Addr) (l : List Nd) (c : Nat) (v u : Int) (hN : Nodes w a l) (hl : l.length ≤ 1048576) :
    Calls Try.prog 35 #[.slice a l.length c, .int .i64 v, .int .i64 u] w fun e w' => (∃ a' c', e = .returned (.tuple #[.slice a' (renO l v u).length c', .bool (renOk l v u)]) ∧ WNodes w' w.heap.size a' (renO l v u)) ∧ Below w.heap.size w w' := by
  have HN : Hid (Nodes w a l) := hN
  have HOK : Hid (renOk l v u = (termOk l && decide (0 ≤ u ∧ u ≤ 7) && !((u != v) && numB l u.toNat))) := rfl
  have HRO : Hid (renO l v u = if renOk l v u then renL l v u else []) := rfl
  clear hN
  go_enter Try.func35, Try.ntmps35
  go_wp2_with fail
  refine (sTermOk _ a l c HN.out).mono ?_
  rintro e w1 ⟨rfl, hb1⟩
  have HB1 : Hid (Below w.heap.size w w1) := hb1
  have HN1 : Hid (Nodes w1 a l) := HN.out.below hb1
  clear hb1
  cases hT : termOk l
  · have HF : Hid (renOk l v u = false) := by show _ = _; rw [HOK.out, hT]; rfl
    clear hT
    go_wp2
    go_ret2
    rw [HRO.out, HF.out]
    exact ⟨⟨_, _, rfl, ⟨Nat.zero_le _, .inl rfl⟩⟩, HB1.out.alloc HB1.out.size _⟩
  · rw [hT] at HOK
    clear hT
    go_wp2_with fail
    refine (sIn u 0 7 _).mono ?_
    rintro e w2 ⟨rfl, rfl⟩
    cases hV : decide (0 ≤ u ∧ u ≤ 7)
    · have HF : Hid (renOk l v u = false) := by show _ = _; rw [HOK.out, hV]; rfl
      clear hV
      go_wp2
      go_ret2
      rw [HRO.out, HF.out]
      exact ⟨⟨_, _, rfl, ⟨Nat.zero_le _, .inl rfl⟩⟩, HB1.out.alloc HB1.out.size _⟩
    · rw [hV] at HOK
      have huv := of_decide_eq_true hV
      clear hV
      cases hne : (u != v)
      · have HF : Hid (renOk l v u = true) := by show _ = _; rw [HOK.out, hne]; rfl
        go_wp2_with fail
        refine (sTurn _ a l c v u HN1.out hl).mono ?_
        rintro e w3 ⟨⟨x, rfl, ho3⟩, hb3⟩
        obtain ⟨a3, c3, rfl, hw3⟩ := ho3.form
        have HB3 : Hid (Below w.heap.size w w3) := HB1.out.trans (hb3.mono HB1.out.size)
        have HW3 : Hid (WNodes w3 w.heap.size a3 (renL l v u)) := by
          obtain ⟨h1, h2⟩ := hw3
          refine ⟨h1, ?_⟩
          rcases h2 with h0 | ⟨b2, o2, ha, hB, hcc, hf⟩
          · exact .inl h0
          · exact .inr ⟨b2, o2, ha, by have := HB1.out.size; omega, hcc, hf⟩
        clear ho3 hw3 hb3
        go_wp2
        go_ret2
        rw [HRO.out, HF.out, if_pos rfl]
        exact ⟨⟨_, _, rfl, HW3.out⟩, HB3.out⟩
      · obtain ⟨un, rfl⟩ := Int.eq_ofNat_of_zero_le huv.1
        have hu8 : un < 8 := by omega
        rw [hne, Int.toNat_natCast] at HOK
        go_wp2_with fail
        refine (sNums _ a l c HN1.out).mono ?_
        rintro e w3 ⟨⟨x, rfl, ho3⟩, hb3⟩
        obtain ⟨gi, ci, rfl, -, -, hci⟩ := row_bools ho3 (by simp [numRow])
        have hn8 : (numRow l).length = 8 := by simp [numRow]
        have c0 : w3.cell? ⟨gi, un, none⟩ = some (.bool (numB l un)) := by
          have h9 := (hci un (by omega)).1
          dsimp only at h9
          rw [numRow_flag _ hu8] at h9
          exact h9
        have HB3 : Hid (Below w.heap.size w w3) := HB1.out.trans (hb3.mono HB1.out.size)
        have HN3 : Hid (Nodes w3 a l) := HN1.out.below hb3
        rw [hn8]
        clear ho3 hb3 hci hn8 HN1
        cases hnb : numB l un
        · rw [hnb] at c0
          have HF : Hid (renOk l v un = true) := by show _ = _; rw [HOK.out, hnb]; rfl
          clear hnb
          go_wp2_with fail
          refine (sTurn _ a l c v un HN3.out hl).mono ?_
          rintro e w4 ⟨⟨x, rfl, ho4⟩, hb4⟩
          obtain ⟨a4, c4, rfl, hw4⟩ := ho4.form
          have HB4 : Hid (Below w.heap.size w w4) := HB3.out.trans (hb4.mono HB3.out.size)
          have HW4 : Hid (WNodes w4 w.heap.size a4 (renL l v un)) := by
            obtain ⟨h1, h2⟩ := hw4
            refine ⟨h1, ?_⟩
            rcases h2 with h0 | ⟨b2, o2, ha, hB, hcc, hf⟩
            · exact .inl h0
            · exact .inr ⟨b2, o2, ha, by have := HB3.out.size; omega, hcc, hf⟩
          clear ho4 hw4 hb4
          go_wp2
          go_ret2
          rw [HRO.out, HF.out, if_pos rfl]
          exact ⟨⟨_, _, rfl, HW4.out⟩, HB4.out⟩
        · rw [hnb] at c0
          have HF : Hid (renOk l v un = false) := by show _ = _; rw [HOK.out, hnb]; rfl
          clear hnb
          go_wp2
          go_ret2
          rw [HRO.out, HF.out]
          exact ⟨⟨_, _, rfl, ⟨Nat.zero_le _, .inl rfl⟩⟩, HB3.out.alloc HB3.out.size _⟩

end Go.Proofs.Ytnkkigoeffghdaa.Am4
