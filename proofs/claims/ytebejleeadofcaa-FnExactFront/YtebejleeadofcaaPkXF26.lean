/- Small texts of mine, one behind the other. -/
import Derived.Test.YtebejleeadofcaaRows
import Derived.Deep.AppendLies
import Derived.OwnWalk
import Derived.Test.YtebejleeadofcaaPkXF11
import Derived.Test.YtebejleeadofcaaPkXF2
import Derived.Test.YtebejleeadofcaaSp7
import Derived.Test.YtebejleeadofcaaPkXF3
import Derived.Test.YtebejleeadofcaaFr2
import Derived.Test.YtebejleeadofcaaPkXF1
/- Lists of lists of flags: the law at the walk, and how they are read. -/
namespace Go.Proofs.Ytebejleeadofcaa.Ap3
open Go.RowKit
open Nd0 Tm1 Tm4
set_option linter.unusedVariables false

theorem infoRow : (Try.prog.info? 36).map (fun i => (i.zero, i.size, i.bytes)) = some (some (.slice none 0 0), 1, 24) := by kernel_rfl

/-- The slice v, in a block from B on, is the slices xs and may be appended to. -/
def Owv (w : World) (B : Nat) (v : Value) (xs : List Value) : Prop := w.ownsRow B 36 1 v xs.length xs
theorem Owv.lit (w : World) (B : Nat) (hB : B ≤ w.heap.size) : Owv (w.alloc (.cells #[] 36)) B (.slice (some ⟨w.heap.size, 0, none⟩) 0 0) [] :=
  World.ownsRow_lit w #[] 0 hB (Nat.zero_le _) rfl
theorem Owv.lt {w : World} {B : Nat} {v : Value} {l : List Value} (h : Owv w B v l) : ∀ k, v.ownBlock = some k → B ≤ k ∧ k < w.heap.size := World.ownsRow.lt h
theorem Owv.kept {w w' : World} {B : Nat} {v : Value} {l : List Value} (h : Owv w B v l) {S : Nat → Prop} (k : Kept S w w') (hs : ∀ i, v.ownBlock = some i → ¬ S i) : Owv w' B v l := by
  refine ⟨h.1, ?_⟩
  rcases h.2 with hn | ⟨g, cap, cur, rfl, hb, hgg, rest⟩
  · exact .inl hn
  · refine .inr ⟨g, cap, cur, rfl, hb, ?_, rest⟩
    rw [k.block g (Array.getElem?_eq_some_iff.1 hgg).1 (hs g rfl)]
    exact hgg
theorem Owv.at {w : World} {B : Nat} {v : Value} {l : List Value} (h : Owv w B v l) (hl : 1 ≤ l.length) : ∃ g c, v = .slice (some ⟨g, 0, none⟩) l.length c ∧ (∀ i, i < l.length → w.cell? ⟨g, i, none⟩ = l[i]?) := by
  rcases h.2 with ⟨rfl, h0⟩ | ⟨g, cap, cur, rfl, hb, hg, hn, hm, hs, ht⟩
  · omega
  · refine ⟨g, cap, rfl, fun i hi => ?_⟩
    rw [cell_of_row w g i cur _ _ hg]
    have e : (cur.toList.take (l.length * 1))[i]? = l[i]? := by rw [ht]
    rw [List.getElem?_take_of_lt (by omega)] at e
    simpa using e

/-- One slice more. -/
theorem app_row {ops : Array Oper} {rest : List Oper} {o : Oper} {a : Act} {Q : Exit → Act → World → Prop} (W : World) (hgd : o.guard = none) (s x : Operand)
    (ho : o.op = .call { callee := .builtin .append, args := #[s, x], argTypes := #[80, 80] })
    (B : Nat) (v : Value) (l : List Value) (ya : Option Addr) (yn yc : Nat) (hs : a.eval s = v) (hx : a.eval x = .slice (some ⟨W.heap.size, 0, none⟩) 1 1)
    (hown : Owv W B v l) (hB : B ≤ W.heap.size) (hlen : l.length ≤ 1048576)
    (h : ∀ g cap w', Owv w' B (.slice (some ⟨g, 0, none⟩) (l.length + 1) cap) (l ++ [.slice ya yn yc]) → Kept (fun k => v.ownBlock = some k) W w' → (v.ownBlock = some g ∨ W.heap.size ≤ g) → wpList Try.prog ops Q rest (a.put o.dst (.slice (some ⟨g, 0, none⟩) (l.length + 1) cap)) w') :
    wpList Try.prog ops Q (o :: rest) a (W.alloc (.cells #[.slice ya yn yc] 36)) := by
  obtain ⟨i, hi, hzz⟩ := Option.map_eq_some_iff.1 infoRow
  simp only [Prod.mk.injEq] at hzz
  obtain ⟨hz, hsz, hb⟩ := hzz
  refine wpList_append_lies (W.alloc (.cells #[.slice ya yn yc] 36)) hgd s x 80 ho B 36 i (.slice none 0 0) 1 24 Try.underlying80 hi hz hsz hb rfl (by omega) v l.length l hs (World.ownsRow.alloc hown _)
    ⟨W.heap.size, 0, none⟩ 1 1 [.slice ya yn yc] hx rfl ?_ ?_ (by omega) (by unfold maxLen; omega) (by omega) (by simp; omega) _ rfl ?_
  · intro j u hu
    exact World.news_of_block (heap_alloc_new W _) j u hu
  · intro u hu
    simp at hu
    subst hu
    rfl
  · intro g cap w' h1 h2 h3 h4
    refine h g cap w' ?_ ?_ ?_
    · unfold Owv
      simpa using h1
    · have k1 : Kept (fun k => v.ownBlock = some k) W (W.alloc (.cells #[.slice ya yn yc] 36)) := (Kept.refl _ W).alloc _
      exact k1.trans ⟨h2.os, h2.tape, h2.output, h2.size, fun k hk hn => h2.block k hk (fun e => hn e.symm)⟩
    · rcases h3 with h3 | h3
      · exact .inl h3
      · exact .inr (by rw [h3]; simp)

/-- The slices vs hold the rows, each of eight flags, none of them in block v's. -/
def Rws (w : World) (v : Value) (vs : List Value) (rows : List (List Bool)) : Prop :=
  vs.length = rows.length ∧ ∀ j, j < rows.length → ∃ g c, vs[j]? = some (.slice (some ⟨g, 0, none⟩) 8 c) ∧ g < w.heap.size ∧ v.ownBlock ≠ some g ∧ ∀ x, x < 8 → w.cell? ⟨g, x, none⟩ = some (.bool (flag (rows.getD j []) x))
theorem Rws.kept {w w' : World} {v : Value} {vs : List Value} {rows : List (List Bool)} (h : Rws w v vs rows) (k : Kept (fun b => v.ownBlock = some b) w w') : Rws w' v vs rows := by
  refine ⟨h.1, fun j hj => ?_⟩
  obtain ⟨g, c, h1, h2, h3, h4⟩ := h.2 j hj
  exact ⟨g, c, h1, Nat.lt_of_lt_of_le h2 k.size, h3, fun x hx => by rw [k.cell (p := ⟨g, x, none⟩) h2 h3]; exact h4 x hx⟩
theorem Rws.below {w w' : World} {v : Value} {vs : List Value} {rows : List (List Bool)} (h : Rws w v vs rows) (k : Below w.heap.size w w') : Rws w' v vs rows := h.kept (Kept.ofBelow k)

end Go.Proofs.Ytebejleeadofcaa.Ap3

/- The walks of the model's tests of operators, and of its search for nodes that hold quantifiers. -/
namespace Go.Proofs.Ytebejleeadofcaa.Sp10
open Go.RowKit
open Nd0 Nd1 Tm0 Tm1 Tm5 Ap1 Sp2
open Sp7 (nodeAt_of)
set_option linter.unusedVariables false

set_option maxHeartbeats 400000 in
theorem sQuant (op : Int) (w : World) :
    Calls Try.prog 30 #[.int .i64 op] w fun e w' => e = .returned (.bool (quant op)) ∧ w' = w := by
  cases h1 : (op == 19) <;> cases h2 : (op == 20)
  all_goals
    go_enter Try.func30, Try.ntmps30
    go_wp2
    go_ret
    exact ⟨ret_bool (by unfold quant; rw [h1, h2]; rfl), rfl⟩

set_option maxHeartbeats 400000 in
theorem sOuter (op : Int) (w : World) :
    Calls Try.prog 31 #[.int .i64 op] w fun e w' => e = .returned (.bool (outer op)) ∧ w' = w := by
  cases h1 : (op == 2) <;> cases h2 : (op == 3) <;> cases h3 : (op == 4)
  all_goals
    go_enter Try.func31, Try.ntmps31
    go_wp2_with (go_at_call 30; refine (sQuant _ _).mono ?_; rintro e w' ⟨rfl, rfl⟩)
    go_ret
    exact ⟨ret_bool (by unfold outer; rw [h1, h2, h3]; rfl), rfl⟩

set_option maxRecDepth 100000 in
set_option maxHeartbeats 4000000 in
theorem sHolder (w : World) (a : Option Addr) (l : List Nd) (c : Nat) (hN : Nodes w a l) (hT : termOk l = true) :
    Calls Try.prog 16 #[.slice a l.length c] w fun e w' => (∃ v, e = .returned v ∧ Owb w' w.heap.size v (holdTo l l.length)) ∧ Below w.heap.size w w' := by
  have HN : Hid (Nodes w a l) := hN
  have HT : Hid (termOk l = true) := hT
  obtain ⟨hl1, hl2⟩ := term_len hT
  rcases hN.2 with h0 | ⟨xb, xo, rfl, hxc⟩
  · omega
  clear hN hT hxc
  go_enter Try.func16, Try.ntmps16
  go_wp2
  go_loopw [3, 4] (fun vo q wr => ∃ k : Nat, k ≤ l.length ∧ q = .int .i64 k ∧ Below w.heap.size w wr ∧ ∃ go co, vo = .slice (some ⟨go, 0, none⟩) k co ∧ Owb wr w.heap.size vo (holdTo l k)) (fun _ q _ => l.length - (intOf q).toNat)
  case atStart => exact ⟨0, Nat.zero_le _, rfl, (Below.refl _ _).alloc (Nat.le_refl _) _, _, _, rfl, Owb.lit w _ (Nat.le_refl _)⟩
  case round =>
    obtain ⟨k, hk, rfl, hb, go, co, rfl, hoo⟩ := hrel
    have HB : Hid (Below w.heap.size w wr) := hb
    have HO : Hid (Owb wr w.heap.size (.slice (some ⟨go, 0, none⟩) k co) (holdTo l k)) := hoo
    have hbs : w.heap.size ≤ wr.heap.size := hb.size
    have hhl : (holdTo l k).length = k := holdTo_length l k
    by_cases hlt : k < l.length
    · have hlz : (k : Int) < (l.length : Int) := by omega
      have HSC : Hid (holdTo l (k + 1) = holdTo l k ++ [quant (nth l k).op || below (holdTo l k) (parts (nth l k))]) := rfl
      have HPO0 := parts_ok (term_node HT.out hlt)
      obtain ⟨p0, p1, p2, p3, p4, p5⟩ := nodeAt_of (HN.out.below hb) hlt
      clear hb hoo
      generalize holdTo l k = bs at HO HSC hhl
      generalize nth l k = n at HSC HPO0 p0 p1 p2 p3 p4 p5
      have HPO : Hid (∀ j (hj : j < (parts n).length), 0 ≤ (parts n)[j] ∧ (parts n)[j] < k) := HPO0
      clear HPO0
      obtain ⟨wi, rfl⟩ : ∃ wi : World, wi = wr := ⟨_, rfl⟩
      go_wp2_with fail
      refine (sQuant n.op _).mono ?_
      rintro e wj ⟨rfl, rfl⟩
      go_wp2_with fail
      refine (sParts n _).mono ?_
      rintro e w4 ⟨⟨pa, pc, rfl, hpi⟩, hb4⟩
      have HP : Hid (WInts w4 wj.heap.size pa (parts n)) := hpi
      have HB4 : Hid (Below w.heap.size w w4) := HB.out.trans (hb4.mono hbs)
      have HO4 : Hid (Owb w4 w.heap.size (.slice (some ⟨go, 0, none⟩) k co) bs) := HO.out.kept (S := fun _ => False) (Kept.ofBelow hb4) (fun _ _ h => h)
      have hs4 : w.heap.size ≤ w4.heap.size := HB4.out.size
      clear hpi hb4 p0 p1 p2 p3 p4 p5
      have hpl := parts_le n
      go_wp2_with fail
      go_loop [5, 7] (fun f q => ∃ j : Nat, j ≤ (parts n).length ∧ q = .int .i64 j ∧ f = .bool (quant n.op || below bs ((parts n).take j))) (fun _ q => (parts n).length - (intOf q).toNat)
      case atStart => exact ⟨0, Nat.zero_le _, rfl, by rw [List.take_zero]; simp [below]⟩
      case round =>
        obtain ⟨j, hj, rfl, rfl⟩ := hrel
        by_cases hlj : j < (parts n).length
        · have hljz : (j : Int) < ((parts n).length : Int) := by omega
          have HST : Hid (below bs ((parts n).take (j + 1)) = (below bs ((parts n).take j) || flag bs ((parts n)[j]).toNat)) := below_take bs (parts n) j hlj
          cases hcur : (quant n.op || below bs ((parts n).take j))
          · rcases HP.out.2 with h0 | ⟨pb, po, rfl, hpB, hpc⟩
            · omega
            have r0 := (hpc j hlj).1
            obtain ⟨hx0, hx1⟩ := HPO.out j hlj
            clear hpc
            generalize (parts n)[j] = x at r0 hx0 hx1 HST
            have r2 := (HO4.out.cell' hhl x.toNat (by omega)).1
            rw [flag_get] at r2
            have hxz : x < (k : Int) := hx1
            go_wp2
            go_round
            case rel =>
              refine ⟨j + 1, by omega, by go_num, ?_⟩
              rw [HST.out, ← Bool.or_assoc, hcur]; rfl
            case measure => simp [intOf]; omega
          · go_wp2
            go_round
            case rel =>
              refine ⟨j + 1, by omega, by go_num, ?_⟩
              rw [HST.out, ← Bool.or_assoc, hcur]; rfl
            case measure => simp [intOf]; omega
        · have ej : j = (parts n).length := by omega
          subst ej
          rw [List.take_length]
          go_wp2_with (at_builtin; go_must (refine app_bool _ rfl _ _ rfl w.heap.size (.slice (some ⟨go, 0, none⟩) k co) bs _ rfl rfl HO4.out hs4 (by omega) ?_; intro g cp w5 ho5 hk5 hg5))
          have HO5 : Hid (Owb w5 w.heap.size (.slice (some ⟨g, 0, none⟩) (bs.length + 1) cp) (bs ++ [quant n.op || below bs (parts n)])) := ho5
          have HB5 : Hid (Below w.heap.size w w5) := HB4.out.trans (hk5.below (fun b hb => (HO4.out.lt b hb).1) hs4)
          clear ho5 hk5 hg5
          go_wp2
          go_roundw
          case rel =>
            refine ⟨k + 1, by omega, by go_num, HB5.out, g, cp, rfl, ?_⟩
            rw [HSC.out]
            have h9 := HO5.out
            rw [hhl] at h9
            exact h9
          case measure => simp [intOf]; omega
    · have e : k = l.length := by omega
      subst e
      clear hoo
      go_wp2
      go_ret
      exact ⟨⟨_, rfl, HO.out⟩, HB.out⟩

end Go.Proofs.Ytebejleeadofcaa.Sp10

/- The walk of the model's Front: the node that a place tells when quantifiers are looked through. -/
namespace Go.Proofs.Ytebejleeadofcaa.Fm5
open Go.RowKit
open Nd0 Tm0 Tm1 Tm5 Tm6 Tm8 Fr2
open Sp7 (nodeAt_of)
open Sp10 (sQuant)
set_option linter.unusedVariables false

set_option maxRecDepth 100000 in
set_option maxHeartbeats 2000000 in
theorem sBelow (w : World) (a : Option Addr) (l : List Nd) (c : Nat) (hN : Nodes w a l) (hT : termOk l = true) (i : Nat) (hi : i < l.length) :
    Calls Try.prog 18 #[.slice a l.length c, .int .i64 (i : Int)] w fun e w' => e = .returned (.int .i64 (bel l i : Int)) ∧ w' = w := by
  have HN : Hid (Nodes w a l) := hN
  have HT : Hid (termOk l = true) := hT
  rcases hN.2 with h0 | ⟨xb, xo, rfl, hxc⟩
  · omega
  clear hN hT hxc
  go_enter Try.func18, Try.ntmps18
  go_wp2_with fail
  go_loop [1] (fun q => ∃ j : Nat, j < l.length ∧ q = .int .i64 (j : Int) ∧ bel l j = bel l i) (fun q => (intOf q).toNat)
  case atStart => exact ⟨i, hi, rfl, rfl⟩
  case round =>
    obtain ⟨j, hj, rfl, hbj⟩ := hrel
    have HBJ : Hid (bel l j = bel l i) := hbj
    clear hbj
    have hjz : (j : Int) < (l.length : Int) := by omega
    obtain ⟨p0, p1, p2, p3, p4, p5⟩ := nodeAt_of HN.out hj
    cases hq : quant (nth l j).op
    · have HE : Hid (bel l i = j) := by show _ = _; rw [← HBJ.out, bel_other (down_of HT.out) hj hq]
      go_wp2_with (go_at_call 30; refine (sQuant _ _).mono ?_; rintro e w' ⟨rfl, rfl⟩; rw [hq])
      go_ret
      exact ⟨by rw [HE.out]; rfl, rfl⟩
    · have hq2 : (nth l j).op = 19 ∨ (nth l j).op = 20 := by simpa [quant] using hq
      have h1 := down_of HT.out j hj (nth l j).a (by rw [parts_one (by omega)]; simp)
      have HE : Hid (bel l (nth l j).a.toNat = bel l i) := by show _ = _; rw [← HBJ.out, bel_quant (down_of HT.out) hj hq]
      obtain ⟨m, hm⟩ : ∃ m : Nat, (nth l j).a = (m : Int) := ⟨(nth l j).a.toNat, by omega⟩
      have HM : Hid (m < j ∧ bel l m = bel l i) := ⟨by omega, by have := HE.out; rw [hm, Int.toNat_natCast] at this; exact this⟩
      rw [hm] at p3
      clear h1 hq2 hm HE
      go_wp2_with (go_at_call 30; refine (sQuant _ _).mono ?_; rintro e w' ⟨rfl, rfl⟩; rw [hq])
      go_round
      case rel => exact ⟨m, by have := HM.out.1; omega, rfl, HM.out.2⟩
      case measure => have := HM.out.1; simp [intOf]; omega

end Go.Proofs.Ytebejleeadofcaa.Fm5

/- Lists of Quants that are appended to: the law at the walk, and how they are read. Written by tools/mkflat.py. -/
namespace Go.Proofs.Ytebejleeadofcaa.Qa2
open Go.RowKit
open Nd0 Qa0
set_option linter.unusedVariables false

theorem infoAQu : (Try.prog.info? 50).map (fun i => (i.zero, i.size, i.bytes)) = some (some (.agg #[.bool false, .int .i64 0, .int .i64 0]), 3, 24) := by kernel_rfl
def flatQu (l : List Qu) : List Value := l.flatMap Qu.cells
theorem cellsQu_length (n : Qu) : n.cells.length = 3 := rfl
theorem flatQu_get (l : List Qu) : ∀ (i : Nat) (h : i < l.length) (j : Nat), j < 3 → (flatQu l)[i * 3 + j]? = (l[i].cells)[j]? := by
  induction l with
  | nil => intro i h; exact absurd h (Nat.not_lt_zero _)
  | cons n l ih =>
    intro i h j hj
    show (n.cells ++ flatQu l)[i * 3 + j]? = _
    cases i with
    | zero => rw [Nat.zero_mul, Nat.zero_add, List.getElem?_append_left (by rw [cellsQu_length]; exact hj)]; rfl
    | succ i =>
      rw [List.getElem?_append_right (by rw [cellsQu_length]; omega), cellsQu_length, show (i + 1) * 3 + j - 3 = i * 3 + j by omega]
      exact ih i (by simpa using h) j hj
theorem flatQu_snoc (l : List Qu) (n : Qu) : flatQu (l ++ [n]) = flatQu l ++ n.cells := by simp [flatQu]
def OwQu (w : World) (B : Nat) (v : Value) (l : List Qu) : Prop := w.ownsRow B 50 3 v l.length (flatQu l)
theorem OwQu.form {w : World} {B : Nat} {v : Value} {l : List Qu} (h : OwQu w B v l) : ∃ a c, v = .slice a l.length c ∧ WQus w B a l ∧ l.length ≤ c := by
  obtain ⟨h1, h2⟩ := h
  rcases h2 with ⟨rfl, h0⟩ | ⟨g, cap, cur, rfl, hb, hg, hn, hm, hs, ht⟩
  · have : l = [] := List.eq_nil_of_length_eq_zero h0
    subst this
    exact ⟨none, 0, rfl, ⟨Nat.zero_le _, .inl rfl⟩, Nat.zero_le _⟩
  · have hcell : ∀ j, j < l.length * 3 → w.cell? ⟨g, j, none⟩ = (flatQu l)[j]? := by
      intro j hj
      rw [cell_of_row w g j cur _ _ hg, ← ht, List.getElem?_take_of_lt hj]
      simp
    refine ⟨_, _, rfl, ⟨by omega, .inr ⟨g, 0, rfl, hb, fun i hi => ?_, fun j hj => ?_⟩⟩, by omega⟩
    · have hf := flatQu_get l i hi
      rw [Nat.zero_add]
      exact ⟨by rw [hcell _ (by omega)]; exact hf 0 (by omega), by rw [hcell _ (by omega)]; exact hf 1 (by omega), by rw [hcell _ (by omega)]; exact hf 2 (by omega)⟩
    · rw [Nat.zero_add]
      simp [World.frozen?, hg]
theorem OwQu.lit (w : World) (B : Nat) (hB : B ≤ w.heap.size) : OwQu (w.alloc (.cells #[] 50)) B (.slice (some ⟨w.heap.size, 0, none⟩) 0 0) [] :=
  World.ownsRow_lit w #[] 0 hB (Nat.zero_le _) rfl
theorem OwQu.lt {w : World} {B : Nat} {v : Value} {l : List Qu} (h : OwQu w B v l) : ∀ k, v.ownBlock = some k → B ≤ k ∧ k < w.heap.size := World.ownsRow.lt h
theorem OwQu.kept {w w' : World} {B : Nat} {v : Value} {l : List Qu} (h : OwQu w B v l) {S : Nat → Prop} (k : Kept S w w') (hs : ∀ i, v.ownBlock = some i → ¬ S i) : OwQu w' B v l := by
  refine ⟨h.1, ?_⟩
  rcases h.2 with hn | ⟨g, cap, cur, rfl, hb, hgg, rest⟩
  · exact .inl hn
  · refine .inr ⟨g, cap, cur, rfl, hb, ?_, rest⟩
    rw [k.block g (Array.getElem?_eq_some_iff.1 hgg).1 (hs g rfl)]
    exact hgg
/-- One more. -/
theorem appQu {ops : Array Oper} {rest : List Oper} {o : Oper} {a : Act} {Q : Exit → Act → World → Prop} (W : World) (hgd : o.guard = none) (s x : Operand)
    (ho : o.op = .call { callee := .builtin .append, args := #[s, x], argTypes := #[24, 24] })
    (B : Nat) (v : Value) (l : List Qu) (y : Qu) (hs : a.eval s = v) (G : Nat) (hx : a.eval x = .slice (some ⟨G, 0, none⟩) 1 1) (hG : G = W.heap.size)
    (hown : OwQu W B v l) (hB : B ≤ W.heap.size) (hlen : l.length ≤ 1048576)
    (h : ∀ g cap w', OwQu w' B (.slice (some ⟨g, 0, none⟩) (l.length + 1) cap) (l ++ [y]) → Kept (fun k => v.ownBlock = some k) W w' → (v.ownBlock = some g ∨ W.heap.size ≤ g) → wpList Try.prog ops Q rest (a.put o.dst (.slice (some ⟨g, 0, none⟩) (l.length + 1) cap)) w') :
    wpList Try.prog ops Q (o :: rest) a (W.alloc (.cells #[.bool y.all, .int .i64 y.vr, .int .i64 y.bits] 50)) := by
  subst hG
  obtain ⟨i, hi, hzz⟩ := Option.map_eq_some_iff.1 infoAQu
  simp only [Prod.mk.injEq] at hzz
  obtain ⟨hz, hsz, hb⟩ := hzz
  refine wpList_append_lies (W.alloc (.cells #[.bool y.all, .int .i64 y.vr, .int .i64 y.bits] 50)) hgd s x 24 ho B 50 i _ 3 24 Try.underlying24 hi hz hsz hb rfl (by omega) v l.length (flatQu l) hs (World.ownsRow.alloc hown _)
    ⟨W.heap.size, 0, none⟩ 1 1 y.cells hx rfl ?_ ?_ (by omega) (by unfold maxLen; omega) (by omega) (by simp; omega) _ rfl ?_
  · intro j u hu
    exact World.news_of_block (heap_alloc_new W _) j u hu
  · intro u hu
    simp [Qu.cells] at hu
    rcases hu with rfl | rfl | rfl <;> rfl
  · intro g cap w' h1 h2 h3 h4
    refine h g cap w' ?_ ?_ ?_
    · unfold OwQu
      rw [flatQu_snoc, List.length_append]
      exact h1
    · have k1 : Kept (fun k => v.ownBlock = some k) W (W.alloc (.cells #[.bool y.all, .int .i64 y.vr, .int .i64 y.bits] 50)) := (Kept.refl _ W).alloc _
      exact k1.trans ⟨h2.os, h2.tape, h2.output, h2.size, fun k hk hn => h2.block k hk (fun e => hn e.symm)⟩
    · rcases h3 with h3 | h3
      · exact .inl h3
      · exact .inr (by rw [h3]; simp)

end Go.Proofs.Ytebejleeadofcaa.Qa2
