/- Small texts of mine, one behind the other. -/
import Derived.Test.YtldeakifeifgdaaDoorRows
import Derived.Deep.AppendLies
import Derived.OwnWalk
import Derived.Maps.AppendAt
import Derived.Lib.SliceRun
import Derived.Test.YtldeakifeifgdaaDoorPkQa
import Derived.Test.YtldeakifeifgdaaDoorPkQb
/- Lists of whole numbers and of flags that are appended to: the law at the walk, and how they are read. -/
namespace Go.Proofs.YtldeakifeifgdaaDoor.Ap0
open Go.RowKit
open Nd0
set_option linter.unusedVariables false

theorem infoInt : (Tryd.prog.info? 3).map (fun i => (i.zero, i.size, i.bytes)) = some (some (.int .i64 0), 1, 8) := by kernel_rfl

/-- The slice v, in a block from B on, is the numbers l and may be appended to. -/
def Ows (w : World) (B : Nat) (v : Value) (l : List Int) : Prop := w.ownsRow B 3 1 v l.length (l.map fun x => .int .i64 x)

theorem Ows.form {w : World} {B : Nat} {v : Value} {l : List Int} (h : Ows w B v l) : ∃ a c, v = .slice a l.length c ∧ WInts w B a l := by
  obtain ⟨h1, h2⟩ := h
  rcases h2 with ⟨rfl, h0⟩ | ⟨g, cap, cur, rfl, hb, hg, hn, hm, hs, ht⟩
  · have : l = [] := List.eq_nil_of_length_eq_zero h0
    subst this
    exact ⟨none, 0, rfl, Nat.zero_le _, .inl rfl⟩
  · refine ⟨_, _, rfl, by omega, .inr ⟨g, 0, rfl, hb, fun i hi => ⟨?_, ?_⟩⟩⟩
    · rw [Nat.zero_add, cell_of_row w g i cur _ _ hg]
      have e : (cur.toList.take (l.length * 1))[i]? = some (.int .i64 l[i]) := by rw [ht]; simp [hi]
      rw [List.getElem?_take_of_lt (by omega)] at e
      simpa using e
    · rw [Nat.zero_add]
      simp [World.frozen?, hg]
theorem Ows.lit (w : World) (B : Nat) (hB : B ≤ w.heap.size) : Ows (w.alloc (.cells #[] 3)) B (.slice (some ⟨w.heap.size, 0, none⟩) 0 0) [] :=
  World.ownsRow_lit w #[] 0 hB (Nat.zero_le _) rfl
theorem Ows.lt {w : World} {B : Nat} {v : Value} {l : List Int} (h : Ows w B v l) : ∀ k, v.ownBlock = some k → B ≤ k ∧ k < w.heap.size := World.ownsRow.lt h
theorem Ows.kept {w w' : World} {B : Nat} {v : Value} {l : List Int} (h : Ows w B v l) {S : Nat → Prop} (k : Kept S w w') (hs : ∀ i, v.ownBlock = some i → ¬ S i) : Ows w' B v l := by
  refine ⟨h.1, ?_⟩
  rcases h.2 with hn | ⟨g, cap, cur, rfl, hb, hgg, rest⟩
  · exact .inl hn
  · refine .inr ⟨g, cap, cur, rfl, hb, ?_, rest⟩
    rw [k.block g (Array.getElem?_eq_some_iff.1 hgg).1 (hs g rfl)]
    exact hgg

/-- One number more. -/
theorem app_int {ops : Array Oper} {rest : List Oper} {o : Oper} {a : Act} {Q : Exit → Act → World → Prop} (W : World) (hgd : o.guard = none) (s x : Operand)
    (ho : o.op = .call { callee := .builtin .append, args := #[s, x], argTypes := #[31, 31] })
    (B : Nat) (v : Value) (l : List Int) (y : Int) (hs : a.eval s = v) (hx : a.eval x = .slice (some ⟨W.heap.size, 0, none⟩) 1 1)
    (hown : Ows W B v l) (hB : B ≤ W.heap.size) (hlen : l.length ≤ 1048576)
    (h : ∀ g cap w', Ows w' B (.slice (some ⟨g, 0, none⟩) (l.length + 1) cap) (l ++ [y]) → Kept (fun k => v.ownBlock = some k) W w' → (v.ownBlock = some g ∨ W.heap.size ≤ g) → wpList Tryd.prog ops Q rest (a.put o.dst (.slice (some ⟨g, 0, none⟩) (l.length + 1) cap)) w') :
    wpList Tryd.prog ops Q (o :: rest) a (W.alloc (.cells #[.int .i64 y] 3)) := by
  obtain ⟨i, hi, hzz⟩ := Option.map_eq_some_iff.1 infoInt
  simp only [Prod.mk.injEq] at hzz
  obtain ⟨hz, hsz, hb⟩ := hzz
  refine wpList_append_lies (W.alloc (.cells #[.int .i64 y] 3)) hgd s x 31 ho B 3 i (.int .i64 0) 1 8 Tryd.underlying31 hi hz hsz hb rfl (by omega) v l.length (l.map fun x => .int .i64 x) hs (World.ownsRow.alloc hown _)
    ⟨W.heap.size, 0, none⟩ 1 1 [.int .i64 y] hx rfl ?_ ?_ (by omega) (by unfold maxLen; omega) (by omega) (by simp; omega) _ rfl ?_
  · intro j u hu
    exact World.news_of_block (heap_alloc_new W _) j u hu
  · intro u hu
    simp at hu
    subst hu
    rfl
  · intro g cap w' h1 h2 h3 h4
    refine h g cap w' ?_ ?_ ?_
    · unfold Ows
      simpa using h1
    · have k1 : Kept (fun k => v.ownBlock = some k) W (W.alloc (.cells #[.int .i64 y] 3)) := (Kept.refl _ W).alloc _
      exact k1.trans ⟨h2.os, h2.tape, h2.output, h2.size, fun k hk hn => h2.block k hk (fun e => hn e.symm)⟩
    · rcases h3 with h3 | h3
      · exact .inl h3
      · exact .inr (by rw [h3]; simp)

end Go.Proofs.YtldeakifeifgdaaDoor.Ap0

/- Lists of Seens that are appended to: the law at the walk, and how they are read. Written by tools/mkflat.py. -/
namespace Go.Proofs.YtldeakifeifgdaaDoor.Qc2
open Go.RowKit
open Nd0 Qc0
set_option linter.unusedVariables false

theorem infoASn : (Tryd.prog.info? 91).map (fun i => (i.zero, i.size, i.bytes)) = some (some (.agg #[.string ByteArray.empty, .int .i64 0]), 2, 24) := by kernel_rfl
def flatSn (l : List Sn) : List Value := l.flatMap Sn.cells
theorem cellsSn_length (n : Sn) : n.cells.length = 2 := rfl
theorem flatSn_get (l : List Sn) : ∀ (i : Nat) (h : i < l.length) (j : Nat), j < 2 → (flatSn l)[i * 2 + j]? = (l[i].cells)[j]? := by
  induction l with
  | nil => intro i h; exact absurd h (Nat.not_lt_zero _)
  | cons n l ih =>
    intro i h j hj
    show (n.cells ++ flatSn l)[i * 2 + j]? = _
    cases i with
    | zero => rw [Nat.zero_mul, Nat.zero_add, List.getElem?_append_left (by rw [cellsSn_length]; exact hj)]; rfl
    | succ i =>
      rw [List.getElem?_append_right (by rw [cellsSn_length]; omega), cellsSn_length, show (i + 1) * 2 + j - 2 = i * 2 + j by omega]
      exact ih i (by simpa using h) j hj
theorem flatSn_snoc (l : List Sn) (n : Sn) : flatSn (l ++ [n]) = flatSn l ++ n.cells := by simp [flatSn]
def OwSn (w : World) (B : Nat) (v : Value) (l : List Sn) : Prop := w.ownsRow B 91 2 v l.length (flatSn l)
theorem OwSn.form {w : World} {B : Nat} {v : Value} {l : List Sn} (h : OwSn w B v l) : ∃ a c, v = .slice a l.length c ∧ WSns w B a l ∧ l.length ≤ c := by
  obtain ⟨h1, h2⟩ := h
  rcases h2 with ⟨rfl, h0⟩ | ⟨g, cap, cur, rfl, hb, hg, hn, hm, hs, ht⟩
  · have : l = [] := List.eq_nil_of_length_eq_zero h0
    subst this
    exact ⟨none, 0, rfl, ⟨Nat.zero_le _, .inl rfl⟩, Nat.zero_le _⟩
  · have hcell : ∀ j, j < l.length * 2 → w.cell? ⟨g, j, none⟩ = (flatSn l)[j]? := by
      intro j hj
      rw [cell_of_row w g j cur _ _ hg, ← ht, List.getElem?_take_of_lt hj]
      simp
    refine ⟨_, _, rfl, ⟨by omega, .inr ⟨g, 0, rfl, hb, fun i hi => ?_, fun j hj => ?_⟩⟩, by omega⟩
    · have hf := flatSn_get l i hi
      rw [Nat.zero_add]
      exact ⟨by rw [hcell _ (by omega)]; exact hf 0 (by omega), by rw [hcell _ (by omega)]; exact hf 1 (by omega)⟩
    · rw [Nat.zero_add]
      simp [World.frozen?, hg]
theorem OwSn.lit (w : World) (B : Nat) (hB : B ≤ w.heap.size) : OwSn (w.alloc (.cells #[] 91)) B (.slice (some ⟨w.heap.size, 0, none⟩) 0 0) [] :=
  World.ownsRow_lit w #[] 0 hB (Nat.zero_le _) rfl
theorem OwSn.lt {w : World} {B : Nat} {v : Value} {l : List Sn} (h : OwSn w B v l) : ∀ k, v.ownBlock = some k → B ≤ k ∧ k < w.heap.size := World.ownsRow.lt h
theorem OwSn.kept {w w' : World} {B : Nat} {v : Value} {l : List Sn} (h : OwSn w B v l) {S : Nat → Prop} (k : Kept S w w') (hs : ∀ i, v.ownBlock = some i → ¬ S i) : OwSn w' B v l := by
  refine ⟨h.1, ?_⟩
  rcases h.2 with hn | ⟨g, cap, cur, rfl, hb, hgg, rest⟩
  · exact .inl hn
  · refine .inr ⟨g, cap, cur, rfl, hb, ?_, rest⟩
    rw [k.block g (Array.getElem?_eq_some_iff.1 hgg).1 (hs g rfl)]
    exact hgg
/-- One more. -/
theorem appSn {ops : Array Oper} {rest : List Oper} {o : Oper} {a : Act} {Q : Exit → Act → World → Prop} (W : World) (hgd : o.guard = none) (s x : Operand)
    (ho : o.op = .call { callee := .builtin .append, args := #[s, x], argTypes := #[32, 32] })
    (B : Nat) (v : Value) (l : List Sn) (y : Sn) (hs : a.eval s = v) (G : Nat) (hx : a.eval x = .slice (some ⟨G, 0, none⟩) 1 1) (hG : G = W.heap.size)
    (hown : OwSn W B v l) (hB : B ≤ W.heap.size) (hlen : l.length ≤ 1048576)
    (h : ∀ g cap w', OwSn w' B (.slice (some ⟨g, 0, none⟩) (l.length + 1) cap) (l ++ [y]) → Kept (fun k => v.ownBlock = some k) W w' → (v.ownBlock = some g ∨ W.heap.size ≤ g) → wpList Tryd.prog ops Q rest (a.put o.dst (.slice (some ⟨g, 0, none⟩) (l.length + 1) cap)) w') :
    wpList Tryd.prog ops Q (o :: rest) a (W.alloc (.cells #[.string y.k, .int .i64 y.r] 91)) := by
  subst hG
  obtain ⟨i, hi, hzz⟩ := Option.map_eq_some_iff.1 infoASn
  simp only [Prod.mk.injEq] at hzz
  obtain ⟨hz, hsz, hb⟩ := hzz
  refine wpList_append_lies (W.alloc (.cells #[.string y.k, .int .i64 y.r] 91)) hgd s x 32 ho B 91 i _ 2 24 Tryd.underlying32 hi hz hsz hb rfl (by omega) v l.length (flatSn l) hs (World.ownsRow.alloc hown _)
    ⟨W.heap.size, 0, none⟩ 1 1 y.cells hx rfl ?_ ?_ (by omega) (by unfold maxLen; omega) (by omega) (by simp; omega) _ rfl ?_
  · intro j u hu
    exact World.news_of_block (heap_alloc_new W _) j u hu
  · intro u hu
    simp [Sn.cells] at hu
    rcases hu with rfl | rfl <;> rfl
  · intro g cap w' h1 h2 h3 h4
    refine h g cap w' ?_ ?_ ?_
    · unfold OwSn
      rw [flatSn_snoc, List.length_append]
      exact h1
    · have k1 : Kept (fun k => v.ownBlock = some k) W (W.alloc (.cells #[.string y.k, .int .i64 y.r] 91)) := (Kept.refl _ W).alloc _
      exact k1.trans ⟨h2.os, h2.tape, h2.output, h2.size, fun k hk hn => h2.block k hk (fun e => hn e.symm)⟩
    · rcases h3 with h3 | h3
      · exact .inl h3
      · exact .inr (by rw [h3]; simp)

end Go.Proofs.YtldeakifeifgdaaDoor.Qc2

/- slices.Clone at flags, numbers and Seens. Written by tools/gen_cl0.py. -/
namespace Go.Proofs.YtldeakifeifgdaaDoor.Cl0
open Go.RowKit
open Nd0 (Kept Ints lt_of_cell)
open Nd6 (Bools)
open Ap0 Ap1 Qc0 Qc2
set_option linter.unusedVariables false

theorem add_at (g o j : Nat) : (⟨g, o, none⟩ : Addr).add j = ⟨g, o + j, none⟩ := by unfold Addr.add; split <;> simp_all
set_option maxHeartbeats 1000000 in
theorem iCloneBs (w : World) (a : Option Addr) (l : List Bool) (c : Nat) (h : Bools w a l) (hl : l.length ≤ 1048576) :
    Calls Tryd.prog 64 #[.slice a l.length c] w fun e w' => ∃ v, e = .returned v ∧ Owb w' w.heap.size v l ∧ Below w.heap.size w w' := by
  have H : Hid (Bools w a l) := h
  clear h
  cases a with
  | none =>
    have hl0 : l.length = 0 := by
      rcases H.out.2 with e | ⟨b, o, hb, _⟩
      · exact e
      · cases hb
    have HE : Hid (l = []) := List.eq_nil_of_length_eq_zero hl0
    rw [hl0]
    clear hl0
    have heq := fun w n c => Go.Lib.run_eql_slice_nil (P := Tryd.prog) w 24 4 none n c 0 0 Tryd.underlying24
    go_enter Tryd.func64, Tryd.ntmps64
    go_wp2
    go_ret
    exact ⟨_, rfl, by rw [HE.out]; exact ⟨rfl, .inl ⟨rfl, rfl⟩⟩, Below.refl _ _⟩
  | some x =>
    obtain ⟨g, o, hx, hc⟩ : ∃ g o, (l.length = 0 ∨ x = ⟨g, o, none⟩) ∧ (∀ j (hj : j < l.length), w.cell? ⟨g, o + j, none⟩ = some (.bool l[j])) := by
      rcases H.out.2 with e | ⟨b, o, hb, hc⟩
      · exact ⟨0, 0, .inl e, fun j hj => by omega⟩
      · cases hb; exact ⟨b, o, .inr rfl, hc⟩
    have HX : Hid (l.length = 0 ∨ x = ⟨g, o, none⟩) := hx
    have HC : Hid (∀ j (hj : j < l.length), w.cell? ⟨g, o + j, none⟩ = some (.bool l[j])) := hc
    have HB0 : Hid (Below w.heap.size w (w.alloc (.cells #[] 4))) := (Below.refl _ _).alloc (Nat.le_refl _) _
    clear hx hc
    obtain ⟨i, hi, hzz⟩ := Option.map_eq_some_iff.1 infoBool
    simp only [Prod.mk.injEq] at hzz
    obtain ⟨hz, hsz, hb⟩ := hzz
    have HI : Hid (Tryd.prog.info? 4 = some i) := hi
    have HZ : Hid _ := hz
    have HSZ : Hid _ := hsz
    have HBY : Hid _ := hb
    clear hi hz hsz hb
    have HNW : Hid (∀ j u, (l.map fun x => Value.bool x)[j]? = some u → (w.alloc (.cells #[] 4)).cell? (x.add j) = some u) := by
      rcases HX.out with e | e
      · intro j u hu
        have : l = [] := List.eq_nil_of_length_eq_zero e
        subst this
        cases hu
      · subst e
        have hc : ∀ j (hj : j < l.length), (w.alloc (.cells #[] 4)).cell? ⟨g, o + j, none⟩ = some (.bool l[j]) := fun j hj => by rw [HB0.out.cell (lt_of_cell (HC.out j hj))]; exact HC.out j hj
        exact (fun j u hu => by
      have hj : j < l.length := by have := (List.getElem?_eq_some_iff.1 hu).1; simpa using this
      rw [add_at, hc j hj, ← hu]
      simp [hj])
    have HON : Hid (∀ u ∈ (l.map fun x => Value.bool x), u.oneCell' = true) := (fun u hu => by
      obtain ⟨n, _, rfl⟩ := List.mem_map.1 hu
      rfl)
    have HLN : Hid ((l.map fun x => Value.bool x).length = l.length * 1) := (by show _ = _; simp)
    have heq := fun w n c => Go.Lib.run_eql_slice_nil (P := Tryd.prog) w 24 4 (some x) n c 0 0 Tryd.underlying24
    go_enter Tryd.func64, Tryd.ntmps64
    go_wp2_with (at_builtin; go_must (refine wpList_append_own_at (P := Tryd.prog) (w.alloc (.cells #[] 4)) rfl _ _ 24 rfl w.heap.size 4 i _ 1 1 Tryd.underlying24 HI.out HZ.out HSZ.out HBY.out rfl (by omega) (.slice (some ⟨w.heap.size, 0, none⟩) 0 0) 0 [] rfl (Owb.lit w w.heap.size (Nat.le_refl _)) x l.length c (l.map fun x => Value.bool x) rfl HLN.out HNW.out HON.out (by unfold maxLen; omega) (by omega) (by simp) ?_; intro v' w' h1 h2 h3 h4; have HO : Hid (Owb w' w.heap.size v' l) := (by rw [Nat.zero_add, List.nil_append] at h1; exact h1); have HB : Hid (Below w.heap.size w w') := HB0.out.trans ⟨h2.os, h2.tape, h2.output, (by have := h2.size; have := HB0.out.size; omega), fun k hk => h2.block k (Nat.lt_of_lt_of_le hk HB0.out.size) (fun e => by simp [Value.ownBlock] at e; omega)⟩; clear h1 h2 h3 h4))
    go_ret
    exact ⟨_, rfl, HO.out, HB.out⟩

set_option maxHeartbeats 1000000 in
theorem iCloneIs (w : World) (a : Option Addr) (l : List Int) (c : Nat) (h : Ints w a l) (hl : l.length ≤ 1048576) :
    Calls Tryd.prog 65 #[.slice a l.length c] w fun e w' => ∃ v, e = .returned v ∧ Ows w' w.heap.size v l ∧ Below w.heap.size w w' := by
  have H : Hid (Ints w a l) := h
  clear h
  cases a with
  | none =>
    have hl0 : l.length = 0 := by
      rcases H.out.2 with e | ⟨b, o, hb, _⟩
      · exact e
      · cases hb
    have HE : Hid (l = []) := List.eq_nil_of_length_eq_zero hl0
    rw [hl0]
    clear hl0
    have heq := fun w n c => Go.Lib.run_eql_slice_nil (P := Tryd.prog) w 31 3 none n c 0 0 Tryd.underlying31
    go_enter Tryd.func65, Tryd.ntmps65
    go_wp2
    go_ret
    exact ⟨_, rfl, by rw [HE.out]; exact ⟨rfl, .inl ⟨rfl, rfl⟩⟩, Below.refl _ _⟩
  | some x =>
    obtain ⟨g, o, hx, hc⟩ : ∃ g o, (l.length = 0 ∨ x = ⟨g, o, none⟩) ∧ (∀ j (hj : j < l.length), w.cell? ⟨g, o + j, none⟩ = some (.int .i64 l[j])) := by
      rcases H.out.2 with e | ⟨b, o, hb, hc⟩
      · exact ⟨0, 0, .inl e, fun j hj => by omega⟩
      · cases hb; exact ⟨b, o, .inr rfl, hc⟩
    have HX : Hid (l.length = 0 ∨ x = ⟨g, o, none⟩) := hx
    have HC : Hid (∀ j (hj : j < l.length), w.cell? ⟨g, o + j, none⟩ = some (.int .i64 l[j])) := hc
    have HB0 : Hid (Below w.heap.size w (w.alloc (.cells #[] 3))) := (Below.refl _ _).alloc (Nat.le_refl _) _
    clear hx hc
    obtain ⟨i, hi, hzz⟩ := Option.map_eq_some_iff.1 infoInt
    simp only [Prod.mk.injEq] at hzz
    obtain ⟨hz, hsz, hb⟩ := hzz
    have HI : Hid (Tryd.prog.info? 3 = some i) := hi
    have HZ : Hid _ := hz
    have HSZ : Hid _ := hsz
    have HBY : Hid _ := hb
    clear hi hz hsz hb
    have HNW : Hid (∀ j u, (l.map fun x => Value.int .i64 x)[j]? = some u → (w.alloc (.cells #[] 3)).cell? (x.add j) = some u) := by
      rcases HX.out with e | e
      · intro j u hu
        have : l = [] := List.eq_nil_of_length_eq_zero e
        subst this
        cases hu
      · subst e
        have hc : ∀ j (hj : j < l.length), (w.alloc (.cells #[] 3)).cell? ⟨g, o + j, none⟩ = some (.int .i64 l[j]) := fun j hj => by rw [HB0.out.cell (lt_of_cell (HC.out j hj))]; exact HC.out j hj
        exact (fun j u hu => by
      have hj : j < l.length := by have := (List.getElem?_eq_some_iff.1 hu).1; simpa using this
      rw [add_at, hc j hj, ← hu]
      simp [hj])
    have HON : Hid (∀ u ∈ (l.map fun x => Value.int .i64 x), u.oneCell' = true) := (fun u hu => by
      obtain ⟨n, _, rfl⟩ := List.mem_map.1 hu
      rfl)
    have HLN : Hid ((l.map fun x => Value.int .i64 x).length = l.length * 1) := (by show _ = _; simp)
    have heq := fun w n c => Go.Lib.run_eql_slice_nil (P := Tryd.prog) w 31 3 (some x) n c 0 0 Tryd.underlying31
    go_enter Tryd.func65, Tryd.ntmps65
    go_wp2_with (at_builtin; go_must (refine wpList_append_own_at (P := Tryd.prog) (w.alloc (.cells #[] 3)) rfl _ _ 31 rfl w.heap.size 3 i _ 1 8 Tryd.underlying31 HI.out HZ.out HSZ.out HBY.out rfl (by omega) (.slice (some ⟨w.heap.size, 0, none⟩) 0 0) 0 [] rfl (Ows.lit w w.heap.size (Nat.le_refl _)) x l.length c (l.map fun x => Value.int .i64 x) rfl HLN.out HNW.out HON.out (by unfold maxLen; omega) (by omega) (by simp) ?_; intro v' w' h1 h2 h3 h4; have HO : Hid (Ows w' w.heap.size v' l) := (by rw [Nat.zero_add, List.nil_append] at h1; exact h1); have HB : Hid (Below w.heap.size w w') := HB0.out.trans ⟨h2.os, h2.tape, h2.output, (by have := h2.size; have := HB0.out.size; omega), fun k hk => h2.block k (Nat.lt_of_lt_of_le hk HB0.out.size) (fun e => by simp [Value.ownBlock] at e; omega)⟩; clear h1 h2 h3 h4))
    go_ret
    exact ⟨_, rfl, HO.out, HB.out⟩

theorem flat_len (l : List Sn) : (flatSn l).length = l.length * 2 := by
  induction l with
  | nil => rfl
  | cons x l ih => show (x.cells ++ flatSn l).length = _; rw [List.length_append, ih, cellsSn_length, List.length_cons]; omega
set_option maxHeartbeats 1000000 in
theorem iCloneSs (w : World) (a : Option Addr) (l : List Sn) (c : Nat) (h : Sns w a l) (hl : l.length ≤ 1048576) :
    Calls Tryd.prog 66 #[.slice a l.length c] w fun e w' => ∃ v, e = .returned v ∧ OwSn w' w.heap.size v l ∧ Below w.heap.size w w' := by
  have H : Hid (Sns w a l) := h
  clear h
  cases a with
  | none =>
    have hl0 : l.length = 0 := by
      rcases H.out.2 with e | ⟨b, o, hb, _⟩
      · exact e
      · cases hb
    have HE : Hid (l = []) := List.eq_nil_of_length_eq_zero hl0
    rw [hl0]
    clear hl0
    have heq := fun w n c => Go.Lib.run_eql_slice_nil (P := Tryd.prog) w 32 91 none n c 0 0 Tryd.underlying32
    go_enter Tryd.func66, Tryd.ntmps66
    go_wp2
    go_ret
    exact ⟨_, rfl, by rw [HE.out]; exact ⟨rfl, .inl ⟨rfl, rfl⟩⟩, Below.refl _ _⟩
  | some x =>
    obtain ⟨g, o, hx, hc⟩ : ∃ g o, (l.length = 0 ∨ x = ⟨g, o, none⟩) ∧ (∀ j (hj : j < l.length), SnAt w g (o + j * 2) l[j]) := by
      rcases H.out.2 with e | ⟨b, o, hb, hc⟩
      · exact ⟨0, 0, .inl e, fun j hj => by omega⟩
      · cases hb; exact ⟨b, o, .inr rfl, hc⟩
    have HX : Hid (l.length = 0 ∨ x = ⟨g, o, none⟩) := hx
    have HC : Hid (∀ j (hj : j < l.length), SnAt w g (o + j * 2) l[j]) := hc
    have HB0 : Hid (Below w.heap.size w (w.alloc (.cells #[] 91))) := (Below.refl _ _).alloc (Nat.le_refl _) _
    clear hx hc
    obtain ⟨i, hi, hzz⟩ := Option.map_eq_some_iff.1 infoASn
    simp only [Prod.mk.injEq] at hzz
    obtain ⟨hz, hsz, hb⟩ := hzz
    have HI : Hid (Tryd.prog.info? 91 = some i) := hi
    have HZ : Hid _ := hz
    have HSZ : Hid _ := hsz
    have HBY : Hid _ := hb
    clear hi hz hsz hb
    have HNW : Hid (∀ j u, (flatSn l)[j]? = some u → (w.alloc (.cells #[] 91)).cell? (x.add j) = some u) := by
      rcases HX.out with e | e
      · intro j u hu
        have : l = [] := List.eq_nil_of_length_eq_zero e
        subst this
        cases hu
      · subst e
        have hc : ∀ j (hj : j < l.length), SnAt (w.alloc (.cells #[] 91)) g (o + j * 2) l[j] := fun j hj => (HC.out j hj).below HB0.out (HC.out j hj).lt
        exact (fun j u hu => by
      have hj2 : j < (flatSn l).length := (List.getElem?_eq_some_iff.1 hu).1
      rw [flat_len] at hj2
      have hj : j / 2 < l.length := by omega
      have hg := flatSn_get l (j / 2) hj (j % 2) (by omega)
      rw [show j / 2 * 2 + j % 2 = j by omega, hu] at hg
      obtain ⟨c0, c1⟩ := hc (j / 2) hj
      rw [add_at, hg]
      rcases (show j % 2 = 0 ∨ j % 2 = 1 by omega) with e | e
      · rw [e, show o + j = o + j / 2 * 2 by omega, c0]; rfl
      · rw [e, show o + j = o + j / 2 * 2 + 1 by omega, c1]; rfl)
    have HON : Hid (∀ u ∈ (flatSn l), u.oneCell' = true) := (fun u hu => by
      obtain ⟨n, _, hn⟩ := List.mem_flatMap.1 hu
      simp [Sn.cells] at hn
      rcases hn with rfl | rfl <;> rfl)
    have HLN : Hid ((flatSn l).length = l.length * 2) := (by show _ = _; rw [flat_len])
    have heq := fun w n c => Go.Lib.run_eql_slice_nil (P := Tryd.prog) w 32 91 (some x) n c 0 0 Tryd.underlying32
    go_enter Tryd.func66, Tryd.ntmps66
    go_wp2_with (at_builtin; go_must (refine wpList_append_own_at (P := Tryd.prog) (w.alloc (.cells #[] 91)) rfl _ _ 32 rfl w.heap.size 91 i _ 2 24 Tryd.underlying32 HI.out HZ.out HSZ.out HBY.out rfl (by omega) (.slice (some ⟨w.heap.size, 0, none⟩) 0 0) 0 [] rfl (OwSn.lit w w.heap.size (Nat.le_refl _)) x l.length c (flatSn l) rfl HLN.out HNW.out HON.out (by unfold maxLen; omega) (by omega) (by simp) ?_; intro v' w' h1 h2 h3 h4; have HO : Hid (OwSn w' w.heap.size v' l) := (by rw [Nat.zero_add, List.nil_append] at h1; exact h1); have HB : Hid (Below w.heap.size w w') := HB0.out.trans ⟨h2.os, h2.tape, h2.output, (by have := h2.size; have := HB0.out.size; omega), fun k hk => h2.block k (Nat.lt_of_lt_of_le hk HB0.out.size) (fun e => by simp [Value.ownBlock] at e; omega)⟩; clear h1 h2 h3 h4))
    go_ret
    exact ⟨_, rfl, HO.out, HB.out⟩

end Go.Proofs.YtldeakifeifgdaaDoor.Cl0
