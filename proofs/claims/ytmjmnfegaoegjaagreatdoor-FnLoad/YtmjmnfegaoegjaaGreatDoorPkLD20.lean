/- Small texts of mine, one behind the other. -/
import Derived.Test.YtmjmnfegaoegjaaGreatDoorRows
import Derived.ArgAppend
import Derived.Laws.IdiomCopy
import Derived.Deep.RegionHeld3
import Derived.Deep.CutBlock
import Derived.Deep.RegionWith
import Derived.Test.YtmjmnfegaoegjaaGreatDoorPkLD4
import Derived.Test.YtmjmnfegaoegjaaGreatDoorPkLD8
import Derived.Test.YtmjmnfegaoegjaaGreatDoorPkLD14
import Derived.Test.YtmjmnfegaoegjaaGreatDoorPkLD2
import Derived.Test.YtmjmnfegaoegjaaGreatDoorPkLD1
/- A list of Seens of one's own, at any place of its block: one less at the front, one more at the end. -/
namespace Go.Proofs.YtmjmnfegaoegjaaGreatDoor.Mw9
open Go.RowKit
open Nd0 Qc0 Qc2
set_option linter.unusedVariables false
structure Lie (w : World) (g o cap : Nat) (l : List Sn) : Prop where
  lt : g < w.heap.size
  le : l.length ≤ cap
  max : cap ≤ maxLen
  cell : ∀ j, j < l.length * 2 → w.cell? ⟨g, o + j, none⟩ = (flatSn l)[j]?
  has : ∀ j, j < cap * 2 → (w.cell? ⟨g, o + j, none⟩).isSome = true
  free : ∀ j, j < cap * 2 → w.frozen? ⟨g, o + j, none⟩ = false
def OwSo (w : World) (B : Nat) (v : Value) (l : List Sn) : Prop :=
  (v = .slice none 0 0 ∧ l = []) ∨ ∃ g o cap, v = .slice (some ⟨g, o, none⟩) l.length cap ∧ B ≤ g ∧ Lie w g o cap l
theorem OwSo.of {w : World} {B : Nat} {v : Value} {l : List Sn} (h : OwSn w B v l) : OwSo w B v l := by
  obtain ⟨h1, h2⟩ := h
  rcases h2 with ⟨rfl, h0⟩ | ⟨g, cap, cur, rfl, hb, hg, hn, hm, hs, ht⟩
  · exact .inl ⟨rfl, List.eq_nil_of_length_eq_zero h0⟩
  · have hcell : ∀ j, w.cell? ⟨g, j, none⟩ = cur[j]? := fun j => cell_of_row w g j cur _ _ hg
    refine .inr ⟨g, 0, cap, rfl, hb, (Array.getElem?_eq_some_iff.1 hg).1, hn, hm, fun j hj => ?_, fun j hj => ?_, fun j hj => ?_⟩
    · rw [Nat.zero_add, hcell, ← ht, List.getElem?_take_of_lt hj]
      simp
    · rw [Nat.zero_add, hcell, Array.getElem?_eq_getElem (by omega)]
      rfl
    · rw [Nat.zero_add]
      simp [World.frozen?, hg]
theorem OwSo.form {w : World} {B : Nat} {v : Value} {l : List Sn} (h : OwSo w B v l) : ∃ a c, v = .slice a l.length c ∧ WSns w B a l ∧ l.length ≤ c := by
  rcases h with ⟨rfl, rfl⟩ | ⟨g, o, cap, rfl, hb, H⟩
  · exact ⟨none, 0, rfl, ⟨Nat.zero_le _, .inl rfl⟩, Nat.zero_le _⟩
  · have h1 := H.le
    have h2 := H.max
    refine ⟨_, _, rfl, ⟨by omega, .inr ⟨g, o, rfl, hb, fun i hi => ?_, fun j hj => ?_⟩⟩, H.le⟩
    · have hf := flatSn_get l i hi
      exact ⟨by rw [H.cell _ (by omega)]; exact hf 0 (by omega), by rw [Nat.add_assoc, H.cell _ (by omega)]; exact hf 1 (by omega)⟩
    · exact H.free j (by omega)
theorem OwSo.lt {w : World} {B : Nat} {v : Value} {l : List Sn} (h : OwSo w B v l) : ∀ g o n c, v = .slice (some ⟨g, o, none⟩) n c → B ≤ g ∧ g < w.heap.size := by
  intro g o n c e
  rcases h with ⟨rfl, rfl⟩ | ⟨g', o', cap, rfl, hb, H⟩
  · cases e
  · cases e
    exact ⟨hb, H.lt⟩
theorem Lie.kept {w w' : World} {g o cap : Nat} {l : List Sn} (h : Lie w g o cap l) {S : Nat → Prop} (k : Kept S w w') (hs : ¬ S g) : Lie w' g o cap l :=
  ⟨Nat.lt_of_lt_of_le h.lt k.size, h.le, h.max, fun j hj => (k.cell (p := ⟨g, o + j, none⟩) h.lt hs).trans (h.cell j hj), fun j hj => by rw [k.cell (p := ⟨g, o + j, none⟩) h.lt hs]; exact h.has j hj, fun j hj => (k.frozen (p := ⟨g, o + j, none⟩) h.lt hs).trans (h.free j hj)⟩
theorem OwSo.kept {w w' : World} {B : Nat} {v : Value} {l : List Sn} (h : OwSo w B v l) {S : Nat → Prop} (k : Kept S w w') (hs : ∀ g o n c, v = .slice (some ⟨g, o, none⟩) n c → ¬ S g) : OwSo w' B v l := by
  rcases h with h | ⟨g, o, cap, rfl, hb, H⟩
  · exact .inl h
  · exact .inr ⟨g, o, cap, rfl, hb, H.kept k (hs g o _ _ rfl)⟩
theorem kept_two (w : World) (g o : Nat) (y : Sn) : Kept (fun k => k = g) w (w.setCells g o y.cells) :=
  ((Kept.refl (fun k => k = g) w).setCell (p := ⟨g, o, none⟩) rfl (.string y.k)).setCell (p := ⟨g, o + 1, none⟩) rfl (.int .i64 y.r)
theorem flat_len (l : List Sn) : (flatSn l).length = l.length * 2 := by
  induction l with
  | nil => rfl
  | cons n l ih => show (n.cells ++ flatSn l).length = _; rw [List.length_append, ih, cellsSn_length, List.length_cons]; omega
theorem Lie.room {w : World} {g o cap : Nat} {l : List Sn} (h : Lie w g o cap l) (y : Sn) (hr : l.length + 1 ≤ cap) : Lie (w.setCells g (o + l.length * 2) y.cells) g o cap (l ++ [y]) := by
  have hcl : y.cells.length = 2 := rfl
  have hfl := flat_len l
  have hin : ∀ j, j < y.cells.length → (w.cell? ⟨g, o + l.length * 2 + j, none⟩).isSome = true := fun j hj => by
    rw [Nat.add_assoc]; exact h.has _ (by omega)
  have hlo : ∀ j, j < l.length * 2 ∨ l.length * 2 + 2 ≤ j → (w.setCells g (o + l.length * 2) y.cells).cell? ⟨g, o + j, none⟩ = w.cell? ⟨g, o + j, none⟩ := fun j hj =>
    World.cell?_setCells_out g _ _ _ _ (fun _ _ => by show o + j < o + l.length * 2 ∨ o + l.length * 2 + y.cells.length ≤ o + j; omega)
  have hmid : ∀ j (hj : j < y.cells.length), (w.setCells g (o + l.length * 2) y.cells).cell? ⟨g, o + (l.length * 2 + j), none⟩ = some y.cells[j] := fun j hj => by
    rw [← Nat.add_assoc]; exact World.cell?_setCells_in g _ _ _ hin j hj
  refine ⟨Nat.lt_of_lt_of_le h.lt (kept_two w g _ y).size, by rw [List.length_append]; exact hr, h.max, fun j hj => ?_, fun j hj => ?_, fun j hj => ?_⟩
  · rw [List.length_append, List.length_singleton] at hj
    rw [flatSn_snoc]
    by_cases hc : j < l.length * 2
    · rw [hlo j (.inl hc), h.cell j hc, List.getElem?_append_left (by omega)]
    · obtain ⟨k, rfl⟩ : ∃ k, j = l.length * 2 + k := ⟨j - l.length * 2, by omega⟩
      rw [hmid k (by omega), List.getElem?_append_right (by omega), hfl, Nat.add_sub_cancel_left, List.getElem?_eq_getElem]
  · by_cases hc : j < l.length * 2 ∨ l.length * 2 + 2 ≤ j
    · rw [hlo j hc]; exact h.has j hj
    · obtain ⟨k, rfl⟩ : ∃ k, j = l.length * 2 + k := ⟨j - l.length * 2, by omega⟩
      rw [hmid k (by omega)]; rfl
  · rw [World.frozen?_setCells]; exact h.free j hj
theorem run_so (W : World) (ty : TypeId) (B : Nat) (ao : Option Addr) (c : Nat) (l : List Sn) (y : Sn) (G : Nat) (hy0 : W.cell? ⟨G, 0, none⟩ = some (.string y.k)) (hy1 : W.cell? ⟨G, 1, none⟩ = some (.int .i64 y.r))
    (hown : OwSo W B (.slice ao l.length c) l) (hB : B ≤ W.heap.size) (hlen : l.length ≤ 1048576) :
    ∃ g o cap w', (Builtin.append_ #[28, 28] ty #[.slice ao l.length c, .slice (some ⟨G, 0, none⟩) 1 1]).run Tryz.prog W = .ok (.slice (some ⟨g, o, none⟩) (l.length + 1) cap) w' ∧
      OwSo w' B (.slice (some ⟨g, o, none⟩) (l.length + 1) cap) (l ++ [y]) ∧ Kept (At ao) W w' ∧ (At ao g ∨ W.heap.size ≤ g) := by
  obtain ⟨i, hi, hzz⟩ := Option.map_eq_some_iff.1 infoASn
  simp only [Prod.mk.injEq] at hzz
  obtain ⟨hz, hsz, hb⟩ := hzz
  have hnews : ∀ j u, y.cells[j]? = some u → W.cell? ((⟨G, 0, none⟩ : Addr).add j) = some u := by
    intro j u hu
    have hj : j < 2 := (List.getElem?_eq_some_iff.1 hu).1
    have hadd : (⟨G, 0, none⟩ : Addr).add j = ⟨G, j, none⟩ := by unfold Addr.add; split <;> simp_all
    rw [hadd]
    match j, hj with
    | 0, _ => rw [hy0]; exact hu
    | 1, _ => rw [hy1]; exact hu
  have h1 : ∀ u ∈ y.cells, u.oneCell' = true := by
    intro u hu
    simp [Sn.cells] at hu
    rcases hu with rfl | rfl <;> rfl
  have hll : (l ++ [y]).length = l.length + 1 := by rw [List.length_append]; rfl
  have end_own : ∀ v' w', w'.ownsRow W.heap.size 40 2 v' (l.length + 1) (flatSn l ++ y.cells) → W.grownBy w' none →
      ∃ g o cap, v' = .slice (some ⟨g, o, none⟩) (l.length + 1) cap ∧ OwSo w' B (.slice (some ⟨g, o, none⟩) (l.length + 1) cap) (l ++ [y]) ∧ Kept (At ao) W w' ∧ (At ao g ∨ W.heap.size ≤ g) := by
    intro v' w' r1 r2
    have r1' : OwSn w' W.heap.size v' (l ++ [y]) := by
      unfold OwSn
      rw [flatSn_snoc, hll]
      exact r1
    rcases OwSo.of r1' with ⟨_, e⟩ | ⟨g, o, cap, rfl, hg, H⟩
    · exact absurd e (by simp)
    · rw [hll]
      exact ⟨g, o, cap, rfl, .inr ⟨g, o, cap, by rw [hll], Nat.le_trans hB hg, H⟩, ⟨r2.os, r2.tape, r2.output, r2.size, fun k hk _ => r2.block k hk (by simp)⟩, .inr hg⟩
  rcases hown with ⟨e1, rfl⟩ | ⟨g, o, cap, e1, hBg, H⟩
  · cases e1
    obtain ⟨v', w', hrun, r1, r2, _⟩ := run_append_own (P := Tryz.prog) W W.heap.size 28 ty 40 i _ 2 24 Tryz.underlying28 hi hz hsz hb rfl (by omega) (.slice none 0 0) 0 [] (World.ownsRow_nil W _ 40 2) ⟨G, 0, none⟩ 1 1 y.cells rfl hnews h1 (by unfold maxLen; omega) (by omega) (Nat.le_refl _)
    obtain ⟨g, o, cap, rfl, q1, q2, q3⟩ := end_own v' w' r1 r2
    exact ⟨g, o, cap, w', hrun, q1, q2, q3⟩
  · cases e1
    by_cases hr : l.length + 1 ≤ c
    · have hrun := run_append_room_cells (P := Tryz.prog) W 28 ty 40 i Tryz.underlying28 hi g o l.length c ⟨G, 0, none⟩ 1 1 y.cells (by rw [hsz]; rfl) hnews h1 hr
        (fun j hj => by have hj2 : j < 2 := hj; rw [hsz, Nat.add_assoc]; exact H.has _ (by omega)) (fun j hj => by have hj2 : j < 2 := hj; rw [hsz, Nat.add_assoc]; exact H.free _ (by omega))
      rw [hsz] at hrun
      exact ⟨g, o, c, _, hrun, .inr ⟨g, o, c, by rw [hll], hBg, H.room y hr⟩, (kept_two W g _ y).mono (fun k hk => ⟨_, rfl, hk⟩), .inl ⟨_, rfl, rfl⟩⟩
    · obtain ⟨v', w', hrun, r1, r2⟩ := run_append_arg_grows (P := Tryz.prog) W 28 ty 40 i _ 2 24 Tryz.underlying28 hi hz hsz hb rfl (by omega) ⟨g, o, none⟩ l.length c (flatSn l) (flat_len l)
        (fun j u hu => by rw [Addr.add_lit, H.cell j (by have := (List.getElem?_eq_some_iff.1 hu).1; rw [flat_len] at this; exact this)]; exact hu) ⟨G, 0, none⟩ 1 1 y.cells rfl hnews (by omega) (by unfold maxLen; omega) (by omega)
      obtain ⟨g', o', cap', rfl, q1, q2, q3⟩ := end_own v' w' r1 r2
      exact ⟨g', o', cap', w', hrun, q1, q2, q3⟩
theorem step_so {ops : Array Oper} {o : Oper} {a : Act} {K : Act → World → Prop} {Q : Exit → Act → World → Prop} {E : Prop} (W : World) (hgd : o.guard = none) (s x : Operand)
    (ho : o.op = .call { callee := .builtin .append, args := #[s, x], argTypes := #[28, 28] })
    (B : Nat) (ao : Option Addr) (c : Nat) (l : List Sn) (y : Sn) (hs : a.eval s = .slice ao l.length c) (G : Nat) (hx : a.eval x = .slice (some ⟨G, 0, none⟩) 1 1)
    (hy0 : W.cell? ⟨G, 0, none⟩ = some (.string y.k)) (hy1 : W.cell? ⟨G, 1, none⟩ = some (.int .i64 y.r))
    (hown : OwSo W B (.slice ao l.length c) l) (hB : B ≤ W.heap.size) (hlen : l.length ≤ 1048576)
    (h : ∀ g q cap w', OwSo w' B (.slice (some ⟨g, q, none⟩) (l.length + 1) cap) (l ++ [y]) → Kept (At ao) W w' → (At ao g ∨ W.heap.size ≤ g) → K (a.put o.dst (.slice (some ⟨g, q, none⟩) (l.length + 1) cap)) w') :
    if Region.wanted o (yielded ops a.tmps) = true then Oper.wp Tryz.prog o a W K Q else E := by
  have hw : Region.wanted o (yielded ops a.tmps) = true := by simp [Region.wanted, hgd]
  rw [if_pos hw]
  obtain ⟨g, q, cap, w', hrun, q1, q2, q3⟩ := run_so W o.type B ao c l y G hy0 hy1 hown hB hlen
  unfold Oper.wp
  simp [execOp, ho, resolve, invoke, builtin, hs, hx, hrun, Result.andThen]
  exact h g q cap w' q1 q2 q3
end Go.Proofs.YtmjmnfegaoegjaaGreatDoor.Mw9

/- Values: whether they are bits (as in Mi2, without the machine). -/
namespace Go.Proofs.YtmjmnfegaoegjaaGreatDoor.Vo0
open Go.RowKit
open Ta0 Ta1 Ta2 Tc2 Te1
open Nd0 (Kept Ints set_other set_same lt_of_cell)
set_option linter.unusedVariables false

def allB (l : List Int) : Bool := l.all bitB
theorem allB_no {l : List Int} {k : Nat} (h : k < l.length) (hb : bitB l[k] = false) : allB l = false := by
  unfold allB
  rw [List.all_eq_false]
  exact ⟨_, List.getElem_mem h, by rw [hb]; simp⟩
set_option maxHeartbeats 2000000 in
theorem iPlaceAny (a : Option Addr) (l : List Int) (c : Nat) (w : World) (hI : Ints w a l) :
    Calls Tryz.prog 89 #[.slice a l.length c] w fun e w' => (∃ p : Int, e = .returned (.tuple #[.int .i64 p, .bool (allB l)])) ∧ w' = w := by
  have HI1 : Hid (Ints w a l) := hI
  have hm := hI.1
  unfold maxLen at hm
  clear hI
  go_enter Tryz.func89, Tryz.ntmps89
  go_wp2
  go_loop [4, 9] (fun p i => ∃ (k : Nat) (y : Int), k ≤ l.length ∧ i = .int .i64 k ∧ p = .int .i64 y ∧ ∀ j (hj : j < l.length), j < k → bitB l[j] = true) (fun _ i => l.length - (intOf i).toNat)
  case atStart => exact ⟨0, 0, Nat.zero_le _, rfl, rfl, fun j _ hj => by omega⟩
  case round =>
    obtain ⟨k, y, hk, rfl, rfl, hbt⟩ := hrel
    have HBT : Hid (∀ j (hj : j < l.length), j < k → bitB l[j] = true) := hbt
    clear hbt
    by_cases hlt : k < l.length
    · have hkz : (k : Int) < (l.length : Int) := by omega
      rcases HI1.out.2 with h0 | ⟨xb, xo, rfl, hc⟩
      · omega
      have p0 := hc k hlt
      clear hc
      have HN : Hid (bitB l[k] = false → allB l = false) := allB_no hlt
      have HY : Hid (bitB l[k] = true → ∀ j (hj : j < l.length), j < k + 1 → bitB l[j] = true) := fun h j hj h2 => by
        by_cases e : j = k
        · subst e; exact h
        · exact HBT.out j hj (by omega)
      generalize l[k] = x at *
      have HIC : Hid (∀ W, Calls Tryz.prog 88 #[.int .i64 x] W fun e w' => e = .returned (.bool (bitB x)) ∧ w' = W) := fun W => iBitOk x W
      cases hB : bitB x
      · have HBd : Hid (allB l = false) := HN.out hB
        rw [hB] at HIC
        clear hB
        go_wp2_with (go_at_call 88; refine (HIC.out _).mono ?_; rintro e w' ⟨rfl, rfl⟩)
        go_ret2
        exact ⟨⟨0, by rw [HBd.out]; rfl⟩, rfl⟩
      · have HT := HY.out hB
        have HT2 : Hid (∀ j (hj : j < l.length), j < k + 1 → bitB l[j] = true) := HT
        rw [hB] at HIC
        clear hB HT
        go_wp2_with (go_at_call 88; refine (HIC.out _).mono ?_; rintro e w' ⟨rfl, rfl⟩)
        go_round
        case rel => exact ⟨k + 1, _, by omega, by go_num, rfl, HT2.out⟩
        case measure => simp [intOf]; omega
    · have HT : Hid (allB l = true) := by
        show _ = _
        unfold allB
        rw [List.all_eq_true]
        intro x hx
        obtain ⟨t, ht, rfl⟩ := List.getElem_of_mem hx
        exact HBT.out t ht (by omega)
      go_wp2
      go_ret2
      exact ⟨⟨y, by rw [HT.out]; rfl⟩, rfl⟩

def valB (l : List Int) (n : Int) : Bool := allB l && decide ((l.length : Int) ≤ n)
set_option maxHeartbeats 2000000 in
theorem iVals (a : Option Addr) (l : List Int) (c : Nat) (n : Int) (w : World) (hI : Ints w a l) :
    Calls Tryz.prog 44 #[.slice a l.length c, .int .i64 n] w fun e w' => e = .returned (.bool (valB l n)) ∧ w' = w := by
  have HI1 : Hid (Ints w a l) := hI
  clear hI
  cases hA : allB l
  · have HF : Hid (valB l n = false) := by show _ = _; unfold valB; rw [hA]; rfl
    go_enter Tryz.func44, Tryz.ntmps44
    go_wp2_with fail
    refine (iPlaceAny a l c _ HI1.out).mono ?_
    rw [hA]
    rintro e w2 ⟨⟨p, rfl⟩, rfl⟩
    clear hA
    go_wp2
    go_ret
    exact ⟨ret_bool HF.out.symm, rfl⟩
  · by_cases hn : (l.length : Int) ≤ n
    · have HF : Hid (valB l n = true) := by show _ = _; unfold valB; rw [hA, decide_eq_true hn]; rfl
      have hnb : decide ((l.length : Int) ≤ n) = true := decide_eq_true hn
      go_enter Tryz.func44, Tryz.ntmps44
      go_wp2_with fail
      refine (iPlaceAny a l c _ HI1.out).mono ?_
      rw [hA]
      rintro e w2 ⟨⟨p, rfl⟩, rfl⟩
      clear hA
      go_wp2
      go_ret
      exact ⟨ret_bool HF.out.symm, rfl⟩
    · have HF : Hid (valB l n = false) := by show _ = _; unfold valB; rw [decide_eq_false hn]; simp
      have hnb : decide ((l.length : Int) ≤ n) = false := decide_eq_false hn
      go_enter Tryz.func44, Tryz.ntmps44
      go_wp2_with fail
      refine (iPlaceAny a l c _ HI1.out).mono ?_
      rw [hA]
      rintro e w2 ⟨⟨p, rfl⟩, rfl⟩
      clear hA
      go_wp2
      go_ret
      exact ⟨ret_bool HF.out.symm, rfl⟩

end Go.Proofs.YtmjmnfegaoegjaaGreatDoor.Vo0

/- A pick by value; the laws' small functions over one pick. -/
namespace Go.Proofs.YtmjmnfegaoegjaaGreatDoor.Wp0
open Go.RowKit
open Nd0 (Kept Ints WInts IntsIn lt_of_cell)

open Tc5 (Lay)
set_option linter.unusedVariables false

end Go.Proofs.YtmjmnfegaoegjaaGreatDoor.Wp0

/- The text of a pick as plain data; the program's valsText. -/
namespace Go.Proofs.YtmjmnfegaoegjaaGreatDoor.Wp1
open Go.RowKit
open Ta2 (bitB)
open Vo0 (allB valB iVals)
open Ap9
open Nd0 (Kept Ints lt_of_cell)
open Ss0 (bs bs_size bs_app ret_str)
set_option linter.unusedVariables false

def dgt (b : Int) : UInt8 := if b = 1 then 49 else 48
def vt (l : List Int) : List UInt8 := if l = [] then [45] else l.map dgt
theorem bit_two {b : Int} (h : bitB b = true) : b = 0 ∨ b = 1 := by unfold bitB at h; simpa using h
theorem dgt_bit {b : Int} (h : bitB b = true) : ((dgt b).toNat : Int) = 48 + b := by
  rcases bit_two h with rfl | rfl <;> rfl
theorem vt_len (l : List Int) : 1 ≤ (vt l).length ∧ (vt l).length ≤ l.length + 1 := by
  unfold vt
  split
  · exact ⟨Nat.le_refl _, by simp⟩
  · rename_i h
    rw [List.length_map]
    have := List.length_pos_iff.2 h
    omega

set_option maxRecDepth 100000 in
set_option maxHeartbeats 2000000 in
theorem iValsText (w : World) (a : Option Addr) (l : List Int) (c : Nat) (h : Ints w a l) (hl : l.length ≤ 12) (hb : ∀ b ∈ l, bitB b = true) :
    Calls Tryz.prog 146 #[.slice a l.length c] w fun e w' => e = .returned (.string (bs (vt l))) ∧ Below w.heap.size w w' := by
  have H : Hid (Ints w a l) := h
  have HBT : Hid (∀ b ∈ l, bitB b = true) := hb
  clear h hb
  by_cases h0 : l = []
  · subst h0
    go_enter Tryz.func146, Tryz.ntmps146
    go_wp2
    go_ret
    exact ⟨rfl, Below.refl _ _⟩
  have hlp := List.length_pos_iff.2 h0
  have HV : Hid (vt l = l.map dgt) := by show _ = _; unfold vt; exact if_neg h0
  obtain ⟨n, hn⟩ : ∃ n, n = l.length := ⟨_, rfl⟩
  rw [← hn]
  have hn0 : ((n : Int) == 0) = false := beq_eq_false_iff_ne.2 (by omega)
  have hn1 : ¬ n = 0 := by omega
  have hn2 : n ≤ 12 := by omega
  have HN : Hid (n = l.length) := hn
  obtain ⟨TK, hTK⟩ : ∃ TK : Nat → List UInt8, TK = fun k => (l.take k).map dgt := ⟨_, rfl⟩
  have HTK : Hid (TK = fun k => (l.take k).map dgt) := hTK
  have HTL : Hid (∀ k, k ≤ n → (TK k).length = k) := by intro k hk; rw [hTK]; simp; omega
  have HT0 : Hid (TK 0 = []) := by show _ = _; rw [hTK]; rfl
  clear hn h0 hl hlp hTK
  go_enter Tryz.func146, Tryz.ntmps146
  go_wp2
  go_loopw [3, 12] (fun v i wr => ∃ k : Nat, k ≤ n ∧ i = .int .i64 k ∧ Owu wr w.heap.size v (TK k) ∧ Below w.heap.size w wr) (fun _ i _ => n - (intOf i).toNat)
  case atStart => exact ⟨0, Nat.zero_le _, rfl, by rw [HT0.out]; exact Owu.lit _ _ (Nat.le_refl _), (Below.refl _ _).alloc (Nat.le_refl _) _⟩
  case round =>
    obtain ⟨k, hk, rfl, ho, hbr⟩ := hrel
    have HO : Hid (Owu wr w.heap.size u3 (TK k)) := ho
    have HB : Hid (Below w.heap.size w wr) := hbr
    clear ho hbr
    by_cases hlt : k < n
    · have hlz : (k : Int) < (n : Int) := by omega
      have hkl : k < l.length := by have := HN.out; omega
      obtain ⟨b, o, ha, hc⟩ : ∃ b o, a = some ⟨b, o, none⟩ ∧ wr.cell? ⟨b, o + k, none⟩ = some (.int .i64 l[k]) := by
        rcases (H.out.below HB.out).2 with e | ⟨b, o, e, hc⟩
        · omega
        · exact ⟨b, o, e, hc k hkl⟩
      subst ha
      have hbl := lt_of_cell hc
      have HBK : Hid (bitB l[k] = true) := HBT.out _ (List.getElem_mem hkl)
      have HNX : Hid (TK (k + 1) = TK k ++ [dgt l[k]]) := by
        show _ = _
        rw [HTK.out]
        show (l.take (k + 1)).map dgt = (l.take k).map dgt ++ [dgt l[k]]
        rw [List.take_succ_eq_append_getElem hkl, List.map_append]
        rfl
      generalize l[k] = x at *
      have hx : 0 ≤ x ∧ x ≤ 1 := by rcases bit_two HBK.out with e | e <;> omega
      have HD : Hid (((dgt x).toNat : Int) = 48 + x) := dgt_bit HBK.out
      have hw8 : IntKind.u8.wrap x = x := by rcases bit_two HBK.out with e | e <;> subst e <;> rfl
      have hw9 : IntKind.u8.wrap (48 + x) = 48 + x := by rcases bit_two HBK.out with e | e <;> subst e <;> rfl
      go_wp2_with (at_builtin; go_must (refine app_byte _ rfl _ _ rfl w.heap.size u3 (TK k) (dgt x) _ (by exact HD.out.symm) rfl rfl HO.out HB.out.size (by rw [HTL.out k (by omega)]; omega) ?_; intro g5 cp5 w5 ho5 hk5 hg5; have HO5 : Hid (Owu w5 w.heap.size (.slice (some ⟨g5, 0, none⟩) ((TK k).length + 1) cp5) (TK k ++ [dgt x])) := ho5; have HK5 : Hid (Kept (fun i => u3.ownBlock = some i) wr w5) := hk5; clear ho5 hk5 hg5))
      go_roundw
      case rel => exact ⟨k + 1, by omega, by go_num, by rw [HNX.out]; exact HO5.out, HB.out.trans (HK5.out.below (fun i hi => (HO.out.lt i hi).1) HB.out.size)⟩
      case measure => simp [intOf]; omega
    · have hlz : ¬ (k : Int) < (n : Int) := by omega
      have e : k = n := by omega
      subst e
      have hT : TK k = vt l := by
        rw [HV.out, HTK.out, HN.out]
        show (l.take l.length).map dgt = _
        rw [List.take_length]
      have ho := HO.out
      rw [hT] at ho
      have hcv := ho.text (vt_len l).1
      clear hT ho
      obtain ⟨R, hR⟩ : ∃ R, R = bs (vt l) := ⟨_, rfl⟩
      rw [← hR] at hcv
      have HR : Hid (R = bs (vt l)) := hR
      clear hR
      go_wp2
      go_ret
      exact ⟨ret_str HR.out, HB.out⟩

end Go.Proofs.YtmjmnfegaoegjaaGreatDoor.Wp1

/- Reading a pick, as plain data. -/
namespace Go.Proofs.YtmjmnfegaoegjaaGreatDoor.Wp3
open Go.RowKit
open Ta2 (bitB)
open Vo0 (allB valB)
open Ss0 (bs bs_size bs_app)
open Wp1
set_option linter.unusedVariables false

def un (c : UInt8) : Int := (c.toNat : Int) - 48
theorem un_dgt {b : Int} (h : bitB b = true) : un (dgt b) = b := by
  rcases bit_two h with rfl | rfl <;> rfl
def rvL (x : List UInt8) : List Int := if x = [45] then [] else x.map un
def rvB (x : List UInt8) : Bool := if x = [45] then true else decide (x ≠ []) && valB (x.map un) 12
end Go.Proofs.YtmjmnfegaoegjaaGreatDoor.Wp3
